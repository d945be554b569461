import Derived.Test.YtnboipekkahmnaaGreatDoorR19
set_option maxHeartbeats 8000000
set_option maxRecDepth 100000
namespace Go.Proofs.YtnboipekkahmnaaGreatDoor
open Obj renaming cells→o_
open World renaming cell?_of_block→b_,cell?_setCell_other→t_,cell?_setCell_same→u_,ownsRow.lt→l_
open Go.RowKit.Below renaming heap_setCell→h_,refl→r_
open Nat renaming le_refl→n_
open Tryz renaming prog→p_
open Value renaming string→v_,int→i_
open IntKind renaming i64→k_
open Go.Joins renaming below_alloc1→a_
section
open Go.RowKit Go.Joins
section
variable {p:PSt} {x:ActL}
theorem zAA (k:(x.kind.toList==kQ)=true) (hv:p.e.ses (sesX x)=none):plyP p x=⟨dX p.e (sesX x),setP p.cur (sesX x) noD,p.out⟩:=by
 unfold plyP isK;dsimp only;rw[if_pos k,hv]
theorem zAq {v:VwL} (k:(x.kind.toList==kQ)=true) (hv:p.e.ses (sesX x)=some v):plyP p x=p:=by
 unfold plyP isK;dsimp only;rw[if_pos k,hv]
theorem zR (k0:(x.kind.toList==kQ)=false) (k:(x.kind.toList==kZ)=true) (hv:p.e.ses (sesX x)=none):plyP p x=p:=by
 unfold plyP isK;dsimp only;rw[if_neg (by rw[k0];decide),if_pos k,hv]
theorem zCe {v:VwL} (k0:(x.kind.toList==kQ)=false) (k:(x.kind.toList==kZ)=true) (hv:p.e.ses (sesX x)=some v) (h0:(comE p.e (sesX x)).1.2=0):
  plyP p x=⟨(comE p.e (sesX x)).2,setP p.cur (sesX x) { p.cur (sesX x) with at_:=(comE p.e (sesX x)).1.1,reads:=v.chs.isEmpty },p.out++[{ p.cur (sesX x) with at_:=(comE p.e (sesX x)).1.1,reads:=v.chs.isEmpty }]⟩:=by
 unfold plyP isK;dsimp only;rw[if_neg (by rw[k0];decide),if_pos k,hv];dsimp only;rw[if_pos h0]
theorem zAG {v:VwL} (k0:(x.kind.toList==kQ)=false) (k:(x.kind.toList==kZ)=true) (hv:p.e.ses (sesX x)=some v) (h0:(comE p.e (sesX x)).1.2≠0):plyP p x=⟨(comE p.e (sesX x)).2,p.cur,p.out⟩:=by
 unfold plyP isK;dsimp only;rw[if_neg (by rw[k0];decide),if_pos k,hv];dsimp only;rw[if_neg h0]
theorem zHL (k0:(x.kind.toList==kQ)=false) (k1:(x.kind.toList==kZ)=false) (k:(x.kind.toList==rO)=true):plyP p x=⟨(dS p.e (sesX x)).2,p.cur,p.out⟩:=by
 unfold plyP isK;dsimp only;rw[if_neg (by rw[k0];decide),if_neg (by rw[k1];decide),if_pos k]
theorem zGd (k0:(x.kind.toList==kQ)=false) (k1:(x.kind.toList==kZ)=false) (k2:(x.kind.toList==rO)=false) (k:(x.kind.toList==rP)=true):plyP p x=⟨vacE p.e,p.cur,p.out⟩:=by
 unfold plyP isK;dsimp only;rw[if_neg (by rw[k0];decide),if_neg (by rw[k1];decide),if_neg (by rw[k2];decide),if_pos k]
theorem zKq (k0:(x.kind.toList==kQ)=false) (k1:(x.kind.toList==kZ)=false) (k2:(x.kind.toList==rO)=false) (k3:(x.kind.toList==rP)=false) (k:(x.kind.toList==zCp)=true):plyP p x=⟨chkE p.e,p.cur,p.out⟩:=by
 unfold plyP isK;dsimp only;rw[if_neg (by rw[k0];decide),if_neg (by rw[k1];decide),if_neg (by rw[k2];decide),if_neg (by rw[k3];decide),if_pos k]
theorem zB7 (k0:(x.kind.toList==kQ)=false) (k1:(x.kind.toList==kZ)=false) (k2:(x.kind.toList==rO)=false) (k3:(x.kind.toList==rP)=false) (k4:(x.kind.toList==zCp)=false) (hv:p.e.ses (sesX x)=none):plyP p x=p:=by
 unfold plyP isK;dsimp only;rw[if_neg (by rw[k0];decide),if_neg (by rw[k1];decide),if_neg (by rw[k2];decide),if_neg (by rw[k3];decide),if_neg (by rw[k4];decide),hv]
theorem zB8 {v:VwL} (k0:(x.kind.toList==kQ)=false) (k1:(x.kind.toList==kZ)=false) (k2:(x.kind.toList==rO)=false) (k3:(x.kind.toList==rP)=false) (k4:(x.kind.toList==zCp)=false) (hv:p.e.ses (sesX x)=some v):
  plyP p x=⟨actE p.e (sesX x) v x,setP p.cur (sesX x) { p.cur (sesX x) with acts:=(p.cur (sesX x)).acts++[x],said:=(p.cur (sesX x)).said++[(fY v.P v.chs v.rds x).1] },p.out⟩:=by
 unfold plyP isK;dsimp only;rw[if_neg (by rw[k0];decide),if_neg (by rw[k1];decide),if_neg (by rw[k2];decide),if_neg (by rw[k3];decide),if_neg (by rw[k4];decide),hv]
end
def vK (p:PSt) (n:Nat):Prop:=p.out.length<=n/\∀ i,(p.cur i).acts.length<=n/\(p.cur i).said.length<=n
theorem wW {p:PSt} {n i:Nat} {d:jR} (h:∀ i,(p.cur i).acts.length<=n/\(p.cur i).said.length<=n) (hd:d.acts.length<=n/\d.said.length<=n):∀ j,(setP p.cur i d j).acts.length<=n/\(setP p.cur i d j).said.length<=n:=fun j=>by
 unfold setP;split
 ·exact hd
 ·exact h j
theorem zKl {p:PSt} {n:Nat} (h:vK p n) (x:ActL):vK (plyP p x) (n+1):=by
 have h1:∀ i,(p.cur i).acts.length<=n+1/\(p.cur i).said.length<=n+1:=fun i=>⟨Nat.le_succ_of_le (h.2 i).1,Nat.le_succ_of_le (h.2 i).2⟩;have h0:p.out.length<=n+1:=Nat.le_succ_of_le h.1;unfold plyP;dsimp only;split
 ·split
  ·exact⟨h0,wW h1 ⟨Nat.zero_le _,Nat.zero_le _⟩⟩
  ·exact⟨h0,h1⟩
 ·split
  ·split
   ·exact⟨h0,h1⟩
   ·split
    ·refine⟨?_,wW h1 (h1 _)⟩;show(p.out++[_]).length<=n+1;rw[List.length_append];have:=h.1;simp;omega
    ·exact⟨h0,h1⟩
  ·split
   ·exact⟨h0,h1⟩
   ·split
    ·exact⟨h0,h1⟩
    ·split
     ·exact⟨h0,h1⟩
     ·split
      ·exact⟨h0,h1⟩
      ·refine⟨h0,wW h1 ⟨?_,?_⟩⟩
       ·show((p.cur (sesX x)).acts++[x]).length<=n+1;rw[List.length_append];have:=(h.2 (sesX x)).1;simp;omega
       ·show((p.cur (sesX x)).said++[_]).length<=n+1;rw[List.length_append];have:=(h.2 (sesX x)).2;simp;omega
theorem zI2 (s:ESt):∀ l:List ActL,vK (hO s l) l.length:=by
 have aux:∀ (l:List ActL) (p:PSt) (n:Nat),vK p n->vK (l.foldl plyP p) (n+l.length):=by
  intro l
  induction l with
  | nil=>intro p n h;exact h
  | cons x l ih=>
   intro p n h;have:=ih (plyP p x) (n+1) (zKl h x);rw[List.length_cons,show n+(l.length+1)=n+1+l.length by omega];exact this
 intro l;have:=aux l ⟨s,fun _=>noD,[]⟩ 0 ⟨n_ _,fun _=>⟨n_ _,n_ _⟩⟩;rw[Nat.zero_add] at this;exact this
theorem cells16 (j:Nat):(#[i_ k_ 0,Value.bool false,Value.slice none 0 0,Value.slice none 0 0,i_ k_ 0,Value.bool false,Value.slice none 0 0,Value.slice none 0 0,i_ k_ 0,Value.bool false,Value.slice none 0 0,Value.slice none 0 0,i_ k_ 0,Value.bool false,Value.slice none 0 0,Value.slice none 0 0]:Array Value)[j]?=if j<16 then some (if j % 4=0 then .int .i64 0 else if j % 4=1 then .bool false else .slice none 0 0) else none:=by
 by_cases h:j<16
 ·have hj:j=0∨j=1∨j=2∨j=3∨j=4∨j=5∨j=6∨j=7∨j=8∨j=9∨j=10∨j=11∨j=12∨j=13∨j=14∨j=15:=by omega
  rcases hj with rfl|rfl|rfl|rfl|rfl|rfl|rfl|rfl|rfl|rfl|rfl|rfl|rfl|rfl|rfl|rfl<;>rfl
 ·rw[if_neg h];exact Array.getElem?_eq_none (by show 16<=j;omega)
theorem dP.start {w:World} {B:Nat} {m0:EMem} {s0:ESt} (h:EK w B m0 s0) (hQ:∀ j,m0.Q j->s0.ses j≠none):
  dP w (w.alloc (o_ #[.int k_ 0,.bool false,.slice none 0 0,.slice none 0 0,.int k_ 0,.bool false,.slice none 0 0,.slice none 0 0,.int k_ 0,.bool false,.slice none 0 0,.slice none 0 0,.int k_ 0,.bool false,.slice none 0 0,.slice none 0 0] 166)) B m0 s0 w.heap.size (.slice none 0 0) ⟨s0,fun _=>noD,[]⟩ m0 (fun _=>noV) []:=by
 have hb:=a_ w (o_ #[.int k_ 0,.bool false,.slice none 0 0,.slice none 0 0,.int k_ 0,.bool false,.slice none 0 0,.slice none 0 0,.int k_ 0,.bool false,.slice none 0 0,.slice none 0 0,.int k_ 0,.bool false,.slice none 0 0,.slice none 0 0] 166);have cls:∀ a k,dH (allF m0 s0.ses) w.heap.size (fun i=>s0.ses i≠none) (fun _=>noV) (.slice none 0 0) a k->(a=0/\k<w.heap.size)∨(a=1/\k=w.heap.size):=fun a k hk=>by
  match a,hk with
  | 0,⟨_,e⟩=>exact .inl ⟨rfl,h.lt e⟩
  | 1,hk=>exact .inr ⟨rfl,hk⟩
  | 2,hk=>cases hk
  | n+3,⟨_,_,h3⟩=>split at h3<;>cases h3
 exact {
  ek:=h.on hb
  eb:=rfl
  db:=⟨rfl,fun j hj=>⟨hQ j hj,rfl⟩⟩
  st:=.on h.blo hb
  pm:={
   cells:=fun i hi=>by
    refine⟨?_,?_,?_,?_⟩<;>rw[aC,cells16,if_pos (by omega)]
    ·rw[if_pos (by omega)];rfl
    ·rw[if_neg (by omega),if_pos (by omega)];rfl
    ·rw[if_neg (by omega),if_neg (by omega)];rfl
    ·rw[if_neg (by omega),if_neg (by omega)];rfl
   soft:=fun j=>aQ _ _ _ j
   plo:=n_ _
   rows:=fun i _ _=>⟨World.ownsRow_nil _ _ _ _,World.ownsRow_nil _ _ _ _⟩
   out:=World.ownsRow_nil _ _ _ _
   kept:=fun x hx=>absurd hx List.not_mem_nil
   ap:=fun a b k ha hb'=>by
    rcases cls a k ha with⟨q1,q2⟩|⟨q1,q2⟩<;>rcases cls b k hb' with⟨r1,r2⟩|⟨r1,r2⟩<;>omega
   kap:=fun x hx=>absurd hx List.not_mem_nil
   tlt:=fun k ⟨_,e⟩=>Nat.lt_of_lt_of_le (h.lt e) hb.size
   wlo:=hb.size }
  cd:=fun _ _=>rfl
  od:=rfl
  lo:=h.blo }
section
variable {w0 wx w1 w2:World} {B:Nat} {m0 m m':EMem} {s0 s':ESt} {pb:Nat} {ov ov':Value} {p:PSt} {cur cur':Nat->DVal} {outs outs':List DVal}
structure pE (w0 wx w1:World) (B:Nat) (m0:EMem) (s0:ESt) (pb:Nat) (ov:Value) (p:PSt) (m:EMem) (cur:Nat->DVal) (outs:List DVal) (s':ESt) (m':EMem):Prop where
 ek:EK w1 B m' s'
 eb:m'.eb=m0.eb
 db:zDv m0 s'.ses m'
 st:aG w0 w1 B (allF m0 s0.ses) (allF m' s'.ses)
 pm:PM w1 w0.heap.size pb (allF m' s'.ses) (fun i=>p.e.ses i≠none) cur ov outs
 on:aG wx w1 B (allF m p.e.ses) (allF m' s'.ses)
 cd:∀ i,i<4->(cur i).d=p.cur i
 od:outs.map (·.d)=p.out
 lo:B<=w0.heap.size
theorem dP.after (h:dP w0 wx B m0 s0 pb ov p m cur outs) (ha:ActE wx w1 B m p.e s') (hq:∀ j,m0.Q j->p.e.ses j≠none->s'.ses j≠none):∃ m',pE w0 wx w1 B m0 s0 pb ov p m cur outs s' m':=by
 obtain⟨m',k1,k2,k3,k4⟩:=ha;exact⟨m',k1,k2.trans h.eb,h.db.act k3 hq,h.st.trans k4,h.pm.engine k4 fun k ⟨_,e⟩=>k1.lt e,k4,h.cd,h.od,h.lo⟩
theorem pE.close (h:pE w0 wx w1 B m0 s0 pb ov p m cur outs s' m') (hb:Below w0.heap.size w1 w2) (hT:∀ k,allF m' s'.ses k->w2.heap[k]?=w1.heap[k]?) {pc:Nat->jR} {po:List jR}
  (hpm:PM w2 w0.heap.size pb (allF m' s'.ses) (fun i=>s'.ses i≠none) cur' ov' outs') (hc:∀ i,i<4->(cur' i).d=pc i) (ho:outs'.map (·.d)=po):dP w0 w2 B m0 s0 pb ov' ⟨s',pc,po⟩ m' cur' outs' where
 ek:=h.ek.kept hb.size hT
 eb:=h.eb
 db:=h.db
 st:=⟨h.st.bel.trans (hb.mono h.lo),fun j hj hn=>by
  obtain⟨a,b⟩:=h.st.far j hj hn;exact⟨(hb.block j hj).trans a,b⟩⟩
 pm:=hpm
 cd:=hc
 od:=ho
 lo:=h.lo
theorem PM.pbT {w:World} {N:Nat} {T L:Nat->Prop} (h:PM w N pb T L cur ov outs) {k:Nat} (hk:T k):k≠pb:=fun e=>by
 have:=h.ap 0 1 k hk e;omega
theorem pE.begun {i:Nat} (h:pE w0 wx w1 B m0 s0 pb ov p m cur outs (dX p.e i) m') (hi:i<4):
  dP w0 ((((w1.setCell ⟨pb,i*4,none⟩ (.int .i64 0)).setCell ⟨pb,i*4+1,none⟩ (.bool false)).setCell ⟨pb,i*4+2,none⟩ (.slice none 0 0)).setCell ⟨pb,i*4+3,none⟩ (.slice none 0 0)) B m0 s0 pb ov ⟨dX p.e i,setP p.cur i noD,p.out⟩ m' (setV cur i noV) outs:=by
 obtain⟨q0,q1,q2,q3⟩:=h.pm.cells i hi;have hk:∀ k,k≠pb->((((w1.setCell ⟨pb,i*4,none⟩ (.int .i64 0)).setCell ⟨pb,i*4+1,none⟩ (.bool false)).setCell ⟨pb,i*4+2,none⟩ (.slice none 0 0)).setCell ⟨pb,i*4+3,none⟩ (.slice none 0 0)).heap[k]?=w1.heap[k]?:=fun k hk=>(h_ _ _ _ _ hk).trans ((h_ _ _ _ _ hk).trans ((h_ _ _ _ _ hk).trans (h_ _ _ _ _ hk)));have hb:Below w0.heap.size w1 ((((w1.setCell ⟨pb,i*4,none⟩ (.int .i64 0)).setCell ⟨pb,i*4+1,none⟩ (.bool false)).setCell ⟨pb,i*4+2,none⟩ (.slice none 0 0)).setCell ⟨pb,i*4+3,none⟩ (.slice none 0 0)):=((((r_ _ w1).setCell (p:=⟨pb,i*4,none⟩) h.pm.plo _).setCell (p:=⟨pb,i*4+1,none⟩) h.pm.plo _).setCell (p:=⟨pb,i*4+2,none⟩) h.pm.plo _).setCell (p:=⟨pb,i*4+3,none⟩) h.pm.plo _;have hw:=h.pm.write (w':=(((w1.setCell ⟨pb,i*4,none⟩ (.int .i64 0)).setCell ⟨pb,i*4+1,none⟩ (.bool false)).setCell ⟨pb,i*4+2,none⟩ (.slice none 0 0)).setCell ⟨pb,i*4+3,none⟩ (.slice none 0 0)) (i:=i) (y:=noV) (L':=fun j=>(dX p.e i).ses j≠none) hi hk (by simp)
  (fun j hj hj4 o ho=>by
   refine(t_ _ _ _ _ (by simp<;>omega)).trans ((t_ _ _ _ _ (by simp<;>omega)).trans ((t_ _ _ _ _ (by simp<;>omega)).trans (t_ _ _ _ _ (by simp<;>omega)))))
  ⟨(t_ _ _ _ _ (by simp)).trans ((t_ _ _ _ _ (by simp)).trans ((t_ _ _ _ _ (by simp)).trans (u_ _ _ _ q0))),
  (t_ _ _ _ _ (by simp)).trans ((t_ _ _ _ _ (by simp)).trans (u_ _ _ _ ((t_ _ _ _ _ (by simp)).trans q1))),
  (t_ _ _ _ _ (by simp)).trans (u_ _ _ _ ((t_ _ _ _ _ (by simp)).trans ((t_ _ _ _ _ (by simp)).trans q2))),
  u_ _ _ _ ((t_ _ _ _ _ (by simp)).trans ((t_ _ _ _ _ (by simp)).trans ((t_ _ _ _ _ (by simp)).trans q3)))⟩
  (fun j=>by rw[World.frozen?_setCell,World.frozen?_setCell,World.frozen?_setCell,World.frozen?_setCell];exact h.pm.soft j)
  (fun j hj hl=>by
   have hl':setS p.e.ses i _ j≠none:=hl;rw[hU _ hj] at hl';exact hl') (fun _=>.inr ⟨rfl,rfl,rfl,rfl⟩)
 refine h.close hb (fun k e=>hk k (h.pm.pbT e)) hw (fun j hj=>?_) h.od;by_cases e:j=i
 ·subst e;rw[cJ,kN];rfl
 ·rw[dV _ e,iY _ e];exact h.cd j hj
theorem pE.told {i g cap n:Nat} {rd:Bool} (h:pE w0 wx w1 B m0 s0 pb ov p m cur outs s' m') (hi:i<4) (hL:p.e.ses i≠none) (hl:∀ j,s'.ses j≠none->p.e.ses j≠none/\j≠i) {C:Array Value} {t:TypeId}
  (hg:jI (((w1.setCell ⟨pb,i*4,none⟩ (.int .i64 (n:Int))).setCell ⟨pb,i*4+1,none⟩ (.bool rd)).alloc (.cells C t)) w2 ov g)
  (ho:w2.ownsRow w0.heap.size 73 4 (.slice (some ⟨g,0,none⟩) (outs.length+1) cap) (outs.length+1) (outs.flatMap oF++[.int .i64 (n:Int),.bool rd,(cur i).av,(cur i).sv])):
  dP w0 w2 B m0 s0 pb (.slice (some ⟨g,0,none⟩) (outs.length+1) cap) ⟨s',setP p.cur i { p.cur i with at_:=n,reads:=rd },p.out++[{ p.cur i with at_:=n,reads:=rd }]⟩ m' (setV cur i ⟨{ (cur i).d with at_:=n,reads:=rd },(cur i).av,(cur i).sv⟩) (outs++[⟨{ (cur i).d with at_:=n,reads:=rd },(cur i).av,(cur i).sv⟩]):=by
 obtain⟨q0,q1,q2,q3⟩:=h.pm.cells i hi;have hk:∀ k,k≠pb->((w1.setCell ⟨pb,i*4,none⟩ (.int .i64 (n:Int))).setCell ⟨pb,i*4+1,none⟩ (.bool rd)).heap[k]?=w1.heap[k]?:=fun k hk=>(h_ _ _ _ _ hk).trans (h_ _ _ _ _ hk);have hb:Below w0.heap.size w1 ((w1.setCell ⟨pb,i*4,none⟩ (.int .i64 (n:Int))).setCell ⟨pb,i*4+1,none⟩ (.bool rd)):=((r_ _ w1).setCell (p:=⟨pb,i*4,none⟩) h.pm.plo _).setCell (p:=⟨pb,i*4+1,none⟩) h.pm.plo _;have hw:=h.pm.write (w':=(w1.setCell ⟨pb,i*4,none⟩ (.int .i64 (n:Int))).setCell ⟨pb,i*4+1,none⟩ (.bool rd)) (i:=i) (y:=⟨{ (cur i).d with at_:=n,reads:=rd },(cur i).av,(cur i).sv⟩) (L':=fun j=>p.e.ses j≠none) hi hk (by simp)
  (fun j hj hj4 o ho=>(t_ _ _ _ _ (by simp<;>omega)).trans (t_ _ _ _ _ (by simp<;>omega)))
  ⟨(t_ _ _ _ _ (by simp)).trans (u_ _ _ _ q0),u_ _ _ _ ((t_ _ _ _ _ (by simp)).trans q1),(t_ _ _ _ _ (by simp)).trans ((t_ _ _ _ _ (by simp)).trans q2),(t_ _ _ _ _ (by simp)).trans ((t_ _ _ _ _ (by simp)).trans q3)⟩
  (fun j=>by rw[World.frozen?_setCell,World.frozen?_setCell];exact h.pm.soft j) (fun j _ hl=>hl) (fun _=>.inl ⟨rfl,rfl,rfl,rfl,hL⟩)
 generalize (w1.setCell ⟨pb,i*4,none⟩ (.int .i64 (n:Int))).setCell ⟨pb,i*4+1,none⟩ (.bool rd)=W at *;have hbA:=a_ W (.cells C t);have hwA:=hw.on hbA;have ht:=hwA.told (L':=fun j=>s'.ses j≠none) (i:=i) (g:=g) (cap:=cap) hi hL hg hl (by rw[cJ];exact ho);rw[cJ] at ht;have hlo:=h.pm.wlo;have hbg:Below w0.heap.size w1 w2:=(hb.trans (hbA.mono (Nat.le_trans hlo hb.size))).grown hg.grow (Nat.le_trans (Nat.le_trans hlo hb.size) hbA.size) fun k e=>(l_ hw.out k e).1;have hT:∀ k,allF m' s'.ses k->w2.heap[k]?=w1.heap[k]?:=fun k e=>by
  have h1:k<W.heap.size:=hw.tlt k e;have h2:ov.ownBlock≠some k:=fun e2=>by have:=h.pm.ap 0 2 k e e2;omega
  exact((hg.far (Nat.lt_of_lt_of_le h1 hbA.size) h2).1.trans (hbA.block k h1)).trans (hk k (h.pm.pbT e))
 refine h.close hbg hT ht (fun j hj=>?_) ?_
 ·by_cases e:j=i
  ·subst e;rw[cJ,kN,<-h.cd j hj]
  ·rw[dV _ e,iY _ e];exact h.cd j hj
 ·rw[List.map_append,h.od];show _++[_]=_;rw[<-h.cd i hi]
theorem dP.acts {W:World} {i g cap:Nat} {x:ActL} (h:dP w0 wx B m0 s0 pb ov p m cur outs) (hi:i<4) (hL:p.e.ses i≠none) (hbW:Below wx.heap.size wx W) (hg:jI W w2 (cur i).av g)
  (ho:w2.ownsRow w0.heap.size 39 9 (.slice (some ⟨g,0,none⟩) ((cur i).d.acts.length+1) cap) ((cur i).d.acts.length+1) ((cur i).d.acts.flatMap lO++lO x)):
  dP w0 (w2.setCell ⟨pb,i*4+2,none⟩ (.slice (some ⟨g,0,none⟩) ((cur i).d.acts.length+1) cap)) B m0 s0 pb ov ⟨p.e,setP p.cur i { p.cur i with acts:=(p.cur i).acts++[x] },p.out⟩ m (setV cur i ⟨{ (cur i).d with acts:=(cur i).d.acts++[x] },.slice (some ⟨g,0,none⟩) ((cur i).d.acts.length+1) cap,(cur i).sv⟩) outs:=by
 have hW:=h.on hbW;have hp:=hW.pm.pushA (x:=x) (cap:=cap) hi hL hg ho;have hr:=(hW.pm.rows i hi hL).1;have hb:Below w0.heap.size W (w2.setCell ⟨pb,i*4+2,none⟩ (.slice (some ⟨g,0,none⟩) ((cur i).d.acts.length+1) cap)):=((r_ _ W).grown hg.grow hW.pm.wlo fun k e=>(l_ hr k e).1).setCell (p:=⟨pb,i*4+2,none⟩) hW.pm.plo _;refine hW.own (p':=⟨p.e,setP p.cur i { p.cur i with acts:=(p.cur i).acts++[x] },p.out⟩) rfl hb (fun k e=>?_) hp (fun j hj=>?_) hW.od
 ·have h1:=hW.pm.tlt k e;have h2:(cur i).av.ownBlock≠some k:=fun e2=>by have:=hW.pm.ap 0 (2*i+3) k e (fP hi hL e2);omega
  exact(h_ _ _ _ _ (hW.pm.pbT e)).trans (hg.far h1 h2).1
 ·by_cases e:j=i
  ·subst e;rw[cJ];show _=setP p.cur j _ j;rw[kN,<-h.cd j hj]
  ·rw[dV _ e];show _=setP p.cur i _ j;rw[iY _ e];exact h.cd j hj
theorem pE.said {W:World} {i g cap:Nat} {t:ByteArray} (h:pE w0 wx w1 B m0 s0 pb ov p m cur outs s' m') (hi:i<4) (hL:p.e.ses i≠none) (hl:∀ j,s'.ses j≠none->p.e.ses j≠none) (hbW:Below w1.heap.size w1 W) (hg:jI W w2 (cur i).sv g)
  (ho:w2.ownsRow w0.heap.size 9 1 (.slice (some ⟨g,0,none⟩) ((cur i).d.said.length+1) cap) ((cur i).d.said.length+1) ((cur i).d.said.map v_++[.string t])):
  dP w0 (w2.setCell ⟨pb,i*4+3,none⟩ (.slice (some ⟨g,0,none⟩) ((cur i).d.said.length+1) cap)) B m0 s0 pb ov ⟨s',setP p.cur i { p.cur i with said:=(p.cur i).said++[t] },p.out⟩ m' (setV cur i ⟨{ (cur i).d with said:=(cur i).d.said++[t] },(cur i).av,.slice (some ⟨g,0,none⟩) ((cur i).d.said.length+1) cap⟩) outs:=by
 have hW:=h.pm.on hbW;have hp:=hW.pushS (x:=t) (cap:=cap) hi hL hg ho;have hr:=(hW.rows i hi hL).2;have hb1:Below w0.heap.size w1 W:=hbW.mono h.pm.wlo;have hb:Below w0.heap.size w1 (w2.setCell ⟨pb,i*4+3,none⟩ (.slice (some ⟨g,0,none⟩) ((cur i).d.said.length+1) cap)):=(hb1.grown hg.grow hW.wlo fun k e=>(l_ hr k e).1).setCell (p:=⟨pb,i*4+3,none⟩) hW.plo _;refine h.close hb (fun k e=>?_) (hp.less hl) (fun j hj=>?_) h.od
 ·have h1:=h.pm.tlt k e;have h2:(cur i).sv.ownBlock≠some k:=fun e2=>by have:=hW.ap 0 (2*i+1+3) k e (gH hi hL e2);omega
  exact((h_ _ _ _ _ (hW.pbT e)).trans (hg.far (Nat.lt_of_lt_of_le h1 hbW.size) h2).1).trans (hbW.block k h1)
 ·by_cases e:j=i
  ·subst e;rw[cJ,kN,<-h.cd j hj]
  ·rw[dV _ e,iY _ e];exact h.cd j hj
end
end
section
open Go.RowKit Go.Joins
attribute [local go_sem ↓] Go.wp_at_zero Go.wp_at_succ
theorem lM (i:Nat) (hi:i<4) (w:World):Calls p_ 61 #[.int .i64 (i:Int)] w fun e w'=>e=.returned (.bool true)/\w'=w:=by
 have h1:(0:Int)<=(i:Int):=by omega
 have h2:(i:Int)<4:=by omega
 go_enter Tryz.func61,Tryz.ntmps61;go_wp2;go_ret;exact⟨rfl,rfl⟩
theorem xR {B wb vb:Nat} {since:Int} {cv rv:Value} {chs:List Chg} {rds:Rws} (w:World) (h:VW w B wb vb since cv rv chs rds):
  Calls p_ 64 #[.pointer (some ⟨wb,0,none⟩)] w fun e w'=>e=.returned (.int .i64 since)/\w'=w:=by
 have c1:=h.c1;clear h;go_enter Tryz.func64,Tryz.ntmps64;go_wp2;go_ret;exact⟨rfl,rfl⟩
section
variable {B:Nat} {m:EMem} {s:ESt}
theorem mT (w:World) (h:EK w B m s) {i:Nat} (hi:i<4) {v:VwL} (hv:s.ses i=some v):
  Calls p_ 28 #[.pointer (some ⟨m.eb,0,none⟩),.int .i64 (i:Int)] w fun e w'=>e=.returned (.tuple #[.pointer (some ⟨(m.W i).1,0,none⟩),.nilIface])/\w'=w:=by
 have c:=h.cell hi;rw[kE hv] at c;have h1:(0:Int)<=(i:Int):=by omega
 have h2:(i:Int)<4:=by omega
 clear h;go_enter Tryz.func28,Tryz.ntmps28;go_wp2_with fail;refine(lM i hi w).mono ?_;rintro e w1 ⟨rfl,rfl⟩;go_wp2;go_ret2;exact⟨rfl,rfl⟩
theorem pC (w:World) (h:EK w B m s) {i:Nat} (hi:i<4) (hv:s.ses i=none):
  Calls p_ 28 #[.pointer (some ⟨m.eb,0,none⟩),.int .i64 (i:Int)] w fun e w'=>e=.returned (.tuple #[.pointer none,errV 7])/\w'=w:=by
 have c:=h.cell hi;rw[kI hv] at c;have h1:(0:Int)<=(i:Int):=by omega
 have h2:(i:Int)<4:=by omega
 have HE:Hid (errV 7=.iface 114 (.int .i64 7)):=rfl;rw[HE.out];clear h;go_enter Tryz.func28,Tryz.ntmps28;go_wp2_with fail;refine(lM i hi w).mono ?_;rintro e w1 ⟨rfl,rfl⟩;go_wp2;go_ret2;exact⟨rfl,rfl⟩
theorem zBq (w:World) (h:EK w B m s) (hr:s.x.rows.length<=1000):Calls p_ 35 #[.pointer (some ⟨m.eb,0,none⟩)] w fun e w'=>∃ v,e=.returned v/\ownP w' w.heap.size v (aS s.x.rows)/\Below w.heap.size w w':=by
 have c:=h.cell0;have HN:=hide (zBm w h.sa hr);clear h;go_enter Tryz.func35,Tryz.ntmps35;go_wp2_with fail;refine HN.out.mono ?_;rintro e w1 ⟨v,rfl,h1,h2⟩;go_wp2;go_ret;exact⟨v,rfl,h1,h2⟩
def ixS (v i:Value):Sem Value:=Instr.index 122 v i
theorem zMW (v i:Value):Instr.index 122 v i=ixS v i:=rfl
attribute [local go_sem ↓] zMW
theorem zL8 (a b c d:Value) (W:World):(ixS (.agg #[a,b,c,d]) (.int .i64 0)).run p_ W=.ok a W:=by kernel_rfl
theorem zMe (a b c d:Value) (W:World):(ixS (.agg #[a,b,c,d]) (.int .i64 1)).run p_ W=.ok b W:=by kernel_rfl
theorem zMx (a b c d:Value) (W:World):(ixS (.agg #[a,b,c,d]) (.int .i64 2)).run p_ W=.ok c W:=by kernel_rfl
theorem zLR (a b c d:Value) (W:World):(ixS (.agg #[a,b,c,d]) (.int .i64 3)).run p_ W=.ok d W:=by kernel_rfl
def oldK (s:ESt):Nat->Nat
 | 0=>s.now
 | k+1=>minS (oldK s k) (s.ses k)
theorem zIg (s:ESt):oldK s 4=cI s:=rfl
theorem zE6 (s:ESt):∀ k,oldK s k<=s.now
 | 0=>n_ _
 | k+1=>Nat.le_trans (lB _ _) (zE6 s k)
theorem wN (w:World) (h:EK w B m s):Calls p_ 71 #[.pointer (some ⟨m.eb,0,none⟩)] w fun e w'=>e=.returned (.int .i64 (cI s:Int))/\w'=w:=by
 have c1:=h.cell1;have c3:=h.cell (i:=0) (by decide);have c4:=h.cell (i:=1) (by decide);have c5:=h.cell (i:=2) (by decide);have c6:=h.cell (i:=3) (by decide);have HN:=hide (zE7 w h.vs);have HW:Hid (∀ i v,s.ses i=some v->Calls p_ 64 #[.pointer (some ⟨(m.W i).1,0,none⟩)] w fun e w'=>e=.returned (.int .i64 (v.n:Int))/\w'=w):=fun i v hv=>xR w (h.vw i v hv);have HO:=hide (zIg s);have hle:=zE6 s;have HLE:=hide hle;clear h hle;generalize cI s=old at *;go_enter Tryz.func71,Tryz.ntmps71;go_wp2_with fail;refine HN.out.mono ?_;rintro e w1 ⟨rfl,rfl⟩;go_wp2
 go_loopw [3,5,15] (fun nv _ iv wr=>∃ k:Nat,k<=4/\iv=.int .i64 (k:Int)/\nv=.int .i64 (oldK s k:Int)/\wr=w1) (fun _ _ iv _=>4-(intOf iv).toNat)
 case atStart=>exact⟨0,by omega,rfl,rfl,rfl⟩
 case round=>
  obtain⟨k,hk,rfl,rfl,rfl⟩:=hrel;have hkc:k=4∨k=0∨k=1∨k=2∨k=3:=by omega
  rcases hkc with rfl|rfl|rfl|rfl|rfl
  ·rw[HO.out];go_wp2;go_ret;exact⟨rfl,rfl⟩
  ·have hix:=zL8
   cases hs:s.ses 0 with
   | none=>
    rw[kI hs];have ho:oldK s (0+1)=oldK s 0:=by show minS (oldK s 0) (s.ses 0)=_;rw[hs];rfl
    have HO1:=hide ho;clear ho;generalize oldK s 0=o0 at *;go_wp2_with fail;exact⟨⟨0+1,by omega,by go_num,by rw[HO1.out],by trivial⟩,by simp[intOf]⟩
   | some v=>
    rw[kE hs];have ho:oldK s (0+1)=min (oldK s 0) v.n:=by show minS (oldK s 0) (s.ses 0)=_;rw[hs];rfl
    have HO1:=hide ho;clear ho;have HS:=hide (HW.out 0 v hs);generalize oldK s 0=o0 at *;go_wp2_with fail;refine HS.out.mono ?_;rintro e w2 ⟨rfl,hw2⟩;rw[hw2];clear hw2;go_wp2_with fail;exact⟨⟨0+1,by omega,by go_num,by rw[HO1.out];congr 1;omega,by trivial⟩,by simp[intOf]⟩
  ·have hix:=zMe
   cases hs:s.ses 1 with
   | none=>
    rw[kI hs];have ho:oldK s (1+1)=oldK s 1:=by show minS (oldK s 1) (s.ses 1)=_;rw[hs];rfl
    have HO1:=hide ho;clear ho;generalize oldK s 1=o0 at *;go_wp2_with fail;exact⟨⟨1+1,by omega,by go_num,by rw[HO1.out],by trivial⟩,by simp[intOf]⟩
   | some v=>
    rw[kE hs];have ho:oldK s (1+1)=min (oldK s 1) v.n:=by show minS (oldK s 1) (s.ses 1)=_;rw[hs];rfl
    have HO1:=hide ho;clear ho;have HS:=hide (HW.out 1 v hs);generalize oldK s 1=o0 at *;go_wp2_with fail;refine HS.out.mono ?_;rintro e w2 ⟨rfl,hw2⟩;rw[hw2];clear hw2;go_wp2_with fail;exact⟨⟨1+1,by omega,by go_num,by rw[HO1.out];congr 1;omega,by trivial⟩,by simp[intOf]⟩
  ·have hix:=zMx
   cases hs:s.ses 2 with
   | none=>
    rw[kI hs];have ho:oldK s (2+1)=oldK s 2:=by show minS (oldK s 2) (s.ses 2)=_;rw[hs];rfl
    have HO1:=hide ho;clear ho;generalize oldK s 2=o0 at *;go_wp2_with fail;exact⟨⟨2+1,by omega,by go_num,by rw[HO1.out],by trivial⟩,by simp[intOf]⟩
   | some v=>
    rw[kE hs];have ho:oldK s (2+1)=min (oldK s 2) v.n:=by show minS (oldK s 2) (s.ses 2)=_;rw[hs];rfl
    have HO1:=hide ho;clear ho;have HS:=hide (HW.out 2 v hs);generalize oldK s 2=o0 at *;go_wp2_with fail;refine HS.out.mono ?_;rintro e w2 ⟨rfl,hw2⟩;rw[hw2];clear hw2;go_wp2_with fail;exact⟨⟨2+1,by omega,by go_num,by rw[HO1.out];congr 1;omega,by trivial⟩,by simp[intOf]⟩
  ·have hix:=zLR
   cases hs:s.ses 3 with
   | none=>
    rw[kI hs];have ho:oldK s (3+1)=oldK s 3:=by show minS (oldK s 3) (s.ses 3)=_;rw[hs];rfl
    have HO1:=hide ho;clear ho;generalize oldK s 3=o0 at *;go_wp2_with fail;exact⟨⟨3+1,by omega,by go_num,by rw[HO1.out],by trivial⟩,by simp[intOf]⟩
   | some v=>
    rw[kE hs];have ho:oldK s (3+1)=min (oldK s 3) v.n:=by show minS (oldK s 3) (s.ses 3)=_;rw[hs];rfl
    have HO1:=hide ho;clear ho;have HS:=hide (HW.out 3 v hs);generalize oldK s 3=o0 at *;go_wp2_with fail;refine HS.out.mono ?_;rintro e w2 ⟨rfl,hw2⟩;rw[hw2];clear hw2;go_wp2_with fail;exact⟨⟨3+1,by omega,by go_num,by rw[HO1.out];congr 1;omega,by trivial⟩,by simp[intOf]⟩
end
end
section
open Go.RowKit Go.Joins
theorem gG {w:World} {B:Nat} {e:TypeId} {size:Nat} {v:Value} {n:Nat} {xs:List Value} (h:w.ownsRow B e size v n xs) (g j:Nat) (u:Value) (hne:v.ownBlock≠some g):(w.setCell ⟨g,j,none⟩ u).ownsRow B e size v n xs:=
 aI h fun k hk=>h_ _ _ _ _ (fun e=>hne (by rw[hk,e]))
theorem uL {w:World} {p:Addr} {g j:Nat} {u:Value} (hne:p.block≠g):(w.setCell ⟨g,j,none⟩ u).cell? p=w.cell? p:=b_ (h_ _ _ _ _ hne)
theorem rK {w:World} {p:Addr} {g j:Nat} {u:Value} (hne:p.block≠g):(w.setCell ⟨g,j,none⟩ u).frozen? p=w.frozen? p:=World.frozen?_of_block (h_ _ _ _ _ hne)
theorem zDx {W w1:World} {B hb:Nat} {Xc:Nat->Option Value} {v:Value} {dv:List (aU×Value)} {n:Int} {g cap:Nat} (h:bP W B hb Xc v dv) (hB:B<=W.heap.size) (hg:W.grownBy w1 v.ownBlock)
  (ho:w1.ownsRow B 207 2 (.slice (some ⟨g,0,none⟩) (dv.length+1) cap) (dv.length+1) (rowD dv++[.int .i64 n,.slice none 0 0])) (hat:v.ownBlock=some g∨g=W.heap.size):
  bP (w1.setCell ⟨hb,2,none⟩ (.slice (some ⟨g,0,none⟩) (dv.length+1) cap)) B hb Xc (.slice (some ⟨g,0,none⟩) (dv.length+1) cap) (dv++[(⟨n,[]⟩,.slice none 0 0)])/\
  Below B W (w1.setCell ⟨hb,2,none⟩ (.slice (some ⟨g,0,none⟩) (dv.length+1) cap))/\w1.cell? ⟨hb,2,none⟩=some v/\w1.frozen? ⟨hb,2,none⟩=false/\(∀ b,b<W.heap.size->b≠hb->some b≠v.ownBlock->b≠g/\(w1.setCell ⟨hb,2,none⟩ (.slice (some ⟨g,0,none⟩) (dv.length+1) cap)).heap[b]?=W.heap[b]?):=by
 have hlt:=h.lt;have hne:g≠hb:=by
  rcases hat with e|e
  ·exact fun e'=>h.off (by rw[e,e'])
  ·omega
 have c1:w1.cell? ⟨hb,2,none⟩=some v:=hg.cell h.cell (Ne.symm h.off);have f1:w1.frozen? ⟨hb,2,none⟩=false:=(hg.frozen_far ⟨hb,2,none⟩ hlt (Ne.symm h.off)).trans h.soft;have kk:∀ p∈dv,p.2.ownBlock=none∨p.2.ownBlock≠some g:=fun p hp=>by
  rcases hat with e|e
  ·rw[<-e];exact h.apart p hp
  ·refine .inr fun e'=>?_;have:=((h.keys p hp).lt g e').2;omega
 refine⟨{ cell:=?_,soft:=?_,lo:=h.lo,own:=?_,keys:=?_,off:=?_,offk:=?_,apart:=?_,pair:=?_,rest:=fun j=>⟨fun hj=>(t_ _ _ _ _ (by simp<;>omega)).trans ((b_ (w:=W) (hg.block hb hlt (Ne.symm h.off))).trans ((h.rest j).1 hj)),by rw[World.frozen?_setCell];exact(hg.frozen_far ⟨hb,j,none⟩ hlt (Ne.symm h.off)).trans (h.rest j).2⟩ },?_,c1,f1,?_⟩
 ·exact u_ _ _ _ c1
 ·simpa using f1
 ·have e1:(dv++[((⟨n,[]⟩:aU),Value.slice none 0 0)]).length=dv.length+1:=by simp
  have e2:rowD (dv++[((⟨n,[]⟩:aU),Value.slice none 0 0)])=rowD dv++[.int .i64 n,.slice none 0 0]:=by simp[rowD,sQ]
  rw[e1,e2];exact gG ho hb 2 _ (by simpa[Value.ownBlock] using hne)
 ·intro p hp;rcases List.mem_append.1 hp with hp|hp
  ·exact gG ((h.keys p hp).kept hg (h.apart p hp)) hb 2 _ (h.offk p hp)
  ·simp only[List.mem_singleton] at hp;subst hp;exact World.ownsRow_nil _ _ _ _
 ·simpa[Value.ownBlock] using hne
 ·intro p hp;rcases List.mem_append.1 hp with hp|hp
  ·exact h.offk p hp
  ·simp only[List.mem_singleton] at hp;subst hp;simp[Value.ownBlock]
 ·intro p hp;rcases List.mem_append.1 hp with hp|hp
  ·exact kk p hp
  ·simp only[List.mem_singleton] at hp;subst hp;exact .inl rfl
 ·rw[List.pairwise_append];refine⟨h.pair,by simp,fun a ha b hb'=>?_⟩;simp only[List.mem_singleton] at hb';subst hb';rcases kk a ha with e|e
  ·exact .inl e
  ·cases hx:a.2.ownBlock with
   | none=>exact .inl rfl
   | some y=>exact .inr (by simp[Value.ownBlock])
 ·exact(((r_ B W).grown hg hB (fun k hk=>(h.own.lt k hk).1)).setCell h.lo _)
 ·intro b h1 h2 h3;refine⟨?_,(h_ _ _ _ _ h2).trans (hg.block b h1 h3)⟩;rcases hat with e|e
  ·exact fun x=>h3 (by rw[e,x])
  ·omega
theorem zJq {W w1:World} {B hb:Nat} {Xc:Nat->Option Value} {d:aU} {kv:Value} {dv:List (aU×Value)} {key:ByteArray} {g cap gk ck:Nat}
  (h:bP W B hb Xc (.slice (some ⟨g,0,none⟩) (dv.length+1) cap) (dv++[(d,kv)])) (hB:B<=W.heap.size) (hg:W.grownBy w1 kv.ownBlock)
  (ho:w1.ownsRow B 9 1 (.slice (some ⟨gk,0,none⟩) (d.keys.length+1) ck) (d.keys.length+1) (d.keys.map v_++[.string key])) (hat:kv.ownBlock=some gk∨gk=W.heap.size):
  bP (w1.setCell ⟨g,dv.length*2+1,none⟩ (.slice (some ⟨gk,0,none⟩) (d.keys.length+1) ck)) B hb Xc (.slice (some ⟨g,0,none⟩) (dv.length+1) cap) (dv++[(⟨d.n,d.keys++[key]⟩,.slice (some ⟨gk,0,none⟩) (d.keys.length+1) ck)])/\
  Below B W (w1.setCell ⟨g,dv.length*2+1,none⟩ (.slice (some ⟨gk,0,none⟩) (d.keys.length+1) ck))/\
  (∀ b,b<W.heap.size->b≠g->some b≠kv.ownBlock->b≠gk/\(w1.setCell ⟨g,dv.length*2+1,none⟩ (.slice (some ⟨gk,0,none⟩) (d.keys.length+1) ck)).heap[b]?=W.heap[b]?):=by
 have hlt:=h.lt;have mem:(d,kv)∈dv++[(d,kv)]:=by simp
 have hlen:(dv++[(d,kv)]).length=dv.length+1:=by simp
 have hk0:=h.offk _ mem;have ha0:=h.apart _ mem;have hown:=h.own;have hgl:=(hown.lt g rfl).2;have hgB:=(hown.lt g rfl).1;have hgh:g≠hb:=fun e=>h.off (by rw[e];rfl);have hkg:gk≠g:=by
  rcases hat with e|e
  ·rcases ha0 with e'|e'
   ·rw[e] at e';cases e'
   ·rw[e] at e';exact fun x=>e' (by rw[x];rfl)
  ·omega
 have hkh:gk≠hb:=by
  rcases hat with e|e
  ·rw[e] at hk0;exact fun x=>hk0 (by rw[x])
  ·omega
 have hpair:=List.pairwise_append.1 h.pair;have kk:∀ p∈dv,p.2.ownBlock=none∨p.2.ownBlock≠some gk:=fun p hp=>by
  rcases hat with e|e
  ·rw[<-e];exact hpair.2.2 p hp (d,kv) (by simp)
  ·refine .inr fun e'=>?_;have:=((h.keys p (by simp[hp])).lt gk e').2;omega
 have hstay:Value.ownBlock (.slice (some ⟨g,0,none⟩) (dv.length+1) cap)=none∨Value.ownBlock (.slice (some ⟨g,0,none⟩) (dv.length+1) cap)≠kv.ownBlock:=by
  rcases ha0 with e|e
  ·exact .inr (by rw[e];simp[Value.ownBlock])
  ·exact .inr (Ne.symm e)
 refine⟨{ cell:=?_,soft:=?_,lo:=h.lo,own:=?_,keys:=?_,off:=h.off,offk:=?_,apart:=?_,pair:=?_,rest:=fun j=>⟨fun hj=>(uL (Ne.symm hgh)).trans ((b_ (w:=W) (hg.block hb hlt (Ne.symm hk0))).trans ((h.rest j).1 hj)),(rK (Ne.symm hgh)).trans ((hg.frozen_far ⟨hb,j,none⟩ hlt (Ne.symm hk0)).trans (h.rest j).2)⟩ },?_,?_⟩
 ·rw[uL (Ne.symm hgh)];exact hg.cell h.cell (Ne.symm hk0)
 ·rw[rK (Ne.symm hgh)];exact(hg.frozen_far ⟨hb,2,none⟩ hlt (Ne.symm hk0)).trans h.soft
 ·have h1:=hown.kept hg hstay;rw[hlen] at h1;have h2:=(h1.stored (dv.length*2+1) (.slice (some ⟨gk,0,none⟩) (d.keys.length+1) ck)).1;have e:(rowD (dv++[(d,kv)])).set (dv.length*2+1) (.slice (some ⟨gk,0,none⟩) (d.keys.length+1) ck)=rowD (dv++[(⟨d.n,d.keys++[key]⟩,.slice (some ⟨gk,0,none⟩) (d.keys.length+1) ck)]):=by
   unfold rowD;rw[zKF sQ 2 qX (dv++[(d,kv)]) (⟨d.n,d.keys++[key]⟩,.slice (some ⟨gk,0,none⟩) (d.keys.length+1) ck) dv.length 1 (by simp) (by omega) _ (by simp[sQ])];simp
  rw[e] at h2;simpa using h2
 ·intro p hp;rcases List.mem_append.1 hp with hp|hp
  ·have h1:=(h.keys p (by simp[hp])).kept hg (hpair.2.2 p hp (d,kv) (by simp));refine gG h1 g _ _ ?_;rcases h.apart p (by simp[hp]) with e|e
   ·rw[e];simp
   ·exact e
  ·simp only[List.mem_singleton] at hp;subst hp;have:=gG ho g (dv.length*2+1) (.slice (some ⟨gk,0,none⟩) (d.keys.length+1) ck) (by simpa[Value.ownBlock] using hkg);simpa using this
 ·intro p hp;rcases List.mem_append.1 hp with hp|hp
  ·exact h.offk p (by simp[hp])
  ·simp only[List.mem_singleton] at hp;subst hp;simpa[Value.ownBlock] using hkh
 ·intro p hp;rcases List.mem_append.1 hp with hp|hp
  ·exact h.apart p (by simp[hp])
  ·simp only[List.mem_singleton] at hp;subst hp;exact .inr (by simpa[Value.ownBlock] using hkg)
 ·rw[List.pairwise_append];refine⟨hpair.1,by simp,fun a ha b hb'=>?_⟩;simp only[List.mem_singleton] at hb';subst hb';exact kk a ha
 ·exact(((r_ B W).grown hg hB (fun k hk=>((h.keys _ mem).lt k hk).1)).setCell hgB _)
 ·intro b h1 h2 h3;refine⟨?_,(h_ _ _ _ _ h2).trans (hg.block b h1 h3)⟩;rcases hat with e|e
  ·exact fun x=>h3 (by rw[e,x])
  ·omega
end
section
open Go.RowKit Go.Joins
attribute [local go_sem ↓] Go.wp_at_zero Go.wp_at_succ
theorem zFU:(Tryz.prog.info? 207).map (fun i=>(i.zero,i.size,i.bytes))=some (some (.agg #[.int .i64 0,.slice none 0 0]),2,32):=by kernel_rfl
theorem zGs (n:Nat):∀ u∈(Builtin.zeroCells (Value.agg #[.int .i64 0,.slice none 0 0]).cells n).toList,u.oneCell'=true:=by
 intro u hu;simp[Builtin.zeroCells,Value.cells] at hu;obtain⟨i,_,rfl⟩:=hu;rcases Nat.mod_two_eq_zero_or_one i with e|e<;>rw[e]<;>rfl
theorem zCN (B g cap K m:Nat) (xs:List Value) (w:World) (ho:w.ownsRow B 207 2 (.slice (some ⟨g,0,none⟩) (K+m) cap) (K+m) xs) (h1:∀ u∈xs,u.oneCell'=true) (hK:0<K) (hn:K+m<=1000) (hcap:K+m<=cap) (hc63:cap<=9223372036854775807):
  Calls p_ 186 #[.slice (some ⟨g,0,none⟩) (K+m) cap,.int .i64 0,.int .i64 K] w fun e w'=>
   e=.returned (.slice (some ⟨g,0,none⟩) m cap)/\w'.ownsRow B 207 2 (.slice (some ⟨g,0,none⟩) m cap) m (xs.drop (K*2))/\w.grownBy w' (some g):=by
 obtain⟨i0,hi0,hz0,hz1,hz2⟩:=info_parts zFU;have hxl:xs.length=(K+m)*2:=ho.1;obtain⟨news,hnews⟩:∃ news,news=xs.drop (K*2):=⟨_,rfl⟩;have hlen:news.length=m*2:=by rw[hnews,List.length_drop,hxl];omega
 have hdr:w.drew.ownsRow B 207 2 (.slice (some ⟨g,0,none⟩) (K+m) cap) (K+m) xs:=ho;obtain⟨A,hA,hsrc⟩:∃ A:Addr,(if cap=K then some (⟨g,0,none⟩:Addr) else some ⟨g,K*2,none⟩)=some A/\Hid (∀ t u,news[t]?=some u->w.drew.cell? (A.add t)=some u):=by
  by_cases h:cap=K
  ·refine⟨⟨g,0,none⟩,by simp[h],fun t u hu=>?_⟩;have h0:news.length=0:=by omega
   rw[List.length_eq_zero_iff.1 h0] at hu;simp at hu
  ·refine⟨⟨g,K*2,none⟩,by simp[h],fun t u hu=>?_⟩;have ht:t<m*2:=by
    have:=(List.getElem?_eq_some_iff.1 hu).1;omega
   rw[Addr.add_lit,hdr.cellAt (K*2+t) (by omega),<-hu,hnews,List.getElem?_drop]
 have s2:Hid (∀ u∈news,u.oneCell'=true):=fun u hu=>h1 u (by rw[hnews] at hu;exact List.mem_of_mem_drop hu);have s3:Hid (∀ t,t<news.length->(w.drew.cell? ⟨g,0+0*2+t,none⟩).isSome=true/\w.drew.frozen? ⟨g,0+0*2+t,none⟩=false):=fun t ht=>by
  have:=cS hdr t (by omega);simpa using this
 obtain⟨W1,hW1⟩:∃ W1,W1=w.drew.setCells g (0+0*2) news:=⟨_,rfl⟩;have hW1':=hW1;simp only[Nat.zero_mul,Nat.add_zero] at hW1';have r1:=cT news 0 w.drew xs hdr;rw[<-hW1'] at r1;have hzv:∀ w,(zeroValue 207).run p_ w=.ok (.agg #[.int .i64 0,.slice none 0 0]) w:=Tryz.zeroValue207;have hz2':(Value.agg #[.int .i64 0,.slice none 0 0]).cells.size=2:=rfl;have hcl:∀ ty,(Builtin.clear_ #[119] ty #[.slice (some ⟨g,m*2,none⟩) K (cap-m)]).run p_ W1=.ok (.tuple #[]) (W1.setCells g (m*2) (Builtin.zeroCells (Value.agg #[.int .i64 0,.slice none 0 0]).cells K).toList):=
  fun ty=>qG W1 _ _ ty _ Tryz.underlying119 hzv g (m*2) _ _ (by omega) (zGs _) (fun j hj=>by rw[hz2'] at hj;exact(cS r1.1 (m*2+j) (by omega)).1) (fun j hj=>by rw[hz2'] at hj;exact(cS r1.1 (m*2+j) (by omega)).2)
 have r2:=cT (Builtin.zeroCells (Value.agg #[.int .i64 0,.slice none 0 0]).cells K).toList (m*2) W1 _ r1.1;have r3:=rT r2.1 (m:=m) (by omega);rw[tN] at r3;have e4:(setL xs 0 news).take (m*2)=news:=by rw[<-hlen];exact tI news xs (by omega)
 rw[e4] at r3;have R3:=hide r3;have R4:Hid (w.grownBy (W1.setCells g (m*2) (Builtin.zeroCells (Value.agg #[.int .i64 0,.slice none 0 0]).cells K).toList) (some g)):=(show w.grownBy W1 (some g) from ⟨r1.2.os,r1.2.tape,r1.2.output,r1.2.size,r1.2.block⟩).trans r2.2;generalize hW2:W1.setCells g (m*2) (Builtin.zeroCells (Value.agg #[.int .i64 0,.slice none 0 0]).cells K).toList=W2 at hcl R3 R4;have HN:Hid (news=xs.drop (K*2)):=hnews;have HL:=hide hlen;have HW:Hid (W1=w.drew.setCells g (0+0*2) news):=hW1;clear hnews hlen hdr hW1 hW1' r1 r2 r3 e4 ho h1 hxl hW2 hz2';have k0:(0:Int)<=(K:Int):=Int.natCast_nonneg _;have k1:(K:Int)<=(K:Int)+(m:Int):=by omega
 have k2:(K:Int)<=(cap:Int):=by omega
 have k3:¬(0:Int)=(K:Int):=by omega
 have k4:¬cap=m:=by omega
 go_enter Tryz.func186,Tryz.ntmps186;go_wp2_with fail
 go_region_law (refine step_append_room rfl (.tmp 22) (.tmp 25) 119 rfl 207 i0 2 Tryz.underlying119 hi0 hz1 g 0 0 cap (by simp[Act.eval,Act.put]) A m (cap-K) news (by simp[Act.eval,Act.put]) HL.out hsrc.out s2.out (by omega) s3.out ?_;rw[<-HW.out])
 go_wp2;go_ret;exact⟨rfl,by rw[<-HN.out];exact R3.out,R4.out⟩
theorem zEo (g n cap:Nat) (w:World) (hn:n<=cap):
  Calls p_ 186 #[.slice (some ⟨g,0,none⟩) n cap,.int .i64 0,.int .i64 0] w fun e w'=>e=.returned (.slice (some ⟨g,0,none⟩) n cap)/\w'=w:=by
 go_enter Tryz.func186,Tryz.ntmps186;go_wp2
 all_goals
  go_ret;exact⟨rfl,rfl⟩
theorem zHg (w:World):
  Calls p_ 186 #[.slice none 0 0,.int .i64 0,.int .i64 0] w fun e w'=>e=.returned (.slice none 0 0)/\w'=w:=by
 go_enter Tryz.func186,Tryz.ntmps186;go_wp2;go_ret;exact⟨rfl,rfl⟩
theorem zBD {α β:Type} (f:α->List β) (k:Nat) (hk:∀ x,(f x).length=k):∀ (n:Nat) (l:List α),(l.flatMap f).drop (n*k)=(l.drop n).flatMap f
 | 0,l=>by simp
 | n+1,[]=>by simp
 | n+1,x::l=>by
  rw[List.flatMap_cons,List.drop_succ_cons,<-zBD f k hk n l,Nat.succ_mul,Nat.add_comm,<-List.drop_drop,List.drop_left' (hk x)]
theorem zJM {dv:List (aU×Value)} {w:World} {B:Nat} (hk:∀ p∈dv,w.ownsRow B 9 1 p.2 p.1.keys.length (p.1.keys.map v_)):∀ u∈rowD dv,u.oneCell'=true:=by
 intro u hu;obtain⟨p,hp,hu⟩:=List.mem_flatMap.1 hu;simp only[sQ,List.mem_cons,List.not_mem_nil,or_false] at hu;rcases hu with rfl|rfl
 ·rfl
 ·rcases aX (hk p hp) with⟨e,_⟩|⟨g,cap,e,_⟩<;>rw[e]<;>rfl
theorem zIj {α:Type} {R:α->α->Prop} {l:List α} (h:l.Pairwise R) (k:Nat):(l.drop k).Pairwise R:=h.drop
theorem zLD {W w2:World} {B hb:Nat} {Xc:Nat->Option Value} {dv:List (aU×Value)} {g cap K m:Nat} (hl:dv.length=K+m) (h:bP W B hb Xc (.slice (some ⟨g,0,none⟩) (K+m) cap) dv) (hB:B<=W.heap.size) (hg:W.grownBy w2 (some g))
  (ho:w2.ownsRow B 207 2 (.slice (some ⟨g,0,none⟩) m cap) m ((rowD dv).drop (K*2))):
  bP (w2.setCell ⟨hb,2,none⟩ (.slice (some ⟨g,0,none⟩) m cap)) B hb Xc (.slice (some ⟨g,0,none⟩) m cap) (dv.drop K)/\
  Below B W (w2.setCell ⟨hb,2,none⟩ (.slice (some ⟨g,0,none⟩) m cap))/\w2.cell? ⟨hb,2,none⟩=some (.slice (some ⟨g,0,none⟩) (K+m) cap)/\w2.frozen? ⟨hb,2,none⟩=false/\
  (∀ k,k<W.heap.size->k≠hb->some k≠some g->(w2.setCell ⟨hb,2,none⟩ (.slice (some ⟨g,0,none⟩) m cap)).heap[k]?=W.heap[k]?):=by
 have hlt:=h.lt;have hoff:some hb≠some g:=fun e=>h.off (by rw[e];rfl);have hgh:g≠hb:=fun e=>hoff (by rw[e]);have c1:w2.cell? ⟨hb,2,none⟩=some (.slice (some ⟨g,0,none⟩) (K+m) cap):=hg.cell h.cell hoff;have f1:w2.frozen? ⟨hb,2,none⟩=false:=(hg.frozen_far ⟨hb,2,none⟩ hlt hoff).trans h.soft;refine⟨{ cell:=u_ _ _ _ c1,soft:=by simpa using f1,lo:=h.lo,own:=?_,keys:=?_,off:=?_,offk:=?_,apart:=?_,pair:=zIj h.pair K,rest:=fun j=>⟨fun hj=>(t_ _ _ _ _ (by simp<;>omega)).trans ((b_ (w:=W) (hg.block hb hlt hoff)).trans ((h.rest j).1 hj)),by rw[World.frozen?_setCell];exact(hg.frozen_far ⟨hb,j,none⟩ hlt hoff).trans (h.rest j).2⟩ },?_,c1,f1,fun k h1 h2 h3=>(h_ _ _ _ _ h2).trans (hg.block k h1 h3)⟩
 ·have e1:(dv.drop K).length=m:=by rw[List.length_drop];omega
  have e2:rowD (dv.drop K)=(rowD dv).drop (K*2):=(zBD sQ 2 qX K dv).symm;rw[e1,e2];exact gG ho hb 2 _ (by simpa[Value.ownBlock] using hgh)
 ·intro p hp;have hp':=List.mem_of_mem_drop hp;refine gG ((h.keys p hp').kept hg ?_) hb 2 _ (h.offk p hp');rcases h.apart p hp' with e|e
  ·exact .inl e
  ·exact .inr e
 ·simpa[Value.ownBlock] using hgh
 ·exact fun p hp=>h.offk p (List.mem_of_mem_drop hp)
 ·exact fun p hp=>h.apart p (List.mem_of_mem_drop hp)
 ·exact(((r_ B W).grown hg hB (fun k hk=>by cases hk;exact(h.own.lt g rfl).1)).setCell h.lo _)
theorem zBb {W:World} {B hb:Nat} {Xc:Nat->Option Value} {v:Value} {dv:List (aU×Value)} (h:bP W B hb Xc v dv):bP (W.setCell ⟨hb,2,none⟩ v) B hb Xc v dv where
 cell:=u_ _ _ _ h.cell
 soft:=by simpa using h.soft
 lo:=h.lo
 own:=gG h.own hb 2 _ h.off
 keys:=fun p hp=>gG (h.keys p hp) hb 2 _ (h.offk p hp)
 off:=h.off
 offk:=h.offk
 apart:=h.apart
 pair:=h.pair
 rest:=fun j=>⟨fun hj=>(t_ _ _ _ _ (by simp<;>omega)).trans ((h.rest j).1 hj),by rw[World.frozen?_setCell];exact(h.rest j).2⟩
theorem zMX {hb g n m cap K j:Nat} {dv:List (aU×Value)} (h:inH hb (.slice (some ⟨g,0,none⟩) m cap) (dv.drop K) j):inH hb (.slice (some ⟨g,0,none⟩) n cap) dv j:=by
 rcases h with h|h|⟨p,hp,e⟩
 ·exact .inl h
 ·exact .inr (.inl h)
 ·exact .inr (.inr ⟨p,List.mem_of_mem_drop hp,e⟩)
theorem zG9 (dv:List (aU×Value)) (B hb:Nat) {Xc:Nat->Option Value} (v:Value) (n:Int) (w:World) (h:bP w B hb Xc v dv) (hr:gS (ofDV dv)) (hB:B<=w.heap.size) (hn:dv.length<=1000):
  Calls p_ 125 #[.pointer (some ⟨hb,2,none⟩),.int .i64 n] w fun e w'=>e=.returned (.tuple #[])/\∃ v' dv',bP w' B hb Xc v' dv'/\dv'=dv.drop (cR (ofDV dv) n)/\Below B w w'/\∀ j,j<w.heap.size->¬inH hb v dv j->w'.heap[j]?=w.heap[j]?/\¬inH hb v' dv' j:=by
 have hK:cR (ofDV dv) n<=dv.length:=by have:=zBi (ofDV dv) n;simpa[ofDV] using this
 obtain⟨K,hKe⟩:∃ K,cR (ofDV dv) n=K:=⟨_,rfl⟩;rw[hKe] at hK;rw[hKe];have HK:=hide hKe;have c:=h.cell;have hs:=h.soft;have hlt:=h.lt;have HH:=hide h;have HR:=hide hr;clear hKe h hr;rcases HH.out.form with⟨rfl,rfl⟩|⟨g,cap,rfl,_,hgh,hc1,hc2,_⟩
 ·have hK0:K=0:=by simpa using hK
  subst hK0;go_enter Tryz.func125,Tryz.ntmps125
  go_region_with (first
   | (go_at_call 126;refine(lY [] B hb _ n _ (HH.out.on (r_ _ _).drew) HR.out (by simp)).mono ?_;rintro e w1 ⟨rfl,hb1⟩;rw[HK.out];have c1:=aA hb1 (aA (r_ _ _).drew c);have f1:=aE hb1 hlt hs)
   | (go_at_call 186;refine(zHg _).mono ?_;rintro e w2 ⟨rfl,rfl⟩))
  all_goals
   go_wp2;go_end0;exact⟨rfl,_,_,zBb (HH.out.on (aB (r_ _ w).drew (n_ _) hb1)),rfl,((aB (r_ _ w).drew (n_ _) hb1).mono hB).setCell HH.out.lo _,fun k h1 h2=>⟨(h_ _ _ _ _ (fun e=>h2 (.inl e))).trans ((aB (r_ _ w).drew (n_ _) hb1).block k h1),by simpa using h2⟩⟩
 ·by_cases hK0:K=0
  ·subst hK0;go_enter Tryz.func125,Tryz.ntmps125
   go_region_with (first
    | (go_at_call 126;refine(lY dv B hb _ n _ (HH.out.on (r_ _ _).drew) HR.out (by omega)).mono ?_;rintro e w1 ⟨rfl,hb1⟩;rw[HK.out];have c1:=aA hb1 (aA (r_ _ _).drew c);have f1:=aE hb1 hlt hs)
    | (go_at_call 186;refine(zEo _ _ _ _ hc1).mono ?_;rintro e w2 ⟨rfl,rfl⟩))
   all_goals
    go_wp2;go_end0;exact⟨rfl,_,_,zBb (HH.out.on (aB (r_ _ w).drew (n_ _) hb1)),by simp,((aB (r_ _ w).drew (n_ _) hb1).mono hB).setCell HH.out.lo _,fun k h1 h2=>⟨(h_ _ _ _ _ (fun e=>h2 (.inl e))).trans ((aB (r_ _ w).drew (n_ _) hb1).block k h1),by simpa using h2⟩⟩
  ·obtain⟨m,hm⟩:∃ m,dv.length=K+m:=⟨dv.length-K,by omega⟩;have HM:=hide hm;have hone:=hide (zJM HH.out.keys);rw[hm] at HH c hc1 hn;clear hm;go_enter Tryz.func125,Tryz.ntmps125
   go_region_with (first
    | (go_at_call 126;refine(lY dv B hb _ n _ (HH.out.on (r_ _ _).drew) HR.out (by rw[HM.out];omega)).mono ?_;rintro e w1 ⟨rfl,hb1⟩;rw[HK.out];have c1:=aA hb1 (aA (r_ _ _).drew c);have hw1:=aB (r_ _ w).drew (n_ _) hb1;have HW:=hide (HH.out.on hw1))
    | (go_at_call 186;refine(zCN B g cap K m (rowD dv) _ (HM.out▸HW.out.own) hone.out (by omega) (by omega) hc1 hc2).mono ?_;rintro e w2 ⟨rfl,ho2,hg2⟩;obtain⟨r1,r2,r3,r4,r5⟩:=zLD HM.out HW.out (Nat.le_trans hB hw1.size) hg2 ho2;have R1:=hide r1;have R2:=hide r2;have R5:=hide r5;clear r1 r2 r5 ho2 hg2))
   all_goals
    go_wp2;go_end0;exact⟨rfl,_,_,R1.out,rfl,(hw1.mono hB).trans R2.out,fun k h1 h2=>⟨(R5.out k (Nat.lt_of_lt_of_le h1 hw1.size) (fun e=>h2 (.inl e)) (fun e=>h2 (.inr (.inl e.symm)))).trans (hw1.block k h1),fun e=>h2 (zMX e)⟩⟩
section
variable {B:Nat} {m:EMem} {s:ESt}
theorem wB (w:World) (h:EK w B m s) {i:Nat} (hi:i<4) (hv:s.ses i=none):
  Calls p_ 18 #[.pointer (some ⟨m.eb,0,none⟩),.int .i64 (i:Int)] w fun e w'=>e=.returned .nilIface/\ActE w w' B m s (dX s i):=by
 have c:=h.cell hi;rw[kI hv] at c;have c1:=h.cell1;have h1:(0:Int)<=(i:Int):=by omega
 have h2:(i:Int)<4:=by omega
 have heb:=h.lt h.ebF;have fz:=fun j=>(h.hi.rest j).2;have HN:Hid (∀ W,Below w.heap.size w W->Calls p_ 62 #[.pointer (some ⟨m.vb,0,none⟩)] W fun e w'=>∃ wb,e=.returned (.pointer (some ⟨wb,0,none⟩))/\VW w' W.heap.size wb m.vb s.now (.slice none 0 0) (.slice none 0 0) [] []/\Below W.heap.size W w'):=fun W hb=>zLr W (h.vs.on hb);have HE:Hid (∀ w1 wb,VW w1 w.heap.size wb m.vb s.now (.slice none 0 0) (.slice none 0 0) [] []->Below w.heap.size w w1->ActE w (w1.setCell ⟨m.eb,3+i,none⟩ (.pointer (some ⟨wb,0,none⟩))) B m s (dX s i)):=fun w1 wb hvw hb=>by
  obtain⟨q1,q2⟩:=h.begun hi hv hvw hb;exact⟨_,q1,rfl,⟨rfl,fun j hj=>by show(updW m.W i _ j).1=_;rw[oV _ (show j≠i from fun e=>hj (by rw[e];exact hv))]⟩,q2⟩
 clear h;generalize m.eb=eb at *;generalize m.vb=vb at *;go_enter Tryz.func18,Tryz.ntmps18;go_wp2_with fail;refine(lM i hi w).mono ?_;rintro e w1 ⟨rfl,rfl⟩;go_wp2_with fail
 go_region_with (first
  | (go_at_call 62;refine(HN.out _ (r_ _ _).drew).mono ?_;rintro e w2 ⟨wb,rfl,hvw,hb2⟩;have hbx:=aB (r_ _ w1).drew (n_ _) hb2;have HR:=hide (HE.out w2 wb (hvw.down (n_ _)) hbx);have c2:=aA hbx c;have fz2:=aE hbx heb (fz (3+i));clear hvw hb2 hbx)
  | fail)
 all_goals
  go_wp2;go_ret;exact⟨rfl,HR.out⟩
theorem zDY (w:World) (h:EK w B m s) {i:Nat} (hi:i<4) {v:VwL} (hv:s.ses i=some v):
  Calls p_ 18 #[.pointer (some ⟨m.eb,0,none⟩),.int .i64 (i:Int)] w fun e w'=>e=.returned (errV 7)/\w'=w:=by
 have c:=h.cell hi;rw[kE hv] at c;have h1:(0:Int)<=(i:Int):=by omega
 have h2:(i:Int)<4:=by omega
 have HE:Hid (errV 7=.iface 114 (.int .i64 7)):=rfl;rw[HE.out];clear h;go_enter Tryz.func18,Tryz.ntmps18;go_wp2_with fail;refine(lM i hi w).mono ?_;rintro e w1 ⟨rfl,rfl⟩;go_wp2;go_ret;exact⟨rfl,rfl⟩
def zLO (w w':World) (B:Nat) (m:EMem) (s:ESt) (i:Nat):Prop:=ActE w w' B m s (endE s i)/\(∀ a k,a≠0->engF m s.ses a k->w'.heap[k]?=w.heap[k]?)
theorem tE (w:World) (h:EK w B m s) (ok:EOk s) {i:Nat} (hi:i<4) (hc:s.c<=190):
  Calls p_ 63 #[.pointer (some ⟨m.eb,0,none⟩),.int .i64 (i:Int)] w fun e w'=>e=.returned (.tuple #[])/\zLO w w' B m s i:=by
 have c:=h.cell hi;have h1:(0:Int)<=(i:Int):=by omega
 have h2:(i:Int)<4:=by omega
 have fz:=(h.hi.rest (3+i)).2;obtain⟨hd,hst⟩:=h.drop hi;have hlen:m.dv.length<=1000:=by
  have e1:=congrArg List.length h.ds;have e2:=ok.dl;have:=ok.nc;unfold ofDV at e1;rw[List.length_map] at e1;omega
 have hrd:gS (ofDV m.dv):=by rw[h.ds];exact ok.rd
 have hfar:∀ a k,a≠0->engF m s.ses a k->(w.setCell ⟨m.eb,3+i,none⟩ (.pointer none)).heap[k]?=w.heap[k]?:=fun a k ha hk=>h_ _ _ _ _ fun e=>ha (h.ap a 0 k hk (by rw[e];exact h.ebF));have hsub:∀ a k,a≠0->engF m s.ses a k->¬inH m.eb m.hv m.dv k:=fun a k ha hk e=>ha (h.ap a 0 k hk e);have hszk:∀ a k,engF m s.ses a k->k<w.heap.size:=fun a k e=>h.lt e;have hss:(w.setCell ⟨m.eb,3+i,none⟩ (.pointer none)).heap.size=w.heap.size:=by simp
 have HO:Hid (∀ W,Below (w.setCell ⟨m.eb,3+i,none⟩ (.pointer none)).heap.size (w.setCell ⟨m.eb,3+i,none⟩ (.pointer none)) W->Calls p_ 71 #[.pointer (some ⟨m.eb,0,none⟩)] W fun e w'=>e=.returned (.int .i64 (cI (nU s i):Int))/\w'=W):=fun W hb=>wN W (hd.on hb);have HF:Hid (∀ W,Below (w.setCell ⟨m.eb,3+i,none⟩ (.pointer none)).heap.size (w.setCell ⟨m.eb,3+i,none⟩ (.pointer none)) W->Calls p_ 125 #[.pointer (some ⟨m.eb,2,none⟩),.int .i64 (cI (nU s i):Int)] W fun e w'=>e=.returned (.tuple #[])/\zLO w w' B m s i):=fun W hb=>by
  have hdW:=hd.on hb;refine(zG9 m.dv B m.eb m.hv (cI (nU s i):Int) W hdW.hi hrd hdW.blo hlen).mono ?_;rintro e w' ⟨rfl,v',dv',hH,hdv,hbl,hff⟩;have hds:ofDV dv'=(endE s i).ds:=by
   show _=s.ds.drop (cR s.ds (cI (nU s i)));rw[hdv,<-h.ds];unfold ofDV;rw[List.map_drop]
  obtain⟨q1,q2,q3⟩:=hdW.hist hH hbl hff hds;refine⟨rfl,⟨_,q1,rfl,⟨rfl,fun _ _=>rfl⟩,(hst.trans (.on hd.blo hb)).trans q2⟩,fun a k ha hk=>?_⟩;have hk':k<(w.setCell ⟨m.eb,3+i,none⟩ (.pointer none)).heap.size:=by rw[hss];exact hszk a k hk
  exact((hff k (Nat.lt_of_lt_of_le hk' hb.size) (hsub a k ha hk)).1.trans (hb.block k hk')).trans (hfar a k ha hk)
 clear h hd hst hfar hsub hszk hss hrd hlen;generalize cI (nU s i)=old at *;generalize hebe:m.eb=eb at *;go_enter Tryz.func63,Tryz.ntmps63;go_wp2_with fail;generalize w.setCell ⟨eb,3+i,none⟩ (.pointer none)=W0 at *
 go_region_with (first
  | (go_at_call 71;refine(HO.out _ (r_ _ _).drew).mono ?_;rintro e w2 ⟨rfl,rfl⟩)
  | (go_at_call 125;refine(HF.out _ (r_ _ _).drew).mono ?_;rintro e w2 ⟨rfl,ha⟩;have HR:=hide ha;clear ha)
  | fail)
 all_goals
  go_wp2;go_end0;exact⟨rfl,HR.out⟩
end
end
end Go.Proofs.YtnboipekkahmnaaGreatDoor
