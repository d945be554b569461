import Derived.Test.YtnboipekkahmnaaGreatDoorS01
import Derived.Great.BuildSlice
set_option maxHeartbeats 8000000
set_option maxRecDepth 100000
namespace Go.Proofs.YtnboipekkahmnaaGreatDoor
open World renaming cell?_of_block→b_,cell?_setCell_other→t_,cell?_setCell_same→u_,ownsRow.lt→l_
open Go.RowKit.Below renaming heap_setCell→h_,refl→r_
open Nat renaming le_refl→n_
open Tryz renaming prog→p_
open Value renaming int→i_
open Go.Joins renaming below_alloc1→a_
section
open Go.RowKit Go.Joins
structure DHd (w:World) (db nb kb lb n:Nat) (next left:Int) (down:Bool):Prop where
 c0:w.cell? ⟨db,0,none⟩=some (.slice (some ⟨nb,0,none⟩) n n)
 c1:w.cell? ⟨db,1,none⟩=some (.slice (some ⟨kb,0,none⟩) n n)
 c2:w.cell? ⟨db,2,none⟩=some (.slice (some ⟨lb,0,none⟩) n n)
 c3:w.cell? ⟨db,3,none⟩=some (.int .i64 next)
 c4:w.cell? ⟨db,4,none⟩=some (.int .i64 left)
 c5:w.cell? ⟨db,5,none⟩=some (.bool down)
 soft:∀ j,w.frozen? ⟨db,j,none⟩=false
structure DBy (w:World) (B db nb kb lb n:Nat) (lv:List Value) (now kept:List ByteArray) (loose:List (List Wr)):Prop where
 hn:w.heap[nb]?=some (.cells (now.flatMap secV).toArray 198 (0,0))
 hk:w.heap[kb]?=some (.cells (kept.flatMap secV).toArray 198 (0,0))
 hl:w.heap[lb]?=some (.cells lv.toArray 196 (0,0))
 nn:now.length=n
 nk:kept.length=n
 nl:lv.length=n
 no:loose.length=n
 sn:∀ s∈now,s.size=96
 sk:∀ s∈kept,s.size=96
 own:∀ i (h:i<lv.length) (h':i<loose.length),ownW w B lv[i] loose[i]
 dis:∀ i j (hi:i<lv.length) (hj:j<lv.length) k,lv[i].ownBlock=some k->lv[j].ownBlock=some k->i=j
 apo:∀ i (hi:i<lv.length) k,lv[i].ownBlock=some k->k≠db/\k≠nb/\k≠kb/\k≠lb
 ap:db≠nb/\db≠kb/\db≠lb/\nb≠kb/\nb≠lb/\kb≠lb
 lo:B<=db/\B<=nb/\B<=kb/\B<=lb
 n1:1<=n/\n<=200
def inD (db nb kb lb:Nat) (lv:List Value) (k:Nat):Prop:=k=db∨k=nb∨k=kb∨k=lb∨∃ i,∃ h:i<lv.length,lv[i].ownBlock=some k
def zC3 (L left:Int):Prop:=max L (-1)=left/\-9223372036854775808<=L/\L<=9223372036854775807
def DK (w:World) (B db:Nat) (S:Nat->Prop) (s:DSt):Prop:=
 ∃ (nb kb lb n:Nat) (lv:List Value) (loose:List (List Wr)) (L:Int),DHd w db nb kb lb n ((s.wait.length % 64:Nat):Int) L s.down/\DBy w B db nb kb lb n lv s.now s.kept loose/\S=inD db nb kb lb lv/\jK n s.wait loose/\(∀ x∈s.wait,x.2.size=96)/\(s.down=false->zC3 L s.left)/\B<=w.heap.size
def ActD (w w':World) (B db:Nat) (S:Nat->Prop) (s:DSt):Prop:=∃ S',DK w' B db S' s/\aG w w' B S S'
section
variable {w w':World} {B db nb kb lb n:Nat} {S S':Nat->Prop} {s:DSt} {lv:List Value} {now kpt:List ByteArray} {loose:List (List Wr)} {next left:Int} {down:Bool}
theorem DHd.kept (h:DHd w db nb kb lb n next left down) (hk:w'.heap[db]?=w.heap[db]?):DHd w' db nb kb lb n next left down:=
 ⟨(b_ hk).trans h.c0,(b_ hk).trans h.c1,(b_ hk).trans h.c2,(b_ hk).trans h.c3,(b_ hk).trans h.c4,(b_ hk).trans h.c5,fun j=>(World.frozen?_of_block hk).trans (h.soft j)⟩
theorem DHd.lt (h:DHd w db nb kb lb n next left down):db<w.heap.size:=World.block_lt_of_cell? _ _ h.c0
theorem DBy.kept (h:DBy w B db nb kb lb n lv now kpt loose) (hk:∀ k,k≠db->inD db nb kb lb lv k->w'.heap[k]?=w.heap[k]?):DBy w' B db nb kb lb n lv now kpt loose:=
 { h with
  hn:=(hk nb h.ap.1.symm (.inr (.inl rfl))).trans h.hn
  hk:=(hk kb h.ap.2.1.symm (.inr (.inr (.inl rfl)))).trans h.hk
  hl:=(hk lb h.ap.2.2.1.symm (.inr (.inr (.inr (.inl rfl))))).trans h.hl
  own:=fun i hi h'=>gD (h.own i hi h') fun k e=>hk k (h.apo i hi k e).1 (.inr (.inr (.inr (.inr ⟨i,hi,e⟩)))) }
theorem DBy.lt (h:DBy w B db nb kb lb n lv now kpt loose) (hd:db<w.heap.size) {k:Nat} (hk:inD db nb kb lb lv k):k<w.heap.size:=by
 rcases hk with rfl|rfl|rfl|rfl|⟨i,hi,e⟩
 ·exact hd
 ·exact(Array.getElem?_eq_some_iff.1 h.hn).1
 ·exact(Array.getElem?_eq_some_iff.1 h.hk).1
 ·exact(Array.getElem?_eq_some_iff.1 h.hl).1
 ·exact(l_ (h.own i hi (by rw[h.no,<-h.nl];exact hi)).1 k e).2
theorem DK.lt (h:DK w B db S s) {k:Nat} (hk:S k):k<w.heap.size:=by
 obtain⟨nb,kb,lb,n,lv,loose,L,h1,h2,rfl,_⟩:=h;exact h2.lt h1.lt hk
theorem DK.low (h:DK w B db S s) {k:Nat} (hk:S k):B<=k:=by
 obtain⟨nb,kb,lb,n,lv,loose,L,h1,h2,rfl,_⟩:=h;rcases hk with rfl|rfl|rfl|rfl|⟨i,hi,e⟩
 ·exact h2.lo.1
 ·exact h2.lo.2.1
 ·exact h2.lo.2.2.1
 ·exact h2.lo.2.2.2
 ·exact(l_ (h2.own i hi (by rw[h2.no,<-h2.nl];exact hi)).1 k e).1
theorem DK.kept (h:DK w B db S s) (hs:w.heap.size<=w'.heap.size) (hk:∀ k,S k->w'.heap[k]?=w.heap[k]?):DK w' B db S s:=by
 obtain⟨nb,kb,lb,n,lv,loose,L,h1,h2,rfl,h4,h5,h6,h7⟩:=h;exact⟨nb,kb,lb,n,lv,loose,L,h1.kept (hk db (.inl rfl)),h2.kept fun k _ e=>hk k e,rfl,h4,h5,h6,Nat.le_trans h7 hs⟩
theorem DK.on (h:DK w B db S s) (hb:Below w.heap.size w w'):DK w' B db S s:=h.kept hb.size fun k hk=>hb.block k (h.lt hk)
theorem DK.lo (h:DK w B db S s):B<=w.heap.size:=by
 obtain⟨nb,kb,lb,n,lv,loose,L,h1,h2,rfl,h4,h5,h6,h7⟩:=h;exact h7
theorem DK.many (h:DK w B db S s):1<=s.now.length/\s.now.length<=200/\s.kept.length=s.now.length:=by
 obtain⟨nb,kb,lb,n,lv,loose,L,h1,h2,rfl,h4,h5,h6,h7⟩:=h;have:=h2.nn;have:=h2.nk;have:=h2.n1;omega
theorem DK.whole (h:DK w B db S s):(∀ x∈s.now,x.size=96)/\(∀ x∈s.kept,x.size=96)/\∀ x∈s.wait,x.1<s.now.length/\x.2.size=96:=by
 obtain⟨nb,kb,lb,n,lv,loose,L,h1,h2,rfl,h4,h5,h6,h7⟩:=h;exact⟨h2.sn,h2.sk,fun x hx=>⟨by rw[h2.nn];exact h4.at_ x hx,h5 x hx⟩⟩
theorem ActD.after {w1 w2:World} {S1:Nat->Prop} (hs:aG w w1 B S S1) (ha:ActD w1 w2 B db S1 s):ActD w w2 B db S s:=by
 obtain⟨S2,hq,h2⟩:=ha;exact⟨S2,hq,hs.trans h2⟩
theorem DK.stay (h:DK w B db S s) (hb:Below w.heap.size w w'):ActD w w' B db S s:=⟨S,h.on hb,.on h.lo hb⟩
theorem ActD.post {w1:World} (ha:ActD w w1 B db S s) (hb:Below w1.heap.size w1 w'):ActD w w' B db S s:=by
 obtain⟨S',hp,hs⟩:=ha;exact⟨S',hp.on hb,hs.trans (.on hp.lo hb)⟩
theorem DHd.left' (h:DHd w db nb kb lb n next left down) (v:Int):DHd (w.setCell ⟨db,4,none⟩ (.int .i64 v)) db nb kb lb n next v down:=
 ⟨(t_ _ _ _ _ (by simp)).trans h.c0,(t_ _ _ _ _ (by simp)).trans h.c1,(t_ _ _ _ _ (by simp)).trans h.c2,(t_ _ _ _ _ (by simp)).trans h.c3,u_ _ _ _ h.c4,(t_ _ _ _ _ (by simp)).trans h.c5,fun j=>by rw[World.frozen?_setCell];exact h.soft j⟩
theorem DHd.down' (h:DHd w db nb kb lb n next left down) (v:Bool):DHd (w.setCell ⟨db,5,none⟩ (.bool v)) db nb kb lb n next left v:=
 ⟨(t_ _ _ _ _ (by simp)).trans h.c0,(t_ _ _ _ _ (by simp)).trans h.c1,(t_ _ _ _ _ (by simp)).trans h.c2,(t_ _ _ _ _ (by simp)).trans h.c3,(t_ _ _ _ _ (by simp)).trans h.c4,u_ _ _ _ h.c5,fun j=>by rw[World.frozen?_setCell];exact h.soft j⟩
theorem DHd.next' (h:DHd w db nb kb lb n next left down) (v:Int):DHd (w.setCell ⟨db,3,none⟩ (.int .i64 v)) db nb kb lb n v left down:=
 ⟨(t_ _ _ _ _ (by simp)).trans h.c0,(t_ _ _ _ _ (by simp)).trans h.c1,(t_ _ _ _ _ (by simp)).trans h.c2,u_ _ _ _ h.c3,(t_ _ _ _ _ (by simp)).trans h.c4,(t_ _ _ _ _ (by simp)).trans h.c5,fun j=>by rw[World.frozen?_setCell];exact h.soft j⟩
theorem DBy.head (h:DBy w B db nb kb lb n lv now kpt loose) (j:Nat) (v:Value):DBy (w.setCell ⟨db,j,none⟩ v) B db nb kb lb n lv now kpt loose:=h.kept fun _ hk _=>h_ _ _ _ _ hk
end
end
section
open Go.RowKit Go.Joins
attribute [local go_sem ↓] Go.wp_at_zero Go.wp_at_succ
section
variable {B db:Nat} {S:Nat->Prop} {s:DSt}
theorem mU (w:World) (h:DK w B db S s):Calls p_ 123 #[.pointer (some ⟨db,0,none⟩)] w fun e w'=>e=.returned (.int .i64 s.now.length)/\w'=w:=by
 obtain⟨nb,kb,lb,n,lv,loose,L,h1,h2,_⟩:=h;have c0:=h1.c0;have hn:=h2.n1;rw[h2.nn];clear h1 h2;go_enter Tryz.func123,Tryz.ntmps123;go_wp2;go_ret;exact⟨rfl,rfl⟩
def hasD (s:DSt) (at_:Int):Bool:=decide (0<=at_)&&decide (at_<(s.now.length:Int))
theorem zCJ (at_:Int) (w:World) (h:DK w B db S s):Calls p_ 241 #[.pointer (some ⟨db,0,none⟩),.int .i64 at_] w fun e w'=>e=.returned (.bool (hasD s at_))/\w'=w:=by
 obtain⟨nb,kb,lb,n,lv,loose,L,h1,h2,_⟩:=h;have c0:=h1.c0;have hn:=h2.n1;unfold hasD;rw[h2.nn];clear h1 h2;by_cases h0:0<=at_
 ·have d0:decide (0<=at_)=true:=decide_eq_true h0;rw[d0];by_cases h2:at_<(n:Int)
  ·have d2:decide (at_<(n:Int))=true:=decide_eq_true h2;rw[d2];go_enter Tryz.func241,Tryz.ntmps241;go_wp2;go_ret;exact⟨rfl,rfl⟩
  ·have d2:decide (at_<(n:Int))=false:=decide_eq_false h2;rw[d2];go_enter Tryz.func241,Tryz.ntmps241;go_wp2;go_ret;exact⟨rfl,rfl⟩
 ·have d0:decide (0<=at_)=false:=decide_eq_false h0;rw[d0];go_enter Tryz.func241,Tryz.ntmps241;go_wp2;go_ret;exact⟨rfl,rfl⟩
theorem zGS (hd:s.down=true):cD s=10/\bR s=s:=by unfold cD bR;rw[hd];exact⟨rfl,rfl⟩
theorem zFZ (hd:s.down=false) (hl:s.left=0):cD s=10/\bR s={ s with down:=true }:=by
 unfold cD bR;rw[if_neg (show ¬s.down=true by rw[hd];decide),if_pos (show(s.left==0)=true by rw[hl];rfl),hd,hl];exact⟨rfl,rfl⟩
theorem zC6 (hd:s.down=false) (hl:s.left≠0):cD s=0/\bR s={ s with left:=if 0<s.left then s.left-1 else s.left }:=by
 unfold cD bR;rw[if_neg (show ¬s.down=true by rw[hd];decide),if_neg (show ¬(s.left==0)=true by simpa using hl),hd,show(s.left==0)=false by simpa using hl];exact⟨rfl,rfl⟩
theorem zBt (w:World) (h:DK w B db S s):Calls p_ 239 #[.pointer (some ⟨db,0,none⟩)] w fun e w'=>e=.returned (errV (cD s))/\ActD w w' B db S (bR s):=by
 have HW:=hide h;obtain⟨nb,kb,lb,n,lv,loose,L,h1,h2,hS,h4,h5,h6,h7⟩:=h;have c4:=h1.c4;have f4:=h1.soft 4;have c5:=h1.c5;have f5:=h1.soft 5;have HST:Hid (∀ (W:World) (s':DSt) (L':Int),DHd W db nb kb lb n ((s.wait.length % 64:Nat):Int) L' s'.down->(∀ k,k≠db->W.heap[k]?=w.heap[k]?)->W.heap.size=w.heap.size->Below B w W->s'.now=s.now->s'.kept=s.kept->s'.wait=s.wait->(s'.down=false->zC3 L' s'.left)->ActD w W B db S s'):=fun W s' L' a1 a2 a3 a4 a5 a6 a7 a8=>
  ⟨S,⟨nb,kb,lb,n,lv,loose,L',by rw[a7];exact a1,by rw[a5,a6];exact h2.kept fun k hk _=>a2 k hk,hS,by rw[a7];exact h4,by rw[a7];exact h5,a8,by rw[a3];exact h7⟩,⟨a4,fun k _ hn=>⟨a2 k (fun e=>hn (by rw[hS,e];exact .inl rfl)),hn⟩⟩⟩
 have H1:=hide h1;have H6:=hide h6;have hlo:=h2.lo.1;clear h1 h2 h4 h5 h6 hS h7;rcases Bool.eq_false_or_eq_true s.down with hd|hd
 ·rw[hd] at c5;obtain⟨e1,e2⟩:=zGS hd;rw[e1,e2,aP (show(10:Nat)≠0 by decide)];by_cases hL:L=0
  ·subst hL;have HE:=hide (HST.out (w.setCell ⟨db,5,none⟩ (.bool true)) s 0 (by rw[hd];exact H1.out.down' true) (fun k hk=>h_ _ _ _ _ hk) (by simp) ((r_ _ _).setCell (p:=⟨db,5,none⟩) hlo _) rfl rfl rfl (fun e=>by rw[hd] at e;cases e));clear HST H1 H6 HW e1 e2;go_enter Tryz.func239,Tryz.ntmps239;go_wp2;go_ret;exact⟨rfl,HE.out⟩
  ·have hL':(L==0)=false:=by simpa using hL
   clear HST H1 H6 e1 e2;go_enter Tryz.func239,Tryz.ntmps239;go_wp2;go_ret;exact⟨rfl,HW.out.stay (r_ _ _)⟩
 ·rw[hd] at c5;obtain⟨hl1,hl2,hl3⟩:=H6.out hd;by_cases hL:L=0
  ·subst hL;obtain⟨e1,e2⟩:=zFZ hd (by rw[<-hl1];rfl);rw[e1,e2,aP (show(10:Nat)≠0 by decide)];have HE:=hide (HST.out (w.setCell ⟨db,5,none⟩ (.bool true)) { s with down:=true } 0 (H1.out.down' true) (fun k hk=>h_ _ _ _ _ hk) (by simp) ((r_ _ _).setCell (p:=⟨db,5,none⟩) hlo _) rfl rfl rfl (fun e=>by cases e));clear HST H1 H6 HW e1 e2;go_enter Tryz.func239,Tryz.ntmps239;go_wp2;go_ret;exact⟨rfl,HE.out⟩
  ·have hL':(L==0)=false:=by simpa using hL
   obtain⟨e1,e2⟩:=zC6 hd (show s.left≠0 by rw[<-hl1];omega);rw[e1,aR];by_cases hp:0<L
   ·rw[e2];have e3:s.left=L:=by rw[<-hl1];omega
    rw[if_pos (by rw[e3];exact hp),e3];have HE:=hide (HST.out (w.setCell ⟨db,4,none⟩ (.int .i64 (L-1))) { s with left:=L-1 } (L-1) (H1.out.left' _) (fun k hk=>h_ _ _ _ _ hk) (by simp) ((r_ _ _).setCell (p:=⟨db,4,none⟩) hlo _) rfl rfl rfl (fun _=>⟨by show max (L-1) (-1)=L-1;omega,by omega,by omega⟩));rw[hd] at H1;clear HST H1 H6 HW hl1 e1 e2 e3;go_enter Tryz.func239,Tryz.ntmps239;go_wp2;go_ret;exact⟨rfl,HE.out⟩
   ·have e4:bR s=s:=by rw[e2,if_neg (by rw[<-hl1];omega)]
    rw[e4];clear e4 HST H1 H6 hl1 e1 e2;go_enter Tryz.func239,Tryz.ntmps239;go_wp2;go_ret;exact⟨rfl,HW.out.stay (r_ _ _)⟩
theorem zJk {w:World} {g:Nat} {l:List ByteArray} {t:TypeId} (h:w.heap[g]?=some (.cells (l.flatMap secV).toArray t (0,0))) (hs:∀ x∈l,x.size=96) {i:Nat} (hi:i<l.length):w.rangeAt g (i*96) (secV l[i]):=
 jD h fun j hj=>uZ (fun x hx=>(cM x).trans (hs x hx)) i j hi (by rw[cM,hs _ (List.getElem_mem hi)] at hj;exact hj)
theorem tV (at_:Int) (w:World) (h:DK w B db S s):Calls p_ 202 #[.pointer (some ⟨db,0,none⟩),.int .i64 at_] w fun e w'=>e=.returned (.tuple #[.string (nX s at_),errV (lI s at_)])/\w'=w:=by
 have HH:=hide (fun W (hW:DK W B db S s)=>zCJ at_ W hW);have HW:=hide h;obtain⟨nb,kb,lb,n,lv,loose,L,h1,h2,hS,h4,h5,h6,h7⟩:=h;have c0:=h1.c0;have c5:=h1.c5;have hn:=h2.n1;have hnn:=h2.nn;unfold nX lI
 cases hd:s.down with
 | true=>
  rw[hd] at c5;simp only[if_true,show(10:Nat)=0↔False by decide,if_false,aP (show(10:Nat)≠0 by decide)];clear HH h1 h2 hS h4 h5 h6 HW;go_enter Tryz.func202,Tryz.ntmps202;go_wp2;go_ret2;exact⟨rfl,rfl⟩
 | false=>
  rw[hd] at c5;simp only[Bool.false_eq_true,if_false];by_cases hr:at_<0∨(s.now.length:Int)<=at_
  ·have hb:hasD s at_=false:=by unfold hasD;simp;omega
   rw[hb] at HH;rw[if_pos hr,if_neg (by decide),aP (show(1:Nat)≠0 by decide)];clear h1 h2 hS h4 h5 h6;go_enter Tryz.func202,Tryz.ntmps202;go_wp2_with (go_at_call 241;refine(HH.out _ HW.out).mono ?_;rintro e w1 ⟨rfl,rfl⟩)
   go_ret2;exact⟨rfl,rfl⟩
  ·have hb:hasD s at_=true:=by unfold hasD;simp;omega
   rw[hb] at HH;rw[if_neg hr,if_pos rfl,aR];obtain⟨a,rfl⟩:=Int.eq_ofNat_of_zero_le (show 0<=at_ by omega);have ha:a<s.now.length:=by omega
   have ha':(a:Int)<(n:Int):=by omega
   rw[Int.toNat_natCast,List.getElem?_eq_getElem ha,Option.getD_some];have hra:=zJk h2.hn h2.sn ha;have hsz:=h2.sn _ (List.getElem_mem ha);generalize s.now[a]=d at *;have hcv:=run_convert_bytes_back (P:=p_) w 247 9 5 ⟨nb,a*96,none⟩ 96 d.data.toList Tryz.underlying247 Tryz.underlying5 Tryz.underlying9 (fun j hj=>by rw[Go.Addr.add_mid];exact hra j _ (by unfold secV;rw[List.getElem?_map,List.getElem?_eq_getElem hj];rfl));have hdl:d.data.toList.length=96:=by rw[Array.length_toList];exact hsz
   rw[hdl] at hcv;clear h1 h2 hS h4 h5 h6 hra hr;go_enter Tryz.func202,Tryz.ntmps202;go_wp2_with (go_at_call 241;refine(HH.out _ HW.out).mono ?_;rintro e w1 ⟨rfl,rfl⟩)
   go_ret2;exact⟨by simp,rfl⟩
end
end
section
open Go.RowKit Go.Joins
theorem zLV (off:Nat) (vs:List Value) (C:Array Value) (h:off+vs.length<=C.size):(vs.toArray.zipIdx.foldl (fun cs (x:Value×Nat)=>cs.setIfInBounds (off+x.2) x.1) C)=(splice C.toList off vs).toArray:=by
 have e:vs.toArray.zipIdx.foldl (fun cs (x:Value×Nat)=>cs.setIfInBounds (off+x.2) x.1) C=(vs.zipIdx 0).foldl (fun cs (x:Value×Nat)=>cs.setIfInBounds (off+x.2) x.1) C:=by
  rw[<-Array.foldl_toList];simp
 rw[e];obtain⟨h1,h2⟩:=Go.Great.foldl_set off vs 0 C;apply Array.ext';apply List.ext_getElem?;intro k;rw[Array.getElem?_toList,h2 k];show _=(splice C.toList off vs)[k]?;have hC:C.toList.length=C.size:=Array.length_toList ..;rw[mS _ _ _ (by rw[hC];exact h),Nat.add_zero];by_cases h3:k<off
 ·rw[if_neg (by omega),if_pos h3,Array.getElem?_toList]
 ·rw[if_neg h3];by_cases h4:k<off+vs.length
  ·rw[if_pos ⟨by omega,h4,by omega⟩,if_pos h4]
  ·rw[if_neg (by omega),if_neg h4,Array.getElem?_toList]
theorem wM:∃ i z,Tryz.prog.info? 200=some i/\i.zero=some z/\i.size=97/\i.bytes=104/\z.cells.size=97:=by
 have h:(Tryz.prog.info? 200).bind (fun i=>i.zero.map fun z=>(z.cells.size,i.size,i.bytes))=some (97,97,104):=by kernel_rfl
 cases hi:Tryz.prog.info? 200 with
 | none=>rw[hi] at h;cases h
 | some i=>
  rw[hi] at h
  cases hz:i.zero with
  | none=>simp[hz] at h
  | some z=>
   simp only[Option.bind_some,hz,Option.map_some,Option.some.injEq,Prod.mk.injEq] at h;exact⟨i,z,rfl,hz,h.2.1,h.2.2,h.1⟩
theorem zAy {L cs:List Value} (h:cs.length=L.length):splice L (0*97) cs=cs:=by
 unfold splice;rw[Nat.zero_mul,List.take_zero,List.nil_append,Nat.zero_add,h,List.drop_length,List.append_nil]
theorem zMb (x:Wr) (hx:x.2.size=96) (w:World):(Instr.buildSlice 196 1 #[(0,.agg (bL x).toArray)]).run p_ w=.ok (.slice (some ⟨w.heap.size,0,none⟩) 1 1) (w.alloc (.cells (bL x).toArray 200)):=by
 obtain⟨i,z,hi,hz,hs,_,_⟩:=wM;refine run_buildSlice w _ _ 1 _ _ i z Tryz.underlying196 hi hz (by rw[hs];omega) (by rw[hs];omega) ?_;have hl:=aY hx;have hC:((Array.range (1*i.size)).map (z.cells[· % z.cells.size]!)).size=97:=by rw[Array.size_map,Array.size_range,hs]
 generalize (Array.range (1*i.size)).map (z.cells[· % z.cells.size]!)=C at *;show Instr.fill _ C [(0,.agg (bL x).toArray)]=_;unfold Instr.fill;dsimp only;rw[hs,show(Value.agg (bL x).toArray).cells=(bL x).toArray from rfl,if_neg (by rw[List.size_toArray,hl,hC];decide)];unfold Instr.fill;have e:=zLV (0*97) (bL x) C (by rw[hl,hC];decide);rw[e];rw[Option.some.injEq];refine congrArg List.toArray ?_;have hCl:C.toList.length=97:=(Array.length_toList ..).trans hC;exact zAy (by rw[hl,hCl])
theorem zG8 (C:Array Value) (hC:C.size=97) (q:Int) (d:ByteArray) (hd:d.size=96):List.foldl (fun cs (x:Value×Nat)=>cs.setIfInBounds (1+x.2) x.1) (C.setIfInBounds 0 (i_ .i64 q)) (secV d).zipIdx=(bL (q,d)).toArray:=by
 obtain⟨h1,h2⟩:=Go.Great.foldl_set 1 (secV d) 0 (C.setIfInBounds 0 (i_ .i64 q));have hl:(secV d).length=96:=(cM d).trans hd;apply Array.ext';apply List.ext_getElem?;intro k;rw[Array.getElem?_toList,h2 k,Array.size_setIfInBounds,hC];show _=(bL (q,d))[k]?;unfold bL
 cases k with
 | zero=>rw[if_neg (by omega)];simp[hC]
 | succ k=>
  rw[List.getElem?_cons_succ];by_cases h:k<96
  ·rw[if_pos ⟨by omega,by omega,by omega⟩];congr 1
  ·rw[if_neg (by omega),Array.getElem?_eq_none (by rw[Array.size_setIfInBounds,hC];omega),List.getElem?_eq_none (by rw[hl];omega)]
end
section
open Go.RowKit Go.Joins
attribute [local go_sem ↓] Go.wp_at_zero Go.wp_at_succ
theorem zIO (pb:Nat) (q:Int) (g cap:Nat) (l:List Wr) (B:Nat) (w:World) (hq:w.cell? ⟨pb,0,none⟩=some (.int .i64 q)) (h:ownW w B (.slice (some ⟨g,0,none⟩) l.length cap) l) (hpg:pb≠g) (hl:l.length<=1000) (hB:B<=w.heap.size):
  Calls p_ 279 #[.slice (some ⟨g,0,none⟩) l.length cap,.func (.func 280) #[] #[.pointer (some ⟨pb,0,none⟩)]] w fun e w'=>e=.returned (.slice (some ⟨g,0,none⟩) (offW q l).length cap)/\zGJ w w' B g (.slice (some ⟨g,0,none⟩) (offW q l).length cap) (offW q l):=by
 have HI:=hide (zKB pb q g cap l B w hq h hl);have H:=hide h;have HQ:=hide hq;have hpb:pb<w.heap.size:=World.block_lt_of_cell? _ _ hq;have hgl:g<w.heap.size:=by
  rcases h.1.2 with⟨e,_⟩|⟨g',cap',cur,e,_,hg,_⟩
  ·cases e
  ·cases e;exact(Array.getElem?_eq_some_iff.1 hg).1
 have hBg:B<=g:=(l_ h.1 g rfl).1;have hcap:l.length<=cap/\cap<=9223372036854775807:=by
  rcases h.1.2 with⟨e,_⟩|⟨g',cap',cur,e,_,hg,h1,h2,_⟩
  ·cases e
  ·cases e;unfold maxLen at h2;exact⟨h1,by omega⟩
 obtain⟨hc1,hc2⟩:=hcap;clear h hq
 cases hix:idxW q l with
 | none=>
  have HR:=hide (zHK hix);have hin:idxN q l=-1:=by unfold idxN;rw[hix]
  rw[hin] at HI;rw[HR.out];clear hix hin;go_enter Tryz.func279,Tryz.ntmps279;go_wp2_with (go_at_call 315;refine HI.out.mono ?_;rintro e w1 ⟨rfl,hb1⟩)
  go_ret;exact⟨rfl,⟨gD H.out fun k e=>by cases e;exact hb1.block g hgl,hb1.mono hB,fun k _ hk=>hb1.block k hk⟩⟩
 | some i0=>
  obtain⟨hi0,hh,ht⟩:=zBK hix;have hin:idxN q l=(i0:Int):=by unfold idxN;rw[hix]
  rw[hin] at HI;have HT:=hide ht;have HHit:=hide hh;clear hix hin ht hh;have hne:((i0:Int) == -1)=false:=beq_eq_false_iff_ne.2 (by omega);go_enter Tryz.func279,Tryz.ntmps279;go_wp2_with (go_at_call 315;refine HI.out.mono ?_;rintro e w1 ⟨rfl,hb1⟩)
  go_loopw [5,6] (fun iv jv wr=>∃ (j:Nat) (L:List Wr),j<=l.length/\(offW q (l.take j)).length<j/\iv=.int .i64 ((offW q (l.take j)).length:Int)/\jv=.int .i64 (j:Int)/\L.length=l.length/\L.take (offW q (l.take j)).length=offW q (l.take j)/\(∀ m,j<=m->L[m]?=l[m]?)/\zGJ w wr B g (.slice (some ⟨g,0,none⟩) l.length cap) L) (fun _ jv _=>l.length-(intOf jv).toNat)
  case atStart=>
   have e1:offW q (l.take (i0+1))=l.take i0:=by rw[zA2 hi0,HHit.out,HT.out];simp
   refine⟨i0+1,l,by omega,by rw[e1,List.length_take];omega,?_,by go_num,rfl,?_,fun _ _=>rfl,⟨gD H.out fun k e=>by cases e;exact hb1.block g hgl,hb1.mono hB,fun k _ hk=>hb1.block k hk⟩⟩
   ·rw[e1,List.length_take,Nat.min_eq_left (by omega)]
   ·rw[e1,List.length_take,Nat.min_eq_left (by omega)]
  case round=>
   obtain⟨j,L,hj,hij,rfl,rfl,hLl,hLt,hLd,hD⟩:=hrel;have HD:=hide hD;have HLT:=hide hLt;have HLD:=hide hLd;have HLL:=hide hLl;clear hD hLt hLd hLl;by_cases hlt:j<l.length
   ·have hlt':(j:Int)<(l.length:Int):=by omega
    have hown:ownW wr B (.slice (some ⟨g,0,none⟩) L.length cap) L:=by rw[HLL.out];exact HD.out.own
    have hjL:j<L.length:=by rw[HLL.out];exact hlt
    have hx:L[j]=l[j]:=by
     have:=HLD.out j (n_ _);rw[List.getElem?_eq_getElem hjL,List.getElem?_eq_getElem hlt] at this;exact Option.some.inj this
    have hra:=yM hown hjL;rw[hx] at hra;have HRA:=hide hra;have hsx:l[j].2.size=96:=by rw[<-hx];exact hown.2 _ (List.getElem_mem hjL)
    have HSX:=hide hsx;have HOT:=hide (zA2 (q:=q) hlt);generalize hxe:l[j]=x at *;have HXE:=hide hxe;have HOWN:=hide hown;have HLX:=hide hx;clear hxe hown hx hra hsx;generalize hie:(offW q (List.take j l)).length=i at *;have HIE:=hide hie;clear hie;have hcl:(bL x).length=97:=aY HSX.out;have hz:(Tryz.zeroCells200).size=97:=by kernel_rfl
    have hst:=zBB (P:=p_) wr Tryz.zeroCells200 200 (bL x) (by rw[hcl,hz]) (qY x);clear hz;have HNL:Hid ((wr.alloc (.cells (bL x).toArray 200)).rangeAt wr.heap.size 0 (bL x)):=jD (Go.heap_alloc_new wr _) (fun j _=>by rw[Nat.zero_add]);have hsz:w.heap.size<=wr.heap.size:=HD.out.bel.size;have hqx:(wr.alloc (.cells (bL x).toArray 200)).cell? ⟨pb,0,none⟩=some (.int .i64 q):=by
     rw[World.cell?_alloc_lt _ _ _ (show pb<wr.heap.size by omega),b_ (HD.out.far pb hpg hpb)];exact HQ.out
    have HH:=fun (W:World) hW=>hide (zFk pb q x W hW);have HQX:=hide hqx;clear hqx;have hlw:∀ w2:World,Below (wr.alloc (.cells (bL x).toArray 200)).heap.size (wr.alloc (.cells (bL x).toArray 200)) w2->w2.rangeAt wr.heap.size 0 (bL x):=fun w2 hb=>mF hb HNL.out;have HLW:=hide hlw;have HDX:Hid (∀ w2:World,Below (wr.alloc (.cells (bL x).toArray 200)).heap.size (wr.alloc (.cells (bL x).toArray 200)) w2->zGJ w w2 B g (.slice (some ⟨g,0,none⟩) l.length cap) L):=fun w2 hb=>by
     have hb':=aB (a_ wr (.cells (bL x).toArray 200)) (n_ _) hb;exact⟨gD HD.out.own fun k e=>by cases e;exact hb'.block g (by omega),HD.out.bel.trans (hb'.mono (by omega)),fun k h1 h2=>(hb'.block k (by omega)).trans (HD.out.far k h1 h2)⟩
    clear hlw
    cases hbq:(x.1==q) with
    | true=>
     go_wp2_with (first
      | (refine wpList_load_mid (by rfl) 200 _ (by rfl) g (j*97) (by rfl) (bL x) _ HRA.out Tryz.underlying200 (by rfl) (by rw[aY HSX.out];exact gA) ?_)
      | (refine wpList_load_mid (by rfl) 200 _ (by rfl) wr.heap.size 0 (by rfl) (bL x) _ HNL.out Tryz.underlying200 (by rfl) (by rw[aY HSX.out];exact gA) ?_)
      | (go_at_call 280;refine(HH _ HQX.out).out.mono ?_;rintro e w2 ⟨rfl,hb2⟩)
      | fail)
     have e1:offW q (l.take (j+1))=offW q (l.take j):=by rw[HOT.out,hbq];simp
     refine⟨⟨j+1,L,by omega,by rw[e1,HIE.out];omega,by rw[e1,HIE.out],by go_num,HLL.out,by rw[e1,HIE.out];exact HLT.out,fun m hm=>HLD.out m (by omega),HDX.out _ hb2⟩,by simp[intOf];omega⟩
    | false=>
     have hib:(i:Int)<(l.length:Int):=by omega
     go_wp2_with (first
      | (refine wpList_load_mid (by rfl) 200 _ (by rfl) g (j*97) (by rfl) (bL x) _ HRA.out Tryz.underlying200 (by rfl) (by rw[aY HSX.out];exact gA) ?_)
      | (refine wpList_load_mid (by rfl) 200 _ (by rfl) wr.heap.size 0 (by rfl) (bL x) _ HNL.out Tryz.underlying200 (by rfl) (by rw[aY HSX.out];exact gA) ?_)
      | (refine wpList_load_mid (by rfl) 200 _ (by rfl) wr.heap.size 0 (by rfl) (bL x) _ (HLW.out _ hb2) Tryz.underlying200 (by rfl) (by rw[aY HSX.out];exact gA) ?_)
      | (go_at_call 280;refine(HH _ HQX.out).out.mono ?_;rintro e w2 ⟨rfl,hb2⟩)
      | (refine wpList_store_mid (by rfl) 200 _ _ (by rfl) g (i*97) (bL x).toArray (by rfl) (by rfl) (by rw[List.size_toArray,aY HSX.out];exact(zFK (by rw[HLL.out];exact(HDX.out _ hb2).own) (by rw[HLL.out];omega))) (by rw[List.size_toArray,aY HSX.out];exact gA) (all_oneCell_toArray (qY x)) ?_)
      | fail)
     have e1:offW q (l.take (j+1))=offW q (l.take j)++[x]:=by rw[HOT.out,hbq];rfl
     have e2:(offW q (l.take (j+1))).length=i+1:=by rw[e1,List.length_append,HIE.out];rfl
     have hD2:=HDX.out _ hb2;have hiL:i<L.length:=by rw[HLL.out];omega
     refine⟨⟨j+1,L.set i x,by omega,by rw[e2];omega,by rw[e2];go_num,by go_num,by rw[List.length_set];exact HLL.out,?_,fun m hm=>?_,⟨?_,dW hBg _ _ _ hD2.bel,fun k h1 h2=>(cA g _ _ _ h1).trans (hD2.far k h1 h2)⟩⟩,by simp[intOf];omega⟩
     ·rw[e2,e1,List.take_set,List.take_succ_eq_append_getElem hiL,HLT.out,List.set_append_right _ _ (by rw[HIE.out];exact n_ _),HIE.out,Nat.sub_self];rfl
     ·rw[List.getElem?_set_ne (by omega)];exact HLD.out m (by omega)
     ·have:=zKj (by rw[HLL.out];exact hD2.own) i hiL x HSX.out;rw[HLL.out] at this;exact this
   ·have ej:j=l.length:=by omega
    subst ej;have hlt':¬(l.length:Int)<(l.length:Int):=by omega
    rw[List.take_length] at *;have hown:ownW wr B (.slice (some ⟨g,0,none⟩) L.length cap) L:=by rw[HLL.out];exact HD.out.own
    have hR:=zKZ hown HLT.out;obtain⟨cur,hcur,hcl⟩:=zFR hown;obtain⟨z,hz1,hz2,hz3⟩:=zFW;have hrun:=fun ty=>oJ (P:=p_) wr 196 200 ty z Tryz.underlying196 hz1 hz3 g ((offW q l).length*97) (l.length-(offW q l).length) (cap-(offW q l).length) cur _ hcur (by rw[hz2,hcl,<-Nat.add_mul];exact Nat.mul_le_mul_right _ (by omega));have HP:=hide (zIu hR (Builtin.zeroCells z.cells (l.length-(offW q l).length)).toList (by simp only[Builtin.zeroCells,Array.length_toList,Array.size_map,Array.size_range,hz2];rw[<-Nat.add_mul];exact Nat.mul_le_mul_right _ (by omega)));generalize (Builtin.zeroCells z.cells (l.length-(offW q l).length)).toList=zs at *;have HHR:=hide hrun;clear hrun hz1 hz2 hz3 hR hown hcur hcl;generalize hRe:offW q l=R at *;have HRE:=hide hRe;clear hRe;have hr0:=HHR.out 0;go_wp2;go_ret;rw[HRE.out];exact⟨rfl,⟨HP.out,dW hBg _ _ _ HD.out.bel,fun k h1 h2=>(cA g _ _ _ h1).trans (HD.out.far k h1 h2)⟩⟩
theorem zLb (pb:Nat) (w:World):
  Calls p_ 279 #[.slice none 0 0,.func (.func 280) #[] #[.pointer (some ⟨pb,0,none⟩)]] w fun e w'=>e=.returned (.slice none 0 0)/\w'=w:=by
 have HI:Calls p_ 315 #[.slice none 0 0,.func (.func 280) #[] #[.pointer (some ⟨pb,0,none⟩)]] w fun e w'=>e=.returned (.int .i64 (-1))/\w'=w:=by
  go_enter Tryz.func315,Tryz.ntmps315;go_wp2;refine wp_loop_rounds 1 ?_;rw[rounds_succ];go_wp2;go_ret;exact⟨rfl,rfl⟩
 go_enter Tryz.func279,Tryz.ntmps279;go_wp2_with (go_at_call 315;refine HI.mono ?_;rintro e w1 ⟨rfl,rfl⟩)
 go_ret;exact⟨rfl,rfl⟩
structure DelV (w w':World) (B:Nat) (v v':Value) (l:List Wr):Prop where
 own:ownW w' B v' l
 bel:Below B w w'
 far:∀ k,v.ownBlock≠some k->k<w.heap.size->w'.heap[k]?=w.heap[k]?
 same:v'.ownBlock=v.ownBlock
theorem zMt (pb:Nat) (q:Int) (v:Value) (l:List Wr) (B:Nat) (w:World) (hq:w.cell? ⟨pb,0,none⟩=some (.int .i64 q)) (h:ownW w B v l) (hpg:v.ownBlock≠some pb) (hl:l.length<=1000) (hB:B<=w.heap.size):
  Calls p_ 279 #[v,.func (.func 280) #[] #[.pointer (some ⟨pb,0,none⟩)]] w fun e w'=>∃ ao n cap,e=.returned (.slice ao n cap)/\DelV w w' B v (.slice ao n cap) (offW q l):=by
 rcases h.1.2 with⟨e,e2⟩|⟨g,cap,cur,e,_⟩
 ·subst e;have hl0:l=[]:=List.eq_nil_of_length_eq_zero e2;subst hl0;exact(zLb pb w).mono fun e w' ⟨he,hw⟩=>⟨none,0,0,he,by subst hw;exact⟨h,r_ _ _,fun _ _ _=>rfl,rfl⟩⟩
 ·subst e;exact(zIO pb q g cap l B w hq h (fun e=>hpg (by rw[e];rfl)) hl hB).mono fun e w' ⟨he,hD⟩=>⟨_,_,_,he,⟨hD.own,hD.bel,fun k hk hlt=>hD.far k (fun e=>hk (by rw[e];rfl)) hlt,rfl⟩⟩
def zLH (f:TypeId->Value->Sem Value) (p:Value):Sem Value:=f 200 p
def zLL (f:TypeId->Nat->Array (Nat×Value)->Sem Value) (l:Array (Nat×Value)):Sem Value:=f 196 1 l
theorem zM3 (p:Value):Instr.loadAt 200 p=zLH Instr.loadAt p:=rfl
theorem zMR (l:Array (Nat×Value)):Instr.buildSlice 196 1 l=zLL Instr.buildSlice l:=rfl
section
variable {B db:Nat} {S:Nat->Prop} {s:DSt}
theorem DBy.noted {W2 W6:World} {nb kb lb n a:Nat} {lv:List Value} {now kpt:List ByteArray} {loose:List (List Wr)} {next left:Int} {down:Bool} {v5:Value} {l5:List Wr} (h1:DHd W2 db nb kb lb n next left down) (h2:DBy W2 B db nb kb lb n lv now kpt loose) (ha:a<lv.length)
  (hl6:W6.heap[lb]?=some (.cells (lv.set a v5).toArray 196 (0,0))) (how:ownW W6 B v5 l5) (hg:∀ k,v5.ownBlock=some k->lv[a].ownBlock=some k∨W2.heap.size<=k)
  (far:∀ k,k<W2.heap.size->k≠lb->k≠db->lv[a].ownBlock≠some k->W6.heap[k]?=W2.heap[k]?) (bel:Below B W2 W6):
  DBy W6 B db nb kb lb n (lv.set a v5) now kpt (loose.set a l5)/\aG W2 W6 B (inD db nb kb lb lv) (inD db nb kb lb (lv.set a v5)):=by
 have hap:=h2.ap;have hlt:∀ k,inD db nb kb lb lv k->k<W2.heap.size:=fun k hk=>h2.lt h1.lt hk;have o5:∀ k,v5.ownBlock=some k->k≠db/\k≠nb/\k≠kb/\k≠lb/\∀ j (hj:j<lv.length),lv[j].ownBlock=some k->j=a:=fun k e=>by
  rcases hg k e with e2|e2
  ·obtain⟨p1,p2,p3,p4⟩:=h2.apo a ha k e2;exact⟨p1,p2,p3,p4,fun j hj e3=>h2.dis j a hj ha k e3 e2⟩
  ·have q1:=hlt db (.inl rfl);have q2:=hlt nb (.inr (.inl rfl));have q3:=hlt kb (.inr (.inr (.inl rfl)));have q4:=hlt lb (.inr (.inr (.inr (.inl rfl))));exact⟨by omega,by omega,by omega,by omega,fun j hj e3=>by have:=hlt k (.inr (.inr (.inr (.inr ⟨j,hj,e3⟩))));omega⟩
 have onb:∀ k,(k=nb∨k=kb)->W6.heap[k]?=W2.heap[k]?:=fun k hk=>by
  rcases hk with rfl|rfl
  ·exact far _ (hlt _ (.inr (.inl rfl))) hap.2.2.2.2.1 hap.1.symm fun e=>(h2.apo a ha _ e).2.1 rfl
  ·exact far _ (hlt _ (.inr (.inr (.inl rfl)))) hap.2.2.2.2.2 hap.2.1.symm fun e=>(h2.apo a ha _ e).2.2.1 rfl
 refine⟨{ h2 with hn:=(onb nb (.inl rfl)).trans h2.hn,hk:=(onb kb (.inr rfl)).trans h2.hk,hl:=hl6,nl:=by rw[List.length_set];exact h2.nl,no:=by rw[List.length_set];exact h2.no,own:=fun i hi hi'=>?_,dis:=fun i j hi hj k e1 e2=>?_,apo:=fun i hi k e=>?_ },⟨bel,fun k hk hn=>⟨far k hk (fun e=>hn (.inr (.inr (.inr (.inl e))))) (fun e=>hn (.inl e)) (fun e=>hn (.inr (.inr (.inr (.inr ⟨a,ha,e⟩))))),?_⟩⟩⟩
 ·rw[List.length_set] at hi hi';by_cases e:a=i
  ·subst e;rw[List.getElem_set_self,List.getElem_set_self];exact how
  ·rw[List.getElem_set_ne e,List.getElem_set_ne e];refine gD (h2.own i hi hi') fun k hk=>?_;obtain⟨p1,p2,p3,p4⟩:=h2.apo i hi k hk;exact far k (hlt k (.inr (.inr (.inr (.inr ⟨i,hi,hk⟩))))) p4 p1 fun e2=>e (h2.dis a i ha hi k e2 hk)
 ·rw[List.length_set] at hi hj;by_cases ei:a=i
  ·subst ei;rw[List.getElem_set_self] at e1;by_cases ej:a=j
   ·exact ej
   ·rw[List.getElem_set_ne ej] at e2;exact((o5 k e1).2.2.2.2 j hj e2).symm
  ·rw[List.getElem_set_ne ei] at e1;by_cases ej:a=j
   ·subst ej;rw[List.getElem_set_self] at e2;exact(o5 k e2).2.2.2.2 i hi e1
   ·rw[List.getElem_set_ne ej] at e2;exact h2.dis i j hi hj k e1 e2
 ·rw[List.length_set] at hi;by_cases ei:a=i
  ·subst ei;rw[List.getElem_set_self] at e;obtain⟨p1,p2,p3,p4,_⟩:=o5 k e;exact⟨p1,p2,p3,p4⟩
  ·rw[List.getElem_set_ne ei] at e;exact h2.apo i hi k e
 ·rintro(e|e|e|e|⟨i,hi,e⟩)
  ·exact hn (.inl e)
  ·exact hn (.inr (.inl e))
  ·exact hn (.inr (.inr (.inl e)))
  ·exact hn (.inr (.inr (.inr (.inl e))))
  ·rw[List.length_set] at hi;by_cases ei:a=i
   ·subst ei;rw[List.getElem_set_self] at e;rcases hg k e with e2|e2
    ·exact hn (.inr (.inr (.inr (.inr ⟨a,ha,e2⟩))))
    ·omega
   ·rw[List.getElem_set_ne ei] at e;exact hn (.inr (.inr (.inr (.inr ⟨i,hi,e⟩))))
attribute [local go_sem ↓] zM3 zMR
theorem zHY (a:Nat) (d:ByteArray) (w:World) (h:DK w B db S s) (ha:a<s.now.length) (hd:d.size=96):Calls p_ 242 #[.pointer (some ⟨db,0,none⟩),.int .i64 a,.agg (secV d).toArray] w fun e w'=>e=.returned (.tuple #[])/\ActD w w' B db S { s with wait:=s.wait++[(a,d)] }:=by
 obtain⟨nb,kb,lb,n,lv,loose,L,h1,h2,hS,h4,h5,h6,h7⟩:=h;obtain⟨q,hq⟩:∃ q:Int,((s.wait.length % 64:Nat):Int)=q:=⟨_,rfl⟩;have hq0:0<=q/\q<64:=by omega
 rw[hq] at h1;have HQ:=hide hq;clear hq;obtain⟨cw,hcw⟩:∃ cw:List Value,cw=bL (q,d):=⟨_,rfl⟩;have hcl:cw.length=97:=by rw[hcw];exact aY hd
 have HCW:=hide hcw;have hb0:=a_ w (.cells (secV d).toArray 198);have hdb:=h1.lt;have c3:=aA hb0 h1.c3;have hzs:(Tryz.zeroCells200).size=97:=by kernel_rfl
 have hfw:List.foldl (fun cs (x:Value×Nat)=>cs.setIfInBounds (1+x.2) x.1) ((Tryz.zeroCells200).setIfInBounds 0 (i_ .i64 q)) (secV d).zipIdx=cw.toArray:=by rw[hcw];exact zG8 _ hzs q d hd
 have hst:(storeCells ⟨w.heap.size+1,0,none⟩ cw).run p_ ((w.alloc (.cells (secV d).toArray 198)).alloc (.cells Tryz.zeroCells200 200)).drew=.ok () ((w.alloc (.cells (secV d).toArray 198)).alloc (.cells cw.toArray 200)).drew:=by
  have:=zBB (P:=p_) (w.alloc (.cells (secV d).toArray 198)).drew Tryz.zeroCells200 200 cw (by rw[hcl,hzs]) (by rw[hcw];exact qY _);rw[show(w.alloc (.cells (secV d).toArray 198)).drew.heap.size=w.heap.size+1 by simp] at this;exact this
 have hra:(w.alloc (.cells (secV d).toArray 198)).rangeAt w.heap.size 0 (secV d):=jD (Go.heap_alloc_new w _) (fun j _=>by rw[Nat.zero_add]);have hu:=Tryz.underlying198;have hcs:(secV d).length=96:=(cM d).trans hd;have hi:(Tryz.prog.info? 198).map (·.size)=some (secV d).length:=by rw[hcs];exact nV
 have hb1:Below (w.alloc (.cells (secV d).toArray 198)).heap.size (w.alloc (.cells (secV d).toArray 198)) ((w.alloc (.cells (secV d).toArray 198)).alloc (.cells cw.toArray 200)).drew:=(a_ (w.alloc (.cells (secV d).toArray 198)) (.cells cw.toArray 200)).drew;have hb2:Below (w.alloc (.cells (secV d).toArray 198)).heap.size (w.alloc (.cells (secV d).toArray 198)) ((w.alloc (.cells (secV d).toArray 198)).alloc (.cells Tryz.zeroCells200 200)).drew:=(a_ (w.alloc (.cells (secV d).toArray 198)) (.cells Tryz.zeroCells200 200)).drew;have HC3:=hide (aA hb2 c3);have HC4:=hide (mF hb2 hra);have HC1:=hide (aA hb1 c3);have HC2:=hide (mF hb1 hra);have HB1:=hide (aB hb0 (n_ _) hb1);have H1:=hide h1;have H2:=hide h2;have H4:=hide h4;have H5:=hide h5;have H6:=hide h6;have HS:=hide hS;clear h1 h2 h4 h5 h6 hS hzs hcw hb1 hb2 hb0;go_enter Tryz.func242,Tryz.ntmps242;go_wp2_with (fail)
 go_region_held3 (fun w'=>w'.cell? ⟨db,3,none⟩=some (.int .i64 q)/\w'.rangeAt w.heap.size 0 (secV d)) (first|exact⟨HC1.out,HC2.out⟩|exact⟨HC3.out,HC4.out⟩|go_keep) (fail)
 have H1':=hide (H1.out.kept (w':=((w.alloc (.cells (secV d).toArray 198)).alloc (.cells cw.toArray 200)).drew) (HB1.out.block db hdb));have H2':=hide (H2.out.kept fun k _ hk=>HB1.out.block k (H2.out.lt hdb hk));have HRA:Hid (((w.alloc (.cells (secV d).toArray 198)).alloc (.cells cw.toArray 200)).drew.rangeAt (w.heap.size+1) 0 cw):=jD (fr:=(0,0)) (t:=200) (by have:=Go.heap_alloc_new (w.alloc (.cells (secV d).toArray 198)) (.cells cw.toArray 200);rw[show(w.alloc (.cells (secV d).toArray 198)).heap.size=w.heap.size+1 by simp] at this;exact this) (fun j _=>by rw[Nat.zero_add]);have HSZ:Hid (((w.alloc (.cells (secV d).toArray 198)).alloc (.cells cw.toArray 200)).drew.heap.size=w.heap.size+2):=by simp[Hid]
 clear HC1 HC2 HC3 HC4 hst hra hfw c3 hu hi;generalize ((w.alloc (.cells (secV d).toArray 198)).alloc (.cells cw.toArray 200)).drew=W2 at *;have hal:a<lv.length:=by rw[H2'.out.nl,<-H2'.out.nn];exact ha
 have halo:a<loose.length:=by rw[H2'.out.no,<-H2'.out.nn];exact ha
 have HOW:=hide (H2'.out.own a hal halo);have c2:=H1'.out.c2;have cl:W2.cell? ⟨lb,a,none⟩=some lv[a]:=by rw[cell_of_row W2 lb a _ _ _ H2'.out.hl,List.getElem?_toArray];exact List.getElem?_eq_getElem hal
 have hls:loose[a].length<=64:=H4.out.short halo;have hpq:W2.cell? ⟨w.heap.size+1,0,none⟩=some (.int .i64 q):=HRA.out 0 _ (by rw[HCW.out];rfl);have HPN:Hid (lv[a].ownBlock≠some (w.heap.size+1)):=fun e=>by have:=H2.out.lt hdb (.inr (.inr (.inr (.inr ⟨a,hal,e⟩))));omega
 have HDL:Hid (∀ W,W2.heap=W.heap->Calls p_ 279 #[lv[a],.func (.func 280) #[] #[.pointer (some ⟨w.heap.size+1,0,none⟩)]] W fun e w'=>∃ ao m cap,e=.returned (.slice ao m cap)/\DelV W w' B lv[a] (.slice ao m cap) (offW q loose[a])):=fun W hW=>
  zMt (w.heap.size+1) q lv[a] loose[a] B W ((b_ (by rw[hW])).trans hpq) (gD HOW.out fun k _=>by rw[hW]) HPN.out (by omega) (by rw[<-hW,HSZ.out];omega)
 have hdb2:db<W2.heap.size:=by rw[HSZ.out];omega
 have hlb2:lb<W2.heap.size:=World.block_lt_of_cell? _ _ cl;have hla:(a:Int)<(n:Int):=by rw[<-H2'.out.nn];omega
 have hla0:(0:Int)<=(a:Int):=by omega
 have fl:W2.frozen? ⟨lb,a,none⟩=false:=by simp[World.frozen?,H2'.out.hl]
 have HNO:Hid (lv[a].ownBlock≠some db/\lv[a].ownBlock≠some lb):=⟨fun e=>(H2'.out.apo a hal _ e).1 rfl,fun e=>(H2'.out.apo a hal _ e).2.2.2 rfl⟩;generalize hva:lv[a]=va at *;have HVA:=hide hva;clear hva;have htest:∀ (w3:World) (ao:Option Addr) (m cap:Nat),DelV W2.drew w3 B va (.slice ao m cap) (offW q loose[a])->w3.cell? ⟨db,2,none⟩=some (.slice (some ⟨lb,0,none⟩) n n)/\w3.cell? ⟨lb,a,none⟩=some va/\w3.frozen? ⟨lb,a,none⟩=false:=fun w3 ao m cap hD=>by
  have e1:w3.heap[db]?=W2.heap[db]?:=hD.far db HNO.out.1 hdb2;have e2:w3.heap[lb]?=W2.heap[lb]?:=hD.far lb HNO.out.2 hlb2;exact⟨(b_ (a:=⟨db,2,none⟩) e1).trans c2,(b_ (a:=⟨lb,a,none⟩) e2).trans cl,(World.frozen?_of_block (a:=⟨lb,a,none⟩) e2).trans fl⟩
 have HTE:=hide htest;clear htest;go_wp2_with (fail)
 go_cut [] (fun wx=>∃ ao m cap w3,DelV W2.drew w3 B va (.slice ao m cap) (offW q loose[a])/\w3.setCell ⟨lb,a,none⟩ (.slice ao m cap)=wx)
 case first=>
  go_region_law (first
   | (go_simp;go_at_call 279;refine(HDL.out W2.drew rfl).mono ?_;rintro e w3 ⟨ao,m,cap,rfl,hD⟩;obtain⟨c2',cl',fl'⟩:=HTE.out w3 ao m cap hD;have HD:=hide hD;clear hD))
  all_goals (go_wp2_with fail;go_meet;exact⟨ao,m,cap,w3,HD.out,rfl⟩)
 case rest=>
  obtain⟨ao,m,cap,w3,hD,rfl⟩:=hcut;have e1:w3.heap[db]?=W2.heap[db]?:=hD.far db HNO.out.1 hdb2;have e2:w3.heap[lb]?=W2.heap[lb]?:=hD.far lb HNO.out.2 hlb2;have hpb2:w.heap.size+1<W2.heap.size:=by rw[HSZ.out];omega
  have e3:w3.heap[w.heap.size+1]?=W2.heap[w.heap.size+1]?:=hD.far _ HPN.out hpb2;have hs3:W2.heap.size<=w3.heap.size:=hD.bel.size;have hl3:w3.heap[lb]?=some (.cells lv.toArray 196 (0,0)):=e2.trans H2'.out.hl;have k4:∀ k,k≠lb->(w3.setCell ⟨lb,a,none⟩ (.slice ao m cap)).heap[k]?=w3.heap[k]?:=fun k hk=>h_ _ _ _ _ hk;have hl4:(w3.setCell ⟨lb,a,none⟩ (.slice ao m cap)).heap[lb]?=some (.cells (lv.set a (.slice ao m cap)).toArray 196 (0,0)):=by
   rw[setCell_eq_setRow w3 lb a lv.toArray _ _ _ hl3,setRow_heap w3 lb lv.toArray _ _ _ hl3];simp
  have hplb:w.heap.size+1≠lb:=by have:=H2.out.lt hdb (.inr (.inr (.inr (.inl rfl))));omega
  have hdl:=H2'.out.ap.2.2.1;have c2:(w3.setCell ⟨lb,a,none⟩ (.slice ao m cap)).cell? ⟨db,2,none⟩=some (.slice (some ⟨lb,0,none⟩) n n):=((b_ (a:=⟨db,2,none⟩) ((k4 db hdl).trans e1))).trans c2;have cl:(w3.setCell ⟨lb,a,none⟩ (.slice ao m cap)).cell? ⟨lb,a,none⟩=some (.slice ao m cap):=by
   rw[cell_of_row _ lb a _ _ _ hl4,List.getElem?_toArray,List.getElem?_set_self hal]
  have fl:(w3.setCell ⟨lb,a,none⟩ (.slice ao m cap)).frozen? ⟨lb,a,none⟩=false:=by simp[World.frozen?,hl4]
  have HRB:Hid ((w3.setCell ⟨lb,a,none⟩ (.slice ao m cap)).rangeAt (w.heap.size+1) 0 cw):=fun j v hv=>(b_ ((k4 _ hplb).trans e3)).trans (HRA.out j v hv);have hvn:(Value.slice ao m cap).ownBlock≠some lb:=by rw[hD.same];exact HNO.out.2
  have HOW4:Hid (ownW (w3.setCell ⟨lb,a,none⟩ (.slice ao m cap)) B (.slice ao m cap) (offW q loose[a])):=gD hD.own fun k e=>k4 k fun e2=>hvn (e2▸e);have HF4:Hid (∀ k,k<W2.heap.size->k≠lb->va.ownBlock≠some k->(w3.setCell ⟨lb,a,none⟩ (.slice ao m cap)).heap[k]?=W2.heap[k]?):=fun k h1 h2 h3=>(k4 k h2).trans (hD.far k h3 h1);have HB4:Hid (Below B W2 (w3.setCell ⟨lb,a,none⟩ (.slice ao m cap))):=(((r_ _ _).drew).trans hD.bel).setCell (p:=⟨lb,a,none⟩) H2'.out.lo.2.2.2 _;have HSM:=hide hD.same;have HL4:=hide hl4;have hs4:W2.heap.size<=(w3.setCell ⟨lb,a,none⟩ (.slice ao m cap)).heap.size:=by simpa using hs3
  clear hD e1 e2 e3 hl3 hl4 k4 hs3 hvn hplb HDL HTE;generalize w3.setCell ⟨lb,a,none⟩ (.slice ao m cap)=W4 at *;have HLD:=hide (zF2 (w:=W4.drew) (g:=w.heap.size+1) (o:=0) (x:=(q,d)) (by rw[<-HCW.out];exact(World.rangeAt_drew _ _ _ _).2 HRB.out) hd);rw[<-HCW.out] at HLD;have HBS:Hid ((Instr.buildSlice 196 1 #[(0,.agg cw.toArray)]).run p_ W4.drew=.ok (.slice (some ⟨W4.heap.size,0,none⟩) 1 1) (W4.alloc (.cells cw.toArray 200)).drew):=by
   rw[HCW.out];exact zMb (q,d) hd W4.drew
  obtain⟨i0,z0,hi0,hz0,hz1,hz2,hz3⟩:=wM;have hm64:(offW q loose[a]).length<=64:=Nat.le_trans (zD2 _ _) hls;have hml:m=(offW q loose[a]).length:=by
   rcases HOW4.out.1.2 with⟨e,e2⟩|⟨g',cap',cur',e,_⟩
   ·cases e;exact e2.symm
   ·cases e;rfl
  have HON:Hid ((W4.alloc (.cells cw.toArray 200)).drew.ownsRow B 200 97 (.slice ao m cap) m ((offW q loose[a]).flatMap bL)):=by
   rw[hml];exact((hml▸HOW4.out.1).alloc _).drew
  have HNW:Hid (∀ j u,cw[j]?=some u->(W4.alloc (.cells cw.toArray 200)).drew.cell? ((⟨W4.heap.size,0,none⟩:Addr).add j)=some u):=World.news_of_block (cs:=cw.toArray) (t:=200) (fr:=(0,0)) (heap_alloc_new W4 _);have HC1:Hid (∀ v∈cw,v.oneCell'=true):=by rw[HCW.out];exact qY _
  have hdb4:db<W4.heap.size:=by omega
  have hlb4:lb<W4.heap.size:=by omega
  have HNO4:Hid ((Value.slice ao m cap).ownBlock≠some db/\(Value.slice ao m cap).ownBlock≠some lb):=by rw[HSM.out];exact HNO.out
  have HBW:Hid (B<=W4.heap.size):=hide (by have:=HB4.out.size;omega);have hmm:m<=64:=by omega
  have HML:=hide hml;clear hml;have HAF:Hid (∀ w5:World,World.grownBy (W4.alloc (.cells cw.toArray 200)).drew w5 (Value.slice ao m cap).ownBlock->w5.cell? ⟨db,2,none⟩=some (.slice (some ⟨lb,0,none⟩) n n)/\w5.cell? ⟨lb,a,none⟩=some (.slice ao m cap)/\w5.frozen? ⟨lb,a,none⟩=false):=fun w5 hgrow=>
   ⟨(hgrow.cell_far _ (by simp;omega) (Ne.symm HNO4.out.1)).trans (aA (a_ _ _).drew c2),(hgrow.cell_far _ (by simp;omega) (Ne.symm HNO4.out.2)).trans (aA (a_ _ _).drew cl),(hgrow.frozen_far _ (by simp;omega) (Ne.symm HNO4.out.2)).trans (aE (a_ _ _).drew hlb4 fl)⟩
  go_wp2_with (fail)
  go_cut [] (fun wx=>∃ g cap5 w5,w5.ownsRow B 200 97 (.slice (some ⟨g,0,none⟩) (m+1) cap5) (m+1) ((offW q loose[a]).flatMap bL++cw)/\World.grownBy (W4.alloc (.cells cw.toArray 200)).drew w5 (Value.slice ao m cap).ownBlock/\((Value.slice ao m cap).ownBlock=some g∨g=W4.heap.size+1)/\w5.setCell ⟨lb,a,none⟩ (.slice (some ⟨g,0,none⟩) (m+1) cap5)=wx)
  case first=>
   have hld:(zLH Instr.loadAt (.pointer (some ⟨w.heap.size+1,0,none⟩))).run p_ W4.drew=.ok (.agg cw.toArray) W4.drew:=HLD.out;have hbs:(zLL Instr.buildSlice #[(0,.agg cw.toArray)]).run p_ W4.drew=.ok (.slice (some ⟨W4.heap.size,0,none⟩) 1 1) (W4.alloc (.cells cw.toArray 200)).drew:=HBS.out;have cl4:(W4.alloc (.cells cw.toArray 200)).cell? ⟨lb,a,none⟩=some (.slice ao m cap):=aA (a_ _ _) cl;have c24:(W4.alloc (.cells cw.toArray 200)).cell? ⟨db,2,none⟩=some (.slice (some ⟨lb,0,none⟩) n n):=aA (a_ _ _) c2
   go_region_law ((refine step_append_lies _ (by rfl) _ _ _ (by rfl) B 200 i0 z0 97 104 Tryz.underlying196 hi0 hz0 hz1 hz2 hz3 (by omega) (.slice ao m cap) m ((offW q loose[a]).flatMap bL) (by rfl) HON.out ⟨W4.heap.size,0,none⟩ 1 1 cw (by rfl) (by rw[hcl]) HNW.out HC1.out (by omega) (by unfold maxLen;omega) (by omega) (by have:=HBW.out;simp;omega) (W4.heap.size+1) (by simp) ?_;intro g cap5 w5 ho5 hgrow hat5 hlt5;obtain⟨c2',cl',fl'⟩:=HAF.out w5 hgrow;have HO5:=hide ho5;have HG5:=hide hgrow;have HA5:=hide hat5;clear ho5 hgrow hat5))
   all_goals (go_wp2_with fail;go_meet;exact⟨g,cap5,w5,HO5.out,HG5.out,HA5.out,rfl⟩)
  case rest=>
   obtain⟨g,cap5,w5,ho5,hgrow,hat5,rfl⟩:=hcut;have hz4:(W4.alloc (.cells cw.toArray 200)).drew.heap.size=W4.heap.size+1:=by simp
   have f5:∀ k,k<W4.heap.size->(Value.slice ao m cap).ownBlock≠some k->w5.heap[k]?=W4.heap[k]?:=fun k hk hn=>(hgrow.block k (by rw[hz4];omega) (Ne.symm hn)).trans ((a_ W4 (.cells cw.toArray 200)).block k hk);have hl5:w5.heap[lb]?=some (.cells (lv.set a (.slice ao m cap)).toArray 196 (0,0)):=(f5 lb hlb4 HNO4.out.2).trans HL4.out;have hd5:w5.heap[db]?=W2.heap[db]?:=(f5 db hdb4 HNO4.out.1).trans (HF4.out db hdb2 hdl HNO.out.1);have hl6:(w5.setCell ⟨lb,a,none⟩ (.slice (some ⟨g,0,none⟩) (m+1) cap5)).heap[lb]?=some (.cells (lv.set a (.slice (some ⟨g,0,none⟩) (m+1) cap5)).toArray 196 (0,0)):=by
    rw[setCell_eq_setRow w5 lb a (lv.set a (.slice ao m cap)).toArray _ _ _ hl5,setRow_heap w5 lb (lv.set a (.slice ao m cap)).toArray _ _ _ hl5];simp
   have k6:∀ k,k≠lb->(w5.setCell ⟨lb,a,none⟩ (.slice (some ⟨g,0,none⟩) (m+1) cap5)).heap[k]?=w5.heap[k]?:=fun k hk=>h_ _ _ _ _ hk;have h16:DHd (w5.setCell ⟨lb,a,none⟩ (.slice (some ⟨g,0,none⟩) (m+1) cap5)) db nb kb lb n q L s.down:=H1'.out.kept ((k6 db hdl).trans hd5);have c3:=h16.c3;have f3:=h16.soft 3;have hgn:g≠lb/\g≠db:=by
    rcases hat5 with e|e
    ·exact⟨fun e2=>HNO4.out.2 (e2▸e),fun e2=>HNO4.out.1 (e2▸e)⟩
    ·omega
   have hog:∀ k,(Value.slice (some ⟨g,0,none⟩) (m+1) cap5).ownBlock=some k->k=g:=fun k e=>by cases e;rfl
   have hsz5:W4.heap.size+1<=w5.heap.size:=by have:=hgrow.size;rw[hz4] at this;exact this
   have hown6:∀ nx:Int,ownW ((w5.setCell ⟨lb,a,none⟩ (.slice (some ⟨g,0,none⟩) (m+1) cap5)).setCell ⟨db,3,none⟩ (.int .i64 nx)) B (.slice (some ⟨g,0,none⟩) (m+1) cap5) (offW q loose[a]++[(q,d)]):=fun nx=>by
    refine gD (w:=w5) ⟨?_,fun x hx=>?_⟩ fun k e=>?_
    ·rw[List.length_append,List.flatMap_append,<-HML.out];show w5.ownsRow B _ 97 _ (m+1) (_++(bL (q,d)++[]));rw[List.append_nil,<-HCW.out];exact ho5
    ·rcases List.mem_append.1 hx with hx|hx
     ·exact HOW4.out.2 x hx
     ·rw[List.mem_singleton] at hx;rw[hx];exact hd
    ·have:=hog k e;subst this;rw[h_ _ _ _ _ hgn.2];exact k6 _ hgn.1
   have hbel:∀ nx:Int,Below B W2 ((w5.setCell ⟨lb,a,none⟩ (.slice (some ⟨g,0,none⟩) (m+1) cap5)).setCell ⟨db,3,none⟩ (.int .i64 nx)):=fun nx=>
    ((HB4.out.trans (((r_ B W4).alloc HBW.out (.cells cw.toArray 200)).drew.trans ((r_ B _).grown hgrow (by rw[hz4];have:=HBW.out;omega) (fun k hk=>(l_ HON.out k hk).1)))).setCell (p:=⟨lb,a,none⟩) H2'.out.lo.2.2.2 _).setCell (p:=⟨db,3,none⟩) H2'.out.lo.1 _
   have HE:Hid (ActD w ((w5.setCell ⟨lb,a,none⟩ (.slice (some ⟨g,0,none⟩) (m+1) cap5)).setCell ⟨db,3,none⟩ (.int .i64 ((q+1) % 64))) B db S { s with wait:=s.wait++[(a,d)] }):=by
    obtain⟨hby,hstep⟩:=DBy.noted (W6:=(w5.setCell ⟨lb,a,none⟩ (.slice (some ⟨g,0,none⟩) (m+1) cap5)).setCell ⟨db,3,none⟩ (.int .i64 ((q+1) % 64))) (v5:=(.slice (some ⟨g,0,none⟩) (m+1) cap5)) H1'.out H2'.out hal (by rw[h_ _ _ _ _ hdl.symm];exact hl6) (hown6 _)
     (fun k e=>by
      have:=hog k e;subst this;rw[HVA.out,<-HSM.out];rcases hat5 with e2|e2
      ·exact .inl e2
      ·exact .inr (by omega))
     (fun k h1 h2 h3 h4=>by
      rw[HVA.out] at h4;rw[h_ _ _ _ _ h3,k6 k h2,f5 k (by omega) (by rw[HSM.out];exact h4)];exact HF4.out k h1 h2 h4)
     (hbel _)
    have hlen:(s.wait++[(a,d)]).length=s.wait.length+1:=by simp
    have hnx:(((s.wait++[(a,d)]).length % 64:Nat):Int)=(q+1) % 64:=by rw[hlen,<-HQ.out];omega
    have hlo:=H4.out.note halo hd;refine⟨inD db nb kb lb (lv.set a (.slice (some ⟨g,0,none⟩) (m+1) cap5)),⟨nb,kb,lb,n,lv.set a (.slice (some ⟨g,0,none⟩) (m+1) cap5),loose.set a (offW q loose[a]++[(q,d)]),L,?_,hby,rfl,?_,fun x hx=>?_,H6.out,?_⟩,?_⟩
    ·show DHd _ db nb kb lb n (((s.wait++[(a,d)]).length % 64:Nat):Int) L s.down;rw[hnx];exact h16.next' _
    ·rw[HQ.out] at hlo;exact hlo
    ·rcases List.mem_append.1 hx with hx|hx
     ·exact H5.out x hx
     ·rw[List.mem_singleton] at hx;rw[hx];exact hd
    ·have:=(hbel ((q+1) % 64)).size;have:=HSZ.out;omega
    ·rw[HS.out];exact(aG.on h7 HB1.out).trans hstep
   have hq1:=hq0.1;have hq2:=hq0.2;clear hz4 f5 hl5 hd5 hl6 k6 h16 hgn hog hsz5 hown6 hbel;generalize w5.setCell ⟨lb,a,none⟩ (.slice (some ⟨g,0,none⟩) (m+1) cap5)=W5 at *;go_wp2;go_end0;exact⟨rfl,HE.out⟩
end
theorem zF5 (w:World) (C D:Array Value) (t:TypeId):(w.alloc (.cells C t)).setRow w.heap.size D=w.alloc (.cells D t):=by
 unfold World.setRow World.alloc
 cases w with
 | mk heap tape drawn os output=>
  congr 1;apply Array.ext
  ·simp
  ·intro k h1 h2;simp only[Array.getElem_modify,Array.getElem_push];split
   ·rename_i hk;subst hk;simp
   ·rename_i hk;have hlt:k<heap.size:=by simp at h2;omega
    rw[dif_pos hlt,dif_pos hlt]
section
variable {B db:Nat} {S:Nat->Prop} {s:DSt}
theorem zEP:(Tryz.zeroCells198).toList=List.replicate 96 (.int .u8 0):=by kernel_rfl
theorem zH4:(Tryz.prog.info? 5).map (·.size)=some 1:=by kernel_rfl
theorem zLE (d:ByteArray):splice (List.replicate 96 (i_ .u8 0)) 0 (secV d)=secV (aH d):=by
 have hl:=cM d;unfold splice;rw[List.take_zero,List.nil_append,Nat.zero_add,hl,List.drop_replicate];unfold secV aH;simp only[List.map_append,List.map_replicate];rfl
theorem zEu (d:ByteArray) (hd:d.size<=96) (w:World):(Builtin.copy_ #[247,9] 3 #[.slice (some ⟨w.heap.size,0,none⟩) 96 96,.string d]).run p_ (w.alloc (.cells Tryz.zeroCells198 198))=.ok (goInt d.size) (w.alloc (.cells (secV (aH d)).toArray 198)):=by
 have hz:=zEP;have hC:w.alloc (.cells Tryz.zeroCells198 198)=w.alloc (.cells (List.replicate 96 (i_ .u8 0)).toArray 198):=by rw[<-hz]
 rw[hC];have hg:=Go.heap_alloc_new w (.cells (List.replicate 96 (i_ .u8 0)).toArray 198);have hmin:Nat.min d.size 96=d.size:=Nat.min_eq_left hd;have h:=uY (P:=p_) (w.alloc (.cells (List.replicate 96 (i_ .u8 0)).toArray 198)) 247 9 3 5 1 w.heap.size 0 96 96 d.size (.string d) (List.replicate 96 (i_ .u8 0)) 198 (secV d) Tryz.underlying247 zH4 hg rfl
  (by
   rw[hmin];simp only[Builtin.firstCells];rw[Sem.run_pure];congr 1;apply Array.ext';unfold secV;simp)
  (by rw[cM,List.length_replicate];omega) (rV d)
 rw[h,hmin,jV w.heap.size _ (0,0) _ 0 _ (List.replicate 96 (i_ .u8 0)) hg (by rw[cM,List.length_replicate];omega),zLE d,zF5]
theorem zFI (s:DSt):(bR s).now=s.now:=by unfold bR;split;rfl;split<;>rfl
theorem DK.laid {w:World} (h:DK w B db S s) {a:Nat} (ha:a<s.now.length) {d:ByteArray} (hd:d.size=96):∃ nb kb lb n lv loose L,DHd w db nb kb lb n ((s.wait.length % 64:Nat):Int) L s.down/\DBy w B db nb kb lb n lv s.now s.kept loose/\w.there nb (a*96) 96/\ActD w (w.setCells nb (a*96) (secV d)) B db S { s with now:=s.now.set a d }/\(w.setCells nb (a*96) (secV d)).heap[db]?=w.heap[db]?/\(∀ k,k≠nb->(w.setCells nb (a*96) (secV d)).heap[k]?=w.heap[k]?)/\S nb:=by
 obtain⟨nb,kb,lb,n,lv,loose,L,h1,h2,hS,h4,h5,h6,h7⟩:=h;have hl:(secV d).length=96:=(cM d).trans hd;have hfl:(s.now.flatMap secV).length=s.now.length*96:=cC (z:=96) fun x hx=>(cM x).trans (h2.sn x hx);have hap:=h2.ap;have k1:∀ k,k≠nb->(w.setCells nb (a*96) (secV d)).heap[k]?=w.heap[k]?:=fun k hk=>cA nb _ _ _ hk;have hb:a*96+(secV d).length<=(s.now.flatMap secV).length:=by rw[hl,hfl];omega
 have hbel:Below B w (w.setCells nb (a*96) (secV d)):=dW h2.lo.2.1 _ _ _ (r_ _ _);refine⟨nb,kb,lb,n,lv,loose,L,h1,h2,rL h2.hn (by rw[hfl];omega),⟨S,⟨nb,kb,lb,n,lv,loose,L,h1.kept (k1 db hap.1),{ h2 with hn:=?_,hk:=(k1 kb hap.2.2.2.1.symm).trans h2.hk,hl:=(k1 lb hap.2.2.2.2.1.symm).trans h2.hl,nn:=by rw[List.length_set];exact h2.nn,sn:=fun x hx=>(List.mem_or_eq_of_mem_set hx).elim (h2.sn x) (fun e=>by rw[e];exact hd),own:=fun i hi h'=>gD (h2.own i hi h') fun k e=>k1 k (h2.apo i hi k e).2.1 },hS,h4,h5,h6,Nat.le_trans h7 hbel.size⟩,⟨hbel,fun k _ hn=>⟨k1 k fun e=>hn (by rw[hS];exact .inr (.inl e)),hn⟩⟩⟩,k1 db hap.1,k1,by rw[hS];exact .inr (.inl rfl)⟩;rw[eY nb _ (0,0) _ _ w _ h2.hn hb,uV (z:=96) (fun x hx=>(cM x).trans (h2.sn x hx)) a ha d hl]
theorem sH (at_:Int) (d:ByteArray) (w:World) (h:DK w B db S s):Calls p_ 184 #[.pointer (some ⟨db,0,none⟩),.int .i64 at_,.string d] w fun e w'=>e=.returned (errV (dO s at_ d))/\ActD w w' B db S (cV s at_ d):=by
 have HH:=hide (zCJ at_ w h);have HST:=hide (zBt w h);have HW:=hide h;have hn:=h.many;have hls:(d.size:Int)<=9223372036854775807∨True:=.inr trivial;unfold dO cV;by_cases hr:at_<0∨(s.now.length:Int)<=at_∨96<d.size
 ·rw[if_pos hr,if_pos hr,aP (show(1:Nat)≠0 by decide)];by_cases hq:at_<0∨(s.now.length:Int)<=at_
  ·have hb:hasD s at_=false:=by unfold hasD;simp;omega
   rw[hb] at HH;clear HST hls;go_enter Tryz.func184,Tryz.ntmps184;go_wp2_with (go_at_call 241;refine HH.out.mono ?_;rintro e w1 ⟨rfl,rfl⟩)
   go_ret;exact⟨rfl,HW.out.stay (r_ _ _)⟩
  ·have hb:hasD s at_=true:=by unfold hasD;simp;omega
   rw[hb] at HH;have h96:(96:Int)<(d.size:Int):=by omega
   clear HST hls;go_enter Tryz.func184,Tryz.ntmps184;go_wp2_with (go_at_call 241;refine HH.out.mono ?_;rintro e w1 ⟨rfl,rfl⟩)
   go_ret;exact⟨rfl,HW.out.stay (r_ _ _)⟩
 ·rw[if_neg hr,if_neg hr];have hb:hasD s at_=true:=by unfold hasD;simp;omega
  rw[hb] at HH;have h96:¬(96:Int)<(d.size:Int):=by omega
  have hd96:d.size<=96:=by omega
  obtain⟨a,rfl⟩:=Int.eq_ofNat_of_zero_le (show 0<=at_ by omega);rw[Int.toNat_natCast];have ha:a<s.now.length:=by omega
  have hNW:=zFI s;have ha1:a<(bR s).now.length:=by rw[hNW];exact ha
  have HNL:=hide hNW;clear hNW hls;generalize bR s=s1 at *;generalize cD s=f at *;by_cases hf:f=0
  ·subst hf;rw[if_pos rfl,aR];rw[aR] at HST;have hps:=sJ hd96;go_enter Tryz.func184,Tryz.ntmps184;go_wp2_with (first
    | (go_at_call 241;refine HH.out.mono ?_;rintro e w1 ⟨rfl,rfl⟩)
    | (go_at_call 239;refine HST.out.mono ?_;rintro e w2 ⟨rfl,ha2⟩;obtain⟨S2,hk2,hs2⟩:=ha2;have HK2:=hide hk2;have HS2:=hide hs2;have hcp:=zEu d hd96 w2;clear hk2 hs2))
   have hk3:=HK2.out.on (a_ w2 (.cells (secV (aH d)).toArray 198)).drew;have hs3:aG _ (w2.alloc (.cells (secV (aH d)).toArray 198)).drew B S S2:=HS2.out.trans (.on HK2.out.lo (a_ w2 (.cells (secV (aH d)).toArray 198)).drew);obtain⟨nb,kb,lb,n,lv,loose,L,g1,g2,hth,hact,hdb,hoth,hSn⟩:=hk3.laid ha1 hps;have hnb:nb<w2.heap.size:=HK2.out.lt hSn;have hra:(w2.alloc (.cells (secV (aH d)).toArray 198)).rangeAt w2.heap.size 0 (secV (aH d)):=jD (Go.heap_alloc_new w2 _) (fun j _=>by rw[Nat.zero_add]);have hrd:=(World.rangeAt_drew _ _ _ _).2 hra;have hr4:((w2.alloc (.cells (secV (aH d)).toArray 198)).drew.setCells nb (a*96) (secV (aH d))).rangeAt w2.heap.size 0 (secV (aH d)):=World.rangeAt_setCells_apart hrd _ _ _ (.inl (by omega));have c0:=g1.c0;have HC4:Hid (((w2.alloc (.cells (secV (aH d)).toArray 198)).drew.setCells nb (a*96) (secV (aH d))).cell? ⟨db,0,none⟩=some (.slice (some ⟨nb,0,none⟩) n n)):=(b_ (a:=⟨db,0,none⟩) hdb).trans c0;have HT4:=hide (World.there_setCells hth nb (a*96) (secV (aH d)));have HR4:=hide hr4;have HA4:=hide hact;have HS3:=hide hs3;have hu:=Tryz.underlying198;have hcs:(secV (aH d)).length=96:=(cM _).trans hps;have hi:(Tryz.prog.info? 198).map (·.size)=some (secV (aH d)).length:=by rw[hcs];exact nV
   have h1c:=rV (aH d);have hn2:n=s1.now.length:=g2.nn.symm;have hla:(a:Int)<(n:Int):=by omega
   have hla0:(0:Int)<=(a:Int):=by omega
   have HPS:=hide hps;clear hcp hact hdb hoth hSn g1 g2 hr4 hk3 hs3 hra HK2 HS2 hn2
   go_region_held3 (fun w'=>w'.cell? ⟨db,0,none⟩=some (.slice (some ⟨nb,0,none⟩) n n)/\w'.rangeAt w2.heap.size 0 (secV (aH d))/\w'.there nb (a*96) 96) (first|exact⟨HC4.out,HR4.out,HT4.out⟩|exact⟨c0,hrd,hth⟩) (fail)
   clear hrd hth c0 hi hu;obtain⟨S4,hk4,hs4⟩:=HA4.out;have HS4:=hide (HS3.out.trans hs4);have HNT:=hide (zHY a (aH d) _ hk4 (by rw[List.length_set];exact ha1) HPS.out);clear hk4 hs4 HA4 HC4 HT4;generalize (w2.alloc (.cells (secV (aH d)).toArray 198)).drew.setCells nb (a*96) (secV (aH d))=W4 at *;go_wp2_with (first
    | (refine wpList_load_mid (by rfl) 198 _ (by rfl) w2.heap.size 0 (by rfl) (secV (aH d)) _ HR4.out Tryz.underlying198 (by rfl) (by rw[hcs];exact nV) ?_)
    | (go_at_call 242;refine HNT.out.mono ?_;rintro e w5 ⟨rfl,ha5⟩))
   go_ret;exact⟨rfl,ActD.after HS4.out ha5⟩
  ·have hf':=aP hf;rw[if_neg hf,hf'];rw[hf'] at HST;go_enter Tryz.func184,Tryz.ntmps184;go_wp2_with (first
    | (go_at_call 241;refine HH.out.mono ?_;rintro e w1 ⟨rfl,rfl⟩)
    | (go_at_call 239;refine HST.out.mono ?_;rintro e w2 ⟨rfl,ha2⟩))
   go_ret;exact⟨rfl,ha2⟩
end
end
end Go.Proofs.YtnboipekkahmnaaGreatDoor
