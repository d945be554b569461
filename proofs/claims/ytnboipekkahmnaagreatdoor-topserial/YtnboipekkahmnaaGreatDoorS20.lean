import Derived.Test.YtnboipekkahmnaaGreatDoorS19
set_option maxHeartbeats 8000000
set_option maxRecDepth 100000
namespace Go.Proofs.YtnboipekkahmnaaGreatDoor
open Obj renaming cells→o_
open World renaming cell?_of_block→b_,cell?_setCell_other→t_,cell?_setCell_same→u_
open Go.RowKit.Below renaming heap_setCell→h_,refl→r_
open Nat renaming le_refl→n_
open Tryz renaming prog→p_
open Value renaming string→v_,int→i_
open Go.Joins renaming below_alloc1→a_
section
open Go.RowKit Go.Joins
attribute [local go_sem ↓] Go.wp_at_zero Go.wp_at_succ
theorem zFU:(Tryz.prog.info? 207).map (fun i=>(i.zero,i.size,i.bytes))=some (some (.agg #[.int .i64 0,.slice none 0 0]),2,32):=by kernel_rfl
theorem zGs (n:Nat):∀ u∈(Builtin.zeroCells (Value.agg #[.int .i64 0,.slice none 0 0]).cells n).toList,u.oneCell'=true:=by
 intro u hu;simp[Builtin.zeroCells,Value.cells] at hu;obtain⟨i,_,rfl⟩:=hu;rcases Nat.mod_two_eq_zero_or_one i with e|e<;>rw[e]<;>rfl
theorem zCN (B g cap K m:Nat) (xs:List Value) (w:World) (ho:w.ownsRow B 207 2 (.slice (some ⟨g,0,none⟩) (K+m) cap) (K+m) xs) (h1:∀ u∈xs,u.oneCell'=true) (hK:0<K) (hn:K+m<=1000) (hcap:K+m<=cap) (hc63:cap<=9223372036854775807):
  Calls p_ 186 #[.slice (some ⟨g,0,none⟩) (K+m) cap,.int .i64 0,.int .i64 K] w fun e w'=>
   e=.returned (.slice (some ⟨g,0,none⟩) m cap)/\w'.ownsRow B 207 2 (.slice (some ⟨g,0,none⟩) m cap) m (xs.drop (K*2))/\w.grownBy w' (some g):=by
 obtain⟨i0,hi0,hz0,hz1,hz2⟩:=info_parts zFU;have hxl:xs.length=(K+m)*2:=ho.1;obtain⟨news,hnews⟩:∃ news,news=xs.drop (K*2):=⟨_,rfl⟩;have hlen:news.length=m*2:=by rw[hnews,List.length_drop,hxl];omega
 have hdr:w.drew.ownsRow B 207 2 (.slice (some ⟨g,0,none⟩) (K+m) cap) (K+m) xs:=ho;obtain⟨A,hA,hsrc⟩:∃ A:Addr,(if cap=K then some (⟨g,0,none⟩:Addr) else some ⟨g,K*2,none⟩)=some A/\Hid (∀ t u,news[t]?=some u->w.drew.cell? (A.add t)=some u):=by
  by_cases h:cap=K
  ·refine⟨⟨g,0,none⟩,by simp[h],fun t u hu=>?_⟩;have h0:news.length=0:=by omega
   rw[List.length_eq_zero_iff.1 h0] at hu;simp at hu
  ·refine⟨⟨g,K*2,none⟩,by simp[h],fun t u hu=>?_⟩;have ht:t<m*2:=by
    have:=(List.getElem?_eq_some_iff.1 hu).1;omega
   rw[Addr.add_lit,hdr.cellAt (K*2+t) (by omega),<-hu,hnews,List.getElem?_drop]
 have s2:Hid (∀ u∈news,u.oneCell'=true):=fun u hu=>h1 u (by rw[hnews] at hu;exact List.mem_of_mem_drop hu);have s3:Hid (∀ t,t<news.length->(w.drew.cell? ⟨g,0+0*2+t,none⟩).isSome=true/\w.drew.frozen? ⟨g,0+0*2+t,none⟩=false):=fun t ht=>by
  have:=cS hdr t (by omega);simpa using this
 obtain⟨W1,hW1⟩:∃ W1,W1=w.drew.setCells g (0+0*2) news:=⟨_,rfl⟩;have hW1':=hW1;simp only[Nat.zero_mul,Nat.add_zero] at hW1';have r1:=cT news 0 w.drew xs hdr;rw[<-hW1'] at r1;have hzv:∀ w,(zeroValue 207).run p_ w=.ok (.agg #[.int .i64 0,.slice none 0 0]) w:=Tryz.zeroValue207;have hz2':(Value.agg #[.int .i64 0,.slice none 0 0]).cells.size=2:=rfl;have hcl:∀ ty,(Builtin.clear_ #[119] ty #[.slice (some ⟨g,m*2,none⟩) K (cap-m)]).run p_ W1=.ok (.tuple #[]) (W1.setCells g (m*2) (Builtin.zeroCells (Value.agg #[.int .i64 0,.slice none 0 0]).cells K).toList):=
  fun ty=>qG W1 _ _ ty _ Tryz.underlying119 hzv g (m*2) _ _ (by omega) (zGs _) (fun j hj=>by rw[hz2'] at hj;exact(cS r1.1 (m*2+j) (by omega)).1) (fun j hj=>by rw[hz2'] at hj;exact(cS r1.1 (m*2+j) (by omega)).2)
 have r2:=cT (Builtin.zeroCells (Value.agg #[.int .i64 0,.slice none 0 0]).cells K).toList (m*2) W1 _ r1.1;have r3:=rT r2.1 (m:=m) (by omega);rw[tN] at r3;have e4:(setL xs 0 news).take (m*2)=news:=by rw[<-hlen];exact tI news xs (by omega)
 rw[e4] at r3;have R3:=hide r3;have R4:Hid (w.grownBy (W1.setCells g (m*2) (Builtin.zeroCells (Value.agg #[.int .i64 0,.slice none 0 0]).cells K).toList) (some g)):=(show w.grownBy W1 (some g) from ⟨r1.2.os,r1.2.tape,r1.2.output,r1.2.size,r1.2.block⟩).trans r2.2;generalize hW2:W1.setCells g (m*2) (Builtin.zeroCells (Value.agg #[.int .i64 0,.slice none 0 0]).cells K).toList=W2 at hcl R3 R4;have HN:Hid (news=xs.drop (K*2)):=hnews;have HL:=hide hlen;have HW:Hid (W1=w.drew.setCells g (0+0*2) news):=hW1;clear hnews hlen hdr hW1 hW1' r1 r2 r3 e4 ho h1 hxl hW2 hz2';have k0:(0:Int)<=(K:Int):=Int.natCast_nonneg _;have k1:(K:Int)<=(K:Int)+(m:Int):=by omega
 have k2:(K:Int)<=(cap:Int):=by omega
 have k3:¬(0:Int)=(K:Int):=by omega
 have k4:¬cap=m:=by omega
 go_enter Tryz.func186,Tryz.ntmps186;go_wp2_with fail
 go_region_law (refine step_append_room rfl (.tmp 22) (.tmp 25) 119 rfl 207 i0 2 Tryz.underlying119 hi0 hz1 g 0 0 cap (by simp[Act.eval,Act.put]) A m (cap-K) news (by simp[Act.eval,Act.put]) HL.out hsrc.out s2.out (by omega) s3.out ?_;rw[<-HW.out])
 go_wp2;go_ret;exact⟨rfl,by rw[<-HN.out];exact R3.out,R4.out⟩
theorem zEo (g n cap:Nat) (w:World) (hn:n<=cap):
  Calls p_ 186 #[.slice (some ⟨g,0,none⟩) n cap,.int .i64 0,.int .i64 0] w fun e w'=>e=.returned (.slice (some ⟨g,0,none⟩) n cap)/\w'=w:=by
 go_enter Tryz.func186,Tryz.ntmps186;go_wp2
 all_goals
  go_ret;exact⟨rfl,rfl⟩
theorem zHg (w:World):
  Calls p_ 186 #[.slice none 0 0,.int .i64 0,.int .i64 0] w fun e w'=>e=.returned (.slice none 0 0)/\w'=w:=by
 go_enter Tryz.func186,Tryz.ntmps186;go_wp2;go_ret;exact⟨rfl,rfl⟩
theorem zBD {α β:Type} (f:α->List β) (k:Nat) (hk:∀ x,(f x).length=k):∀ (n:Nat) (l:List α),(l.flatMap f).drop (n*k)=(l.drop n).flatMap f
 | 0,l=>by simp
 | n+1,[]=>by simp
 | n+1,x::l=>by
  rw[List.flatMap_cons,List.drop_succ_cons,<-zBD f k hk n l,Nat.succ_mul,Nat.add_comm,<-List.drop_drop,List.drop_left' (hk x)]
theorem zJM {dv:List (aU×Value)} {w:World} {B:Nat} (hk:∀ p∈dv,w.ownsRow B 9 1 p.2 p.1.keys.length (p.1.keys.map v_)):∀ u∈rowD dv,u.oneCell'=true:=by
 intro u hu;obtain⟨p,hp,hu⟩:=List.mem_flatMap.1 hu;simp only[sQ,List.mem_cons,List.not_mem_nil,or_false] at hu;rcases hu with rfl|rfl
 ·rfl
 ·rcases aX (hk p hp) with⟨e,_⟩|⟨g,cap,e,_⟩<;>rw[e]<;>rfl
theorem zIj {α:Type} {R:α->α->Prop} {l:List α} (h:l.Pairwise R) (k:Nat):(l.drop k).Pairwise R:=h.drop
theorem zLD {W w2:World} {B hb:Nat} {Xc:Nat->Option Value} {dv:List (aU×Value)} {g cap K m:Nat} (hl:dv.length=K+m) (h:bP W B hb Xc (.slice (some ⟨g,0,none⟩) (K+m) cap) dv) (hB:B<=W.heap.size) (hg:W.grownBy w2 (some g))
  (ho:w2.ownsRow B 207 2 (.slice (some ⟨g,0,none⟩) m cap) m ((rowD dv).drop (K*2))):
  bP (w2.setCell ⟨hb,2,none⟩ (.slice (some ⟨g,0,none⟩) m cap)) B hb Xc (.slice (some ⟨g,0,none⟩) m cap) (dv.drop K)/\
  Below B W (w2.setCell ⟨hb,2,none⟩ (.slice (some ⟨g,0,none⟩) m cap))/\w2.cell? ⟨hb,2,none⟩=some (.slice (some ⟨g,0,none⟩) (K+m) cap)/\w2.frozen? ⟨hb,2,none⟩=false/\
  (∀ k,k<W.heap.size->k≠hb->some k≠some g->(w2.setCell ⟨hb,2,none⟩ (.slice (some ⟨g,0,none⟩) m cap)).heap[k]?=W.heap[k]?):=by
 have hlt:=h.lt;have hoff:some hb≠some g:=fun e=>h.off (by rw[e];rfl);have hgh:g≠hb:=fun e=>hoff (by rw[e]);have c1:w2.cell? ⟨hb,2,none⟩=some (.slice (some ⟨g,0,none⟩) (K+m) cap):=hg.cell h.cell hoff;have f1:w2.frozen? ⟨hb,2,none⟩=false:=(hg.frozen_far ⟨hb,2,none⟩ hlt hoff).trans h.soft;refine⟨{ cell:=u_ _ _ _ c1,soft:=by simpa using f1,lo:=h.lo,own:=?_,keys:=?_,off:=?_,offk:=?_,apart:=?_,pair:=zIj h.pair K,rest:=fun j=>⟨fun hj=>(t_ _ _ _ _ (by simp<;>omega)).trans ((b_ (w:=W) (hg.block hb hlt hoff)).trans ((h.rest j).1 hj)),by rw[World.frozen?_setCell];exact(hg.frozen_far ⟨hb,j,none⟩ hlt hoff).trans (h.rest j).2⟩ },?_,c1,f1,fun k h1 h2 h3=>(h_ _ _ _ _ h2).trans (hg.block k h1 h3)⟩
 ·have e1:(dv.drop K).length=m:=by rw[List.length_drop];omega
  have e2:rowD (dv.drop K)=(rowD dv).drop (K*2):=(zBD sQ 2 qX K dv).symm;rw[e1,e2];exact gG ho hb 2 _ (by simpa[Value.ownBlock] using hgh)
 ·intro p hp;have hp':=List.mem_of_mem_drop hp;refine gG ((h.keys p hp').kept hg ?_) hb 2 _ (h.offk p hp');rcases h.apart p hp' with e|e
  ·exact .inl e
  ·exact .inr e
 ·simpa[Value.ownBlock] using hgh
 ·exact fun p hp=>h.offk p (List.mem_of_mem_drop hp)
 ·exact fun p hp=>h.apart p (List.mem_of_mem_drop hp)
 ·exact(((r_ B W).grown hg hB (fun k hk=>by cases hk;exact(h.own.lt g rfl).1)).setCell h.lo _)
theorem zBb {W:World} {B hb:Nat} {Xc:Nat->Option Value} {v:Value} {dv:List (aU×Value)} (h:bP W B hb Xc v dv):bP (W.setCell ⟨hb,2,none⟩ v) B hb Xc v dv where
 cell:=u_ _ _ _ h.cell
 soft:=by simpa using h.soft
 lo:=h.lo
 own:=gG h.own hb 2 _ h.off
 keys:=fun p hp=>gG (h.keys p hp) hb 2 _ (h.offk p hp)
 off:=h.off
 offk:=h.offk
 apart:=h.apart
 pair:=h.pair
 rest:=fun j=>⟨fun hj=>(t_ _ _ _ _ (by simp<;>omega)).trans ((h.rest j).1 hj),by rw[World.frozen?_setCell];exact(h.rest j).2⟩
theorem zMX {hb g n m cap K j:Nat} {dv:List (aU×Value)} (h:inH hb (.slice (some ⟨g,0,none⟩) m cap) (dv.drop K) j):inH hb (.slice (some ⟨g,0,none⟩) n cap) dv j:=by
 rcases h with h|h|⟨p,hp,e⟩
 ·exact .inl h
 ·exact .inr (.inl h)
 ·exact .inr (.inr ⟨p,List.mem_of_mem_drop hp,e⟩)
theorem zG9 (dv:List (aU×Value)) (B hb:Nat) {Xc:Nat->Option Value} (v:Value) (n:Int) (w:World) (h:bP w B hb Xc v dv) (hr:gS (ofDV dv)) (hB:B<=w.heap.size) (hn:dv.length<=1000):
  Calls p_ 125 #[.pointer (some ⟨hb,2,none⟩),.int .i64 n] w fun e w'=>e=.returned (.tuple #[])/\∃ v' dv',bP w' B hb Xc v' dv'/\dv'=dv.drop (cR (ofDV dv) n)/\Below B w w'/\∀ j,j<w.heap.size->¬inH hb v dv j->w'.heap[j]?=w.heap[j]?/\¬inH hb v' dv' j:=by
 have hK:cR (ofDV dv) n<=dv.length:=by have:=zBi (ofDV dv) n;simpa[ofDV] using this
 obtain⟨K,hKe⟩:∃ K,cR (ofDV dv) n=K:=⟨_,rfl⟩;rw[hKe] at hK;rw[hKe];have HK:=hide hKe;have c:=h.cell;have hs:=h.soft;have hlt:=h.lt;have HH:=hide h;have HR:=hide hr;clear hKe h hr;rcases HH.out.form with⟨rfl,rfl⟩|⟨g,cap,rfl,_,hgh,hc1,hc2,_⟩
 ·have hK0:K=0:=by simpa using hK
  subst hK0;go_enter Tryz.func125,Tryz.ntmps125
  go_region_with (first
   | (go_at_call 126;refine(lY [] B hb _ n _ (HH.out.on (r_ _ _).drew) HR.out (by simp)).mono ?_;rintro e w1 ⟨rfl,hb1⟩;rw[HK.out];have c1:=aA hb1 (aA (r_ _ _).drew c);have f1:=aE hb1 hlt hs)
   | (go_at_call 186;refine(zHg _).mono ?_;rintro e w2 ⟨rfl,rfl⟩))
  all_goals
   go_wp2;go_end0;exact⟨rfl,_,_,zBb (HH.out.on (aB (r_ _ w).drew (n_ _) hb1)),rfl,((aB (r_ _ w).drew (n_ _) hb1).mono hB).setCell HH.out.lo _,fun k h1 h2=>⟨(h_ _ _ _ _ (fun e=>h2 (.inl e))).trans ((aB (r_ _ w).drew (n_ _) hb1).block k h1),by simpa using h2⟩⟩
 ·by_cases hK0:K=0
  ·subst hK0;go_enter Tryz.func125,Tryz.ntmps125
   go_region_with (first
    | (go_at_call 126;refine(lY dv B hb _ n _ (HH.out.on (r_ _ _).drew) HR.out (by omega)).mono ?_;rintro e w1 ⟨rfl,hb1⟩;rw[HK.out];have c1:=aA hb1 (aA (r_ _ _).drew c);have f1:=aE hb1 hlt hs)
    | (go_at_call 186;refine(zEo _ _ _ _ hc1).mono ?_;rintro e w2 ⟨rfl,rfl⟩))
   all_goals
    go_wp2;go_end0;exact⟨rfl,_,_,zBb (HH.out.on (aB (r_ _ w).drew (n_ _) hb1)),by simp,((aB (r_ _ w).drew (n_ _) hb1).mono hB).setCell HH.out.lo _,fun k h1 h2=>⟨(h_ _ _ _ _ (fun e=>h2 (.inl e))).trans ((aB (r_ _ w).drew (n_ _) hb1).block k h1),by simpa using h2⟩⟩
  ·obtain⟨m,hm⟩:∃ m,dv.length=K+m:=⟨dv.length-K,by omega⟩;have HM:=hide hm;have hone:=hide (zJM HH.out.keys);rw[hm] at HH c hc1 hn;clear hm;go_enter Tryz.func125,Tryz.ntmps125
   go_region_with (first
    | (go_at_call 126;refine(lY dv B hb _ n _ (HH.out.on (r_ _ _).drew) HR.out (by rw[HM.out];omega)).mono ?_;rintro e w1 ⟨rfl,hb1⟩;rw[HK.out];have c1:=aA hb1 (aA (r_ _ _).drew c);have hw1:=aB (r_ _ w).drew (n_ _) hb1;have HW:=hide (HH.out.on hw1))
    | (go_at_call 186;refine(zCN B g cap K m (rowD dv) _ (HM.out▸HW.out.own) hone.out (by omega) (by omega) hc1 hc2).mono ?_;rintro e w2 ⟨rfl,ho2,hg2⟩;obtain⟨r1,r2,r3,r4,r5⟩:=zLD HM.out HW.out (Nat.le_trans hB hw1.size) hg2 ho2;have R1:=hide r1;have R2:=hide r2;have R5:=hide r5;clear r1 r2 r5 ho2 hg2))
   all_goals
    go_wp2;go_end0;exact⟨rfl,_,_,R1.out,rfl,(hw1.mono hB).trans R2.out,fun k h1 h2=>⟨(R5.out k (Nat.lt_of_lt_of_le h1 hw1.size) (fun e=>h2 (.inl e)) (fun e=>h2 (.inr (.inl e.symm)))).trans (hw1.block k h1),fun e=>h2 (zMX e)⟩⟩
section
variable {B:Nat} {m:EMem} {s:ESt}
theorem wB (w:World) (h:EK w B m s) {i:Nat} (hi:i<4) (hv:s.ses i=none):
  Calls p_ 18 #[.pointer (some ⟨m.eb,0,none⟩),.int .i64 (i:Int)] w fun e w'=>e=.returned .nilIface/\ActE w w' B m s (dX s i):=by
 have c:=h.cell hi;rw[kI hv] at c;have c1:=h.cell1;have h1:(0:Int)<=(i:Int):=by omega
 have h2:(i:Int)<4:=by omega
 have heb:=h.lt h.ebF;have fz:=fun j=>(h.hi.rest j).2;have HN:Hid (∀ W,Below w.heap.size w W->Calls p_ 62 #[.pointer (some ⟨m.vb,0,none⟩)] W fun e w'=>∃ wb,e=.returned (.pointer (some ⟨wb,0,none⟩))/\VW w' W.heap.size wb m.vb s.now (.slice none 0 0) (.slice none 0 0) [] []/\Below W.heap.size W w'):=fun W hb=>zLr W (h.vs.on hb);have HE:Hid (∀ w1 wb,VW w1 w.heap.size wb m.vb s.now (.slice none 0 0) (.slice none 0 0) [] []->Below w.heap.size w w1->ActE w (w1.setCell ⟨m.eb,3+i,none⟩ (.pointer (some ⟨wb,0,none⟩))) B m s (dX s i)):=fun w1 wb hvw hb=>by
  obtain⟨q1,q2⟩:=h.begun hi hv hvw hb;exact⟨_,q1,rfl,⟨rfl,fun j hj=>by show(updW m.W i _ j).1=_;rw[oV _ (show j≠i from fun e=>hj (by rw[e];exact hv))]⟩,q2⟩
 clear h;generalize m.eb=eb at *;generalize m.vb=vb at *;go_enter Tryz.func18,Tryz.ntmps18;go_wp2_with fail;refine(lM i hi w).mono ?_;rintro e w1 ⟨rfl,rfl⟩;go_wp2_with fail
 go_region_with (first
  | (go_at_call 62;refine(HN.out _ (r_ _ _).drew).mono ?_;rintro e w2 ⟨wb,rfl,hvw,hb2⟩;have hbx:=aB (r_ _ w1).drew (n_ _) hb2;have HR:=hide (HE.out w2 wb (hvw.down (n_ _)) hbx);have c2:=aA hbx c;have fz2:=aE hbx heb (fz (3+i));clear hvw hb2 hbx)
  | fail)
 all_goals
  go_wp2;go_ret;exact⟨rfl,HR.out⟩
theorem zDY (w:World) (h:EK w B m s) {i:Nat} (hi:i<4) {v:VwL} (hv:s.ses i=some v):
  Calls p_ 18 #[.pointer (some ⟨m.eb,0,none⟩),.int .i64 (i:Int)] w fun e w'=>e=.returned (errV 7)/\w'=w:=by
 have c:=h.cell hi;rw[kE hv] at c;have h1:(0:Int)<=(i:Int):=by omega
 have h2:(i:Int)<4:=by omega
 have HE:Hid (errV 7=.iface 114 (.int .i64 7)):=rfl;rw[HE.out];clear h;go_enter Tryz.func18,Tryz.ntmps18;go_wp2_with fail;refine(lM i hi w).mono ?_;rintro e w1 ⟨rfl,rfl⟩;go_wp2;go_ret;exact⟨rfl,rfl⟩
def zLO (w w':World) (B:Nat) (m:EMem) (s:ESt) (i:Nat):Prop:=ActE w w' B m s (endE s i)/\(∀ a k,a≠0->engF m s.ses a k->w'.heap[k]?=w.heap[k]?)
theorem tE (w:World) (h:EK w B m s) (ok:EOk s) {i:Nat} (hi:i<4) (hc:s.c<=190):
  Calls p_ 63 #[.pointer (some ⟨m.eb,0,none⟩),.int .i64 (i:Int)] w fun e w'=>e=.returned (.tuple #[])/\zLO w w' B m s i:=by
 have c:=h.cell hi;have h1:(0:Int)<=(i:Int):=by omega
 have h2:(i:Int)<4:=by omega
 have fz:=(h.hi.rest (3+i)).2;obtain⟨hd,hst⟩:=h.drop hi;have hlen:m.dv.length<=1000:=by
  have e1:=congrArg List.length h.ds;have e2:=ok.dl;have:=ok.nc;unfold ofDV at e1;rw[List.length_map] at e1;omega
 have hrd:gS (ofDV m.dv):=by rw[h.ds];exact ok.rd
 have hfar:∀ a k,a≠0->engF m s.ses a k->(w.setCell ⟨m.eb,3+i,none⟩ (.pointer none)).heap[k]?=w.heap[k]?:=fun a k ha hk=>h_ _ _ _ _ fun e=>ha (h.ap a 0 k hk (by rw[e];exact h.ebF));have hsub:∀ a k,a≠0->engF m s.ses a k->¬inH m.eb m.hv m.dv k:=fun a k ha hk e=>ha (h.ap a 0 k hk e);have hszk:∀ a k,engF m s.ses a k->k<w.heap.size:=fun a k e=>h.lt e;have hss:(w.setCell ⟨m.eb,3+i,none⟩ (.pointer none)).heap.size=w.heap.size:=by simp
 have HO:Hid (∀ W,Below (w.setCell ⟨m.eb,3+i,none⟩ (.pointer none)).heap.size (w.setCell ⟨m.eb,3+i,none⟩ (.pointer none)) W->Calls p_ 71 #[.pointer (some ⟨m.eb,0,none⟩)] W fun e w'=>e=.returned (.int .i64 (cI (nU s i):Int))/\w'=W):=fun W hb=>wN W (hd.on hb);have HF:Hid (∀ W,Below (w.setCell ⟨m.eb,3+i,none⟩ (.pointer none)).heap.size (w.setCell ⟨m.eb,3+i,none⟩ (.pointer none)) W->Calls p_ 125 #[.pointer (some ⟨m.eb,2,none⟩),.int .i64 (cI (nU s i):Int)] W fun e w'=>e=.returned (.tuple #[])/\zLO w w' B m s i):=fun W hb=>by
  have hdW:=hd.on hb;refine(zG9 m.dv B m.eb m.hv (cI (nU s i):Int) W hdW.hi hrd hdW.blo hlen).mono ?_;rintro e w' ⟨rfl,v',dv',hH,hdv,hbl,hff⟩;have hds:ofDV dv'=(endE s i).ds:=by
   show _=s.ds.drop (cR s.ds (cI (nU s i)));rw[hdv,<-h.ds];unfold ofDV;rw[List.map_drop]
  obtain⟨q1,q2,q3⟩:=hdW.hist hH hbl hff hds;refine⟨rfl,⟨_,q1,rfl,⟨rfl,fun _ _=>rfl⟩,(hst.trans (.on hd.blo hb)).trans q2⟩,fun a k ha hk=>?_⟩;have hk':k<(w.setCell ⟨m.eb,3+i,none⟩ (.pointer none)).heap.size:=by rw[hss];exact hszk a k hk
  exact((hff k (Nat.lt_of_lt_of_le hk' hb.size) (hsub a k ha hk)).1.trans (hb.block k hk')).trans (hfar a k ha hk)
 clear h hd hst hfar hsub hszk hss hrd hlen;generalize cI (nU s i)=old at *;generalize hebe:m.eb=eb at *;go_enter Tryz.func63,Tryz.ntmps63;go_wp2_with fail;generalize w.setCell ⟨eb,3+i,none⟩ (.pointer none)=W0 at *
 go_region_with (first
  | (go_at_call 71;refine(HO.out _ (r_ _ _).drew).mono ?_;rintro e w2 ⟨rfl,rfl⟩)
  | (go_at_call 125;refine(HF.out _ (r_ _ _).drew).mono ?_;rintro e w2 ⟨rfl,ha⟩;have HR:=hide ha;clear ha)
  | fail)
 all_goals
  go_wp2;go_end0;exact⟨rfl,HR.out⟩
end
theorem zHi:(Tryz.prog.info? 207).map (fun i=>(i.zero,i.size,i.bytes))=some (some (.agg #[.int .i64 0,.slice none 0 0]),2,32):=by kernel_rfl
theorem wE:(Tryz.prog.info? 9).map (fun i=>(i.zero,i.size,i.bytes))=some (some (.string ⟨#[]⟩),1,16):=by kernel_rfl
theorem zF8 (dv:List (aU×Value)) (B hb:Nat) {Xc:Nat->Option Value} (v:Value) (n:Int) (W:World) (x:Nat) (h:bP W B hb Xc v dv) (hx:∀ j u,[i_ .i64 n,Value.slice none 0 0][j]?=some u->W.cell? ((⟨x,0,none⟩:Addr).add j)=some u) (hB:B<=W.heap.size) (hn:dv.length<=1000000):
  Calls p_ 196 #[v,.int .i64 dv.length,.slice (some ⟨x,0,none⟩) 1 1] W fun e w1=>
   ∃ g cap,e=.returned (.slice (some ⟨g,0,none⟩) (dv.length+1) cap)/\bP (w1.setCell ⟨hb,2,none⟩ (.slice (some ⟨g,0,none⟩) (dv.length+1) cap)) B hb Xc (.slice (some ⟨g,0,none⟩) (dv.length+1) cap) (dv++[(⟨n,[]⟩,.slice none 0 0)])/\Below B W (w1.setCell ⟨hb,2,none⟩ (.slice (some ⟨g,0,none⟩) (dv.length+1) cap))/\w1.cell? ⟨hb,2,none⟩=some v/\w1.frozen? ⟨hb,2,none⟩=false/\(∀ b,b<W.heap.size->b≠hb->some b≠v.ownBlock->b≠g/\(w1.setCell ⟨hb,2,none⟩ (.slice (some ⟨g,0,none⟩) (dv.length+1) cap)).heap[b]?=W.heap[b]?):=by
 obtain⟨i0,hi0,hz0,hz1,hz2⟩:=info_parts zHi;have HX:=hide hx;have hown:=h.own;have HH:=hide h;clear hx h;rcases HH.out.form with⟨rfl,rfl⟩|⟨g0,cap0,rfl,_,_,hc1,hc2,_⟩
 ·go_enter Tryz.func196,Tryz.ntmps196;go_wp2_with (at_builtin;refine wpList_append_lies _ rfl _ _ _ rfl B 207 i0 _ 2 32 Tryz.underlying119 hi0 hz0 hz1 hz2 rfl (by omega) _ _ _ rfl hown ⟨x,0,none⟩ 1 1 [.int .i64 n,.slice none 0 0] rfl rfl HX.out (by simp[Value.oneCell']) (by omega) (by simp[maxLen]) (by simp) hB W.heap.size rfl ?_;intro g cap w1 ho hg hat hlt)
  go_ret;obtain⟨r1,r2,r3,r4,r5⟩:=zDx (n:=n) HH.out hB hg ho hat;exact⟨g,cap,rfl,r1,r2,r3,r4,r5⟩
 ·rcases Nat.eq_or_lt_of_le hc1 with hcc|hcc
  all_goals
   first|subst hcc|skip
   go_enter Tryz.func196,Tryz.ntmps196;go_wp2_with (at_builtin;refine wpList_append_lies _ rfl _ _ _ rfl B 207 i0 _ 2 32 Tryz.underlying119 hi0 hz0 hz1 hz2 rfl (by omega) _ _ _ rfl hown ⟨x,0,none⟩ 1 1 [.int .i64 n,.slice none 0 0] rfl rfl HX.out (by simp[Value.oneCell']) (by omega) (by unfold maxLen;omega) (by omega) hB W.heap.size rfl ?_;intro g cap w1 ho hg hat hlt)
   go_ret;obtain⟨r1,r2,r3,r4,r5⟩:=zDx (n:=n) HH.out hB hg ho hat;exact⟨g,cap,rfl,r1,r2,r3,r4,r5⟩
theorem zCH {w w':World} {ao:Option Addr} {l:List Chg} (h:bW w ao l) (hk:∀ b off,ao=some ⟨b,off,none⟩->b<w.heap.size->w'.heap[b]?=w.heap[b]?):bW w' ao l:=by
 rcases h with h|⟨b,off,rfl,h⟩
 ·exact .inl h
 ·by_cases h0:l=[]
  ·exact .inl h0
  ·have hl:0<l.length:=List.length_pos_iff.2 h0;have e:=hk b off rfl (World.block_lt_of_cell? w _ (h 0 hl).1);exact .inr ⟨b,off,rfl,fun i hi=>⟨(b_ (w:=w) e).trans (h i hi).1,(b_ (w:=w) e).trans (h i hi).2.1,(b_ (w:=w) e).trans (h i hi).2.2⟩⟩
def fV (l:List Chg):List ByteArray:=l.map (·.key)
theorem zJt {w wr X w3:World} {B hb g gcap gk ck k:Nat} {Xc:Nat->Option Value} {v:Value} {dv:List (aU×Value)} {n:Int} {l:List Chg} {kv:Value}
  (H1:bP wr B hb Xc (.slice (some ⟨g,0,none⟩) (dv.length+1) gcap) (dv++[(⟨n,fV (l.take k)⟩,kv)])) (H2:Below B w wr)
  (H3:∀ j,j<w.heap.size->j≠hb->some j≠v.ownBlock->wr.heap[j]?=w.heap[j]?/\j≠g/\some j≠kv.ownBlock) (HB2:Below wr.heap.size wr X) (xs:X.heap.size=wr.heap.size+1)
  {key:ByteArray} (hgrow:(X.alloc (o_ #[.string key] 9)).drew.grownBy w3 kv.ownBlock)
  (ho3:w3.ownsRow B 9 1 (.slice (some ⟨gk,0,none⟩) ((fV (l.take k)).length+1) ck) ((fV (l.take k)).length+1) ((fV (l.take k)).map v_++[.string key])) (hat3:kv.ownBlock=some gk∨gk=wr.heap.size+2)
  (hlt:k<l.length) (hkey:key=l[k].key:=by rfl):
  Hid (bP (w3.setCell ⟨g,dv.length*2+1,none⟩ (.slice (some ⟨gk,0,none⟩) ((fV (l.take k)).length+1) ck)) B hb Xc (.slice (some ⟨g,0,none⟩) (dv.length+1) gcap) (dv++[(⟨n,fV (l.take (k+1))⟩,.slice (some ⟨gk,0,none⟩) ((fV (l.take k)).length+1) ck)]))/\
  Hid (Below B w (w3.setCell ⟨g,dv.length*2+1,none⟩ (.slice (some ⟨gk,0,none⟩) ((fV (l.take k)).length+1) ck)))/\
  Hid (∀ j,j<w.heap.size->j≠hb->some j≠v.ownBlock->(w3.setCell ⟨g,dv.length*2+1,none⟩ (.slice (some ⟨gk,0,none⟩) ((fV (l.take k)).length+1) ck)).heap[j]?=w.heap[j]?/\j≠g/\some j≠(Value.slice (some ⟨gk,0,none⟩) ((fV (l.take k)).length+1) ck).ownBlock):=by
 subst hkey;have HH2:=H1.on HB2;have hbY:=(a_ X (o_ #[.string l[k].key] 9)).drew;have hY:=HH2.on hbY;have hsY:=hbY.size;have hloY:=HH2.lo;have hltY:=HH2.lt;have hat4:kv.ownBlock=some gk∨gk=(X.alloc (o_ #[.string l[k].key] 9)).drew.heap.size:=hat3.imp id fun e=>by
  rw[e];simp;omega
 obtain⟨r1,r2,r3⟩:=zJq hY (by omega) hgrow ho3 hat4;have ek:fV (l.take (k+1))=fV (l.take k)++[l[k].key]:=by
  unfold fV;rw[List.take_succ_eq_append_getElem hlt,List.map_append];rfl
 have hwY:Below wr.heap.size wr (X.alloc (o_ #[.string l[k].key] 9)).drew:=aB HB2 (n_ _) hbY;refine⟨?_,(H2.trans (hwY.mono (by have:=H1.lo;have:=H1.lt;omega))).trans r2,fun j h1 h2 h3=>?_⟩
 ·unfold Hid;rw[ek];exact r1
 ·obtain⟨a1,a2,a3⟩:=H3 j h1 h2 h3;have hj:j<wr.heap.size:=Nat.lt_of_lt_of_le h1 H2.size;obtain⟨b1,b2⟩:=r3 j (Nat.lt_of_lt_of_le hj hwY.size) a2 a3;exact⟨b2.trans ((hwY.block j hj).trans a1),a2,by simpa[Value.ownBlock] using b1⟩
theorem zU {w:World} {ao:Option Addr} {l:List Chg} (h:bW w ao l) (h0:l≠[]):∀ b off,ao=some ⟨b,off,none⟩->b<w.heap.size:=fun b off e=>by
 rcases h with h|⟨b',off',e',h⟩
 ·exact absurd h h0
 ·rw[e] at e';cases e';exact World.block_lt_of_cell? _ _ (h 0 (List.length_pos_iff.2 h0)).1
theorem zJF (dv:List (aU×Value)) (B hb:Nat) {Xc:Nat->Option Value} (v:Value) (n:Int) (ao:Option Addr) (cap:Nat) (l:List Chg) (w:World) (h:bP w B hb Xc v dv) (hr:gS (ofDV dv)) (htop:∀ d∈ofDV dv,d.n<n) (hB:B<=w.heap.size) (hn:dv.length<=1000)
  (hl:bW w ao l) (hll:l.length<=1000) (hoff:l≠[]->∀ b off,ao=some ⟨b,off,none⟩->b≠hb/\some b≠v.ownBlock):
  Calls p_ 133 #[.pointer (some ⟨hb,2,none⟩),.int .i64 n,.slice ao l.length cap] w fun e w'=>e=.returned (.tuple #[])/\∃ v' dv',bP w' B hb Xc v' dv'/\ofDV dv'=ofDV dv++[⟨n,fV l⟩]/\Below B w w'/\
   (∀ j,j<w.heap.size->¬inH hb v dv j->w'.heap[j]?=w.heap[j]?/\¬inH hb v' dv' j):=by
 obtain⟨e1,e2⟩:=zLC htop;have e1':posD (ofDV dv) n=dv.length:=by rw[e1];simp[ofDV]
 have HP:=hide e1';have HK:=hide e2;have HH:=hide h;have HR:=hide hr;have c:=h.cell;clear e1 e2 e1' h hr htop;go_enter Tryz.func133,Tryz.ntmps133;go_wp2_with (first
  | (go_at_call 187;refine(tP dv B hb v n _ HH.out HR.out (by omega)).mono ?_;rintro e w1 ⟨rfl,hb1⟩;rw[HP.out,HK.out];replace c:=aA hb1 c))
 have hX:∀ j u,[i_ .i64 n,Value.slice none 0 0][j]?=some u->(w1.alloc (o_ #[.int .i64 n,.slice none 0 0] 207)).cell? ((⟨w1.heap.size,0,none⟩:Addr).add j)=some u:=World.news_of_block (cs:=#[.int .i64 n,.slice none 0 0]) (t:=207) (fr:=(0,0)) (heap_alloc_new w1 _);have hb2:=a_ w1 (o_ #[.int .i64 n,.slice none 0 0] 207);have HW:=hide ((HH.out.on hb1).on hb2);have hb12:=aB hb1 (n_ _) hb2;have hBW:B<=(w1.alloc (o_ #[.int .i64 n,.slice none 0 0] 207)).heap.size:=Nat.le_trans hB hb12.size;refine(zF8 dv B hb v n _ _ HW.out hX hBW (by omega)).mono ?_;rintro e w2 ⟨g,gcap,rfl,HN,hbn,c2,f2,hfar⟩;have HN':=hide HN;have hBn:Below B w (w2.setCell ⟨hb,2,none⟩ (.slice (some ⟨g,0,none⟩) (dv.length+1) gcap)):=(hb12.mono hB).trans hbn;have HBn:=hide hBn;have HF:Hid (∀ j,j<w.heap.size->j≠hb->some j≠v.ownBlock->(w2.setCell ⟨hb,2,none⟩ (.slice (some ⟨g,0,none⟩) (dv.length+1) gcap)).heap[j]?=w.heap[j]?/\j≠g/\some j≠(Value.slice none 0 0).ownBlock):=fun j h1 h2 h3=>by
  obtain⟨a1,a2⟩:=hfar j (Nat.lt_of_lt_of_le h1 hb12.size) h2 h3;exact⟨a2.trans (hb12.block j h1),a1,by simp[Value.ownBlock]⟩
 have HL:=hide hl;have HO:=hide hoff;clear HN hbn hBn hX c hl hfar hoff;go_wp2
 go_loopw [32] (fun i wr=>∃ (k:Nat) (kv:Value),k<=l.length/\i=.int .i64 k/\bP wr B hb Xc (.slice (some ⟨g,0,none⟩) (dv.length+1) gcap) (dv++[(⟨n,fV (l.take k)⟩,kv)])/\Below B w wr/\(∀ j,j<w.heap.size->j≠hb->some j≠v.ownBlock->wr.heap[j]?=w.heap[j]?/\j≠g/\some j≠kv.ownBlock)) (fun i _=>l.length-(intOf i).toNat)
 case atStart=>exact⟨0,.slice none 0 0,Nat.zero_le _,rfl,HN'.out,HBn.out,HF.out⟩
 case round=>
  obtain⟨k,kv,hk,rfl,hH,hBr,hfr0⟩:=hrel;have H1:=hide hH;have H2:=hide hBr;have H3:=hide hfr0;clear hH hBr hfr0 HN' HBn HF c2 f2;by_cases hlt:k<l.length
  ·have hne:l≠[]:=fun e=>by rw[e] at hlt;simp at hlt
   rcases HL.out with h0|⟨b,off,eao,hc0⟩
   ·exact absurd h0 hne
   have hb0:=zU HL.out hne b off eao;obtain⟨nb0,nb1,nb2⟩:=H3.out b hb0 (HO.out hne b off eao).1 (HO.out hne b off eao).2;have hc:dG wr b off l:=fun i hi=>⟨(b_ (w:=w) nb0).trans (hc0 i hi).1,(b_ (w:=w) nb0).trans (hc0 i hi).2.1,(b_ (w:=w) nb0).trans (hc0 i hi).2.2⟩;subst eao;clear nb0 nb1 nb2 hc0 hb0;obtain⟨c0,c1,c2⟩:=hc k hlt;have hlt':(k:Int)<(l.length:Int):=by omega
   clear hc;have g0:=H1.out.cell;have g0l:=H1.out.lt;have mem:((⟨n,fV (l.take k)⟩:aU),kv)∈dv++[((⟨n,fV (l.take k)⟩:aU),kv)]:=by simp
   have hown:=H1.out.keys _ mem;have hlen:(fV (l.take k)).length=k:=by simp[fV];omega
   have kl:∀ j,kv.ownBlock=some j->j<wr.heap.size:=fun j hj=>(hown.lt j hj).2;have hrow:=H1.out.own;have hgl:=(hrow.lt g rfl).2;obtain⟨g1,g2⟩:wr.cell? ⟨g,dv.length*2+1,none⟩=some kv/\wr.frozen? ⟨g,dv.length*2+1,none⟩=false:=by
    rcases H1.out.form with⟨e,_⟩|⟨g',cap',e,_,_,_,_,hx⟩
    ·cases e
    ·simp at e;obtain⟨rfl,rfl⟩:=e;have:=(hx dv.length (by simp)).2;simpa using this
   have ag:some g≠kv.ownBlock:=by
    rcases H1.out.apart _ mem with e|e
    ·rw[e];simp
    ·exact Ne.symm e
   have ah:some hb≠kv.ownBlock:=Ne.symm (H1.out.offk _ mem);have ax:some wr.heap.size≠kv.ownBlock:=fun e=>by have:=kl _ e.symm;omega
   have HO:=hide hown;have HL2:=hide hlen;clear hrow hown hlen mem;obtain⟨i0,hi0,hz0,hz1,hz2⟩:=info_parts wE;have hd0:(0:Int)<=(dv.length:Int):=Int.natCast_nonneg _;have hd1:(dv.length:Int)<((dv.length:Int)+1):=by omega
   go_wp2;have hbX:=a_ wr (o_ #[.string l[k].key,v_ l[k].val,Value.bool l[k].gone] 133);have x0:(wr.alloc (o_ #[.string l[k].key,v_ l[k].val,Value.bool l[k].gone] 133)).cell? ⟨wr.heap.size,0,none⟩=some (.string l[k].key):=aC _ _ _ 0;have xs:(wr.alloc (o_ #[.string l[k].key,v_ l[k].val,Value.bool l[k].gone] 133)).heap.size=wr.heap.size+1:=by simp
   replace g0:=aA hbX g0;replace g1:=aA hbX g1;replace g2:=aE hbX hgl g2;have HH2:=hide (H1.out.on hbX);have HO2:=hide (bQ HO.out hbX);have HB2:=hide hbX;clear c0 c1 c2;generalize hX:wr.alloc (o_ #[.string l[k].key,v_ l[k].val,Value.bool l[k].gone] 133)=X at g0 g1 g2 x0 xs HH2 HO2 HB2 ⊢;clear hX hbX;have HNW:Hid (∀ j u,[v_ l[k].key][j]?=some u->(X.alloc (o_ #[.string l[k].key] 9)).drew.cell? ((⟨wr.heap.size+1,0,none⟩:Addr).add j)=some u):=by
    rw[<-xs];exact World.news_of_block (cs:=#[.string l[k].key]) (t:=9) (fr:=(0,0)) (heap_alloc_new X _)
   have hfr:∀ o,(X.alloc o).frozen? ⟨g,dv.length*2+1,none⟩=false:=fun o=>aE (a_ _ _) (by show g<_;omega) g2
   go_region_law ((refine step_append_lies _ (by rfl) _ _ _ (by rfl) B 9 i0 _ 1 16 Tryz.underlying71 hi0 hz0 hz1 hz2 rfl (by omega) kv _ _ (by rfl) ((HO2.out.alloc _).drew) ⟨wr.heap.size+1,0,none⟩ 1 1 [.string l[k].key] (by rfl) (by rfl) HNW.out (by simp[Value.oneCell']) (by omega) (by rw[HL2.out];unfold maxLen;omega) (by rw[HL2.out];omega) (by have h1:=H1.out.lo;simp;omega) (wr.heap.size+2) (by simp;omega) ?_;intro gk ck w3 ho3 hgrow hat3 hlt3;have k0:w3.cell? ⟨hb,2,none⟩=some (.slice (some ⟨g,0,none⟩) (dv.length+1) gcap):=hgrow.cell (aA (a_ _ _).drew g0) ah;have k1:w3.cell? ⟨g,dv.length*2+1,none⟩=some kv:=hgrow.cell (aA (a_ _ _).drew g1) ag;have k2:w3.frozen? ⟨g,dv.length*2+1,none⟩=false:=(hgrow.frozen_far _ (by simp;omega) ag).trans (hfr _)))
   all_goals
    obtain⟨R1,R2,R3⟩:=zJt H1.out H2.out H3.out HB2.out xs hgrow ho3 hat3 hlt;clear k0 k1 k2 ho3 hgrow hat3 hlt3 g0 g1 g2 x0 hfr;go_wp2;go_roundw
    case rel=>exact⟨k+1,_,by omega,by go_num,R1.out,R2.out,R3.out⟩
    case measure=>simp[intOf];omega
  ·have e:l.take k=l:=List.take_of_length_le (by omega);have hlt':¬(k:Int)<(l.length:Int):=by omega
   rw[e] at H1;clear e;go_wp2;go_end0;refine⟨rfl,_,_,H1.out,by simp[ofDV],H2.out,fun j h1 h2=>?_⟩;obtain⟨a1,a2,a3⟩:=H3.out j h1 (fun e=>h2 (.inl e)) (fun e=>h2 (.inr (.inl e.symm)));refine⟨a1,?_⟩;rintro(e|e|⟨p,hp,e⟩)
   ·exact h2 (.inl e)
   ·simp[Value.ownBlock] at e;exact a2 e.symm
   ·rcases List.mem_append.1 hp with hp|hp
    ·exact h2 (.inr (.inr ⟨p,hp,e⟩))
    ·simp only[List.mem_singleton] at hp;subst hp;exact a3 e.symm
theorem zGv (ao:Option Addr) (cap:Nat) (w:World):
  Calls p_ 195 #[.slice ao 0 cap] w fun e w'=>e=.returned (errV 0)/\Below w.heap.size w w':=by
 go_enter Tryz.func195,Tryz.ntmps195;go_wp2;refine wp_loop_rounds 1 ?_;rw[rounds_succ];go_wp2;go_ret;exact⟨rfl,r_ _ _⟩
theorem zDZ (l:List Chg) (ao:Option Addr) (cap:Nat) (w:World) (hl:bW w ao l) (hn:l.length<=1000) (hk:∀ c∈l,c.key.size<=1000000):
  Calls p_ 195 #[.slice ao l.length cap] w fun e w'=>e=.returned (errV (iT l))/\Below w.heap.size w w':=by
 rcases hl with rfl|⟨b,off,rfl,h⟩
 ·exact zGv _ _ _
 ·exact zEW l b off cap w h hn hk
theorem zLj:(Tryz.prog.info? 233).map (fun i=>(i.zero,i.size,i.bytes))=some (some (.agg #[.int .i64 0,.string ⟨#[]⟩,.bool false]),3,32):=by kernel_rfl
theorem VS.tick {W:World} {B vb mb n:Nat} {now now':Int} {D:DataW Value} {g:ByteArray->Value} {R:ByteArray->List Ver} (h:VS W B vb mb now n D g R):VS (W.setCell ⟨vb,0,none⟩ (.int .i64 now')) B vb mb now' n D g R where
 num:=u_ _ _ _ h.num
 soft:=by simpa using h.soft
 mp:=(t_ _ _ _ _ (by simp)).trans h.mp
 own:=tZ h.own (h_ _ _ _ _ (Ne.symm h.ne))
 look:=h.look
 has:=h.has
 rows:=fun key=>aI (h.rows key) fun k e=>h_ _ _ _ _ (fun e'=>h.offv key (by rw[e,e']))
 lov:=h.lov
 lom:=h.lom
 ne:=h.ne
 offv:=h.offv
 offm:=h.offm
 apart:=h.apart
theorem zEq {w wr Y w3 w4:World} {B vb mb n gk ck:Nat} {now:Int} {D:DataW Value} {g g0:ByteArray->Value} {R:ByteArray->List Ver} {x:Chg} {gv:Value} (h:VS Y B vb mb (now+1) n D g R) (hbY:Below wr.heap.size wr Y) (xs:Y.heap.size=wr.heap.size+1) (hk:x.key.size<=maxLen) (hB:B<=Y.heap.size) (hBr:B<=wr.heap.size) (hgv:g x.key=gv)
  (hg:(Y.alloc (o_ #[.int .i64 (now+1),.string x.val,.bool x.gone] 233)).drew.grownBy w3 gv.ownBlock)
  (ho:w3.ownsRow B 233 3 (.slice (some ⟨gk,0,none⟩) ((R x.key).length+1) ck) ((R x.key).length+1) ((R x.key).flatMap nO++[.int .i64 (now+1),.string x.val,.bool x.gone])) (hat:gv.ownBlock=some gk∨gk=wr.heap.size+2)
  (hm:w4.ownsMap p_ 9 RV mb (n+1) (D.put (kL x.key) (.held (.slice (some ⟨gk,0,none⟩) ((R x.key).length+1) ck)))) (hg4:w3.grownBy w4 (some mb))
  (H2:Below B w wr) (H3:∀ j,j<w.heap.size->¬inVS vb mb g0 j->wr.heap[j]?=w.heap[j]?/\¬inVS vb mb g j):
  Hid (VS w4 B vb mb (now+1) (n+1) (D.put (kL x.key) (.held (.slice (some ⟨gk,0,none⟩) ((R x.key).length+1) ck))) (putG g x.key (.slice (some ⟨gk,0,none⟩) ((R x.key).length+1) ck)) (putG R x.key (R x.key++[⟨now+1,x.val,x.gone⟩])))/\Hid (Below B w w4)/\
  Hid (∀ j,j<w.heap.size->¬inVS vb mb g0 j->w4.heap[j]?=w.heap[j]?/\¬inVS vb mb (putG g x.key (.slice (some ⟨gk,0,none⟩) ((R x.key).length+1) ck)) j):=by
 subst hgv;have hbZ:=(a_ Y (o_ #[.int .i64 (now+1),.string x.val,.bool x.gone] 233)).drew;have hs:=hbZ.size;have hZ:(Y.alloc (o_ #[.int .i64 (now+1),.string x.val,.bool x.gone] 233)).drew.heap.size=wr.heap.size+2:=by
  show(Y.alloc _).heap.size=_;rw[World.size_alloc,xs]
 have ho':ownV w3 B (.slice (some ⟨gk,0,none⟩) ((R x.key).length+1) ck) (R x.key++[⟨now+1,x.val,x.gone⟩]):=by
  unfold ownV;rw[List.length_append,List.flatMap_append];exact ho
 obtain⟨r1,r2,r3⟩:=(h.on hbZ).put (x:=⟨now+1,x.val,x.gone⟩) hk (Nat.le_trans hB hs) hg ho' (hat.imp id fun e=>by rw[e,hZ]) hm hg4;have hwZ:=aB hbY (n_ _) hbZ;refine⟨r1,(H2.trans (hwZ.mono hBr)).trans r2,fun j h1 h2=>?_⟩;obtain⟨a1,a2⟩:=H3 j h1 h2;have hj:j<wr.heap.size:=Nat.lt_of_lt_of_le h1 H2.size;obtain⟨b1,b2⟩:=r3 j (Nat.lt_of_lt_of_le hj hwZ.size) a2;exact⟨b1.trans ((hwZ.block j hj).trans a1),b2⟩
theorem zEa (l:List Chg) (ao:Option Addr) (cap:Nat) {B vb mb n:Nat} {now:Int} {D:DataW Value} {g:ByteArray->Value} {R:ByteArray->List Ver} (w:World) (h:VS w B vb mb now n D g R) (hB:B<=w.heap.size)
  (hl:bW w ao l) (hn:l.length<=1000) (hk:∀ c∈l,c.key.size<=1000000) (hoff:l≠[]->∀ b off,ao=some ⟨b,off,none⟩->¬inVS vb mb g b) (h0:0<=now) (h1:now<=1000000) (hn2:n<=1000000) (hR:∀ key,(R key).length<=1000000) (hf:iT l=0):
  Calls p_ 132 #[.pointer (some ⟨vb,0,none⟩),.slice ao l.length cap] w fun e w'=>e=.returned (.tuple #[.int .i64 (now+1),.nilIface])/\∃ D' g',VS w' B vb mb (now+1) (n+l.length) D' g' (cW R (now+1) l)/\Below B w w'/\
   (∀ j,j<w.heap.size->¬inVS vb mb g j->w'.heap[j]?=w.heap[j]?/\¬inVS vb mb g' j):=by
 have HV:=hide h;have HL:=hide hl;have HF:=hide hf;have HO:=hide hoff;have HK:=hide hk;have HRR:=hide hR;have c0:=h.num;have f0:=h.soft;clear h hl hf hoff hk hR;go_enter Tryz.func132,Tryz.ntmps132;go_wp2_with (go_at_call 195;refine(zDZ l ao cap _ HL.out hn HK.out).mono ?_;rintro e w1 ⟨rfl,hb1⟩;rw[HF.out];simp only[errV];replace c0:=aA hb1 c0;replace f0:=aE hb1 (HV.out.lt (.inl rfl)) f0)
 have HV1:=hide (VS.tick (now':=now+1) (HV.out.on hb1));have hvl:=HV.out.lt (k:=vb) (.inl rfl);have HF1:Hid (∀ j,j<w.heap.size->¬inVS vb mb g j->(w1.setCell ⟨vb,0,none⟩ (.int .i64 (now+1))).heap[j]?=w.heap[j]?/\¬inVS vb mb g j):=fun j h1 h2=>⟨(h_ _ _ _ _ (fun e=>h2 (.inl e))).trans (hb1.block j h1),h2⟩;have HB1:Hid (Below B w (w1.setCell ⟨vb,0,none⟩ (.int .i64 (now+1)))):=(hb1.mono hB).setCell HV.out.lov _;clear c0 f0
 go_loopw [23] (fun i wr=>∃ (k:Nat) (D':DataW Value) (g':ByteArray->Value),k<=l.length/\i=.int .i64 k/\VS wr B vb mb (now+1) (n+k) D' g' (cW R (now+1) (l.take k))/\Below B w wr/\(∀ j,j<w.heap.size->¬inVS vb mb g j->wr.heap[j]?=w.heap[j]?/\¬inVS vb mb g' j)) (fun i _=>l.length-(intOf i).toNat)
 case atStart=>exact⟨0,D,g,Nat.zero_le _,rfl,HV1.out,HB1.out,HF1.out⟩
 case round=>
  obtain⟨k,D',g',hkl,rfl,hV,hBr,hfar⟩:=hrel;have H1:=hide hV;have H2:=hide hBr;have H3:=hide hfar;clear hV hBr hfar HV1 HF1 HB1 hb1;by_cases hlt:k<l.length
  ·have hne:l≠[]:=fun e=>by rw[e] at hlt;simp at hlt
   rcases HL.out with e|⟨b,off,eao,hc0⟩
   ·exact absurd e hne
   have hb0:b<w.heap.size:=World.block_lt_of_cell? _ _ (hc0 k hlt).1;obtain⟨nb0,_⟩:=H3.out b hb0 (HO.out hne b off eao);subst eao;have c0:=(b_ (w:=w) nb0).trans (hc0 k hlt).1;have c1:=(b_ (w:=w) nb0).trans (hc0 k hlt).2.1;have c2:=(b_ (w:=w) nb0).trans (hc0 k hlt).2.2;have hlt':(k:Int)<(l.length:Int):=by omega
   have hks:=HK.out _ (List.getElem_mem hlt);have hkm:l[k].key.size<=maxLen:=by unfold maxLen;omega
   have eT:l.take (k+1)=l.take k++[l[k]]:=List.take_succ_eq_append_getElem hlt;have hRl:(cW R (now+1) (l.take k) l[k].key).length<=1002000:=by
    have a1:=sF (now+1) l[k].key (l.take k) R;have a2:=HRR.out l[k].key;have a3:=List.length_take_le k l;omega
   generalize hR1:cW R (now+1) (l.take k)=R1 at H1 hRl;have HT:Hid (cW R (now+1) (l.take (k+1))=putG R1 l[k].key (R1 l[k].key++[⟨now+1,l[k].val,l[k].gone⟩])):=by
    unfold Hid;rw[eT,zEl,hR1]
   clear hc0 nb0 eT hR1;generalize l[k]=x at *;clear hks;have hbA:=a_ wr (o_ #[.string x.key,.string x.val,.bool x.gone] 133);have x0:(wr.alloc (o_ #[.string x.key,.string x.val,.bool x.gone] 133)).cell? ⟨wr.heap.size,0,none⟩=some (.string x.key):=aC _ _ _ 0;have x1:(wr.alloc (o_ #[.string x.key,.string x.val,.bool x.gone] 133)).cell? ⟨wr.heap.size,1,none⟩=some (.string x.val):=aC _ _ _ 1;have x2:(wr.alloc (o_ #[.string x.key,.string x.val,.bool x.gone] 133)).cell? ⟨wr.heap.size,2,none⟩=some (.bool x.gone):=aC _ _ _ 2;have xs:(wr.alloc (o_ #[.string x.key,.string x.val,.bool x.gone] 133)).heap.size=wr.heap.size+1:=by simp
   have HVY:=hide (H1.out.on hbA);have HBY:=hide hbA;have hnv:¬inVS vb mb g' wr.heap.size:=fun e=>by have:=H1.out.lt e;omega
   go_wp2;generalize hY:wr.alloc (o_ #[.string x.key,.string x.val,.bool x.gone] 133)=Y at x0 x1 x2 xs HVY HBY ⊢;clear hY hbA c0 c1 c2;have v0:=HVY.out.num;have v1:=HVY.out.mp;have hvY:=HVY.out.lt (k:=vb) (.inl rfl);have hmY:=HVY.out.lt (k:=mb) (.inr (.inl rfl));have hl1:=(HVY.out.on (r_ _ Y).drew).looked hkm;have hbZ:=(a_ Y (o_ #[.int .i64 (now+1),.string x.val,.bool x.gone] 233)).drew;have HVZ:=hide (HVY.out.on hbZ);have hl2:=HVZ.out.looked hkm;have hrow:=HVZ.out.rows x.key;have hov:=HVZ.out.offv x.key;have hom:=HVZ.out.offm x.key;have hoX:(g' x.key).ownBlock≠some wr.heap.size:=fun e=>hnv (.inr (.inr ⟨x.key,e⟩));generalize hgv:g' x.key=gv at hl1 hl2 hrow hov hom hoX;have HGV:=hide hgv;have HRW:=hide hrow;have HNW:Hid (∀ j u,[i_ .i64 (now+1),v_ x.val,Value.bool x.gone][j]?=some u->(Y.alloc (o_ #[.int .i64 (now+1),.string x.val,.bool x.gone] 233)).drew.cell? ((⟨wr.heap.size+1,0,none⟩:Addr).add j)=some u):=by
    rw[<-xs];exact World.news_of_block (cs:=#[.int .i64 (now+1),.string x.val,.bool x.gone]) (t:=233) (fr:=(0,0)) (heap_alloc_new Y _)
   have hBY:B<=Y.heap.size:=by have a:=HVY.out.lov;omega
   have hBr:B<=wr.heap.size:=by have a:=H1.out.lov;have b:=H1.out.lt (k:=vb) (.inl rfl);omega
   obtain⟨i0,hi0,hz0,hz1,hz2⟩:=info_parts zLj;have nvm:(some vb:Option Nat)≠some mb:=fun e=>HVY.out.ne (by cases e;rfl);have nxm:(some wr.heap.size:Option Nat)≠some mb:=fun e=>hnv (.inr (.inl (by cases e;rfl)));clear hgv hrow
   go_region_held3 (fun w'=>w'.cell? ⟨vb,0,none⟩=some (.int .i64 (now+1))/\w'.cell? ⟨vb,1,none⟩=some (.map (some mb))/\w'.cell? ⟨wr.heap.size,0,none⟩=some (.string x.key)/\w'.cell? ⟨wr.heap.size,1,none⟩=some (.string x.val)/\w'.cell? ⟨wr.heap.size,2,none⟩=some (.bool x.gone))
    (first|go_keep|exact⟨j0,j1,j2,j3,j4⟩|exact⟨q0,q1,q2,q3,q4⟩)
    ((refine step_append_lies _ (by rfl) _ _ _ (by rfl) B 233 i0 _ 3 32 Tryz.underlying218 hi0 hz0 hz1 hz2 rfl (by omega) gv _ _ (by rfl) HRW.out ⟨wr.heap.size+1,0,none⟩ 1 1 [.int .i64 (now+1),.string x.val,.bool x.gone] (by rfl) (by rfl) HNW.out (by simp[Value.oneCell']) (by omega) (by unfold maxLen;omega) (by omega) (by simp;omega) (wr.heap.size+2) (by simp;omega) ?_;intro gk ck w3 ho3 hgrow hat3 hlt3;obtain⟨w4,hrun4,hm4,hg4⟩:=(tZ HVZ.out.own (hgrow.block mb (by simp;omega) (Ne.symm hom))).update eX Tryz.underlying217 (by unfold maxLen;omega) (uH hkm) (show RV (.slice (some ⟨gk,0,none⟩) ((R1 x.key).length+1) ck)=_ from rfl);have j0:=hgrow.cell (aA hbZ v0) (Ne.symm hov);have j1:=hgrow.cell (aA hbZ v1) (Ne.symm hov);have j2:=hgrow.cell (aA hbZ x0) (Ne.symm hoX);have j3:=hgrow.cell (aA hbZ x1) (Ne.symm hoX);have j4:=hgrow.cell (aA hbZ x2) (Ne.symm hoX);have q0:=hg4.cell j0 nvm;have q1:=hg4.cell j1 nvm;have q2:=hg4.cell j2 nxm;have q3:=hg4.cell j3 nxm;have q4:=hg4.cell j4 nxm))
   all_goals
    obtain⟨R1',R2',R3'⟩:=zEq HVY.out HBY.out xs hkm hBY hBr HGV.out hgrow ho3 hat3 hm4 hg4 H2.out H3.out;clear j0 j1 j2 j3 j4 q0 q1 q2 q3 q4 hrun4 hm4 hg4 ho3 hgrow hat3 hlt3 hl1 hl2 v0 v1 x0 x1 x2;go_wp2;go_roundw
    case rel=>exact⟨k+1,_,_,by omega,by go_num,by rw[HT.out];exact R1'.out,R2'.out,R3'.out⟩
    case measure=>simp[intOf];omega
  ·have ek:k=l.length:=by omega
   subst ek;have hlt':¬(l.length:Int)<(l.length:Int):=by omega
   rw[List.take_length] at H1;have v0:=H1.out.num;go_wp2;go_ret2;exact⟨rfl,_,_,H1.out,H2.out,H3.out⟩
def zI (s:ESt) (l:List Chg):ESt:=if (comR s.x l).1=0 then addE s l else { s with x:=(comR s.x l).2 }
section
variable {B:Nat} {m:EMem} {s:ESt}
theorem vY {w w':World} {ao:Option Addr} {l:List Chg} (h:bW w ao l) (hk:l≠[]->∀ b off,ao=some ⟨b,off,none⟩->w'.heap[b]?=w.heap[b]?):bW w' ao l:=by
 by_cases h0:l=[]
 ·exact .inl h0
 ·exact zCH h fun b off e _=>hk h0 b off e
theorem zLc (l:List Chg) (ao:Option Addr) (cap:Nat) (w:World) (h:EK w B m s) (ok:EOk s) (hc:s.c<=190) (hl:bW w ao l) (hoff:l≠[]->∀ b off,ao=some ⟨b,off,none⟩->¬allF m s.ses b) (hcf:∀ c∈l,aD c=0) (hcr:rises l) (hn:l.length<=12):
  Calls p_ 67 #[.pointer (some ⟨m.eb,0,none⟩),.slice ao l.length cap] w fun e w'=>e=.returned (.tuple #[.int .i64 (if (comR s.x l).1=0 then ((s.now+1:Nat):Int) else 0),errV (comR s.x l).1])/\ActE w w' B m s (zI s l):=by
 have c0:=h.cell0;have c1:=h.cell1;have hkey:∀ c∈l,c.key.size<=60:=fun c hc=>lD (hcf c hc);have hval:∀ c∈l,c.val.size<=40:=fun c hc=>(oO (hcf c hc)).2;have hnc:=ok.nc;have hap:apart m.Ts ao l:=by
  by_cases h0:l=[]
  ·exact .inl h0
  ·rcases hl with e|⟨b,off,e,_⟩
   ·exact absurd e h0
   ·refine .inr fun a ea=>?_;rw[e] at ea;cases ea;exact fun hT=>hoff h0 b off e ⟨1,hT⟩
 have hblt:l≠[]->∀ b off,ao=some ⟨b,off,none⟩->b<w.heap.size:=fun h0=>zU hl h0;have HS:=hide (zEV l ao cap w h.sa ok.g hl hap (by omega) fun c hc=>⟨by have:=hkey c hc;omega,by have:=hval c hc;omega⟩);have HK:=hide h;clear h;unfold zI;by_cases h0:(comR s.x l).1=0
 ·rw[h0,if_pos rfl,aR];rw[h0,aR] at HS;have HD:=hide (zEX hcf hcr);have HV:Hid (∀ w1,ActS w w1 B m.sb m.db m.Ts (comR s.x l).2->w1.cell? ⟨m.eb,1,none⟩=some (.pointer (some ⟨m.vb,0,none⟩))/\Calls p_ 132 #[.pointer (some ⟨m.vb,0,none⟩),.slice ao l.length cap] w1 fun e w2=>e=.returned (.tuple #[.int .i64 ((s.now:Int)+1),.nilIface])/\Calls p_ 133 #[.pointer (some ⟨m.eb,2,none⟩),.int .i64 ((s.now:Int)+1),.slice ao l.length cap] w2 fun e w3=>e=.returned (.tuple #[])/\ActE w w3 B m s (addE s l)):=fun w1 ha=>by
   obtain⟨T',k1,k2,k3⟩:=HK.out.store ha;have hoff1:l≠[]->∀ b off,ao=some ⟨b,off,none⟩->¬allF { m with Ts:=T' } s.ses b:=fun h0 b off e=>(k2.far b (hblt h0 b off e) (hoff h0 b off e)).2;have hl1:bW w1 ao l:=vY hl fun h0 b off e=>(k2.far b (hblt h0 b off e) (hoff h0 b off e)).1;refine⟨k1.cell1,(zEa l ao cap w1 k1.vs k1.blo hl1 (by omega) (fun c hc=>by have:=hkey c hc;omega) (fun h0 b off e hin=>hoff1 h0 b off e ⟨2,hin⟩) (by show(0:Int)<=(s.now:Int);omega) (by show(s.now:Int)<=1000000;omega) (by have:=HK.out.mn;show m.many<=1000000;omega) (fun key=>by have:=ok.rl key;show(s.R key).length<=1000000;omega) HD.out).mono ?_⟩;rintro e w2 ⟨rfl,D',g',hv2,hb2,hf2⟩;refine⟨rfl,?_⟩;have hv2':VS w2 B m.vb m.mb ((s.now+1:Nat):Int) (m.many+l.length) D' g' (cW s.R ((s.now:Int)+1) l):=hv2;obtain⟨p1,p2,p3⟩:=k1.vers (c':=s.c+1) hv2' hb2 hf2 (by have:=HK.out.mn;show m.many+l.length<=2000*(s.c+1+1);omega);have hs12:=k2.bel.size;have hoff2:l≠[]->∀ b off,ao=some ⟨b,off,none⟩->¬allF { m with Ts:=T',many:=m.many+l.length,D:=D',g:=g' } s.ses b:=fun h0 b off e=>(p2.far b (Nat.lt_of_lt_of_le (hblt h0 b off e) hs12) (hoff1 h0 b off e)).2;have hl2:bW w2 ao l:=vY hl1 fun h0 b off e=>(p2.far b (Nat.lt_of_lt_of_le (hblt h0 b off e) hs12) (hoff1 h0 b off e)).1;have hds:ofDV m.dv=s.ds:=HK.out.ds;have hlen:m.dv.length<=1000:=by
    have e1:=congrArg List.length hds;have e2:=ok.dl;unfold ofDV at e1;rw[List.length_map] at e1;omega
   refine(zJF m.dv B m.eb m.hv ((s.now:Int)+1) ao cap l w2 p1.hi (by rw[hds];exact ok.rd) (by rw[hds];intro d hd;have:=ok.dn d hd;omega) p1.blo hlen hl2 (by omega) fun h0 b off e=>⟨fun e2=>hoff2 h0 b off e ⟨0,.inl e2⟩,fun e2=>hoff2 h0 b off e ⟨0,.inr (.inl e2.symm)⟩⟩).mono ?_;rintro e w3 ⟨rfl,v',dv',hH,hdv,hb3,hf3⟩;obtain⟨r1,r2,_⟩:=p1.hist hH hb3 hf3 (ds':=s.ds++[⟨(s.now:Int)+1,l.map (·.key)⟩]) (by rw[hdv,hds];rfl);exact⟨rfl,_,r1,rfl,⟨rfl,fun _ _=>rfl⟩,(k2.trans p2).trans r2⟩
  have hw:wrap64 ((s.now:Int)+1)=((s.now+1:Nat):Int):=by unfold wrap64;omega
  have e1:((s.now:Int)+1)=((s.now+1:Nat):Int):=by omega
  rw[e1] at HV;clear HK hl hoff hap hblt hcf hcr HD hkey hval;generalize (s.now+1:Nat)=nn at *;generalize comR s.x l=R at *;generalize m.eb=eb at *;generalize m.vb=vb at *;go_enter Tryz.func67,Tryz.ntmps67;go_wp2_with fail;refine HS.out.mono ?_;rintro e w1 ⟨rfl,ha⟩;obtain⟨c1',hvc⟩:=HV.out w1 ha;have HVC:=hide hvc;clear HV HS ha hvc c0 c1;go_wp2_with fail;refine HVC.out.mono ?_;rintro e w2 ⟨rfl,hnote⟩;have HNC:=hide hnote;clear hnote HVC c1';go_wp2_with fail;refine HNC.out.mono ?_;rintro e w3 ⟨rfl,ha⟩;have HR:=hide ha;clear ha HNC;go_wp2;go_ret2;exact⟨rfl,HR.out⟩
 ·rw[if_neg h0,if_neg h0,aP h0];rw[aP h0] at HS;have HR:Hid (∀ w1,ActS w w1 B m.sb m.db m.Ts (comR s.x l).2->ActE w w1 B m s { s with x:=(comR s.x l).2 }):=fun w1 ha=>by
   obtain⟨T',k1,k2,k3⟩:=HK.out.store ha;exact⟨_,k1,rfl,⟨rfl,fun _ _=>rfl⟩,k2⟩
  clear HK hl hoff hap hblt hcf hcr hkey hval;generalize comR s.x l=R at *;go_enter Tryz.func67,Tryz.ntmps67;go_wp2_with fail;refine HS.out.mono ?_;rintro e w1 ⟨rfl,ha⟩;have HQ:=hide (HR.out w1 ha);clear HR HS ha c0 c1;go_wp2;go_ret2;exact⟨rfl,HQ.out⟩
end
end
section
open Go.RowKit Go.Joins
theorem wF (f t key:ByteArray) (kb:Nat) (w:World) (hk:w.cell? ⟨kb,0,none⟩=some (.string key)):
  Calls p_ 190 #[.agg #[.string f,.string t],.pointer (some ⟨kb,0,none⟩)] w fun e w'=>e=.returned (.bool (hasS f t key))/\Below w.heap.size w w':=by
 have hB:=a_ w (o_ #[.string f,.string t] 80);have ck:=aA hB hk;go_enter Tryz.func190,Tryz.ntmps190;go_wp2_with (go_at_call 162;refine(pH _ _ _ _).mono ?_;rintro e w1 ⟨rfl,hb⟩;replace hB:=aB hB (n_ _) hb)
 go_ret;exact⟨rfl,hB⟩
theorem zB1 (l:List (ByteArray×ByteArray)) (b off cap kb:Nat) (key:ByteArray) (w:World) (hl:iO w b off l) (hk:w.cell? ⟨kb,0,none⟩=some (.string key)) (hn:l.length<=maxLen):
  Calls p_ 246 #[.slice (some ⟨b,off,none⟩) l.length cap,.func (Fn.func 190) #[] #[.pointer (some ⟨kb,0,none⟩)]] w
   fun e w'=>(∃ i:Int,e=.returned (.int .i64 i)/\decide (0<=i)=l.any fun s=>hasS s.1 s.2 key)/\Below w.heap.size w w':=by
 unfold maxLen at hn;go_enter Tryz.func246,Tryz.ntmps246;go_wp2
 go_loopw [8] (fun i wr=>∃ k:Nat,k<=l.length/\i=.int .i64 k/\(l.take k).any (fun s=>hasS s.1 s.2 key)=false/\Below w.heap.size w wr) (fun i _=>l.length-(intOf i).toNat)
 case atStart=>exact⟨0,Nat.zero_le _,rfl,by simp,r_ _ _⟩
 case round=>
  obtain⟨k,hk1,rfl,hno,hB⟩:=hrel;have HA:=hide hno;clear hno;by_cases hlt:k<l.length
  ·obtain⟨c0,c1⟩:=gW hB hl k hlt;have ck:=aA hB hk
   cases hh:hasS l[k].1 l[k].2 key with
   | true=>
    go_wp2_with (go_at_call 190;refine(wF _ _ key _ _ ck).mono ?_;rintro e w1 ⟨rfl,hb⟩;replace hB:=aB hB (n_ _) hb;clear hb)
    go_ret;exact⟨⟨k,rfl,by rw[zLU hlt hh];simp⟩,hB⟩
   | false=>
    go_wp2_with (go_at_call 190;refine(wF _ _ key _ _ ck).mono ?_;rintro e w1 ⟨rfl,hb⟩;replace hB:=aB hB (n_ _) hb;clear hb)
    go_roundw
    case rel=>exact⟨k+1,by omega,by go_num,zKD hlt HA.out hh,hB⟩
    case measure=>simp[intOf];omega
  ·go_wp2;go_ret;refine⟨⟨-1,rfl,?_⟩,hB⟩;have e:l.take k=l:=List.take_of_length_le (by omega);have:=HA.out;rw[e] at this;rw[this];rfl
theorem zB6 (ao:Option Addr) (cap kb:Nat) (w:World):
  Calls p_ 246 #[.slice ao 0 cap,.func (Fn.func 190) #[] #[.pointer (some ⟨kb,0,none⟩)]] w
   fun e w'=>e=.returned (.int .i64 (-1))/\w'=w:=by
 go_enter Tryz.func246,Tryz.ntmps246;go_wp2;refine wp_loop_rounds 1 ?_;rw[rounds_succ];go_wp2;go_ret;exact⟨rfl,rfl⟩
theorem xM (l:List (ByteArray×ByteArray)) (b off cap kb:Nat) (key:ByteArray) (w:World) (hl:iO w b off l) (hk:w.cell? ⟨kb,0,none⟩=some (.string key)) (hn:l.length<=maxLen):
  Calls p_ 189 #[.slice (some ⟨b,off,none⟩) l.length cap,.func (Fn.func 190) #[] #[.pointer (some ⟨kb,0,none⟩)]] w
   fun e w'=>e=.returned (.bool (l.any fun s=>hasS s.1 s.2 key))/\Below w.heap.size w w':=by
 go_enter Tryz.func189,Tryz.ntmps189;go_wp2_with (go_at_call 246;refine(zB1 l _ _ _ _ key _ hl hk hn).mono ?_;rintro e w1 ⟨⟨i,rfl,hi⟩,hb⟩)
 go_ret;exact⟨rfl,hb⟩
theorem wU (ao:Option Addr) (cap kb:Nat) (w:World):
  Calls p_ 189 #[.slice ao 0 cap,.func (Fn.func 190) #[] #[.pointer (some ⟨kb,0,none⟩)]] w
   fun e w'=>e=.returned (.bool false)/\w'=w:=by
 go_enter Tryz.func189,Tryz.ntmps189;go_wp2_with (go_at_call 246;refine(zB6 _ _ _ _).mono ?_;rintro e w1 ⟨rfl,rfl⟩)
 go_ret;exact⟨rfl,rfl⟩
theorem zMA (l:List (ByteArray×ByteArray)) (b off cap:Nat) (key:ByteArray) (w:World) (hl:iO w b off l) (hn:l.length<=maxLen):
  Calls p_ 129 #[.slice (some ⟨b,off,none⟩) l.length cap,.string key] w fun e w'=>e=.returned (.bool (l.any fun s=>hasS s.1 s.2 key))/\Below w.heap.size w w':=by
 have hB:=a_ w (o_ #[.string key] 9);have hk:(w.alloc (o_ #[.string key] 9)).cell? ⟨w.heap.size,0,none⟩=some (.string key):=by simp
 have hl':=gW hB hl;go_enter Tryz.func129,Tryz.ntmps129;go_wp2_with (go_at_call 189;refine(xM l _ _ _ _ key _ hl' hk hn).mono ?_;rintro e w1 ⟨rfl,hb⟩;replace hB:=aB hB (n_ _) hb;clear hb)
 go_ret;exact⟨rfl,hB⟩
theorem zMM (ao:Option Addr) (cap:Nat) (key:ByteArray) (w:World):
  Calls p_ 129 #[.slice ao 0 cap,.string key] w fun e w'=>e=.returned (.bool false)/\Below w.heap.size w w':=by
 go_enter Tryz.func129,Tryz.ntmps129;go_wp2_with (go_at_call 189;refine(wU _ _ _ _).mono ?_;rintro e w1 ⟨rfl,rfl⟩)
 go_ret;exact⟨rfl,a_ _ _⟩
theorem zKe (l:List (ByteArray×ByteArray)) (ao:Option Addr) (cap:Nat) (key:ByteArray) (w:World) (hl:bY w ao l) (hn:l.length<=maxLen):
  Calls p_ 129 #[.slice ao l.length cap,.string key] w fun e w'=>e=.returned (.bool (l.any fun s=>hasS s.1 s.2 key))/\Below w.heap.size w w':=by
 rcases hl with rfl|⟨b,off,rfl,h⟩
 ·exact zMM _ _ _ _
 ·exact zMA l b off cap key w h hn
theorem wO (l:List (ByteArray×ByteArray)) (ao:Option Addr) (cap rb:Nat) (key:ByteArray) (w:World) (hc:w.cell? ⟨rb,0,none⟩=some (.slice ao l.length cap)) (hl:bY w ao l) (hn:l.length<=maxLen):
  Calls p_ 128 #[.string key,.pointer (some ⟨rb,0,none⟩)] w fun e w'=>e=.returned (.bool (l.any fun s=>hasS s.1 s.2 key))/\Below w.heap.size w w':=by
 go_enter Tryz.func128,Tryz.ntmps128;go_wp2_with (go_at_call 129;refine(zKe l _ _ _ _ hl hn).mono ?_;rintro e w1 ⟨rfl,hb⟩)
 go_ret;exact⟨rfl,hb⟩
def zAI (w:World) (g:Nat) (ks:List ByteArray):Prop:=∀ i (hi:i<ks.length),w.cell? ⟨g,i,none⟩=some (.string ks[i])
theorem zG7 {w w':World} {g:Nat} {ks:List ByteArray} (hb:Below w.heap.size w w') (h:zAI w g ks):zAI w' g ks:=fun i hi=>aA hb (h i hi)
theorem zJn {ks:List ByteArray} {f:ByteArray->Bool} {k:Nat} (hk:k<ks.length) (h:(ks.take k).any f=false) (h2:f ks[k]=false):(ks.take (k+1)).any f=false:=by
 rw[List.take_succ_eq_append_getElem hk,List.any_append,h];simp[h2]
theorem zKz {ks:List ByteArray} {f:ByteArray->Bool} {k:Nat} (hk:k<ks.length) (h:f ks[k]=true):ks.any f=true:=by
 rw[List.any_eq_true];exact⟨ks[k],List.getElem_mem hk,h⟩
theorem zAr (ks:List ByteArray) (g kc:Nat) (l:List (ByteArray×ByteArray)) (ao:Option Addr) (cap rb:Nat) (w:World) (hk:zAI w g ks) (hkn:ks.length<=1000000) (hc:w.cell? ⟨rb,0,none⟩=some (.slice ao l.length cap)) (hl:bY w ao l) (hn:l.length<=maxLen):
  Calls p_ 188 #[.slice (some ⟨g,0,none⟩) ks.length kc,.func (Fn.func 128) #[] #[.pointer (some ⟨rb,0,none⟩)]] w
   fun e w'=>(∃ i:Int,e=.returned (.int .i64 i)/\decide (0<=i)=ks.any fun k=>l.any fun s=>hasS s.1 s.2 k)/\Below w.heap.size w w':=by
 go_enter Tryz.func188,Tryz.ntmps188;go_wp2
 go_loopw [8] (fun i wr=>∃ k:Nat,k<=ks.length/\i=.int .i64 k/\(ks.take k).any (fun k=>l.any fun s=>hasS s.1 s.2 k)=false/\Below w.heap.size w wr) (fun i _=>ks.length-(intOf i).toNat)
 case atStart=>exact⟨0,Nat.zero_le _,rfl,by simp,r_ _ _⟩
 case round=>
  obtain⟨k,hk1,rfl,hno,hB⟩:=hrel;have HA:=hide hno;clear hno;by_cases hlt:k<ks.length
  ·have c0:=zG7 hB hk k hlt;have cr:=aA hB hc;have HL:=hide (lX hB hl)
   cases hh:l.any fun s=>hasS s.1 s.2 ks[k] with
   | true=>
    have HH:=hide hh;clear hh;go_wp2_with (go_at_call 128;refine(wO l ao cap rb _ _ cr HL.out hn).mono ?_;rintro e w1 ⟨rfl,hb⟩;rw[HH.out];replace hB:=aB hB (n_ _) hb;clear hb)
    go_ret;exact⟨⟨k,rfl,by rw[zKz hlt HH.out];simp⟩,hB⟩
   | false=>
    have HH:=hide hh;clear hh;go_wp2_with (go_at_call 128;refine(wO l ao cap rb _ _ cr HL.out hn).mono ?_;rintro e w1 ⟨rfl,hb⟩;rw[HH.out];replace hB:=aB hB (n_ _) hb;clear hb)
    go_roundw
    case rel=>exact⟨k+1,by omega,by go_num,zJn hlt HA.out HH.out,hB⟩
    case measure=>simp[intOf];omega
  ·go_wp2;go_ret;refine⟨⟨-1,rfl,?_⟩,hB⟩;have e:ks.take k=ks:=List.take_of_length_le (by omega);have:=HA.out;rw[e] at this;rw[this];rfl
theorem zCg (ao:Option Addr) (kc:Nat) (f:Value) (w:World):
  Calls p_ 188 #[.slice ao 0 kc,f] w fun e w'=>e=.returned (.int .i64 (-1))/\w'=w:=by
 go_enter Tryz.func188,Tryz.ntmps188;go_wp2;refine wp_loop_rounds 1 ?_;rw[rounds_succ];go_wp2;go_ret;exact⟨rfl,rfl⟩
theorem pR (B:Nat) (v:Value) (ks:List ByteArray) (l:List (ByteArray×ByteArray)) (ao:Option Addr) (cap rb:Nat) (w:World) (hk:w.ownsRow B 9 1 v ks.length (ks.map v_)) (hkn:ks.length<=1000000) (hc:w.cell? ⟨rb,0,none⟩=some (.slice ao l.length cap)) (hl:bY w ao l) (hn:l.length<=maxLen):
  Calls p_ 127 #[v,.func (Fn.func 128) #[] #[.pointer (some ⟨rb,0,none⟩)]] w
   fun e w'=>e=.returned (.bool (ks.any fun k=>l.any fun s=>hasS s.1 s.2 k))/\Below w.heap.size w w':=by
 rcases zHo hk with⟨rfl,rfl⟩|⟨g,kc,rfl,_,_,hk⟩
 ·go_enter Tryz.func127,Tryz.ntmps127;go_wp2_with (go_at_call 188;refine(zCg _ _ _ _).mono ?_;rintro e w1 ⟨rfl,rfl⟩)
  go_ret;exact⟨rfl,r_ _ _⟩
 ·go_enter Tryz.func127,Tryz.ntmps127;go_wp2_with (go_at_call 188;refine(zAr ks g kc l ao cap rb _ hk hkn hc hl hn).mono ?_;rintro e w1 ⟨⟨i,rfl,hi⟩,hb⟩)
  go_ret;exact⟨rfl,hb⟩
end
end Go.Proofs.YtnboipekkahmnaaGreatDoor
