import Derived.Test.YtnboipekkahmnaaGreatDoorS18
set_option maxHeartbeats 8000000
set_option maxRecDepth 100000
namespace Go.Proofs.YtnboipekkahmnaaGreatDoor
open Obj renaming cells→o_
open World renaming cell?_of_block→b_,cell?_setCell_other→t_,cell?_setCell_same→u_,ownsRow.lt→l_
open Go.RowKit.Below renaming heap_setCell→h_,refl→r_
open Nat renaming le_refl→n_
open Tryz renaming prog→p_
open Value renaming string→v_,int→i_
open IntKind renaming i64→k_
open Go.Joins renaming below_alloc1→a_
section
open Go.RowKit Go.Joins
def setV (f:Nat->DVal) (i:Nat) (d:DVal):Nat->DVal:=fun j=>if j=i then d else f j
theorem cJ (f:Nat->DVal) (i:Nat) (d:DVal):setV f i d i=d:=if_pos rfl
theorem dV {f:Nat->DVal} {i j:Nat} (d:DVal) (h:j≠i):setV f i d j=f j:=if_neg h
section
variable {w w1 w':World} {N pb:Nat} {T:Nat->Prop} {L L':Nat->Prop} {cur:Nat->DVal} {ov ov':Value} {outs outs':List DVal}
theorem PM.write (h:PM w N pb T L cur ov outs) {i:Nat} {y:DVal} (hi:i<4)
  (hk:∀ k,k≠pb->w'.heap[k]?=w.heap[k]?) (hsz:w.heap.size<=w'.heap.size)
  (hc:∀ j,j≠i->j<4->∀ o,o<4->w'.cell? ⟨pb,j*4+o,none⟩=w.cell? ⟨pb,j*4+o,none⟩)
  (hy:w'.cell? ⟨pb,i*4,none⟩=some (.int .i64 (y.d.at_:Int))/\w'.cell? ⟨pb,i*4+1,none⟩=some (.bool y.d.reads)/\w'.cell? ⟨pb,i*4+2,none⟩=some y.av/\w'.cell? ⟨pb,i*4+3,none⟩=some y.sv)
  (hs:∀ j,w'.frozen? ⟨pb,j,none⟩=false)
  (hL:∀ j,j≠i->L' j->L j)
  (hr:L' i->(y.av=(cur i).av/\y.sv=(cur i).sv/\y.d.acts=(cur i).d.acts/\y.d.said=(cur i).d.said/\L i)∨(y.av=.slice none 0 0/\y.sv=.slice none 0 0/\y.d.acts=[]/\y.d.said=[])):
  PM w' N pb T L' (setV cur i y) ov outs:=by
 have same:∀ a k,dH T pb L' (setV cur i y) ov a k->dH T pb L cur ov a k:=fun a k hk=>by
  match a,hk with
  | 0,hk=>exact hk
  | 1,hk=>exact hk
  | 2,hk=>exact hk
  | n+3,⟨h1,h2,h3⟩=>
   by_cases e:n / 2=i
   ·rw[e,cJ] at h3;rw[e] at h2;rcases hr h2 with⟨q1,q2,_,_,q5⟩|⟨q1,q2,_⟩
    ·rw[q1,q2,<-e] at h3;exact⟨h1,by rw[e];exact q5,h3⟩
    ·rw[q1,q2] at h3;split at h3<;>cases h3
   ·rw[dV _ e] at h3;exact⟨h1,hL _ e h2,h3⟩
 have ne:∀ a k,a≠1->dH T pb L cur ov a k->k≠pb:=fun a k ha hk e=>ha (h.ap a 1 k hk e);have nk:∀ x∈outs,∀ k,(x.av.ownBlock=some k∨x.sv.ownBlock=some k)->k≠pb:=fun x hx k e e2=>h.kap x hx k e 1 e2;exact {
  cells:=fun j hj=>by
   by_cases e:j=i
   ·subst e;rw[cJ];exact hy
   ·rw[dV _ e];obtain⟨q0,q1,q2,q3⟩:=h.cells j hj;have z:=hc j e hj 0 (by decide);rw[Nat.add_zero] at z;exact⟨z.trans q0,(hc j e hj 1 (by decide)).trans q1,(hc j e hj 2 (by decide)).trans q2,(hc j e hj 3 (by decide)).trans q3⟩
  soft:=hs
  plo:=h.plo
  rows:=fun j hj hl=>by
   by_cases e:j=i
   ·subst e;rw[cJ];rcases hr hl with⟨q1,q2,q3,q4,q5⟩|⟨q1,q2,q3,q4⟩
    ·have:=gZ (w':=w') (h.rows j hj q5) fun k e=>hk k (e.elim (fun e=>ne _ k (by omega) (fP hj q5 e)) fun e=>ne _ k (by omega) (gH hj q5 e));unfold qJ at this ⊢;rw[q1,q2,q3,q4];exact this
    ·unfold qJ;rw[q1,q2,q3,q4];exact⟨World.ownsRow_nil _ _ _ _,World.ownsRow_nil _ _ _ _⟩
   ·rw[dV _ e];have hl':=hL j e hl;exact gZ (h.rows j hj hl') fun k e=>hk k (e.elim (fun e=>ne _ k (by omega) (fP hj hl' e)) fun e=>ne _ k (by omega) (gH hj hl' e))
  out:=aI h.out fun k e=>hk k (ne 2 k (by decide) e)
  kept:=fun x hx=>gZ (h.kept x hx) fun k e=>hk k (nk x hx k e)
  ap:=fun a b k ha hb=>h.ap a b k (same a k ha) (same b k hb)
  kap:=fun x hx k e a ha=>h.kap x hx k e a (same a k ha)
  tlt:=fun k e=>Nat.lt_of_lt_of_le (h.tlt k e) hsz
  wlo:=Nat.le_trans h.wlo hsz }
structure jI (w w1:World) (v:Value) (g:Nat):Prop where
 grow:w.grownBy w1 v.ownBlock
 at_:v.ownBlock=some g∨g=w.heap.size
theorem jI.far {v:Value} {g:Nat} (h:jI w w1 v g) {k:Nat} (hk:k<w.heap.size) (hn:v.ownBlock≠some k):w1.heap[k]?=w.heap[k]?/\k≠g:=by
 refine⟨h.grow.block k hk fun e=>hn e.symm,fun e=>?_⟩;rcases h.at_ with e2|e2
 ·exact hn (by rw[e2,e])
 ·omega
structure PX {w:World} (w1:World) (N pb:Nat) (T:Nat->Prop) (L:Nat->Prop) (cur:Nat->DVal) (ov:Value) (outs:List DVal) (a g:Nat):Prop where
 cells:∀ i,i<4->w1.cell? ⟨pb,i*4,none⟩=some (.int .i64 ((cur i).d.at_:Int))/\w1.cell? ⟨pb,i*4+1,none⟩=some (.bool (cur i).d.reads)/\w1.cell? ⟨pb,i*4+2,none⟩=some (cur i).av/\w1.cell? ⟨pb,i*4+3,none⟩=some (cur i).sv
 soft:∀ j,w1.frozen? ⟨pb,j,none⟩=false
 avs:∀ i,i<4->L i->2*i+3≠a->zLN w1 N (cur i).av (cur i).d.acts
 svs:∀ i,i<4->L i->2*i+1+3≠a->zHb w1 N (cur i).sv (cur i).d.said
 out:2≠a->zLP w1 N ov outs
 kept:∀ x∈outs,qJ w1 N x
 gF:∀ b k,b≠a->dH T pb L cur ov b k->k≠g
 gK:∀ x∈outs,∀ k,(x.av.ownBlock=some k∨x.sv.ownBlock=some k)->k≠g
 size:w.heap.size<=w1.heap.size
theorem PM.grown (h:PM w N pb T L cur ov outs) {a g:Nat} {v:Value} (ha:a≠1) (hv:∀ k,v.ownBlock=some k->dH T pb L cur ov a k) (hg:jI w w1 v g):PX (w:=w) w1 N pb T L cur ov outs a g:=by
 have far:∀ b k,b≠a->dH T pb L cur ov b k->w1.heap[k]?=w.heap[k]?/\k≠g:=fun b k hb hk=>hg.far (h.lt hk) fun e=>hb (h.ap b a k hk (hv k e));have farK:∀ x∈outs,∀ k,(x.av.ownBlock=some k∨x.sv.ownBlock=some k)->w1.heap[k]?=w.heap[k]?/\k≠g:=fun x hx k e=>hg.far (pW (h.kept x hx) e).2 fun e2=>h.kap x hx k e a (hv k e2);have hpb:=(far 1 pb (Ne.symm ha) rfl).1;exact {
  cells:=fun i hi=>⟨(b_ (w:=w) hpb).trans (h.cells i hi).1,(b_ (w:=w) hpb).trans (h.cells i hi).2.1,(b_ (w:=w) hpb).trans (h.cells i hi).2.2.1,(b_ (w:=w) hpb).trans (h.cells i hi).2.2.2⟩
  soft:=fun j=>(World.frozen?_of_block (w:=w) hpb).trans (h.soft j)
  avs:=fun i hi hL hne=>aI (h.rows i hi hL).1 fun k e=>(far _ k hne (fP hi hL e)).1
  svs:=fun i hi hL hne=>aI (h.rows i hi hL).2 fun k e=>(far _ k hne (gH hi hL e)).1
  out:=fun hne=>aI h.out fun k e=>(far 2 k hne e).1
  kept:=fun x hx=>gZ (h.kept x hx) fun k e=>(farK x hx k e).1
  gF:=fun b k hb hk=>(far b k hb hk).2
  gK:=fun x hx k e=>(farK x hx k e).2
  size:=hg.grow.size }
theorem PM.pushA (h:PM w N pb T L cur ov outs) {i g cap:Nat} {x:ActL} (hi:i<4) (hL:L i) (hg:jI w w1 (cur i).av g)
  (ho:w1.ownsRow N 39 9 (.slice (some ⟨g,0,none⟩) ((cur i).d.acts.length+1) cap) ((cur i).d.acts.length+1) ((cur i).d.acts.flatMap lO++lO x)):
  PM (w1.setCell ⟨pb,i*4+2,none⟩ (.slice (some ⟨g,0,none⟩) ((cur i).d.acts.length+1) cap)) N pb T L (setV cur i ⟨{ (cur i).d with acts:=(cur i).d.acts++[x] },.slice (some ⟨g,0,none⟩) ((cur i).d.acts.length+1) cap,(cur i).sv⟩) ov outs:=by
 have hx:=h.grown (a:=2*i+3) (by omega) (fun k e=>fP hi hL e) hg;generalize hu:(Value.slice (some ⟨g,0,none⟩) ((cur i).d.acts.length+1) cap)=u at *;have hub:∀ k,u.ownBlock=some k->k=g:=fun k e=>by rw[<-hu] at e;simpa[Value.ownBlock] using e.symm
 have hs:∀ k,k≠pb->(w1.setCell ⟨pb,i*4+2,none⟩ u).heap[k]?=w1.heap[k]?:=fun k hk=>h_ _ _ _ _ hk;have hgp:g≠pb:=fun e=>hx.gF 1 pb (by omega) rfl e.symm;have ne:∀ a k,a≠1->dH T pb L cur ov a k->k≠pb:=fun a k ha hk e=>ha (h.ap a 1 k hk e);have cls:∀ b k,dH T pb L (setV cur i ⟨{ (cur i).d with acts:=(cur i).d.acts++[x] },u,(cur i).sv⟩) ov b k->(b=2*i+3/\k=g)∨(b≠2*i+3/\dH T pb L cur ov b k):=fun b k hk=>by
  match b,hk with
  | 0,hk=>exact .inr ⟨by omega,hk⟩
  | 1,hk=>exact .inr ⟨by omega,hk⟩
  | 2,hk=>exact .inr ⟨by omega,hk⟩
  | n+3,hk=>
   obtain⟨h1,h2,h3⟩:=zDS hk;by_cases e:n / 2=i
   ·rw[e,cJ] at h3;rcases h3 with⟨e1,e2⟩|⟨e1,e2⟩
    ·exact .inl ⟨by omega,hub k e2⟩
    ·refine .inr ⟨by omega,?_⟩;rw[e1];exact gH hi hL e2
   ·refine .inr ⟨by omega,?_⟩;obtain⟨q1,q2,q3⟩:=hk;rw[dV _ e] at q3;exact⟨q1,q2,q3⟩
 exact {
  cells:=fun j hj=>by
   by_cases e:j=i
   ·subst e;rw[cJ];obtain⟨q0,q1,q2,q3⟩:=hx.cells j hj;exact⟨(t_ _ _ _ _ (by simp)).trans q0,(t_ _ _ _ _ (by simp)).trans q1,u_ _ _ _ q2,(t_ _ _ _ _ (by simp)).trans q3⟩
   ·rw[dV _ e];obtain⟨q0,q1,q2,q3⟩:=hx.cells j hj;exact⟨(t_ _ _ _ _ (by simp<;>omega)).trans q0,(t_ _ _ _ _ (by simp<;>omega)).trans q1,(t_ _ _ _ _ (by simp<;>omega)).trans q2,(t_ _ _ _ _ (by simp<;>omega)).trans q3⟩
  soft:=fun j=>by rw[World.frozen?_setCell];exact hx.soft j
  plo:=h.plo
  rows:=fun j hj hl=>by
   by_cases e:j=i
   ·subst e;rw[cJ];refine⟨?_,aI (hx.svs j hj hl (by omega)) fun k e=>hs k (ne _ k (by omega) (gH hj hl e))⟩;show World.ownsRow _ N _ 9 u ((cur j).d.acts++[x]).length (((cur j).d.acts++[x]).flatMap lO);rw[List.length_append,List.flatMap_append,List.flatMap_cons,List.flatMap_nil,List.append_nil];exact aI ho fun k e=>hs k (by rw[hub k e];exact hgp)
   ·rw[dV _ e];exact⟨aI (hx.avs j hj hl (by omega)) fun k e=>hs k (ne _ k (by omega) (fP hj hl e)),aI (hx.svs j hj hl (by omega)) fun k e=>hs k (ne _ k (by omega) (gH hj hl e))⟩
  out:=aI (hx.out (by omega)) fun k e=>hs k (ne 2 k (by decide) e)
  kept:=fun y hy=>gZ (hx.kept y hy) fun k e=>hs k fun e2=>h.kap y hy k e 1 e2
  ap:=fun b c k hb hc=>by
   rcases cls b k hb with⟨b1,b2⟩|⟨b1,b2⟩<;>rcases cls c k hc with⟨c1,c2⟩|⟨c1,c2⟩
   ·omega
   ·exact absurd b2 (hx.gF c k c1 c2)
   ·exact absurd c2 (hx.gF b k b1 b2)
   ·exact h.ap b c k b2 c2
  kap:=fun y hy k e b hb=>by
   rcases cls b k hb with⟨b1,b2⟩|⟨b1,b2⟩
   ·exact hx.gK y hy k e b2
   ·exact h.kap y hy k e b b2
  tlt:=fun k e=>by have:=h.tlt k e;have:=hx.size;simp;omega
  wlo:=by have:=h.wlo;have:=hx.size;simp;omega }
theorem PM.pushS (h:PM w N pb T L cur ov outs) {i g cap:Nat} {x:ByteArray} (hi:i<4) (hL:L i) (hg:jI w w1 (cur i).sv g)
  (ho:w1.ownsRow N 9 1 (.slice (some ⟨g,0,none⟩) ((cur i).d.said.length+1) cap) ((cur i).d.said.length+1) ((cur i).d.said.map v_++[.string x])):
  PM (w1.setCell ⟨pb,i*4+3,none⟩ (.slice (some ⟨g,0,none⟩) ((cur i).d.said.length+1) cap)) N pb T L (setV cur i ⟨{ (cur i).d with said:=(cur i).d.said++[x] },(cur i).av,.slice (some ⟨g,0,none⟩) ((cur i).d.said.length+1) cap⟩) ov outs:=by
 have hx:=h.grown (a:=2*i+1+3) (by omega) (fun k e=>gH hi hL e) hg;generalize hu:(Value.slice (some ⟨g,0,none⟩) ((cur i).d.said.length+1) cap)=u at *;have hub:∀ k,u.ownBlock=some k->k=g:=fun k e=>by rw[<-hu] at e;simpa[Value.ownBlock] using e.symm
 have hs:∀ k,k≠pb->(w1.setCell ⟨pb,i*4+3,none⟩ u).heap[k]?=w1.heap[k]?:=fun k hk=>h_ _ _ _ _ hk;have hgp:g≠pb:=fun e=>hx.gF 1 pb (by omega) rfl e.symm;have ne:∀ a k,a≠1->dH T pb L cur ov a k->k≠pb:=fun a k ha hk e=>ha (h.ap a 1 k hk e);have cls:∀ b k,dH T pb L (setV cur i ⟨{ (cur i).d with said:=(cur i).d.said++[x] },(cur i).av,u⟩) ov b k->(b=2*i+1+3/\k=g)∨(b≠2*i+1+3/\dH T pb L cur ov b k):=fun b k hk=>by
  match b,hk with
  | 0,hk=>exact .inr ⟨by omega,hk⟩
  | 1,hk=>exact .inr ⟨by omega,hk⟩
  | 2,hk=>exact .inr ⟨by omega,hk⟩
  | n+3,hk=>
   obtain⟨h1,h2,h3⟩:=zDS hk;by_cases e:n / 2=i
   ·rw[e,cJ] at h3;rcases h3 with⟨e1,e2⟩|⟨e1,e2⟩
    ·refine .inr ⟨by omega,?_⟩;rw[e1];exact fP hi hL e2
    ·exact .inl ⟨by omega,hub k e2⟩
   ·refine .inr ⟨by omega,?_⟩;obtain⟨q1,q2,q3⟩:=hk;rw[dV _ e] at q3;exact⟨q1,q2,q3⟩
 exact {
  cells:=fun j hj=>by
   by_cases e:j=i
   ·subst e;rw[cJ];obtain⟨q0,q1,q2,q3⟩:=hx.cells j hj;exact⟨(t_ _ _ _ _ (by simp)).trans q0,(t_ _ _ _ _ (by simp)).trans q1,(t_ _ _ _ _ (by simp)).trans q2,u_ _ _ _ q3⟩
   ·rw[dV _ e];obtain⟨q0,q1,q2,q3⟩:=hx.cells j hj;exact⟨(t_ _ _ _ _ (by simp<;>omega)).trans q0,(t_ _ _ _ _ (by simp<;>omega)).trans q1,(t_ _ _ _ _ (by simp<;>omega)).trans q2,(t_ _ _ _ _ (by simp<;>omega)).trans q3⟩
  soft:=fun j=>by rw[World.frozen?_setCell];exact hx.soft j
  plo:=h.plo
  rows:=fun j hj hl=>by
   by_cases e:j=i
   ·subst e;rw[cJ];refine⟨aI (hx.avs j hj hl (by omega)) fun k e=>hs k (ne _ k (by omega) (fP hj hl e)),?_⟩;show World.ownsRow _ N _ 1 u ((cur j).d.said++[x]).length (((cur j).d.said++[x]).map v_);rw[List.length_append,List.map_append];exact aI ho fun k e=>hs k (by rw[hub k e];exact hgp)
   ·rw[dV _ e];exact⟨aI (hx.avs j hj hl (by omega)) fun k e=>hs k (ne _ k (by omega) (fP hj hl e)),aI (hx.svs j hj hl (by omega)) fun k e=>hs k (ne _ k (by omega) (gH hj hl e))⟩
  out:=aI (hx.out (by omega)) fun k e=>hs k (ne 2 k (by decide) e)
  kept:=fun y hy=>gZ (hx.kept y hy) fun k e=>hs k fun e2=>h.kap y hy k e 1 e2
  ap:=fun b c k hb hc=>by
   rcases cls b k hb with⟨b1,b2⟩|⟨b1,b2⟩<;>rcases cls c k hc with⟨c1,c2⟩|⟨c1,c2⟩
   ·omega
   ·exact absurd b2 (hx.gF c k c1 c2)
   ·exact absurd c2 (hx.gF b k b1 b2)
   ·exact h.ap b c k b2 c2
  kap:=fun y hy k e b hb=>by
   rcases cls b k hb with⟨b1,b2⟩|⟨b1,b2⟩
   ·exact hx.gK y hy k e b2
   ·exact h.kap y hy k e b b2
  tlt:=fun k e=>by have:=h.tlt k e;have:=hx.size;simp;omega
  wlo:=by have:=h.wlo;have:=hx.size;simp;omega }
theorem PM.told (h:PM w N pb T L cur ov outs) {i g cap:Nat} (hi:i<4) (hL:L i) (hg:jI w w1 ov g) (hL':∀ j,L' j->L j/\j≠i)
  (ho:w1.ownsRow N 73 4 (.slice (some ⟨g,0,none⟩) (outs.length+1) cap) (outs.length+1) (outs.flatMap oF++oF (cur i))):
  PM w1 N pb T L' cur (.slice (some ⟨g,0,none⟩) (outs.length+1) cap) (outs++[cur i]):=by
 have hx:=h.grown (a:=2) (by omega) (fun k e=>e) hg;generalize hu:(Value.slice (some ⟨g,0,none⟩) (outs.length+1) cap)=u at *;have hub:∀ k,u.ownBlock=some k->k=g:=fun k e=>by rw[<-hu] at e;simpa[Value.ownBlock] using e.symm
 have cls:∀ b k,dH T pb L' cur u b k->(b=2/\k=g)∨(b≠2/\dH T pb L cur ov b k/\∀ k',((cur i).av.ownBlock=some k'∨(cur i).sv.ownBlock=some k')->k'≠k):=fun b k hk=>by
  have key:∀ b,b≠2*i+3->b≠2*i+1+3->dH T pb L cur ov b k->∀ k',((cur i).av.ownBlock=some k'∨(cur i).sv.ownBlock=some k')->k'≠k:=fun b h1 h2 hb k' e e2=>by
   subst e2;rcases e with e|e
   ·exact h1 (h.ap b (2*i+3) k' hb (fP hi hL e))
   ·exact h2 (h.ap b (2*i+1+3) k' hb (gH hi hL e))
  match b,hk with
  | 0,hk=>exact .inr ⟨by omega,hk,key 0 (by omega) (by omega) hk⟩
  | 1,hk=>exact .inr ⟨by omega,hk,key 1 (by omega) (by omega) hk⟩
  | 2,hk=>exact .inl ⟨rfl,hub k hk⟩
  | n+3,⟨q1,q2,q3⟩=>
   have hb:dH T pb L cur ov (n+3) k:=⟨q1,(hL' _ q2).1,q3⟩;have:=(hL' _ q2).2;exact .inr ⟨by omega,hb,key (n+3) (by omega) (by omega) hb⟩
 have hgi:∀ k,((cur i).av.ownBlock=some k∨(cur i).sv.ownBlock=some k)->k≠g:=fun k e=>e.elim (fun e=>hx.gF _ k (by omega) (fP hi hL e)) fun e=>hx.gF _ k (by omega) (gH hi hL e);exact {
  cells:=hx.cells
  soft:=hx.soft
  plo:=h.plo
  rows:=fun j hj hl=>⟨hx.avs j hj (hL' j hl).1 (by omega),hx.svs j hj (hL' j hl).1 (by omega)⟩
  out:=by
   show World.ownsRow _ N _ 4 u (outs++[cur i]).length ((outs++[cur i]).flatMap oF);rw[List.length_append,List.flatMap_append,List.flatMap_cons,List.flatMap_nil,List.append_nil];exact ho
  kept:=fun y hy=>by
   rcases List.mem_append.1 hy with hy|hy
   ·exact hx.kept y hy
   ·rw[List.mem_singleton.1 hy];exact⟨hx.avs i hi hL (by omega),hx.svs i hi hL (by omega)⟩
  ap:=fun b c k hb hc=>by
   rcases cls b k hb with⟨b1,b2⟩|⟨b1,b2,_⟩<;>rcases cls c k hc with⟨c1,c2⟩|⟨c1,c2,_⟩
   ·omega
   ·exact absurd b2 (hx.gF c k c1 c2)
   ·exact absurd c2 (hx.gF b k b1 b2)
   ·exact h.ap b c k b2 c2
  kap:=fun y hy k e b hb=>by
   rcases List.mem_append.1 hy with hy|hy
   ·rcases cls b k hb with⟨b1,b2⟩|⟨b1,b2,_⟩
    ·exact hx.gK y hy k e b2
    ·exact h.kap y hy k e b b2
   ·rw[List.mem_singleton.1 hy] at e;rcases cls b k hb with⟨b1,b2⟩|⟨b1,b2,b3⟩
    ·exact hgi k e b2
    ·exact b3 k e rfl
  tlt:=fun k e=>by have:=h.tlt k e;have:=hx.size;omega
  wlo:=by have:=h.wlo;have:=hx.size;omega }
end
def zGL (m0:EMem) (f:Nat->Option VwL) (m:EMem):Prop:=m.db=m0.db/\∀ j,m0.Q j->f j≠none/\(m.W j).1=(m0.W j).1
theorem zGL.act {m0 m m':EMem} {s s':ESt} (h:zGL m0 s.ses m) (k:zOv s m' m) (hq:∀ j,m0.Q j->s.ses j≠none->s'.ses j≠none):zGL m0 s'.ses m':=⟨k.1.trans h.1,fun j hj=>⟨hq j hj (h.2 j hj).1,(k.2 j (h.2 j hj).1).trans (h.2 j hj).2⟩⟩
structure dP (w0 wr:World) (B:Nat) (m0:EMem) (s0:ESt) (pb:Nat) (ov:Value) (p:PSt) (m:EMem) (cur:Nat->DVal) (outs:List DVal):Prop where
 ek:EK wr B m p.e
 eb:m.eb=m0.eb
 db:zGL m0 p.e.ses m
 st:aG w0 wr B (allF m0 s0.ses) (allF m p.e.ses)
 pm:PM wr w0.heap.size pb (allF m p.e.ses) (fun i=>p.e.ses i≠none) cur ov outs
 cd:∀ i,i<4->(cur i).d=p.cur i
 od:outs.map (·.d)=p.out
 lo:B<=w0.heap.size
section
variable {w0 wr w':World} {B:Nat} {m0 m m':EMem} {s0 s':ESt} {pb:Nat} {ov ov':Value} {p p':PSt} {cur cur':Nat->DVal} {outs outs':List DVal}
theorem dP.on (h:dP w0 wr B m0 s0 pb ov p m cur outs) (hb:Below wr.heap.size wr w'):dP w0 w' B m0 s0 pb ov p m cur outs:=
 { h with ek:=h.ek.on hb,st:=h.st.trans (.on h.ek.blo hb),pm:=h.pm.on hb }
theorem dP.eng (h:dP w0 wr B m0 s0 pb ov p m cur outs) (ha:ActE wr w' B m p.e s') (hl:∀ i,s'.ses i≠none->p.e.ses i≠none) (hq:∀ j,m0.Q j->p.e.ses j≠none->s'.ses j≠none):
  ∃ m',dP w0 w' B m0 s0 pb ov { p with e:=s' } m' cur outs/\aG wr w' B (allF m p.e.ses) (allF m' s'.ses):=by
 obtain⟨m',k1,k2,k3,k4⟩:=ha;have hpm:=h.pm.engine k4 fun k ⟨_,e⟩=>k1.lt e;exact⟨m',⟨k1,k2.trans h.eb,h.db.act k3 hq,h.st.trans k4,hpm.less hl,h.cd,h.od,h.lo⟩,k4⟩
theorem dP.own (h:dP w0 wr B m0 s0 pb ov p m cur outs) (he:p'.e=p.e) (hb:Below w0.heap.size wr w') (hT:∀ k,allF m p.e.ses k->w'.heap[k]?=wr.heap[k]?)
  (hpm:PM w' w0.heap.size pb (allF m p.e.ses) (fun i=>p.e.ses i≠none) cur' ov' outs') (hc:∀ i,i<4->(cur' i).d=p'.cur i) (ho:outs'.map (·.d)=p'.out):dP w0 w' B m0 s0 pb ov' p' m cur' outs' where
 ek:=by rw[he];exact h.ek.kept hb.size hT
 eb:=h.eb
 db:=by rw[he];exact h.db
 st:=by
  rw[he];refine⟨h.st.bel.trans (hb.mono h.lo),fun j hj hn=>?_⟩;obtain⟨a,b⟩:=h.st.far j hj hn;exact⟨(hb.block j hj).trans a,b⟩
 pm:=by rw[he];exact hpm
 cd:=hc
 od:=ho
 lo:=h.lo
end
section
variable {p:PSt} {x:ActL}
theorem zAA (k:(x.kind.toList==kQ)=true) (hv:p.e.ses (sesX x)=none):plyP p x=⟨dX p.e (sesX x),setP p.cur (sesX x) noD,p.out⟩:=by
 unfold plyP isK;dsimp only;rw[if_pos k,hv]
theorem zAq {v:VwL} (k:(x.kind.toList==kQ)=true) (hv:p.e.ses (sesX x)=some v):plyP p x=p:=by
 unfold plyP isK;dsimp only;rw[if_pos k,hv]
theorem zR (k0:(x.kind.toList==kQ)=false) (k:(x.kind.toList==kZ)=true) (hv:p.e.ses (sesX x)=none):plyP p x=p:=by
 unfold plyP isK;dsimp only;rw[if_neg (by rw[k0];decide),if_pos k,hv]
theorem zCe {v:VwL} (k0:(x.kind.toList==kQ)=false) (k:(x.kind.toList==kZ)=true) (hv:p.e.ses (sesX x)=some v) (h0:(comE p.e (sesX x)).1.2=0):
  plyP p x=⟨(comE p.e (sesX x)).2,setP p.cur (sesX x) { p.cur (sesX x) with at_:=(comE p.e (sesX x)).1.1,reads:=v.chs.isEmpty },p.out++[{ p.cur (sesX x) with at_:=(comE p.e (sesX x)).1.1,reads:=v.chs.isEmpty }]⟩:=by
 unfold plyP isK;dsimp only;rw[if_neg (by rw[k0];decide),if_pos k,hv];dsimp only;rw[if_pos h0]
theorem zAG {v:VwL} (k0:(x.kind.toList==kQ)=false) (k:(x.kind.toList==kZ)=true) (hv:p.e.ses (sesX x)=some v) (h0:(comE p.e (sesX x)).1.2≠0):plyP p x=⟨(comE p.e (sesX x)).2,p.cur,p.out⟩:=by
 unfold plyP isK;dsimp only;rw[if_neg (by rw[k0];decide),if_pos k,hv];dsimp only;rw[if_neg h0]
theorem zHL (k0:(x.kind.toList==kQ)=false) (k1:(x.kind.toList==kZ)=false) (k:(x.kind.toList==rO)=true):plyP p x=⟨(dS p.e (sesX x)).2,p.cur,p.out⟩:=by
 unfold plyP isK;dsimp only;rw[if_neg (by rw[k0];decide),if_neg (by rw[k1];decide),if_pos k]
theorem zGd (k0:(x.kind.toList==kQ)=false) (k1:(x.kind.toList==kZ)=false) (k2:(x.kind.toList==rO)=false) (k:(x.kind.toList==rP)=true):plyP p x=⟨vacE p.e,p.cur,p.out⟩:=by
 unfold plyP isK;dsimp only;rw[if_neg (by rw[k0];decide),if_neg (by rw[k1];decide),if_neg (by rw[k2];decide),if_pos k]
theorem zKq (k0:(x.kind.toList==kQ)=false) (k1:(x.kind.toList==kZ)=false) (k2:(x.kind.toList==rO)=false) (k3:(x.kind.toList==rP)=false) (k:(x.kind.toList==zCp)=true):plyP p x=⟨chkE p.e,p.cur,p.out⟩:=by
 unfold plyP isK;dsimp only;rw[if_neg (by rw[k0];decide),if_neg (by rw[k1];decide),if_neg (by rw[k2];decide),if_neg (by rw[k3];decide),if_pos k]
theorem zB7 (k0:(x.kind.toList==kQ)=false) (k1:(x.kind.toList==kZ)=false) (k2:(x.kind.toList==rO)=false) (k3:(x.kind.toList==rP)=false) (k4:(x.kind.toList==zCp)=false) (hv:p.e.ses (sesX x)=none):plyP p x=p:=by
 unfold plyP isK;dsimp only;rw[if_neg (by rw[k0];decide),if_neg (by rw[k1];decide),if_neg (by rw[k2];decide),if_neg (by rw[k3];decide),if_neg (by rw[k4];decide),hv]
theorem zB8 {v:VwL} (k0:(x.kind.toList==kQ)=false) (k1:(x.kind.toList==kZ)=false) (k2:(x.kind.toList==rO)=false) (k3:(x.kind.toList==rP)=false) (k4:(x.kind.toList==zCp)=false) (hv:p.e.ses (sesX x)=some v):
  plyP p x=⟨actE p.e (sesX x) v x,setP p.cur (sesX x) { p.cur (sesX x) with acts:=(p.cur (sesX x)).acts++[x],said:=(p.cur (sesX x)).said++[(fY v.P v.chs v.rds x).1] },p.out⟩:=by
 unfold plyP isK;dsimp only;rw[if_neg (by rw[k0];decide),if_neg (by rw[k1];decide),if_neg (by rw[k2];decide),if_neg (by rw[k3];decide),if_neg (by rw[k4];decide),hv]
end
def vK (p:PSt) (n:Nat):Prop:=p.out.length<=n/\∀ i,(p.cur i).acts.length<=n/\(p.cur i).said.length<=n
theorem wW {p:PSt} {n i:Nat} {d:jR} (h:∀ i,(p.cur i).acts.length<=n/\(p.cur i).said.length<=n) (hd:d.acts.length<=n/\d.said.length<=n):∀ j,(setP p.cur i d j).acts.length<=n/\(setP p.cur i d j).said.length<=n:=fun j=>by
 unfold setP;split
 ·exact hd
 ·exact h j
theorem zKl {p:PSt} {n:Nat} (h:vK p n) (x:ActL):vK (plyP p x) (n+1):=by
 have h1:∀ i,(p.cur i).acts.length<=n+1/\(p.cur i).said.length<=n+1:=fun i=>⟨Nat.le_succ_of_le (h.2 i).1,Nat.le_succ_of_le (h.2 i).2⟩;have h0:p.out.length<=n+1:=Nat.le_succ_of_le h.1;unfold plyP;dsimp only;split
 ·split
  ·exact⟨h0,wW h1 ⟨Nat.zero_le _,Nat.zero_le _⟩⟩
  ·exact⟨h0,h1⟩
 ·split
  ·split
   ·exact⟨h0,h1⟩
   ·split
    ·refine⟨?_,wW h1 (h1 _)⟩;show(p.out++[_]).length<=n+1;rw[List.length_append];have:=h.1;simp;omega
    ·exact⟨h0,h1⟩
  ·split
   ·exact⟨h0,h1⟩
   ·split
    ·exact⟨h0,h1⟩
    ·split
     ·exact⟨h0,h1⟩
     ·split
      ·exact⟨h0,h1⟩
      ·refine⟨h0,wW h1 ⟨?_,?_⟩⟩
       ·show((p.cur (sesX x)).acts++[x]).length<=n+1;rw[List.length_append];have:=(h.2 (sesX x)).1;simp;omega
       ·show((p.cur (sesX x)).said++[_]).length<=n+1;rw[List.length_append];have:=(h.2 (sesX x)).2;simp;omega
theorem zI2 (s:ESt):∀ l:List ActL,vK (hO s l) l.length:=by
 have aux:∀ (l:List ActL) (p:PSt) (n:Nat),vK p n->vK (l.foldl plyP p) (n+l.length):=by
  intro l
  induction l with
  | nil=>intro p n h;exact h
  | cons x l ih=>
   intro p n h;have:=ih (plyP p x) (n+1) (zKl h x);rw[List.length_cons,show n+(l.length+1)=n+1+l.length by omega];exact this
 intro l;have:=aux l ⟨s,fun _=>noD,[]⟩ 0 ⟨n_ _,fun _=>⟨n_ _,n_ _⟩⟩;rw[Nat.zero_add] at this;exact this
theorem cells16 (j:Nat):(#[i_ k_ 0,Value.bool false,Value.slice none 0 0,Value.slice none 0 0,i_ k_ 0,Value.bool false,Value.slice none 0 0,Value.slice none 0 0,i_ k_ 0,Value.bool false,Value.slice none 0 0,Value.slice none 0 0,i_ k_ 0,Value.bool false,Value.slice none 0 0,Value.slice none 0 0]:Array Value)[j]?=if j<16 then some (if j % 4=0 then .int .i64 0 else if j % 4=1 then .bool false else .slice none 0 0) else none:=by
 by_cases h:j<16
 ·have hj:j=0∨j=1∨j=2∨j=3∨j=4∨j=5∨j=6∨j=7∨j=8∨j=9∨j=10∨j=11∨j=12∨j=13∨j=14∨j=15:=by omega
  rcases hj with rfl|rfl|rfl|rfl|rfl|rfl|rfl|rfl|rfl|rfl|rfl|rfl|rfl|rfl|rfl|rfl<;>rfl
 ·rw[if_neg h];exact Array.getElem?_eq_none (by show 16<=j;omega)
theorem dP.start {w:World} {B:Nat} {m0:EMem} {s0:ESt} (h:EK w B m0 s0) (hQ:∀ j,m0.Q j->s0.ses j≠none):
  dP w (w.alloc (o_ #[.int k_ 0,.bool false,.slice none 0 0,.slice none 0 0,.int k_ 0,.bool false,.slice none 0 0,.slice none 0 0,.int k_ 0,.bool false,.slice none 0 0,.slice none 0 0,.int k_ 0,.bool false,.slice none 0 0,.slice none 0 0] 166)) B m0 s0 w.heap.size (.slice none 0 0) ⟨s0,fun _=>noD,[]⟩ m0 (fun _=>noV) []:=by
 have hb:=a_ w (o_ #[.int k_ 0,.bool false,.slice none 0 0,.slice none 0 0,.int k_ 0,.bool false,.slice none 0 0,.slice none 0 0,.int k_ 0,.bool false,.slice none 0 0,.slice none 0 0,.int k_ 0,.bool false,.slice none 0 0,.slice none 0 0] 166);have cls:∀ a k,dH (allF m0 s0.ses) w.heap.size (fun i=>s0.ses i≠none) (fun _=>noV) (.slice none 0 0) a k->(a=0/\k<w.heap.size)∨(a=1/\k=w.heap.size):=fun a k hk=>by
  match a,hk with
  | 0,⟨_,e⟩=>exact .inl ⟨rfl,h.lt e⟩
  | 1,hk=>exact .inr ⟨rfl,hk⟩
  | 2,hk=>cases hk
  | n+3,⟨_,_,h3⟩=>split at h3<;>cases h3
 exact {
  ek:=h.on hb
  eb:=rfl
  db:=⟨rfl,fun j hj=>⟨hQ j hj,rfl⟩⟩
  st:=.on h.blo hb
  pm:={
   cells:=fun i hi=>by
    refine⟨?_,?_,?_,?_⟩<;>rw[aC,cells16,if_pos (by omega)]
    ·rw[if_pos (by omega)];rfl
    ·rw[if_neg (by omega),if_pos (by omega)];rfl
    ·rw[if_neg (by omega),if_neg (by omega)];rfl
    ·rw[if_neg (by omega),if_neg (by omega)];rfl
   soft:=fun j=>aQ _ _ _ j
   plo:=n_ _
   rows:=fun i _ _=>⟨World.ownsRow_nil _ _ _ _,World.ownsRow_nil _ _ _ _⟩
   out:=World.ownsRow_nil _ _ _ _
   kept:=fun x hx=>absurd hx List.not_mem_nil
   ap:=fun a b k ha hb'=>by
    rcases cls a k ha with⟨q1,q2⟩|⟨q1,q2⟩<;>rcases cls b k hb' with⟨r1,r2⟩|⟨r1,r2⟩<;>omega
   kap:=fun x hx=>absurd hx List.not_mem_nil
   tlt:=fun k ⟨_,e⟩=>Nat.lt_of_lt_of_le (h.lt e) hb.size
   wlo:=hb.size }
  cd:=fun _ _=>rfl
  od:=rfl
  lo:=h.blo }
section
variable {w0 wx w1 w2:World} {B:Nat} {m0 m m':EMem} {s0 s':ESt} {pb:Nat} {ov ov':Value} {p:PSt} {cur cur':Nat->DVal} {outs outs':List DVal}
structure pE (w0 wx w1:World) (B:Nat) (m0:EMem) (s0:ESt) (pb:Nat) (ov:Value) (p:PSt) (m:EMem) (cur:Nat->DVal) (outs:List DVal) (s':ESt) (m':EMem):Prop where
 ek:EK w1 B m' s'
 eb:m'.eb=m0.eb
 db:zGL m0 s'.ses m'
 st:aG w0 w1 B (allF m0 s0.ses) (allF m' s'.ses)
 pm:PM w1 w0.heap.size pb (allF m' s'.ses) (fun i=>p.e.ses i≠none) cur ov outs
 on:aG wx w1 B (allF m p.e.ses) (allF m' s'.ses)
 cd:∀ i,i<4->(cur i).d=p.cur i
 od:outs.map (·.d)=p.out
 lo:B<=w0.heap.size
theorem dP.after (h:dP w0 wx B m0 s0 pb ov p m cur outs) (ha:ActE wx w1 B m p.e s') (hq:∀ j,m0.Q j->p.e.ses j≠none->s'.ses j≠none):∃ m',pE w0 wx w1 B m0 s0 pb ov p m cur outs s' m':=by
 obtain⟨m',k1,k2,k3,k4⟩:=ha;exact⟨m',k1,k2.trans h.eb,h.db.act k3 hq,h.st.trans k4,h.pm.engine k4 fun k ⟨_,e⟩=>k1.lt e,k4,h.cd,h.od,h.lo⟩
theorem pE.close (h:pE w0 wx w1 B m0 s0 pb ov p m cur outs s' m') (hb:Below w0.heap.size w1 w2) (hT:∀ k,allF m' s'.ses k->w2.heap[k]?=w1.heap[k]?) {pc:Nat->jR} {po:List jR}
  (hpm:PM w2 w0.heap.size pb (allF m' s'.ses) (fun i=>s'.ses i≠none) cur' ov' outs') (hc:∀ i,i<4->(cur' i).d=pc i) (ho:outs'.map (·.d)=po):dP w0 w2 B m0 s0 pb ov' ⟨s',pc,po⟩ m' cur' outs' where
 ek:=h.ek.kept hb.size hT
 eb:=h.eb
 db:=h.db
 st:=⟨h.st.bel.trans (hb.mono h.lo),fun j hj hn=>by
  obtain⟨a,b⟩:=h.st.far j hj hn;exact⟨(hb.block j hj).trans a,b⟩⟩
 pm:=hpm
 cd:=hc
 od:=ho
 lo:=h.lo
theorem PM.pbT {w:World} {N:Nat} {T L:Nat->Prop} (h:PM w N pb T L cur ov outs) {k:Nat} (hk:T k):k≠pb:=fun e=>by
 have:=h.ap 0 1 k hk e;omega
theorem pE.begun {i:Nat} (h:pE w0 wx w1 B m0 s0 pb ov p m cur outs (dX p.e i) m') (hi:i<4):
  dP w0 ((((w1.setCell ⟨pb,i*4,none⟩ (.int .i64 0)).setCell ⟨pb,i*4+1,none⟩ (.bool false)).setCell ⟨pb,i*4+2,none⟩ (.slice none 0 0)).setCell ⟨pb,i*4+3,none⟩ (.slice none 0 0)) B m0 s0 pb ov ⟨dX p.e i,setP p.cur i noD,p.out⟩ m' (setV cur i noV) outs:=by
 obtain⟨q0,q1,q2,q3⟩:=h.pm.cells i hi;have hk:∀ k,k≠pb->((((w1.setCell ⟨pb,i*4,none⟩ (.int .i64 0)).setCell ⟨pb,i*4+1,none⟩ (.bool false)).setCell ⟨pb,i*4+2,none⟩ (.slice none 0 0)).setCell ⟨pb,i*4+3,none⟩ (.slice none 0 0)).heap[k]?=w1.heap[k]?:=fun k hk=>(h_ _ _ _ _ hk).trans ((h_ _ _ _ _ hk).trans ((h_ _ _ _ _ hk).trans (h_ _ _ _ _ hk)));have hb:Below w0.heap.size w1 ((((w1.setCell ⟨pb,i*4,none⟩ (.int .i64 0)).setCell ⟨pb,i*4+1,none⟩ (.bool false)).setCell ⟨pb,i*4+2,none⟩ (.slice none 0 0)).setCell ⟨pb,i*4+3,none⟩ (.slice none 0 0)):=((((r_ _ w1).setCell (p:=⟨pb,i*4,none⟩) h.pm.plo _).setCell (p:=⟨pb,i*4+1,none⟩) h.pm.plo _).setCell (p:=⟨pb,i*4+2,none⟩) h.pm.plo _).setCell (p:=⟨pb,i*4+3,none⟩) h.pm.plo _;have hw:=h.pm.write (w':=(((w1.setCell ⟨pb,i*4,none⟩ (.int .i64 0)).setCell ⟨pb,i*4+1,none⟩ (.bool false)).setCell ⟨pb,i*4+2,none⟩ (.slice none 0 0)).setCell ⟨pb,i*4+3,none⟩ (.slice none 0 0)) (i:=i) (y:=noV) (L':=fun j=>(dX p.e i).ses j≠none) hi hk (by simp)
  (fun j hj hj4 o ho=>by
   refine(t_ _ _ _ _ (by simp<;>omega)).trans ((t_ _ _ _ _ (by simp<;>omega)).trans ((t_ _ _ _ _ (by simp<;>omega)).trans (t_ _ _ _ _ (by simp<;>omega)))))
  ⟨(t_ _ _ _ _ (by simp)).trans ((t_ _ _ _ _ (by simp)).trans ((t_ _ _ _ _ (by simp)).trans (u_ _ _ _ q0))),
  (t_ _ _ _ _ (by simp)).trans ((t_ _ _ _ _ (by simp)).trans (u_ _ _ _ ((t_ _ _ _ _ (by simp)).trans q1))),
  (t_ _ _ _ _ (by simp)).trans (u_ _ _ _ ((t_ _ _ _ _ (by simp)).trans ((t_ _ _ _ _ (by simp)).trans q2))),
  u_ _ _ _ ((t_ _ _ _ _ (by simp)).trans ((t_ _ _ _ _ (by simp)).trans ((t_ _ _ _ _ (by simp)).trans q3)))⟩
  (fun j=>by rw[World.frozen?_setCell,World.frozen?_setCell,World.frozen?_setCell,World.frozen?_setCell];exact h.pm.soft j)
  (fun j hj hl=>by
   have hl':setS p.e.ses i _ j≠none:=hl;rw[hU _ hj] at hl';exact hl') (fun _=>.inr ⟨rfl,rfl,rfl,rfl⟩)
 refine h.close hb (fun k e=>hk k (h.pm.pbT e)) hw (fun j hj=>?_) h.od;by_cases e:j=i
 ·subst e;rw[cJ,kN];rfl
 ·rw[dV _ e,iY _ e];exact h.cd j hj
theorem pE.told {i g cap n:Nat} {rd:Bool} (h:pE w0 wx w1 B m0 s0 pb ov p m cur outs s' m') (hi:i<4) (hL:p.e.ses i≠none) (hl:∀ j,s'.ses j≠none->p.e.ses j≠none/\j≠i) {C:Array Value} {t:TypeId}
  (hg:jI (((w1.setCell ⟨pb,i*4,none⟩ (.int .i64 (n:Int))).setCell ⟨pb,i*4+1,none⟩ (.bool rd)).alloc (.cells C t)) w2 ov g)
  (ho:w2.ownsRow w0.heap.size 73 4 (.slice (some ⟨g,0,none⟩) (outs.length+1) cap) (outs.length+1) (outs.flatMap oF++[.int .i64 (n:Int),.bool rd,(cur i).av,(cur i).sv])):
  dP w0 w2 B m0 s0 pb (.slice (some ⟨g,0,none⟩) (outs.length+1) cap) ⟨s',setP p.cur i { p.cur i with at_:=n,reads:=rd },p.out++[{ p.cur i with at_:=n,reads:=rd }]⟩ m' (setV cur i ⟨{ (cur i).d with at_:=n,reads:=rd },(cur i).av,(cur i).sv⟩) (outs++[⟨{ (cur i).d with at_:=n,reads:=rd },(cur i).av,(cur i).sv⟩]):=by
 obtain⟨q0,q1,q2,q3⟩:=h.pm.cells i hi;have hk:∀ k,k≠pb->((w1.setCell ⟨pb,i*4,none⟩ (.int .i64 (n:Int))).setCell ⟨pb,i*4+1,none⟩ (.bool rd)).heap[k]?=w1.heap[k]?:=fun k hk=>(h_ _ _ _ _ hk).trans (h_ _ _ _ _ hk);have hb:Below w0.heap.size w1 ((w1.setCell ⟨pb,i*4,none⟩ (.int .i64 (n:Int))).setCell ⟨pb,i*4+1,none⟩ (.bool rd)):=((r_ _ w1).setCell (p:=⟨pb,i*4,none⟩) h.pm.plo _).setCell (p:=⟨pb,i*4+1,none⟩) h.pm.plo _;have hw:=h.pm.write (w':=(w1.setCell ⟨pb,i*4,none⟩ (.int .i64 (n:Int))).setCell ⟨pb,i*4+1,none⟩ (.bool rd)) (i:=i) (y:=⟨{ (cur i).d with at_:=n,reads:=rd },(cur i).av,(cur i).sv⟩) (L':=fun j=>p.e.ses j≠none) hi hk (by simp)
  (fun j hj hj4 o ho=>(t_ _ _ _ _ (by simp<;>omega)).trans (t_ _ _ _ _ (by simp<;>omega)))
  ⟨(t_ _ _ _ _ (by simp)).trans (u_ _ _ _ q0),u_ _ _ _ ((t_ _ _ _ _ (by simp)).trans q1),(t_ _ _ _ _ (by simp)).trans ((t_ _ _ _ _ (by simp)).trans q2),(t_ _ _ _ _ (by simp)).trans ((t_ _ _ _ _ (by simp)).trans q3)⟩
  (fun j=>by rw[World.frozen?_setCell,World.frozen?_setCell];exact h.pm.soft j) (fun j _ hl=>hl) (fun _=>.inl ⟨rfl,rfl,rfl,rfl,hL⟩)
 generalize (w1.setCell ⟨pb,i*4,none⟩ (.int .i64 (n:Int))).setCell ⟨pb,i*4+1,none⟩ (.bool rd)=W at *;have hbA:=a_ W (.cells C t);have hwA:=hw.on hbA;have ht:=hwA.told (L':=fun j=>s'.ses j≠none) (i:=i) (g:=g) (cap:=cap) hi hL hg hl (by rw[cJ];exact ho);rw[cJ] at ht;have hlo:=h.pm.wlo;have hbg:Below w0.heap.size w1 w2:=(hb.trans (hbA.mono (Nat.le_trans hlo hb.size))).grown hg.grow (Nat.le_trans (Nat.le_trans hlo hb.size) hbA.size) fun k e=>(l_ hw.out k e).1;have hT:∀ k,allF m' s'.ses k->w2.heap[k]?=w1.heap[k]?:=fun k e=>by
  have h1:k<W.heap.size:=hw.tlt k e;have h2:ov.ownBlock≠some k:=fun e2=>by have:=h.pm.ap 0 2 k e e2;omega
  exact((hg.far (Nat.lt_of_lt_of_le h1 hbA.size) h2).1.trans (hbA.block k h1)).trans (hk k (h.pm.pbT e))
 refine h.close hbg hT ht (fun j hj=>?_) ?_
 ·by_cases e:j=i
  ·subst e;rw[cJ,kN,<-h.cd j hj]
  ·rw[dV _ e,iY _ e];exact h.cd j hj
 ·rw[List.map_append,h.od];show _++[_]=_;rw[<-h.cd i hi]
theorem dP.acts {W:World} {i g cap:Nat} {x:ActL} (h:dP w0 wx B m0 s0 pb ov p m cur outs) (hi:i<4) (hL:p.e.ses i≠none) (hbW:Below wx.heap.size wx W) (hg:jI W w2 (cur i).av g)
  (ho:w2.ownsRow w0.heap.size 39 9 (.slice (some ⟨g,0,none⟩) ((cur i).d.acts.length+1) cap) ((cur i).d.acts.length+1) ((cur i).d.acts.flatMap lO++lO x)):
  dP w0 (w2.setCell ⟨pb,i*4+2,none⟩ (.slice (some ⟨g,0,none⟩) ((cur i).d.acts.length+1) cap)) B m0 s0 pb ov ⟨p.e,setP p.cur i { p.cur i with acts:=(p.cur i).acts++[x] },p.out⟩ m (setV cur i ⟨{ (cur i).d with acts:=(cur i).d.acts++[x] },.slice (some ⟨g,0,none⟩) ((cur i).d.acts.length+1) cap,(cur i).sv⟩) outs:=by
 have hW:=h.on hbW;have hp:=hW.pm.pushA (x:=x) (cap:=cap) hi hL hg ho;have hr:=(hW.pm.rows i hi hL).1;have hb:Below w0.heap.size W (w2.setCell ⟨pb,i*4+2,none⟩ (.slice (some ⟨g,0,none⟩) ((cur i).d.acts.length+1) cap)):=((r_ _ W).grown hg.grow hW.pm.wlo fun k e=>(l_ hr k e).1).setCell (p:=⟨pb,i*4+2,none⟩) hW.pm.plo _;refine hW.own (p':=⟨p.e,setP p.cur i { p.cur i with acts:=(p.cur i).acts++[x] },p.out⟩) rfl hb (fun k e=>?_) hp (fun j hj=>?_) hW.od
 ·have h1:=hW.pm.tlt k e;have h2:(cur i).av.ownBlock≠some k:=fun e2=>by have:=hW.pm.ap 0 (2*i+3) k e (fP hi hL e2);omega
  exact(h_ _ _ _ _ (hW.pm.pbT e)).trans (hg.far h1 h2).1
 ·by_cases e:j=i
  ·subst e;rw[cJ];show _=setP p.cur j _ j;rw[kN,<-h.cd j hj]
  ·rw[dV _ e];show _=setP p.cur i _ j;rw[iY _ e];exact h.cd j hj
theorem pE.said {W:World} {i g cap:Nat} {t:ByteArray} (h:pE w0 wx w1 B m0 s0 pb ov p m cur outs s' m') (hi:i<4) (hL:p.e.ses i≠none) (hl:∀ j,s'.ses j≠none->p.e.ses j≠none) (hbW:Below w1.heap.size w1 W) (hg:jI W w2 (cur i).sv g)
  (ho:w2.ownsRow w0.heap.size 9 1 (.slice (some ⟨g,0,none⟩) ((cur i).d.said.length+1) cap) ((cur i).d.said.length+1) ((cur i).d.said.map v_++[.string t])):
  dP w0 (w2.setCell ⟨pb,i*4+3,none⟩ (.slice (some ⟨g,0,none⟩) ((cur i).d.said.length+1) cap)) B m0 s0 pb ov ⟨s',setP p.cur i { p.cur i with said:=(p.cur i).said++[t] },p.out⟩ m' (setV cur i ⟨{ (cur i).d with said:=(cur i).d.said++[t] },(cur i).av,.slice (some ⟨g,0,none⟩) ((cur i).d.said.length+1) cap⟩) outs:=by
 have hW:=h.pm.on hbW;have hp:=hW.pushS (x:=t) (cap:=cap) hi hL hg ho;have hr:=(hW.rows i hi hL).2;have hb1:Below w0.heap.size w1 W:=hbW.mono h.pm.wlo;have hb:Below w0.heap.size w1 (w2.setCell ⟨pb,i*4+3,none⟩ (.slice (some ⟨g,0,none⟩) ((cur i).d.said.length+1) cap)):=(hb1.grown hg.grow hW.wlo fun k e=>(l_ hr k e).1).setCell (p:=⟨pb,i*4+3,none⟩) hW.plo _;refine h.close hb (fun k e=>?_) (hp.less hl) (fun j hj=>?_) h.od
 ·have h1:=h.pm.tlt k e;have h2:(cur i).sv.ownBlock≠some k:=fun e2=>by have:=hW.ap 0 (2*i+1+3) k e (gH hi hL e2);omega
  exact((h_ _ _ _ _ (hW.pbT e)).trans (hg.far (Nat.lt_of_lt_of_le h1 hbW.size) h2).1).trans (hbW.block k h1)
 ·by_cases e:j=i
  ·subst e;rw[cJ,kN,<-h.cd j hj]
  ·rw[dV _ e,iY _ e];exact h.cd j hj
end
end
section
open Go.RowKit Go.Joins
attribute [local go_sem ↓] Go.wp_at_zero Go.wp_at_succ
theorem lM (i:Nat) (hi:i<4) (w:World):Calls p_ 61 #[.int .i64 (i:Int)] w fun e w'=>e=.returned (.bool true)/\w'=w:=by
 have h1:(0:Int)<=(i:Int):=by omega
 have h2:(i:Int)<4:=by omega
 go_enter Tryz.func61,Tryz.ntmps61;go_wp2;go_ret;exact⟨rfl,rfl⟩
theorem xR {B wb vb:Nat} {since:Int} {cv rv:Value} {chs:List Chg} {rds:Rws} (w:World) (h:VW w B wb vb since cv rv chs rds):
  Calls p_ 64 #[.pointer (some ⟨wb,0,none⟩)] w fun e w'=>e=.returned (.int .i64 since)/\w'=w:=by
 have c1:=h.c1;clear h;go_enter Tryz.func64,Tryz.ntmps64;go_wp2;go_ret;exact⟨rfl,rfl⟩
section
variable {B:Nat} {m:EMem} {s:ESt}
theorem mT (w:World) (h:EK w B m s) {i:Nat} (hi:i<4) {v:VwL} (hv:s.ses i=some v):
  Calls p_ 28 #[.pointer (some ⟨m.eb,0,none⟩),.int .i64 (i:Int)] w fun e w'=>e=.returned (.tuple #[.pointer (some ⟨(m.W i).1,0,none⟩),.nilIface])/\w'=w:=by
 have c:=h.cell hi;rw[kE hv] at c;have h1:(0:Int)<=(i:Int):=by omega
 have h2:(i:Int)<4:=by omega
 clear h;go_enter Tryz.func28,Tryz.ntmps28;go_wp2_with fail;refine(lM i hi w).mono ?_;rintro e w1 ⟨rfl,rfl⟩;go_wp2;go_ret2;exact⟨rfl,rfl⟩
theorem pC (w:World) (h:EK w B m s) {i:Nat} (hi:i<4) (hv:s.ses i=none):
  Calls p_ 28 #[.pointer (some ⟨m.eb,0,none⟩),.int .i64 (i:Int)] w fun e w'=>e=.returned (.tuple #[.pointer none,errV 7])/\w'=w:=by
 have c:=h.cell hi;rw[kI hv] at c;have h1:(0:Int)<=(i:Int):=by omega
 have h2:(i:Int)<4:=by omega
 have HE:Hid (errV 7=.iface 114 (.int .i64 7)):=rfl;rw[HE.out];clear h;go_enter Tryz.func28,Tryz.ntmps28;go_wp2_with fail;refine(lM i hi w).mono ?_;rintro e w1 ⟨rfl,rfl⟩;go_wp2;go_ret2;exact⟨rfl,rfl⟩
theorem zEk (w:World) (h:EK w B m s):Calls p_ 32 #[.pointer (some ⟨m.eb,0,none⟩)] w fun e w'=>e=.returned (.int .i64 (s.now:Int))/\w'=w:=by
 have c:=h.cell1;have HN:=hide (zE7 w h.vs);clear h;go_enter Tryz.func32,Tryz.ntmps32;go_wp2_with fail;refine HN.out.mono ?_;rintro e w1 ⟨rfl,rfl⟩;go_wp2;go_ret;exact⟨rfl,rfl⟩
theorem zBq (w:World) (h:EK w B m s) (hr:s.x.rows.length<=1000):Calls p_ 35 #[.pointer (some ⟨m.eb,0,none⟩)] w fun e w'=>∃ v,e=.returned v/\ownP w' w.heap.size v (aS s.x.rows)/\Below w.heap.size w w':=by
 have c:=h.cell0;have HN:=hide (zBm w h.sa hr);clear h;go_enter Tryz.func35,Tryz.ntmps35;go_wp2_with fail;refine HN.out.mono ?_;rintro e w1 ⟨v,rfl,h1,h2⟩;go_wp2;go_ret;exact⟨v,rfl,h1,h2⟩
def ixS (v i:Value):Sem Value:=Instr.index 122 v i
theorem zMW (v i:Value):Instr.index 122 v i=ixS v i:=rfl
attribute [local go_sem ↓] zMW
theorem zL8 (a b c d:Value) (W:World):(ixS (.agg #[a,b,c,d]) (.int .i64 0)).run p_ W=.ok a W:=by kernel_rfl
theorem zMe (a b c d:Value) (W:World):(ixS (.agg #[a,b,c,d]) (.int .i64 1)).run p_ W=.ok b W:=by kernel_rfl
theorem zMx (a b c d:Value) (W:World):(ixS (.agg #[a,b,c,d]) (.int .i64 2)).run p_ W=.ok c W:=by kernel_rfl
theorem zLR (a b c d:Value) (W:World):(ixS (.agg #[a,b,c,d]) (.int .i64 3)).run p_ W=.ok d W:=by kernel_rfl
def oldK (s:ESt):Nat->Nat
 | 0=>s.now
 | k+1=>minS (oldK s k) (s.ses k)
theorem zIg (s:ESt):oldK s 4=cI s:=rfl
theorem zE6 (s:ESt):∀ k,oldK s k<=s.now
 | 0=>n_ _
 | k+1=>Nat.le_trans (lB _ _) (zE6 s k)
theorem wN (w:World) (h:EK w B m s):Calls p_ 71 #[.pointer (some ⟨m.eb,0,none⟩)] w fun e w'=>e=.returned (.int .i64 (cI s:Int))/\w'=w:=by
 have c1:=h.cell1;have c3:=h.cell (i:=0) (by decide);have c4:=h.cell (i:=1) (by decide);have c5:=h.cell (i:=2) (by decide);have c6:=h.cell (i:=3) (by decide);have HN:=hide (zE7 w h.vs);have HW:Hid (∀ i v,s.ses i=some v->Calls p_ 64 #[.pointer (some ⟨(m.W i).1,0,none⟩)] w fun e w'=>e=.returned (.int .i64 (v.n:Int))/\w'=w):=fun i v hv=>xR w (h.vw i v hv);have HO:=hide (zIg s);have hle:=zE6 s;have HLE:=hide hle;clear h hle;generalize cI s=old at *;go_enter Tryz.func71,Tryz.ntmps71;go_wp2_with fail;refine HN.out.mono ?_;rintro e w1 ⟨rfl,rfl⟩;go_wp2
 go_loopw [3,5,15] (fun nv _ iv wr=>∃ k:Nat,k<=4/\iv=.int .i64 (k:Int)/\nv=.int .i64 (oldK s k:Int)/\wr=w1) (fun _ _ iv _=>4-(intOf iv).toNat)
 case atStart=>exact⟨0,by omega,rfl,rfl,rfl⟩
 case round=>
  obtain⟨k,hk,rfl,rfl,rfl⟩:=hrel;have hkc:k=4∨k=0∨k=1∨k=2∨k=3:=by omega
  rcases hkc with rfl|rfl|rfl|rfl|rfl
  ·rw[HO.out];go_wp2;go_ret;exact⟨rfl,rfl⟩
  ·have hix:=zL8
   cases hs:s.ses 0 with
   | none=>
    rw[kI hs];have ho:oldK s (0+1)=oldK s 0:=by show minS (oldK s 0) (s.ses 0)=_;rw[hs];rfl
    have HO1:=hide ho;clear ho;generalize oldK s 0=o0 at *;go_wp2_with fail;exact⟨⟨0+1,by omega,by go_num,by rw[HO1.out],by trivial⟩,by simp[intOf]⟩
   | some v=>
    rw[kE hs];have ho:oldK s (0+1)=min (oldK s 0) v.n:=by show minS (oldK s 0) (s.ses 0)=_;rw[hs];rfl
    have HO1:=hide ho;clear ho;have HS:=hide (HW.out 0 v hs);generalize oldK s 0=o0 at *;go_wp2_with fail;refine HS.out.mono ?_;rintro e w2 ⟨rfl,hw2⟩;rw[hw2];clear hw2;go_wp2_with fail;exact⟨⟨0+1,by omega,by go_num,by rw[HO1.out];congr 1;omega,by trivial⟩,by simp[intOf]⟩
  ·have hix:=zMe
   cases hs:s.ses 1 with
   | none=>
    rw[kI hs];have ho:oldK s (1+1)=oldK s 1:=by show minS (oldK s 1) (s.ses 1)=_;rw[hs];rfl
    have HO1:=hide ho;clear ho;generalize oldK s 1=o0 at *;go_wp2_with fail;exact⟨⟨1+1,by omega,by go_num,by rw[HO1.out],by trivial⟩,by simp[intOf]⟩
   | some v=>
    rw[kE hs];have ho:oldK s (1+1)=min (oldK s 1) v.n:=by show minS (oldK s 1) (s.ses 1)=_;rw[hs];rfl
    have HO1:=hide ho;clear ho;have HS:=hide (HW.out 1 v hs);generalize oldK s 1=o0 at *;go_wp2_with fail;refine HS.out.mono ?_;rintro e w2 ⟨rfl,hw2⟩;rw[hw2];clear hw2;go_wp2_with fail;exact⟨⟨1+1,by omega,by go_num,by rw[HO1.out];congr 1;omega,by trivial⟩,by simp[intOf]⟩
  ·have hix:=zMx
   cases hs:s.ses 2 with
   | none=>
    rw[kI hs];have ho:oldK s (2+1)=oldK s 2:=by show minS (oldK s 2) (s.ses 2)=_;rw[hs];rfl
    have HO1:=hide ho;clear ho;generalize oldK s 2=o0 at *;go_wp2_with fail;exact⟨⟨2+1,by omega,by go_num,by rw[HO1.out],by trivial⟩,by simp[intOf]⟩
   | some v=>
    rw[kE hs];have ho:oldK s (2+1)=min (oldK s 2) v.n:=by show minS (oldK s 2) (s.ses 2)=_;rw[hs];rfl
    have HO1:=hide ho;clear ho;have HS:=hide (HW.out 2 v hs);generalize oldK s 2=o0 at *;go_wp2_with fail;refine HS.out.mono ?_;rintro e w2 ⟨rfl,hw2⟩;rw[hw2];clear hw2;go_wp2_with fail;exact⟨⟨2+1,by omega,by go_num,by rw[HO1.out];congr 1;omega,by trivial⟩,by simp[intOf]⟩
  ·have hix:=zLR
   cases hs:s.ses 3 with
   | none=>
    rw[kI hs];have ho:oldK s (3+1)=oldK s 3:=by show minS (oldK s 3) (s.ses 3)=_;rw[hs];rfl
    have HO1:=hide ho;clear ho;generalize oldK s 3=o0 at *;go_wp2_with fail;exact⟨⟨3+1,by omega,by go_num,by rw[HO1.out],by trivial⟩,by simp[intOf]⟩
   | some v=>
    rw[kE hs];have ho:oldK s (3+1)=min (oldK s 3) v.n:=by show minS (oldK s 3) (s.ses 3)=_;rw[hs];rfl
    have HO1:=hide ho;clear ho;have HS:=hide (HW.out 3 v hs);generalize oldK s 3=o0 at *;go_wp2_with fail;refine HS.out.mono ?_;rintro e w2 ⟨rfl,hw2⟩;rw[hw2];clear hw2;go_wp2_with fail;exact⟨⟨3+1,by omega,by go_num,by rw[HO1.out];congr 1;omega,by trivial⟩,by simp[intOf]⟩
end
end
section
open Go.RowKit Go.Joins
theorem gG {w:World} {B:Nat} {e:TypeId} {size:Nat} {v:Value} {n:Nat} {xs:List Value} (h:w.ownsRow B e size v n xs) (g j:Nat) (u:Value) (hne:v.ownBlock≠some g):(w.setCell ⟨g,j,none⟩ u).ownsRow B e size v n xs:=
 aI h fun k hk=>h_ _ _ _ _ (fun e=>hne (by rw[hk,e]))
theorem uL {w:World} {p:Addr} {g j:Nat} {u:Value} (hne:p.block≠g):(w.setCell ⟨g,j,none⟩ u).cell? p=w.cell? p:=b_ (h_ _ _ _ _ hne)
theorem rK {w:World} {p:Addr} {g j:Nat} {u:Value} (hne:p.block≠g):(w.setCell ⟨g,j,none⟩ u).frozen? p=w.frozen? p:=World.frozen?_of_block (h_ _ _ _ _ hne)
theorem zDx {W w1:World} {B hb:Nat} {Xc:Nat->Option Value} {v:Value} {dv:List (aU×Value)} {n:Int} {g cap:Nat} (h:bP W B hb Xc v dv) (hB:B<=W.heap.size) (hg:W.grownBy w1 v.ownBlock)
  (ho:w1.ownsRow B 207 2 (.slice (some ⟨g,0,none⟩) (dv.length+1) cap) (dv.length+1) (rowD dv++[.int .i64 n,.slice none 0 0])) (hat:v.ownBlock=some g∨g=W.heap.size):
  bP (w1.setCell ⟨hb,2,none⟩ (.slice (some ⟨g,0,none⟩) (dv.length+1) cap)) B hb Xc (.slice (some ⟨g,0,none⟩) (dv.length+1) cap) (dv++[(⟨n,[]⟩,.slice none 0 0)])/\
  Below B W (w1.setCell ⟨hb,2,none⟩ (.slice (some ⟨g,0,none⟩) (dv.length+1) cap))/\w1.cell? ⟨hb,2,none⟩=some v/\w1.frozen? ⟨hb,2,none⟩=false/\(∀ b,b<W.heap.size->b≠hb->some b≠v.ownBlock->b≠g/\(w1.setCell ⟨hb,2,none⟩ (.slice (some ⟨g,0,none⟩) (dv.length+1) cap)).heap[b]?=W.heap[b]?):=by
 have hlt:=h.lt;have hne:g≠hb:=by
  rcases hat with e|e
  ·exact fun e'=>h.off (by rw[e,e'])
  ·omega
 have c1:w1.cell? ⟨hb,2,none⟩=some v:=hg.cell h.cell (Ne.symm h.off);have f1:w1.frozen? ⟨hb,2,none⟩=false:=(hg.frozen_far ⟨hb,2,none⟩ hlt (Ne.symm h.off)).trans h.soft;have kk:∀ p∈dv,p.2.ownBlock=none∨p.2.ownBlock≠some g:=fun p hp=>by
  rcases hat with e|e
  ·rw[<-e];exact h.apart p hp
  ·refine .inr fun e'=>?_;have:=((h.keys p hp).lt g e').2;omega
 refine⟨{ cell:=?_,soft:=?_,lo:=h.lo,own:=?_,keys:=?_,off:=?_,offk:=?_,apart:=?_,pair:=?_,rest:=fun j=>⟨fun hj=>(t_ _ _ _ _ (by simp<;>omega)).trans ((b_ (w:=W) (hg.block hb hlt (Ne.symm h.off))).trans ((h.rest j).1 hj)),by rw[World.frozen?_setCell];exact(hg.frozen_far ⟨hb,j,none⟩ hlt (Ne.symm h.off)).trans (h.rest j).2⟩ },?_,c1,f1,?_⟩
 ·exact u_ _ _ _ c1
 ·simpa using f1
 ·have e1:(dv++[((⟨n,[]⟩:aU),Value.slice none 0 0)]).length=dv.length+1:=by simp
  have e2:rowD (dv++[((⟨n,[]⟩:aU),Value.slice none 0 0)])=rowD dv++[.int .i64 n,.slice none 0 0]:=by simp[rowD,sQ]
  rw[e1,e2];exact gG ho hb 2 _ (by simpa[Value.ownBlock] using hne)
 ·intro p hp;rcases List.mem_append.1 hp with hp|hp
  ·exact gG ((h.keys p hp).kept hg (h.apart p hp)) hb 2 _ (h.offk p hp)
  ·simp only[List.mem_singleton] at hp;subst hp;exact World.ownsRow_nil _ _ _ _
 ·simpa[Value.ownBlock] using hne
 ·intro p hp;rcases List.mem_append.1 hp with hp|hp
  ·exact h.offk p hp
  ·simp only[List.mem_singleton] at hp;subst hp;simp[Value.ownBlock]
 ·intro p hp;rcases List.mem_append.1 hp with hp|hp
  ·exact kk p hp
  ·simp only[List.mem_singleton] at hp;subst hp;exact .inl rfl
 ·rw[List.pairwise_append];refine⟨h.pair,by simp,fun a ha b hb'=>?_⟩;simp only[List.mem_singleton] at hb';subst hb';rcases kk a ha with e|e
  ·exact .inl e
  ·cases hx:a.2.ownBlock with
   | none=>exact .inl rfl
   | some y=>exact .inr (by simp[Value.ownBlock])
 ·exact(((r_ B W).grown hg hB (fun k hk=>(h.own.lt k hk).1)).setCell h.lo _)
 ·intro b h1 h2 h3;refine⟨?_,(h_ _ _ _ _ h2).trans (hg.block b h1 h3)⟩;rcases hat with e|e
  ·exact fun x=>h3 (by rw[e,x])
  ·omega
theorem zJq {W w1:World} {B hb:Nat} {Xc:Nat->Option Value} {d:aU} {kv:Value} {dv:List (aU×Value)} {key:ByteArray} {g cap gk ck:Nat}
  (h:bP W B hb Xc (.slice (some ⟨g,0,none⟩) (dv.length+1) cap) (dv++[(d,kv)])) (hB:B<=W.heap.size) (hg:W.grownBy w1 kv.ownBlock)
  (ho:w1.ownsRow B 9 1 (.slice (some ⟨gk,0,none⟩) (d.keys.length+1) ck) (d.keys.length+1) (d.keys.map v_++[.string key])) (hat:kv.ownBlock=some gk∨gk=W.heap.size):
  bP (w1.setCell ⟨g,dv.length*2+1,none⟩ (.slice (some ⟨gk,0,none⟩) (d.keys.length+1) ck)) B hb Xc (.slice (some ⟨g,0,none⟩) (dv.length+1) cap) (dv++[(⟨d.n,d.keys++[key]⟩,.slice (some ⟨gk,0,none⟩) (d.keys.length+1) ck)])/\
  Below B W (w1.setCell ⟨g,dv.length*2+1,none⟩ (.slice (some ⟨gk,0,none⟩) (d.keys.length+1) ck))/\
  (∀ b,b<W.heap.size->b≠g->some b≠kv.ownBlock->b≠gk/\(w1.setCell ⟨g,dv.length*2+1,none⟩ (.slice (some ⟨gk,0,none⟩) (d.keys.length+1) ck)).heap[b]?=W.heap[b]?):=by
 have hlt:=h.lt;have mem:(d,kv)∈dv++[(d,kv)]:=by simp
 have hlen:(dv++[(d,kv)]).length=dv.length+1:=by simp
 have hk0:=h.offk _ mem;have ha0:=h.apart _ mem;have hown:=h.own;have hgl:=(hown.lt g rfl).2;have hgB:=(hown.lt g rfl).1;have hgh:g≠hb:=fun e=>h.off (by rw[e];rfl);have hkg:gk≠g:=by
  rcases hat with e|e
  ·rcases ha0 with e'|e'
   ·rw[e] at e';cases e'
   ·rw[e] at e';exact fun x=>e' (by rw[x];rfl)
  ·omega
 have hkh:gk≠hb:=by
  rcases hat with e|e
  ·rw[e] at hk0;exact fun x=>hk0 (by rw[x])
  ·omega
 have hpair:=List.pairwise_append.1 h.pair;have kk:∀ p∈dv,p.2.ownBlock=none∨p.2.ownBlock≠some gk:=fun p hp=>by
  rcases hat with e|e
  ·rw[<-e];exact hpair.2.2 p hp (d,kv) (by simp)
  ·refine .inr fun e'=>?_;have:=((h.keys p (by simp[hp])).lt gk e').2;omega
 have hstay:Value.ownBlock (.slice (some ⟨g,0,none⟩) (dv.length+1) cap)=none∨Value.ownBlock (.slice (some ⟨g,0,none⟩) (dv.length+1) cap)≠kv.ownBlock:=by
  rcases ha0 with e|e
  ·exact .inr (by rw[e];simp[Value.ownBlock])
  ·exact .inr (Ne.symm e)
 refine⟨{ cell:=?_,soft:=?_,lo:=h.lo,own:=?_,keys:=?_,off:=h.off,offk:=?_,apart:=?_,pair:=?_,rest:=fun j=>⟨fun hj=>(uL (Ne.symm hgh)).trans ((b_ (w:=W) (hg.block hb hlt (Ne.symm hk0))).trans ((h.rest j).1 hj)),(rK (Ne.symm hgh)).trans ((hg.frozen_far ⟨hb,j,none⟩ hlt (Ne.symm hk0)).trans (h.rest j).2)⟩ },?_,?_⟩
 ·rw[uL (Ne.symm hgh)];exact hg.cell h.cell (Ne.symm hk0)
 ·rw[rK (Ne.symm hgh)];exact(hg.frozen_far ⟨hb,2,none⟩ hlt (Ne.symm hk0)).trans h.soft
 ·have h1:=hown.kept hg hstay;rw[hlen] at h1;have h2:=(h1.stored (dv.length*2+1) (.slice (some ⟨gk,0,none⟩) (d.keys.length+1) ck)).1;have e:(rowD (dv++[(d,kv)])).set (dv.length*2+1) (.slice (some ⟨gk,0,none⟩) (d.keys.length+1) ck)=rowD (dv++[(⟨d.n,d.keys++[key]⟩,.slice (some ⟨gk,0,none⟩) (d.keys.length+1) ck)]):=by
   unfold rowD;rw[zKF sQ 2 qX (dv++[(d,kv)]) (⟨d.n,d.keys++[key]⟩,.slice (some ⟨gk,0,none⟩) (d.keys.length+1) ck) dv.length 1 (by simp) (by omega) _ (by simp[sQ])];simp
  rw[e] at h2;simpa using h2
 ·intro p hp;rcases List.mem_append.1 hp with hp|hp
  ·have h1:=(h.keys p (by simp[hp])).kept hg (hpair.2.2 p hp (d,kv) (by simp));refine gG h1 g _ _ ?_;rcases h.apart p (by simp[hp]) with e|e
   ·rw[e];simp
   ·exact e
  ·simp only[List.mem_singleton] at hp;subst hp;have:=gG ho g (dv.length*2+1) (.slice (some ⟨gk,0,none⟩) (d.keys.length+1) ck) (by simpa[Value.ownBlock] using hkg);simpa using this
 ·intro p hp;rcases List.mem_append.1 hp with hp|hp
  ·exact h.offk p (by simp[hp])
  ·simp only[List.mem_singleton] at hp;subst hp;simpa[Value.ownBlock] using hkh
 ·intro p hp;rcases List.mem_append.1 hp with hp|hp
  ·exact h.apart p (by simp[hp])
  ·simp only[List.mem_singleton] at hp;subst hp;exact .inr (by simpa[Value.ownBlock] using hkg)
 ·rw[List.pairwise_append];refine⟨hpair.1,by simp,fun a ha b hb'=>?_⟩;simp only[List.mem_singleton] at hb';subst hb';exact kk a ha
 ·exact(((r_ B W).grown hg hB (fun k hk=>((h.keys _ mem).lt k hk).1)).setCell hgB _)
 ·intro b h1 h2 h3;refine⟨?_,(h_ _ _ _ _ h2).trans (hg.block b h1 h3)⟩;rcases hat with e|e
  ·exact fun x=>h3 (by rw[e,x])
  ·omega
end
end Go.Proofs.YtnboipekkahmnaaGreatDoor
