import Derived.Test.YtnboipekkahmnaaGreatDoorR18
import Derived.Test.YtnboipekkahmnaaGreatDoorR16
set_option maxHeartbeats 8000000
set_option maxRecDepth 100000
namespace Go.Proofs.YtnboipekkahmnaaGreatDoor
open World renaming cell?_of_block→b_,cell?_setCell_other→t_,cell?_setCell_same→u_,ownsRow.lt→l_
open Go.RowKit.Below renaming heap_setCell→h_,refl→r_
open Value renaming string→v_
section
open Go.RowKit Go.Joins
structure EMem where
 eb:Nat
 sb:Nat
 db:Nat
 vb:Nat
 mb:Nat
 many:Nat
 D:DataW Value
 g:ByteArray->Value
 hv:Value
 dv:List (aU×Value)
 W:Nat->Nat×Value×Value
 Ts:Nat->Prop
 Q:Nat->Prop
def sesV (m:EMem) (f:Nat->Option VwL) (i:Nat):Value:=match f i with
 | none=>.pointer none
 | some _=>.pointer (some ⟨(m.W i).1,0,none⟩)
def engX (m:EMem) (f:Nat->Option VwL):Nat->Option Value:=fun j=>
 if j=0 then some (.pointer (some ⟨m.sb,0,none⟩)) else if j=1 then some (.pointer (some ⟨m.vb,0,none⟩)) else if 3<=j/\j<7 then some (sesV m f (j-3)) else none
def engF (m:EMem) (f:Nat->Option VwL):Nat->Nat->Prop
 | 0=>inH m.eb m.hv m.dv
 | 1=>m.Ts
 | 2=>inVS m.vb m.mb m.g
 | i+3=>fun k=>f i≠none/\inVW (m.W i).1 (m.W i).2.1 (m.W i).2.2 k
def allF (m:EMem) (f:Nat->Option VwL) (k:Nat):Prop:=∃ i,engF m f i k
structure EK (w:World) (B:Nat) (m:EMem) (s:ESt):Prop where
 hi:bP w B m.eb (engX m s.ses) m.hv m.dv
 sa:SA w B m.sb m.db m.Ts s.x
 vs:VS w B m.vb m.mb s.now m.many m.D m.g s.R
 vw:∀ i v,s.ses i=some v->VW w B (m.W i).1 m.vb v.n (m.W i).2.1 (m.W i).2.2 v.chs v.rds
 ds:ofDV m.dv=s.ds
 ap:∀ i j k,engF m s.ses i k->engF m s.ses j k->i=j
 mn:m.many<=2000*(s.c+1)
 s4:S4 s
def updF (F:Nat->Nat->Prop) (a:Nat) (S:Nat->Prop):Nat->Nat->Prop:=fun i=>if i=a then S else F i
theorem wZ {F:Nat->Nat->Prop} {w w':World} {a:Nat} {S':Nat->Prop} (hap:∀ i j k,F i k->F j k->i=j) (hlt:∀ i k,F i k->k<w.heap.size) (hfar:∀ k,k<w.heap.size->¬F a k->w'.heap[k]?=w.heap[k]?/\¬S' k):
  (∀ i j k,updF F a S' i k->updF F a S' j k->i=j)/\(∀ i k,i≠a->F i k->w'.heap[k]?=w.heap[k]?):=by
 have hf:∀ i k,i≠a->F i k->w'.heap[k]?=w.heap[k]?/\¬S' k:=fun i k hi hk=>hfar k (hlt i k hk) fun e=>hi (hap i a k hk e);refine⟨fun i j k hi hj=>?_,fun i k hi hk=>(hf i k hi hk).1⟩;unfold updF at hi hj;split at hi
 ·split at hj
  ·rename_i e1 e2;rw[e1,e2]
  ·rename_i e1 e2;exact absurd hi (hf j k e2 hj).2
 ·split at hj
  ·rename_i e1 e2;exact absurd hj (hf i k e1 hi).2
  ·exact hap i j k hi hj
theorem zAm {F:Nat->Nat->Prop} {w w':World} {B a:Nat} {S':Nat->Prop} (hb:Below B w w') (hfar:∀ k,k<w.heap.size->¬F a k->w'.heap[k]?=w.heap[k]?/\¬S' k):
  aG w w' B (fun k=>∃ i,F i k) (fun k=>∃ i,updF F a S' i k):=⟨hb,fun k hk hn=>by
 obtain⟨h1,h2⟩:=hfar k hk fun e=>hn ⟨a,e⟩;refine⟨h1,fun ⟨i,hi⟩=>?_⟩;unfold updF at hi;split at hi
 ·exact h2 hi
 ·exact hn ⟨i,hi⟩⟩
section
variable {w w':World} {B:Nat} {m:EMem} {s:ESt}
theorem EK.lt (h:EK w B m s) {i k:Nat} (hk:engF m s.ses i k):k<w.heap.size:=by
 match i,hk with
 | 0,hk=>exact zM7 h.hi hk
 | 1,hk=>exact h.sa.lt hk
 | 2,hk=>exact h.vs.lt hk
 | i+3,⟨h1,h2⟩=>
  cases hv:s.ses i with
  | none=>exact absurd hv h1
  | some v=>exact(h.vw i v hv).lt h2
theorem EK.low (h:EK w B m s) {i k:Nat} (hk:engF m s.ses i k):B<=k:=by
 match i,hk with
 | 0,hk=>
  rcases hk with rfl|e|⟨p,hp,e⟩
  ·exact h.hi.lo
  ·exact(h.hi.own.lt k e).1
  ·exact((h.hi.keys p hp).lt k e).1
 | 1,hk=>exact h.sa.low hk
 | 2,hk=>
  rcases hk with rfl|rfl|⟨key,e⟩
  ·exact h.vs.lov
  ·exact h.vs.lom
  ·exact(l_ (h.vs.rows key) k e).1
 | i+3,⟨h1,h2⟩=>
  cases hv:s.ses i with
  | none=>exact absurd hv h1
  | some v=>exact(h.vw i v hv).low h2
theorem EK.blo (h:EK w B m s):B<=w.heap.size:=h.sa.blo
theorem EK.kept (h:EK w B m s) (hs:w.heap.size<=w'.heap.size) (hk:∀ k,allF m s.ses k->w'.heap[k]?=w.heap[k]?):EK w' B m s where
 hi:=h.hi.kept fun k e=>hk k ⟨0,e⟩
 sa:=h.sa.kept hs fun k e=>hk k ⟨1,e⟩
 vs:=h.vs.kept fun k e=>hk k ⟨2,e⟩
 vw:=fun i v hv=>(h.vw i v hv).kept fun k e=>hk k ⟨i+3,by rw[hv];exact nofun,e⟩
 ds:=h.ds
 ap:=h.ap
 mn:=h.mn
 s4:=h.s4
theorem EK.on (h:EK w B m s) (hb:Below w.heap.size w w'):EK w' B m s:=h.kept hb.size fun k ⟨_,e⟩=>hb.block k (h.lt e)
theorem EK.hist (h:EK w B m s) {v':Value} {dv':List (aU×Value)} (hH:bP w' B m.eb (engX m s.ses) v' dv') (hb:Below B w w') (hf:∀ j,j<w.heap.size->¬inH m.eb m.hv m.dv j->w'.heap[j]?=w.heap[j]?/\¬inH m.eb v' dv' j) {ds':List aU} (hd:ofDV dv'=ds'):
  EK w' B { m with hv:=v',dv:=dv' } { s with ds:=ds' }/\aG w w' B (allF m s.ses) (allF { m with hv:=v',dv:=dv' } s.ses)/\∀ i k,i≠0->engF m s.ses i k->w'.heap[k]?=w.heap[k]?:=by
 have eF:engF { m with hv:=v',dv:=dv' } s.ses=updF (engF m s.ses) 0 (inH m.eb v' dv'):=by
  funext i
  match i with
  | 0=>rfl
  | 1=>rfl
  | 2=>rfl
  | i+3=>rfl
 obtain⟨f1,f2⟩:=wZ (F:=engF m s.ses) (a:=0) (S':=inH m.eb v' dv') h.ap (fun i k e=>h.lt e) hf;refine⟨⟨hH,h.sa.kept hb.size fun k e=>f2 1 k (by decide) e,h.vs.kept fun k e=>f2 2 k (by decide) e,fun i v hv=>(h.vw i v hv).kept fun k e=>f2 (i+3) k (by omega) ⟨by rw[hv];exact nofun,e⟩,hd,?_,h.mn,h.s4⟩,?_,f2⟩
 ·show ∀ i j k,engF { m with hv:=v',dv:=dv' } s.ses i k->engF { m with hv:=v',dv:=dv' } s.ses j k->i=j;rw[eF];exact f1
 ·have:=zAm (F:=engF m s.ses) (a:=0) (S':=inH m.eb v' dv') hb hf;unfold allF;rw[eF];exact this
theorem EK.store (h:EK w B m s) {x':SSt} (ha:ActS w w' B m.sb m.db m.Ts x'):
  ∃ T',EK w' B { m with Ts:=T' } { s with x:=x' }/\aG w w' B (allF m s.ses) (allF { m with Ts:=T' } s.ses)/\∀ i k,i≠1->engF m s.ses i k->w'.heap[k]?=w.heap[k]?:=by
 obtain⟨T',hsa,hst⟩:=ha;have eF:engF { m with Ts:=T' } s.ses=updF (engF m s.ses) 1 T':=by
  funext i
  match i with
  | 0=>rfl
  | 1=>rfl
  | 2=>rfl
  | i+3=>rfl
 obtain⟨f1,f2⟩:=wZ (F:=engF m s.ses) (a:=1) (S':=T') h.ap (fun i k e=>h.lt e) hst.far;refine⟨T',⟨h.hi.kept fun k e=>f2 0 k (by decide) e,hsa,h.vs.kept fun k e=>f2 2 k (by decide) e,fun i v hv=>(h.vw i v hv).kept fun k e=>f2 (i+3) k (by omega) ⟨by rw[hv];exact nofun,e⟩,h.ds,?_,h.mn,h.s4⟩,?_,f2⟩
 ·show ∀ i j k,engF { m with Ts:=T' } s.ses i k->engF { m with Ts:=T' } s.ses j k->i=j;rw[eF];exact f1
 ·have:=zAm (F:=engF m s.ses) (a:=1) (S':=T') hst.bel hst.far;unfold allF;rw[eF];exact this
theorem EK.vers (h:EK w B m s) {n':Nat} {D':DataW Value} {g':ByteArray->Value} {R':ByteArray->List Ver} {now':Nat} {c':Nat} (hv':VS w' B m.vb m.mb (now':Int) n' D' g' R') (hb:Below B w w') (hf:∀ j,j<w.heap.size->¬inVS m.vb m.mb m.g j->w'.heap[j]?=w.heap[j]?/\¬inVS m.vb m.mb g' j) (hn:n'<=2000*(c'+1)):
  EK w' B { m with many:=n',D:=D',g:=g' } { s with now:=now',R:=R',c:=c' }/\aG w w' B (allF m s.ses) (allF { m with many:=n',D:=D',g:=g' } s.ses)/\∀ i k,i≠2->engF m s.ses i k->w'.heap[k]?=w.heap[k]?:=by
 have eF:engF { m with many:=n',D:=D',g:=g' } s.ses=updF (engF m s.ses) 2 (inVS m.vb m.mb g'):=by
  funext i
  match i with
  | 0=>rfl
  | 1=>rfl
  | 2=>rfl
  | i+3=>rfl
 obtain⟨f1,f2⟩:=wZ (F:=engF m s.ses) (a:=2) (S':=inVS m.vb m.mb g') h.ap (fun i k e=>h.lt e) hf;refine⟨⟨h.hi.kept fun k e=>f2 0 k (by decide) e,h.sa.kept hb.size fun k e=>f2 1 k (by decide) e,hv',fun i v hv=>(h.vw i v hv).kept fun k e=>f2 (i+3) k (by omega) ⟨by rw[hv];exact nofun,e⟩,h.ds,?_,hn,h.s4⟩,?_,f2⟩
 ·show ∀ i j k,engF { m with many:=n',D:=D',g:=g' } s.ses i k->engF { m with many:=n',D:=D',g:=g' } s.ses j k->i=j;rw[eF];exact f1
 ·have:=zAm (F:=engF m s.ses) (a:=2) (S':=inVS m.vb m.mb g') hb hf;unfold allF;rw[eF];exact this
end
def updW (f:Nat->Nat×Value×Value) (i:Nat) (x:Nat×Value×Value):Nat->Nat×Value×Value:=fun j=>if j=i then x else f j
theorem qH (f:Nat->Nat×Value×Value) (i:Nat) (x:Nat×Value×Value):updW f i x i=x:=if_pos rfl
theorem oV {f:Nat->Nat×Value×Value} {i j:Nat} (x:Nat×Value×Value) (h:j≠i):updW f i x j=f j:=if_neg h
theorem qW {m:EMem} {f:Nat->Option VwL} {i:Nat} {x:Nat×Value×Value} {v:VwL}:engF { m with W:=updW m.W i x } (setS f i (some v))=updF (engF m f) (i+3) (inVW x.1 x.2.1 x.2.2):=by
 funext j
 match j with
 | 0=>exact(if_neg (by omega)).symm
 | 1=>exact(if_neg (by omega)).symm
 | 2=>exact(if_neg (by omega)).symm
 | j+3=>
  unfold updF;by_cases e:j=i
  ·subst e;rw[if_pos rfl];funext k;show(setS f j (some v) j≠none/\inVW (updW m.W j x j).1 (updW m.W j x j).2.1 (updW m.W j x j).2.2 k)=_;rw[hE,qH];exact propext ⟨fun h=>h.2,fun h=>⟨nofun,h⟩⟩
  ·rw[if_neg (by omega)];funext k;show(setS f i (some v) j≠none/\inVW (updW m.W i x j).1 (updW m.W i x j).2.1 (updW m.W i x j).2.2 k)=_;rw[hU _ e,oV _ e];rfl
theorem zA1 {m:EMem} {f:Nat->Option VwL} {i:Nat}:engF m (setS f i none)=updF (engF m f) (i+3) (fun _=>False):=by
 funext j
 match j with
 | 0=>exact(if_neg (by omega)).symm
 | 1=>exact(if_neg (by omega)).symm
 | 2=>exact(if_neg (by omega)).symm
 | j+3=>
  unfold updF;by_cases e:j=i
  ·subst e;rw[if_pos rfl];funext k;show(setS f j none j≠none/\inVW _ _ _ k)=_;rw[hE];exact propext ⟨fun h=>absurd rfl h.1,fun h=>h.elim⟩
  ·rw[if_neg (by omega)];funext k;show(setS f i none j≠none/\inVW _ _ _ k)=_;rw[hU _ e];rfl
theorem kI {m:EMem} {f:Nat->Option VwL} {i:Nat} (h:f i=none):sesV m f i=.pointer none:=by unfold sesV;rw[h]
theorem kE {m:EMem} {f:Nat->Option VwL} {i:Nat} {v:VwL} (h:f i=some v):sesV m f i=.pointer (some ⟨(m.W i).1,0,none⟩):=by unfold sesV;rw[h]
theorem tK {m:EMem} {f:Nat->Option VwL} {i:Nat} {x:Nat×Value×Value} {v:VwL}:sesV { m with W:=updW m.W i x } (setS f i (some v)) i=.pointer (some ⟨x.1,0,none⟩):=by
 unfold sesV;rw[hE];dsimp only;rw[qH]
theorem zAJ {m:EMem} {f:Nat->Option VwL} {i j:Nat} {x:Nat×Value×Value} {o:Option VwL} (h:j≠i):sesV { m with W:=updW m.W i x } (setS f i o) j=sesV m f j:=by
 unfold sesV;rw[hU _ h];dsimp only;rw[oV _ h]
theorem lQ {m:EMem} {f:Nat->Option VwL} {i:Nat} (h:i<4):engX m f (3+i)=some (sesV m f i):=by
 unfold engX;rw[if_neg (by omega),if_neg (by omega),if_pos (by omega)];congr 2;omega
theorem zDk {m m':EMem} {f f':Nat->Option VwL} {i:Nat} (h1:m'.sb=m.sb) (h2:m'.vb=m.vb) (h3:∀ j,j≠i->sesV m' f' j=sesV m f j) {j:Nat} (hj:j≠3+i):engX m' f' j=engX m f j:=by
 unfold engX;rw[h1,h2];split
 ·rfl
 ·split
  ·rfl
  ·split
   ·rw[h3 _ (by omega)]
   ·rfl
theorem zDm {m:EMem} {f:Nat->Option VwL} {i j:Nat} {x:Nat×Value×Value} {o:Option VwL} (hj:j≠3+i):engX { m with W:=updW m.W i x } (setS f i o) j=engX m f j:=zDk (m:=m) (m':={ m with W:=updW m.W i x }) (f:=f) (f':=setS f i o) (i:=i) rfl rfl (fun _ h=>zAJ h) hj
section
variable {w w':World} {B:Nat} {m:EMem} {s:ESt}
theorem EK.cell (h:EK w B m s) {i:Nat} (hi:i<4):w.cell? ⟨m.eb,3+i,none⟩=some (sesV m s.ses i):=((h.hi.rest (3+i)).1 (by omega)).trans (lQ hi)
theorem EK.cell0 (h:EK w B m s):w.cell? ⟨m.eb,0,none⟩=some (.pointer (some ⟨m.sb,0,none⟩)):=(h.hi.rest 0).1 (by decide)
theorem EK.cell1 (h:EK w B m s):w.cell? ⟨m.eb,1,none⟩=some (.pointer (some ⟨m.vb,0,none⟩)):=(h.hi.rest 1).1 (by decide)
theorem EK.ebF (_h:EK w B m s):engF m s.ses 0 m.eb:=.inl rfl
theorem zBO {X X':Nat->Option Value} {eb j:Nat} {v u:Value} {dv:List (aU×Value)} (h:bP w B eb X v dv) (hj:j≠2) (hX:X' j=some u) (hc:∃ u0,X j=some u0) (hX2:∀ k,k≠j->X' k=X k):bP (w.setCell ⟨eb,j,none⟩ u) B eb X' v dv where
 cell:=(t_ _ _ _ _ (by simp<;>omega)).trans h.cell
 soft:=by rw[World.frozen?_setCell];exact h.soft
 lo:=h.lo
 own:=aI h.own fun k e=>h_ _ _ _ _ fun e'=>h.off (by rw[e,e'])
 keys:=fun p hp=>aI (h.keys p hp) fun k e=>h_ _ _ _ _ fun e'=>h.offk p hp (by rw[e,e'])
 off:=h.off
 offk:=h.offk
 apart:=h.apart
 pair:=h.pair
 rest:=fun k=>⟨fun hk=>by
  by_cases e:k=j
  ·subst e;obtain⟨u0,hu⟩:=hc;rw[hX];exact u_ _ _ _ (((h.rest k).1 hk).trans hu)
  ·rw[hX2 k e];exact(t_ _ _ _ _ (by simp<;>omega)).trans ((h.rest k).1 hk),by rw[World.frozen?_setCell];exact(h.rest k).2⟩
theorem EK.drop (h:EK w B m s) {i:Nat} (hi:i<4):EK (w.setCell ⟨m.eb,3+i,none⟩ (.pointer none)) B m (nU s i)/\aG w (w.setCell ⟨m.eb,3+i,none⟩ (.pointer none)) B (allF m s.ses) (allF m (nU s i).ses):=by
 have hs:∀ k,k≠m.eb->(w.setCell ⟨m.eb,3+i,none⟩ (.pointer none)).heap[k]?=w.heap[k]?:=fun k hk=>h_ _ _ _ _ hk;have hne:∀ i k,i≠0->engF m s.ses i k->k≠m.eb:=fun i k hi hk e=>hi (h.ap i 0 k hk (by rw[e];exact h.ebF));have hX:bP (w.setCell ⟨m.eb,3+i,none⟩ (.pointer none)) B m.eb (engX m (setS s.ses i none)) m.hv m.dv:=zBO h.hi (by omega) (by rw[lQ hi,kI (hE _ _ _)]) ⟨_,lQ hi⟩ fun k hk=>zDk rfl rfl (fun j hj=>by unfold sesV;rw[hU _ hj]) hk;refine⟨⟨hX,h.sa.kept (by simp) fun k e=>hs k (hne 1 k (by decide) e),h.vs.kept fun k e=>hs k (hne 2 k (by decide) e),fun j v hv=>?_,h.ds,?_,h.mn,h.s4.set hi none⟩,?_⟩
 ·have hv':=zBn hv;exact(h.vw j v hv').kept fun k e=>hs k (hne (j+3) k (by omega) ⟨by rw[hv'];exact nofun,e⟩)
 ·show ∀ a b k,engF m (setS s.ses i none) a k->engF m (setS s.ses i none) b k->a=b;rw[zA1];intro a b k ha hb;unfold updF at ha hb;split at ha
  ·exact ha.elim
  ·split at hb
   ·exact hb.elim
   ·exact h.ap a b k ha hb
 ·refine⟨(r_ B w).setCell (p:=⟨m.eb,3+i,none⟩) h.hi.lo _,fun k hk hn=>⟨hs k fun e=>hn ⟨0,by rw[e];exact h.ebF⟩,?_⟩⟩;rintro⟨a,ha⟩;have ha':engF m (setS s.ses i none) a k:=ha;rw[zA1] at ha';unfold updF at ha';split at ha'
  ·exact ha'
  ·exact hn ⟨a,ha'⟩
theorem EK.begun (h:EK w B m s) {w1:World} {i wb:Nat} (hi:i<4) (h0:s.ses i=none) (hv:VW w1 w.heap.size wb m.vb s.now (.slice none 0 0) (.slice none 0 0) [] []) (hb:Below w.heap.size w w1):
  EK (w1.setCell ⟨m.eb,3+i,none⟩ (.pointer (some ⟨wb,0,none⟩))) B { m with W:=updW m.W i (wb,.slice none 0 0,.slice none 0 0) } (dX s i)/\aG w (w1.setCell ⟨m.eb,3+i,none⟩ (.pointer (some ⟨wb,0,none⟩))) B (allF m s.ses) (allF { m with W:=updW m.W i (wb,.slice none 0 0,.slice none 0 0) } (dX s i).ses):=by
 have h1:=h.on hb;have hs:∀ k,k≠m.eb->(w1.setCell ⟨m.eb,3+i,none⟩ (.pointer (some ⟨wb,0,none⟩))).heap[k]?=w1.heap[k]?:=fun k hk=>h_ _ _ _ _ hk;have hne:∀ i k,i≠0->engF m s.ses i k->k≠m.eb:=fun i k hi hk e=>hi (h.ap i 0 k hk (by rw[e];exact h.ebF));have hin:∀ k,inVW wb (.slice none 0 0) (.slice none 0 0) k->w.heap.size<=k:=fun k e=>hv.low e;have hX:bP (w1.setCell ⟨m.eb,3+i,none⟩ (.pointer (some ⟨wb,0,none⟩))) B m.eb (engX { m with W:=updW m.W i (wb,.slice none 0 0,.slice none 0 0) } (setS s.ses i (some ⟨aS s.x.rows,s.now,[],[]⟩))) m.hv m.dv:=zBO h1.hi (by omega) (by
   rw[lQ hi,tK]) ⟨_,lQ hi⟩ fun k hk=>zDm hk
 refine⟨⟨hX,h1.sa.kept (by simp) fun k e=>hs k (hne 1 k (by decide) e),h1.vs.kept fun k e=>hs k (hne 2 k (by decide) e),fun j v hj=>?_,h.ds,?_,h.mn,h.s4.set hi _⟩,?_⟩
 ·have hj':setS s.ses i (some ⟨aS s.x.rows,s.now,[],[]⟩) j=some v:=hj;show VW _ B (updW m.W i _ j).1 m.vb v.n (updW m.W i _ j).2.1 (updW m.W i _ j).2.2 v.chs v.rds;by_cases e:j=i
  ·subst e;rw[hE] at hj';cases hj';rw[qH];refine(hv.down h.blo).kept fun k e=>hs k fun e'=>?_;have:=hin k e;have:=h.lt h.ebF;omega
  ·rw[hU _ e] at hj';rw[oV _ e];exact(h1.vw j v hj').kept fun k e=>hs k (hne (j+3) k (by omega) ⟨by rw[hj'];exact nofun,e⟩)
 ·show ∀ a b k,engF { m with W:=updW m.W i (wb,.slice none 0 0,.slice none 0 0) } (setS s.ses i _) a k->engF { m with W:=updW m.W i (wb,.slice none 0 0,.slice none 0 0) } (setS s.ses i _) b k->a=b;rw[qW];intro a b k ha hb';unfold updF at ha hb';split at ha
  ·split at hb'
   ·rename_i e1 e2;rw[e1,e2]
   ·have:=hin k ha;have:=h.lt hb';omega
  ·split at hb'
   ·have:=hin k hb';have:=h.lt ha;omega
   ·exact h.ap a b k ha hb'
 ·refine⟨(hb.mono h.blo).setCell (p:=⟨m.eb,3+i,none⟩) h.hi.lo _,fun k hk hn=>⟨(hs k fun e=>hn ⟨0,by rw[e];exact h.ebF⟩).trans (hb.block k hk),?_⟩⟩;rintro⟨a,ha⟩;have ha':engF { m with W:=updW m.W i (wb,.slice none 0 0,.slice none 0 0) } (setS s.ses i (some ⟨aS s.x.rows,s.now,[],[]⟩)) a k:=ha;rw[qW] at ha';unfold updF at ha';split at ha'
  ·have:=hin k ha';omega
  ·exact hn ⟨a,ha'⟩
def snE (B:Nat) (m:EMem) (s:ESt) (n:Nat):Sn:=⟨n,B,m.vb,m.mb,m.many,s.now,m.D,m.g,s.R⟩
def inPV (m:EMem) (i k:Nat):Prop:=inVW (m.W i).1 (m.W i).2.1 (m.W i).2.2 k∨inVS m.vb m.mb m.g k
theorem EK.pv (h:EK w B m s) (ok:EOk s) {i:Nat} {v:VwL} (hv:s.ses i=some v) (hc:s.c<=190):PV w B (m.W i).1 (inPV m i) v.P (snE B m s v.n) v.chs v.rds:=by
 have ho:=ok.ses i v hv;have hn:=h.mn;refine⟨_,_,h.vs,h.vw i v hv,rfl,fun k h1 h2=>?_,ho.say,by show m.many<=1000000;omega,fun key=>by have:=ok.rl key;have:=ok.nc;show(s.R key).length<=1000000;omega,ho.ov,h.blo⟩;have:=h.ap (i+3) 2 k ⟨by rw[hv];exact nofun,h2⟩ h1;omega
theorem EK.view (h:EK w B m s) {i:Nat} {v:VwL} (hv:s.ses i=some v) (hi:i<4) {S':Nat->Prop} {chs:List Chg} {rds:Rws} (hp:PV w' B (m.W i).1 S' v.P (snE B m s v.n) chs rds) (hst:aG w w' B (inPV m i) S'):
  ∃ x,x.1=(m.W i).1/\EK w' B { m with W:=updW m.W i x } (jU s i v chs rds)/\aG w w' B (allF m s.ses) (allF { m with W:=updW m.W i x } (jU s i v chs rds).ses):=by
 obtain⟨cv,rv,hvs,hvw,hS,hap,_⟩:=hp;subst hS;have hvn:engF m s.ses (i+3)=inVW (m.W i).1 (m.W i).2.1 (m.W i).2.2:=by
  funext k;exact propext ⟨fun h=>h.2,fun h=>⟨by rw[hv];exact nofun,h⟩⟩
 have hfar:∀ a k,a≠i+3->a≠2->engF m s.ses a k->w'.heap[k]?=w.heap[k]?/\¬(inVW (m.W i).1 cv rv k∨inVS m.vb m.mb m.g k):=fun a k h1 h2 hk=>by
  refine hst.far k (h.lt hk) ?_;rintro(e|e)
  ·exact h1 (h.ap a (i+3) k hk (by rw[hvn];exact e))
  ·exact h2 (h.ap a 2 k hk e)
 have hX:engX { m with W:=updW m.W i ((m.W i).1,cv,rv) } (setS s.ses i (some ⟨v.P,v.n,chs,rds⟩))=engX m s.ses:=by
  funext j;by_cases e:j=3+i
  ·subst e;rw[lQ hi,lQ hi,tK,kE hv]
  ·exact zDm e
 refine⟨((m.W i).1,cv,rv),rfl,⟨?_,h.sa.kept hst.bel.size fun k e=>(hfar 1 k (by omega) (by decide) e).1,hvs,fun j u hj=>?_,h.ds,?_,h.mn,h.s4.set hi _⟩,?_⟩
 ·show bP w' B m.eb (engX { m with W:=updW m.W i ((m.W i).1,cv,rv) } (setS s.ses i (some ⟨v.P,v.n,chs,rds⟩))) m.hv m.dv;rw[hX];exact h.hi.kept fun k e=>(hfar 0 k (by omega) (by decide) e).1
 ·have hj':setS s.ses i (some ⟨v.P,v.n,chs,rds⟩) j=some u:=hj;show VW _ B (updW m.W i _ j).1 m.vb u.n (updW m.W i _ j).2.1 (updW m.W i _ j).2.2 u.chs u.rds;by_cases e:j=i
  ·subst e;rw[hE] at hj';cases hj';rw[qH];exact hvw
  ·rw[hU _ e] at hj';rw[oV _ e];exact(h.vw j u hj').kept fun k e'=>(hfar (j+3) k (by omega) (by omega) ⟨by rw[hj'];exact nofun,e'⟩).1
 ·show ∀ a b k,engF { m with W:=updW m.W i ((m.W i).1,cv,rv) } (setS s.ses i (some ⟨v.P,v.n,chs,rds⟩)) a k->engF { m with W:=updW m.W i ((m.W i).1,cv,rv) } (setS s.ses i (some ⟨v.P,v.n,chs,rds⟩)) b k->a=b;rw[qW];have key:∀ a k,a≠i+3->engF m s.ses a k->¬inVW (m.W i).1 cv rv k:=fun a k ha hk e=>by
   by_cases e2:a=2
   ·subst e2;exact hap k hk e
   ·exact(hfar a k ha e2 hk).2 (.inl e)
  intro a b k ha hb';unfold updF at ha hb';split at ha
  ·split at hb'
   ·rename_i e1 e2;rw[e1,e2]
   ·rename_i e1 e2;exact absurd ha (key b k e2 hb')
  ·split at hb'
   ·rename_i e1 e2;exact absurd hb' (key a k e1 ha)
   ·exact h.ap a b k ha hb'
 ·refine⟨hst.bel,fun k hk hn=>?_⟩;obtain⟨q1,q2⟩:=hst.far k hk fun e=>hn (e.elim (fun e=>⟨i+3,by rw[hvn];exact e⟩) fun e=>⟨2,e⟩);refine⟨q1,?_⟩;rintro⟨a,ha⟩;have ha':engF { m with W:=updW m.W i ((m.W i).1,cv,rv) } (setS s.ses i (some ⟨v.P,v.n,chs,rds⟩)) a k:=ha;rw[qW] at ha';unfold updF at ha';split at ha'
  ·exact q2 (.inl ha')
  ·exact hn ⟨a,ha'⟩
end
def zNR (s:ESt) (m' m:EMem):Prop:=m'.db=m.db/\∀ j,s.ses j≠none->(m'.W j).1=(m.W j).1
def ActE (w w':World) (B:Nat) (m:EMem) (s s':ESt):Prop:=∃ m',EK w' B m' s'/\m'.eb=m.eb/\zNR s m' m/\aG w w' B (allF m s.ses) (allF m' s'.ses)
section
variable {w w' w1:World} {B:Nat} {m m1:EMem} {s s1 s':ESt}
theorem EK.stay (h:EK w B m s) (hb:Below w.heap.size w w'):ActE w w' B m s s:=⟨m,h.on hb,rfl,⟨rfl,fun _ _=>rfl⟩,.on h.blo hb⟩
end
def lO (x:ActL):List Value:=[.string x.kind,.int .i64 x.a,.int .i64 x.b,.int .i64 x.c,.int .u64 x.k,.string x.s,.string x.t,.slice x.ca x.chs.length x.cc,.slice x.sa x.sps.length x.sc]
theorem zNF (x:ActL):(lO x).length=9:=rfl
theorem zHw (x:ActL):∀ u∈lO x,u.oneCell'=true:=by
 intro u hu;simp only[lO,List.mem_cons,List.not_mem_nil,or_false] at hu;rcases hu with rfl|rfl|rfl|rfl|rfl|rfl|rfl|rfl|rfl<;>rfl
def zLN (w:World) (N:Nat) (v:Value) (l:List ActL):Prop:=w.ownsRow N 39 9 v l.length (l.flatMap lO)
def zHb (w:World) (N:Nat) (v:Value) (l:List ByteArray):Prop:=w.ownsRow N 9 1 v l.length (l.map v_)
structure DVal where
 d:jR
 av:Value
 sv:Value
def noV:DVal:=⟨noD,.slice none 0 0,.slice none 0 0⟩
def oF (x:DVal):List Value:=[.int .i64 (x.d.at_:Int),.bool x.d.reads,x.av,x.sv]
def zLP (w:World) (N:Nat) (v:Value) (l:List DVal):Prop:=w.ownsRow N 73 4 v l.length (l.flatMap oF)
def dH (T:Nat->Prop) (pb:Nat) (L:Nat->Prop) (cur:Nat->DVal) (ov:Value):Nat->Nat->Prop
 | 0=>T
 | 1=>fun k=>k=pb
 | 2=>fun k=>ov.ownBlock=some k
 | n+3=>fun k=>n<8/\L (n / 2)/\(if n % 2=0 then (cur (n / 2)).av.ownBlock=some k else (cur (n / 2)).sv.ownBlock=some k)
def qJ (w:World) (N:Nat) (x:DVal):Prop:=zLN w N x.av x.d.acts/\zHb w N x.sv x.d.said
structure PM (w:World) (N pb:Nat) (T:Nat->Prop) (L:Nat->Prop) (cur:Nat->DVal) (ov:Value) (outs:List DVal):Prop where
 cells:∀ i,i<4->w.cell? ⟨pb,i*4,none⟩=some (.int .i64 ((cur i).d.at_:Int))/\w.cell? ⟨pb,i*4+1,none⟩=some (.bool (cur i).d.reads)/\w.cell? ⟨pb,i*4+2,none⟩=some (cur i).av/\w.cell? ⟨pb,i*4+3,none⟩=some (cur i).sv
 soft:∀ j,w.frozen? ⟨pb,j,none⟩=false
 plo:N<=pb
 rows:∀ i,i<4->L i->qJ w N (cur i)
 out:zLP w N ov outs
 kept:∀ x∈outs,qJ w N x
 ap:∀ a b k,dH T pb L cur ov a k->dH T pb L cur ov b k->a=b
 kap:∀ x∈outs,∀ k,(x.av.ownBlock=some k∨x.sv.ownBlock=some k)->∀ a,¬dH T pb L cur ov a k
 tlt:∀ k,T k->k<w.heap.size
 wlo:N<=w.heap.size
theorem gZ {w w':World} {N:Nat} {x:DVal} (h:qJ w N x) (hk:∀ k,(x.av.ownBlock=some k∨x.sv.ownBlock=some k)->w'.heap[k]?=w.heap[k]?):qJ w' N x:=
 ⟨aI h.1 fun k e=>hk k (.inl e),aI h.2 fun k e=>hk k (.inr e)⟩
theorem pW {w:World} {N:Nat} {x:DVal} (h:qJ w N x) {k:Nat} (hk:x.av.ownBlock=some k∨x.sv.ownBlock=some k):N<=k/\k<w.heap.size:=
 hk.elim (fun e=>l_ h.1 k e) fun e=>l_ h.2 k e
section
variable {w w':World} {N pb:Nat} {T T':Nat->Prop} {L:Nat->Prop} {cur:Nat->DVal} {ov:Value} {outs:List DVal}
theorem PM.pblt (h:PM w N pb T L cur ov outs):pb<w.heap.size:=World.block_lt_of_cell? _ _ (h.cells 0 (by decide)).1
theorem PM.lt (h:PM w N pb T L cur ov outs) {a k:Nat} (hk:dH T pb L cur ov a k):k<w.heap.size:=by
 match a,hk with
 | 0,hk=>exact h.tlt k hk
 | 1,hk=>have e:k=pb:=hk;rw[e];exact h.pblt
 | 2,hk=>exact(l_ h.out k hk).2
 | n+3,⟨h1,h2,h3⟩=>
  have hr:=h.rows (n / 2) (by omega) h2;split at h3
  ·exact(pW hr (.inl h3)).2
  ·exact(pW hr (.inr h3)).2
theorem fP {i k:Nat} (hi:i<4) (hL:L i) (hk:(cur i).av.ownBlock=some k):dH T pb L cur ov (2*i+3) k:=by
 have e1:2*i / 2=i:=by omega
 have e2:2*i % 2=0:=by omega
 show 2*i<8/\L (2*i / 2)/\_;rw[e1,e2];exact⟨by omega,hL,hk⟩
theorem gH {i k:Nat} (hi:i<4) (hL:L i) (hk:(cur i).sv.ownBlock=some k):dH T pb L cur ov (2*i+1+3) k:=by
 have e1:(2*i+1) / 2=i:=by omega
 have e2:(2*i+1) % 2=1:=by omega
 show 2*i+1<8/\L ((2*i+1) / 2)/\_;rw[e1,e2];exact⟨by omega,hL,hk⟩
theorem zDS {n k:Nat} (h:dH T pb L cur ov (n+3) k):n<8/\L (n / 2)/\((n=2*(n / 2)/\(cur (n / 2)).av.ownBlock=some k)∨(n=2*(n / 2)+1/\(cur (n / 2)).sv.ownBlock=some k)):=by
 obtain⟨h1,h2,h3⟩:=h;refine⟨h1,h2,?_⟩;split at h3
 ·exact .inl ⟨by omega,h3⟩
 ·exact .inr ⟨by omega,h3⟩
theorem PM.part (h:PM w N pb T L cur ov outs) {B:Nat} {S S':Nat->Prop} (hst:aG w w' B S S') (hS:∀ k,S k->T k) (hT:∀ k,T' k->T k/\¬S k∨S' k) (hlt:∀ k,S' k->k<w'.heap.size):PM w' N pb T' L cur ov outs:=by
 have hb:=hst.bel;have far:∀ k,k<w.heap.size->¬T k->w'.heap[k]?=w.heap[k]?/\¬T' k:=fun k hk hn=>by
  obtain⟨a,b⟩:=hst.far k hk fun e=>hn (hS k e);exact⟨a,fun e=>(hT k e).elim (fun e=>hn e.1) b⟩
 have oth:∀ a k,a≠0->dH T pb L cur ov a k->w'.heap[k]?=w.heap[k]?/\¬T' k:=fun a k ha hk=>far k (h.lt hk) fun e=>ha (h.ap a 0 k hk e);have hpb:=(oth 1 pb (by decide) rfl).1;have same:∀ a k,a≠0->dH T' pb L cur ov a k->dH T pb L cur ov a k:=fun a k ha hk=>by
  match a,ha,hk with
  | 1,_,hk=>exact hk
  | 2,_,hk=>exact hk
  | n+3,_,hk=>exact hk
 exact {
  cells:=fun i hi=>⟨(b_ (w:=w) hpb).trans (h.cells i hi).1,(b_ (w:=w) hpb).trans (h.cells i hi).2.1,(b_ (w:=w) hpb).trans (h.cells i hi).2.2.1,(b_ (w:=w) hpb).trans (h.cells i hi).2.2.2⟩
  soft:=fun j=>(World.frozen?_of_block (w:=w) hpb).trans (h.soft j)
  plo:=h.plo
  rows:=fun i hi hL=>gZ (h.rows i hi hL) fun k e=>e.elim (fun e=>(oth (2*i+3) k (by omega) (fP hi hL e)).1) fun e=>(oth (2*i+1+3) k (by omega) (gH hi hL e)).1
  out:=aI h.out fun k e=>(oth 2 k (by decide) e).1
  kept:=fun x hx=>gZ (h.kept x hx) fun k e=>(far k (pW (h.kept x hx) e).2 (h.kap x hx k e 0)).1
  ap:=fun a b k ha hb'=>by
   by_cases e1:a=0
   ·by_cases e2:b=0
    ·omega
    ·subst e1;exact absurd ha (oth b k e2 (same b k e2 hb')).2
   ·by_cases e2:b=0
    ·subst e2;exact absurd hb' (oth a k e1 (same a k e1 ha)).2
    ·exact h.ap a b k (same a k e1 ha) (same b k e2 hb')
  kap:=fun x hx k hk a ha=>by
   by_cases e1:a=0
   ·subst e1;exact(far k (pW (h.kept x hx) hk).2 (h.kap x hx k hk 0)).2 ha
   ·exact h.kap x hx k hk a (same a k e1 ha)
  tlt:=fun k hk=>(hT k hk).elim (fun e=>Nat.lt_of_lt_of_le (h.tlt k e.1) hb.size) fun e=>hlt k e
  wlo:=Nat.le_trans h.wlo hb.size }
theorem PM.engine (h:PM w N pb T L cur ov outs) {B:Nat} (hst:aG w w' B T T') (hlt:∀ k,T' k->k<w'.heap.size):PM w' N pb T' L cur ov outs:=h.part hst (fun _ e=>e) (fun _ e=>.inr e) hlt
theorem PM.on (h:PM w N pb T L cur ov outs) (hb:Below w.heap.size w w'):PM w' N pb T L cur ov outs:=h.engine (.on h.wlo hb) fun k e=>Nat.lt_of_lt_of_le (h.tlt k e) hb.size
theorem PM.less (h:PM w N pb T L cur ov outs) {L':Nat->Prop} (hL:∀ i,L' i->L i):PM w N pb T L' cur ov outs:=by
 have same:∀ a k,dH T pb L' cur ov a k->dH T pb L cur ov a k:=fun a k hk=>by
  match a,hk with
  | 0,hk=>exact hk
  | 1,hk=>exact hk
  | 2,hk=>exact hk
  | n+3,⟨h1,h2,h3⟩=>exact⟨h1,hL _ h2,h3⟩
 exact { h with
  rows:=fun i hi hl=>h.rows i hi (hL i hl)
  ap:=fun a b k ha hb=>h.ap a b k (same a k ha) (same b k hb)
  kap:=fun x hx k hk a ha=>h.kap x hx k hk a (same a k ha) }
end
def setV (f:Nat->DVal) (i:Nat) (d:DVal):Nat->DVal:=fun j=>if j=i then d else f j
theorem cJ (f:Nat->DVal) (i:Nat) (d:DVal):setV f i d i=d:=if_pos rfl
theorem dV {f:Nat->DVal} {i j:Nat} (d:DVal) (h:j≠i):setV f i d j=f j:=if_neg h
section
variable {w w1 w':World} {N pb:Nat} {T:Nat->Prop} {L L':Nat->Prop} {cur:Nat->DVal} {ov ov':Value} {outs outs':List DVal}
theorem PM.write (h:PM w N pb T L cur ov outs) {i:Nat} {y:DVal} (hi:i<4)
  (hk:∀ k,k≠pb->w'.heap[k]?=w.heap[k]?) (hsz:w.heap.size<=w'.heap.size)
  (hc:∀ j,j≠i->j<4->∀ o,o<4->w'.cell? ⟨pb,j*4+o,none⟩=w.cell? ⟨pb,j*4+o,none⟩)
  (hy:w'.cell? ⟨pb,i*4,none⟩=some (.int .i64 (y.d.at_:Int))/\w'.cell? ⟨pb,i*4+1,none⟩=some (.bool y.d.reads)/\w'.cell? ⟨pb,i*4+2,none⟩=some y.av/\w'.cell? ⟨pb,i*4+3,none⟩=some y.sv)
  (hs:∀ j,w'.frozen? ⟨pb,j,none⟩=false)
  (hL:∀ j,j≠i->L' j->L j)
  (hr:L' i->(y.av=(cur i).av/\y.sv=(cur i).sv/\y.d.acts=(cur i).d.acts/\y.d.said=(cur i).d.said/\L i)∨(y.av=.slice none 0 0/\y.sv=.slice none 0 0/\y.d.acts=[]/\y.d.said=[])):
  PM w' N pb T L' (setV cur i y) ov outs:=by
 have same:∀ a k,dH T pb L' (setV cur i y) ov a k->dH T pb L cur ov a k:=fun a k hk=>by
  match a,hk with
  | 0,hk=>exact hk
  | 1,hk=>exact hk
  | 2,hk=>exact hk
  | n+3,⟨h1,h2,h3⟩=>
   by_cases e:n / 2=i
   ·rw[e,cJ] at h3;rw[e] at h2;rcases hr h2 with⟨q1,q2,_,_,q5⟩|⟨q1,q2,_⟩
    ·rw[q1,q2,<-e] at h3;exact⟨h1,by rw[e];exact q5,h3⟩
    ·rw[q1,q2] at h3;split at h3<;>cases h3
   ·rw[dV _ e] at h3;exact⟨h1,hL _ e h2,h3⟩
 have ne:∀ a k,a≠1->dH T pb L cur ov a k->k≠pb:=fun a k ha hk e=>ha (h.ap a 1 k hk e);have nk:∀ x∈outs,∀ k,(x.av.ownBlock=some k∨x.sv.ownBlock=some k)->k≠pb:=fun x hx k e e2=>h.kap x hx k e 1 e2;exact {
  cells:=fun j hj=>by
   by_cases e:j=i
   ·subst e;rw[cJ];exact hy
   ·rw[dV _ e];obtain⟨q0,q1,q2,q3⟩:=h.cells j hj;have z:=hc j e hj 0 (by decide);rw[Nat.add_zero] at z;exact⟨z.trans q0,(hc j e hj 1 (by decide)).trans q1,(hc j e hj 2 (by decide)).trans q2,(hc j e hj 3 (by decide)).trans q3⟩
  soft:=hs
  plo:=h.plo
  rows:=fun j hj hl=>by
   by_cases e:j=i
   ·subst e;rw[cJ];rcases hr hl with⟨q1,q2,q3,q4,q5⟩|⟨q1,q2,q3,q4⟩
    ·have:=gZ (w':=w') (h.rows j hj q5) fun k e=>hk k (e.elim (fun e=>ne _ k (by omega) (fP hj q5 e)) fun e=>ne _ k (by omega) (gH hj q5 e));unfold qJ at this ⊢;rw[q1,q2,q3,q4];exact this
    ·unfold qJ;rw[q1,q2,q3,q4];exact⟨World.ownsRow_nil _ _ _ _,World.ownsRow_nil _ _ _ _⟩
   ·rw[dV _ e];have hl':=hL j e hl;exact gZ (h.rows j hj hl') fun k e=>hk k (e.elim (fun e=>ne _ k (by omega) (fP hj hl' e)) fun e=>ne _ k (by omega) (gH hj hl' e))
  out:=aI h.out fun k e=>hk k (ne 2 k (by decide) e)
  kept:=fun x hx=>gZ (h.kept x hx) fun k e=>hk k (nk x hx k e)
  ap:=fun a b k ha hb=>h.ap a b k (same a k ha) (same b k hb)
  kap:=fun x hx k e a ha=>h.kap x hx k e a (same a k ha)
  tlt:=fun k e=>Nat.lt_of_lt_of_le (h.tlt k e) hsz
  wlo:=Nat.le_trans h.wlo hsz }
structure jI (w w1:World) (v:Value) (g:Nat):Prop where
 grow:w.grownBy w1 v.ownBlock
 at_:v.ownBlock=some g∨g=w.heap.size
theorem jI.far {v:Value} {g:Nat} (h:jI w w1 v g) {k:Nat} (hk:k<w.heap.size) (hn:v.ownBlock≠some k):w1.heap[k]?=w.heap[k]?/\k≠g:=by
 refine⟨h.grow.block k hk fun e=>hn e.symm,fun e=>?_⟩;rcases h.at_ with e2|e2
 ·exact hn (by rw[e2,e])
 ·omega
structure PX {w:World} (w1:World) (N pb:Nat) (T:Nat->Prop) (L:Nat->Prop) (cur:Nat->DVal) (ov:Value) (outs:List DVal) (a g:Nat):Prop where
 cells:∀ i,i<4->w1.cell? ⟨pb,i*4,none⟩=some (.int .i64 ((cur i).d.at_:Int))/\w1.cell? ⟨pb,i*4+1,none⟩=some (.bool (cur i).d.reads)/\w1.cell? ⟨pb,i*4+2,none⟩=some (cur i).av/\w1.cell? ⟨pb,i*4+3,none⟩=some (cur i).sv
 soft:∀ j,w1.frozen? ⟨pb,j,none⟩=false
 avs:∀ i,i<4->L i->2*i+3≠a->zLN w1 N (cur i).av (cur i).d.acts
 svs:∀ i,i<4->L i->2*i+1+3≠a->zHb w1 N (cur i).sv (cur i).d.said
 out:2≠a->zLP w1 N ov outs
 kept:∀ x∈outs,qJ w1 N x
 gF:∀ b k,b≠a->dH T pb L cur ov b k->k≠g
 gK:∀ x∈outs,∀ k,(x.av.ownBlock=some k∨x.sv.ownBlock=some k)->k≠g
 size:w.heap.size<=w1.heap.size
theorem PM.grown (h:PM w N pb T L cur ov outs) {a g:Nat} {v:Value} (ha:a≠1) (hv:∀ k,v.ownBlock=some k->dH T pb L cur ov a k) (hg:jI w w1 v g):PX (w:=w) w1 N pb T L cur ov outs a g:=by
 have far:∀ b k,b≠a->dH T pb L cur ov b k->w1.heap[k]?=w.heap[k]?/\k≠g:=fun b k hb hk=>hg.far (h.lt hk) fun e=>hb (h.ap b a k hk (hv k e));have farK:∀ x∈outs,∀ k,(x.av.ownBlock=some k∨x.sv.ownBlock=some k)->w1.heap[k]?=w.heap[k]?/\k≠g:=fun x hx k e=>hg.far (pW (h.kept x hx) e).2 fun e2=>h.kap x hx k e a (hv k e2);have hpb:=(far 1 pb (Ne.symm ha) rfl).1;exact {
  cells:=fun i hi=>⟨(b_ (w:=w) hpb).trans (h.cells i hi).1,(b_ (w:=w) hpb).trans (h.cells i hi).2.1,(b_ (w:=w) hpb).trans (h.cells i hi).2.2.1,(b_ (w:=w) hpb).trans (h.cells i hi).2.2.2⟩
  soft:=fun j=>(World.frozen?_of_block (w:=w) hpb).trans (h.soft j)
  avs:=fun i hi hL hne=>aI (h.rows i hi hL).1 fun k e=>(far _ k hne (fP hi hL e)).1
  svs:=fun i hi hL hne=>aI (h.rows i hi hL).2 fun k e=>(far _ k hne (gH hi hL e)).1
  out:=fun hne=>aI h.out fun k e=>(far 2 k hne e).1
  kept:=fun x hx=>gZ (h.kept x hx) fun k e=>(farK x hx k e).1
  gF:=fun b k hb hk=>(far b k hb hk).2
  gK:=fun x hx k e=>(farK x hx k e).2
  size:=hg.grow.size }
theorem PM.pushA (h:PM w N pb T L cur ov outs) {i g cap:Nat} {x:ActL} (hi:i<4) (hL:L i) (hg:jI w w1 (cur i).av g)
  (ho:w1.ownsRow N 39 9 (.slice (some ⟨g,0,none⟩) ((cur i).d.acts.length+1) cap) ((cur i).d.acts.length+1) ((cur i).d.acts.flatMap lO++lO x)):
  PM (w1.setCell ⟨pb,i*4+2,none⟩ (.slice (some ⟨g,0,none⟩) ((cur i).d.acts.length+1) cap)) N pb T L (setV cur i ⟨{ (cur i).d with acts:=(cur i).d.acts++[x] },.slice (some ⟨g,0,none⟩) ((cur i).d.acts.length+1) cap,(cur i).sv⟩) ov outs:=by
 have hx:=h.grown (a:=2*i+3) (by omega) (fun k e=>fP hi hL e) hg;generalize hu:(Value.slice (some ⟨g,0,none⟩) ((cur i).d.acts.length+1) cap)=u at *;have hub:∀ k,u.ownBlock=some k->k=g:=fun k e=>by rw[<-hu] at e;simpa[Value.ownBlock] using e.symm
 have hs:∀ k,k≠pb->(w1.setCell ⟨pb,i*4+2,none⟩ u).heap[k]?=w1.heap[k]?:=fun k hk=>h_ _ _ _ _ hk;have hgp:g≠pb:=fun e=>hx.gF 1 pb (by omega) rfl e.symm;have ne:∀ a k,a≠1->dH T pb L cur ov a k->k≠pb:=fun a k ha hk e=>ha (h.ap a 1 k hk e);have cls:∀ b k,dH T pb L (setV cur i ⟨{ (cur i).d with acts:=(cur i).d.acts++[x] },u,(cur i).sv⟩) ov b k->(b=2*i+3/\k=g)∨(b≠2*i+3/\dH T pb L cur ov b k):=fun b k hk=>by
  match b,hk with
  | 0,hk=>exact .inr ⟨by omega,hk⟩
  | 1,hk=>exact .inr ⟨by omega,hk⟩
  | 2,hk=>exact .inr ⟨by omega,hk⟩
  | n+3,hk=>
   obtain⟨h1,h2,h3⟩:=zDS hk;by_cases e:n / 2=i
   ·rw[e,cJ] at h3;rcases h3 with⟨e1,e2⟩|⟨e1,e2⟩
    ·exact .inl ⟨by omega,hub k e2⟩
    ·refine .inr ⟨by omega,?_⟩;rw[e1];exact gH hi hL e2
   ·refine .inr ⟨by omega,?_⟩;obtain⟨q1,q2,q3⟩:=hk;rw[dV _ e] at q3;exact⟨q1,q2,q3⟩
 exact {
  cells:=fun j hj=>by
   by_cases e:j=i
   ·subst e;rw[cJ];obtain⟨q0,q1,q2,q3⟩:=hx.cells j hj;exact⟨(t_ _ _ _ _ (by simp)).trans q0,(t_ _ _ _ _ (by simp)).trans q1,u_ _ _ _ q2,(t_ _ _ _ _ (by simp)).trans q3⟩
   ·rw[dV _ e];obtain⟨q0,q1,q2,q3⟩:=hx.cells j hj;exact⟨(t_ _ _ _ _ (by simp<;>omega)).trans q0,(t_ _ _ _ _ (by simp<;>omega)).trans q1,(t_ _ _ _ _ (by simp<;>omega)).trans q2,(t_ _ _ _ _ (by simp<;>omega)).trans q3⟩
  soft:=fun j=>by rw[World.frozen?_setCell];exact hx.soft j
  plo:=h.plo
  rows:=fun j hj hl=>by
   by_cases e:j=i
   ·subst e;rw[cJ];refine⟨?_,aI (hx.svs j hj hl (by omega)) fun k e=>hs k (ne _ k (by omega) (gH hj hl e))⟩;show World.ownsRow _ N _ 9 u ((cur j).d.acts++[x]).length (((cur j).d.acts++[x]).flatMap lO);rw[List.length_append,List.flatMap_append,List.flatMap_cons,List.flatMap_nil,List.append_nil];exact aI ho fun k e=>hs k (by rw[hub k e];exact hgp)
   ·rw[dV _ e];exact⟨aI (hx.avs j hj hl (by omega)) fun k e=>hs k (ne _ k (by omega) (fP hj hl e)),aI (hx.svs j hj hl (by omega)) fun k e=>hs k (ne _ k (by omega) (gH hj hl e))⟩
  out:=aI (hx.out (by omega)) fun k e=>hs k (ne 2 k (by decide) e)
  kept:=fun y hy=>gZ (hx.kept y hy) fun k e=>hs k fun e2=>h.kap y hy k e 1 e2
  ap:=fun b c k hb hc=>by
   rcases cls b k hb with⟨b1,b2⟩|⟨b1,b2⟩<;>rcases cls c k hc with⟨c1,c2⟩|⟨c1,c2⟩
   ·omega
   ·exact absurd b2 (hx.gF c k c1 c2)
   ·exact absurd c2 (hx.gF b k b1 b2)
   ·exact h.ap b c k b2 c2
  kap:=fun y hy k e b hb=>by
   rcases cls b k hb with⟨b1,b2⟩|⟨b1,b2⟩
   ·exact hx.gK y hy k e b2
   ·exact h.kap y hy k e b b2
  tlt:=fun k e=>by have:=h.tlt k e;have:=hx.size;simp;omega
  wlo:=by have:=h.wlo;have:=hx.size;simp;omega }
theorem PM.pushS (h:PM w N pb T L cur ov outs) {i g cap:Nat} {x:ByteArray} (hi:i<4) (hL:L i) (hg:jI w w1 (cur i).sv g)
  (ho:w1.ownsRow N 9 1 (.slice (some ⟨g,0,none⟩) ((cur i).d.said.length+1) cap) ((cur i).d.said.length+1) ((cur i).d.said.map v_++[.string x])):
  PM (w1.setCell ⟨pb,i*4+3,none⟩ (.slice (some ⟨g,0,none⟩) ((cur i).d.said.length+1) cap)) N pb T L (setV cur i ⟨{ (cur i).d with said:=(cur i).d.said++[x] },(cur i).av,.slice (some ⟨g,0,none⟩) ((cur i).d.said.length+1) cap⟩) ov outs:=by
 have hx:=h.grown (a:=2*i+1+3) (by omega) (fun k e=>gH hi hL e) hg;generalize hu:(Value.slice (some ⟨g,0,none⟩) ((cur i).d.said.length+1) cap)=u at *;have hub:∀ k,u.ownBlock=some k->k=g:=fun k e=>by rw[<-hu] at e;simpa[Value.ownBlock] using e.symm
 have hs:∀ k,k≠pb->(w1.setCell ⟨pb,i*4+3,none⟩ u).heap[k]?=w1.heap[k]?:=fun k hk=>h_ _ _ _ _ hk;have hgp:g≠pb:=fun e=>hx.gF 1 pb (by omega) rfl e.symm;have ne:∀ a k,a≠1->dH T pb L cur ov a k->k≠pb:=fun a k ha hk e=>ha (h.ap a 1 k hk e);have cls:∀ b k,dH T pb L (setV cur i ⟨{ (cur i).d with said:=(cur i).d.said++[x] },(cur i).av,u⟩) ov b k->(b=2*i+1+3/\k=g)∨(b≠2*i+1+3/\dH T pb L cur ov b k):=fun b k hk=>by
  match b,hk with
  | 0,hk=>exact .inr ⟨by omega,hk⟩
  | 1,hk=>exact .inr ⟨by omega,hk⟩
  | 2,hk=>exact .inr ⟨by omega,hk⟩
  | n+3,hk=>
   obtain⟨h1,h2,h3⟩:=zDS hk;by_cases e:n / 2=i
   ·rw[e,cJ] at h3;rcases h3 with⟨e1,e2⟩|⟨e1,e2⟩
    ·refine .inr ⟨by omega,?_⟩;rw[e1];exact fP hi hL e2
    ·exact .inl ⟨by omega,hub k e2⟩
   ·refine .inr ⟨by omega,?_⟩;obtain⟨q1,q2,q3⟩:=hk;rw[dV _ e] at q3;exact⟨q1,q2,q3⟩
 exact {
  cells:=fun j hj=>by
   by_cases e:j=i
   ·subst e;rw[cJ];obtain⟨q0,q1,q2,q3⟩:=hx.cells j hj;exact⟨(t_ _ _ _ _ (by simp)).trans q0,(t_ _ _ _ _ (by simp)).trans q1,(t_ _ _ _ _ (by simp)).trans q2,u_ _ _ _ q3⟩
   ·rw[dV _ e];obtain⟨q0,q1,q2,q3⟩:=hx.cells j hj;exact⟨(t_ _ _ _ _ (by simp<;>omega)).trans q0,(t_ _ _ _ _ (by simp<;>omega)).trans q1,(t_ _ _ _ _ (by simp<;>omega)).trans q2,(t_ _ _ _ _ (by simp<;>omega)).trans q3⟩
  soft:=fun j=>by rw[World.frozen?_setCell];exact hx.soft j
  plo:=h.plo
  rows:=fun j hj hl=>by
   by_cases e:j=i
   ·subst e;rw[cJ];refine⟨aI (hx.avs j hj hl (by omega)) fun k e=>hs k (ne _ k (by omega) (fP hj hl e)),?_⟩;show World.ownsRow _ N _ 1 u ((cur j).d.said++[x]).length (((cur j).d.said++[x]).map v_);rw[List.length_append,List.map_append];exact aI ho fun k e=>hs k (by rw[hub k e];exact hgp)
   ·rw[dV _ e];exact⟨aI (hx.avs j hj hl (by omega)) fun k e=>hs k (ne _ k (by omega) (fP hj hl e)),aI (hx.svs j hj hl (by omega)) fun k e=>hs k (ne _ k (by omega) (gH hj hl e))⟩
  out:=aI (hx.out (by omega)) fun k e=>hs k (ne 2 k (by decide) e)
  kept:=fun y hy=>gZ (hx.kept y hy) fun k e=>hs k fun e2=>h.kap y hy k e 1 e2
  ap:=fun b c k hb hc=>by
   rcases cls b k hb with⟨b1,b2⟩|⟨b1,b2⟩<;>rcases cls c k hc with⟨c1,c2⟩|⟨c1,c2⟩
   ·omega
   ·exact absurd b2 (hx.gF c k c1 c2)
   ·exact absurd c2 (hx.gF b k b1 b2)
   ·exact h.ap b c k b2 c2
  kap:=fun y hy k e b hb=>by
   rcases cls b k hb with⟨b1,b2⟩|⟨b1,b2⟩
   ·exact hx.gK y hy k e b2
   ·exact h.kap y hy k e b b2
  tlt:=fun k e=>by have:=h.tlt k e;have:=hx.size;simp;omega
  wlo:=by have:=h.wlo;have:=hx.size;simp;omega }
theorem PM.told (h:PM w N pb T L cur ov outs) {i g cap:Nat} (hi:i<4) (hL:L i) (hg:jI w w1 ov g) (hL':∀ j,L' j->L j/\j≠i)
  (ho:w1.ownsRow N 73 4 (.slice (some ⟨g,0,none⟩) (outs.length+1) cap) (outs.length+1) (outs.flatMap oF++oF (cur i))):
  PM w1 N pb T L' cur (.slice (some ⟨g,0,none⟩) (outs.length+1) cap) (outs++[cur i]):=by
 have hx:=h.grown (a:=2) (by omega) (fun k e=>e) hg;generalize hu:(Value.slice (some ⟨g,0,none⟩) (outs.length+1) cap)=u at *;have hub:∀ k,u.ownBlock=some k->k=g:=fun k e=>by rw[<-hu] at e;simpa[Value.ownBlock] using e.symm
 have cls:∀ b k,dH T pb L' cur u b k->(b=2/\k=g)∨(b≠2/\dH T pb L cur ov b k/\∀ k',((cur i).av.ownBlock=some k'∨(cur i).sv.ownBlock=some k')->k'≠k):=fun b k hk=>by
  have key:∀ b,b≠2*i+3->b≠2*i+1+3->dH T pb L cur ov b k->∀ k',((cur i).av.ownBlock=some k'∨(cur i).sv.ownBlock=some k')->k'≠k:=fun b h1 h2 hb k' e e2=>by
   subst e2;rcases e with e|e
   ·exact h1 (h.ap b (2*i+3) k' hb (fP hi hL e))
   ·exact h2 (h.ap b (2*i+1+3) k' hb (gH hi hL e))
  match b,hk with
  | 0,hk=>exact .inr ⟨by omega,hk,key 0 (by omega) (by omega) hk⟩
  | 1,hk=>exact .inr ⟨by omega,hk,key 1 (by omega) (by omega) hk⟩
  | 2,hk=>exact .inl ⟨rfl,hub k hk⟩
  | n+3,⟨q1,q2,q3⟩=>
   have hb:dH T pb L cur ov (n+3) k:=⟨q1,(hL' _ q2).1,q3⟩;have:=(hL' _ q2).2;exact .inr ⟨by omega,hb,key (n+3) (by omega) (by omega) hb⟩
 have hgi:∀ k,((cur i).av.ownBlock=some k∨(cur i).sv.ownBlock=some k)->k≠g:=fun k e=>e.elim (fun e=>hx.gF _ k (by omega) (fP hi hL e)) fun e=>hx.gF _ k (by omega) (gH hi hL e);exact {
  cells:=hx.cells
  soft:=hx.soft
  plo:=h.plo
  rows:=fun j hj hl=>⟨hx.avs j hj (hL' j hl).1 (by omega),hx.svs j hj (hL' j hl).1 (by omega)⟩
  out:=by
   show World.ownsRow _ N _ 4 u (outs++[cur i]).length ((outs++[cur i]).flatMap oF);rw[List.length_append,List.flatMap_append,List.flatMap_cons,List.flatMap_nil,List.append_nil];exact ho
  kept:=fun y hy=>by
   rcases List.mem_append.1 hy with hy|hy
   ·exact hx.kept y hy
   ·rw[List.mem_singleton.1 hy];exact⟨hx.avs i hi hL (by omega),hx.svs i hi hL (by omega)⟩
  ap:=fun b c k hb hc=>by
   rcases cls b k hb with⟨b1,b2⟩|⟨b1,b2,_⟩<;>rcases cls c k hc with⟨c1,c2⟩|⟨c1,c2,_⟩
   ·omega
   ·exact absurd b2 (hx.gF c k c1 c2)
   ·exact absurd c2 (hx.gF b k b1 b2)
   ·exact h.ap b c k b2 c2
  kap:=fun y hy k e b hb=>by
   rcases List.mem_append.1 hy with hy|hy
   ·rcases cls b k hb with⟨b1,b2⟩|⟨b1,b2,_⟩
    ·exact hx.gK y hy k e b2
    ·exact h.kap y hy k e b b2
   ·rw[List.mem_singleton.1 hy] at e;rcases cls b k hb with⟨b1,b2⟩|⟨b1,b2,b3⟩
    ·exact hgi k e b2
    ·exact b3 k e rfl
  tlt:=fun k e=>by have:=h.tlt k e;have:=hx.size;omega
  wlo:=by have:=h.wlo;have:=hx.size;omega }
end
def zDv (m0:EMem) (f:Nat->Option VwL) (m:EMem):Prop:=m.db=m0.db/\∀ j,m0.Q j->f j≠none/\(m.W j).1=(m0.W j).1
theorem zDv.act {m0 m m':EMem} {s s':ESt} (h:zDv m0 s.ses m) (k:zNR s m' m) (hq:∀ j,m0.Q j->s.ses j≠none->s'.ses j≠none):zDv m0 s'.ses m':=⟨k.1.trans h.1,fun j hj=>⟨hq j hj (h.2 j hj).1,(k.2 j (h.2 j hj).1).trans (h.2 j hj).2⟩⟩
structure dP (w0 wr:World) (B:Nat) (m0:EMem) (s0:ESt) (pb:Nat) (ov:Value) (p:PSt) (m:EMem) (cur:Nat->DVal) (outs:List DVal):Prop where
 ek:EK wr B m p.e
 eb:m.eb=m0.eb
 db:zDv m0 p.e.ses m
 st:aG w0 wr B (allF m0 s0.ses) (allF m p.e.ses)
 pm:PM wr w0.heap.size pb (allF m p.e.ses) (fun i=>p.e.ses i≠none) cur ov outs
 cd:∀ i,i<4->(cur i).d=p.cur i
 od:outs.map (·.d)=p.out
 lo:B<=w0.heap.size
section
variable {w0 wr w':World} {B:Nat} {m0 m m':EMem} {s0 s':ESt} {pb:Nat} {ov ov':Value} {p p':PSt} {cur cur':Nat->DVal} {outs outs':List DVal}
theorem dP.on (h:dP w0 wr B m0 s0 pb ov p m cur outs) (hb:Below wr.heap.size wr w'):dP w0 w' B m0 s0 pb ov p m cur outs:=
 { h with ek:=h.ek.on hb,st:=h.st.trans (.on h.ek.blo hb),pm:=h.pm.on hb }
theorem dP.eng (h:dP w0 wr B m0 s0 pb ov p m cur outs) (ha:ActE wr w' B m p.e s') (hl:∀ i,s'.ses i≠none->p.e.ses i≠none) (hq:∀ j,m0.Q j->p.e.ses j≠none->s'.ses j≠none):
  ∃ m',dP w0 w' B m0 s0 pb ov { p with e:=s' } m' cur outs/\aG wr w' B (allF m p.e.ses) (allF m' s'.ses):=by
 obtain⟨m',k1,k2,k3,k4⟩:=ha;have hpm:=h.pm.engine k4 fun k ⟨_,e⟩=>k1.lt e;exact⟨m',⟨k1,k2.trans h.eb,h.db.act k3 hq,h.st.trans k4,hpm.less hl,h.cd,h.od,h.lo⟩,k4⟩
theorem dP.own (h:dP w0 wr B m0 s0 pb ov p m cur outs) (he:p'.e=p.e) (hb:Below w0.heap.size wr w') (hT:∀ k,allF m p.e.ses k->w'.heap[k]?=wr.heap[k]?)
  (hpm:PM w' w0.heap.size pb (allF m p.e.ses) (fun i=>p.e.ses i≠none) cur' ov' outs') (hc:∀ i,i<4->(cur' i).d=p'.cur i) (ho:outs'.map (·.d)=p'.out):dP w0 w' B m0 s0 pb ov' p' m cur' outs' where
 ek:=by rw[he];exact h.ek.kept hb.size hT
 eb:=h.eb
 db:=by rw[he];exact h.db
 st:=by
  rw[he];refine⟨h.st.bel.trans (hb.mono h.lo),fun j hj hn=>?_⟩;obtain⟨a,b⟩:=h.st.far j hj hn;exact⟨(hb.block j hj).trans a,b⟩
 pm:=by rw[he];exact hpm
 cd:=hc
 od:=ho
 lo:=h.lo
end
end
end Go.Proofs.YtnboipekkahmnaaGreatDoor
