import Derived.Test.YtnboipekkahmnaaGreatDoorT17
set_option maxHeartbeats 8000000
set_option maxRecDepth 100000
namespace Go.Proofs.YtnboipekkahmnaaGreatDoor
section
open Go.RowKit Go.Joins
structure EMem where
 eb:Nat
 sb:Nat
 db:Nat
 vb:Nat
 mb:Nat
 many:Nat
 D:DataW Value
 g:ByteArray->Value
 hv:Value
 dv:List (aU×Value)
 W:Nat->Nat×Value×Value
 Ts:Nat->Prop
 Q:Nat->Prop
def sesV (m:EMem) (f:Nat->Option VwL) (i:Nat):Value:=match f i with
 | none=>.pointer none
 | some _=>.pointer (some ⟨(m.W i).1,0,none⟩)
def engX (m:EMem) (f:Nat->Option VwL):Nat->Option Value:=fun j=>
 if j=0 then some (.pointer (some ⟨m.sb,0,none⟩)) else if j=1 then some (.pointer (some ⟨m.vb,0,none⟩)) else if 3<=j/\j<7 then some (sesV m f (j-3)) else none
def engF (m:EMem) (f:Nat->Option VwL):Nat->Nat->Prop
 | 0=>inH m.eb m.hv m.dv
 | 1=>m.Ts
 | 2=>inVS m.vb m.mb m.g
 | i+3=>fun k=>f i≠none/\inVW (m.W i).1 (m.W i).2.1 (m.W i).2.2 k
def allF (m:EMem) (f:Nat->Option VwL) (k:Nat):Prop:=∃ i,engF m f i k
structure EK (w:World) (B:Nat) (m:EMem) (s:ESt):Prop where
 hi:bP w B m.eb (engX m s.ses) m.hv m.dv
 sa:SA w B m.sb m.db m.Ts s.x
 vs:VS w B m.vb m.mb s.now m.many m.D m.g s.R
 vw:∀ i v,s.ses i=some v->VW w B (m.W i).1 m.vb v.n (m.W i).2.1 (m.W i).2.2 v.chs v.rds
 ds:ofDV m.dv=s.ds
 ap:∀ i j k,engF m s.ses i k->engF m s.ses j k->i=j
 mn:m.many<=2000*(s.c+1)
 s4:S4 s
def updF (F:Nat->Nat->Prop) (a:Nat) (S:Nat->Prop):Nat->Nat->Prop:=fun i=>if i=a then S else F i
theorem wZ {F:Nat->Nat->Prop} {w w':World} {a:Nat} {S':Nat->Prop} (hap:∀ i j k,F i k->F j k->i=j) (hlt:∀ i k,F i k->k<w.heap.size) (hfar:∀ k,k<w.heap.size->¬F a k->w'.heap[k]?=w.heap[k]?/\¬S' k):
  (∀ i j k,updF F a S' i k->updF F a S' j k->i=j)/\(∀ i k,i≠a->F i k->w'.heap[k]?=w.heap[k]?):=by
 have hf:∀ i k,i≠a->F i k->w'.heap[k]?=w.heap[k]?/\¬S' k:=fun i k hi hk=>hfar k (hlt i k hk) fun e=>hi (hap i a k hk e);refine⟨fun i j k hi hj=>?_,fun i k hi hk=>(hf i k hi hk).1⟩;unfold updF at hi hj;split at hi
 ·split at hj
  ·rename_i e1 e2;rw[e1,e2]
  ·rename_i e1 e2;exact absurd hi (hf j k e2 hj).2
 ·split at hj
  ·rename_i e1 e2;exact absurd hj (hf i k e1 hi).2
  ·exact hap i j k hi hj
theorem zAm {F:Nat->Nat->Prop} {w w':World} {B a:Nat} {S':Nat->Prop} (hb:Below B w w') (hfar:∀ k,k<w.heap.size->¬F a k->w'.heap[k]?=w.heap[k]?/\¬S' k):
  aG w w' B (fun k=>∃ i,F i k) (fun k=>∃ i,updF F a S' i k):=⟨hb,fun k hk hn=>by
 obtain⟨h1,h2⟩:=hfar k hk fun e=>hn ⟨a,e⟩;refine⟨h1,fun ⟨i,hi⟩=>?_⟩;unfold updF at hi;split at hi
 ·exact h2 hi
 ·exact hn ⟨i,hi⟩⟩
section
variable {w w':World} {B:Nat} {m:EMem} {s:ESt}
theorem EK.lt (h:EK w B m s) {i k:Nat} (hk:engF m s.ses i k):k<w.heap.size:=by
 match i,hk with
 | 0,hk=>exact zM7 h.hi hk
 | 1,hk=>exact h.sa.lt hk
 | 2,hk=>exact h.vs.lt hk
 | i+3,⟨h1,h2⟩=>
  cases hv:s.ses i with
  | none=>exact absurd hv h1
  | some v=>exact(h.vw i v hv).lt h2
theorem EK.blo (h:EK w B m s):B<=w.heap.size:=h.sa.blo
theorem EK.kept (h:EK w B m s) (hs:w.heap.size<=w'.heap.size) (hk:∀ k,allF m s.ses k->w'.heap[k]?=w.heap[k]?):EK w' B m s where
 hi:=h.hi.kept fun k e=>hk k ⟨0,e⟩
 sa:=h.sa.kept hs fun k e=>hk k ⟨1,e⟩
 vs:=h.vs.kept fun k e=>hk k ⟨2,e⟩
 vw:=fun i v hv=>(h.vw i v hv).kept fun k e=>hk k ⟨i+3,by rw[hv];exact nofun,e⟩
 ds:=h.ds
 ap:=h.ap
 mn:=h.mn
 s4:=h.s4
theorem EK.on (h:EK w B m s) (hb:Below w.heap.size w w'):EK w' B m s:=h.kept hb.size fun k ⟨_,e⟩=>hb.block k (h.lt e)
theorem EK.hist (h:EK w B m s) {v':Value} {dv':List (aU×Value)} (hH:bP w' B m.eb (engX m s.ses) v' dv') (hb:Below B w w') (hf:∀ j,j<w.heap.size->¬inH m.eb m.hv m.dv j->w'.heap[j]?=w.heap[j]?/\¬inH m.eb v' dv' j) {ds':List aU} (hd:ofDV dv'=ds'):
  EK w' B { m with hv:=v',dv:=dv' } { s with ds:=ds' }/\aG w w' B (allF m s.ses) (allF { m with hv:=v',dv:=dv' } s.ses)/\∀ i k,i≠0->engF m s.ses i k->w'.heap[k]?=w.heap[k]?:=by
 have eF:engF { m with hv:=v',dv:=dv' } s.ses=updF (engF m s.ses) 0 (inH m.eb v' dv'):=by
  funext i
  match i with
  | 0=>rfl
  | 1=>rfl
  | 2=>rfl
  | i+3=>rfl
 obtain⟨f1,f2⟩:=wZ (F:=engF m s.ses) (a:=0) (S':=inH m.eb v' dv') h.ap (fun i k e=>h.lt e) hf;refine⟨⟨hH,h.sa.kept hb.size fun k e=>f2 1 k (by decide) e,h.vs.kept fun k e=>f2 2 k (by decide) e,fun i v hv=>(h.vw i v hv).kept fun k e=>f2 (i+3) k (by omega) ⟨by rw[hv];exact nofun,e⟩,hd,?_,h.mn,h.s4⟩,?_,f2⟩
 ·show ∀ i j k,engF { m with hv:=v',dv:=dv' } s.ses i k->engF { m with hv:=v',dv:=dv' } s.ses j k->i=j;rw[eF];exact f1
 ·have:=zAm (F:=engF m s.ses) (a:=0) (S':=inH m.eb v' dv') hb hf;unfold allF;rw[eF];exact this
theorem EK.store (h:EK w B m s) {x':SSt} (ha:ActS w w' B m.sb m.db m.Ts x'):
  ∃ T',EK w' B { m with Ts:=T' } { s with x:=x' }/\aG w w' B (allF m s.ses) (allF { m with Ts:=T' } s.ses)/\∀ i k,i≠1->engF m s.ses i k->w'.heap[k]?=w.heap[k]?:=by
 obtain⟨T',hsa,hst⟩:=ha;have eF:engF { m with Ts:=T' } s.ses=updF (engF m s.ses) 1 T':=by
  funext i
  match i with
  | 0=>rfl
  | 1=>rfl
  | 2=>rfl
  | i+3=>rfl
 obtain⟨f1,f2⟩:=wZ (F:=engF m s.ses) (a:=1) (S':=T') h.ap (fun i k e=>h.lt e) hst.far;refine⟨T',⟨h.hi.kept fun k e=>f2 0 k (by decide) e,hsa,h.vs.kept fun k e=>f2 2 k (by decide) e,fun i v hv=>(h.vw i v hv).kept fun k e=>f2 (i+3) k (by omega) ⟨by rw[hv];exact nofun,e⟩,h.ds,?_,h.mn,h.s4⟩,?_,f2⟩
 ·show ∀ i j k,engF { m with Ts:=T' } s.ses i k->engF { m with Ts:=T' } s.ses j k->i=j;rw[eF];exact f1
 ·have:=zAm (F:=engF m s.ses) (a:=1) (S':=T') hst.bel hst.far;unfold allF;rw[eF];exact this
theorem EK.vers (h:EK w B m s) {n':Nat} {D':DataW Value} {g':ByteArray->Value} {R':ByteArray->List Ver} {now':Nat} {c':Nat} (hv':VS w' B m.vb m.mb (now':Int) n' D' g' R') (hb:Below B w w') (hf:∀ j,j<w.heap.size->¬inVS m.vb m.mb m.g j->w'.heap[j]?=w.heap[j]?/\¬inVS m.vb m.mb g' j) (hn:n'<=2000*(c'+1)):
  EK w' B { m with many:=n',D:=D',g:=g' } { s with now:=now',R:=R',c:=c' }/\aG w w' B (allF m s.ses) (allF { m with many:=n',D:=D',g:=g' } s.ses)/\∀ i k,i≠2->engF m s.ses i k->w'.heap[k]?=w.heap[k]?:=by
 have eF:engF { m with many:=n',D:=D',g:=g' } s.ses=updF (engF m s.ses) 2 (inVS m.vb m.mb g'):=by
  funext i
  match i with
  | 0=>rfl
  | 1=>rfl
  | 2=>rfl
  | i+3=>rfl
 obtain⟨f1,f2⟩:=wZ (F:=engF m s.ses) (a:=2) (S':=inVS m.vb m.mb g') h.ap (fun i k e=>h.lt e) hf;refine⟨⟨h.hi.kept fun k e=>f2 0 k (by decide) e,h.sa.kept hb.size fun k e=>f2 1 k (by decide) e,hv',fun i v hv=>(h.vw i v hv).kept fun k e=>f2 (i+3) k (by omega) ⟨by rw[hv];exact nofun,e⟩,h.ds,?_,hn,h.s4⟩,?_,f2⟩
 ·show ∀ i j k,engF { m with many:=n',D:=D',g:=g' } s.ses i k->engF { m with many:=n',D:=D',g:=g' } s.ses j k->i=j;rw[eF];exact f1
 ·have:=zAm (F:=engF m s.ses) (a:=2) (S':=inVS m.vb m.mb g') hb hf;unfold allF;rw[eF];exact this
end
def updW (f:Nat->Nat×Value×Value) (i:Nat) (x:Nat×Value×Value):Nat->Nat×Value×Value:=fun j=>if j=i then x else f j
theorem qH (f:Nat->Nat×Value×Value) (i:Nat) (x:Nat×Value×Value):updW f i x i=x:=if_pos rfl
theorem oV {f:Nat->Nat×Value×Value} {i j:Nat} (x:Nat×Value×Value) (h:j≠i):updW f i x j=f j:=if_neg h
theorem qW {m:EMem} {f:Nat->Option VwL} {i:Nat} {x:Nat×Value×Value} {v:VwL}:engF { m with W:=updW m.W i x } (setS f i (some v))=updF (engF m f) (i+3) (inVW x.1 x.2.1 x.2.2):=by
 funext j
 match j with
 | 0=>exact(if_neg (by omega)).symm
 | 1=>exact(if_neg (by omega)).symm
 | 2=>exact(if_neg (by omega)).symm
 | j+3=>
  unfold updF;by_cases e:j=i
  ·subst e;rw[if_pos rfl];funext k;show(setS f j (some v) j≠none/\inVW (updW m.W j x j).1 (updW m.W j x j).2.1 (updW m.W j x j).2.2 k)=_;rw[hE,qH];exact propext ⟨fun h=>h.2,fun h=>⟨nofun,h⟩⟩
  ·rw[if_neg (by omega)];funext k;show(setS f i (some v) j≠none/\inVW (updW m.W i x j).1 (updW m.W i x j).2.1 (updW m.W i x j).2.2 k)=_;rw[hU _ e,oV _ e];rfl
theorem zA1 {m:EMem} {f:Nat->Option VwL} {i:Nat}:engF m (setS f i none)=updF (engF m f) (i+3) (fun _=>False):=by
 funext j
 match j with
 | 0=>exact(if_neg (by omega)).symm
 | 1=>exact(if_neg (by omega)).symm
 | 2=>exact(if_neg (by omega)).symm
 | j+3=>
  unfold updF;by_cases e:j=i
  ·subst e;rw[if_pos rfl];funext k;show(setS f j none j≠none/\inVW _ _ _ k)=_;rw[hE];exact propext ⟨fun h=>absurd rfl h.1,fun h=>h.elim⟩
  ·rw[if_neg (by omega)];funext k;show(setS f i none j≠none/\inVW _ _ _ k)=_;rw[hU _ e];rfl
theorem kI {m:EMem} {f:Nat->Option VwL} {i:Nat} (h:f i=none):sesV m f i=.pointer none:=by unfold sesV;rw[h]
theorem kE {m:EMem} {f:Nat->Option VwL} {i:Nat} {v:VwL} (h:f i=some v):sesV m f i=.pointer (some ⟨(m.W i).1,0,none⟩):=by unfold sesV;rw[h]
theorem tK {m:EMem} {f:Nat->Option VwL} {i:Nat} {x:Nat×Value×Value} {v:VwL}:sesV { m with W:=updW m.W i x } (setS f i (some v)) i=.pointer (some ⟨x.1,0,none⟩):=by
 unfold sesV;rw[hE];dsimp only;rw[qH]
theorem zAJ {m:EMem} {f:Nat->Option VwL} {i j:Nat} {x:Nat×Value×Value} {o:Option VwL} (h:j≠i):sesV { m with W:=updW m.W i x } (setS f i o) j=sesV m f j:=by
 unfold sesV;rw[hU _ h];dsimp only;rw[oV _ h]
theorem lQ {m:EMem} {f:Nat->Option VwL} {i:Nat} (h:i<4):engX m f (3+i)=some (sesV m f i):=by
 unfold engX;rw[if_neg (by omega),if_neg (by omega),if_pos (by omega)];congr 2;omega
theorem zDk {m m':EMem} {f f':Nat->Option VwL} {i:Nat} (h1:m'.sb=m.sb) (h2:m'.vb=m.vb) (h3:∀ j,j≠i->sesV m' f' j=sesV m f j) {j:Nat} (hj:j≠3+i):engX m' f' j=engX m f j:=by
 unfold engX;rw[h1,h2];split
 ·rfl
 ·split
  ·rfl
  ·split
   ·rw[h3 _ (by omega)]
   ·rfl
theorem zDm {m:EMem} {f:Nat->Option VwL} {i j:Nat} {x:Nat×Value×Value} {o:Option VwL} (hj:j≠3+i):engX { m with W:=updW m.W i x } (setS f i o) j=engX m f j:=zDk (m:=m) (m':={ m with W:=updW m.W i x }) (f:=f) (f':=setS f i o) (i:=i) rfl rfl (fun _ h=>zAJ h) hj
section
variable {w w':World} {B:Nat} {m:EMem} {s:ESt}
theorem EK.cell (h:EK w B m s) {i:Nat} (hi:i<4):w.cell? ⟨m.eb,3+i,none⟩=some (sesV m s.ses i):=((h.hi.rest (3+i)).1 (by omega)).trans (lQ hi)
theorem EK.cell0 (h:EK w B m s):w.cell? ⟨m.eb,0,none⟩=some (.pointer (some ⟨m.sb,0,none⟩)):=(h.hi.rest 0).1 (by decide)
theorem EK.cell1 (h:EK w B m s):w.cell? ⟨m.eb,1,none⟩=some (.pointer (some ⟨m.vb,0,none⟩)):=(h.hi.rest 1).1 (by decide)
theorem EK.ebF (_h:EK w B m s):engF m s.ses 0 m.eb:=.inl rfl
theorem zBO {X X':Nat->Option Value} {eb j:Nat} {v u:Value} {dv:List (aU×Value)} (h:bP w B eb X v dv) (hj:j≠2) (hX:X' j=some u) (hc:∃ u0,X j=some u0) (hX2:∀ k,k≠j->X' k=X k):bP (w.setCell ⟨eb,j,none⟩ u) B eb X' v dv where
 cell:=(World.cell?_setCell_other _ _ _ _ (by simp<;>omega)).trans h.cell
 soft:=by rw[World.frozen?_setCell];exact h.soft
 lo:=h.lo
 own:=aI h.own fun k e=>Below.heap_setCell _ _ _ _ fun e'=>h.off (by rw[e,e'])
 keys:=fun p hp=>aI (h.keys p hp) fun k e=>Below.heap_setCell _ _ _ _ fun e'=>h.offk p hp (by rw[e,e'])
 off:=h.off
 offk:=h.offk
 apart:=h.apart
 pair:=h.pair
 rest:=fun k=>⟨fun hk=>by
  by_cases e:k=j
  ·subst e;obtain⟨u0,hu⟩:=hc;rw[hX];exact World.cell?_setCell_same _ _ _ (((h.rest k).1 hk).trans hu)
  ·rw[hX2 k e];exact(World.cell?_setCell_other _ _ _ _ (by simp<;>omega)).trans ((h.rest k).1 hk),by rw[World.frozen?_setCell];exact(h.rest k).2⟩
theorem EK.drop (h:EK w B m s) {i:Nat} (hi:i<4):EK (w.setCell ⟨m.eb,3+i,none⟩ (.pointer none)) B m (nU s i)/\aG w (w.setCell ⟨m.eb,3+i,none⟩ (.pointer none)) B (allF m s.ses) (allF m (nU s i).ses):=by
 have hs:∀ k,k≠m.eb->(w.setCell ⟨m.eb,3+i,none⟩ (.pointer none)).heap[k]?=w.heap[k]?:=fun k hk=>Below.heap_setCell _ _ _ _ hk;have hne:∀ i k,i≠0->engF m s.ses i k->k≠m.eb:=fun i k hi hk e=>hi (h.ap i 0 k hk (by rw[e];exact h.ebF));have hX:bP (w.setCell ⟨m.eb,3+i,none⟩ (.pointer none)) B m.eb (engX m (setS s.ses i none)) m.hv m.dv:=zBO h.hi (by omega) (by rw[lQ hi,kI (hE _ _ _)]) ⟨_,lQ hi⟩ fun k hk=>zDk rfl rfl (fun j hj=>by unfold sesV;rw[hU _ hj]) hk;refine⟨⟨hX,h.sa.kept (by simp) fun k e=>hs k (hne 1 k (by decide) e),h.vs.kept fun k e=>hs k (hne 2 k (by decide) e),fun j v hv=>?_,h.ds,?_,h.mn,h.s4.set hi none⟩,?_⟩
 ·have hv':=zBn hv;exact(h.vw j v hv').kept fun k e=>hs k (hne (j+3) k (by omega) ⟨by rw[hv'];exact nofun,e⟩)
 ·show ∀ a b k,engF m (setS s.ses i none) a k->engF m (setS s.ses i none) b k->a=b;rw[zA1];intro a b k ha hb;unfold updF at ha hb;split at ha
  ·exact ha.elim
  ·split at hb
   ·exact hb.elim
   ·exact h.ap a b k ha hb
 ·refine⟨(Below.refl B w).setCell (p:=⟨m.eb,3+i,none⟩) h.hi.lo _,fun k hk hn=>⟨hs k fun e=>hn ⟨0,by rw[e];exact h.ebF⟩,?_⟩⟩;rintro⟨a,ha⟩;have ha':engF m (setS s.ses i none) a k:=ha;rw[zA1] at ha';unfold updF at ha';split at ha'
  ·exact ha'
  ·exact hn ⟨a,ha'⟩
theorem EK.begun (h:EK w B m s) {w1:World} {i wb:Nat} (hi:i<4) (h0:s.ses i=none) (hv:VW w1 w.heap.size wb m.vb s.now (.slice none 0 0) (.slice none 0 0) [] []) (hb:Below w.heap.size w w1):
  EK (w1.setCell ⟨m.eb,3+i,none⟩ (.pointer (some ⟨wb,0,none⟩))) B { m with W:=updW m.W i (wb,.slice none 0 0,.slice none 0 0) } (dX s i)/\aG w (w1.setCell ⟨m.eb,3+i,none⟩ (.pointer (some ⟨wb,0,none⟩))) B (allF m s.ses) (allF { m with W:=updW m.W i (wb,.slice none 0 0,.slice none 0 0) } (dX s i).ses):=by
 have h1:=h.on hb;have hs:∀ k,k≠m.eb->(w1.setCell ⟨m.eb,3+i,none⟩ (.pointer (some ⟨wb,0,none⟩))).heap[k]?=w1.heap[k]?:=fun k hk=>Below.heap_setCell _ _ _ _ hk;have hne:∀ i k,i≠0->engF m s.ses i k->k≠m.eb:=fun i k hi hk e=>hi (h.ap i 0 k hk (by rw[e];exact h.ebF));have hin:∀ k,inVW wb (.slice none 0 0) (.slice none 0 0) k->w.heap.size<=k:=fun k e=>hv.low e;have hX:bP (w1.setCell ⟨m.eb,3+i,none⟩ (.pointer (some ⟨wb,0,none⟩))) B m.eb (engX { m with W:=updW m.W i (wb,.slice none 0 0,.slice none 0 0) } (setS s.ses i (some ⟨aS s.x.rows,s.now,[],[]⟩))) m.hv m.dv:=zBO h1.hi (by omega) (by
   rw[lQ hi,tK]) ⟨_,lQ hi⟩ fun k hk=>zDm hk
 refine⟨⟨hX,h1.sa.kept (by simp) fun k e=>hs k (hne 1 k (by decide) e),h1.vs.kept fun k e=>hs k (hne 2 k (by decide) e),fun j v hj=>?_,h.ds,?_,h.mn,h.s4.set hi _⟩,?_⟩
 ·have hj':setS s.ses i (some ⟨aS s.x.rows,s.now,[],[]⟩) j=some v:=hj;show VW _ B (updW m.W i _ j).1 m.vb v.n (updW m.W i _ j).2.1 (updW m.W i _ j).2.2 v.chs v.rds;by_cases e:j=i
  ·subst e;rw[hE] at hj';cases hj';rw[qH];refine(hv.down h.blo).kept fun k e=>hs k fun e'=>?_;have:=hin k e;have:=h.lt h.ebF;omega
  ·rw[hU _ e] at hj';rw[oV _ e];exact(h1.vw j v hj').kept fun k e=>hs k (hne (j+3) k (by omega) ⟨by rw[hj'];exact nofun,e⟩)
 ·show ∀ a b k,engF { m with W:=updW m.W i (wb,.slice none 0 0,.slice none 0 0) } (setS s.ses i _) a k->engF { m with W:=updW m.W i (wb,.slice none 0 0,.slice none 0 0) } (setS s.ses i _) b k->a=b;rw[qW];intro a b k ha hb';unfold updF at ha hb';split at ha
  ·split at hb'
   ·rename_i e1 e2;rw[e1,e2]
   ·have:=hin k ha;have:=h.lt hb';omega
  ·split at hb'
   ·have:=hin k hb';have:=h.lt ha;omega
   ·exact h.ap a b k ha hb'
 ·refine⟨(hb.mono h.blo).setCell (p:=⟨m.eb,3+i,none⟩) h.hi.lo _,fun k hk hn=>⟨(hs k fun e=>hn ⟨0,by rw[e];exact h.ebF⟩).trans (hb.block k hk),?_⟩⟩;rintro⟨a,ha⟩;have ha':engF { m with W:=updW m.W i (wb,.slice none 0 0,.slice none 0 0) } (setS s.ses i (some ⟨aS s.x.rows,s.now,[],[]⟩)) a k:=ha;rw[qW] at ha';unfold updF at ha';split at ha'
  ·have:=hin k ha';omega
  ·exact hn ⟨a,ha'⟩
def snE (B:Nat) (m:EMem) (s:ESt) (n:Nat):Sn:=⟨n,B,m.vb,m.mb,m.many,s.now,m.D,m.g,s.R⟩
def inPV (m:EMem) (i k:Nat):Prop:=inVW (m.W i).1 (m.W i).2.1 (m.W i).2.2 k∨inVS m.vb m.mb m.g k
theorem EK.pv (h:EK w B m s) (ok:EOk s) {i:Nat} {v:VwL} (hv:s.ses i=some v) (hc:s.c<=190):PV w B (m.W i).1 (inPV m i) v.P (snE B m s v.n) v.chs v.rds:=by
 have ho:=ok.ses i v hv;have hn:=h.mn;refine⟨_,_,h.vs,h.vw i v hv,rfl,fun k h1 h2=>?_,ho.say,by show m.many<=1000000;omega,fun key=>by have:=ok.rl key;have:=ok.nc;show(s.R key).length<=1000000;omega,ho.ov,h.blo⟩;have:=h.ap (i+3) 2 k ⟨by rw[hv];exact nofun,h2⟩ h1;omega
theorem EK.view (h:EK w B m s) {i:Nat} {v:VwL} (hv:s.ses i=some v) (hi:i<4) {S':Nat->Prop} {chs:List Chg} {rds:Rws} (hp:PV w' B (m.W i).1 S' v.P (snE B m s v.n) chs rds) (hst:aG w w' B (inPV m i) S'):
  ∃ x,x.1=(m.W i).1/\EK w' B { m with W:=updW m.W i x } (jU s i v chs rds)/\aG w w' B (allF m s.ses) (allF { m with W:=updW m.W i x } (jU s i v chs rds).ses):=by
 obtain⟨cv,rv,hvs,hvw,hS,hap,_⟩:=hp;subst hS;have hvn:engF m s.ses (i+3)=inVW (m.W i).1 (m.W i).2.1 (m.W i).2.2:=by
  funext k;exact propext ⟨fun h=>h.2,fun h=>⟨by rw[hv];exact nofun,h⟩⟩
 have hfar:∀ a k,a≠i+3->a≠2->engF m s.ses a k->w'.heap[k]?=w.heap[k]?/\¬(inVW (m.W i).1 cv rv k∨inVS m.vb m.mb m.g k):=fun a k h1 h2 hk=>by
  refine hst.far k (h.lt hk) ?_;rintro(e|e)
  ·exact h1 (h.ap a (i+3) k hk (by rw[hvn];exact e))
  ·exact h2 (h.ap a 2 k hk e)
 have hX:engX { m with W:=updW m.W i ((m.W i).1,cv,rv) } (setS s.ses i (some ⟨v.P,v.n,chs,rds⟩))=engX m s.ses:=by
  funext j;by_cases e:j=3+i
  ·subst e;rw[lQ hi,lQ hi,tK,kE hv]
  ·exact zDm e
 refine⟨((m.W i).1,cv,rv),rfl,⟨?_,h.sa.kept hst.bel.size fun k e=>(hfar 1 k (by omega) (by decide) e).1,hvs,fun j u hj=>?_,h.ds,?_,h.mn,h.s4.set hi _⟩,?_⟩
 ·show bP w' B m.eb (engX { m with W:=updW m.W i ((m.W i).1,cv,rv) } (setS s.ses i (some ⟨v.P,v.n,chs,rds⟩))) m.hv m.dv;rw[hX];exact h.hi.kept fun k e=>(hfar 0 k (by omega) (by decide) e).1
 ·have hj':setS s.ses i (some ⟨v.P,v.n,chs,rds⟩) j=some u:=hj;show VW _ B (updW m.W i _ j).1 m.vb u.n (updW m.W i _ j).2.1 (updW m.W i _ j).2.2 u.chs u.rds;by_cases e:j=i
  ·subst e;rw[hE] at hj';cases hj';rw[qH];exact hvw
  ·rw[hU _ e] at hj';rw[oV _ e];exact(h.vw j u hj').kept fun k e'=>(hfar (j+3) k (by omega) (by omega) ⟨by rw[hj'];exact nofun,e'⟩).1
 ·show ∀ a b k,engF { m with W:=updW m.W i ((m.W i).1,cv,rv) } (setS s.ses i (some ⟨v.P,v.n,chs,rds⟩)) a k->engF { m with W:=updW m.W i ((m.W i).1,cv,rv) } (setS s.ses i (some ⟨v.P,v.n,chs,rds⟩)) b k->a=b;rw[qW];have key:∀ a k,a≠i+3->engF m s.ses a k->¬inVW (m.W i).1 cv rv k:=fun a k ha hk e=>by
   by_cases e2:a=2
   ·subst e2;exact hap k hk e
   ·exact(hfar a k ha e2 hk).2 (.inl e)
  intro a b k ha hb';unfold updF at ha hb';split at ha
  ·split at hb'
   ·rename_i e1 e2;rw[e1,e2]
   ·rename_i e1 e2;exact absurd ha (key b k e2 hb')
  ·split at hb'
   ·rename_i e1 e2;exact absurd hb' (key a k e1 ha)
   ·exact h.ap a b k ha hb'
 ·refine⟨hst.bel,fun k hk hn=>?_⟩;obtain⟨q1,q2⟩:=hst.far k hk fun e=>hn (e.elim (fun e=>⟨i+3,by rw[hvn];exact e⟩) fun e=>⟨2,e⟩);refine⟨q1,?_⟩;rintro⟨a,ha⟩;have ha':engF { m with W:=updW m.W i ((m.W i).1,cv,rv) } (setS s.ses i (some ⟨v.P,v.n,chs,rds⟩)) a k:=ha;rw[qW] at ha';unfold updF at ha';split at ha'
  ·exact q2 (.inl ha')
  ·exact hn ⟨a,ha'⟩
end
def vI (s:ESt) (m' m:EMem):Prop:=m'.db=m.db/\∀ j,s.ses j≠none->(m'.W j).1=(m.W j).1
def ActE (w w':World) (B:Nat) (m:EMem) (s s':ESt):Prop:=∃ m',EK w' B m' s'/\m'.eb=m.eb/\vI s m' m/\aG w w' B (allF m s.ses) (allF m' s'.ses)
section
variable {w w' w1:World} {B:Nat} {m m1:EMem} {s s1 s':ESt}
theorem EK.stay (h:EK w B m s) (hb:Below w.heap.size w w'):ActE w w' B m s s:=⟨m,h.on hb,rfl,⟨rfl,fun _ _=>rfl⟩,.on h.blo hb⟩
end
end
section
open Go.RowKit Go.Joins
attribute [local go_sem ↓] Go.wp_at_zero Go.wp_at_succ
theorem lM (i:Nat) (hi:i<4) (w:World):Calls Tryz.prog 61 #[.int .i64 (i:Int)] w fun e w'=>e=.returned (.bool true)/\w'=w:=by
 have h1:(0:Int)<=(i:Int):=by omega
 have h2:(i:Int)<4:=by omega
 go_enter Tryz.func61,Tryz.ntmps61;go_wp2;go_ret;exact⟨rfl,rfl⟩
theorem xR {B wb vb:Nat} {since:Int} {cv rv:Value} {chs:List Chg} {rds:Rws} (w:World) (h:VW w B wb vb since cv rv chs rds):
  Calls Tryz.prog 64 #[.pointer (some ⟨wb,0,none⟩)] w fun e w'=>e=.returned (.int .i64 since)/\w'=w:=by
 have c1:=h.c1;clear h;go_enter Tryz.func64,Tryz.ntmps64;go_wp2;go_ret;exact⟨rfl,rfl⟩
section
variable {B:Nat} {m:EMem} {s:ESt}
theorem mT (w:World) (h:EK w B m s) {i:Nat} (hi:i<4) {v:VwL} (hv:s.ses i=some v):
  Calls Tryz.prog 28 #[.pointer (some ⟨m.eb,0,none⟩),.int .i64 (i:Int)] w fun e w'=>e=.returned (.tuple #[.pointer (some ⟨(m.W i).1,0,none⟩),.nilIface])/\w'=w:=by
 have c:=h.cell hi;rw[kE hv] at c;have h1:(0:Int)<=(i:Int):=by omega
 have h2:(i:Int)<4:=by omega
 clear h;go_enter Tryz.func28,Tryz.ntmps28;go_wp2_with fail;refine(lM i hi w).mono ?_;rintro e w1 ⟨rfl,rfl⟩;go_wp2;go_ret2;exact⟨rfl,rfl⟩
theorem pC (w:World) (h:EK w B m s) {i:Nat} (hi:i<4) (hv:s.ses i=none):
  Calls Tryz.prog 28 #[.pointer (some ⟨m.eb,0,none⟩),.int .i64 (i:Int)] w fun e w'=>e=.returned (.tuple #[.pointer none,errV 7])/\w'=w:=by
 have c:=h.cell hi;rw[kI hv] at c;have h1:(0:Int)<=(i:Int):=by omega
 have h2:(i:Int)<4:=by omega
 have HE:Hid (errV 7=.iface 114 (.int .i64 7)):=rfl;rw[HE.out];clear h;go_enter Tryz.func28,Tryz.ntmps28;go_wp2_with fail;refine(lM i hi w).mono ?_;rintro e w1 ⟨rfl,rfl⟩;go_wp2;go_ret2;exact⟨rfl,rfl⟩
theorem zBq (w:World) (h:EK w B m s) (hr:s.x.rows.length<=1000):Calls Tryz.prog 35 #[.pointer (some ⟨m.eb,0,none⟩)] w fun e w'=>∃ v,e=.returned v/\ownP w' w.heap.size v (aS s.x.rows)/\Below w.heap.size w w':=by
 have c:=h.cell0;have HN:=hide (zBm w h.sa hr);clear h;go_enter Tryz.func35,Tryz.ntmps35;go_wp2_with fail;refine HN.out.mono ?_;rintro e w1 ⟨v,rfl,h1,h2⟩;go_wp2;go_ret;exact⟨v,rfl,h1,h2⟩
def ixS (v i:Value):Sem Value:=Instr.index 122 v i
theorem zMW (v i:Value):Instr.index 122 v i=ixS v i:=rfl
attribute [local go_sem ↓] zMW
theorem zL8 (a b c d:Value) (W:World):(ixS (.agg #[a,b,c,d]) (.int .i64 0)).run Tryz.prog W=.ok a W:=by kernel_rfl
theorem zMe (a b c d:Value) (W:World):(ixS (.agg #[a,b,c,d]) (.int .i64 1)).run Tryz.prog W=.ok b W:=by kernel_rfl
theorem zMx (a b c d:Value) (W:World):(ixS (.agg #[a,b,c,d]) (.int .i64 2)).run Tryz.prog W=.ok c W:=by kernel_rfl
theorem zLR (a b c d:Value) (W:World):(ixS (.agg #[a,b,c,d]) (.int .i64 3)).run Tryz.prog W=.ok d W:=by kernel_rfl
def oldK (s:ESt):Nat->Nat
 | 0=>s.now
 | k+1=>minS (oldK s k) (s.ses k)
theorem zIg (s:ESt):oldK s 4=cI s:=rfl
theorem zE6 (s:ESt):∀ k,oldK s k<=s.now
 | 0=>Nat.le_refl _
 | k+1=>Nat.le_trans (lB _ _) (zE6 s k)
theorem wN (w:World) (h:EK w B m s):Calls Tryz.prog 71 #[.pointer (some ⟨m.eb,0,none⟩)] w fun e w'=>e=.returned (.int .i64 (cI s:Int))/\w'=w:=by
 have c1:=h.cell1;have c3:=h.cell (i:=0) (by decide);have c4:=h.cell (i:=1) (by decide);have c5:=h.cell (i:=2) (by decide);have c6:=h.cell (i:=3) (by decide);have HN:=hide (zE7 w h.vs);have HW:Hid (∀ i v,s.ses i=some v->Calls Tryz.prog 64 #[.pointer (some ⟨(m.W i).1,0,none⟩)] w fun e w'=>e=.returned (.int .i64 (v.n:Int))/\w'=w):=fun i v hv=>xR w (h.vw i v hv);have HO:=hide (zIg s);have hle:=zE6 s;have HLE:=hide hle;clear h hle;generalize cI s=old at *;go_enter Tryz.func71,Tryz.ntmps71;go_wp2_with fail;refine HN.out.mono ?_;rintro e w1 ⟨rfl,rfl⟩;go_wp2
 go_loopw [3,5,15] (fun nv _ iv wr=>∃ k:Nat,k<=4/\iv=.int .i64 (k:Int)/\nv=.int .i64 (oldK s k:Int)/\wr=w1) (fun _ _ iv _=>4-(intOf iv).toNat)
 case atStart=>exact⟨0,by omega,rfl,rfl,rfl⟩
 case round=>
  obtain⟨k,hk,rfl,rfl,rfl⟩:=hrel;have hkc:k=4∨k=0∨k=1∨k=2∨k=3:=by omega
  rcases hkc with rfl|rfl|rfl|rfl|rfl
  ·rw[HO.out];go_wp2;go_ret;exact⟨rfl,rfl⟩
  ·have hix:=zL8
   cases hs:s.ses 0 with
   | none=>
    rw[kI hs];have ho:oldK s (0+1)=oldK s 0:=by show minS (oldK s 0) (s.ses 0)=_;rw[hs];rfl
    have HO1:=hide ho;clear ho;generalize oldK s 0=o0 at *;go_wp2_with fail;exact⟨⟨0+1,by omega,by go_num,by rw[HO1.out],by trivial⟩,by simp[intOf]⟩
   | some v=>
    rw[kE hs];have ho:oldK s (0+1)=min (oldK s 0) v.n:=by show minS (oldK s 0) (s.ses 0)=_;rw[hs];rfl
    have HO1:=hide ho;clear ho;have HS:=hide (HW.out 0 v hs);generalize oldK s 0=o0 at *;go_wp2_with fail;refine HS.out.mono ?_;rintro e w2 ⟨rfl,hw2⟩;rw[hw2];clear hw2;go_wp2_with fail;exact⟨⟨0+1,by omega,by go_num,by rw[HO1.out];congr 1;omega,by trivial⟩,by simp[intOf]⟩
  ·have hix:=zMe
   cases hs:s.ses 1 with
   | none=>
    rw[kI hs];have ho:oldK s (1+1)=oldK s 1:=by show minS (oldK s 1) (s.ses 1)=_;rw[hs];rfl
    have HO1:=hide ho;clear ho;generalize oldK s 1=o0 at *;go_wp2_with fail;exact⟨⟨1+1,by omega,by go_num,by rw[HO1.out],by trivial⟩,by simp[intOf]⟩
   | some v=>
    rw[kE hs];have ho:oldK s (1+1)=min (oldK s 1) v.n:=by show minS (oldK s 1) (s.ses 1)=_;rw[hs];rfl
    have HO1:=hide ho;clear ho;have HS:=hide (HW.out 1 v hs);generalize oldK s 1=o0 at *;go_wp2_with fail;refine HS.out.mono ?_;rintro e w2 ⟨rfl,hw2⟩;rw[hw2];clear hw2;go_wp2_with fail;exact⟨⟨1+1,by omega,by go_num,by rw[HO1.out];congr 1;omega,by trivial⟩,by simp[intOf]⟩
  ·have hix:=zMx
   cases hs:s.ses 2 with
   | none=>
    rw[kI hs];have ho:oldK s (2+1)=oldK s 2:=by show minS (oldK s 2) (s.ses 2)=_;rw[hs];rfl
    have HO1:=hide ho;clear ho;generalize oldK s 2=o0 at *;go_wp2_with fail;exact⟨⟨2+1,by omega,by go_num,by rw[HO1.out],by trivial⟩,by simp[intOf]⟩
   | some v=>
    rw[kE hs];have ho:oldK s (2+1)=min (oldK s 2) v.n:=by show minS (oldK s 2) (s.ses 2)=_;rw[hs];rfl
    have HO1:=hide ho;clear ho;have HS:=hide (HW.out 2 v hs);generalize oldK s 2=o0 at *;go_wp2_with fail;refine HS.out.mono ?_;rintro e w2 ⟨rfl,hw2⟩;rw[hw2];clear hw2;go_wp2_with fail;exact⟨⟨2+1,by omega,by go_num,by rw[HO1.out];congr 1;omega,by trivial⟩,by simp[intOf]⟩
  ·have hix:=zLR
   cases hs:s.ses 3 with
   | none=>
    rw[kI hs];have ho:oldK s (3+1)=oldK s 3:=by show minS (oldK s 3) (s.ses 3)=_;rw[hs];rfl
    have HO1:=hide ho;clear ho;generalize oldK s 3=o0 at *;go_wp2_with fail;exact⟨⟨3+1,by omega,by go_num,by rw[HO1.out],by trivial⟩,by simp[intOf]⟩
   | some v=>
    rw[kE hs];have ho:oldK s (3+1)=min (oldK s 3) v.n:=by show minS (oldK s 3) (s.ses 3)=_;rw[hs];rfl
    have HO1:=hide ho;clear ho;have HS:=hide (HW.out 3 v hs);generalize oldK s 3=o0 at *;go_wp2_with fail;refine HS.out.mono ?_;rintro e w2 ⟨rfl,hw2⟩;rw[hw2];clear hw2;go_wp2_with fail;exact⟨⟨3+1,by omega,by go_num,by rw[HO1.out];congr 1;omega,by trivial⟩,by simp[intOf]⟩
end
end
section
open Go.RowKit Go.Joins
theorem gG {w:World} {B:Nat} {e:TypeId} {size:Nat} {v:Value} {n:Nat} {xs:List Value} (h:w.ownsRow B e size v n xs) (g j:Nat) (u:Value) (hne:v.ownBlock≠some g):(w.setCell ⟨g,j,none⟩ u).ownsRow B e size v n xs:=
 aI h fun k hk=>Below.heap_setCell _ _ _ _ (fun e=>hne (by rw[hk,e]))
theorem uL {w:World} {p:Addr} {g j:Nat} {u:Value} (hne:p.block≠g):(w.setCell ⟨g,j,none⟩ u).cell? p=w.cell? p:=World.cell?_of_block (Below.heap_setCell _ _ _ _ hne)
theorem rK {w:World} {p:Addr} {g j:Nat} {u:Value} (hne:p.block≠g):(w.setCell ⟨g,j,none⟩ u).frozen? p=w.frozen? p:=World.frozen?_of_block (Below.heap_setCell _ _ _ _ hne)
theorem zDx {W w1:World} {B hb:Nat} {Xc:Nat->Option Value} {v:Value} {dv:List (aU×Value)} {n:Int} {g cap:Nat} (h:bP W B hb Xc v dv) (hB:B<=W.heap.size) (hg:W.grownBy w1 v.ownBlock)
  (ho:w1.ownsRow B 207 2 (.slice (some ⟨g,0,none⟩) (dv.length+1) cap) (dv.length+1) (rowD dv++[.int .i64 n,.slice none 0 0])) (hat:v.ownBlock=some g∨g=W.heap.size):
  bP (w1.setCell ⟨hb,2,none⟩ (.slice (some ⟨g,0,none⟩) (dv.length+1) cap)) B hb Xc (.slice (some ⟨g,0,none⟩) (dv.length+1) cap) (dv++[(⟨n,[]⟩,.slice none 0 0)])/\
  Below B W (w1.setCell ⟨hb,2,none⟩ (.slice (some ⟨g,0,none⟩) (dv.length+1) cap))/\w1.cell? ⟨hb,2,none⟩=some v/\w1.frozen? ⟨hb,2,none⟩=false/\(∀ b,b<W.heap.size->b≠hb->some b≠v.ownBlock->b≠g/\(w1.setCell ⟨hb,2,none⟩ (.slice (some ⟨g,0,none⟩) (dv.length+1) cap)).heap[b]?=W.heap[b]?):=by
 have hlt:=h.lt;have hne:g≠hb:=by
  rcases hat with e|e
  ·exact fun e'=>h.off (by rw[e,e'])
  ·omega
 have c1:w1.cell? ⟨hb,2,none⟩=some v:=hg.cell h.cell (Ne.symm h.off);have f1:w1.frozen? ⟨hb,2,none⟩=false:=(hg.frozen_far ⟨hb,2,none⟩ hlt (Ne.symm h.off)).trans h.soft;have kk:∀ p∈dv,p.2.ownBlock=none∨p.2.ownBlock≠some g:=fun p hp=>by
  rcases hat with e|e
  ·rw[<-e];exact h.apart p hp
  ·refine .inr fun e'=>?_;have:=((h.keys p hp).lt g e').2;omega
 refine⟨{ cell:=?_,soft:=?_,lo:=h.lo,own:=?_,keys:=?_,off:=?_,offk:=?_,apart:=?_,pair:=?_,rest:=fun j=>⟨fun hj=>(World.cell?_setCell_other _ _ _ _ (by simp<;>omega)).trans ((World.cell?_of_block (w:=W) (hg.block hb hlt (Ne.symm h.off))).trans ((h.rest j).1 hj)),by rw[World.frozen?_setCell];exact(hg.frozen_far ⟨hb,j,none⟩ hlt (Ne.symm h.off)).trans (h.rest j).2⟩ },?_,c1,f1,?_⟩
 ·exact World.cell?_setCell_same _ _ _ c1
 ·simpa using f1
 ·have e1:(dv++[((⟨n,[]⟩:aU),Value.slice none 0 0)]).length=dv.length+1:=by simp
  have e2:rowD (dv++[((⟨n,[]⟩:aU),Value.slice none 0 0)])=rowD dv++[.int .i64 n,.slice none 0 0]:=by simp[rowD,sQ]
  rw[e1,e2];exact gG ho hb 2 _ (by simpa[Value.ownBlock] using hne)
 ·intro p hp;rcases List.mem_append.1 hp with hp|hp
  ·exact gG ((h.keys p hp).kept hg (h.apart p hp)) hb 2 _ (h.offk p hp)
  ·simp only[List.mem_singleton] at hp;subst hp;exact World.ownsRow_nil _ _ _ _
 ·simpa[Value.ownBlock] using hne
 ·intro p hp;rcases List.mem_append.1 hp with hp|hp
  ·exact h.offk p hp
  ·simp only[List.mem_singleton] at hp;subst hp;simp[Value.ownBlock]
 ·intro p hp;rcases List.mem_append.1 hp with hp|hp
  ·exact kk p hp
  ·simp only[List.mem_singleton] at hp;subst hp;exact .inl rfl
 ·rw[List.pairwise_append];refine⟨h.pair,by simp,fun a ha b hb'=>?_⟩;simp only[List.mem_singleton] at hb';subst hb';rcases kk a ha with e|e
  ·exact .inl e
  ·cases hx:a.2.ownBlock with
   | none=>exact .inl rfl
   | some y=>exact .inr (by simp[Value.ownBlock])
 ·exact(((Below.refl B W).grown hg hB (fun k hk=>(h.own.lt k hk).1)).setCell h.lo _)
 ·intro b h1 h2 h3;refine⟨?_,(Below.heap_setCell _ _ _ _ h2).trans (hg.block b h1 h3)⟩;rcases hat with e|e
  ·exact fun x=>h3 (by rw[e,x])
  ·omega
theorem zJq {W w1:World} {B hb:Nat} {Xc:Nat->Option Value} {d:aU} {kv:Value} {dv:List (aU×Value)} {key:ByteArray} {g cap gk ck:Nat}
  (h:bP W B hb Xc (.slice (some ⟨g,0,none⟩) (dv.length+1) cap) (dv++[(d,kv)])) (hB:B<=W.heap.size) (hg:W.grownBy w1 kv.ownBlock)
  (ho:w1.ownsRow B 9 1 (.slice (some ⟨gk,0,none⟩) (d.keys.length+1) ck) (d.keys.length+1) (d.keys.map Value.string++[.string key])) (hat:kv.ownBlock=some gk∨gk=W.heap.size):
  bP (w1.setCell ⟨g,dv.length*2+1,none⟩ (.slice (some ⟨gk,0,none⟩) (d.keys.length+1) ck)) B hb Xc (.slice (some ⟨g,0,none⟩) (dv.length+1) cap) (dv++[(⟨d.n,d.keys++[key]⟩,.slice (some ⟨gk,0,none⟩) (d.keys.length+1) ck)])/\
  Below B W (w1.setCell ⟨g,dv.length*2+1,none⟩ (.slice (some ⟨gk,0,none⟩) (d.keys.length+1) ck))/\
  (∀ b,b<W.heap.size->b≠g->some b≠kv.ownBlock->b≠gk/\(w1.setCell ⟨g,dv.length*2+1,none⟩ (.slice (some ⟨gk,0,none⟩) (d.keys.length+1) ck)).heap[b]?=W.heap[b]?):=by
 have hlt:=h.lt;have mem:(d,kv)∈dv++[(d,kv)]:=by simp
 have hlen:(dv++[(d,kv)]).length=dv.length+1:=by simp
 have hk0:=h.offk _ mem;have ha0:=h.apart _ mem;have hown:=h.own;have hgl:=(hown.lt g rfl).2;have hgB:=(hown.lt g rfl).1;have hgh:g≠hb:=fun e=>h.off (by rw[e];rfl);have hkg:gk≠g:=by
  rcases hat with e|e
  ·rcases ha0 with e'|e'
   ·rw[e] at e';cases e'
   ·rw[e] at e';exact fun x=>e' (by rw[x];rfl)
  ·omega
 have hkh:gk≠hb:=by
  rcases hat with e|e
  ·rw[e] at hk0;exact fun x=>hk0 (by rw[x])
  ·omega
 have hpair:=List.pairwise_append.1 h.pair;have kk:∀ p∈dv,p.2.ownBlock=none∨p.2.ownBlock≠some gk:=fun p hp=>by
  rcases hat with e|e
  ·rw[<-e];exact hpair.2.2 p hp (d,kv) (by simp)
  ·refine .inr fun e'=>?_;have:=((h.keys p (by simp[hp])).lt gk e').2;omega
 have hstay:Value.ownBlock (.slice (some ⟨g,0,none⟩) (dv.length+1) cap)=none∨Value.ownBlock (.slice (some ⟨g,0,none⟩) (dv.length+1) cap)≠kv.ownBlock:=by
  rcases ha0 with e|e
  ·exact .inr (by rw[e];simp[Value.ownBlock])
  ·exact .inr (Ne.symm e)
 refine⟨{ cell:=?_,soft:=?_,lo:=h.lo,own:=?_,keys:=?_,off:=h.off,offk:=?_,apart:=?_,pair:=?_,rest:=fun j=>⟨fun hj=>(uL (Ne.symm hgh)).trans ((World.cell?_of_block (w:=W) (hg.block hb hlt (Ne.symm hk0))).trans ((h.rest j).1 hj)),(rK (Ne.symm hgh)).trans ((hg.frozen_far ⟨hb,j,none⟩ hlt (Ne.symm hk0)).trans (h.rest j).2)⟩ },?_,?_⟩
 ·rw[uL (Ne.symm hgh)];exact hg.cell h.cell (Ne.symm hk0)
 ·rw[rK (Ne.symm hgh)];exact(hg.frozen_far ⟨hb,2,none⟩ hlt (Ne.symm hk0)).trans h.soft
 ·have h1:=hown.kept hg hstay;rw[hlen] at h1;have h2:=(h1.stored (dv.length*2+1) (.slice (some ⟨gk,0,none⟩) (d.keys.length+1) ck)).1;have e:(rowD (dv++[(d,kv)])).set (dv.length*2+1) (.slice (some ⟨gk,0,none⟩) (d.keys.length+1) ck)=rowD (dv++[(⟨d.n,d.keys++[key]⟩,.slice (some ⟨gk,0,none⟩) (d.keys.length+1) ck)]):=by
   unfold rowD;rw[zKF sQ 2 qX (dv++[(d,kv)]) (⟨d.n,d.keys++[key]⟩,.slice (some ⟨gk,0,none⟩) (d.keys.length+1) ck) dv.length 1 (by simp) (by omega) _ (by simp[sQ])];simp
  rw[e] at h2;simpa using h2
 ·intro p hp;rcases List.mem_append.1 hp with hp|hp
  ·have h1:=(h.keys p (by simp[hp])).kept hg (hpair.2.2 p hp (d,kv) (by simp));refine gG h1 g _ _ ?_;rcases h.apart p (by simp[hp]) with e|e
   ·rw[e];simp
   ·exact e
  ·simp only[List.mem_singleton] at hp;subst hp;have:=gG ho g (dv.length*2+1) (.slice (some ⟨gk,0,none⟩) (d.keys.length+1) ck) (by simpa[Value.ownBlock] using hkg);simpa using this
 ·intro p hp;rcases List.mem_append.1 hp with hp|hp
  ·exact h.offk p (by simp[hp])
  ·simp only[List.mem_singleton] at hp;subst hp;simpa[Value.ownBlock] using hkh
 ·intro p hp;rcases List.mem_append.1 hp with hp|hp
  ·exact h.apart p (by simp[hp])
  ·simp only[List.mem_singleton] at hp;subst hp;exact .inr (by simpa[Value.ownBlock] using hkg)
 ·rw[List.pairwise_append];refine⟨hpair.1,by simp,fun a ha b hb'=>?_⟩;simp only[List.mem_singleton] at hb';subst hb';exact kk a ha
 ·exact(((Below.refl B W).grown hg hB (fun k hk=>((h.keys _ mem).lt k hk).1)).setCell hgB _)
 ·intro b h1 h2 h3;refine⟨?_,(Below.heap_setCell _ _ _ _ h2).trans (hg.block b h1 h3)⟩;rcases hat with e|e
  ·exact fun x=>h3 (by rw[e,x])
  ·omega
end
section
open Go.RowKit Go.Joins
attribute [local go_sem ↓] Go.wp_at_zero Go.wp_at_succ
theorem zFU:(Tryz.prog.info? 207).map (fun i=>(i.zero,i.size,i.bytes))=some (some (.agg #[.int .i64 0,.slice none 0 0]),2,32):=by kernel_rfl
theorem zGs (n:Nat):∀ u∈(Builtin.zeroCells (Value.agg #[.int .i64 0,.slice none 0 0]).cells n).toList,u.oneCell'=true:=by
 intro u hu;simp[Builtin.zeroCells,Value.cells] at hu;obtain⟨i,_,rfl⟩:=hu;rcases Nat.mod_two_eq_zero_or_one i with e|e<;>rw[e]<;>rfl
theorem zCN (B g cap K m:Nat) (xs:List Value) (w:World) (ho:w.ownsRow B 207 2 (.slice (some ⟨g,0,none⟩) (K+m) cap) (K+m) xs) (h1:∀ u∈xs,u.oneCell'=true) (hK:0<K) (hn:K+m<=1000) (hcap:K+m<=cap) (hc63:cap<=9223372036854775807):
  Calls Tryz.prog 186 #[.slice (some ⟨g,0,none⟩) (K+m) cap,.int .i64 0,.int .i64 K] w fun e w'=>
   e=.returned (.slice (some ⟨g,0,none⟩) m cap)/\w'.ownsRow B 207 2 (.slice (some ⟨g,0,none⟩) m cap) m (xs.drop (K*2))/\w.grownBy w' (some g):=by
 obtain⟨i0,hi0,hz0,hz1,hz2⟩:=info_parts zFU;have hxl:xs.length=(K+m)*2:=ho.1;obtain⟨news,hnews⟩:∃ news,news=xs.drop (K*2):=⟨_,rfl⟩;have hlen:news.length=m*2:=by rw[hnews,List.length_drop,hxl];omega
 have hdr:w.drew.ownsRow B 207 2 (.slice (some ⟨g,0,none⟩) (K+m) cap) (K+m) xs:=ho;obtain⟨A,hA,hsrc⟩:∃ A:Addr,(if cap=K then some (⟨g,0,none⟩:Addr) else some ⟨g,K*2,none⟩)=some A/\Hid (∀ t u,news[t]?=some u->w.drew.cell? (A.add t)=some u):=by
  by_cases h:cap=K
  ·refine⟨⟨g,0,none⟩,by simp[h],fun t u hu=>?_⟩;have h0:news.length=0:=by omega
   rw[List.length_eq_zero_iff.1 h0] at hu;simp at hu
  ·refine⟨⟨g,K*2,none⟩,by simp[h],fun t u hu=>?_⟩;have ht:t<m*2:=by
    have:=(List.getElem?_eq_some_iff.1 hu).1;omega
   rw[Addr.add_lit,hdr.cellAt (K*2+t) (by omega),<-hu,hnews,List.getElem?_drop]
 have s2:Hid (∀ u∈news,u.oneCell'=true):=fun u hu=>h1 u (by rw[hnews] at hu;exact List.mem_of_mem_drop hu);have s3:Hid (∀ t,t<news.length->(w.drew.cell? ⟨g,0+0*2+t,none⟩).isSome=true/\w.drew.frozen? ⟨g,0+0*2+t,none⟩=false):=fun t ht=>by
  have:=cS hdr t (by omega);simpa using this
 obtain⟨W1,hW1⟩:∃ W1,W1=w.drew.setCells g (0+0*2) news:=⟨_,rfl⟩;have hW1':=hW1;simp only[Nat.zero_mul,Nat.add_zero] at hW1';have r1:=cT news 0 w.drew xs hdr;rw[<-hW1'] at r1;have hzv:∀ w,(zeroValue 207).run Tryz.prog w=.ok (.agg #[.int .i64 0,.slice none 0 0]) w:=Tryz.zeroValue207;have hz2':(Value.agg #[.int .i64 0,.slice none 0 0]).cells.size=2:=rfl;have hcl:∀ ty,(Builtin.clear_ #[119] ty #[.slice (some ⟨g,m*2,none⟩) K (cap-m)]).run Tryz.prog W1=.ok (.tuple #[]) (W1.setCells g (m*2) (Builtin.zeroCells (Value.agg #[.int .i64 0,.slice none 0 0]).cells K).toList):=
  fun ty=>qG W1 _ _ ty _ Tryz.underlying119 hzv g (m*2) _ _ (by omega) (zGs _) (fun j hj=>by rw[hz2'] at hj;exact(cS r1.1 (m*2+j) (by omega)).1) (fun j hj=>by rw[hz2'] at hj;exact(cS r1.1 (m*2+j) (by omega)).2)
 have r2:=cT (Builtin.zeroCells (Value.agg #[.int .i64 0,.slice none 0 0]).cells K).toList (m*2) W1 _ r1.1;have r3:=rT r2.1 (m:=m) (by omega);rw[tN] at r3;have e4:(setL xs 0 news).take (m*2)=news:=by rw[<-hlen];exact tI news xs (by omega)
 rw[e4] at r3;have R3:=hide r3;have R4:Hid (w.grownBy (W1.setCells g (m*2) (Builtin.zeroCells (Value.agg #[.int .i64 0,.slice none 0 0]).cells K).toList) (some g)):=(show w.grownBy W1 (some g) from ⟨r1.2.os,r1.2.tape,r1.2.output,r1.2.size,r1.2.block⟩).trans r2.2;generalize hW2:W1.setCells g (m*2) (Builtin.zeroCells (Value.agg #[.int .i64 0,.slice none 0 0]).cells K).toList=W2 at hcl R3 R4;have HN:Hid (news=xs.drop (K*2)):=hnews;have HL:=hide hlen;have HW:Hid (W1=w.drew.setCells g (0+0*2) news):=hW1;clear hnews hlen hdr hW1 hW1' r1 r2 r3 e4 ho h1 hxl hW2 hz2';have k0:(0:Int)<=(K:Int):=Int.natCast_nonneg _;have k1:(K:Int)<=(K:Int)+(m:Int):=by omega
 have k2:(K:Int)<=(cap:Int):=by omega
 have k3:¬(0:Int)=(K:Int):=by omega
 have k4:¬cap=m:=by omega
 go_enter Tryz.func186,Tryz.ntmps186;go_wp2_with fail
 go_region_law (refine step_append_room rfl (.tmp 22) (.tmp 25) 119 rfl 207 i0 2 Tryz.underlying119 hi0 hz1 g 0 0 cap (by simp[Act.eval,Act.put]) A m (cap-K) news (by simp[Act.eval,Act.put]) HL.out hsrc.out s2.out (by omega) s3.out ?_;rw[<-HW.out])
 go_wp2;go_ret;exact⟨rfl,by rw[<-HN.out];exact R3.out,R4.out⟩
theorem zEo (g n cap:Nat) (w:World) (hn:n<=cap):
  Calls Tryz.prog 186 #[.slice (some ⟨g,0,none⟩) n cap,.int .i64 0,.int .i64 0] w fun e w'=>e=.returned (.slice (some ⟨g,0,none⟩) n cap)/\w'=w:=by
 go_enter Tryz.func186,Tryz.ntmps186;go_wp2
 all_goals
  go_ret;exact⟨rfl,rfl⟩
theorem zHg (w:World):
  Calls Tryz.prog 186 #[.slice none 0 0,.int .i64 0,.int .i64 0] w fun e w'=>e=.returned (.slice none 0 0)/\w'=w:=by
 go_enter Tryz.func186,Tryz.ntmps186;go_wp2;go_ret;exact⟨rfl,rfl⟩
theorem zBD {α β:Type} (f:α->List β) (k:Nat) (hk:∀ x,(f x).length=k):∀ (n:Nat) (l:List α),(l.flatMap f).drop (n*k)=(l.drop n).flatMap f
 | 0,l=>by simp
 | n+1,[]=>by simp
 | n+1,x::l=>by
  rw[List.flatMap_cons,List.drop_succ_cons,<-zBD f k hk n l,Nat.succ_mul,Nat.add_comm,<-List.drop_drop,List.drop_left' (hk x)]
theorem zJM {dv:List (aU×Value)} {w:World} {B:Nat} (hk:∀ p∈dv,w.ownsRow B 9 1 p.2 p.1.keys.length (p.1.keys.map Value.string)):∀ u∈rowD dv,u.oneCell'=true:=by
 intro u hu;obtain⟨p,hp,hu⟩:=List.mem_flatMap.1 hu;simp only[sQ,List.mem_cons,List.not_mem_nil,or_false] at hu;rcases hu with rfl|rfl
 ·rfl
 ·rcases aX (hk p hp) with⟨e,_⟩|⟨g,cap,e,_⟩<;>rw[e]<;>rfl
theorem zIj {α:Type} {R:α->α->Prop} {l:List α} (h:l.Pairwise R) (k:Nat):(l.drop k).Pairwise R:=h.drop
theorem zLD {W w2:World} {B hb:Nat} {Xc:Nat->Option Value} {dv:List (aU×Value)} {g cap K m:Nat} (hl:dv.length=K+m) (h:bP W B hb Xc (.slice (some ⟨g,0,none⟩) (K+m) cap) dv) (hB:B<=W.heap.size) (hg:W.grownBy w2 (some g))
  (ho:w2.ownsRow B 207 2 (.slice (some ⟨g,0,none⟩) m cap) m ((rowD dv).drop (K*2))):
  bP (w2.setCell ⟨hb,2,none⟩ (.slice (some ⟨g,0,none⟩) m cap)) B hb Xc (.slice (some ⟨g,0,none⟩) m cap) (dv.drop K)/\
  Below B W (w2.setCell ⟨hb,2,none⟩ (.slice (some ⟨g,0,none⟩) m cap))/\w2.cell? ⟨hb,2,none⟩=some (.slice (some ⟨g,0,none⟩) (K+m) cap)/\w2.frozen? ⟨hb,2,none⟩=false/\
  (∀ k,k<W.heap.size->k≠hb->some k≠some g->(w2.setCell ⟨hb,2,none⟩ (.slice (some ⟨g,0,none⟩) m cap)).heap[k]?=W.heap[k]?):=by
 have hlt:=h.lt;have hoff:some hb≠some g:=fun e=>h.off (by rw[e];rfl);have hgh:g≠hb:=fun e=>hoff (by rw[e]);have c1:w2.cell? ⟨hb,2,none⟩=some (.slice (some ⟨g,0,none⟩) (K+m) cap):=hg.cell h.cell hoff;have f1:w2.frozen? ⟨hb,2,none⟩=false:=(hg.frozen_far ⟨hb,2,none⟩ hlt hoff).trans h.soft;refine⟨{ cell:=World.cell?_setCell_same _ _ _ c1,soft:=by simpa using f1,lo:=h.lo,own:=?_,keys:=?_,off:=?_,offk:=?_,apart:=?_,pair:=zIj h.pair K,rest:=fun j=>⟨fun hj=>(World.cell?_setCell_other _ _ _ _ (by simp<;>omega)).trans ((World.cell?_of_block (w:=W) (hg.block hb hlt hoff)).trans ((h.rest j).1 hj)),by rw[World.frozen?_setCell];exact(hg.frozen_far ⟨hb,j,none⟩ hlt hoff).trans (h.rest j).2⟩ },?_,c1,f1,fun k h1 h2 h3=>(Below.heap_setCell _ _ _ _ h2).trans (hg.block k h1 h3)⟩
 ·have e1:(dv.drop K).length=m:=by rw[List.length_drop];omega
  have e2:rowD (dv.drop K)=(rowD dv).drop (K*2):=(zBD sQ 2 qX K dv).symm;rw[e1,e2];exact gG ho hb 2 _ (by simpa[Value.ownBlock] using hgh)
 ·intro p hp;have hp':=List.mem_of_mem_drop hp;refine gG ((h.keys p hp').kept hg ?_) hb 2 _ (h.offk p hp');rcases h.apart p hp' with e|e
  ·exact .inl e
  ·exact .inr e
 ·simpa[Value.ownBlock] using hgh
 ·exact fun p hp=>h.offk p (List.mem_of_mem_drop hp)
 ·exact fun p hp=>h.apart p (List.mem_of_mem_drop hp)
 ·exact(((Below.refl B W).grown hg hB (fun k hk=>by cases hk;exact(h.own.lt g rfl).1)).setCell h.lo _)
theorem zBb {W:World} {B hb:Nat} {Xc:Nat->Option Value} {v:Value} {dv:List (aU×Value)} (h:bP W B hb Xc v dv):bP (W.setCell ⟨hb,2,none⟩ v) B hb Xc v dv where
 cell:=World.cell?_setCell_same _ _ _ h.cell
 soft:=by simpa using h.soft
 lo:=h.lo
 own:=gG h.own hb 2 _ h.off
 keys:=fun p hp=>gG (h.keys p hp) hb 2 _ (h.offk p hp)
 off:=h.off
 offk:=h.offk
 apart:=h.apart
 pair:=h.pair
 rest:=fun j=>⟨fun hj=>(World.cell?_setCell_other _ _ _ _ (by simp<;>omega)).trans ((h.rest j).1 hj),by rw[World.frozen?_setCell];exact(h.rest j).2⟩
theorem zMX {hb g n m cap K j:Nat} {dv:List (aU×Value)} (h:inH hb (.slice (some ⟨g,0,none⟩) m cap) (dv.drop K) j):inH hb (.slice (some ⟨g,0,none⟩) n cap) dv j:=by
 rcases h with h|h|⟨p,hp,e⟩
 ·exact .inl h
 ·exact .inr (.inl h)
 ·exact .inr (.inr ⟨p,List.mem_of_mem_drop hp,e⟩)
theorem zG9 (dv:List (aU×Value)) (B hb:Nat) {Xc:Nat->Option Value} (v:Value) (n:Int) (w:World) (h:bP w B hb Xc v dv) (hr:gS (ofDV dv)) (hB:B<=w.heap.size) (hn:dv.length<=1000):
  Calls Tryz.prog 125 #[.pointer (some ⟨hb,2,none⟩),.int .i64 n] w fun e w'=>e=.returned (.tuple #[])/\∃ v' dv',bP w' B hb Xc v' dv'/\dv'=dv.drop (cR (ofDV dv) n)/\Below B w w'/\∀ j,j<w.heap.size->¬inH hb v dv j->w'.heap[j]?=w.heap[j]?/\¬inH hb v' dv' j:=by
 have hK:cR (ofDV dv) n<=dv.length:=by have:=zBi (ofDV dv) n;simpa[ofDV] using this
 obtain⟨K,hKe⟩:∃ K,cR (ofDV dv) n=K:=⟨_,rfl⟩;rw[hKe] at hK;rw[hKe];have HK:=hide hKe;have c:=h.cell;have hs:=h.soft;have hlt:=h.lt;have HH:=hide h;have HR:=hide hr;clear hKe h hr;rcases HH.out.form with⟨rfl,rfl⟩|⟨g,cap,rfl,_,hgh,hc1,hc2,_⟩
 ·have hK0:K=0:=by simpa using hK
  subst hK0;go_enter Tryz.func125,Tryz.ntmps125
  go_region_with (first
   | (go_at_call 126;refine(lY [] B hb _ n _ (HH.out.on (Below.refl _ _).drew) HR.out (by simp)).mono ?_;rintro e w1 ⟨rfl,hb1⟩;rw[HK.out];have c1:=aA hb1 (aA (Below.refl _ _).drew c);have f1:=aE hb1 hlt hs)
   | (go_at_call 186;refine(zHg _).mono ?_;rintro e w2 ⟨rfl,rfl⟩))
  all_goals
   go_wp2;go_end0;exact⟨rfl,_,_,zBb (HH.out.on (aB (Below.refl _ w).drew (Nat.le_refl _) hb1)),rfl,((aB (Below.refl _ w).drew (Nat.le_refl _) hb1).mono hB).setCell HH.out.lo _,fun k h1 h2=>⟨(Below.heap_setCell _ _ _ _ (fun e=>h2 (.inl e))).trans ((aB (Below.refl _ w).drew (Nat.le_refl _) hb1).block k h1),by simpa using h2⟩⟩
 ·by_cases hK0:K=0
  ·subst hK0;go_enter Tryz.func125,Tryz.ntmps125
   go_region_with (first
    | (go_at_call 126;refine(lY dv B hb _ n _ (HH.out.on (Below.refl _ _).drew) HR.out (by omega)).mono ?_;rintro e w1 ⟨rfl,hb1⟩;rw[HK.out];have c1:=aA hb1 (aA (Below.refl _ _).drew c);have f1:=aE hb1 hlt hs)
    | (go_at_call 186;refine(zEo _ _ _ _ hc1).mono ?_;rintro e w2 ⟨rfl,rfl⟩))
   all_goals
    go_wp2;go_end0;exact⟨rfl,_,_,zBb (HH.out.on (aB (Below.refl _ w).drew (Nat.le_refl _) hb1)),by simp,((aB (Below.refl _ w).drew (Nat.le_refl _) hb1).mono hB).setCell HH.out.lo _,fun k h1 h2=>⟨(Below.heap_setCell _ _ _ _ (fun e=>h2 (.inl e))).trans ((aB (Below.refl _ w).drew (Nat.le_refl _) hb1).block k h1),by simpa using h2⟩⟩
  ·obtain⟨m,hm⟩:∃ m,dv.length=K+m:=⟨dv.length-K,by omega⟩;have HM:=hide hm;have hone:=hide (zJM HH.out.keys);rw[hm] at HH c hc1 hn;clear hm;go_enter Tryz.func125,Tryz.ntmps125
   go_region_with (first
    | (go_at_call 126;refine(lY dv B hb _ n _ (HH.out.on (Below.refl _ _).drew) HR.out (by rw[HM.out];omega)).mono ?_;rintro e w1 ⟨rfl,hb1⟩;rw[HK.out];have c1:=aA hb1 (aA (Below.refl _ _).drew c);have hw1:=aB (Below.refl _ w).drew (Nat.le_refl _) hb1;have HW:=hide (HH.out.on hw1))
    | (go_at_call 186;refine(zCN B g cap K m (rowD dv) _ (HM.out▸HW.out.own) hone.out (by omega) (by omega) hc1 hc2).mono ?_;rintro e w2 ⟨rfl,ho2,hg2⟩;obtain⟨r1,r2,r3,r4,r5⟩:=zLD HM.out HW.out (Nat.le_trans hB hw1.size) hg2 ho2;have R1:=hide r1;have R2:=hide r2;have R5:=hide r5;clear r1 r2 r5 ho2 hg2))
   all_goals
    go_wp2;go_end0;exact⟨rfl,_,_,R1.out,rfl,(hw1.mono hB).trans R2.out,fun k h1 h2=>⟨(R5.out k (Nat.lt_of_lt_of_le h1 hw1.size) (fun e=>h2 (.inl e)) (fun e=>h2 (.inr (.inl e.symm)))).trans (hw1.block k h1),fun e=>h2 (zMX e)⟩⟩
section
variable {B:Nat} {m:EMem} {s:ESt}
theorem wB (w:World) (h:EK w B m s) {i:Nat} (hi:i<4) (hv:s.ses i=none):
  Calls Tryz.prog 18 #[.pointer (some ⟨m.eb,0,none⟩),.int .i64 (i:Int)] w fun e w'=>e=.returned .nilIface/\ActE w w' B m s (dX s i):=by
 have c:=h.cell hi;rw[kI hv] at c;have c1:=h.cell1;have h1:(0:Int)<=(i:Int):=by omega
 have h2:(i:Int)<4:=by omega
 have heb:=h.lt h.ebF;have fz:=fun j=>(h.hi.rest j).2;have HN:Hid (∀ W,Below w.heap.size w W->Calls Tryz.prog 62 #[.pointer (some ⟨m.vb,0,none⟩)] W fun e w'=>∃ wb,e=.returned (.pointer (some ⟨wb,0,none⟩))/\VW w' W.heap.size wb m.vb s.now (.slice none 0 0) (.slice none 0 0) [] []/\Below W.heap.size W w'):=fun W hb=>zLr W (h.vs.on hb);have HE:Hid (∀ w1 wb,VW w1 w.heap.size wb m.vb s.now (.slice none 0 0) (.slice none 0 0) [] []->Below w.heap.size w w1->ActE w (w1.setCell ⟨m.eb,3+i,none⟩ (.pointer (some ⟨wb,0,none⟩))) B m s (dX s i)):=fun w1 wb hvw hb=>by
  obtain⟨q1,q2⟩:=h.begun hi hv hvw hb;exact⟨_,q1,rfl,⟨rfl,fun j hj=>by show(updW m.W i _ j).1=_;rw[oV _ (show j≠i from fun e=>hj (by rw[e];exact hv))]⟩,q2⟩
 clear h;generalize m.eb=eb at *;generalize m.vb=vb at *;go_enter Tryz.func18,Tryz.ntmps18;go_wp2_with fail;refine(lM i hi w).mono ?_;rintro e w1 ⟨rfl,rfl⟩;go_wp2_with fail
 go_region_with (first
  | (go_at_call 62;refine(HN.out _ (Below.refl _ _).drew).mono ?_;rintro e w2 ⟨wb,rfl,hvw,hb2⟩;have hbx:=aB (Below.refl _ w1).drew (Nat.le_refl _) hb2;have HR:=hide (HE.out w2 wb (hvw.down (Nat.le_refl _)) hbx);have c2:=aA hbx c;have fz2:=aE hbx heb (fz (3+i));clear hvw hb2 hbx)
  | fail)
 all_goals
  go_wp2;go_ret;exact⟨rfl,HR.out⟩
theorem zDY (w:World) (h:EK w B m s) {i:Nat} (hi:i<4) {v:VwL} (hv:s.ses i=some v):
  Calls Tryz.prog 18 #[.pointer (some ⟨m.eb,0,none⟩),.int .i64 (i:Int)] w fun e w'=>e=.returned (errV 7)/\w'=w:=by
 have c:=h.cell hi;rw[kE hv] at c;have h1:(0:Int)<=(i:Int):=by omega
 have h2:(i:Int)<4:=by omega
 have HE:Hid (errV 7=.iface 114 (.int .i64 7)):=rfl;rw[HE.out];clear h;go_enter Tryz.func18,Tryz.ntmps18;go_wp2_with fail;refine(lM i hi w).mono ?_;rintro e w1 ⟨rfl,rfl⟩;go_wp2;go_ret;exact⟨rfl,rfl⟩
def zLO (w w':World) (B:Nat) (m:EMem) (s:ESt) (i:Nat):Prop:=ActE w w' B m s (endE s i)/\(∀ a k,a≠0->engF m s.ses a k->w'.heap[k]?=w.heap[k]?)
theorem tE (w:World) (h:EK w B m s) (ok:EOk s) {i:Nat} (hi:i<4) (hc:s.c<=190):
  Calls Tryz.prog 63 #[.pointer (some ⟨m.eb,0,none⟩),.int .i64 (i:Int)] w fun e w'=>e=.returned (.tuple #[])/\zLO w w' B m s i:=by
 have c:=h.cell hi;have h1:(0:Int)<=(i:Int):=by omega
 have h2:(i:Int)<4:=by omega
 have fz:=(h.hi.rest (3+i)).2;obtain⟨hd,hst⟩:=h.drop hi;have hlen:m.dv.length<=1000:=by
  have e1:=congrArg List.length h.ds;have e2:=ok.dl;have:=ok.nc;unfold ofDV at e1;rw[List.length_map] at e1;omega
 have hrd:gS (ofDV m.dv):=by rw[h.ds];exact ok.rd
 have hfar:∀ a k,a≠0->engF m s.ses a k->(w.setCell ⟨m.eb,3+i,none⟩ (.pointer none)).heap[k]?=w.heap[k]?:=fun a k ha hk=>Below.heap_setCell _ _ _ _ fun e=>ha (h.ap a 0 k hk (by rw[e];exact h.ebF));have hsub:∀ a k,a≠0->engF m s.ses a k->¬inH m.eb m.hv m.dv k:=fun a k ha hk e=>ha (h.ap a 0 k hk e);have hszk:∀ a k,engF m s.ses a k->k<w.heap.size:=fun a k e=>h.lt e;have hss:(w.setCell ⟨m.eb,3+i,none⟩ (.pointer none)).heap.size=w.heap.size:=by simp
 have HO:Hid (∀ W,Below (w.setCell ⟨m.eb,3+i,none⟩ (.pointer none)).heap.size (w.setCell ⟨m.eb,3+i,none⟩ (.pointer none)) W->Calls Tryz.prog 71 #[.pointer (some ⟨m.eb,0,none⟩)] W fun e w'=>e=.returned (.int .i64 (cI (nU s i):Int))/\w'=W):=fun W hb=>wN W (hd.on hb);have HF:Hid (∀ W,Below (w.setCell ⟨m.eb,3+i,none⟩ (.pointer none)).heap.size (w.setCell ⟨m.eb,3+i,none⟩ (.pointer none)) W->Calls Tryz.prog 125 #[.pointer (some ⟨m.eb,2,none⟩),.int .i64 (cI (nU s i):Int)] W fun e w'=>e=.returned (.tuple #[])/\zLO w w' B m s i):=fun W hb=>by
  have hdW:=hd.on hb;refine(zG9 m.dv B m.eb m.hv (cI (nU s i):Int) W hdW.hi hrd hdW.blo hlen).mono ?_;rintro e w' ⟨rfl,v',dv',hH,hdv,hbl,hff⟩;have hds:ofDV dv'=(endE s i).ds:=by
   show _=s.ds.drop (cR s.ds (cI (nU s i)));rw[hdv,<-h.ds];unfold ofDV;rw[List.map_drop]
  obtain⟨q1,q2,q3⟩:=hdW.hist hH hbl hff hds;refine⟨rfl,⟨_,q1,rfl,⟨rfl,fun _ _=>rfl⟩,(hst.trans (.on hd.blo hb)).trans q2⟩,fun a k ha hk=>?_⟩;have hk':k<(w.setCell ⟨m.eb,3+i,none⟩ (.pointer none)).heap.size:=by rw[hss];exact hszk a k hk
  exact((hff k (Nat.lt_of_lt_of_le hk' hb.size) (hsub a k ha hk)).1.trans (hb.block k hk')).trans (hfar a k ha hk)
 clear h hd hst hfar hsub hszk hss hrd hlen;generalize cI (nU s i)=old at *;generalize hebe:m.eb=eb at *;go_enter Tryz.func63,Tryz.ntmps63;go_wp2_with fail;generalize w.setCell ⟨eb,3+i,none⟩ (.pointer none)=W0 at *
 go_region_with (first
  | (go_at_call 71;refine(HO.out _ (Below.refl _ _).drew).mono ?_;rintro e w2 ⟨rfl,rfl⟩)
  | (go_at_call 125;refine(HF.out _ (Below.refl _ _).drew).mono ?_;rintro e w2 ⟨rfl,ha⟩;have HR:=hide ha;clear ha)
  | fail)
 all_goals
  go_wp2;go_end0;exact⟨rfl,HR.out⟩
end
end
end Go.Proofs.YtnboipekkahmnaaGreatDoor
