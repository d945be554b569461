import Derived.Test.YtnboipekkahmnaaGreatDoorS16
set_option maxHeartbeats 8000000
set_option maxRecDepth 100000
namespace Go.Proofs.YtnboipekkahmnaaGreatDoor
open Obj renaming cells→o_
open World renaming cell?_of_block→b_,cell?_setCell_other→t_,cell?_setCell_same→u_,ownsRow.lt→l_
open Go.RowKit.Below renaming heap_setCell→h_,refl→r_
open Nat renaming le_refl→n_
open Tryz renaming prog→p_
open Value renaming int→i_
open IntKind renaming i64→k_
open Go.Joins renaming below_alloc1→a_
section
open Go.RowKit Go.Joins
attribute [local go_sem ↓] Go.wp_at_zero Go.wp_at_succ
def ownX (w:World) (B:Nat) (v:Value) (l:List Chg):Prop:=w.ownsRow B 133 3 v l.length (l.flatMap bN)/\∀ x∈l,(fun _:Chg=>True) x
theorem dD {x:Chg} (_:True):(bN x).length=3:=rfl
theorem sR {w:World} {B g n cap:Nat} {l:List Chg} (h:ownX w B (.slice (some ⟨g,0,none⟩) n cap) l) {i:Nat} (hi:i<l.length):w.rangeAt g (i*3) (bN l[i]):=fun j v hv=>by
 have hj:j<(bN l[i]).length:=(List.getElem?_eq_some_iff.1 hv).1;have e:=World.ownsRow.cells h.1 (g:=g) rfl (i*3+j) v ((uZ (f:=bN) (z:=3) (fun _ _=>rfl) i j hi hj).trans hv);rw[Go.Addr.add_mid,Nat.zero_add] at e;exact e
theorem zCL (x:Chg) (w:World):
  Calls p_ 210 #[.agg #[.string x.key,.string x.val,.bool x.gone]] w fun e w'=>e=.returned (.bool x.gone)/\Below w.heap.size w w':=by
 go_enter Tryz.func210,Tryz.ntmps210;go_wp2;go_ret;exact⟨rfl,(r_ _ _).alloc (n_ _) _⟩
def idxX:List Chg->Option Nat
 | []=>none
 | x::l=>if x.gone then some 0 else (idxX l).map (·+1)
def idxM (l:List Chg):Int:=match idxX l with|some i=>i|none=>-1
theorem zA0:∀ {l:List Chg} {k:Nat},(∀ i (h:i<l.length),i<k->l[i].gone=false)->∀ (hk:k<l.length),l[k].gone=true->idxX l=some k
 | [],_,_,hk,_=>by cases hk
 | x::l,0,_,_,e=>by unfold idxX;rw[show x.gone=true from e];rfl
 | x::l,k+1,h,hk,e=>by
  unfold idxX;rw[show x.gone=false from h 0 (by simp) (by omega),zA0 (k:=k) (fun i hi hl=>h (i+1) (by simpa using hi) (by omega)) (by simpa using hk) e];rfl
theorem zBr:∀ {l:List Chg},(∀ i (h:i<l.length),l[i].gone=false)->idxX l=none
 | [],_=>rfl
 | x::l,h=>by
  unfold idxX;rw[show x.gone=false from h 0 (by simp),zBr (fun i hi=>h (i+1) (by simpa using hi))];rfl
theorem zHF (g cap:Nat) (l:List Chg) (B:Nat) (w:World) (h:ownX w B (.slice (some ⟨g,0,none⟩) l.length cap) l) (hl:l.length<=1000):
  Calls p_ 256 #[.slice (some ⟨g,0,none⟩) l.length cap,.func (.func 210) #[] #[]] w fun e w'=>e=.returned (.int .i64 (idxM l))/\Below w.heap.size w w':=by
 have H:=hide h;clear h;go_enter Tryz.func256,Tryz.ntmps256;go_wp2
 go_loopw [8] (fun i wr=>∃ k:Nat,k<=l.length/\i=.int .i64 (k:Int)/\(∀ j (h:j<l.length),j<k->l[j].gone=false)/\Below w.heap.size w wr) (fun i _=>l.length-(intOf i).toNat)
 case atStart=>exact⟨0,Nat.zero_le _,rfl,fun j _ hj=>by omega,r_ _ _⟩
 case round=>
  obtain⟨k,hk,rfl,hno,hB⟩:=hrel;have HNO:=hide hno;clear hno;by_cases hlt:k<l.length
  ·have hlt':(k:Int)<(l.length:Int):=by omega
   have hld:=mF hB (sR H.out hlt);have x0:wr.cell? ⟨g,k*3,none⟩=some (.string l[k].key):=hld 0 _ rfl;have x1:wr.cell? ⟨g,k*3+1,none⟩=some (.string l[k].val):=hld 1 _ rfl;have x2:wr.cell? ⟨g,k*3+2,none⟩=some (.bool l[k].gone):=hld 2 _ rfl;have HH:=fun W=>hide (zCL l[k] W);clear hld;have HE:∀ b,l[k].gone=b->Hid (l[k].gone=b):=fun _ h=>h;generalize hx:l[k]=x at *;have HX:=hide hx;clear hx
   cases hb:x.gone with
   | true=>
    simp only[hb] at HH x2;have HR:Hid (idxM l=k):=by
     unfold idxM;rw[zA0 HNO.out hlt (by rw[HX.out];exact hb)];rfl
    go_wp2_with (first
     | (go_at_call 210;refine(HH _).out.mono ?_;rintro e w1 ⟨rfl,hb1⟩)
     | fail)
    go_ret;exact⟨iJ HR.out.symm,aB hB (n_ _) hb1⟩
   | false=>
    simp only[hb] at HH x2;go_wp2_with (first
     | (go_at_call 210;refine(HH _).out.mono ?_;rintro e w1 ⟨rfl,hb1⟩)
     | fail)
    exact⟨⟨k+1,by omega,by go_num,fun j h hj=>by
     by_cases e:j=k
     ·subst e;rw[HX.out];exact hb
     ·exact HNO.out j h (by omega),aB hB (n_ _) hb1⟩,by simp[intOf];omega⟩
  ·have ek:k=l.length:=by omega
   subst ek;have HR:Hid (idxM l=-1):=by
    unfold idxM;rw[zBr fun i hi=>HNO.out i hi hi];rfl
   have lk:¬(l.length:Int)<(l.length:Int):=by omega
   go_wp2;go_ret;exact⟨iJ HR.out.symm,hB⟩
def offX (l:List Chg):List Chg:=l.filter fun x=>!x.gone
theorem zBs {l:List Chg} {k:Nat} (hk:k<l.length):offX (l.take (k+1))=offX (l.take k)++if l[k].gone then [] else [l[k]]:=by
 unfold offX;rw[List.take_succ_eq_append_getElem hk,List.filter_append];cases h:l[k].gone<;>simp[h]
theorem zHA {l:List Chg} (h:idxX l=none):offX l=l:=by
 induction l with
 | nil=>rfl
 | cons x l ih=>
  unfold idxX at h
  cases e:x.gone with
  | true=>rw[e] at h;simp at h
  | false=>
   rw[e] at h;have h':idxX l=none:=by simpa using h
   show List.filter _ (x::l)=x::l;rw[List.filter_cons,e];have:=ih h';unfold offX at this;simp[this]
theorem zBc:∀ {l:List Chg} {k:Nat},idxX l=some k->∃ hk:k<l.length,l[k].gone=true/\offX (l.take k)=l.take k
 | [],_,h=>by cases h
 | x::l,k,h=>by
  unfold idxX at h
  cases e:x.gone with
  | true=>
   rw[e] at h;have h':0=k:=by simpa using h
   subst h';exact⟨by simp,e,rfl⟩
  | false=>
   rw[e] at h
   cases hk:idxX l with
   | none=>rw[hk] at h;simp at h
   | some j=>
    rw[hk] at h;have h':j+1=k:=by simpa using h
    subst h';obtain⟨a,b,c⟩:=zBc hk;refine⟨by simpa using a,b,?_⟩;unfold offX at c ⊢;rw[List.take_succ_cons,List.filter_cons,e,c];rfl
theorem zK3 {w:World} {B g cap:Nat} {L:List Chg} (h:ownX w B (.slice (some ⟨g,0,none⟩) L.length cap) L) (i:Nat) (hi:i<L.length) (x:Chg) (hx:True):ownX (w.setCells g (i*3) (bN x)) B (.slice (some ⟨g,0,none⟩) L.length cap) (L.set i x):=by
 obtain⟨⟨hlen,h2⟩,hs⟩:=h;have hs':∀ y∈L.set i x,True:=fun y hy=>(List.mem_or_eq_of_mem_set hy).elim (hs y) (fun _=>trivial);rcases h2 with⟨e,_⟩|⟨g',cap',cur,e,hB,hg,h3,h4,h5,h6⟩
 ·cases e
 ·cases e;refine⟨⟨by rw[cC (z:=3) (fun y hy=>dD (hs' y hy))],.inr ⟨g,cap,(splice cur.toList (i*3) (bN x)).toArray,by rw[List.length_set],hB,?_,by rw[List.length_set];exact h3,h4,?_,?_⟩⟩,hs'⟩
  ·refine eY g _ (0,0) _ _ w cur.toList (by simpa using hg) ?_;rw[dD hx,Array.length_toList,h5];omega
  ·rw[List.size_toArray,length_splice _ _ _ (by rw[dD hx,Array.length_toList,h5];omega),Array.length_toList,h5]
  ·rw[List.length_set];have hc:∀ y∈L,(bN y).length=3:=fun y hy=>dD (hs y hy);rw[<-uV hc i hi x (dD hx),<-h6];apply List.ext_getElem?;intro j;have hb:i*3+(bN x).length<=cur.toList.length:=by rw[dD hx,Array.length_toList,h5];omega
   have hb2:i*3+(bN x).length<=(cur.toList.take (L.length*3)).length:=by rw[h6,cC hc,dD hx];omega
   rw[mS _ _ _ hb2,List.getElem?_take];by_cases hj:j<L.length*3
   ·rw[if_pos hj,mS _ _ _ hb,List.getElem?_take,if_pos hj]
   ·rw[if_neg hj,List.getElem?_take,if_neg hj,if_neg (by omega),if_neg (by rw[dD hx];omega)]
theorem zJS {w:World} {B g cap:Nat} {L R:List Chg} (h:ownX w B (.slice (some ⟨g,0,none⟩) L.length cap) L) (hR:L.take R.length=R):ownX w B (.slice (some ⟨g,0,none⟩) R.length cap) R:=by
 obtain⟨⟨hlen,h2⟩,hs⟩:=h;have hRL:R.length<=L.length:=by have:=congrArg List.length hR;rw[List.length_take] at this;omega
 have hs':∀ y∈R,True:=fun y hy=>hs y (List.mem_of_mem_take (by rw[hR];exact hy));rcases h2 with⟨e,_⟩|⟨g',cap',cur,e,hB,hg,h3,h4,h5,h6⟩
 ·cases e
 ·cases e;refine⟨⟨cC (z:=3) fun y hy=>dD (hs' y hy),.inr ⟨g,cap,cur,rfl,hB,hg,by omega,h4,h5,?_⟩⟩,hs'⟩;have e1:cur.toList.take (R.length*3)=(L.flatMap bN).take (R.length*3):=by rw[<-h6,List.take_take];congr 1;omega
  rw[e1]
  conv=>lhs;rw[<-List.take_append_drop R.length L,hR,List.flatMap_append]
  rw[List.take_append_of_le_length (by rw[cC (z:=3) fun y hy=>dD (hs' y hy)];omega),List.take_of_length_le (by rw[cC (z:=3) fun y hy=>dD (hs' y hy)];omega)]
theorem zIh {w:World} {B g cap:Nat} {R:List Chg} (h:ownX w B (.slice (some ⟨g,0,none⟩) R.length cap) R) (zs:List Value) (hz:R.length*3+zs.length<=cap*3):ownX (w.setCells g (R.length*3) zs) B (.slice (some ⟨g,0,none⟩) R.length cap) R:=by
 obtain⟨⟨hlen,h2⟩,hs⟩:=h;rcases h2 with⟨e,_⟩|⟨g',cap',cur,e,hB,hg,h3,h4,h5,h6⟩
 ·cases e
 ·cases e;have hcl:cur.toList.length=cap*3:=(Array.length_toList ..).trans h5;have hb:R.length*3+zs.length<=cur.toList.length:=by rw[hcl];exact hz
  refine⟨⟨hlen,.inr ⟨g,cap,(splice cur.toList (R.length*3) zs).toArray,rfl,hB,eY g _ (0,0) _ _ w cur.toList (by simpa using hg) hb,h3,h4,?_,?_⟩⟩,hs⟩
  ·rw[List.size_toArray,length_splice _ _ _ hb,Array.length_toList,h5]
  ·rw[<-h6];unfold splice;rw[List.take_append_of_le_length (by rw[List.length_take,hcl];omega),List.take_take];congr 1;omega
theorem yK {w:World} {B g cap:Nat} {L:List Chg} (h:ownX w B (.slice (some ⟨g,0,none⟩) L.length cap) L):∃ cur:List Value,w.heap[g]?=some (.cells cur.toArray 133 (0,0))/\cur.length=cap*3:=by
 rcases h.1.2 with⟨e,_⟩|⟨g',cap',cur,e,hB,hg,h3,h4,h5,h6⟩
 ·cases e
 ·cases e;exact⟨cur.toList,by simpa using hg,by rw[Array.length_toList,h5]⟩
theorem uB {w w':World} {B:Nat} {v:Value} {l:List Chg} (h:ownX w B v l) (hk:∀ k,v.ownBlock=some k->w'.heap[k]?=w.heap[k]?):ownX w' B v l:=by
 refine⟨⟨h.1.1,?_⟩,h.2⟩;rcases h.1.2 with e|⟨g,cap,cur,rfl,hB,hg,h3⟩
 ·exact .inl e
 ·exact .inr ⟨g,cap,cur,rfl,hB,(hk g rfl).trans hg,h3⟩
structure zCT (w w':World) (B g:Nat) (v:Value) (l:List Chg):Prop where
 own:ownX w' B v l
 bel:Below B w w'
 far:∀ k,k≠g->k<w.heap.size->w'.heap[k]?=w.heap[k]?
theorem zKu:∃ z:Value,(∀ w,(zeroValue 133).run p_ w=.ok z w)/\z.cells.size=3/\∀ v∈z.cells,v.oneCell'=true:=by
 have h:(Tryz.prog.info? 133).bind (fun i=>i.zero.map fun z=>(z.cells.size,z.cells.all (·.oneCell')))=some (3,true):=by kernel_rfl
 cases hi:Tryz.prog.info? 133 with
 | none=>rw[hi] at h;cases h
 | some i=>
  rw[hi] at h
  cases hz:i.zero with
  | none=>simp[hz] at h
  | some z=>
   simp only[Option.bind_some,hz,Option.map_some,Option.some.injEq,Prod.mk.injEq] at h;exact⟨z,fun w=>by simp[zeroValue,typeInfo,hi,hz],h.1,fun v hv=>Array.all_eq_true_iff_forall_mem.1 h.2 v hv⟩
theorem zGW (g cap:Nat) (l:List Chg) (B:Nat) (w:World) (h:ownX w B (.slice (some ⟨g,0,none⟩) l.length cap) l) (hl:l.length<=1000) (hB:B<=w.heap.size):
  Calls p_ 209 #[.slice (some ⟨g,0,none⟩) l.length cap,.func (.func 210) #[] #[]] w fun e w'=>e=.returned (.slice (some ⟨g,0,none⟩) (offX l).length cap)/\zCT w w' B g (.slice (some ⟨g,0,none⟩) (offX l).length cap) (offX l):=by
 have HI:=hide (zHF g cap l B w h hl);have H:=hide h;have hgl:g<w.heap.size:=by
  rcases h.1.2 with⟨e,_⟩|⟨g',cap',cur,e,_,hg,_⟩
  ·cases e
  ·cases e;exact(Array.getElem?_eq_some_iff.1 hg).1
 have hBg:B<=g:=(l_ h.1 g rfl).1;have hcap:l.length<=cap/\cap<=9223372036854775807:=by
  rcases h.1.2 with⟨e,_⟩|⟨g',cap',cur,e,_,hg,h1,h2,_⟩
  ·cases e
  ·cases e;unfold maxLen at h2;exact⟨h1,by omega⟩
 obtain⟨hc1,hc2⟩:=hcap;clear h
 cases hix:idxX l with
 | none=>
  have HR:=hide (zHA hix);have hin:idxM l=-1:=by unfold idxM;rw[hix]
  rw[hin] at HI;rw[HR.out];clear hix hin;go_enter Tryz.func209,Tryz.ntmps209;go_wp2_with (go_at_call 256;refine HI.out.mono ?_;rintro e w1 ⟨rfl,hb1⟩)
  go_ret;exact⟨rfl,⟨uB H.out fun k e=>by cases e;exact hb1.block g hgl,hb1.mono hB,fun k _ hk=>hb1.block k hk⟩⟩
 | some i0=>
  obtain⟨hi0,hh,ht⟩:=zBc hix;have hin:idxM l=(i0:Int):=by unfold idxM;rw[hix]
  rw[hin] at HI;have HT:=hide ht;have HHit:=hide hh;clear hix hin ht hh;have hne:((i0:Int) == -1)=false:=beq_eq_false_iff_ne.2 (by omega);go_enter Tryz.func209,Tryz.ntmps209;go_wp2_with (go_at_call 256;refine HI.out.mono ?_;rintro e w1 ⟨rfl,hb1⟩)
  go_loopw [5,6] (fun iv jv wr=>∃ (j:Nat) (L:List Chg),j<=l.length/\(offX (l.take j)).length<j/\iv=.int .i64 ((offX (l.take j)).length:Int)/\jv=.int .i64 (j:Int)/\L.length=l.length/\L.take (offX (l.take j)).length=offX (l.take j)/\(∀ m,j<=m->L[m]?=l[m]?)/\zCT w wr B g (.slice (some ⟨g,0,none⟩) l.length cap) L) (fun _ jv _=>l.length-(intOf jv).toNat)
  case atStart=>
   have e1:offX (l.take (i0+1))=l.take i0:=by rw[zBs hi0,HHit.out,HT.out];simp
   refine⟨i0+1,l,by omega,by rw[e1,List.length_take];omega,?_,by go_num,rfl,?_,fun _ _=>rfl,⟨uB H.out fun k e=>by cases e;exact hb1.block g hgl,hb1.mono hB,fun k _ hk=>hb1.block k hk⟩⟩
   ·rw[e1,List.length_take,Nat.min_eq_left (by omega)]
   ·rw[e1,List.length_take,Nat.min_eq_left (by omega)]
  case round=>
   obtain⟨j,L,hj,hij,rfl,rfl,hLl,hLt,hLd,hD⟩:=hrel;have HD:=hide hD;have HLT:=hide hLt;have HLD:=hide hLd;have HLL:=hide hLl;clear hD hLt hLd hLl;by_cases hlt:j<l.length
   ·have hlt':(j:Int)<(l.length:Int):=by omega
    have hown:ownX wr B (.slice (some ⟨g,0,none⟩) L.length cap) L:=by rw[HLL.out];exact HD.out.own
    have hjL:j<L.length:=by rw[HLL.out];exact hlt
    have hx:L[j]=l[j]:=by
     have:=HLD.out j (n_ _);rw[List.getElem?_eq_getElem hjL,List.getElem?_eq_getElem hlt] at this;exact Option.some.inj this
    have hra:=sR hown hjL;rw[hx] at hra;have HRA:=hide hra;have HSX:Hid True:=trivial;have HOT:=hide (zBs hlt);generalize hxe:l[j]=x at *;have HXE:=hide hxe;have HOWN:=hide hown;have HLX:=hide hx;clear hxe hown hx hra;generalize hie:(offX (List.take j l)).length=i at *;have HIE:=hide hie;clear hie;have hsz:w.heap.size<=wr.heap.size:=HD.out.bel.size;have x0:wr.cell? ⟨g,j*3,none⟩=some (.string x.key):=HRA.out 0 _ rfl;have x1:wr.cell? ⟨g,j*3+1,none⟩=some (.string x.val):=HRA.out 1 _ rfl;have x2:wr.cell? ⟨g,j*3+2,none⟩=some (.bool x.gone):=HRA.out 2 _ rfl;have HH:=fun W=>hide (zCL x W);have HC3:Hid (∀ w2:World,Below (wr.alloc (.cells #[.string x.key,.string x.val,.bool x.gone] 133)).heap.size (wr.alloc (.cells #[.string x.key,.string x.val,.bool x.gone] 133)) w2->w2.cell? ⟨wr.heap.size,0,none⟩=some (.string x.key)/\w2.cell? ⟨wr.heap.size,1,none⟩=some (.string x.val)/\w2.cell? ⟨wr.heap.size,2,none⟩=some (.bool x.gone)):=fun w2 hb=>⟨aA hb (aC _ _ _ 0),aA hb (aC _ _ _ 1),aA hb (aC _ _ _ 2)⟩;have HDX:Hid (∀ w2:World,Below (wr.alloc (.cells #[.string x.key,.string x.val,.bool x.gone] 133)).heap.size (wr.alloc (.cells #[.string x.key,.string x.val,.bool x.gone] 133)) w2->zCT w w2 B g (.slice (some ⟨g,0,none⟩) l.length cap) L):=fun w2 hb=>by
     have hb':=aB (a_ wr (.cells #[.string x.key,.string x.val,.bool x.gone] 133)) (n_ _) hb;exact⟨uB HD.out.own fun k e=>by cases e;exact hb'.block g (by omega),HD.out.bel.trans (hb'.mono (by omega)),fun k h1 h2=>(hb'.block k (by omega)).trans (HD.out.far k h1 h2)⟩
    cases hbq:x.gone with
    | true=>
     simp only[hbq] at HH x2 HC3 HDX;go_wp2_with (first
      | (go_at_call 210;refine(HH _).out.mono ?_;rintro e w2 ⟨rfl,hb2⟩;obtain⟨y0,y1,y2⟩:=HC3.out _ hb2)
      | fail)
     have e1:offX (l.take (j+1))=offX (l.take j):=by rw[HOT.out,hbq];simp
     refine⟨⟨j+1,L,by omega,by rw[e1,HIE.out];omega,by rw[e1,HIE.out],by go_num,HLL.out,by rw[e1,HIE.out];exact HLT.out,fun m hm=>HLD.out m (by omega),HDX.out _ hb2⟩,by simp[intOf];omega⟩
    | false=>
     simp only[hbq] at HH x2 HC3 HDX;have HZ:Hid (∀ w2:World,Below (wr.alloc (.cells #[.string x.key,.string x.val,.bool false] 133)).heap.size (wr.alloc (.cells #[.string x.key,.string x.val,.bool false] 133)) w2->(∃ u0 u1 u2,w2.cell? ⟨g,i*3,none⟩=some u0/\w2.cell? ⟨g,i*3+1,none⟩=some u1/\w2.cell? ⟨g,i*3+2,none⟩=some u2)/\∀ o,w2.frozen? ⟨g,o,none⟩=false):=fun w2 hb=>by
      have hw:ownX w2 B (.slice (some ⟨g,0,none⟩) L.length cap) L:=by rw[HLL.out];exact(HDX.out _ hb).own
      have hr:=sR hw (i:=i) (by rw[HLL.out];omega);obtain⟨cur,hcur,_⟩:=yK hw;exact⟨⟨_,_,_,hr 0 _ rfl,hr 1 _ rfl,hr 2 _ rfl⟩,fun o=>unfrozen_of_block hcur o⟩
     have hib:(i:Int)<(l.length:Int):=by omega
     go_wp2_with (first
      | (go_at_call 210;refine(HH _).out.mono ?_;rintro e w2 ⟨rfl,hb2⟩;obtain⟨y0,y1,y2⟩:=HC3.out _ hb2;obtain⟨⟨q0,q1,q2,z0,z1,z2⟩,zf⟩:=HZ.out _ hb2)
      | fail)
     have e1:offX (l.take (j+1))=offX (l.take j)++[x]:=by rw[HOT.out,hbq];rfl
     have e2:(offX (l.take (j+1))).length=i+1:=by rw[e1,List.length_append,HIE.out];rfl
     have hD2:=HDX.out _ hb2;have hiL:i<L.length:=by rw[HLL.out];omega
     refine⟨⟨j+1,L.set i x,by omega,by rw[e2];omega,by rw[e2];go_num,by go_num,by rw[List.length_set];exact HLL.out,?_,fun m hm=>?_,⟨?_,dW hBg [.string x.key,.string x.val,.bool false] (i*3) _ hD2.bel,fun k h1 h2=>(cA g [.string x.key,.string x.val,.bool false] (i*3) _ h1).trans (hD2.far k h1 h2)⟩⟩,by simp[intOf];omega⟩
     ·rw[e2,e1,List.take_set,List.take_succ_eq_append_getElem hiL,HLT.out,List.set_append_right _ _ (by rw[HIE.out];exact n_ _),HIE.out,Nat.sub_self];rfl
     ·rw[List.getElem?_set_ne (by omega)];exact HLD.out m (by omega)
     ·have hcx:bN x=[.string x.key,.string x.val,.bool false]:=by unfold bN;rw[hbq]
      have:=zK3 (by rw[HLL.out];exact hD2.own) i hiL x HSX.out;rw[hcx] at this;rw[HLL.out] at this;exact this
   ·have ej:j=l.length:=by omega
    subst ej;have hlt':¬(l.length:Int)<(l.length:Int):=by omega
    rw[List.take_length] at *;have hown:ownX wr B (.slice (some ⟨g,0,none⟩) L.length cap) L:=by rw[HLL.out];exact HD.out.own
    have hR:=zJS hown HLT.out;obtain⟨cur,hcur,hcl⟩:=yK hown;obtain⟨z,hz1,hz2,hz3⟩:=zKu;have hrun:=fun ty=>oJ (P:=p_) wr 36 133 ty z Tryz.underlying36 hz1 hz3 g ((offX l).length*3) (l.length-(offX l).length) (cap-(offX l).length) cur _ hcur (by rw[hz2,hcl,<-Nat.add_mul];exact Nat.mul_le_mul_right _ (by omega));have HP:=hide (zIh hR (Builtin.zeroCells z.cells (l.length-(offX l).length)).toList (by simp only[Builtin.zeroCells,Array.length_toList,Array.size_map,Array.size_range,hz2];rw[<-Nat.add_mul];exact Nat.mul_le_mul_right _ (by omega)));generalize (Builtin.zeroCells z.cells (l.length-(offX l).length)).toList=zs at *;have HHR:=hide hrun;clear hrun hz1 hz2 hz3 hR hown hcur hcl;generalize hRe:offX l=R at *;have HRE:=hide hRe;clear hRe;have hr0:=HHR.out 0;go_wp2;go_ret;rw[HRE.out];exact⟨rfl,⟨HP.out,dW hBg _ _ _ HD.out.bel,fun k h1 h2=>(cA g _ _ _ h1).trans (HD.out.far k h1 h2)⟩⟩
theorem zH5 (w:World):
  Calls p_ 209 #[.slice none 0 0,.func (.func 210) #[] #[]] w fun e w'=>e=.returned (.slice none 0 0)/\w'=w:=by
 have HI:Calls p_ 256 #[.slice none 0 0,.func (.func 210) #[] #[]] w fun e w'=>e=.returned (.int .i64 (-1))/\w'=w:=by
  go_enter Tryz.func256,Tryz.ntmps256;go_wp2;refine wp_loop_rounds 1 ?_;rw[rounds_succ];go_wp2;go_ret;exact⟨rfl,rfl⟩
 go_enter Tryz.func209,Tryz.ntmps209;go_wp2_with (go_at_call 256;refine HI.mono ?_;rintro e w1 ⟨rfl,rfl⟩)
 go_ret;exact⟨rfl,rfl⟩
structure zNg (w w':World) (B:Nat) (v v':Value) (l:List Chg):Prop where
 own:ownX w' B v' l
 bel:Below B w w'
 far:∀ k,v.ownBlock≠some k->k<w.heap.size->w'.heap[k]?=w.heap[k]?
 same:v'.ownBlock=v.ownBlock
theorem zJR (v:Value) (l:List Chg) (B:Nat) (w:World) (h:ownX w B v l) (hl:l.length<=1000) (hB:B<=w.heap.size):
  Calls p_ 209 #[v,.func (.func 210) #[] #[]] w fun e w'=>∃ ao n cap,e=.returned (.slice ao n cap)/\zNg w w' B v (.slice ao n cap) (offX l):=by
 rcases h.1.2 with⟨e,e2⟩|⟨g,cap,cur,e,_⟩
 ·subst e;have hl0:l=[]:=List.eq_nil_of_length_eq_zero e2;subst hl0;exact(zH5 w).mono fun e w' ⟨he,hw⟩=>⟨none,0,0,he,by subst hw;exact⟨h,r_ _ _,fun _ _ _=>rfl,rfl⟩⟩
 ·subst e;exact(zGW g cap l B w h hl hB).mono fun e w' ⟨he,hD⟩=>⟨_,_,_,he,⟨hD.own,hD.bel,fun k hk hlt=>hD.far k (fun e=>hk (by rw[e];rfl)) hlt,rfl⟩⟩
theorem zGU {l rows:List Chg} {k:Nat} (hk:k<l.length):(l.take (k+1)).foldl insL rows=insL ((l.take k).foldl insL rows) l[k]:=by
 rw[List.take_succ_eq_append_getElem hk,List.foldl_append];rfl
theorem lG (rows l:List Chg) (v:Value) (ao:Option Addr) (cap B:Nat) (w:World) (ho:bO w B v rows) (hd:bW w ao l) (hr:rows.length<=100) (hl:l.length<=100):
  Calls p_ 141 #[v,.slice ao l.length cap] w fun e w'=>∃ v',e=.returned v'/\bO w' w.heap.size v' (aK rows l)/\Below w.heap.size w w':=by
 have HCL:=hide (uO rows v B w ho (by omega));have HD:=hide hd;clear ho hd;go_enter Tryz.func141,Tryz.ntmps141;go_wp2_with (go_at_call 121;refine HCL.out.mono ?_;rintro e w1 ⟨v1,rfl,ho1,hb1⟩;have HO1:=hide ho1;have HB1:=hide hb1;clear ho1 hb1)
 go_loopw [0,11] (fun v iv wr=>∃ k:Nat,k<=l.length/\iv=.int .i64 (k:Int)/\bO wr w.heap.size v ((l.take k).foldl insL rows)/\Below w.heap.size w wr) (fun _ iv _=>l.length-(intOf iv).toNat)
 case atStart=>exact⟨0,Nat.zero_le _,rfl,HO1.out,HB1.out⟩
 case round=>
  obtain⟨k,hk,rfl,ho,hb⟩:=hrel;clear HO1 HB1;have hfl:=tW (l.take k) rows;rw[List.length_take] at hfl;by_cases hlt:k<l.length
  ·have hlt':(k:Int)<(l.length:Int):=by omega
   have hk0:(0:Int)<=(k:Int):=by omega
   rcases HD.out with e|⟨b,off,e,hch⟩
   ·rw[e] at hlt;simp at hlt
   subst e;obtain⟨x0,x1,x2⟩:=hch k hlt;have hft:=zGU (rows:=rows) hlt;clear hch;generalize l[k]=x at *;generalize (l.take k).foldl insL rows=m at *;replace x0:=aA hb x0;replace x1:=aA hb x1;replace x2:=aA hb x2;have HO:=hide ho;have HBR:=hide hb;have HFT:=hide hft;have HBX:=hide (a_ wr (o_ #[.string x.key,.string x.val,.bool x.gone] 133));have HPU:Hid (∀ W,Below wr.heap.size wr W->Calls p_ 171 #[u0,.agg #[.string x.key,.string x.val,.bool x.gone]] W fun e w'=>∃ v',e=.returned v'/\bO w' w.heap.size v' (insL m x)/\Below W.heap.size W w'):=fun W hW=>by
    refine(zAB m x u0 w.heap.size W (bQ HO.out hW) (by omega)).mono ?_;rintro e w' ⟨g,cap',rfl,h1,h2⟩;exact⟨_,rfl,dJ h1 (Nat.le_trans HBR.out.size hW.size),h2⟩
   clear ho hb hft;go_wp2_with (go_at_call 171;refine(HPU.out _ HBX.out).mono ?_;rintro e w7 ⟨v7,rfl,ho7,hb7⟩;have HO7:=hide ho7;have HB7:=hide (aB HBR.out (n_ _) (aB HBX.out (n_ _) hb7));clear ho7 hb7)
   exact⟨⟨k+1,by omega,by go_num,by rw[HFT.out];exact HO7.out,HB7.out⟩,by simp[intOf];omega⟩
  ·have ek:k=l.length:=by omega
   subst ek;have hlt':¬(l.length:Int)<(l.length:Int):=by omega
   rw[List.take_length] at ho;have HO:=hide ho;have HBR:=hide hb;have HDE:=hide (zJR u0 (l.foldl insL rows) w.heap.size wr ⟨HO.out,fun _ _=>trivial⟩ (by have:=tW l rows;omega) HBR.out.size);clear ho hb;go_wp2_with (go_at_call 209;refine HDE.out.mono ?_;rintro e w7 ⟨a7,n7,c7,rfl,hD7⟩;have HD7:=hide hD7;clear hD7)
   go_ret;exact⟨_,rfl,HD7.out.own.1,HBR.out.trans HD7.out.bel⟩
section
variable {w w':World} {N B:Nat} {S S':Nat->Prop} {v:Value} {l:List Dd}
theorem zGr {d:Dd} (h:zGV w N d):bW w d.ao d.chs:=by
 by_cases h0:d.chs=[]
 ·exact .inl h0
 ·obtain⟨g,cap,hv,hc⟩:=zDr h (List.length_pos_iff.2 h0);have e:d.ao=some ⟨g,0,none⟩:=by unfold ddV at hv;simp only[Value.slice.injEq] at hv;exact hv.1
  exact .inr ⟨g,0,e,hc.2⟩
end
section
variable {B db:Nat} {S:Nat->Prop} {s:DSt}
theorem iK (w:World) (hk:DK w B db S s) (hn:50<=s.now.length):Calls p_ 192 #[.pointer (some ⟨db,0,none⟩)] w fun e w'=>e=.returned (.int .i64 ((s.now.length-50:Nat):Int))/\w'=w:=by
 have HS:=hide (mU w hk);have hm:=hk.many;clear hk;generalize s.now.length=n at *;have h0:(50:Int)<=(n:Int):=by omega
 have h1:(n:Int)<=200:=by omega
 go_enter Tryz.func192,Tryz.ntmps192;go_wp2_with (go_at_call 123;refine HS.out.mono ?_;rintro e w1 ⟨rfl,rfl⟩)
 go_ret;exact⟨iJ (by omega),rfl⟩
theorem mC.le {w0 w w':World} {lb fr many first u:Nat} {dv:Value} {ds:List (List Chg)} (h:mC w0 w' lb db fr many first dv ds u) (hb:Below w.heap.size w w0):mC w w' lb db fr many first dv ds u:=by
 obtain⟨l,h1,h2,h3⟩:=h.de;exact⟨⟨l,⟨ownsRow_le h1.1 hb.size,fun d hd=>dJ (h1.2.1 d hd) hb.size,h1.2.2⟩,h2,h3⟩,h.dn,h.hd,Nat.le_trans hb.size h.new,aB hb (n_ _) h.bel⟩
theorem tM (area first size:Nat) (w:World) (hk:DK w B db S s) (hd:s.down=false) (h1:51<=s.now.length) (h2:1<=first) (hf:first<=2):
  Calls p_ 138 #[.pointer (some ⟨db,0,none⟩),.agg #[.int .i64 (area:Int),.int .i64 (first:Int),.int .i64 (size:Int)]] w fun e w'=>∃ lb dv,e=.returned (.tuple #[.pointer (some ⟨lb,0,none⟩),dv,.nilIface])/\mC w w' lb db 50 (s.now.length-50) first dv (mX (eB s 50 (s.now.length-50)) first) (mH (eB s 50 (s.now.length-50)) first):=by
 have hB0:=a_ w (o_ #[.int .i64 (area:Int),.int .i64 (first:Int),.int .i64 (size:Int)] 202);have r1:(w.alloc (o_ #[.int .i64 (area:Int),.int .i64 (first:Int),.int .i64 (size:Int)] 202)).cell? ⟨w.heap.size,1,none⟩=some (.int .i64 (first:Int)):=aC _ _ _ 1;have HLS:Hid (∀ W,Below w.heap.size w W->Calls p_ 192 #[.pointer (some ⟨db,0,none⟩)] W fun e w'=>e=.returned (.int .i64 ((s.now.length-50:Nat):Int))/\w'=W):=fun W hb=>iK W (hk.on hb) (by omega);have HOP:Hid (∀ W,Below w.heap.size w W->Calls p_ 201 #[.pointer (some ⟨db,0,none⟩),.int .i64 50,.int .i64 ((s.now.length-50:Nat):Int),.int .i64 (first:Int)] W fun e w'=>∃ lb dv,e=.returned (.tuple #[.pointer (some ⟨lb,0,none⟩),dv,.nilIface])/\mC w w' lb db 50 (s.now.length-50) first dv (mX (eB s 50 (s.now.length-50)) first) (mH (eB s 50 (s.now.length-50)) first)):=fun W hb=>by
  refine(zHf 50 (s.now.length-50) first W (hk.on hb) hd (by omega) h2 (by omega) (by omega)).mono ?_;rintro e w' ⟨lb,dv,he,ho⟩;exact⟨lb,dv,he,ho.le hb⟩
 clear hk hd;generalize mX (eB s 50 (s.now.length-50)) first=ds at *;generalize mH (eB s 50 (s.now.length-50)) first=u at *;generalize s.now.length-50=m at *;have HB0:=hide hB0;clear hB0;go_enter Tryz.func138,Tryz.ntmps138;go_wp2_with fail
 go_region_with (first
  | (go_at_call 192;refine(HLS.out _ (by exact aB HB0.out (n_ _) (below_draws _ _ _))).mono ?_;rintro e w7 ⟨rfl,rfl⟩)
  | (go_at_call 201;refine(HOP.out _ (by exact aB HB0.out (n_ _) (below_draws _ _ _))).mono ?_;rintro e w8 ⟨lb,dv,rfl,ho8⟩;have HO8:=hide ho8;clear ho8;dsimp only))
 all_goals
  go_wp2;go_ret3;exact⟨lb,dv,rfl,HO8.out⟩
end
section
variable {B db:Nat} {S:Nat->Prop} {s:DSt}
structure SNew (w w':World) (B sb db:Nat) (S:Nat->Prop) (x:SSt):Prop where
 ex:∃ lb v,SK w' B sb lb db S v x/\w.heap.size<=lb/\∀ k,v.ownBlock=some k->w.heap.size<=k
 new:w.heap.size<=sb
 bel:Below w.heap.size w w'
theorem zGH {ds:List (List Chg)} {rows:List Chg} {k:Nat} (hk:k<ds.length):(ds.take (k+1)).foldl aK rows=aK ((ds.take k).foldl aK rows) ds[k]:=by
 rw[List.take_succ_eq_append_getElem hk,List.foldl_append];rfl
theorem zFO {area first u:Nat} {rows:List Chg} (w:World) (hk:DK w B db S s) (hr:cQ s area first u rows):
  Calls p_ 74 #[.pointer (some ⟨db,0,none⟩)] w fun e w'=>∃ sb,e=.returned (.tuple #[.pointer (some ⟨sb,0,none⟩),.nilIface])/\SNew w w' B sb db S ⟨s,area,first,u,rows⟩:=by
 obtain⟨rows0,ds,hod,hro⟩:=hr.ex;have hps:=jA hod.fine hod.few;have ha1:=hod.a1;have hf1:=hod.f1;have h54:=hod.n54;have hB:=hk.lo;have hus:=cQ.us hr;have hsc:dB first 0 (eB s 50 (s.now.length-50)) ([],[]) 0=(ds,u):=hod.has;have hde:mX (eB s 50 (s.now.length-50)) first=ds/\mH (eB s 50 (s.now.length-50)) first=u:=by unfold mX mH;rw[hsc];exact⟨rfl,rfl⟩
 have HRR:=hide (zBX area first (aO rows0).size w hk hr.down ha1 hf1.1 hf1.2 hps h54 hod.root);have HRO:Hid (∀ W,Below w.heap.size w W->Calls p_ 140 #[.pointer (some ⟨db,0,none⟩),.agg #[.int .i64 (area:Int),.int .i64 (first:Int),.int .i64 ((aO rows0).size:Int)]] W fun e w'=>∃ v,e=.returned (.tuple #[v,.nilIface])/\bO w' W.heap.size v rows0/\Below W.heap.size W w'):=fun W hb=>zCo area first rows0 W (hk.on hb) hr.down ha1 (by omega) hod.fine hod.few hod.text;have HOL:Hid (∀ W,Below w.heap.size w W->Calls p_ 138 #[.pointer (some ⟨db,0,none⟩),.agg #[.int .i64 (area:Int),.int .i64 (first:Int),.int .i64 ((aO rows0).size:Int)]] W fun e w'=>∃ lb dv,e=.returned (.tuple #[.pointer (some ⟨lb,0,none⟩),dv,.nilIface])/\mC W w' lb db 50 (s.now.length-50) first dv ds u):=fun W hb=>by
  have:=tM area first (aO rows0).size W (hk.on hb) hr.down (by omega) hf1.1 hf1.2;rw[hde.1,hde.2] at this;exact this
 have HHK:=hide hk;have HHR:=hide hr;have HOD:=hide hod;have HRW:=hide hro;clear hk hr hod hro hsc hde;generalize hsz:(aO rows0).size=size at *;clear hsz;go_enter Tryz.func74,Tryz.ntmps74;go_wp2_with fail;refine HRR.out.mono ?_;rintro e w1 ⟨rfl,hb1⟩;have hbA:=aB hb1 (n_ _) (a_ w1 (o_ #[.int k_ (area:Int),.int k_ (first:Int),.int k_ (size:Int)] 202));have g0:(w1.alloc (o_ #[.int k_ (area:Int),.int k_ (first:Int),.int k_ (size:Int)] 202)).cell? ⟨w1.heap.size,0,none⟩=some (.int .i64 (area:Int)):=aC _ _ _ 0;have g1:(w1.alloc (o_ #[.int k_ (area:Int),.int k_ (first:Int),.int k_ (size:Int)] 202)).cell? ⟨w1.heap.size,1,none⟩=some (.int .i64 (first:Int)):=aC _ _ _ 1;have g2:(w1.alloc (o_ #[.int k_ (area:Int),.int k_ (first:Int),.int k_ (size:Int)] 202)).cell? ⟨w1.heap.size,2,none⟩=some (.int .i64 (size:Int)):=aC _ _ _ 2;have HG:=hide (And.intro g0 (And.intro g1 g2));have HBA:=hide hbA;clear g0 g1 g2 hb1 hbA HRR;go_wp2_with fail;refine(HRO.out _ HBA.out).mono ?_;rintro e w2 ⟨v2,rfl,ho2,hb2⟩;have HB2:=hide (aB HBA.out (n_ _) hb2);have HO2:=hide (dJ ho2 HBA.out.size);have g0:=aA hb2 HG.out.1;have g1:=aA hb2 HG.out.2.1;have g2:=aA hb2 HG.out.2.2;clear ho2 hb2 HG HRO HBA;go_wp2_with fail;refine(HOL.out _ HB2.out).mono ?_;rintro e w3 ⟨lb,dv,rfl,ho3⟩;obtain⟨dl,hdv,hdm,hdn⟩:=ho3.de;have g0':=aA ho3.bel g0;have HB3:=hide (aB HB2.out (n_ _) ho3.bel);have HO3:=hide (bQ HO2.out ho3.bel);have HLH:=hide ho3.hd;have HLN:Hid (w.heap.size<=lb):=Nat.le_trans HB2.out.size ho3.new;have hlbn:∀ k,v2.ownBlock=some k->k≠lb:=fun k e e2=>by have h1:=(l_ HO2.out k e).2;have h2:=ho3.new;omega
 have HLB:=hide hlbn;obtain⟨da,dc,hdf⟩:∃ da dc,dv=.slice da dl.length dc:=by
  rcases hdv.1.2 with⟨e,e2⟩|⟨g,cap,cur,e,_⟩
  ·exact⟨none,0,by rw[e,e2]⟩
  ·exact⟨_,cap,e⟩
 have hcell:∀ k (h:k<dl.length),∃ g,da=some ⟨g,0,none⟩/\w3.cell? ⟨g,k,none⟩=some (ddV dl[k]):=fun k h=>by
  rcases hdv.1.2 with⟨e,e2⟩|⟨g,cap,cur,e,_⟩
  ·omega
  ·rw[hdf] at e;have e3:da=some ⟨g,0,none⟩:=by cases e;rfl
   have:=World.ownsRow.cells hdv.1 (g:=g) (by rw[hdf,e3];rfl) k (ddV dl[k]) (by rw[List.getElem?_map,List.getElem?_eq_getElem h];rfl);rw[Go.WideShapes.add_plain,Nat.zero_add] at this;exact⟨g,e3,this⟩
 subst hdf;have HCE:=hide hcell;have HHE:Hid (∀ d∈dl,bW w3 d.ao d.chs):=fun d hd=>zGr (hdv.2.1 d hd);have HDM:=hide hdm;have hdl:dl.length<=9223372036854775807:=by
  rcases hdv.1.2 with⟨_,e2⟩|⟨g,cap,cur,_,_,_,h1,h2,_⟩
  ·omega
  ·unfold maxLen at h2;omega
 clear ho3 hdv hdm hdn hcell g0 g1 g2 HOL HO2 HB2 hlbn;have HDI:Hid (∀ k (h:k<dl.length),∃ h2:k<ds.length,ds[k]=dl[k].chs):=fun k h=>by
  have e:=HDM.out;subst e;exact⟨by rw[List.length_map];exact h,by rw[List.getElem_map]⟩
 have HDN:Hid (ds.length=dl.length):=hide (by rw[<-HDM.out,List.length_map]);go_wp2_with fail
 go_loopw [6,40] (fun v iv wr=>∃ k:Nat,k<=dl.length/\iv=.int .i64 (k:Int)/\bO wr w.heap.size v ((ds.take k).foldl aK rows0)/\(∀ q,v.ownBlock=some q->q≠lb)/\Below w3.heap.size w3 wr) (fun _ iv _=>dl.length-(intOf iv).toNat)
 case atStart=>exact⟨0,Nat.zero_le _,rfl,HO3.out,HLB.out,r_ _ _⟩
 case round=>
  obtain⟨k,hk,rfl,ho,hvl,hb⟩:=hrel;clear HO3 HLB;have hfew:=HRW.out.few k;by_cases hlt:k<dl.length
  ·have hlt':(k:Int)<(dl.length:Int):=by omega
   have hk0:(0:Int)<=(k:Int):=by omega
   obtain⟨g,hg,hce⟩:=HCE.out k hlt;subst hg;obtain⟨hk2,hdk⟩:=HDI.out k hlt;have hfd:=zGH (rows:=rows0) hk2;have hld:=HRW.out.dl _ (List.getElem_mem hk2);have hhe:=eA hb (HHE.out _ (List.getElem_mem hlt));rw[hdk] at hfd hld;replace hce:=aA hb hce;unfold ddV at hce;generalize dl[k]=dd at *;generalize (ds.take k).foldl aK rows0=m at *;have HBH:=hide (lG m dd.chs u6 dd.ao dd.cap w.heap.size wr ho hhe (by omega) (by omega));have HFD:=hide hfd;have HBR:=hide hb;have HZ:Hid (w.heap.size<=wr.heap.size/\lb<wr.heap.size):=⟨Nat.le_trans HB3.out.size hb.size,Nat.lt_of_lt_of_le HLH.out.lt hb.size⟩;clear ho hb hfd hhe hvl hdk hld hfew hk2;go_wp2_with (go_at_call 141;refine HBH.out.mono ?_;rintro e w7 ⟨v7,rfl,ho7,hb7⟩;have HO7:=hide ho7;have HB7:=hide hb7;clear ho7 hb7)
   exact⟨⟨k+1,by omega,by go_num,by rw[HFD.out];exact dJ HO7.out HZ.out.1,fun q e e2=>by have h1:=(l_ HO7.out q e).1;have h2:=HZ.out.2;omega,aB HBR.out (n_ _) HB7.out⟩,by simp[intOf];omega⟩
  ·have ek:k=dl.length:=by omega
   subst ek;have hlt':¬(dl.length:Int)<(dl.length:Int):=by omega
   rw[<-HDN.out,List.take_length] at ho hfew;rw[HRW.out.eq] at ho hfew;have c0:=aA hb g0';obtain⟨va,vc,rfl⟩:∃ va vc,u6=.slice va rows.length vc:=by
    rcases aX ho with⟨e,e2⟩|⟨g,cap,e,_⟩
    ·exact⟨none,0,by rw[e,e2]⟩
    ·exact⟨_,cap,e⟩
   have HO:=hide ho;have HVL:=hide hvl;have HBR:=hide hb;have h40:¬(40:Int)<(rows.length:Int):=by omega
   clear ho hvl hb g0' HCE HHE;have HSB:=hide (a_ wr (o_ #[.pointer (some ⟨db,0,none⟩),.pointer (some ⟨lb,0,none⟩),.int .i64 (area:Int),.slice va rows.length vc] 224));go_wp2_with fail;go_ret2;have hlt3:=HLH.out.lt;have hbw:=aB HB3.out (n_ _) HBR.out;have hSl:∀ k,w.heap.size<=k->¬S k:=fun k h e=>by have:=HHK.out.lt e;omega
   refine⟨wr.heap.size,rfl,⟨⟨lb,.slice va rows.length vc,⟨⟨aC _ _ _ 0,aC _ _ _ 1,aC _ _ _ 2,aC _ _ _ 3,fun j=>aQ _ _ _ j⟩,⟨HHK.out.on (aB hbw (n_ _) HSB.out),HLH.out.kept ((HSB.out.block lb (Nat.lt_of_lt_of_le hlt3 HBR.out.size)).trans (HBR.out.block lb hlt3)),hSl _ HLN.out,Nat.le_trans hB HLN.out,hus,by show 50+(s.now.length-50)<=s.now.length;omega,hf1.1,by show first<=1500000;omega⟩,dJ (bQ HO.out HSB.out) hB,hSl _ hbw.size,?_,?_,Nat.le_trans hB hbw.size⟩,HLN.out,fun k e=>(l_ HO.out k e).1⟩,hbw.size,aB hbw (n_ _) HSB.out⟩⟩
   ·have:=HBR.out.size;omega
   ·intro k e;have h1:=l_ HO.out k e;exact⟨by omega,HVL.out k e,hSl _ h1.1⟩
theorem zFF (w:World) (hk:DK w B db S s) (hn:54<=s.now.length):Calls p_ 60 #[.pointer (some ⟨db,0,none⟩)] w fun e w'=>e=.returned (errV (dC 0 [] s).1)/\ActD w w' B db S (dC 0 [] s).2:=by
 have HS:=hide (mU w hk);have HLY:=hide (zCI 0 [] none 0 w hk (by decide) hn (.inl rfl) xS (by decide));clear hk;generalize (dC 0 [] s).1=f at *;generalize (dC 0 [] s).2=s2 at *;generalize s.now.length=n at *;have h1:¬(n:Int)<54:=by omega
 go_enter Tryz.func60,Tryz.ntmps60;go_wp2_with (first
  | (go_at_call 123;refine HS.out.mono ?_;rintro e w1 ⟨rfl,rfl⟩)
  | (go_at_call 124;refine HLY.out.mono ?_;rintro e w2 ⟨rv,rfl,⟨x,y,z,rfl,_⟩,ha2⟩;have HA2:=hide ha2;clear ha2)
  | fail)
 go_ret;exact⟨rfl,HA2.out.post (a_ _ _)⟩
end
section
variable {w w':World} {B sb lb db:Nat} {S S' T:Nat->Prop} {v:Value} {x:SSt}
theorem SK.step (h:SK w B sb lb db S v x) {s':DSt} (hk:DK w' B db S' s') (hs:aG w w' B S S') (hl:s'.now.length=x.d.now.length):SK w' B sb lb db S' v { x with d:=s' }:=by
  have f1:=hs.far sb h.hd.lt h.ns
  refine⟨h.hd.kept f1.1,?_,aI h.own fun k e=>(hs.far k (l_ h.own k e).2 (h.nv k e).2.2).1,f1.2,h.nl,fun k e=>⟨(h.nv k e).1,(h.nv k e).2.1,(hs.far k (l_ h.own k e).2 (h.nv k e).2.2).2⟩,h.lo⟩
  have:=h.lk.step hk hs hl
  show LK w' B lb db S' 50 (s'.now.length-50) x.first x.used s'
  rw[hl]
  exact this
theorem zMG {S1 S2:Nat->Prop} (hs:aG w w' B S1 S2):aG w w' B (inS sb lb v S1) (inS sb lb v S2):=
  ⟨hs.bel,fun j hj hn=>⟨(hs.far j hj fun e=>hn (.inr (.inr (.inr e)))).1,fun e=>e.elim (fun e=>hn (.inl e)) fun e=>e.elim (fun e=>hn (.inr (.inl e))) fun e=>e.elim (fun e=>hn (.inr (.inr (.inl e)))) (hs.far j hj fun e=>hn (.inr (.inr (.inr e)))).2⟩⟩
theorem SK.turn {W1 W2:World} (h:SK w B sb lb db S v x) {s':DSt} {S2:Nat->Prop} {lb' area' first':Nat} {dv:Value} {ds:List (List Chg)} (hk:DK W1 B db S2 s') (hs:aG w W1 B S S2) (hl:s'.now.length=x.d.now.length) (ho:mC W1 W2 lb' db 50 (s'.now.length-50) first' dv ds 0) (hn:50<=s'.now.length) (hf:1<=first'/\first'<=2):
    ActS w ((W2.setCell ⟨sb,1,none⟩ (.pointer (some ⟨lb',0,none⟩))).setCell ⟨sb,2,none⟩ (.int .i64 (area':Int))) B sb db (inS sb lb v S) ⟨s',area',first',0,x.rows⟩:=by
  have h1:=h.step hk hs hl
  have h2:=h1.hd.kept (ho.bel.block sb h1.hd.lt)
  have hsl:sb<W2.heap.size:=h2.lt
  have hnew:=ho.new
  have hs1:=h1.hd.lt
  have hk2:∀ k,k≠sb->((W2.setCell ⟨sb,1,none⟩ (.pointer (some ⟨lb',0,none⟩))).setCell ⟨sb,2,none⟩ (.int .i64 (area':Int))).heap[k]?=W2.heap[k]?:=fun k hn=>(h_ _ _ _ _ hn).trans (h_ _ _ _ _ hn)
  have hown2:=bQ h1.own ho.bel
  have hne:lb'≠sb:=by omega
  have hvb:∀ k,v.ownBlock=some k->k≠lb':=fun k e=>by have:=(l_ h1.own k e).2;omega
  have hnS:¬S2 lb':=fun e=>by have:=hk.lt e;omega
  refine⟨_,⟨lb',S2,v,⟨⟨?_,?_,?_,?_,fun j=>by rw[World.frozen?_setCell,World.frozen?_setCell];exact h2.soft j⟩,⟨(hk.on ho.bel).kept (by simp) fun k e=>hk2 k fun e2=>h1.ns (e2▸e),ho.hd.kept (hk2 lb' hne),hnS,Nat.le_trans hk.lo hnew,Nat.zero_le _,by show 50+(s'.now.length-50)<=s'.now.length;omega,hf.1,by show first'<=1500000;omega⟩,aI hown2 fun k e=>hk2 k (h.nv k e).1,h1.ns,hne.symm,fun k e=>⟨(h.nv k e).1,hvb k e,(h1.nv k e).2.2⟩,h.lo⟩,rfl⟩,?_,fun j hj hnj=>?_⟩
  · exact(t_ _ _ _ _ (by simp)).trans ((t_ _ _ _ _ (by simp)).trans h2.c0)
  · exact(t_ _ _ _ _ (by simp)).trans (u_ _ _ _ h2.c1)
  · exact u_ _ _ _ ((t_ _ _ _ _ (by simp)).trans h2.c2)
  · exact(t_ _ _ _ _ (by simp)).trans ((t_ _ _ _ _ (by simp)).trans h2.c3)
  · exact((hs.bel.trans (ho.bel.mono hk.lo)).setCell (p:=⟨sb,1,none⟩) h.lo _).setCell (p:=⟨sb,2,none⟩) h.lo _
  · have n1:¬S j:=fun e=>hnj (.inr (.inr (.inr e)))
    have n2:j≠sb:=fun e=>hnj (.inl e)
    have n3:¬v.ownBlock=some j:=fun e=>hnj (.inr (.inr (.inl e)))
    have f1:=hs.far j hj n1
    have hj1:=Nat.lt_of_lt_of_le hj hs.bel.size
    refine⟨(hk2 j n2).trans ((ho.bel.block j hj1).trans f1.1),fun e=>?_⟩
    rcases e with e|e|e|e
    · exact n2 e
    · omega
    · exact n3 e
    · exact f1.2 e
structure CPX (w W:World) (B db rb:Nat) (S:Nat->Prop) (s:DSt) (x y z:Int):Prop where
  ex:∃ S2,DK W B db S2 s/\aG w W B S S2
  ge:w.heap.size<=rb
  k0:W.cell? ⟨rb,0,none⟩=some (.int .i64 x)
  k1:W.cell? ⟨rb,1,none⟩=some (.int .i64 y)
  k2:W.cell? ⟨rb,2,none⟩=some (.int .i64 z)
theorem CPX.ofA {w7:World} {s:DSt} {a b c:Int} (hk:DK w7 B db S' s) (hs:aG w.drew w7 B S S') (hB:B<=w.heap.size):CPX w (w7.alloc (o_ #[.int k_ a,.int k_ b,.int k_ c] 202)) B db w7.heap.size S s a b c:=by
  have hd:aG w w.drew B S S:=.on hB (r_ _ w).drew
  exact⟨⟨S',hk.on (a_ _ _),(hd.trans hs).trans (.on hk.lo (a_ _ _))⟩,hs.bel.size,aC _ _ _ 0,aC _ _ _ 1,aC _ _ _ 2⟩
theorem CPX.ofB {w7:World} {s:DSt} {a b c:Int} (hk:DK w7 B db S' s) (hs:aG (w.alloc (o_ #[.int k_ 0,.int k_ 0,.int k_ 0] 202)).drew w7 B S S') (hB:B<=w.heap.size) (hn:¬S w.heap.size) (t0:w7.cell? ⟨w.heap.size,0,none⟩=some (.int .i64 0)) (t1:w7.cell? ⟨w.heap.size,1,none⟩=some (.int .i64 0)) (t2:w7.cell? ⟨w.heap.size,2,none⟩=some (.int .i64 0)):
    CPX w (((w7.setCell ⟨w.heap.size,0,none⟩ (.int .i64 a)).setCell ⟨w.heap.size,1,none⟩ (.int .i64 b)).setCell ⟨w.heap.size,2,none⟩ (.int .i64 c)) B db w.heap.size S s a b c:=by
  have hd:aG w (w.alloc (o_ #[.int k_ 0,.int k_ 0,.int k_ 0] 202)).drew B S S:=.on hB (a_ w _).drew
  have hz:w.heap.size<(w.alloc (o_ #[.int k_ 0,.int k_ 0,.int k_ 0] 202)).drew.heap.size:=by simp
  have fn:=hs.far w.heap.size hz hn
  have hk3:∀ k,k≠w.heap.size->(((w7.setCell ⟨w.heap.size,0,none⟩ (.int .i64 a)).setCell ⟨w.heap.size,1,none⟩ (.int .i64 b)).setCell ⟨w.heap.size,2,none⟩ (.int .i64 c)).heap[k]?=w7.heap[k]?:=fun k hn=>(h_ _ _ _ _ hn).trans ((h_ _ _ _ _ hn).trans (h_ _ _ _ _ hn))
  obtain⟨k0,k1,k2⟩:=keep3' (x:=.int .i64 a) (y:=.int .i64 b) (z:=.int .i64 c) t0 t1 t2
  have hst:=hd.trans hs
  refine⟨⟨S',hk.kept (by simp) fun k e=>hk3 k fun e2=>fn.2 (e2▸e),⟨((hst.bel.setCell (p:=⟨w.heap.size,0,none⟩) hB _).setCell (p:=⟨w.heap.size,1,none⟩) hB _).setCell (p:=⟨w.heap.size,2,none⟩) hB _,fun j hj hnj=>?_⟩⟩,n_ _,k0,k1,k2⟩
  obtain⟨f1,f2⟩:=hst.far j hj hnj
  exact⟨(hk3 j (by omega)).trans f1,f2⟩
theorem zHP {W:World} {b b':Nat} {x y z a0 a1 a2:Value} (hne:b'≠b) (h:W.cell? ⟨b',0,none⟩=some a0/\W.cell? ⟨b',2,none⟩=some a1/\W.cell? ⟨b',3,none⟩=some a2):
    (((W.setCell ⟨b,0,none⟩ x).setCell ⟨b,1,none⟩ y).setCell ⟨b,2,none⟩ z).cell? ⟨b',0,none⟩=some a0/\(((W.setCell ⟨b,0,none⟩ x).setCell ⟨b,1,none⟩ y).setCell ⟨b,2,none⟩ z).cell? ⟨b',2,none⟩=some a1/\(((W.setCell ⟨b,0,none⟩ x).setCell ⟨b,1,none⟩ y).setCell ⟨b,2,none⟩ z).cell? ⟨b',3,none⟩=some a2:=by
  have hk:∀ k,k≠b->(((W.setCell ⟨b,0,none⟩ x).setCell ⟨b,1,none⟩ y).setCell ⟨b,2,none⟩ z).heap[k]?=W.heap[k]?:=fun k hn=>(h_ _ _ _ _ hn).trans ((h_ _ _ _ _ hn).trans (h_ _ _ _ _ hn))
  exact⟨(b_ (a:=⟨b',0,none⟩) (hk b' hne)).trans h.1,(b_ (a:=⟨b',2,none⟩) (hk b' hne)).trans h.2.1,(b_ (a:=⟨b',3,none⟩) (hk b' hne)).trans h.2.2⟩
theorem zDC (w:World) (h:SA w B sb db T x) (hg:fA x):Calls p_ 73 #[.pointer (some ⟨sb,0,none⟩)] w fun e w'=>e=.returned (errV (chkR x).1)/\ActS w w' B sb db T (chkR x).2:=by
  obtain⟨lb,S,v,hsk,rfl⟩:=h
  have ha1:=cQ.a1 hg
  have h54:=cQ.n54 hg
  have hfew:=cQ.few hg
  have hB:=hsk.lk.dk.lo
  have c0:=hsk.hd.c0
  have c2:=hsk.hd.c2
  have c3:=hsk.hd.c3
  have hsl:=hsk.hd.lt
  obtain⟨va,vc,hv,hh⟩:∃ va vc,v=.slice va x.rows.length vc/\bW w va x.rows:=by
    rcases aX hsk.own with⟨e,e2⟩|⟨g,cap,e,_⟩
    · exact⟨none,0,by rw[e,e2],.inl (List.length_eq_zero_iff.1 e2)⟩
    · refine⟨some ⟨g,0,none⟩,cap,e,.inr ⟨g,0,rfl,eW x.rows 0 fun j u hj=>?_⟩⟩
      have:=World.ownsRow.cells hsk.own (g:=g) (by rw[e];rfl) j u hj
      rwa [Go.WideShapes.add_plain] at this
  have HLY:Hid (∀ W,Below w.heap.size w W->Calls p_ 124 #[.pointer (some ⟨db,0,none⟩),.int .i64 ((1-x.area:Nat):Int),.slice va x.rows.length vc] W fun e w'=>∃ rv,e=.returned (.tuple #[rv,errV (dC (1-x.area) x.rows x.d).1])/\zIp rv (dC (1-x.area) x.rows x.d).1 (1-x.area) (aM x.d.now) (aO x.rows).size/\ActD W w' B db S (dC (1-x.area) x.rows x.d).2):=fun W hb=>zCI (1-x.area) x.rows va vc W (hsk.lk.dk.on hb) (by omega) h54 (eA hb hh) (cQ.fine hg) hfew
  have hlen:=uQ (1-x.area) x.rows x.d
  have ea:(1:Int)-(x.area:Int)=((1-x.area:Nat):Int):=by omega
  have a0:(0:Int)<=(x.area:Int):=by omega
  have a1:(x.area:Int)<=1:=by omega
  have hwr:IntKind.i64.wrap (1-(x.area:Int))=((1-x.area:Nat):Int):=by rw[ea];simp[IntKind.wrap,IntKind.bits];omega
  subst hv
  have HSK:=hide hsk
  have HGD:=hide hg
  clear hsk hg hh ea
  unfold chkR
  by_cases hf:(dC (1-x.area) x.rows x.d).1=0
  · rw[if_pos hf]
    have hgn:=hf
    rw[hf,aR] at HLY
    have hchk:=HGD.out.chk
    unfold chkR at hchk
    rw[if_pos hf] at hchk
    obtain⟨_,_,hck⟩:=hchk
    have hgd2:fA ⟨(dC (1-x.area) x.rows x.d).2,1-x.area,aM x.d.now,0,x.rows⟩:=by
      rcases hck with⟨_,a,_⟩|⟨a,_⟩
      · exact a
      · cases a
    have HGD2:=hide hgd2
    have hfr:=rB x.d.now
    have HLE:=hide hlen
    clear hf hlen hgn hck hgd2
    generalize dC (1-x.area) x.rows x.d=r at *
    generalize (aO x.rows).size=size at *
    generalize aM x.d.now=fr at *
    generalize 1-x.area=ar at *
    obtain⟨rows0,ds0,hod,hrw⟩:=HGD2.out.ex
    have hdn:=HGD2.out.down
    have HOL:Hid (∀ W S2,DK W B db S2 r.2->Calls p_ 138 #[.pointer (some ⟨db,0,none⟩),.agg #[.int .i64 (ar:Int),.int .i64 (fr:Int),.int .i64 (size:Int)]] W fun e w'=>∃ lb dv,e=.returned (.tuple #[.pointer (some ⟨lb,0,none⟩),dv,.nilIface])/\∃ dd,mC W w' lb db 50 (r.2.now.length-50) fr dv dd 0):=fun W S2 hk2=>by
      have h1:=tM ar fr size W hk2 hdn (by rw[HLE.out];omega) hfr.1 hfr.2
      have hsc:dB fr 0 (eB r.2 50 (r.2.now.length-50)) ([],[]) 0=(ds0,0):=hod.has
      have hus:mH (eB r.2 50 (r.2.now.length-50)) fr=0:=by unfold mH;rw[hsc]
      rw[hus] at h1
      exact h1.mono fun e w' ⟨lb,dv,he,ho⟩=>⟨lb,dv,he,_,ho⟩
    clear hod hrw hdn
    go_enter Tryz.func73,Tryz.ntmps73
    go_wp2_with fail
    have HZA:Hid (w.heap.size<(w.alloc (o_ #[.int k_ 0,.int k_ 0,.int k_ 0] 202)).heap.size):=hide (by simp)
    have HNS:Hid (¬S w.heap.size):=fun e=>by have:=HSK.out.lk.dk.lt e;omega
    have HSN:Hid (sb≠w.heap.size):=hide (by omega)
    go_region_held3 (fun w'=>w'.cell? ⟨sb,0,none⟩=some (.pointer (some ⟨db,0,none⟩))/\w'.cell? ⟨sb,2,none⟩=some (.int .i64 (x.area:Int))/\w'.cell? ⟨sb,3,none⟩=some (.slice va x.rows.length vc)) (first|exact⟨c0,c2,c3⟩|exact HC7.out|exact⟨aA (a_ _ _) HC7.out.1,aA (a_ _ _) HC7.out.2.1,aA (a_ _ _) HC7.out.2.2⟩|exact zHP HSN.out HC7.out|exact⟨aA (a_ _ _).drew c0,aA (a_ _ _).drew c2,aA (a_ _ _).drew c3⟩|go_keep) (first|(go_at_call 124;refine(HLY.out _ (by first|exact(r_ _ w).drew|exact(a_ w _).drew)).mono ?_;rintro e w7 ⟨rv7,rfl,⟨x7,y7,z7,rfl,hrv7⟩,⟨S7,hk7,hs7⟩⟩;have f7:=hs7.far sb (by first|exact hsl|exact Nat.lt_of_lt_of_le hsl (a_ w _).size) HSK.out.ns;have HC7:Hid (w7.cell? ⟨sb,0,none⟩=some (.pointer (some ⟨db,0,none⟩))/\w7.cell? ⟨sb,2,none⟩=some (.int .i64 (x.area:Int))/\w7.cell? ⟨sb,3,none⟩=some (.slice va x.rows.length vc)):=(by first|exact⟨(b_ (a:=⟨sb,0,none⟩) f7.1).trans c0,(b_ (a:=⟨sb,2,none⟩) f7.1).trans c2,(b_ (a:=⟨sb,3,none⟩) f7.1).trans c3⟩|exact⟨(b_ (a:=⟨sb,0,none⟩) f7.1).trans (aA (a_ w _).drew c0),(b_ (a:=⟨sb,2,none⟩) f7.1).trans (aA (a_ w _).drew c2),(b_ (a:=⟨sb,3,none⟩) f7.1).trans (aA (a_ w _).drew c3)⟩);(first|(have z7:=(hs7.far w.heap.size (by exact HZA.out) HNS.out).1;have t0:w7.cell? ⟨w.heap.size,0,none⟩=some (.int .i64 0):=(b_ (a:=⟨w.heap.size,0,none⟩) z7).trans (aC w _ _ 0);have t1:w7.cell? ⟨w.heap.size,1,none⟩=some (.int .i64 0):=(b_ (a:=⟨w.heap.size,1,none⟩) z7).trans (aC w _ _ 1);have t2:w7.cell? ⟨w.heap.size,2,none⟩=some (.int .i64 0):=(b_ (a:=⟨w.heap.size,2,none⟩) z7).trans (aC w _ _ 2);have tf:∀ j,w7.frozen? ⟨w.heap.size,j,none⟩=false:=(fun j=>(World.frozen?_of_block (a:=⟨w.heap.size,j,none⟩) z7).trans (aQ w _ _ j));clear z7)|skip);dsimp only))
    all_goals
      obtain⟨e1,e2,e3⟩:=hrv7 rfl
      subst e1 e2 e3
    all_goals
      first
        | (have hcp:=CPX.ofA (a:=(ar:Int)) (b:=(fr:Int)) (c:=(size:Int)) hk7 hs7 hB
           generalize w7.alloc (o_ #[.int k_ (ar:Int),.int k_ (fr:Int),.int k_ (size:Int)] 202)=W at *
           generalize w7.heap.size=rb at *)
        | (have hcp:=CPX.ofB (a:=(ar:Int)) (b:=(fr:Int)) (c:=(size:Int)) hk7 hs7 hB HNS.out t0 t1 t2
           generalize ((w7.setCell ⟨w.heap.size,0,none⟩ (i_ k_ (ar:Int))).setCell ⟨w.heap.size,1,none⟩ (i_ k_ (fr:Int))).setCell ⟨w.heap.size,2,none⟩ (i_ k_ (size:Int))=W at *
           obtain⟨rb,hrb⟩:∃ rb,w.heap.size=rb:=⟨_,rfl⟩
           rw[hrb] at hcp ⊢
           clear hrb t0 t1 t2 tf)
      have HCP:=hide hcp
      clear hcp hk7 hs7 f7 HC7
    all_goals
      obtain⟨S2,q1,q2⟩:=HCP.out.ex
      have k0:=HCP.out.k0
      have k1:=HCP.out.k1
      have k2:=HCP.out.k2
      have hsk2:=HSK.out.step q1 q2 HLE.out
      have d0:=hsk2.hd.c0
      have HS2:=hide hsk2
      have HQ1:=hide q1
      have HQ2:=hide q2
      have HRS:Hid (rb≠sb):=hide (by have:=HCP.out.ge;omega)
      clear hsk2 q1 q2 HCP
      go_wp2_with fail
      go_region_held3 (fun w'=>w'.cell? ⟨sb,0,none⟩=some (.pointer (some ⟨db,0,none⟩))/\w'.cell? ⟨rb,0,none⟩=some (.int .i64 (ar:Int))/\w'.cell? ⟨rb,1,none⟩=some (.int .i64 (fr:Int))/\w'.cell? ⟨rb,2,none⟩=some (.int .i64 (size:Int))) (first|exact⟨d0,k0,k1,k2⟩|exact HC8.out|go_keep) (first|(go_at_call 138;refine(HOL.out _ S2 (HQ1.out.on (r_ _ _).drew)).mono ?_;rintro e w8 ⟨lb8,dv8,rfl,dd8,ho8⟩;have HC8:Hid (w8.cell? ⟨sb,0,none⟩=some (.pointer (some ⟨db,0,none⟩))/\w8.cell? ⟨rb,0,none⟩=some (.int .i64 (ar:Int))/\w8.cell? ⟨rb,1,none⟩=some (.int .i64 (fr:Int))/\w8.cell? ⟨rb,2,none⟩=some (.int .i64 (size:Int))):=⟨aA ho8.bel d0,aA ho8.bel k0,aA ho8.bel k1,aA ho8.bel k2⟩;dsimp only))
      have hsk8:=(HS2.out.on (r_ _ _).drew).hd.kept (ho8.bel.block sb (HS2.out.on (r_ _ _).drew).hd.lt)
      have m1:=hsk8.c1
      have m2:=hsk8.c2
      have mf:=hsk8.soft
      have n0:=HC8.out.2.1
      have HO8:=hide ho8
      clear hsk8 ho8 HC8 d0 k0 k1 k2
      have hrs:=HRS.out
      have hsr:sb≠rb:=fun e=>hrs e.symm
      go_wp2_with fail
      go_region_held3 (fun w'=>w'.cell? ⟨rb,0,none⟩=some (.int .i64 (ar:Int))) (first|exact n0|go_keep) (fail)
      go_wp2
      go_ret
      refine⟨rfl,?_⟩
      have hend:=HSK.out.turn (area':=ar) (HQ1.out.on (r_ _ _).drew) (HQ2.out.trans (.on HQ1.out.lo (r_ _ _).drew)) HLE.out HO8.out (by rw[HLE.out];omega) hfr
      exact hend.post (r_ _ _).drew
  · rw[if_neg hf]
    have HER:Hid (errV (dC (1-x.area) x.rows x.d).1=.iface 114 (.int .i64 (dC (1-x.area) x.rows x.d).1)):=aP hf
    rw[HER.out] at HLY ⊢
    have HF:=hide hf
    have HLE:=hide hlen
    clear hf hlen
    generalize dC (1-x.area) x.rows x.d=r at *
    generalize (aO x.rows).size=size at *
    generalize aM x.d.now=fr at *
    generalize 1-x.area=ar at *
    go_enter Tryz.func73,Tryz.ntmps73
    go_wp2_with fail
    have HZA:Hid (w.heap.size<(w.alloc (o_ #[.int k_ 0,.int k_ 0,.int k_ 0] 202)).heap.size):=hide (by simp)
    have HNS:Hid (¬S w.heap.size):=fun e=>by have:=HSK.out.lk.dk.lt e;omega
    have HSN:Hid (sb≠w.heap.size):=hide (by omega)
    go_region_held3 (fun w'=>w'.cell? ⟨sb,0,none⟩=some (.pointer (some ⟨db,0,none⟩))/\w'.cell? ⟨sb,2,none⟩=some (.int .i64 (x.area:Int))/\w'.cell? ⟨sb,3,none⟩=some (.slice va x.rows.length vc)) (first|exact⟨c0,c2,c3⟩|exact HC7.out|exact⟨aA (a_ _ _) HC7.out.1,aA (a_ _ _) HC7.out.2.1,aA (a_ _ _) HC7.out.2.2⟩|exact zHP HSN.out HC7.out|exact⟨aA (a_ _ _).drew c0,aA (a_ _ _).drew c2,aA (a_ _ _).drew c3⟩|go_keep) (first|(go_at_call 124;refine(HLY.out _ (by first|exact(r_ _ w).drew|exact(a_ w _).drew)).mono ?_;rintro e w7 ⟨rv7,rfl,⟨x7,y7,z7,rfl,hrv7⟩,⟨S7,hk7,hs7⟩⟩;have f7:=hs7.far sb (by first|exact hsl|exact Nat.lt_of_lt_of_le hsl (a_ w _).size) HSK.out.ns;have HC7:Hid (w7.cell? ⟨sb,0,none⟩=some (.pointer (some ⟨db,0,none⟩))/\w7.cell? ⟨sb,2,none⟩=some (.int .i64 (x.area:Int))/\w7.cell? ⟨sb,3,none⟩=some (.slice va x.rows.length vc)):=(by first|exact⟨(b_ (a:=⟨sb,0,none⟩) f7.1).trans c0,(b_ (a:=⟨sb,2,none⟩) f7.1).trans c2,(b_ (a:=⟨sb,3,none⟩) f7.1).trans c3⟩|exact⟨(b_ (a:=⟨sb,0,none⟩) f7.1).trans (aA (a_ w _).drew c0),(b_ (a:=⟨sb,2,none⟩) f7.1).trans (aA (a_ w _).drew c2),(b_ (a:=⟨sb,3,none⟩) f7.1).trans (aA (a_ w _).drew c3)⟩);(first|(have z7:=(hs7.far w.heap.size (by exact HZA.out) HNS.out).1;have t0:w7.cell? ⟨w.heap.size,0,none⟩=some (.int .i64 0):=(b_ (a:=⟨w.heap.size,0,none⟩) z7).trans (aC w _ _ 0);have t1:w7.cell? ⟨w.heap.size,1,none⟩=some (.int .i64 0):=(b_ (a:=⟨w.heap.size,1,none⟩) z7).trans (aC w _ _ 1);have t2:w7.cell? ⟨w.heap.size,2,none⟩=some (.int .i64 0):=(b_ (a:=⟨w.heap.size,2,none⟩) z7).trans (aC w _ _ 2);have tf:∀ j,w7.frozen? ⟨w.heap.size,j,none⟩=false:=(fun j=>(World.frozen?_of_block (a:=⟨w.heap.size,j,none⟩) z7).trans (aQ w _ _ j));clear z7)|skip);dsimp only))
    all_goals
      first
        | (have hcp:=CPX.ofA (a:=x7) (b:=y7) (c:=z7) hk7 hs7 hB
           generalize w7.alloc (o_ #[.int k_ x7,.int k_ y7,.int k_ z7] 202)=W at *
           generalize w7.heap.size=rb at *)
        | (have hcp:=CPX.ofB (a:=x7) (b:=y7) (c:=z7) hk7 hs7 hB HNS.out t0 t1 t2
           generalize ((w7.setCell ⟨w.heap.size,0,none⟩ (i_ k_ x7)).setCell ⟨w.heap.size,1,none⟩ (i_ k_ y7)).setCell ⟨w.heap.size,2,none⟩ (i_ k_ z7)=W at *
           obtain⟨rb,hrb⟩:∃ rb,w.heap.size=rb:=⟨_,rfl⟩
           rw[hrb] at hcp ⊢
           clear hrb t0 t1 t2 tf)
      have HCP:=hide hcp
      clear hcp hk7 hs7 f7 HC7
    all_goals
      go_wp2
      go_ret
      obtain⟨S2,q1,q2⟩:=HCP.out.ex
      exact⟨rfl,_,⟨lb,S2,_,HSK.out.step q1 q2 HLE.out,rfl⟩,zMG q2⟩
end
section
variable {w w':World} {B sb lb db:Nat} {S S' T:Nat->Prop} {v:Value} {x:SSt}
theorem SK.added (h:SK w B sb lb db S v x) {s':DSt} {u:Nat} (hk:LK w' B lb db S' 50 (x.d.now.length-50) x.first u s') (hs:aG w w' B (inL lb S) (inL lb S')) (hl:s'.now.length=x.d.now.length):SK w' B sb lb db S' v { x with d:=s',used:=u }/\aG w w' B (inS sb lb v S) (inS sb lb v S'):=by
 have nsb:¬inL lb S sb:=fun e=>e.elim h.nl h.ns;have nvb:∀ k,v.ownBlock=some k->¬inL lb S k:=fun k e e2=>e2.elim (h.nv k e).2.1 (h.nv k e).2.2;have f1:=hs.far sb h.hd.lt nsb;refine⟨⟨h.hd.kept f1.1,?_,aI h.own fun k e=>(hs.far k (l_ h.own k e).2 (nvb k e)).1,fun e=>f1.2 (.inr e),h.nl,fun k e=>⟨(h.nv k e).1,(h.nv k e).2.1,fun e2=>(hs.far k (l_ h.own k e).2 (nvb k e)).2 (.inr e2)⟩,h.lo⟩,hs.bel,fun j hj hn=>?_⟩
 ·show LK w' B lb db S' 50 (s'.now.length-50) x.first u s';rw[hl];exact hk
 ·obtain⟨a,b⟩:=hs.far j hj (fun e=>e.elim (fun e=>hn (.inr (.inl e))) fun e=>hn (.inr (.inr (.inr e))));exact⟨a,fun e=>e.elim (fun e=>hn (.inl e)) fun e=>e.elim (fun e=>hn (.inr (.inl e))) fun e=>e.elim (fun e=>hn (.inr (.inr (.inl e)))) fun e=>b (.inr e)⟩
theorem SK.finish {w3:World} {y:SSt} {v2:Value} {rows2:List Chg} (h:SK w3 B sb lb db S v y) (hst:aG w w3 B T (inS sb lb v S)) (hB:B<=w.heap.size) (ho:bO w3 w.heap.size v2 rows2) (hap:∀ k,v2.ownBlock=some k->¬inS sb lb v S k):ActS w (w3.setCell ⟨sb,3,none⟩ v2) B sb db T { y with rows:=rows2 }:=by
 have hk2:∀ k,k≠sb->(w3.setCell ⟨sb,3,none⟩ v2).heap[k]?=w3.heap[k]?:=fun k hn=>h_ _ _ _ _ hn;have hv:∀ k,v2.ownBlock=some k->k≠sb/\k≠lb/\¬S k:=fun k e=>⟨fun e2=>hap k e (.inl e2),fun e2=>hap k e (.inr (.inl e2)),fun e2=>hap k e (.inr (.inr (.inr e2)))⟩;refine⟨_,⟨lb,S,v2,⟨⟨(t_ _ _ _ _ (by simp)).trans h.hd.c0,(t_ _ _ _ _ (by simp)).trans h.hd.c1,(t_ _ _ _ _ (by simp)).trans h.hd.c2,u_ _ _ _ h.hd.c3,fun j=>by rw[World.frozen?_setCell];exact h.hd.soft j⟩,?_,?_,h.ns,h.nl,hv,h.lo⟩,rfl⟩,hst.bel.setCell (p:=⟨sb,3,none⟩) h.lo v2,fun j hj hn=>?_⟩
 ·exact⟨h.lk.dk.kept (by simp) fun k e=>hk2 k fun e2=>h.ns (e2▸e),h.lk.hd.kept (hk2 lb fun e=>h.nl e.symm),h.lk.nl,h.lk.lo,h.lk.us,h.lk.fit,h.lk.f1⟩
 ·exact dJ (aI ho fun k e=>hk2 k (hv k e).1) hB
 ·obtain⟨a,b⟩:=hst.far j hj hn;refine⟨(hk2 j fun e=>b (.inl e)).trans a,fun e=>?_⟩;rcases e with e|e|e|e
  ·exact b (.inl e)
  ·exact b (.inr (.inl e))
  ·have:=(l_ ho j e).1;omega
  ·exact b (.inr (.inr (.inr e)))
theorem zCC (fr many first used:Nat) (s:DSt) (l:List Chg):(addR fr many first used s l).2.2.now.length=s.now.length:=by
 unfold addR;split
 ·rfl
 ·exact fS _ _
def apart (T:Nat->Prop) (ao:Option Addr) (l:List Chg):Prop:=l=[]∨∀ a,ao=some a->¬T a.block
theorem apart.step {T':Nat->Prop} {ao:Option Addr} {l:List Chg} (h:apart T ao l) (hh:bW w ao l) (hs:aG w w' B T T'):apart T' ao l/\bW w' ao l:=by
 rcases h with h|h
 ·exact⟨.inl h,.inl h⟩
 ·rcases hh with hh|⟨b,off,e,hc⟩
  ·exact⟨.inl hh,.inl hh⟩
  ·subst e;by_cases hl:l=[]
   ·exact⟨.inl hl,.inl hl⟩
   ·have hb:b<w.heap.size:=World.block_lt_of_cell? _ _ (hc 0 (List.length_pos_iff.2 hl)).1;obtain⟨a,n⟩:=hs.far b hb (h _ rfl);exact⟨.inr fun a e=>by cases e;exact n,.inr ⟨b,off,rfl,fun i hi=>⟨(b_ (a:=⟨b,_,none⟩) a).trans (hc i hi).1,(b_ (a:=⟨b,_,none⟩) a).trans (hc i hi).2.1,(b_ (a:=⟨b,_,none⟩) a).trans (hc i hi).2.2⟩⟩⟩
end
end
end Go.Proofs.YtnboipekkahmnaaGreatDoor
