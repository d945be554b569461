import Derived.Test.YtnboipekkahmnaaGreatDoorS04
import Derived.RangeFuncNested
import Derived.RangeFuncBound
import Derived.Shelf.RegionOpen
import Derived.OwnWalkIn
import Derived.LoopNIn
import Derived.LoopIn
set_option maxHeartbeats 8000000
set_option maxRecDepth 100000
namespace Go.Proofs.YtnboipekkahmnaaGreatDoor
open Obj renaming cells→o_
open World renaming cell?_of_block→b_
open Go.RowKit.Below renaming heap_setCell→h_,refl→r_
open Nat renaming le_refl→n_
open Tryz renaming prog→p_
open Value renaming string→v_,int→i_
open IntKind renaming i64→k_
open Go.Joins renaming below_alloc1→a_
section
open Go.RowKit Go.Joins
attribute [local go_sem ↓] Go.wp_at_zero Go.wp_at_succ
theorem keep3 {W:World} {b:Nat} {x y z:Value} (h:W.cell? ⟨b,0,none⟩=some x/\W.cell? ⟨b,1,none⟩=some y/\W.cell? ⟨b,2,none⟩=some z):
  (((W.setCell ⟨b,0,none⟩ x).setCell ⟨b,1,none⟩ y).setCell ⟨b,2,none⟩ z).cell? ⟨b,0,none⟩=some x/\(((W.setCell ⟨b,0,none⟩ x).setCell ⟨b,1,none⟩ y).setCell ⟨b,2,none⟩ z).cell? ⟨b,1,none⟩=some y/\(((W.setCell ⟨b,0,none⟩ x).setCell ⟨b,1,none⟩ y).setCell ⟨b,2,none⟩ z).cell? ⟨b,2,none⟩=some z:=by
 obtain⟨h0,h1,h2⟩:=h;refine⟨?_,?_,?_⟩<;>simp[go_sem,h0,h1,h2]
theorem zLx (s:ByteArray) (w:World) (h2:2<=s.size) (hs:s.size<=60000) (x y:Nat) (hx:s[0].toNat=x) (hy:s[1].toNat=y) (hl:2+x+y<=s.size) (k v r:ByteArray) (hk:s.extract 2 (2+x)=k) (hv:s.extract (2+x) (2+x+y)=v) (hr:s.extract (2+x+y) s.size=r) (hf:aD ⟨k,v,false⟩=0):
  Calls p_ 255 #[.string s] w fun e w'=>e=.returned (.tuple #[.agg #[.string k,.string v,.bool false],.string r,.bool true])/\Below w.heap.size w w':=by
 have x8:x<256:=by rw[<-hx];exact UInt8.toNat_lt _
 have y8:y<256:=by rw[<-hy];exact UInt8.toNat_lt _
 have hks:k.size<=maxLen:=by rw[<-hk,ByteArray.size_extract];unfold maxLen;omega
 have HK:=fun w'=>hide (gB ⟨k,v,false⟩ w' hks);rw[hf] at HK;simp only[errV,if_true] at HK;have hB:=a_ w (o_ #[.string ⟨#[]⟩,v_ ⟨#[]⟩,Value.bool false] 133);have fz:=aQ w #[v_ ⟨#[]⟩,v_ ⟨#[]⟩,Value.bool false] 133;have xi0:(0:Int)<=(x:Int):=by omega
 have xi1:(x:Int)<256:=by omega
 have yi0:(0:Int)<=(y:Int):=by omega
 have yi1:(y:Int)<256:=by omega
 have d1:decide ((s.size:Int)<2)=false:=by simp;omega
 have d3:decide ((s.size:Int)<2+(x:Int)+(y:Int))=false:=by simp;omega
 have g1:1<(s.size:Int):=by omega
 have g0:0<s.size:=by omega
 have i1:(0:Int)<=2+(x:Int):=by omega
 have i2:2+(x:Int)<=(s.size:Int):=by omega
 have i3:(2:Int)<=2+(x:Int):=by omega
 have i4:2+(x:Int)<=2+(x:Int)+(y:Int):=by omega
 have i5:2+(x:Int)+(y:Int)<=(s.size:Int):=by omega
 have i6:(0:Int)<=2+(x:Int)+(y:Int):=by omega
 have n1:(2+(x:Int)).toNat=2+x:=by omega
 have n2:(2+(x:Int)+(y:Int)).toNat=2+x+y:=by omega
 have HF:=hide hf;have HKE:=hide hk;have HVE:=hide hv;have HRE:=hide hr;clear hf hk hv hr hks;replace n1:=hide n1;replace n2:=hide n2;go_enter Tryz.func255,Tryz.ntmps255;go_wp2
 go_region_held3 (fun _=>True) (trivial) (fail)
 rw[n1.out,n2.out,HKE.out,HVE.out];go_wp2_with (fail)
 clear hB fz;have hW:Below w.heap.size w (w.alloc (o_ #[.string k,.string v,.bool false] 133)).drew:=(a_ w _).drew;have a0:(w.alloc (o_ #[.string k,.string v,.bool false] 133)).drew.cell? ⟨w.heap.size,0,none⟩=some (.string k):=aC w _ _ 0;have a1:(w.alloc (o_ #[.string k,.string v,.bool false] 133)).drew.cell? ⟨w.heap.size,1,none⟩=some (.string v):=aC w _ _ 1;have a2:(w.alloc (o_ #[.string k,.string v,.bool false] 133)).drew.cell? ⟨w.heap.size,2,none⟩=some (.bool false):=aC w _ _ 2;have fz:∀ j,(w.alloc (o_ #[.string k,.string v,.bool false] 133)).drew.frozen? ⟨w.heap.size,j,none⟩=false:=aQ w _ _;have hs0:w.heap.size<(w.alloc (o_ #[.string k,.string v,.bool false] 133)).drew.heap.size:=by simp
 generalize (w.alloc (o_ #[.string k,.string v,.bool false] 133)).drew=w0 at *;have HW:=hide hW;clear hW
 go_region_held3 (fun w'=>w'.cell? ⟨w.heap.size,0,none⟩=some (.string k)/\w'.cell? ⟨w.heap.size,1,none⟩=some (.string v)/\w'.cell? ⟨w.heap.size,2,none⟩=some (.bool false)) (first|go_keep|exact⟨a0,a1,a2⟩|exact HC2.out|exact keep3 HC2.out) (first|(go_at_call 170;refine((HK _).out).mono ?_;rintro e w2 ⟨rfl,hb2⟩;replace hb2:Below w0.heap.size w0 w2:=(by first|exact hb2|exact aB (r_ _ _).drew (n_ _) hb2);have HC2:=hide (And.intro (aA hb2 a0) (And.intro (aA hb2 a1) (aA hb2 a2)));have f2:=(fun j=>aE hb2 hs0 (fz j));have c0:=aA hb2 a0;have c1:=aA hb2 a1;have c2:=aA hb2 a2;have HB2:=hide hb2;clear hb2))
 rw[n2.out,HRE.out];clear n1 n2;go_wp2;obtain⟨k0,k1,k2⟩:=keep3 HC2.out;exact bodyPost_ret (v:=.tuple #[.agg #[.string k,.string v,.bool false],.string r,.bool true]) (by simp[results,Tryz.results255,go_sem,k0,k1,k2]) rfl ⟨rfl,(((aB HW.out (n_ _) HB2.out).setCell (n_ _) _).setCell (n_ _) _).setCell (n_ _) _⟩
section
variable (c:Chg) (r:ByteArray)
theorem wY:(rowB c++r).size=2+c.key.size+c.val.size+r.size:=by rw[ByteArray.size_append,oA]
theorem zNd (h:0<(rowB c++r).size) (hk:c.key.size<=255):(rowB c++r)[0].toNat=c.key.size:=by
 simp only[rowB,ByteArray.getElem_eq_getElem_data,ByteArray.data_append,Array.append_assoc];simp;omega
theorem zNa (h:1<(rowB c++r).size) (hk:c.val.size<=255):(rowB c++r)[1].toNat=c.val.size:=by
 simp only[rowB,ByteArray.getElem_eq_getElem_data,ByteArray.data_append,Array.append_assoc];simp;omega
theorem zLS:(rowB c++r).extract 2 (2+c.key.size)=c.key:=by
 rw[rowB,jL,jL];exact(ByteArray.extract_append_size_add' (i:=0) rfl).trans (ByteArray.extract_append_eq_left rfl)
theorem zMf:(rowB c++r).extract (2+c.key.size) (2+c.key.size+c.val.size)=c.val:=by
 rw[rowB,jL];exact(ByteArray.extract_append_size_add' (i:=0) (by rw[ByteArray.size_append];rfl)).trans (ByteArray.extract_append_eq_left rfl)
theorem zKC:(rowB c++r).extract (2+c.key.size+c.val.size) (rowB c++r).size=r:=by
 refine ByteArray.extract_append_eq_right ?_ ?_
 ·rw[oA]
 ·rw[wY,oA]
theorem zL7 (w:World) (hf:aD c=0) (hg:c.gone=false) (hr:r.size<=50000):
  Calls p_ 255 #[.string (rowB c++r)] w fun e w'=>e=.returned (.tuple #[.agg #[.string c.key,.string c.val,.bool false],.string r,.bool true])/\Below w.heap.size w w':=by
 obtain⟨hk,hv⟩:=iS hf;have hs:=wY c r;have e:(⟨c.key,c.val,false⟩:Chg)=c:=by cases c;cases hg;rfl
 exact zLx (rowB c++r) w (by omega) (by omega) _ _ (zNd c r (by omega) (by omega)) (zNa c r (by omega) (by omega)) (by omega) _ _ _ (zLS c r) (zMf c r) (zKC c r) (by rw[e];exact hf)
end
end
section
open Go.RowKit Go.Joins
def insL:List Chg->Chg->List Chg
 | [],c=>[c]
 | x::l,c=>if ltS x.key c.key then x::insL l c else if eqS x.key c.key then c::l else c::x::l
theorem wC (x:Chg) (l:List Chg) (key:ByteArray):cU (x::l) key=if ltS x.key key then cU l key+1 else 0:=by
 unfold cU;rw[List.findIdx_cons];cases ltS x.key key<;>rfl
theorem zD3 (x:Chg) (l:List Chg) (key:ByteArray):fB (x::l) key=if ltS x.key key then fB l key else eqS x.key key:=by
 unfold fB;rw[wC];cases ltS x.key key<;>simp
theorem zLv (l:List Chg) (c:Chg):putL l c=insL l c:=by
 induction l with
 | nil=>rfl
 | cons x l ih=>
  unfold putL at *;rw[insL,wC,zD3];cases h:ltS x.key c.key
  ·cases h2:eqS x.key c.key<;>simp
  ·simp only[if_true];rw[<-ih];cases fB l c.key<;>simp
theorem yP (l:List Chg) (c:Chg):(insL l c).length<=l.length+1:=by
 induction l with
 | nil=>simp[insL]
 | cons x l ih=>unfold insL;split<;>(try split)<;>simp<;>omega
theorem zKt (l:List Chg) (c:Chg):0<(insL l c).length:=by
 cases l with
 | nil=>simp[insL]
 | cons x l=>unfold insL;split<;>(try split)<;>simp
theorem vU {l:List Chg} {c y:Chg} (h:y∈insL l c):y=c∨y∈l:=by
 induction l with
 | nil=>simpa[insL] using h
 | cons x l ih=>
  unfold insL at h;split at h
  ·rcases List.mem_cons.1 h with h|h
   ·right;simp[h]
   ·rcases ih h with h|h
    ·left;exact h
    ·right;simp[h]
  ·split at h
   ·rcases List.mem_cons.1 h with h|h
    ·left;exact h
    ·right;simp[h]
   ·rcases List.mem_cons.1 h with h|h
    ·left;exact h
    ·right;exact h
def rises (l:List Chg):Prop:=l.Pairwise fun a b=>ltS a.key b.key=true
theorem zA8 {l:List Chg} (c:Chg) (h:rises l):rises (insL l c):=by
 induction l with
 | nil=>simp[rises,insL]
 | cons x l ih=>
  unfold rises at *;obtain⟨h1,h2⟩:=List.pairwise_cons.1 h;unfold insL;split
  ·rename_i hx;refine List.pairwise_cons.2 ⟨fun y hy=>?_,ih h2⟩;rcases vU hy with rfl|hy
   ·exact hx
   ·exact h1 y hy
  ·rename_i hx;split
   ·rename_i he;have e:=(eV _ _).1 he;exact List.pairwise_cons.2 ⟨fun y hy=>e▸h1 y hy,h2⟩
   ·rename_i he;have k:ltS c.key x.key=true:=by
     rcases jZ x.key c.key with k|k|k
     ·exact absurd k hx
     ·exact absurd ((eV _ _).2 k) he
     ·exact k
    refine List.pairwise_cons.2 ⟨fun y hy=>?_,h⟩;rcases List.mem_cons.1 hy with rfl|hy
    ·exact k
    ·exact cL k (h1 y hy)
theorem zD (p q:ByteArray):(ltS p q=true/\eqS p q=false/\ltS q p=false/\eqS q p=false)∨p=q∨(ltS p q=false/\eqS p q=false/\ltS q p=true/\eqS q p=false):=by
 rcases jZ p q with h|h|h
 ·left;exact⟨h,uM h,kP h,(xD q p).trans (uM h)⟩
 ·right;left;exact h
 ·right;right;exact⟨kP h,(xD p q).trans (uM h),h,uM h⟩
theorem pN {α β:Type} (f:α->List β) (k:Nat) (hk:∀ x,(f x).length=k) (l:List α):(l.flatMap f).length=l.length*k:=by
 induction l with
 | nil=>simp
 | cons x l ih=>rw[List.flatMap_cons,List.length_append,ih,hk,List.length_cons,Nat.succ_mul];omega
theorem nI {α β:Type} (f:α->List β) (k:Nat) (hk:∀ x,(f x).length=k) (l:List α):∀ (i j:Nat) (hi:i<l.length),j<k->(l.flatMap f)[i*k+j]?=(f l[i])[j]?:=by
 induction l with
 | nil=>intro i j hi;simp at hi
 | cons x l ih=>
  intro i j hi hj;rw[List.flatMap_cons]
  match i with
  | 0=>rw[Nat.zero_mul,Nat.zero_add,List.getElem?_append_left (by rw[hk];exact hj)];rfl
  | i+1=>
   rw[List.getElem?_append_right (by rw[hk,Nat.succ_mul];omega),hk];have e:(i+1)*k+j-k=i*k+j:=by rw[Nat.succ_mul];omega
   rw[e,ih i j (by simpa using hi) hj];rfl
theorem aI {w w':World} {B:Nat} {e:TypeId} {size:Nat} {v:Value} {n:Nat} {xs:List Value} (h:w.ownsRow B e size v n xs) (hk:∀ k,v.ownBlock=some k->w'.heap[k]?=w.heap[k]?):w'.ownsRow B e size v n xs:=by
 obtain⟨h1,h2⟩:=h;refine⟨h1,?_⟩;rcases h2 with h2|⟨g,cap,cur,hv,hg,hh,r⟩
 ·exact .inl h2
 ·exact .inr ⟨g,cap,cur,hv,hg,(hk g (by rw[hv];rfl)).trans hh,r⟩
theorem bQ {w w':World} {B:Nat} {e:TypeId} {size:Nat} {v:Value} {n:Nat} {xs:List Value} (h:w.ownsRow B e size v n xs) (hb:Below w.heap.size w w'):w'.ownsRow B e size v n xs:=
 aI h fun k hk=>hb.block k (h.lt k hk).2
theorem aX {w:World} {B:Nat} {e:TypeId} {size:Nat} {v:Value} {n:Nat} {xs:List Value} (h:w.ownsRow B e size v n xs):
  (v=.slice none 0 0/\n=0)∨∃ g cap,v=.slice (some ⟨g,0,none⟩) n cap/\B<=g/\g<w.heap.size/\n<=cap/\cap<=maxLen:=by
 rcases h.2 with h2|⟨g,cap,cur,hv,hg,hh,h3,h4,_⟩
 ·exact .inl h2
 ·exact .inr ⟨g,cap,hv,hg,(h.lt g (by rw[hv];rfl)).2,h3,h4⟩
theorem dU {α:Type} {w:World} {B:Nat} {e:TypeId} {k g cap:Nat} {f:α->List Value} (hk:∀ x,(f x).length=k) {l:List α} (h:w.ownsRow B e k (.slice (some ⟨g,0,none⟩) l.length cap) l.length (l.flatMap f))
  (i j:Nat) (hi:i<l.length) (hj:j<k):w.cell? ⟨g,i*k+j,none⟩=(f l[i])[j]?/\w.frozen? ⟨g,i*k+j,none⟩=false:=by
 refine⟨?_,h.frozenAt _⟩;rw[h.cellAt (i*k+j) ?_,nI f k hk l i j hi hj];have:(i+1)*k<=l.length*k:=Nat.mul_le_mul_right k (by omega);rw[Nat.succ_mul] at this;omega
theorem zKF {α β:Type} (f:α->List β) (k:Nat) (hk:∀ x,(f x).length=k) (l:List α) (y:α) (i j:Nat) (hi:i<l.length) (hj:j<k) (u:β) (hy:f y=(f l[i]).set j u):(l.flatMap f).set (i*k+j) u=(l.set i y).flatMap f:=by
 apply List.ext_getElem?;intro m;rcases Nat.lt_or_ge m (l.length*k) with hm|hm
 ·have hk0:0<k:=by omega
  have hq:m / k<l.length:=Nat.div_lt_of_lt_mul (by rw[Nat.mul_comm];exact hm);have hr:m % k<k:=Nat.mod_lt _ hk0;have em:m=m / k*k+m % k:=by rw[Nat.mul_comm];exact(Nat.div_add_mod m k).symm
  rw[List.getElem?_set];by_cases e:i*k+j=m
  ·have e1:m / k=i:=by
    rw[<-e,Nat.mul_comm,Nat.mul_add_div hk0,Nat.div_eq_of_lt hj,Nat.add_zero]
   have e2:m % k=j:=by
    rw[<-e,Nat.mul_comm,Nat.mul_add_mod,Nat.mod_eq_of_lt hj]
   rw[if_pos e,if_pos (by rw[pN f k hk];omega),<-e,nI f k hk _ i j (by simpa using hi) hj];simp[hy,hk,hj]
  ·rw[if_neg e]
   conv=>lhs;rw[em]
   conv=>rhs;rw[em]
   rw[nI f k hk l _ _ hq hr,nI f k hk _ _ _ (by simpa using hq) hr,List.getElem_set];by_cases e1:i=m / k
   ·subst e1;rw[if_pos rfl,hy,List.getElem?_set];have e2:j≠m % k:=fun h=>e (by rw[h];exact em.symm);rw[if_neg e2]
   ·rw[if_neg e1]
 ·rw[List.getElem?_eq_none (by rw[List.length_set,pN f k hk];exact hm),List.getElem?_eq_none (by rw[pN f k hk,List.length_set];exact hm)]
end
section
open Go.RowKit Go.Joins
attribute [local go_sem ↓] Go.wp_at_zero Go.wp_at_succ
def fH (l:List Chg):Prop:=(∀ c∈l,aD c=0/\c.gone=false)/\rises l
def nQ (l:List Chg):ByteArray:=match l.getLast? with
 | some c=>c.key
 | none=>⟨#[]⟩
def zNh:Value->Nat
 | .string s=>s.size
 | _=>0
theorem zKk {c:Chg} (h:aD c=0):c.key≠ByteArray.empty:=by
 intro e;unfold aD at h;rw[e] at h;have k:keyL ByteArray.empty.data.toList=false:=by decide +kernel
 rw[k] at h;cases h
theorem zL1 {l:List Chg} (hf:fH l) {k:Nat} (hk:k<l.length):ltS (nQ (l.take k)) l[k].key=true:=by
 cases k with
 | zero=>
  have hn:=zKk (hf.1 _ (List.getElem_mem hk)).1;show ltS ByteArray.empty l[0].key=true;rcases jZ ByteArray.empty l[0].key with h|h|h
  ·exact h
  ·exact absurd h.symm hn
  ·rw[zLQ] at h;cases h
 | succ j=>
  have e:nQ (l.take (j+1))=l[j].key:=by
   unfold nQ;rw[List.take_succ_eq_append_getElem (by omega),List.getLast?_append];rfl
  rw[e];exact List.pairwise_iff_getElem.1 hf.2 j (j+1) (by omega) hk (by omega)
theorem zJl (l:List Chg) (c:Chg):nQ (l++[c])=c.key:=by
 unfold nQ;rw[List.getLast?_append];rfl
theorem zJj {w:World} {B:Nat} {v:Value} {l:List Chg} {c:Chg} (h:w.ownsRow B 133 3 v (l.length+1) (cG l++bN c)):bO w B v (l++[c]):=by
 unfold bO;rw[List.length_append,cG,List.flatMap_append,List.flatMap_cons,List.flatMap_nil,List.append_nil];exact h
theorem zEz (l:List Chg) (w:World) (hl:l.length<=500) (hf:fH l):
  Calls p_ 207 #[.string (aO l)] w fun e w'=>∃ v,e=.returned (.tuple #[v,.bool true])/\bO w' w.heap.size v l/\Below w.heap.size w w':=by
 have HF:=hide hf;clear hf;go_enter Tryz.func207,Tryz.ntmps207;go_wp2
 go_loopw [0,4,5] (fun tv v lv wr=>∃ k:Nat,k<=l.length/\tv=.string (aO (l.drop k))/\lv=.string (nQ (l.take k))/\bO wr w.heap.size v (l.take k)/\Below w.heap.size w wr) (fun tv _ _ _=>zNh tv)
 case atStart=>exact⟨0,Nat.zero_le _,rfl,rfl,⟨rfl,.inl ⟨rfl,rfl⟩⟩,r_ _ _⟩
 case round=>
  obtain⟨k,hk,rfl,rfl,ho,hb⟩:=hrel;by_cases hlt:k<l.length
  ·have hd:aO (l.drop k)=rowB l[k]++aO (l.drop (k+1)):=by rw[List.drop_eq_getElem_cons hlt];rfl
   obtain⟨hf1,hf2⟩:=HF.out.1 _ (List.getElem_mem hlt);have hrs:(aO (l.drop (k+1))).size<=50000:=by
    have h1:=sP (l.drop (k+1)) 55 fun c hc=>by have:=iS (HF.out.1 c (List.mem_of_mem_drop hc)).1;omega
    rw[List.length_drop] at h1;have:(l.length-(k+1))*(55+2)<=500*57:=Nat.mul_le_mul (by omega) (by omega);omega
   have HC:=fun w'=>hide (zL7 l[k] (aO (l.drop (k+1))) w' hf1 hf2 hrs);rw[hd];have hsz:=wY l[k] (aO (l.drop (k+1)));generalize hre:aO (l.drop (k+1))=rest at *;have hrst:v_ rest=.string (aO (l.drop (k+1))):=by rw[hre]
   clear hre;have HRST:=hide hrst;clear hrst;generalize rowB l[k]++rest=s at *;have hs0:s≠ByteArray.empty:=fun e=>by rw[e] at hsz;have:ByteArray.empty.size=0:=rfl;omega
   have he:s.toList.isEmpty=false:=by
    have:=mt (zJG s).1 hs0;simpa[nilS] using this
   have hla:=zL1 HF.out hlt;have l1:Op.bytesLess l[k].key.toList (nQ (l.take k)).toList=false:=kP hla;have l2:(l[k].key.toList==(nQ (l.take k)).toList)=false:=(xD _ _).trans (uM hla);have hln:(l.take k).length=k:=by rw[List.length_take];omega
   have htk:l.take (k+1)=l.take k++[l[k]]:=List.take_succ_eq_append_getElem hlt;have HO:=hide ho;have HB:=hide hb;have HT:=hide htk;have HS:=hide hsz;have HG:=hide hf2;clear ho hb hla hs0 htk hsz hf1 hf2 hrs;generalize nQ (l.take k)=la at *;generalize l[k]=x at *;generalize l.take k=lt at *;obtain⟨i0,hi0,hz0,hz1,hz2⟩:=info_parts qS;go_wp2_with (fail)
   refine((HC _).out).mono ?_;rintro e w7 ⟨rfl,hb7⟩;have HB7:=hide hb7;clear hb7;go_wp2_with (fail)
   have e3:#[v_ x.key,v_ x.val,Value.bool false]=(bN x).toArray:=by unfold bN;rw[HG.out]
   have HB8:=hide (aB HB7.out (n_ _) (a_ w7 (o_ #[.string x.key,.string x.val,.bool false] 133)));have a0:(w7.alloc (o_ #[.string x.key,.string x.val,.bool false] 133)).cell? ⟨w7.heap.size,0,none⟩=some (.string x.key):=aC _ _ _ 0;have a1:(w7.alloc (o_ #[.string x.key,.string x.val,.bool false] 133)).cell? ⟨w7.heap.size,1,none⟩=some (.string x.val):=aC _ _ _ 1;have a2:(w7.alloc (o_ #[.string x.key,.string x.val,.bool false] 133)).cell? ⟨w7.heap.size,2,none⟩=some (.bool false):=aC _ _ _ 2;have HO8:=hide (bQ HO.out HB8.out);have hav:some w7.heap.size≠u4.ownBlock:=fun e=>by
    have h1:=(HO.out.lt _ e.symm).2;have h2:=HB7.out.size;omega
   have hcl:w7.heap.size<(w7.alloc (o_ #[.string x.key,.string x.val,.bool false] 133)).heap.size:=by simp
   have hB2:w.heap.size<=(w7.alloc (o_ #[.string x.key,.string x.val,.bool false] 133)).heap.size:=Nat.le_trans HB.out.size HB8.out.size;have hg:=HG.out;generalize hcb:w7.heap.size=cb at *;generalize w7.alloc (o_ #[.string x.key,.string x.val,.bool false] 133)=W at *;have HNW:Hid (∀ j u,(bN x)[j]?=some u->(W.alloc (o_ #[.string x.key,.string x.val,.bool false] 133)).drew.cell? ((⟨W.heap.size,0,none⟩:Addr).add j)=some u):=by
    rw[e3];exact World.news_of_block (cs:=(bN x).toArray) (t:=133) (fr:=(0,0)) (heap_alloc_new W _)
   clear hcb e3 hg;have d0:=aA (a_ W (o_ #[.string x.key,.string x.val,.bool false] 133)).drew a0
   go_region_law ((refine step_append_lies _ (by rfl) _ _ _ (by rfl) w.heap.size 133 i0 _ 3 40 Tryz.underlying36 hi0 hz0 hz1 hz2 rfl (by omega) u4 lt.length (cG lt) (by rfl) ((HO8.out.alloc _).drew) ⟨W.heap.size,0,none⟩ 1 1 (bN x) (by rfl) (by rfl) HNW.out (by simp[bN,Value.oneCell']) (by omega) (by unfold maxLen;omega) (by omega) (by simp;omega) (W.heap.size+1) (by simp) ?_;intro g5 cap5 w5 ho5 hgr5 hat5 hlt5;have e5:w5.heap[cb]?=W.heap[cb]?:=(hgr5.block cb (by simp;omega) hav).trans ((a_ W _).drew.block cb hcl);have d5:=(b_ (a:=⟨cb,0,none⟩) e5).trans a0))
   all_goals
    have HO5:=hide (zJj ho5);have HB5:=hide ((aB (aB HB.out (n_ _) HB8.out) (n_ _) (a_ W (o_ #[.string x.key,.string x.val,.bool false] 133)).drew).grown hgr5 (by simp;omega) (fun k hk=>(HO8.out.lt k hk).1));clear e5 d5 ho5 hgr5 hat5 hlt5;go_wp2;go_roundw
    case rel=>
     have r1:bO w5 w.heap.size (.slice (some ⟨g5,0,none⟩) (k+1) cap5) (l.take (k+1)):=by
      rw[HT.out];have:=HO5.out;rw[hln] at this;exact this
     have r2:nQ (l.take (k+1))=x.key:=by rw[HT.out,zJl]
     first
      | exact⟨k+1,by omega,HRST.out,by rw[r2],r1,HB5.out⟩
      | exact⟨.string rest,u2,u3,.slice (some ⟨g5,0,none⟩) (k+1) cap5,.string x.key,_,_,_,_,_,_,_,_,_,_,_,_,_,_,_,_,_,_,_,_,_,_,_,_,_,_,⟨k+1,by omega,HRST.out,by rw[r2],r1,HB5.out⟩,rfl⟩
    case measure=>
     show rest.size<s.size;rw[HS.out];omega
  ·have ek:k=l.length:=by omega
   subst ek;have e1:aO (l.drop l.length)=⟨#[]⟩:=by rw[List.drop_length];rfl
   rw[e1];rw[List.take_length] at ho;have HO:=hide ho;have HB:=hide hb;clear ho hb;go_wp2;go_ret2;exact⟨_,rfl,HO.out,HB.out⟩
def nT:ByteArray:=⟨#[104,97,121,119,97,105,110,32,114,111,119,115]⟩
def jX (area first size:Nat):List UInt8:=[UInt8.ofNat area,UInt8.ofNat first,UInt8.ofNat size,UInt8.ofNat (size / 256)]
def iG (area first size:Nat):ByteArray:=nT++⟨(jX area first size).toArray⟩
theorem zHN (area first size:Nat) (ha:area<=1) (hf:first<=255) (hs:size<=60000) (w:World):Calls p_ 185 #[.agg #[.int .i64 (area:Int),.int .i64 (first:Int),.int .i64 (size:Int)]] w fun e w'=>e=.returned (.string (iG area first size))/\Below w.heap.size w w':=by
 have a0:(0:Int)<=(area:Int):=by omega
 have a1:(area:Int)<=1:=by omega
 have f0:(0:Int)<=(first:Int):=by omega
 have f1:(first:Int)<=255:=by omega
 have s0:(0:Int)<=(size:Int):=by omega
 have s1:(size:Int)<=60000:=by omega
 have hcv:=run_convert_bytes_back (P:=p_) ((w.alloc (o_ #[.int k_ (area:Int),.int k_ (first:Int),.int k_ (size:Int)] 202)).alloc (o_ #[.int IntKind.u8 (area:Int),.int IntKind.u8 (first:Int),.int IntKind.u8 ((size:Int) % 256),.int IntKind.u8 ((size:Int) / 256)] 5)) 247 9 5 ⟨w.heap.size+1,0,none⟩ 4 (jX area first size) Tryz.underlying247 Tryz.underlying5 Tryz.underlying9 (fun j hj=>by
  have hj2:j=0∨j=1∨j=2∨j=3:=by simp[jX] at hj;omega
  have e:(w.alloc (o_ #[.int k_ (area:Int),.int k_ (first:Int),.int k_ (size:Int)] 202)).heap.size=w.heap.size+1:=by simp
  have hn:=aC (w.alloc (o_ #[.int k_ (area:Int),.int k_ (first:Int),.int k_ (size:Int)] 202)) #[i_ IntKind.u8 (area:Int),i_ IntKind.u8 (first:Int),i_ IntKind.u8 ((size:Int) % 256),i_ IntKind.u8 ((size:Int) / 256)] 5 j;rw[e] at hn;have e2:(⟨w.heap.size+1,0,none⟩:Addr).add j=⟨w.heap.size+1,j,none⟩:=by simp[Addr.add];exact fun h=>h.symm
  rw[e2,hn];rcases hj2 with rfl|rfl|rfl|rfl<;>simp[jX]<;>omega)
 have HB:=hide (aB (a_ w (o_ #[.int k_ (area:Int),.int k_ (first:Int),.int k_ (size:Int)] 202)) (n_ _) (a_ _ (o_ #[.int IntKind.u8 (area:Int),.int IntKind.u8 (first:Int),.int IntKind.u8 ((size:Int) % 256),.int IntKind.u8 ((size:Int) / 256)] 5)));have hl:(jX area first size).length=4:=rfl;rw[hl] at hcv;clear hl;have hz:(⟨(jX area first size).toArray⟩:ByteArray).size=4:=rfl;unfold iG nT;generalize jX area first size=fl at *;go_enter Tryz.func185,Tryz.ntmps185;go_wp2;go_ret;exact⟨rfl,HB.out⟩
end
def dF (t:ByteArray) (k:Nat):ByteArray:=t.extract (96*k) (96*k+96)
def bT (n:Nat):Nat:=(n+95) / 96
def bI (t:ByteArray):List ByteArray:=(List.range (bT t.size)).map (dF t)
def kS:List ByteArray->ByteArray
 | []=>⟨#[]⟩
 | s::l=>s++kS l
theorem zZ (l:List ByteArray) (s:ByteArray):kS (l++[s])=kS l++s:=by
 induction l with
 | nil=>show s++⟨#[]⟩=⟨#[]⟩++s;rw[pL,lP]
 | cons x l ih=>show x++kS (l++[s])=x++kS l++s;rw[ih,jL]
theorem zFv (l:List ByteArray) (h:∀ s∈l,s.size=96):(kS l).size=96*l.length:=by
 induction l with
 | nil=>rfl
 | cons x l ih=>
  show(x++kS l).size=_;rw[ByteArray.size_append,ih fun s hs=>h s (List.mem_cons_of_mem _ hs),h x (List.mem_cons_self ..),List.length_cons];omega
theorem mR (t:ByteArray) (k:Nat):(dF t k).size=min (96*k+96) t.size-96*k:=by unfold dF;rw[ByteArray.size_extract]
theorem zIw (s:ByteArray):aH s=s++bD (96-s.size):=by
 apply ByteArray.ext;unfold aH bD;rw[ByteArray.data_append];simp
theorem lT (t:ByteArray) (i j:Nat):(t.extract i j).data.toList=(t.data.toList.take j).drop i:=by
 rw[ByteArray.data_extract,Array.toList_extract,List.extract_eq_take_drop,List.take_drop];by_cases h:i<=j
 ·rw[show i+(j-i)=j by omega]
 ·rw[List.drop_eq_nil_of_le (by rw[List.length_take];omega),List.drop_eq_nil_of_le (by rw[List.length_take];omega)]
theorem qU {a b:ByteArray} (h:a.data.toList=b.data.toList):a=b:=by
 apply ByteArray.ext;exact Array.toList_inj.1 h
theorem xV (a b:ByteArray):(a++b).data.toList=a.data.toList++b.data.toList:=by rw[ByteArray.data_append,Array.toList_append]
theorem pT (a:ByteArray):a.data.toList.length=a.size:=by rw[Array.length_toList];rfl
theorem zMa (t:ByteArray) {i j:Nat} (h:i<=j):t.extract 0 i++t.extract i j=t.extract 0 j:=by
 apply qU;rw[xV,lT,lT,lT,List.drop_zero,List.drop_zero];have e:t.data.toList.take i=(t.data.toList.take j).take i:=by rw[List.take_take,Nat.min_eq_left h]
 rw[e,List.take_append_drop]
theorem zMj (t:ByteArray) {j:Nat} (h:t.size<=j):t.extract 0 j=t:=by
 apply qU;rw[lT,List.drop_zero,List.take_of_length_le (by rw[pT];exact h)]
theorem wH (t:ByteArray):∀ k,(k=0∨96*(k-1)<t.size)->kS ((List.range k).map fun j=>aH (dF t j))=t.extract 0 (96*k)++bD (96*k-t.size)
 | 0,_=>by
  apply qU;rw[xV,lT];simp[kS,bD]
 | k+1,h=>by
  have hk:96*k<t.size:=by rcases h with h|h<;>simp at h;omega
  rw[List.range_succ,List.map_append,List.map_cons,List.map_nil,zZ,wH t k (by omega),show 96*k-t.size=0 by omega];have e0:bD 0=⟨#[]⟩:=rfl;rw[e0,lP,zIw,mR,<-jL];unfold dF;rw[zMa t (by omega),show 96*k+96=96*(k+1) by omega];congr 2;omega
theorem zII (t:ByteArray):(kS ((List.range (bT t.size)).map fun j=>aH (dF t j))).extract 0 t.size=t:=by
 unfold bT;rw[wH t _ (by omega),zMj t (by omega)];apply qU;rw[lT,xV,List.drop_zero,List.take_append_of_le_length (by rw[pT];exact n_ _),List.take_of_length_le (by rw[pT];exact n_ _)]
def aJ (area:Nat):Nat:=1+24*area
def aM (N:List ByteArray):Nat:=if (decL (N[50]?.getD ⟨#[]⟩) 1).isSome then 2 else 1
theorem rB (N:List ByteArray):1<=aM N/\aM N<=2:=by unfold aM;split<;>omega
def eK (area first:Nat) (rows:List Chg):ByteArray:=iG area first (aO rows).size
def oH (area first:Nat) (rows:List Chg):List DOp:=aL (aJ area) (bI (aO rows))++([none]++([some (0,eK area first rows)]++([none]++[])))
structure fU (N:List ByteArray) (n area first:Nat) (rows:List Chg) (ds:List (List Chg)) (u:Nat):Prop where
 len:N.length=n
 n54:54<=n
 a1:area<=1
 f1:1<=first/\first<=2
 root:N[0]?=some (aH (eK area first rows))
 text:∀ j,j<bT (aO rows).size->N[aJ area+j]?=some (aH (dF (aO rows) j))
 fine:fH rows
 few:rows.length<=40
 has:HasL N 50 (n-50) first ds u
theorem jA {rows:List Chg} (hf:fH rows) (h:rows.length<=40):(aO rows).size<=2280:=by
 have h1:=sP rows 55 fun c hc=>by have:=iS (hf.1 c hc).1;omega
 have:rows.length*(55+2)<=40*57:=Nat.mul_le_mul (by omega) (by omega);omega
theorem zBC (area first:Nat) (rows:List Chg):(eK area first rows).size=16:=by
 unfold eK iG;rw[ByteArray.size_append];rfl
theorem zJv {K N:List ByteArray} {fr many:Nat} (h:∀ j,fr<=j->K[j]?=N[j]?):regL K fr many=regL N fr many:=by
 apply List.ext_getElem?;intro j;rw[kD,kD];split
 ·exact h _ (by omega)
 ·rfl
theorem fU.keep {N K:List ByteArray} {n area first u:Nat} {rows:List Chg} {ds:List (List Chg)} (h:fU N n area first rows ds u) (hl:K.length=N.length) (hk:∀ j,¬(aJ (1-area)<=j/\j<aJ (1-area)+24)->K[j]?=N[j]?):fU K n area first rows ds u:=by
 have ha:=h.a1;have hp:=jA h.fine h.few;refine⟨hl.trans h.len,h.n54,h.a1,h.f1,(hk 0 (by unfold aJ;omega)).trans h.root,fun j hj=>(hk _ ?_).trans (h.text j hj),h.fine,h.few,?_⟩
 ·unfold bT at hj;unfold aJ;omega
 ·unfold HasL;rw[zJv (N:=N) fun j hj=>hk j (by unfold aJ;omega)];exact h.has
theorem zGc (N:List ByteArray):decL (N[50]?.getD ⟨#[]⟩) (aM N)=none:=by
 unfold aM
 cases h:decL (N[50]?.getD ⟨#[]⟩) 1 with
 | none=>exact h
 | some kd=>
  show decL (N[50]?.getD ⟨#[]⟩) 2=none;generalize N[50]?.getD ⟨#[]⟩=t at *;unfold decL at h ⊢;split at h
  case isFalse=>cases h
  case isTrue hh=>
   rw[if_neg];intro h2;have e1:=hh.2.1;have e2:=h2.2.1;have e:(dM 1).toList=(dM 2).toList:=by
    have a:=eq_of_beq e1;have b:=eq_of_beq e2;rw[<-a,<-b]
   exact absurd e (by decide +kernel)
theorem zIC {K N:List ByteArray} {n:Nat} (h54:54<=n) (hn:K.length=n) (hN:N.length=n) (h:K[50]?=N[50]?):HasL K 50 (n-50) (aM N) [] 0:=by
 unfold HasL;have hf:=zGc N;have hg:(regL K 50 (n-50))[0]?=N[50]?:=by rw[kD,if_pos (by omega)];exact h
 have hl:(regL K 50 (n-50)).length=n-50:=xO (by omega)
 cases hr:regL K 50 (n-50) with
 | nil=>rw[hr] at hl;simp at hl;omega
 | cons t r=>
  rw[hr] at hg;have e:N[50]?=some t:=by rw[<-hg];rfl
  rw[e,Option.getD_some] at hf;generalize aM N=f at *;have hf2:decL t (f+0)=none:=hf;rw[oI hf2]
theorem zEs (X:List ByteArray->Prop) (l:List (Nat×ByteArray)) (hX:∀ x∈l,∀ K,X K->X (K.set x.1 (aH x.2))):∀ N,X N->X (l.foldl (fun N x=>N.set x.1 (aH x.2)) N):=by
 induction l with
 | nil=>intro N h;exact h
 | cons x l ih=>intro N h;exact ih (fun y hy=>hX y (List.mem_cons_of_mem _ hy)) _ (hX x (List.mem_cons_self ..) N h)
theorem sC (t:ByteArray):(bI t).length=bT t.size:=by unfold bI;simp
theorem zGM (t:ByteArray) {j:Nat} (h:j<(bI t).length):(bI t)[j]=dF t j:=by simp[bI]
theorem vW {t s:ByteArray} (h:s∈bI t):s.size<=96:=by
 unfold bI at h;obtain⟨k,_,rfl⟩:=List.mem_map.1 h;rw[mR];omega
theorem zFe {s:DSt} {n area:Nat} {rows:List Chg} (Y X:List ByteArray->Prop) (hd:s.down=false) (hn:s.now.length=n) (h54:54<=n) (ha:area<=1) (hf:fH rows) (hfew:rows.length<=40) (hX0:∀ K,fX s K->Y K) (hXN:Y s.now)
  (hXw:∀ K j d,aJ area<=j->j<aJ area+24->Y K->Y (K.set j d)) (hYX:∀ K,Y K->X K) (hXe:∀ K,fU K n area (aM s.now) rows [] 0->X K):
  Run (runD (oH area (aM s.now) rows) s) (fun s'=>s'.down=false/\s'.wait=[]/\s'.kept=s'.now/\fU s'.now n area (aM s.now) rows [] 0) X:=by
 have hp:=jA hf hfew;have hpl:=sC (aO rows);have hp24:(bI (aO rows)).length<=24:=by rw[hpl];unfold bT;omega
 have haN:aJ area+24<=50:=by unfold aJ;omega
 have ha1:1<=aJ area:=by unfold aJ;omega
 have hfr:=rB s.now;unfold oH;have erest:aL (aJ area) (bI (aO rows))=(((bI (aO rows)).zipIdx (aJ area)).map fun x=>(x.2,x.1)).map fun x=>some (x.1,x.2):=by rw[yB,List.map_map];rfl
 rw[erest];have hmem:∀ x∈((bI (aO rows)).zipIdx (aJ area)).map fun x=>(x.2,x.1),aJ area<=x.1/\x.1<aJ area+24/\x.2.size<=96:=fun x hx=>by
  obtain⟨y,hy,rfl⟩:=List.mem_map.1 hx;have hy2:=List.mem_zipIdx hy;refine⟨hy2.1,by have:=hy2.2.1;show y.2<_;omega,?_⟩;show y.1.size<=96;rw[hy2.2.2];exact vW (List.getElem_mem _)
 have r1:=Run.writes Y n (((bI (aO rows)).zipIdx (aJ area)).map fun x=>(x.2,x.1)) s hd hn hX0 (fun x hx=>by
  obtain⟨q1,q2,q3⟩:=hmem x hx;exact⟨by omega,q3,fun K hK=>hXw K _ _ q1 q2 hK⟩)
 refine Run.bind (r1.mono (fun _ h=>h) hYX) fun s1 ⟨d1,n1,x1⟩=>?_;have xm:Y s1.now:=by
  rw[n1];exact zEs Y _ (fun x hx K hK=>by obtain⟨q1,q2,_⟩:=hmem x hx;exact hXw K _ _ q1 q2 hK) _ hXN
 have n1len:s1.now.length=n:=by rw[n1,uC];exact hn
 have n1out:∀ j,¬(aJ area<=j/\j<aJ area+24)->s1.now[j]?=s.now[j]?:=fun j hj=>by
  rw[n1];exact zDt _ j _ fun x hx=>by obtain⟨q1,q2,_⟩:=hmem x hx;omega
 have n1at:∀ j (hj:j<(bI (aO rows)).length),s1.now[aJ area+j]?=some (aH (bI (aO rows))[j]):=fun j hj=>by
  rw[n1,List.foldl_map];exact xX _ (aJ area) _ j hj (by omega)
 refine Run.bind ((Run.flush Y s1 d1 x1).mono (fun _ h=>h) hYX) fun s2 ⟨d2,n2,k2,w2⟩=>?_;have hg:fU (s1.now.set 0 (aH (eK area (aM s.now) rows))) n area (aM s.now) rows [] 0:=by
  refine⟨by rw[List.length_set];exact n1len,h54,ha,hfr,List.getElem?_set_self (by omega),fun j hj=>?_,hf,hfew,?_⟩
  ·have hj2:j<(bI (aO rows)).length:=by rw[hpl];exact hj
   rw[List.getElem?_set_ne (by omega),n1at j hj2,zGM]
  ·refine zIC h54 (by rw[List.length_set];exact n1len) hn ?_;rw[List.getElem?_set_ne (by omega)];exact n1out 50 (by omega)
 have g3:∀ K,(K=s1.now∨K=s1.now.set 0 (aH (eK area (aM s.now) rows)))->X K:=fun K hK=>by
  rcases hK with rfl|rfl
  ·exact hYX _ xm
  ·exact hXe _ hg
 have r3:=Run.writes (fun K=>K=s1.now∨K=s1.now.set 0 (aH (eK area (aM s.now) rows))) n [(0,eK area (aM s.now) rows)] s2 d2 (by rw[n2,n1len]) (fun K hK=>.inl (by rw[mW w2 hK,k2])) (fun x hx=>by
  rw[List.mem_singleton] at hx;subst hx;refine⟨by show 0<n;omega,by rw[zBC];decide,fun K hK=>.inr ?_⟩;rcases hK with rfl|rfl
  ·rfl
  ·exact List.set_set ..)
 refine Run.bind (r3.mono (fun _ h=>h) g3) fun s3 ⟨d3,n3,x3⟩=>?_;have n3':s3.now=s1.now.set 0 (aH (eK area (aM s.now) rows)):=by rw[n3,n2];rfl
 refine Run.bind ((Run.flush _ s3 d3 x3).mono (fun _ h=>h) g3) fun s4 ⟨d4,n4,k4,w4⟩=>?_;refine⟨fun _=>⟨d4,w4,by show s4.kept=s4.now;rw[k4,n4],?_⟩,fun e=>absurd rfl e⟩;show fU s4.now _ _ _ _ _ _;rw[n4,n3'];exact hg
theorem zBp {s:DSt} {n area:Nat} {rows:List Chg} (hd:s.down=false) (hl:s.left=-1) (hn:s.now.length=n) (h54:54<=n) (ha:area<=1) (hf:fH rows) (hfew:rows.length<=40):(runD (oH area (aM s.now) rows) s).1=0/\(runD (oH area (aM s.now) rows) s).2.left=-1:=by
 have hp:=jA hf hfew;have hpl:=sC (aO rows);have hp24:(bI (aO rows)).length<=24:=by rw[hpl];unfold bT;omega
 have haN:aJ area+24<=50:=by unfold aJ;omega
 refine vA n _ s hd hl hn fun o ho a d e=>?_;unfold oH at ho;simp only[List.append_nil,List.mem_append,List.mem_singleton] at ho;rcases ho with ho|rfl|rfl|rfl
 ·obtain⟨p1,p2,p3⟩:=sX _ _ o ho a d e;exact⟨by omega,vW p3⟩
 ·cases e
 ·cases e;exact⟨by omega,by rw[zBC];decide⟩
 ·cases e
section
open Go.RowKit Go.Joins Go.Shelf
attribute [local go_sem] Oper.semAt_some
def pP (g:Nat) (t:ByteArray) (k:Nat):Value:=.slice (some ⟨g,96*k,none⟩) (min 96 (t.size-96*k)) (min 96 (t.size-96*k))
def jT (Bs Bn:Nat) (A B:World):Prop:=B.heap[Bs]?=A.heap[Bs]?/\B.heap[Bn]?=A.heap[Bn]?
theorem jT.refl (Bs Bn:Nat) (A:World):jT Bs Bn A A:=⟨rfl,rfl⟩
theorem jT.trans {Bs Bn:Nat} {A B C:World} (h:jT Bs Bn A B) (k:jT Bs Bn B C):jT Bs Bn A C:=⟨k.1.trans h.1,k.2.trans h.2⟩
theorem zIr (F:Fence) (n:Nat) (hF:F.fn 277) (hro:F.round=none) (hn:1<=n) (l Bs Bn g cap:Nat) (t:ByteArray) (ht:t.size<=100000) (hcap:t.size<=cap) (hcm:cap<=9223372036854775807) (J Jx:List Nat->World->Prop) (hJd:∀ s W,J s W->J s W.drew)
  (hY:∀ pre x W,J pre W->pre.length<bT t.size->YieldAt F (n-1) p_ l #[pP g t x] W fun e W'=>
   (e=.returned (.bool true)/\J (pre++[x]) W'/\jT Bs Bn W W')∨(e=.returned (.bool false)/\Jx (pre++[x]) W'))
  (W:World) (hBs:W.cell? ⟨Bs,0,none⟩=some (.slice (some ⟨g,0,none⟩) t.size cap)) (hBn:W.cell? ⟨Bn,0,none⟩=some (.int .i64 96)) (h0:J [] W):
  CallsIn F n p_ 277 #[.func (.yield l) #[] #[],.pointer (some ⟨Bs,0,none⟩),.pointer (some ⟨Bn,0,none⟩)] W fun e W'=>(∃ v,e=.returned v)/\
   ((∃ ys,ys=List.range (bT t.size)/\J ys W')∨(∃ pre,(∃ k,k<=bT t.size/\pre=List.range k)/\Jx pre W')):=by
 have HPN:Hid (bT t.size=(t.size+95) / 96):=rfl;refine callsIn_of_wp Tryz.func277 rfl hF ?_ hro;simp only[Tryz.ntmps277,List.size_toArray,List.length_cons,List.length_nil,Nat.reduceAdd,Nat.reduceSub,Array.replicate_succ,Array.replicate_zero,List.push_toArray,List.append_toArray,List.nil_append,List.cons_append]
 gi_wp2
 gi_loopw [4] (fun i wr=>∃ k:Nat,k<=bT t.size/\i=.int .i64 ((96*k:Nat):Int)/\J (List.range k) wr/\jT Bs Bn W wr)
  (fun i _=>200000-(intOf i).toNat)
 case atStart=>exact⟨0,Nat.zero_le _,rfl,h0,jT.refl _ _ _⟩
 case round=>
  obtain⟨k,hk,rfl,hJs,hnx⟩:=hrel;have hbs:=(b_ (a:=⟨Bs,0,none⟩) hnx.1).trans hBs;have hbn:=(b_ (a:=⟨Bn,0,none⟩) hnx.2).trans hBn;have hpn:=HPN.out;by_cases hlt:96*k<t.size
  ·have hlt':((96*k:Nat):Int)<(t.size:Int):=by omega
   have hkp:k<bT t.size:=by omega
   obtain⟨fn,tmps,assign,body,hy,hR⟩:=hY _ k wr.drew (hJd _ _ hJs) (by rw[List.length_range];exact hkp);dsimp only[pP] at hy;have HKP:=hide hkp;have HRS:Hid (List.range (k+1)=List.range k++[k]):=List.range_succ;have HIM:Hid (((96*k:Nat):Int)+96=((96*(k+1):Nat):Int)):=hide (by omega);have hm0:(0:Int)<=((96*k:Nat):Int):=by omega
   have hm1:((96*k:Nat):Int)<=(cap:Int):=by omega
   have hm2:((96*k:Nat):Int)<=100000:=by omega
   have HSM:Hid (96*(k+1)<=200000):=hide (by omega);clear hpn hkp hk;obtain⟨m,hm⟩:∃ m,m=96*k:=⟨_,rfl⟩;rw[<-hm] at hlt hlt' hy hm0 hm1 hm2 HIM ⊢;obtain⟨z,hz⟩:∃ z,z=min 96 (t.size-m):=⟨_,rfl⟩;rw[<-hz] at hy;have HM:=hide hm;clear hm;have hmix:Tryz.prog.follows .mixedOrders=true:=by kernel_rfl
   have hmc:m<cap:=by omega
   have hmc2:(m:Int)<(cap:Int):=by omega
   have hmc3:¬cap=m:=by omega
   have hmc4:¬m=cap:=by omega
   have hmc5:¬cap-m=0:=by omega
   have hmc6:¬cap<=m:=by omega
   have hm3:(m:Int)<=(t.size:Int):=by omega
   have hz1:0<z:=by omega
   have hz2:z<=96:=by omega
   have hz3:m+z<=t.size:=by omega
   have HMZ:Hid (min (96:Int) ((t.size-m:Nat):Int)=(z:Int)):=hide (by omega);clear hz
   gi_wp2
   gi_region_with_o (fail)
   all_goals
    rw[HMZ.out]
    gi_wp2
    refine hR.mono ?_;rintro e W3 (⟨rfl,hJ3,hk3⟩|⟨rfl,hJx3⟩)
    ·have hbn3:=(b_ (a:=⟨Bn,0,none⟩) hk3.2).trans hbn
     gi_wp2
     rw[HIM.out];go_roundw
     case rel=>exact⟨k+1,HKP.out,rfl,by rw[HRS.out];exact hJ3,hnx.trans hk3⟩
     case measure=>
      have:=HSM.out;have:=HM.out;simp[intOf];omega
    ·gi_wp2
     refine bodyPost_ret (results_none rfl _ _ _) rfl ?_;exact⟨⟨_,rfl⟩,.inr ⟨_,⟨k+1,HKP.out,by rw[HRS.out]⟩,hJx3⟩⟩
  ·have hke:k=bT t.size:=by omega
   have hlt':¬((96*k:Nat):Int)<(t.size:Int):=by omega
   have HKE:=hide hke;clear hpn hke hk;generalize 96*k=m at *
   gi_wp2
   go_end0;exact⟨⟨_,rfl⟩,.inl (by rw[<-HKE.out];exact hJs)⟩
theorem zB2 (F:Fence) (n:Nat) (hF:F.fn 277) (hro:F.round=none) (l Bs Bn:Nat) (J:List Nat->World->Prop) (W:World) (hBs:W.cell? ⟨Bs,0,none⟩=some (.slice none 0 0)) (h0:J [] W):
  CallsIn F n p_ 277 #[.func (.yield l) #[] #[],.pointer (some ⟨Bs,0,none⟩),.pointer (some ⟨Bn,0,none⟩)] W fun e W'=>(∃ v,e=.returned v)/\J [] W':=by
 refine callsIn_of_wp Tryz.func277 rfl hF ?_ hro;simp only[Tryz.ntmps277,List.size_toArray,List.length_cons,List.length_nil,Nat.reduceAdd,Nat.reduceSub,Array.replicate_succ,Array.replicate_zero,List.push_toArray,List.append_toArray,List.nil_append,List.cons_append]
 gi_wp2
 gi_loopw [4] (fun i wr=>i=.int .i64 0/\wr=W) (fun _ _=>0)
 case atStart=>exact⟨rfl,rfl⟩
 case round=>
  obtain⟨rfl,rfl⟩:=hrel
  gi_wp2
  go_end0;exact⟨⟨_,rfl⟩,h0⟩
theorem zJ9 (F:Fence) (n:Nat) (hF:F.fn 238) (hro:F.round=none) (a:Option Addr) (len cap:Nat) (w:World):
  CallsIn F n p_ 238 #[.slice a len cap,.int .i64 96] w fun e w'=>e=.returned (.func (.func 277) #[] #[.pointer (some ⟨w.heap.size,0,none⟩),.pointer (some ⟨w.heap.size+1,0,none⟩)])/\w'=(w.alloc (.cells #[.slice a len cap] 247)).alloc (.cells #[.int .i64 96] 3):=by
 refine callsIn_of_wp Tryz.func238 rfl hF ?_ hro;simp only[Tryz.ntmps238,List.size_toArray,List.length_cons,List.length_nil,Nat.reduceAdd,Nat.reduceSub,Array.replicate_succ,Array.replicate_zero,List.push_toArray,List.append_toArray,List.nil_append,List.cons_append]
 gi_wp2
 go_ret;exact⟨rfl,rfl⟩
def zDg (ao:Option Addr) (cap:Nat) (t:ByteArray):Prop:=(ao=none/\cap=0/\t=⟨#[]⟩)∨∃ g,ao=some ⟨g,0,none⟩/\t.size<=cap/\cap<=9223372036854775807
def iW (ao:Option Addr):Nat:=match ao with
 | some a=>a.block
 | none=>0
theorem zEY (F:Fence) (n:Nat) (hF:F.fn 277) (hro:F.round=none) (hn:1<=n) (Bs Bn:Nat) (ao:Option Addr) (cap:Nat) (t:ByteArray) (ht:t.size<=100000) (w:World) (hls:Bs<w.heap.size) (hln:Bn<w.heap.size)
  (hBs:w.cell? ⟨Bs,0,none⟩=some (.slice ao t.size cap)) (hBn:w.cell? ⟨Bn,0,none⟩=some (.int .i64 96)) (hI:zDg ao cap t):
  SeqStopsK F n p_ 277 #[.pointer (some ⟨Bs,0,none⟩),.pointer (some ⟨Bn,0,none⟩)] (fun x:Nat=>#[pP (iW ao) t x]) (jT Bs Bn) (fun ys=>ys=List.range (bT t.size)) (fun pre=>∃ k,k<=bT t.size/\pre=List.range k) (bT t.size) w:=fun l J Jx W hW hA _ hY h0=>by
 have hBs':=(hW.cell (p:=⟨Bs,0,none⟩) hls).trans hBs;have hBn':=(hW.cell (p:=⟨Bn,0,none⟩) hln).trans hBn;rcases hI with⟨rfl,rfl,rfl⟩|⟨g,rfl,hc,hm⟩
 ·exact(zB2 F n hF hro l Bs Bn J W hBs' h0).mono fun e W' ⟨he,hj⟩=>⟨he,.inl ⟨_,rfl,hj⟩⟩
 ·exact zIr F n hF hro hn l Bs Bn g cap t ht hc hm J Jx (fun s W h=>hA s W _ none h ⟨rfl,rfl,rfl,n_ _,fun _ _ _=>rfl⟩ (fun r e=>by cases e)) hY W hBs' hBn' h0
end
end Go.Proofs.YtnboipekkahmnaaGreatDoor
namespace Go.Proofs
open Obj renaming cells→o_
open World renaming cell?_of_block→b_
open Go.RowKit.Below renaming heap_setCell→h_,refl→r_
open Nat renaming le_refl→n_
open Tryz renaming prog→p_
open Value renaming string→v_,int→i_
open IntKind renaming i64→k_
open Go.Joins renaming below_alloc1→a_
section
open Go.Shelf
def Tryz.lays170_ren:Go.Shelf.Ren:=⟨fun|170=>205|n=>n,fun|70=>282|3=>3|0=>0|72=>284|37=>247|5=>5|n=>n,fun|n=>n⟩
theorem Tryz.lays170:Go.Proofs.Lays.n170 p_ Tryz.lays170_ren:={
 mixed:=by kernel_rfl
 f170:=Tryz.func205.trans (congrArg some (by kernel_rfl))
 t0:=Tryz.underlying0
 a0:=Tryz.isAgg0
 z0:=Tryz.sizeOf0
 v0:=Tryz.zeroValue0
 t3:=Tryz.underlying3
 a3:=Tryz.isAgg3
 z3:=Tryz.sizeOf3
 v3:=Tryz.zeroValue3
 t37:=Tryz.underlying247
 a37:=Tryz.isAgg247
 z37:=Tryz.sizeOf247
 v37:=Tryz.zeroValue247
 t70:=Tryz.underlying282
 a70:=Tryz.isAgg282
 z70:=Tryz.sizeOf282
 v70:=Tryz.zeroValue282
 t72:=Tryz.underlying284
 a72:=Tryz.isAgg284
 z72:=Tryz.sizeOf284
 v72:=Tryz.zeroValue284 }
def Tryz.lays169_ren:Go.Shelf.Ren:=⟨fun|169=>208|n=>n,fun|70=>282|9=>9|0=>0|72=>284|37=>247|127=>339|3=>3|5=>5|n=>n,fun|n=>n⟩
theorem Tryz.lays169:Go.Proofs.Lays.n169 p_ Tryz.lays169_ren:={
 mixed:=by kernel_rfl
 f169:=Tryz.func208.trans (congrArg some (by kernel_rfl))
 t0:=Tryz.underlying0
 a0:=Tryz.isAgg0
 z0:=Tryz.sizeOf0
 v0:=Tryz.zeroValue0
 t3:=Tryz.underlying3
 a3:=Tryz.isAgg3
 z3:=Tryz.sizeOf3
 v3:=Tryz.zeroValue3
 t9:=Tryz.underlying9
 a9:=Tryz.isAgg9
 z9:=Tryz.sizeOf9
 v9:=Tryz.zeroValue9
 t37:=Tryz.underlying247
 a37:=Tryz.isAgg247
 z37:=Tryz.sizeOf247
 v37:=Tryz.zeroValue247
 t70:=Tryz.underlying282
 a70:=Tryz.isAgg282
 z70:=Tryz.sizeOf282
 v70:=Tryz.zeroValue282
 t72:=Tryz.underlying284
 a72:=Tryz.isAgg284
 z72:=Tryz.sizeOf284
 v72:=Tryz.zeroValue284
 t127:=Tryz.underlying339
 a127:=Tryz.isAgg339
 z127:=Tryz.sizeOf339
 v127:=Tryz.zeroValue339 }
theorem Tryz.Builder_Extra_169:Builder.Extra p_ Tryz.lays169_ren:={
 sizeBuilder:=by kernel_rfl
 liesBuilder:=by kernel_rfl
 t5:=Tryz.underlying5
 a5:=Tryz.isAgg5
 z5:=Tryz.sizeOf5
 v5:=Tryz.zeroValue5
 infoByte:=by kernel_rfl
 cellsByte:=by kernel_rfl
 sizeByte:=by kernel_rfl
 neB5:=by decide }
open Go.RowKit in
theorem Tryz.Builder_Len_f (B b:Nat) (bs:List Value) (w:World) (h:Lib.IsBuilderF 284 5 B b bs w):
  Calls p_ 205 #[.pointer (some ⟨b,0,none⟩)] w fun e w'=>e=.returned (.int .i64 bs.length)/\w'=w:=Any.Builder_Len_f Tryz.lays170 B b bs w h
open Go.RowKit in
theorem Tryz.Builder_String_any_k (B b:Nat) (l:List UInt8) (w:World) (h:Lib.IsBuilderF 284 5 B b (Lib.byteCells l) w) (hBw:B<=w.heap.size):
  Calls p_ 208 #[.pointer (some ⟨b,0,none⟩)] w fun e w'=>e=.returned (.string ⟨l.toArray⟩)/\(Lib.IsBuilderF 284 5 B b (Lib.byteCells l) w'/\Below B w w'/\Lib.OthersKept 5 (some b) w w'):=Any.Builder_String_any_k Tryz.lays169 Tryz.Builder_Extra_169 B b l w h hBw
end
end Go.Proofs
namespace Go.Proofs.YtnboipekkahmnaaGreatDoor
open Obj renaming cells→o_
open World renaming cell?_of_block→b_
open Go.RowKit.Below renaming heap_setCell→h_,refl→r_
open Nat renaming le_refl→n_
open Tryz renaming prog→p_
open Value renaming string→v_,int→i_
open IntKind renaming i64→k_
open Go.Joins renaming below_alloc1→a_
section
open Go.RowKit Go.Joins
attribute [local go_sem ↓] Go.wp_at_zero Go.wp_at_succ
theorem zC9:(Tryz.prog.info? 284).map (·.size)=some 2:=by kernel_rfl
theorem zJ6:liesAt p_ Tryz.prog.depth 284 (2 / Tryz.prog.cellsOf 284) 0 284 1=true:=by kernel_rfl
theorem zJf:(Tryz.prog.info? 5).map (fun i=>(i.zero,i.size,i.bytes))=some (some (.int .u8 0),1,1):=by kernel_rfl
theorem zEv (b:Nat) (w:World) (h0:w.cell? ⟨b,0,none⟩=some (.pointer (some ⟨b,0,none⟩))):
  Calls p_ 254 #[.pointer (some ⟨b,0,none⟩)] w fun e w'=>e=.returned (.tuple #[])/\w'=w:=by
 obtain⟨j,hj,_⟩:=Option.map_eq_some_iff.1 zC9;go_enter Tryz.func254,Tryz.ntmps254;go_wp2;rw[Lib.run_neq_ptr_same w _ Tryz.underlying282 hj];go_wp2;go_end0;exact⟨rfl,rfl⟩
theorem zDd (b:Nat) (w:World) (h0:w.cell? ⟨b,0,none⟩=some (.pointer none)) (hsh:w.shape? b=some (284,2)) (hfz:w.frozen? ⟨b,0,none⟩=false):
  Calls p_ 254 #[.pointer (some ⟨b,0,none⟩)] w fun e w'=>e=.returned (.tuple #[])/\w'=w.setCell ⟨b,0,none⟩ (.pointer (some ⟨b,0,none⟩)):=by
 obtain⟨j,hj,hjs⟩:=Option.map_eq_some_iff.1 zC9;go_enter Tryz.func254,Tryz.ntmps254;go_wp2;rw[Lib.run_to_unsafe w ⟨b,0,none⟩ Tryz.underlying282 Tryz.underlying365 hj (by rw[hjs];decide) hsh (Nat.zero_lt_succ 1)];simp only[Result.andThen];rw[Oper.upon_value];go_wp2;rw[run_callFunc_extern Tryz.func291 (by kernel_rfl) (by kernel_rfl) (by kernel_rfl) (e:=Extern.AbiNoEscape.same) (by kernel_rfl)];rw[Lib.run_noEscape];simp only[Result.andThen];rw[Oper.upon_value];go_wp2;rw[Lib.run_from_unsafe w ⟨b,0,none⟩ Tryz.underlying365 Tryz.underlying282 hj hsh zJ6];simp only[Result.andThen];rw[Oper.upon_value];go_wp2;go_end0;exact⟨rfl,rfl⟩
theorem zF3 (B b:Nat) (bs:List Value) (w:World) (h:Lib.IsBuilderF 284 5 B b bs w):
  Calls p_ 254 #[.pointer (some ⟨b,0,none⟩)] w fun e w'=>e=.returned (.tuple #[])/\(Lib.BuilderAtF 284 5 B b (.pointer (some ⟨b,0,none⟩)) bs w'/\Below B w w'):=by
 rcases h with h|h
 ·refine(zDd b w h.cell0 h.shape h.frozen0).mono ?_;rintro e w' ⟨rfl,rfl⟩;exact⟨rfl,h.used _,(r_ B w).setCell (p:=⟨b,0,none⟩) h.1 _⟩
 ·refine(zEv b w h.cell0).mono ?_;rintro e w' ⟨rfl,rfl⟩;exact⟨rfl,h,r_ B _⟩
theorem zGm (B b:Nat) (bs:List Value) (s:ByteArray) (w:World) (h:Lib.IsBuilderF 284 5 B b bs w) (hlen:bs.length+s.size<=140737488355328) (hBw:B<=w.heap.size):
  Calls p_ 206 #[.pointer (some ⟨b,0,none⟩),.string s] w fun e w'=>e=.returned (.tuple #[.int .i64 s.size,.nilIface])/\(Lib.IsBuilderF 284 5 B b (bs++Lib.strCells s) w'/\Below B w w'):=by
 obtain⟨i0,hi,hz0,hz1,hz2⟩:=info_parts zJf;go_enter Tryz.func206,Tryz.ntmps206;go_wp2_with (go_at_call 254;refine(zF3 B b bs _ h).mono ?_)
 rintro e w1 ⟨rfl,h1,hb1⟩;obtain⟨hB,v,hbk,hown,hne⟩:=h1;have c0:w1.cell? ⟨b,0,none⟩=some (.pointer (some ⟨b,0,none⟩)):=by rw[Lib.cell_of_heap hbk];rfl
 have c1:w1.cell? ⟨b,1,none⟩=some v:=by rw[Lib.cell_of_heap hbk];rfl
 go_wp2_with (at_builtin;refine Lib.wpList_append_own_stringF _ rfl _ _ 247 9 rfl B 5 i0 Tryz.underlying247 Tryz.underlying9 hi hz0 hz1 hz2 _ _ _ rfl hown s rfl ?c3 ?c4 ?c5 ?_)
 case c3=>unfold maxLen;omega
 case c4=>omega
 case c5=>have:=hb1.size;omega
 intro v' w2 hown' hgrow _;have hlt:b<w1.heap.size:=by
  rcases Nat.lt_or_ge b w1.heap.size with h'|h'
  ·exact h'
  ·simp[Array.getElem?_eq_none h'] at hbk
 have hb2:w2.heap[b]?=some (.cells #[.pointer (some ⟨b,0,none⟩),v] 284 (0,0)):=by
  rw[hgrow.block b hlt (fun e=>hne e.symm)];exact hbk
 have d0:w2.cell? ⟨b,0,none⟩=some (.pointer (some ⟨b,0,none⟩)):=by rw[Lib.cell_of_heap hb2];rfl
 have d1:w2.cell? ⟨b,1,none⟩=some v:=by rw[Lib.cell_of_heap hb2];rfl
 have f1:w2.frozen? ⟨b,1,none⟩=false:=Lib.frozen_of_heap hb2 1;obtain⟨ao,n',cap,rfl⟩:∃ ao n' cap,v'=.slice ao n' cap:=by
  rcases hown'.2 with⟨hv,_⟩|⟨g,cap,cur,fz,hv,_⟩
  ·exact⟨_,_,_,hv⟩
  ·exact⟨_,_,_,hv⟩
 go_wp2;go_ret2;refine⟨rfl,.inr ?_,?_⟩
 ·exact Lib.BuilderAtF.put (T:=284) (e:=5) hB hb2 (bs':=bs++Lib.strCells s) (by simpa[Lib.strCells_length] using hown') (by decide)
 ·exact(hb1.grown hgrow (by have:=hb1.size;omega) (fun k hk=>(hown.lt k hk).1)).setCell (p:=⟨b,1,none⟩) hB _
theorem uF (area:Nat) (ha:area<=1) (w:World):Calls p_ 204 #[.int .i64 (area:Int)] w fun e w'=>e=.returned (.int .i64 ((aJ area:Nat):Int))/\w'=w:=by
 have h0:(0:Int)<=(area:Int):=by omega
 have h1:(area:Int)<=1:=by omega
 go_enter Tryz.func204,Tryz.ntmps204;go_wp2;go_ret;exact⟨iJ (by unfold aJ;omega),rfl⟩
def jB (t:ByteArray) (k:Nat):ByteArray:=kS ((List.range k).map fun j=>aH (dF t j))
theorem zFM (t:ByteArray) (k:Nat):(jB t k).size=96*k:=by
 unfold jB;rw[zFv _ fun s hs=>by
  obtain⟨j,_,rfl⟩:=List.mem_map.1 hs;exact sJ (by rw[mR];omega)]
 simp
theorem zGy (t:ByteArray) (k:Nat):jB t (k+1)=jB t k++aH (dF t k):=by
 unfold jB;rw[List.range_succ,List.map_append,List.map_cons,List.map_nil,zZ]
section
variable {B db:Nat} {S:Nat->Prop} {s:DSt}
theorem zCo (area first:Nat) (rows:List Chg) (w:World) (hk:DK w B db S s) (hd:s.down=false) (ha:area<=1) (hn:50<=s.now.length) (hf:fH rows) (hfew:rows.length<=40) (htx:∀ j,j<bT (aO rows).size->s.now[aJ area+j]?=some (aH (dF (aO rows) j))):
  Calls p_ 140 #[.pointer (some ⟨db,0,none⟩),.agg #[.int .i64 (area:Int),.int .i64 (first:Int),.int .i64 ((aO rows).size:Int)]] w fun e w'=>∃ v,e=.returned (.tuple #[v,.nilIface])/\bO w' w.heap.size v rows/\Below w.heap.size w w':=by
 have hp:=jA hf hfew;have HU:=fun w'=>hide (zEz rows w' (by omega) hf);have hjt:=zII (aO rows);generalize aO rows=t at *;have HJT:Hid ((jB t (bT t.size)).extract 0 t.size=t):=hjt;have HPN:Hid (bT t.size=(t.size+95) / 96):=rfl;have HAN:Hid (aJ area+24<=50/\1<=aJ area):=hide (by unfold aJ;omega);have HRD:Hid (∀ (W:World) (k:Nat),DK W B db S s->k<bT t.size->Calls p_ 202 #[.pointer (some ⟨db,0,none⟩),.int .i64 ((aJ area+k:Nat):Int)] W fun e w'=>e=.returned (.tuple #[.string (aH (dF t k)),.nilIface])/\w'=W):=fun W k hW hk'=>by
  have hr:=tV ((aJ area+k:Nat):Int) W hW;have hpn:=HPN.out;have han:=HAN.out;have e1:lI s ((aJ area+k:Nat):Int)=0:=by unfold lI;rw[hd,if_neg (by decide),if_neg (by omega)]
  have e2:nX s ((aJ area+k:Nat):Int)=aH (dF t k):=by unfold nX;rw[if_pos e1,Int.toNat_natCast,htx k hk'];rfl
  rw[e1,e2,aR] at hr;exact hr
 have HDK:=hide hk;have htI:(t.size:Int)<=2280:=by omega
 have HFE:=hide hfew;clear hjt hd hf htx hn hk hfew;have hB0:=a_ w (o_ #[.int .i64 (area:Int),.int .i64 (first:Int),.int .i64 (t.size:Int)] 202);have r0:(w.alloc (o_ #[.int .i64 (area:Int),.int .i64 (first:Int),.int .i64 (t.size:Int)] 202)).cell? ⟨w.heap.size,0,none⟩=some (.int .i64 (area:Int)):=aC _ _ _ 0;have r2:(w.alloc (o_ #[.int .i64 (area:Int),.int .i64 (first:Int),.int .i64 (t.size:Int)] 202)).cell? ⟨w.heap.size,2,none⟩=some (.int .i64 (t.size:Int)):=aC _ _ _ 2;have hz0:(w.alloc (o_ #[.int .i64 (area:Int),.int .i64 (first:Int),.int .i64 (t.size:Int)] 202)).heap.size=w.heap.size+1:=by simp
 go_enter Tryz.func140,Tryz.ntmps140;go_wp2_with (go_at_call 204;refine(uF area ha _).mono ?_;rintro e w1 ⟨rfl,rfl⟩)
 generalize w.alloc (o_ #[.int .i64 (area:Int),.int .i64 (first:Int),.int .i64 (t.size:Int)] 202)=W0 at *;have hB1:=a_ W0 (o_ #[.pointer none,.slice none 0 0] 284);have hbld:Lib.IsBuilderF 284 5 (w.heap.size+1) (w.heap.size+1) (Lib.strCells (jB t 0)) (W0.alloc (o_ #[.pointer none,.slice none 0 0] 284)):=.inl ⟨n_ _,_,by rw[<-hz0];exact Go.heap_alloc_new W0 _,⟨rfl,.inl ⟨rfl,rfl⟩⟩,by simp[Value.ownBlock]⟩;have HBLD:=hide hbld;have HB0:=hide hB0;have HB1:=hide hB1;have HR2:=hide r2;clear hB0 hB1 hbld r2
 go_loopw [7] (fun iv wr=>∃ k:Nat,k<=bT t.size/\iv=.int .i64 ((aJ area+k:Nat):Int)/\Lib.IsBuilderF 284 5 (w.heap.size+1) (w.heap.size+1) (Lib.strCells (jB t k)) wr/\Below (w.heap.size+1) W0 wr) (fun iv _=>100-(intOf iv).toNat)
 case atStart=>exact⟨0,Nat.zero_le _,by rw[Nat.add_zero],HBLD.out,HB1.out.mono (by omega)⟩
 case round=>
  obtain⟨k,hk,rfl,hbd,hbr⟩:=hrel;have hjs:=zFM t k;have hpn:=HPN.out;have han:=HAN.out;have c2:wr.cell? ⟨w.heap.size,2,none⟩=some (.int .i64 (t.size:Int)):=(hbr.cell (p:=⟨w.heap.size,2,none⟩) (by simp)).trans HR2.out;have hls:(Lib.strCells (jB t k)).length=96*k:=by rw[Lib.strCells_length,hjs]
  have HLN:Hid (∀ m:Nat,m=96*k->∀ n,Calls p_ 205 #[.pointer (some ⟨w.heap.size+1,0,none⟩)] (wr.drewN n) fun e w'=>e=.returned (.int .i64 (m:Int))/\w'=wr.drewN n):=fun m hm n=>by
   have:=Tryz.Builder_Len_f (w.heap.size+1) (w.heap.size+1) _ (wr.drewN n) hbd;rw[hls,<-hm] at this;exact this
  obtain⟨m,hm⟩:∃ m,m=96*k:=⟨_,rfl⟩;have HL:=hide (HLN.out m hm);have HBD:=hide hbd;have HBR:=hide hbr;have HLS:=hide hls;clear hbd hbr hls HLN;by_cases hlt:m<t.size
  ·have hlt':(m:Int)<(t.size:Int):=by omega
   have hkp:k<bT t.size:=by omega
   have HKP:=hide hkp;have HKI:Hid (((aJ area+k:Nat):Int)+1=((aJ area+(k+1):Nat):Int)):=hide (by omega);have hk50:((aJ area+k:Nat):Int)<=100:=by omega
   have hk0:(0:Int)<=((aJ area+k:Nat):Int):=by omega
   have HM:=hide hm;have HJS:=hide hjs;have HK100:Hid (aJ area+k<100):=hide (by omega);have HK96:Hid (96*k<=2280):=hide (by omega);have HSZ:Hid (w.heap.size+1<=wr.heap.size):=hide (by have:=HBR.out.size;omega);clear hm hjs hpn han hkp hk;have hps:(aH (dF t k)).size=96:=sJ (by rw[mR];omega);have HSU:=hide (zGy t k);have HRDK:=fun W h=>hide (HRD.out W k h HKP.out);generalize aJ area+k=at0 at *;generalize aH (dF t k)=pc at *;go_wp2;go_quiet ((go_at_call 205;exact Calls.quiet_of_same (HL.out _)))
   go_wp2_with (first
    | (go_at_call 202;refine((HRDK _ (HDK.out.on (below_drewN (aB HB0.out (n_ _) (HBR.out.mono (by omega))) nq))).out).mono ?_;rintro e w7 ⟨rfl,rfl⟩)
    | (go_at_call 206;refine(zGm (w.heap.size+1) (w.heap.size+1) _ pc (wr.drewN nq) HBD.out (by rw[HLS.out];have:=HK96.out;omega) HSZ.out).mono ?_;rintro e w8 ⟨rfl,hbd8,hb8⟩;have HBD8:=hide hbd8;have HB8:=hide hb8;clear hbd8 hb8)
    | fail)
   rw[HKI.out];have HB9:=hide ((HBR.out.trans (below_drewN (r_ _ _) nq)).trans HB8.out);refine⟨⟨k+1,HKP.out,rfl,?_,HB9.out⟩,?_⟩
   ·rw[HSU.out,mE];exact HBD8.out
   ·have:=HK100.out;have:=HKI.out;simp[intOf];omega
  ·have hlt':¬(m:Int)<(t.size:Int):=by omega
   have hke:k=bT t.size:=by omega
   have hj2:(jB t k).extract 0 t.size=t:=by rw[hke];exact HJT.out
   have hjl:(jB t k).size=m:=by omega
   have hst:Hid (∀ W,Lib.IsBuilderF 284 5 (w.heap.size+1) (w.heap.size+1) (Lib.strCells (jB t k)) W->w.heap.size+1<=W.heap.size->Calls p_ 208 #[.pointer (some ⟨w.heap.size+1,0,none⟩)] W fun e w'=>e=.returned (.string (jB t k))/\Below (w.heap.size+1) W w'):=fun W h1 h2=>by
    refine(Tryz.Builder_String_any_k (w.heap.size+1) (w.heap.size+1) (jB t k).data.toList W h1 h2).mono ?_;rintro e w' ⟨rfl,_,h3,_⟩;exact⟨rfl,h3⟩
   have HJ2:=hide hj2;have ht0:(0:Int)<=(t.size:Int):=by omega
   have htm:(t.size:Int)<=(m:Int):=by omega
   have HSZ:Hid (w.heap.size+1<=wr.heap.size):=hide (by have:=HBR.out.size;omega);clear hj2 hke hm hpn han hk hjs;generalize jB t k=jk at *;have hjm:(jk.size:Int)=(m:Int):=by omega
   go_wp2;go_quiet ((go_at_call 205;exact Calls.quiet_of_same (HL.out _)))
   go_wp2
   go_region_with (first
    | (go_at_call 208;refine(hst.out _ (by exact HBD.out) (by exact HSZ.out)).mono ?_;rintro e w9 ⟨rfl,hb9⟩;have c9:w9.cell? ⟨w.heap.size,2,none⟩=some (.int .i64 (t.size:Int)):=(hb9.cell (p:=⟨w.heap.size,2,none⟩) (by simp)).trans c2)
    | (go_at_call 207;rw[HJ2.out];refine(HU _).out.mono ?_;rintro e w10 ⟨v,rfl,ho,hb10⟩;dsimp only))
   all_goals
    have HO:=hide ho;have hq9:=HBR.out.trans ((below_draws _ _ _).trans hb9);have HQ9:=hide (aB (HB0.out.trans (hq9.mono (by omega))) (by omega) hb10);have HZ9:Hid (w.heap.size<=w9.heap.size):=hide (by have:=hq9.size;omega);clear ho hb9 hb10 c9 hq9;go_wp2;go_ret2;exact⟨v,rfl,dJ HO.out HZ9.out,HQ9.out⟩
end
end
section
open Go.RowKit Go.Joins Go.Shelf
attribute [local go_sem] Oper.semAt_some
theorem DK.cells {w:World} {B db:Nat} {S:Nat->Prop} {s:DSt} (h:DK w B db S s) {k:Nat} (hk:S k):∃ o:Obj,w.heap[k]?=some o/\o.isCells=true:=by
 obtain⟨nb,kb,lb,n,lv,loose,L,h1,h2,rfl,_⟩:=h;rcases hk with rfl|rfl|rfl|rfl|⟨i,hi,e⟩
 ·exact cells_of_cell h1.c0
 ·exact⟨_,h2.hn,rfl⟩
 ·exact⟨_,h2.hk,rfl⟩
 ·exact⟨_,h2.hl,rfl⟩
 ·have ho:=(h2.own i hi (by rw[h2.no,<-h2.nl];exact hi)).1;rcases ho.2 with⟨e2,_⟩|⟨g,cap,cur,e2,_,hg,_⟩
  ·rw[e2] at e;cases e
  ·rw[e2] at e;have:g=k:=by simpa[Value.ownBlock] using e
   subst this;exact⟨_,hg,rfl⟩
theorem DK.grown {w w':World} {B db:Nat} {S:Nat->Prop} {s:DSt} {row:Option Nat} (h:DK w B db S s) (hg:w.grownBy w' row) (hr:∀ r,row=some r->∃ o:Obj,w.heap[r]?=some o/\o.isCells=false):DK w' B db S s:=
 h.kept hg.size fun k hk=>hg.block k (h.lt hk) fun e=>by
  obtain⟨o,h1,h2⟩:=h.cells hk;obtain⟨o',h3,h4⟩:=hr k e.symm;rw[h1] at h3;cases h3;rw[h2] at h4;cases h4
theorem zFz {w w':World} {B db:Nat} {S S':Nat->Prop} {s:DSt} (h:DK w B db S s) (hs:aG w w' B S S'):KeepsOthers w w':=
 ⟨hs.bel.size,fun k o hk ho=>(hs.far k (Array.getElem?_eq_some_iff.1 hk).1 fun e=>by
  obtain⟨o',h1,h2⟩:=h.cells e;rw[hk] at h1;cases h1;rw[h2] at ho;cases ho).1.trans hk⟩
theorem zGk (W:World) (g:Nat) (t:ByteArray) (x:Nat) (hc:∀ j u,(Lib.strCells t)[j]?=some u->W.cell? ⟨g,j,none⟩=some u):(convert 247 9 (pP g t x)).run p_ W=.ok (.string (dF t x)) W:=by
 have hl:(dF t x).data.toList.length=min 96 (t.size-96*x):=by rw[pT,mR];omega
 have h:=run_convert_bytes_back (P:=p_) W 247 9 5 ⟨g,96*x,none⟩ (min 96 (t.size-96*x)) (dF t x).data.toList Tryz.underlying247 Tryz.underlying5 Tryz.underlying9 (fun j hj=>by
  rw[Go.Addr.add_mid];refine hc _ _ ?_;unfold Lib.strCells;have hd:(dF t x).data.toList=(t.data.toList.take (96*x+96)).drop (96*x):=lT t _ _;have hj2:96*x+j<t.data.toList.length:=by rw[pT];omega
  have he:(dF t x).data.toList[j]=t.data.toList[96*x+j]:=by
   simp only[hd];rw[List.getElem_drop,List.getElem_take]
  rw[List.getElem?_map,List.getElem?_eq_getElem hj2,he];rfl)
 rw[hl] at h;exact h
theorem wT (l m:List ByteArray):∀ a,aL a (l++m)=aL a l++aL (a+l.length) m:=by
 induction l with
 | nil=>intro a;rfl
 | cons x l ih=>
  intro a;show some (a,x)::aL (a+1) (l++m)=some (a,x)::(aL (a+1) l++aL (a+(l.length+1)) m);rw[ih,show a+1+l.length=a+(l.length+1) by omega]
def gN (a:Nat) (t:ByteArray) (s:DSt) (pre:List Nat):Nat×DSt:=runD (aL a (pre.map (dF t))) s
theorem zHO (a:Nat) (t:ByteArray) (s:DSt) (pre:List Nat) (x:Nat) (h:(gN a t s pre).1=0):gN a t s (pre++[x])=(dO (gN a t s pre).2 ((a+pre.length:Nat):Int) (dF t x),cV (gN a t s pre).2 ((a+pre.length:Nat):Int) (dF t x)):=by
 unfold gN at h ⊢;rw[List.map_append,wT,gE,if_pos h,List.length_map];exact jC _ _
theorem zHE {a:Nat} {t:ByteArray} {s:DSt} {k N:Nat} (hk:k<=N) (h:(gN a t s (List.range k)).1≠0):gN a t s (List.range N)=gN a t s (List.range k):=by
 obtain⟨m,rfl⟩:∃ m,N=k+m:=⟨N-k,by omega⟩;unfold gN at h ⊢;rw[List.range_add,List.map_append,wT,gE,if_neg h]
def inX (rb ab:Nat) (S:Nat->Prop) (k:Nat):Prop:=k=rb∨k=ab∨S k
structure LTX (wR W:World) (B db rb ab:Nat) (S:Nat->Prop) (s:DSt):Prop where
 ex:∃ S',DK W B db S' s/\¬S' rb/\¬S' ab/\aG wR W B (inX rb ab S) (inX rb ab S')
theorem LTX.grown {wR W W':World} {B db rb ab:Nat} {S:Nat->Prop} {s:DSt} {row:Option Nat} (h:LTX wR W B db rb ab S s) (hB:B<=wR.heap.size) (hg:W.grownBy W' row) (hr:∀ r,row=some r->wR.heap.size<=r/\∃ o:Obj,W.heap[r]?=some o/\o.isCells=false):LTX wR W' B db rb ab S s:=by
 obtain⟨S',h1,h2,h3,h4⟩:=h;refine⟨S',h1.grown hg fun r e=>(hr r e).2,h2,h3,h4.bel.grown hg (Nat.le_trans hB h4.bel.size) (fun k e=>Nat.le_trans hB (hr k e).1),fun j hj hn=>?_⟩;obtain⟨f1,f2⟩:=h4.far j hj hn;exact⟨(hg.block j (Nat.lt_of_lt_of_le hj h4.bel.size) fun e=>by have:=(hr j e.symm).1;omega).trans f1,f2⟩
theorem pQ (W:World) (v:Value) (t:TypeId):(W.alloc (.cells #[v] t)).cell? ⟨W.heap.size,0,none⟩=some v/\(W.alloc (.cells #[v] t)).frozen? ⟨W.heap.size,0,none⟩=false:=⟨aC W #[v] t 0,aQ W #[v] t 0⟩
theorem iC {W:World} {a:Addr} {v:Value} (o:Obj) (h:W.cell? a=some v/\W.frozen? a=false):(W.alloc o).cell? a=some v/\(W.alloc o).frozen? a=false:=⟨aA (a_ _ _) h.1,aE (a_ _ _) (World.block_lt_of_cell? _ _ h.1) h.2⟩
structure LTI (wR W:World) (B db rb ab:Nat) (S:Nat->Prop) (s:DSt) (a:Nat) (t:ByteArray) (pre:List Nat):Prop where
 ok:(gN a t s pre).1=0
 x:LTX wR W B db rb ab S (gN a t s pre).2
 ca:W.cell? ⟨ab,0,none⟩=some (.int .i64 ((a+pre.length:Nat):Int))
 fa:W.frozen? ⟨ab,0,none⟩=false
 cr:W.cell? ⟨rb,0,none⟩=some .nilIface
 fr:W.frozen? ⟨rb,0,none⟩=false
theorem LTI.grown {wR W W':World} {B db rb ab:Nat} {S:Nat->Prop} {s:DSt} {a:Nat} {t:ByteArray} {pre:List Nat} {row:Option Nat} (h:LTI wR W B db rb ab S s a t pre) (hB:B<=wR.heap.size) (hg:W.grownBy W' row) (hr:∀ r,row=some r->wR.heap.size<=r/\∃ o:Obj,W.heap[r]?=some o/\o.isCells=false):LTI wR W' B db rb ab S s a t pre:=
 ⟨h.ok,h.x.grown hB hg hr,cell_kept h.ca hg fun r e=>(hr r e).2,(frozen_kept h.ca hg fun r e=>(hr r e).2).trans h.fa,cell_kept h.cr hg fun r e=>(hr r e).2,(frozen_kept h.cr hg fun r e=>(hr r e).2).trans h.fr⟩
structure LTS (wR W:World) (B db rb ab:Nat) (S:Nat->Prop) (s:DSt) (a:Nat) (t:ByteArray) (pre:List Nat):Prop where
 no:(gN a t s pre).1≠0
 x:LTX wR W B db rb ab S (gN a t s pre).2
 cr:W.cell? ⟨rb,0,none⟩=some (errV (gN a t s pre).1)
theorem LTS.grown {wR W W':World} {B db rb ab:Nat} {S:Nat->Prop} {s:DSt} {a:Nat} {t:ByteArray} {pre:List Nat} {row:Option Nat} (h:LTS wR W B db rb ab S s a t pre) (hB:B<=wR.heap.size) (hg:W.grownBy W' row) (hr:∀ r,row=some r->wR.heap.size<=r/\∃ o:Obj,W.heap[r]?=some o/\o.isCells=false):LTS wR W' B db rb ab S s a t pre:=
 ⟨h.no,h.x.grown hB hg hr,cell_kept h.cr hg fun r e=>(hr r e).2⟩
theorem LTX.far {wR W:World} {B db rb ab:Nat} {S:Nat->Prop} {s:DSt} (h:LTX wR W B db rb ab S s) {k:Nat} (hk:k<wR.heap.size) (h1:k≠rb) (h2:k≠ab) (h3:¬S k):W.heap[k]?=wR.heap[k]?:=by
 obtain⟨S',_,_,_,h4⟩:=h;exact(h4.far k hk (fun e=>e.elim h1 fun e=>e.elim h2 h3)).1
theorem LTX.act {wR W:World} {B db rb ab:Nat} {S:Nat->Prop} {s:DSt} (h:LTX wR W B db rb ab S s) {w:World} (hw:Below w.heap.size w wR) (hB:B<=w.heap.size) (h1:w.heap.size<=rb) (h2:w.heap.size<=ab):ActD w W B db S s:=by
 obtain⟨S',a,_,_,d⟩:=h;refine⟨S',a,(hw.mono hB).trans d.bel,fun j hj hn=>?_⟩;obtain⟨f1,f2⟩:=d.far j (Nat.lt_of_lt_of_le hj hw.size) (fun e=>e.elim (fun e=>by omega) fun e=>e.elim (fun e=>by omega) hn);exact⟨f1.trans (hw.block j hj),fun e=>f2 (.inr (.inr e))⟩
theorem LTX.setA {wR W:World} {B db rb ab:Nat} {S:Nat->Prop} {s:DSt} (h:LTX wR W B db rb ab S s) (hB:B<=ab) (v:Value):LTX wR (W.setCell ⟨ab,0,none⟩ v) B db rb ab S s:=by
 obtain⟨S',a,b,c,d⟩:=h;refine⟨S',a.kept (by simp) fun k e=>h_ _ _ _ _ fun e2=>c (by have e3:k=ab:=e2;rw[<-e3];exact e),b,c,d.bel.setCell (p:=⟨ab,0,none⟩) hB v,fun j hj hn=>?_⟩;obtain⟨f1,f2⟩:=d.far j hj hn;exact⟨(h_ _ _ _ _ fun e=>hn (.inr (.inl e))).trans f1,f2⟩
theorem LTX.setR {wR W:World} {B db rb ab:Nat} {S:Nat->Prop} {s:DSt} (h:LTX wR W B db rb ab S s) (hB:B<=rb) (v:Value):LTX wR (W.setCell ⟨rb,0,none⟩ v) B db rb ab S s:=by
 obtain⟨S',a,b,c,d⟩:=h;refine⟨S',a.kept (by simp) fun k e=>h_ _ _ _ _ fun e2=>b (by have e3:k=rb:=e2;rw[<-e3];exact e),b,c,d.bel.setCell (p:=⟨rb,0,none⟩) hB v,fun j hj hn=>?_⟩;obtain⟨f1,f2⟩:=d.far j hj hn;exact⟨(h_ _ _ _ _ fun e=>hn (.inl e)).trans f1,f2⟩
end
end Go.Proofs.YtnboipekkahmnaaGreatDoor
