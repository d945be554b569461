import Derived.Test.YtnboipekkahmnaaGreatDoorChecked
import Derived.WalkSpells
import Derived.WalkLawsBesides
import Derived.Lib.SmallJoins
import Derived.BigQuiet
import Derived.Deep.RegionHeld3
import Derived.Deep.DrawnRows
import Derived.Lib.MinMaxS
import Derived.Shelf.Small.Bits
import Derived.Shelf.Small.Strs
import Derived.Shelf.Small.Wraps
import Derived.Shelf.Strconv.Itoa3
import Derived.Shelf.Strconv.ErrVarAll
import Derived.Shelf.Strings.Shaped
import Derived.Shelf.Strings.LastIndex
import Derived.Shelf.Strings.Repeat
import Derived.Shelf.Strings.BuilderCap
import Derived.Lib.AppendZerosOnto
set_option maxHeartbeats 8000000
set_option maxRecDepth 100000
namespace Go.Proofs.YtnboipekkahmnaaGreatDoor
open Obj renaming cells→o_
open Go.RowKit.Below renaming refl→r_
open Nat renaming le_refl→n_
open Tryz renaming prog→p_
open Value renaming string→v_
open Go.Joins renaming below_alloc1→a_
section
open Go.RowKit Go.Joins
theorem aA {W w1:World} {p:Addr} {v:Value} (hb:Below W.heap.size W w1) (h:W.cell? p=some v):w1.cell? p=some v:=cell_later hb h
theorem aB {B:Nat} {w W w1:World} (hB:Below B w W) (hw:B<=w.heap.size) (hb:Below W.heap.size W w1):Below B w w1:=
 hB.trans (hb.mono (Nat.le_trans hw hB.size))
theorem aC (w:World) (C:Array Value) (t:TypeId) (j:Nat):(w.alloc (.cells C t)).cell? ⟨w.heap.size,j,none⟩=C[j]?:=cell_of_block (Go.heap_alloc_new w _) j
theorem aE {W w1:World} {p:Addr} (hb:Below W.heap.size W w1) (hp:p.block<W.heap.size) (h:W.frozen? p=false):w1.frozen? p=false:=(hb.frozen hp).trans h
theorem aQ (w:World) (C:Array Value) (t:TypeId) (j:Nat):(w.alloc (.cells C t)).frozen? ⟨w.heap.size,j,none⟩=false:=unfrozen_of_block (Go.heap_alloc_new w _) j
theorem hide {p:Prop} (h:p):Hid p:=h
theorem bB {a b:Bool} (h:a=b):Ending.returned (.bool a)=.returned (.bool b):=by rw[h]
theorem zFN {a b:ByteArray} (h:a=b):Ending.returned (.string a)=.returned (.string b):=by rw[h]
theorem iJ {k:IntKind} {a b:Int} (h:a=b):Ending.returned (.int k a)=.returned (.int k b):=by rw[h]
structure OnW (W:World) where
 w:World
 on:Below W.heap.size W w
theorem OnW.cell {W:World} (n:OnW W) {p:Addr} {v:Value} (h:W.cell? p=some v):n.w.cell? p=some v:=aA n.on h
theorem OnW.some (W:World):Nonempty (OnW W):=⟨⟨W,r_ _ _⟩⟩
theorem dE {P:Program} {id:Nat} {Q:Exit->Act->World->Prop} {a:Act} {w:World} {l:List Oper} (hm:P.follows .mixedOrders=true) (hB:Region.lexB .any l.toArray=true)
  (h:wpQuiet P l.toArray (fun w'=>∃ n:OnW w,w'=n.w) (fun a'=>∀ w',(∃ n:OnW w,w'=n.w)->Q .normal a' w') l a):(Code.region id l.toArray true).wp P Q a w:=
 wp_region_quiet (C:=fun w'=>∃ n:OnW w,w'=n.w) hm hB ⟨⟨w.drew,(r_ _ _).drew⟩,rfl⟩ (by simpa using h)
theorem jG {W w':World} (h:∃ n:OnW W,w'=n.w):Below W.heap.size W w':=by obtain⟨n,rfl⟩:=h;exact n.on
theorem fF {P:Program} {f:FuncId} {args:Array Value} {W:World} {n:OnW W} {v:Value}
  (h:Calls P f args n.w fun e w'=>e=.returned v/\Below n.w.heap.size n.w w'):Calls P f args n.w fun e w''=>e=.returned v/\∃ m:OnW W,w''=m.w:=
 h.mono fun _ w' ⟨he,hb⟩=>⟨he,⟨w',aB n.on (n_ _) hb⟩,rfl⟩
theorem zLW {P:Program} {f:FuncId} {args:Array Value} {W:World} {n:OnW W} {v:Value}
  (h:Calls P f args n.w fun e w'=>e=.returned v/\w'=n.w):Calls P f args n.w fun e w''=>e=.returned v/\∃ m:OnW W,w''=m.w:=
 h.mono fun _ _ ⟨he,hw⟩=>⟨he,n,hw⟩
theorem sD {P:Program} {f:FuncId} {args:Array Value} {w:World} {v v':Value} {R:World->Prop} (h:Calls P f args w fun e w'=>e=.returned v/\R w') (hv:v=v'):Calls P f args w fun e w'=>e=.returned v'/\R w':=hv▸h
end
def ltS (a b:ByteArray):Bool:=Op.bytesLess a.toList b.toList
def leS (a b:ByteArray):Bool:=Op.bytesLess a.toList b.toList || a.toList==b.toList
def nilS (a:ByteArray):Bool:=a.toList.isEmpty
def eqS (a b:ByteArray):Bool:=a.toList==b.toList
theorem zF:∀ x:List UInt8,Op.bytesLess x x=false
 | []=>rfl
 | a::x=>by simp[Op.bytesLess,zF x]
theorem zHr:∀ x y z:List UInt8,Op.bytesLess x y=true->Op.bytesLess y z=true->Op.bytesLess x z=true:=by
 intro x
 induction x with
 | nil=>intro y z h1 h2;cases y<;>cases z<;>simp_all [Op.bytesLess]
 | cons a x ih=>
  intro y z h1 h2
  cases y with
  | nil=>simp[Op.bytesLess] at h1
  | cons b y=>
   cases z with
   | nil=>simp[Op.bytesLess] at h2
   | cons c z=>
    simp only[Op.bytesLess,Bool.or_eq_true,decide_eq_true_eq,Bool.and_eq_true,beq_iff_eq,UInt8.lt_iff_toNat_lt] at *;rcases h1 with h1|⟨rfl,h1⟩<;>rcases h2 with h2|⟨rfl,h2⟩
    ·left;omega
    ·left;exact h1
    ·left;exact h2
    ·right;exact⟨rfl,ih y z h1 h2⟩
theorem zIX:∀ x y:List UInt8,Op.bytesLess x y=true∨x=y∨Op.bytesLess y x=true:=by
 intro x
 induction x with
 | nil=>intro y;cases y<;>simp[Op.bytesLess]
 | cons a x ih=>
  intro y
  cases y with
  | nil=>simp[Op.bytesLess]
  | cons b y=>
   simp only[Op.bytesLess,Bool.or_eq_true,decide_eq_true_eq,Bool.and_eq_true,beq_iff_eq,UInt8.lt_iff_toNat_lt,List.cons.injEq];rcases Nat.lt_trichotomy a.toNat b.toNat with h|h|h
   ·exact Or.inl (Or.inl h)
   ·have e:a=b:=UInt8.toNat_inj.1 h;subst e;rcases ih y with h|h|h
    ·exact Or.inl (Or.inr ⟨rfl,h⟩)
    ·exact Or.inr (Or.inl ⟨rfl,h⟩)
    ·exact Or.inr (Or.inr (Or.inr ⟨rfl,h⟩))
   ·exact Or.inr (Or.inr (Or.inl h))
theorem gV {a b:ByteArray} (h:a.toList=b.toList):a=b:=by
 rw[Lib.toList_data,Lib.toList_data] at h;cases a;cases b;simp_all
theorem bA (a:ByteArray):ltS a a=false:=zF _
theorem cL {a b c:ByteArray} (h:ltS a b=true) (k:ltS b c=true):ltS a c=true:=zHr _ _ _ h k
theorem jZ (a b:ByteArray):ltS a b=true∨a=b∨ltS b a=true:=by
 rcases zIX a.toList b.toList with h|h|h
 ·exact Or.inl h
 ·exact Or.inr (Or.inl (gV h))
 ·exact Or.inr (Or.inr h)
theorem kP {a b:ByteArray} (h:ltS a b=true):ltS b a=false:=by
 cases e:ltS b a with
 | false=>rfl
 | true=>have:=cL h e;rw[bA] at this;cases this
theorem jM (a b:ByteArray):leS a b=true↔ltS a b=true∨a=b:=by
 unfold leS ltS;simp only[Bool.or_eq_true,beq_iff_eq];exact⟨fun h=>h.elim Or.inl (fun e=>Or.inr (gV e)),fun h=>h.elim Or.inl (fun e=>Or.inr (by rw[e]))⟩
theorem mA (a b:ByteArray):leS a b=!ltS b a:=by
 rw[Bool.eq_iff_iff,jM];rcases jZ a b with h|h|h
 ·simp[h,kP h]
 ·subst h;simp[bA]
 ·simp only[h,Bool.not_true,Bool.false_eq_true,iff_false,not_or];constructor
  ·intro k;rw[kP h] at k;cases k
  ·intro e;subst e;rw[bA] at h;cases h
theorem sL:ByteArray.empty.toList=[]:=by rw[Lib.toList_data];rfl
theorem eV (a b:ByteArray):eqS a b=true↔a=b:=by
 unfold eqS;rw[beq_iff_eq];exact⟨gV,fun h=>by rw[h]⟩
theorem xB (a:ByteArray):eqS a a=true:=(eV a a).2 rfl
theorem uM {a b:ByteArray} (h:ltS a b=true):eqS a b=false:=by
 cases e:eqS a b with
 | false=>rfl
 | true=>rw[(eV a b).1 e,bA] at h;cases h
theorem xD (a b:ByteArray):eqS a b=eqS b a:=by
 rw[Bool.eq_iff_iff,eV,eV];exact⟨Eq.symm,Eq.symm⟩
theorem zJG (a:ByteArray):nilS a=true↔a=ByteArray.empty:=by
 unfold nilS;rw[List.isEmpty_iff];exact⟨fun h=>gV (by rw[h,sL]),fun h=>by rw[h,sL]⟩
theorem zLQ (a:ByteArray):ltS a ByteArray.empty=false:=by
 unfold ltS;rw[sL];cases a.toList<;>rfl
theorem zOz (x y:ByteArray):Lib.maxS x y=if ltS x y then y else x:=by
 unfold Lib.maxS ltS;rw[Proofs.bytesLess_eq,Lib.toList_data,Lib.toList_data];by_cases h:x.data.toList<y.data.toList<;>simp[h]
theorem zNZ (x y:ByteArray):Lib.minS x y=if leS x y then x else y:=by
 unfold Lib.minS leS;rw[Proofs.bytesLess_eq,Lib.toList_data,Lib.toList_data];by_cases h:x.data.toList<y.data.toList<;>by_cases h':x.data.toList=y.data.toList<;>simp[h,h']
 intro e;exact absurd (by rw[e]) h'
def cX (k:ByteArray):ByteArray:=k++⟨#[0]⟩
theorem zLy:∀ x k:List UInt8,Op.bytesLess x (k++[0])=(Op.bytesLess x k || x==k):=by
 intro x
 induction x with
 | nil=>intro k;cases k<;>rfl
 | cons a x ih=>
  intro k
  cases k with
  | nil=>
   have:¬(a<0):=by simp[UInt8.lt_iff_toNat_lt]
   cases x<;>simp[Op.bytesLess,this]
  | cons b k=>
   simp only[List.cons_append,Op.bytesLess,ih,List.cons_beq_cons];cases decide (a<b)<;>cases (a==b)<;>simp
theorem zLn (a k:ByteArray):ltS a (cX k)=leS a k:=by
 unfold ltS leS cX;have e:(k++(⟨#[0]⟩:ByteArray)).toList=k.toList++[0]:=by simp[Lib.toList_data,ByteArray.data_append]
 rw[e,zLy]
theorem zOf (k:ByteArray):nilS (cX k)=false:=by
 unfold nilS cX;have e:(k++(⟨#[0]⟩:ByteArray)).toList=k.toList++[0]:=by simp[Lib.toList_data,ByteArray.data_append]
 rw[e];simp
def hasS (f t k:ByteArray):Bool:=leS f k&&(nilS t || ltS k t)
def endS (a b:ByteArray):ByteArray:=if nilS a then b else if nilS b then a else Lib.minS a b
theorem zOA (a b k:ByteArray):leS (Lib.maxS a b) k=(leS a k&&leS b k):=by
 rw[zOz];simp only[mA];rcases jZ a b with h|h|h
 ·rw[if_pos h]
  cases e:ltS k b with
  | true=>simp
  | false=>
   have:ltS k a=false:=by
    cases e2:ltS k a with
    | false=>rfl
    | true=>rw[cL e2 h] at e;cases e
   simp[this]
 ·subst h;simp[bA]
 ·rw[if_neg (by simp[kP h])]
  cases e:ltS k a with
  | true=>simp
  | false=>
   have:ltS k b=false:=by
    cases e2:ltS k b with
    | false=>rfl
    | true=>rw[cL e2 h] at e;cases e
   simp[this]
theorem zOC (a b k:ByteArray):ltS k (Lib.minS a b)=(ltS k a&&ltS k b):=by
 rw[zNZ,mA];rcases jZ a b with h|h|h
 ·rw[kP h]
  cases e:ltS k a with
  | false=>simp[e]
  | true=>simp[e,cL e h]
 ·subst h;simp[bA]
 ·rw[h]
  cases e:ltS k b with
  | false=>simp[e]
  | true=>simp[e,cL e h]
theorem zOj {a b:ByteArray} (ha:nilS a=false) (hb:nilS b=false):nilS (Lib.minS a b)=false:=by
 rw[zNZ];split<;>assumption
theorem zOG (a b k:ByteArray):(nilS (endS a b) || ltS k (endS a b))=((nilS a || ltS k a)&&(nilS b || ltS k b)):=by
 unfold endS
 cases ha:nilS a with
 | true=>simp
 | false=>
  cases hb:nilS b with
  | true=>simp[ha]
  | false=>simp[zOj ha hb,zOC]
theorem zOi (af a_t bf bt k:ByteArray):hasS (Lib.maxS af bf) (endS a_t bt) k=(hasS af a_t k&&hasS bf bt k):=by
 unfold hasS;rw[zOA,zOG];cases leS af k<;>cases leS bf k<;>cases (nilS a_t || ltS k a_t)<;>simp
section
open Go.RowKit Go.Joins
structure Chg where
 key:ByteArray
 val:ByteArray
 gone:Bool
def dG (w:World) (b off:Nat) (l:List Chg):Prop:=
 ∀ i (h:i<l.length),w.cell? ⟨b,off+i*3,none⟩=some (.string l[i].key)/\w.cell? ⟨b,off+i*3+1,none⟩=some (.string l[i].val)/\w.cell? ⟨b,off+i*3+2,none⟩=some (.bool l[i].gone)
theorem gC {w w':World} {b off:Nat} {l:List Chg} (hb:Below w.heap.size w w') (h:dG w b off l):dG w' b off l:=
 fun i hi=>⟨aA hb (h i hi).1,aA hb (h i hi).2.1,aA hb (h i hi).2.2⟩
def cU (l:List Chg) (key:ByteArray):Nat:=l.findIdx fun c=>!ltS c.key key
def fB (l:List Chg) (key:ByteArray):Bool:=match l[cU l key]? with
 | some c=>eqS c.key key
 | none=>false
theorem zBl (l:List Chg) (key:ByteArray):cU l key<=l.length:=List.findIdx_le_length
theorem zEe {l:List Chg} {key:ByteArray} {k:Nat} (hk:k<=cU l key) (hl:k<l.length) (h:ltS l[k].key key=true):k+1<=cU l key:=by
 rcases Nat.lt_or_ge k (cU l key) with h'|h'
 ·exact h'
 ·have e:cU l key=k:=by omega
  have:=List.findIdx_getElem (p:=fun c:Chg=>!ltS c.key key) (xs:=l) (w:=by unfold cU at e;omega);unfold cU at e;simp only[e,h] at this;cases this
theorem zA7 {l:List Chg} {key:ByteArray} {k:Nat} (hk:k<=cU l key) (h:(hl:k<l.length)->ltS l[k].key key=false):cU l key=k:=by
 rcases Nat.lt_or_ge k (cU l key) with h'|h'
 ·have hl:k<l.length:=Nat.lt_of_lt_of_le h' (zBl l key);have:=List.not_of_lt_findIdx (p:=fun c:Chg=>!ltS c.key key) (xs:=l) (i:=k) h';simp[h hl] at this
 ·omega
def putL (l:List Chg) (c:Chg):List Chg:=l.take (cU l c.key)++c::l.drop (if fB l c.key then cU l c.key+1 else cU l c.key)
end
def mL (c:UInt8):Bool:=decide (97<=c.toNat)&&decide (c.toNat<=122)
def eZ (c:UInt8):Bool:=decide (48<=c.toNat)&&decide (c.toNat<=57)
def gR (i:Nat) (c:UInt8):Bool:=mL c || (decide (i≠0)&&eZ c)
def jJ (l:List UInt8) (k:Nat):Bool:=(List.range k).all fun i=>gR i (l.getD i 0)
def bK (l:List UInt8):Bool:=decide (1<=l.length)&&decide (l.length<=6)&&jJ l l.length
def qN (l:List UInt8) (k:Nat):Bool:=(List.range k).all fun i=>eZ (l.getD i 0)
def sixL (l:List UInt8):Bool:=decide (l.length=6)&&qN l l.length
def jE (k head:List UInt8):Bool:=Lib.hasPrefix k head&&bK (Lib.trimPrefix k head)
def nY (r:List UInt8) (i:Int):Bool:=decide (0<=i)&&(bK (r.take i.toNat)&&sixL (r.drop (i.toNat+1)))
def kW (k:List UInt8):Bool:=Lib.hasPrefix k [109,47]&&nY (Lib.trimPrefix k [109,47]) (Lib.indexByte (Lib.trimPrefix k [109,47]) 47)
def keyL (k:List UInt8):Bool:=jE k [116,47] || (jE k [113,47] || kW k)
theorem rG (l:List UInt8) (k:Nat):jJ l (k+1)=(jJ l k&&gR k (l.getD k 0)):=by
 simp[jJ,List.range_succ]
theorem zFx (l:List UInt8) (k:Nat):qN l (k+1)=(qN l k&&eZ (l.getD k 0)):=by
 simp[qN,List.range_succ]
theorem uD {l:List UInt8} {k n:Nat} (h:k<=n) (hn:jJ l k=false):jJ l n=false:=by
 rw[jJ,List.all_eq_false] at *;obtain⟨i,hi,h2⟩:=hn;exact⟨i,List.mem_range.2 (Nat.lt_of_lt_of_le (List.mem_range.1 hi) h),h2⟩
theorem zKc {l:List UInt8} {k n:Nat} (h:k<=n) (hn:qN l k=false):qN l n=false:=by
 rw[qN,List.all_eq_false] at *;obtain⟨i,hi,h2⟩:=hn;exact⟨i,List.mem_range.2 (Nat.lt_of_lt_of_le (List.mem_range.1 hi) h),h2⟩
theorem vR (s:ByteArray) (k:Nat) (h:k<s.size):s.data.toList.getD k 0=s[k]:=by
 rw[List.getD_eq_getElem?_getD,List.getElem?_eq_getElem (by simpa using h)];rfl
theorem fR (s:ByteArray):s.data.toList.length=s.size:=by simp
section
open Go.RowKit Go.Joins
theorem mJ (c:UInt8) (w:World):
  Calls p_ 214 #[.int .u8 c.toNat] w fun e w'=>e=.returned (.bool (mL c))/\w'=w:=by
 go_enter Tryz.func214,Tryz.ntmps214;go_wp2
 all_goals
  go_ret;refine⟨bB ?_,rfl⟩;simp only[mL]
  first|(rw[Bool.eq_iff_iff];simp;omega)|(simp;omega)
theorem jP (c:UInt8) (w:World):
  Calls p_ 215 #[.int .u8 c.toNat] w fun e w'=>e=.returned (.bool (eZ c))/\w'=w:=by
 go_enter Tryz.func215,Tryz.ntmps215;go_wp2
 all_goals
  go_ret;refine⟨bB ?_,rfl⟩;simp only[eZ]
  first|(rw[Bool.eq_iff_iff];simp;omega)|(simp;omega)
theorem zC4 (s:ByteArray) (w:World):
  Calls p_ 230 #[.string s] w fun e w'=>e=.returned (.bool (sixL s.data.toList))/\w'=w:=by
 by_cases h6:s.size=6
 ·have hg:((s.size:Int) != 6)=false:=by rw[h6];rfl
  go_enter Tryz.func230,Tryz.ntmps230;go_wp2
  go_loop [9] (fun i=>∃ k:Nat,k<=s.size/\i=.int .i64 k/\qN s.data.toList k=true) (fun i=>s.size-(intOf i).toNat)
  case atStart=>exact⟨0,Nat.zero_le _,rfl,rfl⟩
  case round=>
   obtain⟨k,hk,rfl,hd⟩:=hrel;have HD:=hide hd;clear hd;by_cases hlt:k<s.size
   ·have HS:=hide (zFx s.data.toList k);have HB:=hide (vR s k hlt)
    cases hc:eZ s[k] with
    | true=>
     go_wp2_with (go_at_call 215;refine(jP _ _).mono ?_;rintro e w' ⟨rfl,rfl⟩)
     go_round
     case rel=>exact⟨k+1,by omega,by go_num,by rw[HS.out,HD.out,HB.out,hc];rfl⟩
     case measure=>simp[intOf];omega
    | false=>
     go_wp2_with (go_at_call 215;refine(jP _ _).mono ?_;rintro e w' ⟨rfl,rfl⟩)
     go_ret;refine⟨bB ?_,rfl⟩;rw[sixL,fR,zKc (k:=k+1) (by omega) (by rw[HS.out,HB.out,hc,Bool.and_false]),Bool.and_false]
   ·go_wp2;go_ret;refine⟨bB ?_,rfl⟩;have e:k=s.size:=by omega
    have:=HD.out;rw[e] at this;rw[sixL,fR,this];simp[h6]
 ·have hg:((s.size:Int) != 6)=true:=by rw[bne_iff_ne];omega
  go_enter Tryz.func230,Tryz.ntmps230;go_wp2;go_ret;exact⟨bB (by simp[sixL,h6]),rfl⟩
theorem kM (s:ByteArray) (w:World):
  Calls p_ 150 #[.string s] w fun e w'=>e=.returned (.bool (bK s.data.toList))/\w'=w:=by
 by_cases h1:1<=s.size
 ·by_cases h6:s.size<=6
  ·go_enter Tryz.func150,Tryz.ntmps150;go_wp2
   go_loop [14] (fun i=>∃ k:Nat,k<=s.size/\i=.int .i64 k/\jJ s.data.toList k=true) (fun i=>s.size-(intOf i).toNat)
   case atStart=>exact⟨0,Nat.zero_le _,rfl,rfl⟩
   case round=>
    obtain⟨k,hk,rfl,hd⟩:=hrel;have HD:=hide hd;clear hd;by_cases hlt:k<s.size
    ·have HS:=hide (rG s.data.toList k);have HB:=hide (vR s k hlt);have yes:gR k s[k]=true->jJ s.data.toList (k+1)=true:=fun h=>by rw[HS.out,HD.out,HB.out,h];rfl
     have no:gR k s[k]=false->bK s.data.toList=false:=fun h=>by
      rw[bK,fR,uD (k:=k+1) (by omega) (by rw[HS.out,HB.out,h,Bool.and_false]),Bool.and_false]
     have HY:=hide yes;have HN:=hide no;clear yes no
     cases hc:mL s[k] with
     | true=>
      go_wp2_with (first|(go_at_call 214;refine(mJ _ _).mono ?_;rintro e w' ⟨rfl,rfl⟩)|(go_at_call 215;refine(jP _ _).mono ?_;rintro e w' ⟨rfl,rfl⟩))
      go_round
      case rel=>exact⟨k+1,by omega,by go_num,HY.out (by simp[gR,hc])⟩
      case measure=>simp[intOf];omega
     | false=>
      by_cases h0:k=0
      ·subst h0;go_wp2_with (first|(go_at_call 214;refine(mJ _ _).mono ?_;rintro e w' ⟨rfl,rfl⟩)|(go_at_call 215;refine(jP _ _).mono ?_;rintro e w' ⟨rfl,rfl⟩))
       go_ret;exact⟨bB (HN.out (by simp[gR,hc])).symm,rfl⟩
      ·have hk0:((k:Int)==0)=false:=beq_eq_false_iff_ne.2 (by omega)
       cases hd:eZ s[k] with
       | true=>
        go_wp2_with (first|(go_at_call 214;refine(mJ _ _).mono ?_;rintro e w' ⟨rfl,rfl⟩)|(go_at_call 215;refine(jP _ _).mono ?_;rintro e w' ⟨rfl,rfl⟩))
        go_round
        case rel=>exact⟨k+1,by omega,by go_num,HY.out (by simp[gR,hd,h0])⟩
        case measure=>simp[intOf];omega
       | false=>
        go_wp2_with (first|(go_at_call 214;refine(mJ _ _).mono ?_;rintro e w' ⟨rfl,rfl⟩)|(go_at_call 215;refine(jP _ _).mono ?_;rintro e w' ⟨rfl,rfl⟩))
        go_ret;exact⟨bB (HN.out (by simp[gR,hc,hd])).symm,rfl⟩
    ·go_wp2;go_ret;refine⟨bB ?_,rfl⟩;have e:k=s.size:=by omega
     have:=HD.out;rw[e] at this;rw[bK,fR,this];simp[h1,h6]
  ·go_enter Tryz.func150,Tryz.ntmps150;go_wp2;go_ret;exact⟨bB (by simp[bK,h6]),rfl⟩
 ·go_enter Tryz.func150,Tryz.ntmps150;go_wp2;go_ret;exact⟨bB (by simp[bK];omega),rfl⟩
def errV (n:Nat):Value:=if n=0 then .nilIface else .iface 114 (.int .i64 n)
theorem aP {n:Nat} (h:n≠0):errV n=.iface 114 (.int .i64 n):=if_neg h
theorem aR:errV 0=.nilIface:=rfl
end
end Go.Proofs.YtnboipekkahmnaaGreatDoor
namespace Go.Proofs
open Obj renaming cells→o_
open Go.RowKit.Below renaming refl→r_
open Nat renaming le_refl→n_
open Tryz renaming prog→p_
open Value renaming string→v_
open Go.Joins renaming below_alloc1→a_
section
open Go.Shelf
def Tryz.lays103_ren:Go.Shelf.Ren:=⟨fun|103=>228|210=>269|206=>275|n=>n,fun|9=>9|4=>4|24=>87|3=>3|n=>n,fun|n=>n⟩
theorem Tryz.lays103:Go.Proofs.Lays.n103 p_ Tryz.lays103_ren:={
 mixed:=by kernel_rfl
 f103:=Tryz.func228.trans (congrArg some (by kernel_rfl))
 f206:=Tryz.func275.trans (congrArg some (by kernel_rfl))
 f210:=Tryz.func269.trans (congrArg some (by kernel_rfl))
 t3:=Tryz.underlying3
 a3:=Tryz.isAgg3
 z3:=Tryz.sizeOf3
 v3:=Tryz.zeroValue3
 t4:=Tryz.underlying4
 a4:=Tryz.isAgg4
 z4:=Tryz.sizeOf4
 v4:=Tryz.zeroValue4
 t9:=Tryz.underlying9
 a9:=Tryz.isAgg9
 z9:=Tryz.sizeOf9
 v9:=Tryz.zeroValue9
 t24:=Tryz.underlying87
 a24:=Tryz.isAgg87
 z24:=Tryz.sizeOf87
 v24:=Tryz.zeroValue87 }
open Go.RowKit in
theorem Tryz.strings_CutPrefix (s p:ByteArray) (w:World):
  Calls p_ 228 #[.string s,.string p] w fun e w'=>e=.returned (.tuple #[.string ⟨(Lib.trimPrefix s.data.toList p.data.toList).toArray⟩,.bool (Lib.hasPrefix s.data.toList p.data.toList)])/\w'=w:=Any.strings_CutPrefix Tryz.lays103 s p w
def Tryz.lays219_ren:Go.Shelf.Ren:=⟨fun|219=>309|217=>328|225=>329|224=>330|267=>331|266=>340|314=>341|n=>n,fun|9=>9|3=>3|4=>4|5=>5|46=>311|146=>351|51=>350|n=>n,fun|1=>0|n=>n⟩
theorem Tryz.lays219:Go.Proofs.Lays.n219 p_ Tryz.lays219_ren:={
 mixed:=by kernel_rfl
 f217:=Tryz.func328.trans (congrArg some (by kernel_rfl))
 f219:=Tryz.func309.trans (congrArg some (by kernel_rfl))
 f224:=Tryz.func330.trans (congrArg some (by kernel_rfl))
 f225:=Tryz.func329.trans (congrArg some (by kernel_rfl))
 f266:=Tryz.func340.trans (congrArg some (by kernel_rfl))
 f267:=Tryz.func331.trans (congrArg some (by kernel_rfl))
 f314:=Tryz.func341.trans (congrArg some (by kernel_rfl))
 t3:=Tryz.underlying3
 a3:=Tryz.isAgg3
 z3:=Tryz.sizeOf3
 v3:=Tryz.zeroValue3
 t4:=Tryz.underlying4
 a4:=Tryz.isAgg4
 z4:=Tryz.sizeOf4
 v4:=Tryz.zeroValue4
 t5:=Tryz.underlying5
 a5:=Tryz.isAgg5
 z5:=Tryz.sizeOf5
 v5:=Tryz.zeroValue5
 t9:=Tryz.underlying9
 a9:=Tryz.isAgg9
 z9:=Tryz.sizeOf9
 v9:=Tryz.zeroValue9
 t46:=Tryz.underlying311
 a46:=Tryz.isAgg311
 z46:=Tryz.sizeOf311
 v46:=Tryz.zeroValue311
 t51:=Tryz.underlying350
 a51:=Tryz.isAgg350
 z51:=Tryz.sizeOf350
 v51:=Tryz.zeroValue350
 t146:=Tryz.underlying351
 a146:=Tryz.isAgg351
 z146:=Tryz.sizeOf351
 v146:=Tryz.zeroValue351
 g1:=by kernel_rfl }
open Go.RowKit Go.Lib in
theorem Tryz.stringslite_Index_one (s:ByteArray) (c:UInt8) (w:World):
  Calls p_ 309 #[.string s,.string ⟨#[c]⟩] w fun e w'=>e=.returned (.int .i64 (Lib.indexByte s.data.toList c))/\w'=w:=Any.stringslite_Index_one Tryz.lays219 s c w
end
end Go.Proofs
namespace Go.Proofs.YtnboipekkahmnaaGreatDoor
open Obj renaming cells→o_
open Go.RowKit.Below renaming refl→r_
open Nat renaming le_refl→n_
open Tryz renaming prog→p_
open Value renaming string→v_
open Go.Joins renaming below_alloc1→a_
section
open Go.RowKit Go.Joins
theorem zC7 (l:List UInt8) (c:UInt8):-1<=Lib.indexByte l c/\Lib.indexByte l c<l.length:=by
 induction l with
 | nil=>simp[Lib.indexByte]
 | cons b l ih=>
  simp only[Lib.indexByte,List.length_cons];split
  ·omega
  ·split<;>omega
def qE (s:ByteArray) (n:Nat):ByteArray:=s.extract 0 n
def qD (s:ByteArray) (n:Nat):ByteArray:=s.extract n s.size
theorem oT (s:ByteArray) (n:Nat):(qE s n).data.toList=s.data.toList.take n:=by simp[qE]
theorem oM (s:ByteArray) (n:Nat):(qD s n).data.toList=s.data.toList.drop n:=by
 rw[qD,Lib.extract_to_end]
def cutV (s:ByteArray) (i:Int):Value:=
 if 0<=i then .tuple #[.string (qE s i.toNat),.string (qD s (i.toNat+1)),.bool true] else .tuple #[.string s,.string ⟨#[]⟩,.bool false]
theorem zLm (s:ByteArray) (c:UInt8) (w:World) (hs:s.size<=maxLen):
  Calls p_ 270 #[.string s,.string ⟨#[c]⟩] w fun e w'=>e=.returned (cutV s (Lib.indexByte s.data.toList c))/\Below w.heap.size w w':=by
 unfold maxLen at hs;have hi:=zC7 s.data.toList c;rw[fR] at hi;have hc:=Tryz.stringslite_Index_one s c;generalize Lib.indexByte s.data.toList c=i at hc hi ⊢;have HC:=hide hc;clear hc;by_cases h0:0<=i
 ·obtain⟨n,rfl⟩:=Int.eq_ofNat_of_zero_le h0;obtain⟨_,h2⟩:=hi;have h3:n+1<=s.size:=by omega
  go_enter Tryz.func270,Tryz.ntmps270;go_wp2_with (go_at_call 309;refine(HC.out _).mono ?_;rintro e w1 ⟨rfl,rfl⟩)
  go_quiet (fail);go_wp2;go_ret3;refine⟨?_,below_draws _ _ _⟩;simp[cutV,qE,qD]
 ·have hg:decide (0<=i)=false:=by simp;omega
  go_enter Tryz.func270,Tryz.ntmps270;go_wp2_with (go_at_call 309;refine(HC.out _).mono ?_;rintro e w1 ⟨rfl,rfl⟩)
  go_ret3;refine⟨?_,r_ _ _⟩;simp[cutV,h0]
theorem zAk (s:ByteArray) (c:UInt8) (w:World) (hs:s.size<=maxLen):
  Calls p_ 229 #[.string s,.string ⟨#[c]⟩] w fun e w'=>e=.returned (cutV s (Lib.indexByte s.data.toList c))/\Below w.heap.size w w':=by
 have hc:=fun w=>zLm s c w hs;unfold cutV at hc ⊢;by_cases h0:0<=Lib.indexByte s.data.toList c
 all_goals
  simp only[h0,if_true,if_false] at hc ⊢;have HC:=hide hc;clear hc h0;go_enter Tryz.func229,Tryz.ntmps229;go_wp2_with (go_at_call 270;refine(HC.out _).mono ?_;rintro e w1 ⟨rfl,hb⟩)
  go_ret3;exact⟨rfl,hb⟩
theorem back (l:List UInt8):(⟨l.toArray⟩:ByteArray).data.toList=l:=by simp
theorem wJ (k head:ByteArray) (w:World):
  Calls p_ 166 #[.string k,.string head] w fun e w'=>e=.returned (.bool (jE k.data.toList head.data.toList))/\w'=w:=by
 obtain⟨r,hr⟩:∃ r:ByteArray,r=⟨(Lib.trimPrefix k.data.toList head.data.toList).toArray⟩:=⟨_,rfl⟩;have hrd:Lib.trimPrefix k.data.toList head.data.toList=r.data.toList:=by rw[hr,back]
 have hc:∀ w,Calls p_ 228 #[.string k,.string head] w fun e w'=>e=.returned (.tuple #[.string r,.bool (Lib.hasPrefix k.data.toList head.data.toList)])/\w'=w:=by
  rw[hr];exact Tryz.strings_CutPrefix k head
 have hn:=kM r;unfold jE;rw[hrd];clear hrd hr;generalize bK r.data.toList=y at hn ⊢;generalize Lib.hasPrefix k.data.toList head.data.toList=x at hc ⊢;have HC:=hide hc;have HN:=hide hn;clear hc hn;cases x
 all_goals
  go_enter Tryz.func166,Tryz.ntmps166;go_wp2_with (first|(go_at_call 228;refine(HC.out _).mono ?_;rintro e w1 ⟨rfl,rfl⟩)|(go_at_call 150;refine(HN.out _).mono ?_;rintro e w1 ⟨rfl,rfl⟩))
  go_ret;exact⟨rfl,rfl⟩
theorem zBV (k:ByteArray) (w:World) (hk:k.size<=maxLen):
  Calls p_ 167 #[.string k] w fun e w'=>e=.returned (.bool (kW k.data.toList))/\Below w.heap.size w w':=by
 obtain⟨r,hr⟩:∃ r:ByteArray,r=⟨(Lib.trimPrefix k.data.toList [109,47]).toArray⟩:=⟨_,rfl⟩;have hrd:Lib.trimPrefix k.data.toList [109,47]=r.data.toList:=by rw[hr,back]
 have hc:∀ w,Calls p_ 228 #[.string k,.string ⟨#[109,47]⟩] w fun e w'=>e=.returned (.tuple #[.string r,.bool (Lib.hasPrefix k.data.toList [109,47])])/\w'=w:=by
  rw[hr];exact Tryz.strings_CutPrefix k ⟨#[109,47]⟩
 have hsz:r.size<=maxLen:=by
  rw[Lib.size_eq,<-hrd];rw[Lib.size_eq] at hk;unfold Lib.trimPrefix;split
  ·rw[List.length_drop];omega
  ·exact hk
 have hcut:=fun w=>zAk r 47 w hsz;unfold kW;rw[hrd];clear hrd hr hsz;generalize Lib.indexByte r.data.toList 47=i at hcut ⊢;have hn:=kM (qE r i.toNat);have hx:=zC4 (qD r (i.toNat+1));rw[oT] at hn;rw[oM] at hx;unfold nY;unfold cutV at hcut;generalize qE r i.toNat=x at hn hcut;generalize qD r (i.toNat+1)=y at hx hcut;generalize bK (r.data.toList.take i.toNat)=nx at hn ⊢;generalize sixL (r.data.toList.drop (i.toNat+1))=ny at hx ⊢;generalize Lib.hasPrefix k.data.toList [109,47]=p at hc ⊢;have HB:=r_ w.heap.size w;have HC:=hide hc;have HN:=hide hn;have HX:=hide hx;clear hc hn hx;cases p
 ·have HT:=hide hcut;clear hcut;go_enter Tryz.func167,Tryz.ntmps167;go_wp2_with (go_at_call 228;refine(HC.out _).mono ?_;rintro e w1 ⟨rfl,rfl⟩)
  go_ret;exact⟨rfl,HB⟩
 ·by_cases h0:0<=i
  all_goals
   simp only[h0,if_true,if_false,decide_true,decide_false,Bool.true_and,Bool.false_and] at hcut ⊢;have HT:=hide hcut;clear hcut h0
   try cases nx
   all_goals
    go_enter Tryz.func167,Tryz.ntmps167;go_wp2_with (first
     | (go_at_call 228;refine(HC.out _).mono ?_;rintro e w1 ⟨rfl,rfl⟩)
     | (go_at_call 229;refine(HT.out _).mono ?_;rintro e w1 ⟨rfl,hb⟩;replace HB:=aB HB (n_ _) hb;clear hb)
     | (go_at_call 150;refine(HN.out _).mono ?_;rintro e w1 ⟨rfl,rfl⟩)
     | (go_at_call 230;refine(HX.out _).mono ?_;rintro e w1 ⟨rfl,rfl⟩))
    go_ret;exact⟨rfl,HB⟩
theorem oD (k:ByteArray) (w:World) (hk:k.size<=maxLen):
  Calls p_ 104 #[.string k] w fun e w'=>e=.returned (errV (if keyL k.data.toList then 0 else 3))/\Below w.heap.size w w':=by
 have h1:=wJ k ⟨#[116,47]⟩;have h2:=wJ k ⟨#[113,47]⟩;have h3:=fun w=>zBV k w hk;have e1:(⟨#[116,47]⟩:ByteArray).data.toList=[116,47]:=rfl;have e2:(⟨#[113,47]⟩:ByteArray).data.toList=[113,47]:=rfl;rw[e1] at h1;rw[e2] at h2;clear e1 e2;unfold keyL;generalize jE k.data.toList [116,47]=x at h1 ⊢;generalize jE k.data.toList [113,47]=y at h2 ⊢;generalize kW k.data.toList=z at h3 ⊢;have HB:=r_ w.heap.size w;have H1:=hide h1;have H2:=hide h2;have H3:=hide h3;clear h1 h2 h3;cases x<;>cases y<;>cases z
 all_goals
  go_enter Tryz.func104,Tryz.ntmps104;go_wp2_with (first
   | (go_at_call_of 166 (v_ ⟨#[116,47]⟩);refine(H1.out _).mono ?_;rintro e w1 ⟨rfl,rfl⟩)
   | (go_at_call_of 166 (v_ ⟨#[113,47]⟩);refine(H2.out _).mono ?_;rintro e w1 ⟨rfl,rfl⟩)
   | (go_at_call 167;refine(H3.out _).mono ?_;rintro e w1 ⟨rfl,hb⟩;replace HB:=aB HB (n_ _) hb;clear hb))
  go_ret;exact⟨rfl,HB⟩
def aD (c:Chg):Nat:=if !keyL c.key.data.toList then 3 else if c.gone&&!c.val.toList.isEmpty then 3 else if 40<c.val.size then 1 else 0
theorem gB (c:Chg) (w:World) (hk:c.key.size<=maxLen):
  Calls p_ 170 #[.agg #[.string c.key,.string c.val,.bool c.gone]] w fun e w'=>e=.returned (errV (aD c))/\Below w.heap.size w w':=by
 have HK:=fun w'=>hide (oD c.key w' hk);unfold aD;generalize keyL c.key.data.toList=kl at *;have hB:=a_ w (o_ #[.string c.key,.string c.val,.bool c.gone] 133);have a1:(w.alloc (o_ #[.string c.key,.string c.val,.bool c.gone] 133)).cell? ⟨w.heap.size,1,none⟩=some (.string c.val):=by simp
 have a2:(w.alloc (o_ #[.string c.key,.string c.val,.bool c.gone] 133)).cell? ⟨w.heap.size,2,none⟩=some (.bool c.gone):=by simp
 cases kl
 ·go_enter Tryz.func170,Tryz.ntmps170;go_wp2_with fail;refine((HK _).out).mono ?_;rintro e w1 ⟨rfl,hb⟩;replace hB:=aB hB (n_ _) hb;simp only[Bool.false_eq_true,if_false,errV];go_wp2;go_ret;exact⟨rfl,hB⟩
 ·generalize c.gone=g at *;cases g
  all_goals
   go_enter Tryz.func170,Tryz.ntmps170;go_wp2_with fail;refine((HK _).out).mono ?_;rintro e w1 ⟨rfl,hb⟩;replace hB:=aB hB (n_ _) hb;replace a1:=aA hb a1;replace a2:=aA hb a2;clear HK hb;simp only[if_true,errV];by_cases h40:40<c.val.size
   ·have j40:(40:Int)<(c.val.size:Int):=by omega
    go_wp2
    all_goals
     go_ret;exact⟨by simp_all [errV],hB⟩
   ·have j40:¬(40:Int)<(c.val.size:Int):=by omega
    go_wp2
    all_goals
     go_ret;exact⟨by simp_all [errV],hB⟩
theorem oR {n:Int} (h0:0<=n) (h1:n<=100000):wrap64 n=n:=by unfold wrap64;omega
theorem zFw (s:ByteArray) (w:World) (h2:2<=s.size) (hs:s.size<=1000) (x y:Nat) (hx:s[0].toNat=x) (hy:s[1].toNat=y) (h1:x<=1) (hl:2+y<=s.size):
  Calls p_ 336 #[.string s] w fun e w'=>e=.returned (.tuple #[.agg #[.string (s.extract 2 (2+y)),.string (s.extract (2+y) s.size),.bool (decide (x=1))],.bool true])/\Below w.heap.size w w':=by
 have hB:=a_ w (o_ #[.string ⟨#[]⟩,v_ ⟨#[]⟩,Value.bool false] 133);have fz:=aQ w #[v_ ⟨#[]⟩,v_ ⟨#[]⟩,Value.bool false] 133;have w1:wrap64 (y:Int)=y:=oR (by omega) (by omega);have w2:wrap64 (2+(y:Int))=2+y:=oR (by omega) (by omega);have d1:decide ((s.size:Int)<2)=false:=by simp;omega
 have d2:decide ((1:Int)<(x:Int))=false:=by simp;omega
 have d3:decide ((s.size:Int)<2+(y:Int))=false:=by simp;omega
 have g1:1<(s.size:Int):=by omega
 have g0:0<s.size:=by omega
 have i1:(0:Int)<=2+(y:Int):=by omega
 have i2:2+(y:Int)<=(s.size:Int):=by omega
 have i3:(2:Int)<=2+(y:Int):=by omega
 go_enter Tryz.func336,Tryz.ntmps336;go_wp2
 go_region_held3 (fun _=>True) (trivial) (fail)
 go_wp2;refine bodyPost_ret (v:=.tuple #[.agg #[.string (s.extract 2 (2+y)),.string (s.extract (2+y) s.size),.bool ((x:Int)==1)],.bool true]) (by simp[results,Tryz.results336,go_sem];rw[show(2+(y:Int)).toNat=2+y by omega];exact⟨rfl,rfl⟩) rfl ⟨?_,(a_ w _).drew⟩;have hx1:x=0∨x=1:=by omega
 rcases hx1 with e|e<;>rw[e]<;>rfl
theorem zGa (s:ByteArray) (c:Chg) (w:World) (hk:c.key.size<=maxLen) (hf:aD c=0)
  (HS:∀ w',Calls p_ 336 #[.string s] w' fun e w''=>e=.returned (.tuple #[.agg #[.string c.key,.string c.val,.bool c.gone],.bool true])/\Below w'.heap.size w' w''):
  Calls p_ 318 #[.string s] w fun e w'=>e=.returned (.tuple #[.agg #[.string c.key,.string c.val,.bool c.gone],.nilIface])/\Below w.heap.size w w':=by
 have HK:=fun w'=>hide (gB c w' hk);rw[hf] at HK;replace HS:=fun w'=>hide (HS w');go_enter Tryz.func318,Tryz.ntmps318;have hB:=a_ w (o_ #[.string ⟨#[]⟩,v_ ⟨#[]⟩,Value.bool false] 133);have fz:=aQ w #[v_ ⟨#[]⟩,v_ ⟨#[]⟩,Value.bool false] 133;have h0:w.heap.size<(w.alloc (o_ #[.string ⟨#[]⟩,v_ ⟨#[]⟩,Value.bool false] 133)).heap.size:=by simp
 have r0:(w.alloc (o_ #[.string ⟨#[]⟩,v_ ⟨#[]⟩,Value.bool false] 133)).cell? ⟨w.heap.size,0,none⟩=some (.string ⟨#[]⟩):=by simp
 have r1:(w.alloc (o_ #[.string ⟨#[]⟩,v_ ⟨#[]⟩,Value.bool false] 133)).cell? ⟨w.heap.size,1,none⟩=some (.string ⟨#[]⟩):=by simp
 have r2:(w.alloc (o_ #[.string ⟨#[]⟩,v_ ⟨#[]⟩,Value.bool false] 133)).cell? ⟨w.heap.size,2,none⟩=some (.bool false):=by simp
 go_wp2_with fail;refine((HS _).out).mono ?_;rintro e w1 ⟨rfl,hb⟩;replace hB:=aB hB (n_ _) hb;replace fz:=fun j=>aE hb h0 (fz j);replace r0:=aA hb r0;replace r1:=aA hb r1;replace r2:=aA hb r2;replace h0:=Nat.lt_of_lt_of_le h0 hb.size;clear hb;have hX:=a_ w1 (o_ #[.string c.key,.string c.val,.bool c.gone] 133);have h3:w1.heap.size<(w1.alloc (o_ #[.string c.key,.string c.val,.bool c.gone] 133)).heap.size:=by simp
 have q0:(w1.alloc (o_ #[.string c.key,.string c.val,.bool c.gone] 133)).cell? ⟨w1.heap.size,0,none⟩=some (.string c.key):=by simp
 have q1:(w1.alloc (o_ #[.string c.key,.string c.val,.bool c.gone] 133)).cell? ⟨w1.heap.size,1,none⟩=some (.string c.val):=by simp
 have q2:(w1.alloc (o_ #[.string c.key,.string c.val,.bool c.gone] 133)).cell? ⟨w1.heap.size,2,none⟩=some (.bool c.gone):=by simp
 go_wp2_with fail;refine((HK _).out).mono ?_;rintro e w2 ⟨rfl,hb⟩;replace hX:=aB hX (n_ _) hb;replace hB:=aB hB (n_ _) hX;replace fz:=fun j=>aE hX h0 (fz j);replace r0:=aA hX r0;replace r1:=aA hX r1;replace r2:=aA hX r2;replace q0:=aA hb q0;replace q1:=aA hb q1;replace q2:=aA hb q2;clear hb hX HS HK h3;simp only[errV,if_true];go_wp2;exact bodyPost_ret (v:=.tuple #[.agg #[.string c.key,.string c.val,.bool c.gone],.nilIface]) (by simp[results,Tryz.results318,go_sem,r0,r1,r2]) rfl ⟨rfl,((hB.setCell (n_ _) _).setCell (n_ _) _).setCell (n_ _) _⟩
def gJ:Value:=.tuple #[.agg #[.string ⟨#[]⟩,.string ⟨#[]⟩,.bool false],.bool false]
theorem zE1 (s:ByteArray) (w:World) (h2:s.size<2):
  Calls p_ 336 #[.string s] w fun e w'=>e=.returned gJ/\Below w.heap.size w w':=by
 have d1:decide ((s.size:Int)<2)=true:=by simp;omega
 go_enter Tryz.func336,Tryz.ntmps336;go_wp2;exact bodyPost_ret (v:=gJ) (by simp[gJ,results,Tryz.results336,go_sem]) rfl ⟨rfl,a_ w _⟩
theorem zGA (s:ByteArray) (w:World) (h2:2<=s.size) (x:Nat) (hx:s[0].toNat=x) (h1:1<x):
  Calls p_ 336 #[.string s] w fun e w'=>e=.returned gJ/\Below w.heap.size w w':=by
 have d1:decide ((s.size:Int)<2)=false:=by simp;omega
 have d2:decide ((1:Int)<(x:Int))=true:=by simp;omega
 have g0:0<s.size:=by omega
 go_enter Tryz.func336,Tryz.ntmps336;go_wp2;exact bodyPost_ret (v:=gJ) (by simp[gJ,results,Tryz.results336,go_sem]) rfl ⟨rfl,a_ w _⟩
theorem zIt (s:ByteArray) (w:World) (h2:2<=s.size) (x y:Nat) (hx:s[0].toNat=x) (hy:s[1].toNat=y) (h1:x<=1) (hl:s.size<2+y) (hy':y<=255):
  Calls p_ 336 #[.string s] w fun e w'=>e=.returned gJ/\Below w.heap.size w w':=by
 have w1:wrap64 (y:Int)=y:=oR (by omega) (by omega);have w2:wrap64 (2+(y:Int))=2+y:=oR (by omega) (by omega);have d1:decide ((s.size:Int)<2)=false:=by simp;omega
 have d2:decide ((1:Int)<(x:Int))=false:=by simp;omega
 have d3:decide ((s.size:Int)<2+(y:Int))=true:=by simp;omega
 have g1:1<(s.size:Int):=by omega
 have g0:0<s.size:=by omega
 go_enter Tryz.func336,Tryz.ntmps336;go_wp2;exact bodyPost_ret (v:=gJ) (by simp[gJ,results,Tryz.results336,go_sem]) rfl ⟨rfl,a_ w _⟩
def nL:Value:=.tuple #[.agg #[.string ⟨#[]⟩,.string ⟨#[]⟩,.bool false],errV 4]
theorem vF (s:ByteArray) (w:World)
  (HS:∀ w',Calls p_ 336 #[.string s] w' fun e w''=>e=.returned gJ/\Below w'.heap.size w' w''):
  Calls p_ 318 #[.string s] w fun e w'=>e=.returned nL/\Below w.heap.size w w':=by
 unfold gJ at HS;replace HS:=fun w'=>hide (HS w');have hB:=a_ w (o_ #[.string ⟨#[]⟩,v_ ⟨#[]⟩,Value.bool false] 133);have fz:=aQ w #[v_ ⟨#[]⟩,v_ ⟨#[]⟩,Value.bool false] 133;have h0:w.heap.size<(w.alloc (o_ #[.string ⟨#[]⟩,v_ ⟨#[]⟩,Value.bool false] 133)).heap.size:=by simp
 have r0:(w.alloc (o_ #[.string ⟨#[]⟩,v_ ⟨#[]⟩,Value.bool false] 133)).cell? ⟨w.heap.size,0,none⟩=some (.string ⟨#[]⟩):=by simp
 have r1:(w.alloc (o_ #[.string ⟨#[]⟩,v_ ⟨#[]⟩,Value.bool false] 133)).cell? ⟨w.heap.size,1,none⟩=some (.string ⟨#[]⟩):=by simp
 have r2:(w.alloc (o_ #[.string ⟨#[]⟩,v_ ⟨#[]⟩,Value.bool false] 133)).cell? ⟨w.heap.size,2,none⟩=some (.bool false):=by simp
 go_enter Tryz.func318,Tryz.ntmps318;go_wp2_with fail;refine((HS _).out).mono ?_;rintro e w1 ⟨rfl,hb⟩;replace hB:=aB hB (n_ _) hb;replace fz:=fun j=>aE hb h0 (fz j);replace r0:=aA hb r0;replace r1:=aA hb r1;replace r2:=aA hb r2;replace h0:=Nat.lt_of_lt_of_le h0 hb.size;clear hb;have s0:(((w1.setCell ⟨w.heap.size,0,none⟩ (.string ⟨#[]⟩)).setCell ⟨w.heap.size,1,none⟩ (.string ⟨#[]⟩)).setCell ⟨w.heap.size,2,none⟩ (.bool false)).cell? ⟨w.heap.size,0,none⟩=some (.string ⟨#[]⟩):=by simp[go_sem,r0]
 have s1:(((w1.setCell ⟨w.heap.size,0,none⟩ (.string ⟨#[]⟩)).setCell ⟨w.heap.size,1,none⟩ (.string ⟨#[]⟩)).setCell ⟨w.heap.size,2,none⟩ (.bool false)).cell? ⟨w.heap.size,1,none⟩=some (.string ⟨#[]⟩):=by simp[go_sem,r1]
 have s2:(((w1.setCell ⟨w.heap.size,0,none⟩ (.string ⟨#[]⟩)).setCell ⟨w.heap.size,1,none⟩ (.string ⟨#[]⟩)).setCell ⟨w.heap.size,2,none⟩ (.bool false)).cell? ⟨w.heap.size,2,none⟩=some (.bool false):=by simp[go_sem,r2]
 have hS:=((hB.setCell (p:=⟨w.heap.size,0,none⟩) (n_ _) (.string ⟨#[]⟩)).setCell (p:=⟨w.heap.size,1,none⟩) (n_ _) (.string ⟨#[]⟩)).setCell (p:=⟨w.heap.size,2,none⟩) (n_ _) (.bool false);go_wp2;generalize (((w1.setCell ⟨w.heap.size,0,none⟩ (.string ⟨#[]⟩)).setCell ⟨w.heap.size,1,none⟩ (.string ⟨#[]⟩)).setCell ⟨w.heap.size,2,none⟩ (.bool false))=Y at *;have hX:=a_ Y (o_ #[.string ⟨#[]⟩,v_ ⟨#[]⟩,Value.bool false] 133);have k0:=aA hX s0;have k1:=aA hX s1;have k2:=aA hX s2;exact bodyPost_ret (v:=nL) (by simp[nL,errV,results,Tryz.results318,go_sem,k0,k1,k2]) rfl ⟨rfl,aB hS (n_ _) hX⟩
theorem zB9 (s:ByteArray) (c:Chg) (w:World) (hk:c.key.size<=maxLen) (fa:Nat) (hf:aD c=fa) (hfa:fa≠0)
  (HS:∀ w',Calls p_ 336 #[.string s] w' fun e w''=>e=.returned (.tuple #[.agg #[.string c.key,.string c.val,.bool c.gone],.bool true])/\Below w'.heap.size w' w''):
  Calls p_ 318 #[.string s] w fun e w'=>e=.returned nL/\Below w.heap.size w w':=by
 have HK:=fun w'=>hide (gB c w' hk);rw[hf] at HK;replace HS:=fun w'=>hide (HS w');go_enter Tryz.func318,Tryz.ntmps318;have hB:=a_ w (o_ #[.string ⟨#[]⟩,v_ ⟨#[]⟩,Value.bool false] 133);have fz:=aQ w #[v_ ⟨#[]⟩,v_ ⟨#[]⟩,Value.bool false] 133;have h0:w.heap.size<(w.alloc (o_ #[.string ⟨#[]⟩,v_ ⟨#[]⟩,Value.bool false] 133)).heap.size:=by simp
 have r0:(w.alloc (o_ #[.string ⟨#[]⟩,v_ ⟨#[]⟩,Value.bool false] 133)).cell? ⟨w.heap.size,0,none⟩=some (.string ⟨#[]⟩):=by simp
 have r1:(w.alloc (o_ #[.string ⟨#[]⟩,v_ ⟨#[]⟩,Value.bool false] 133)).cell? ⟨w.heap.size,1,none⟩=some (.string ⟨#[]⟩):=by simp
 have r2:(w.alloc (o_ #[.string ⟨#[]⟩,v_ ⟨#[]⟩,Value.bool false] 133)).cell? ⟨w.heap.size,2,none⟩=some (.bool false):=by simp
 go_wp2_with fail;refine((HS _).out).mono ?_;rintro e w1 ⟨rfl,hb⟩;replace hB:=aB hB (n_ _) hb;replace fz:=fun j=>aE hb h0 (fz j);replace r0:=aA hb r0;replace r1:=aA hb r1;replace r2:=aA hb r2;replace h0:=Nat.lt_of_lt_of_le h0 hb.size;clear hb;have hX:=a_ w1 (o_ #[.string c.key,.string c.val,.bool c.gone] 133);have h3:w1.heap.size<(w1.alloc (o_ #[.string c.key,.string c.val,.bool c.gone] 133)).heap.size:=by simp
 have q0:(w1.alloc (o_ #[.string c.key,.string c.val,.bool c.gone] 133)).cell? ⟨w1.heap.size,0,none⟩=some (.string c.key):=by simp
 have q1:(w1.alloc (o_ #[.string c.key,.string c.val,.bool c.gone] 133)).cell? ⟨w1.heap.size,1,none⟩=some (.string c.val):=by simp
 have q2:(w1.alloc (o_ #[.string c.key,.string c.val,.bool c.gone] 133)).cell? ⟨w1.heap.size,2,none⟩=some (.bool c.gone):=by simp
 go_wp2_with fail;refine((HK _).out).mono ?_;rintro e w2 ⟨rfl,hb⟩;replace hX:=aB hX (n_ _) hb;replace hB:=aB hB (n_ _) hX;replace fz:=fun j=>aE hX h0 (fz j);replace r0:=aA hX r0;replace r1:=aA hX r1;replace r2:=aA hX r2;replace q0:=aA hb q0;replace q1:=aA hb q1;replace q2:=aA hb q2;clear hb hX HS HK h3;simp only[errV,if_neg hfa];go_wp2;exact bodyPost_ret (v:=nL) (by simp[nL,errV,results,Tryz.results318,go_sem,r0,r1,r2]) rfl ⟨rfl,((hB.setCell (n_ _) _).setCell (n_ _) _).setCell (n_ _) _⟩
def rZ (c:Chg):ByteArray:=⟨#[if c.gone then 1 else 0,UInt8.ofNat c.key.size]⟩
theorem zH1 (c:Chg) (w:World) (hk:c.key.size<=1000) (hv:c.val.size<=1000) (f:Nat) (hf:aD c=f):
  Calls p_ 282 #[.agg #[.string c.key,.string c.val,.bool c.gone]] w fun e w'=>e=.returned (.tuple (if f=0 then #[.string (rZ c++c.key++c.val),.nilIface] else #[.string ⟨#[]⟩,errV f]))/\Below w.heap.size w w':=by
 have HK:=fun w'=>hide (gB c w' (by unfold maxLen;omega));rw[hf] at HK;have hB:=a_ w (o_ #[.string c.key,.string c.val,.bool c.gone] 133);have a0:(w.alloc (o_ #[.string c.key,.string c.val,.bool c.gone] 133)).cell? ⟨w.heap.size,0,none⟩=some (.string c.key):=by simp
 have a1:(w.alloc (o_ #[.string c.key,.string c.val,.bool c.gone] 133)).cell? ⟨w.heap.size,1,none⟩=some (.string c.val):=by simp
 have a2:(w.alloc (o_ #[.string c.key,.string c.val,.bool c.gone] 133)).cell? ⟨w.heap.size,2,none⟩=some (.bool c.gone):=by simp
 by_cases h0:f=0
 ·subst h0;simp only[if_true];unfold rZ;generalize c.gone=g at *;cases g
  ·go_enter Tryz.func282,Tryz.ntmps282;go_wp2_with fail;refine((HK _).out).mono ?_;rintro e w1 ⟨rfl,hb⟩;replace hB:=aB hB (n_ _) hb;replace a0:=aA hb a0;replace a1:=aA hb a1;replace a2:=aA hb a2;have m0:=World.new_ne w1 _ a0;have hX:=a_ w1 (o_ #[.int .u8 0,.int .u8 ((c.key.size:Int) % 256)] 5);have x0:=aA hX a0;have x1:=aA hX a1;have x2:=aA hX a2;have hcv:=run_convert_bytes_back (P:=p_) ((w1.alloc (o_ #[.int .u8 0,.int .u8 ((c.key.size:Int) % 256)] 5))) 247 9 5 ⟨w1.heap.size,0,none⟩ 2 [0,UInt8.ofNat c.key.size] Tryz.underlying247 Tryz.underlying5 Tryz.underlying9 (fun j hj=>by
    have hj2:j=0∨j=1:=by simp at hj;omega
    rcases hj2 with rfl|rfl
    ·simp[Addr.add]
    ·simp[Addr.add])
   simp only[List.length_cons,List.length_nil,Nat.zero_add,Nat.reduceAdd] at hcv;have s1:¬9223372036854775807<2+c.key.size:=by omega
   have s2:¬9223372036854775807<2+c.key.size+c.val.size:=by omega
   clear HK hb;simp only[if_true,errV];go_wp2;go_ret2;exact⟨rfl,hB.trans (hX.mono hB.size)⟩
  ·go_enter Tryz.func282,Tryz.ntmps282;go_wp2_with fail;refine((HK _).out).mono ?_;rintro e w1 ⟨rfl,hb⟩;replace hB:=aB hB (n_ _) hb;replace a0:=aA hb a0;replace a1:=aA hb a1;replace a2:=aA hb a2;have m0:=World.new_ne w1 _ a0;have hX:=a_ w1 (o_ #[.int .u8 0,.int .u8 ((c.key.size:Int) % 256)] 5);have x0:=aA hX a0;have x1:=aA hX a1;have x2:=aA hX a2;have hY:=a_ w1 (o_ #[.int .u8 1,.int .u8 ((c.key.size:Int) % 256)] 5);have y0:=aA hY a0;have y1:=aA hY a1;have hcv:=run_convert_bytes_back (P:=p_) (w1.alloc (o_ #[.int .u8 1,.int .u8 ((c.key.size:Int) % 256)] 5)) 247 9 5 ⟨w1.heap.size,0,none⟩ 2 [1,UInt8.ofNat c.key.size] Tryz.underlying247 Tryz.underlying5 Tryz.underlying9 (fun j hj=>by
    have hj2:j=0∨j=1:=by simp at hj;omega
    rcases hj2 with rfl|rfl
    ·simp[Addr.add]
    ·simp[Addr.add])
   simp only[List.length_cons,List.length_nil,Nat.zero_add,Nat.reduceAdd] at hcv;have s1:¬9223372036854775807<2+c.key.size:=by omega
   have s2:¬9223372036854775807<2+c.key.size+c.val.size:=by omega
   clear HK hb;simp only[if_true,errV];go_wp2;go_ret2;exact⟨rfl,hB.trans (hY.mono hB.size)⟩
 ·simp only[if_neg h0];go_enter Tryz.func282,Tryz.ntmps282;go_wp2_with fail;refine((HK _).out).mono ?_;rintro e w1 ⟨rfl,hb⟩;replace hB:=aB hB (n_ _) hb;simp only[if_neg h0,errV];go_wp2;go_ret2;exact⟨by simp[errV,h0],hB⟩
def dI (c:Chg):ByteArray:=rZ c++c.key++c.val
theorem pY (c:Chg):(rZ c).size=2:=rfl
theorem nZ (c:Chg):(dI c).size=2+c.key.size+c.val.size:=by
 rw[dI,ByteArray.size_append,ByteArray.size_append,pY]
theorem zMN (c:Chg) (h:0<(dI c).size):(dI c)[0].toNat=if c.gone then 1 else 0:=by
 simp only[dI,ByteArray.getElem_eq_getElem_data,ByteArray.data_append,rZ,Array.append_assoc];by_cases hg:c.gone=true<;>simp[hg]
theorem zM2 (c:Chg) (h:1<(dI c).size) (hk:c.key.size<=255):(dI c)[1].toNat=c.key.size:=by
 simp only[dI,ByteArray.getElem_eq_getElem_data,ByteArray.data_append,rZ,Array.append_assoc];simp;omega
theorem zKN (c:Chg):(dI c).extract 2 (2+c.key.size)=c.key:=by
 rw[dI,ByteArray.append_assoc];exact(ByteArray.extract_append_size_add' (i:=0) (pY c).symm).trans (ByteArray.extract_append_eq_left rfl)
theorem zK7 (c:Chg):(dI c).extract (2+c.key.size) (dI c).size=c.val:=by
 refine ByteArray.extract_append_eq_right ?_ ?_
 ·rw[ByteArray.size_append,pY]
 ·rw[nZ,ByteArray.size_append,pY]
theorem zBo {k head:List UInt8} (h:jE k head=true):k.length<=head.length+6:=by
 simp only[jE,bK,Bool.and_eq_true,decide_eq_true_eq] at h;obtain⟨h1,⟨_,h2⟩,_⟩:=h;unfold Lib.trimPrefix at h2;rw[if_pos h1,List.length_drop] at h2;omega
theorem zMk {k:List UInt8} (h:keyL k=true):k.length<=15:=by
 simp only[keyL,Bool.or_eq_true] at h;rcases h with h|h|h
 ·have:=zBo h;simp at this;omega
 ·have:=zBo h;simp at this;omega
 ·simp only[kW,nY,bK,sixL,Bool.and_eq_true,decide_eq_true_eq] at h;obtain⟨h1,_,⟨⟨_,h2⟩,_⟩,h3,_⟩:=h;generalize Lib.indexByte _ _=i at *;unfold Lib.trimPrefix at h2 h3;rw[if_pos h1] at h2 h3;simp only[List.length_take,List.length_drop] at h2 h3;simp only[List.length_cons,List.length_nil] at h2 h3;omega
theorem iS {c:Chg} (h:aD c=0):c.key.size<=15/\c.val.size<=40:=by
 unfold aD at h;split at h
 ·cases h
 ·rename_i hk;split at h
  ·cases h
  ·split at h
   ·cases h
   ·rename_i hv;refine⟨?_,by omega⟩;have:=zMk (k:=c.key.data.toList) (by simpa using hk);rwa [fR] at this
end
section
open Go.RowKit Go.Joins
attribute [local go_sem ↓] Go.wp_at_zero Go.wp_at_succ
def rW (n:Nat):List UInt8:=[UInt8.ofNat n,UInt8.ofNat (n / 256),UInt8.ofNat (n / 65536),UInt8.ofNat (n / 16777216)]
def dM (n:Nat):ByteArray:=⟨(rW n).toArray⟩
def bU (t:ByteArray) (i:Nat):Nat:=if h:i<t.size then t[i].toNat else 0
theorem iV {t:ByteArray} {i:Nat} (h:i<t.size):t[i].toNat=bU t i:=by unfold bU;rw[dif_pos h]
theorem oC (t:ByteArray) (i:Nat):bU t i<256:=by
 unfold bU;split
 ·exact UInt8.toNat_lt _
 ·decide
def decL (t:ByteArray) (n:Nat):Option (Nat×ByteArray):=
 if (bU t 0=111∨bU t 0=99)/\((t.extract 1 5).toList==(dM n).toList)=true/\bU t 5<=90 then some (bU t 0,t.extract 6 (6+bU t 5)) else none
def encL (k n:Nat) (d:ByteArray):ByteArray:=⟨#[UInt8.ofNat k]⟩++dM n++⟨#[UInt8.ofNat d.size]⟩++d
theorem nK (n:Nat) (hn:n<=2000000000) (w:World):Calls p_ 278 #[.int .i64 (n:Int)] w fun e w'=>e=.returned (.string (dM n))/\Below w.heap.size w w':=by
 have hcv:=run_convert_bytes_back (P:=p_) (w.alloc (o_ #[.int .u8 ((n:Int) % 256),.int .u8 ((n:Int) / 256 % 256),.int .u8 ((n:Int) / 65536 % 256),.int .u8 ((n:Int) / 16777216)] 5)) 247 9 5 ⟨w.heap.size,0,none⟩ 4 (rW n) Tryz.underlying247 Tryz.underlying5 Tryz.underlying9 (fun j hj=>by
  have hj2:j=0∨j=1∨j=2∨j=3:=by simp[rW] at hj;omega
  rcases hj2 with rfl|rfl|rfl|rfl<;>simp[Addr.add,rW]<;>omega)
 have HB:=hide (a_ w (o_ #[.int .u8 ((n:Int) % 256),.int .u8 ((n:Int) / 256 % 256),.int .u8 ((n:Int) / 65536 % 256),.int .u8 ((n:Int) / 16777216)] 5));have hl:(rW n).length=4:=rfl;rw[hl] at hcv;clear hl;have hn0:(0:Int)<=(n:Int):=by omega
 have hn1:(n:Int)<=2000000000:=by omega
 unfold dM;generalize (rW n)=fl at *;go_enter Tryz.func278,Tryz.ntmps278;go_wp2;go_ret;exact⟨rfl,HB.out⟩
theorem wQ (t:ByteArray) (n:Nat) (hn:n<=2000000000) (h96:t.size=96) (hd:decL t n=none) (w:World):Calls p_ 240 #[.string t,.int .i64 (n:Int)] w fun e w'=>e=.returned (.tuple #[.int .u8 0,.string ⟨#[]⟩,.bool false])/\Below w.heap.size w w':=by
 have e0:t[0].toNat=bU t 0:=iV (by omega);have e5:t[5].toNat=bU t 5:=iV (by omega);have l0:=oC t 0;have l5:=oC t 5;have HF:=fun w=>hide (nK n hn w);unfold decL at hd;generalize bU t 0=x at *;generalize bU t 5=y at *;by_cases hk:x=111∨x=99
 ·cases hs:((t.extract 1 5).toList==(dM n).toList) with
  | true=>
   have hy:90<y:=by
    have:¬y<=90:=fun h=>by rw[if_pos ⟨hk,hs,h⟩] at hd;cases hd
    omega
   have hy':(90:Int)<(y:Int):=by omega
   clear hd;generalize dM n=ff at *;rcases hk with rfl|rfl
   all_goals
    go_enter Tryz.func240,Tryz.ntmps240;go_wp2_with fail;have hne:=OnW.some w;refine dE (by kernel_rfl) (by kernel_rfl) ?_
    repeat (go_big_quiet_step ((go_at_call 278;exact fF (HF _).out)))
    refine wpQuiet_nil ?_;intro w2 hw2;replace hw2:=jG hw2;have HB:=hide hw2;clear hw2;go_wp2;go_ret3;exact⟨rfl,HB.out⟩
  | false=>
   clear hd;generalize dM n=ff at *;rcases hk with rfl|rfl
   all_goals
    go_enter Tryz.func240,Tryz.ntmps240;go_wp2_with fail;have hne:=OnW.some w;refine dE (by kernel_rfl) (by kernel_rfl) ?_
    repeat (go_big_quiet_step ((go_at_call 278;exact fF (HF _).out)))
    refine wpQuiet_nil ?_;intro w2 hw2;replace hw2:=jG hw2;have HB:=hide hw2;clear hw2;go_wp2;go_ret3;exact⟨rfl,HB.out⟩
 ·have k1:((x:Int)==111)=false:=by simp;omega
  have k2:((x:Int)==99)=false:=by simp;omega
  have k3:¬x=111:=by omega
  have k4:¬x=99:=by omega
  have k5:¬(x:Int)=111:=by omega
  have k6:¬(x:Int)=99:=by omega
  have k7:((x:Int) != 111)=true:=by simp;omega
  have k8:((x:Int) != 99)=true:=by simp;omega
  clear hd hk;generalize dM n=ff at *;go_enter Tryz.func240,Tryz.ntmps240;go_wp2_with fail;have hne:=OnW.some w;refine dE (by kernel_rfl) (by kernel_rfl) ?_
  repeat (go_big_quiet_step ((go_at_call 278;exact fF (HF _).out)))
  refine wpQuiet_nil ?_;intro w2 hw2;replace hw2:=jG hw2;have HB:=hide hw2;clear hw2;go_wp2;go_ret3;exact⟨rfl,HB.out⟩
theorem wL (t:ByteArray) (n k:Nat) (d:ByteArray) (hn:n<=2000000000) (h96:t.size=96) (hd:decL t n=some (k,d)) (w:World):Calls p_ 240 #[.string t,.int .i64 (n:Int)] w fun e w'=>e=.returned (.tuple #[.int .u8 (k:Int),.string d,.bool true])/\Below w.heap.size w w':=by
 have e0:t[0].toNat=bU t 0:=iV (by omega);have e5:t[5].toNat=bU t 5:=iV (by omega);have l0:=oC t 0;have l5:=oC t 5;have HF:=fun w=>hide (nK n hn w);unfold decL at hd;generalize bU t 0=x at *;generalize bU t 5=y at *;split at hd
 case isFalse=>cases hd
 case isTrue h=>
  obtain⟨hk,hs,hy⟩:=h;simp only[Option.some.injEq,Prod.mk.injEq] at hd;obtain⟨rfl,rfl⟩:=hd;have hy':(y:Int)<=90:=by omega
  have hy0:(0:Int)<=(y:Int):=by omega
  generalize dM n=ff at *;rcases hk with rfl|rfl
  all_goals
   go_enter Tryz.func240,Tryz.ntmps240;go_wp2_with fail;have hne:=OnW.some w;refine dE (by kernel_rfl) (by kernel_rfl) ?_
   repeat (go_big_quiet_step ((go_at_call 278;exact fF (HF _).out)))
   refine wpQuiet_nil ?_;intro w2 hw2;replace hw2:=jG hw2;have HB:=hide hw2;clear hw2;go_wp2;go_quiet (fail);go_wp2;go_ret3;exact⟨rfl,below_drewN HB.out _⟩
end
section
open Go.RowKit Go.Joins
def zLI:Chg:=⟨⟨#[]⟩,⟨#[]⟩,false⟩
def cutC (s:ByteArray):Chg:=⟨s.extract 2 (2+bU s 1),s.extract (2+bU s 1) s.size,(bU s 0:Int)==1⟩
def gI (s:ByteArray):Nat:=if s.size<2∨1<bU s 0∨s.size<2+bU s 1∨aD (cutC s)≠0 then 4 else 0
def gY (s:ByteArray):Chg:=if gI s=0 then cutC s else zLI
theorem zBN (s:ByteArray) (hs:s.size<=300) (w:World):Calls p_ 318 #[.string s] w fun e w'=>e=.returned (.tuple #[.agg #[.string (gY s).key,.string (gY s).val,.bool (gY s).gone],errV (gI s)])/\Below w.heap.size w w':=by
 have bad:gI s=4->gY s=zLI:=fun e=>by unfold gY;rw[e,if_neg (by decide)]
 by_cases h2:s.size<2
 ·have e:gI s=4:=if_pos (.inl h2);rw[bad e,e];exact vF s w fun w'=>zE1 s w' h2
 ·have h2':2<=s.size:=by omega
  have b0:s[0].toNat=bU s 0:=iV (by omega);have b1:s[1].toNat=bU s 1:=iV (by omega);by_cases h1:1<bU s 0
  ·have e:gI s=4:=if_pos (.inr (.inl h1));rw[bad e,e];exact vF s w fun w'=>zGA s w' h2' _ rfl (by rw[b0];exact h1)
  ·have hy:=oC s 1;by_cases hl:s.size<2+bU s 1
   ·have e:gI s=4:=if_pos (.inr (.inr (.inl hl)));rw[bad e,e];exact vF s w fun w'=>zIt s w' h2' _ _ b0 b1 (by omega) hl (by omega)
   ·have hS:=fun w'=>zFw s w' h2' (by omega) _ _ b0 b1 (by omega) (by omega);have hg:decide (bU s 0=1)=((bU s 0:Int)==1):=by rw[Bool.eq_iff_iff];simp;omega
    rw[hg] at hS;have hk:(cutC s).key.size<=maxLen:=by unfold cutC maxLen;simp;omega
    by_cases h0:aD (cutC s)=0
    ·have e:gI s=0:=if_neg (by rintro(h|h|h|h)<;>contradiction);have e2:gY s=cutC s:=if_pos e;rw[e2,e];exact zGa s (cutC s) w hk h0 fun w'=>hS w'
    ·have e:gI s=4:=if_pos (.inr (.inr (.inr h0)));rw[bad e,e];exact zB9 s (cutC s) w hk _ rfl h0 fun w'=>hS w'
theorem zIk (c:Chg) (hf:aD c=0):gI (dI c)=0/\gY (dI c)=c:=by
 obtain⟨hk,hv⟩:=iS hf;have hs:=nZ c;have h0:0<(dI c).size:=by omega
 have h1:1<(dI c).size:=by omega
 have b0:bU (dI c) 0=if c.gone then 1 else 0:=(iV h0).symm.trans (zMN c h0);have b1:bU (dI c) 1=c.key.size:=(iV h1).symm.trans (zM2 c h1 (by omega));have e:cutC (dI c)=c:=by
  unfold cutC;rw[b1,zKN,zK7,b0]
  cases c with
  | mk k v g=>cases g<;>rfl
 have ef:gI (dI c)=0:=by
  refine if_neg ?_;rw[e,b0,b1];rintro(h|h|h|h)
  ·omega
  ·split at h<;>omega
  ·omega
  ·exact h hf
 exact⟨ef,by unfold gY;rw[ef,if_pos rfl,e]⟩
theorem qS:(Tryz.prog.info? 133).map (fun i=>(i.zero,i.size,i.bytes))=some (some (.agg #[.string ⟨#[]⟩,.string ⟨#[]⟩,.bool false]),3,40):=by kernel_rfl
theorem zDA:∃ i,Tryz.prog.info? 133=some i/\i.zero=some (.agg #[.string ⟨#[]⟩,.string ⟨#[]⟩,.bool false])/\i.size=3/\i.bytes=40:=info_parts qS
theorem zKg (n:Nat) (w:World) (h1:1<=n) (h2:n<=1000000):
  Calls p_ 271 #[.slice none 0 0,.int .i64 n] w fun e w'=>
   ∃ v,e=.returned v/\w'.ownsRow w.heap.size 133 3 v 0 []/\w.grownBy w' none/\(∃ g cap,v=.slice (some ⟨g,0,none⟩) 0 cap):=by
 obtain⟨i0,hi0,hz0,hs0,hb0⟩:=zDA;have hold:(Builtin.firstCells i0.size 0 (.slice none 0 0)).run p_ w.drew=.ok ([]:List Value).toArray w.drew:=run_firstCells_none w.drew i0.size 0 0 0;have hrz:=fun ty=>Lib.run_append_grow_zeros (P:=p_) w 36 3 ty 133 i0 _ .i64 .i64 Tryz.underlying36 Tryz.underlying3 hi0 hz0 none 0 0 [] hold n (by omega) (by omega) (by omega) (by omega)
   (by rw[hb0];omega)
   (growslice_fits (by omega) (by rw[hb0];omega))
 simp only[Nat.zero_add] at hrz;have hG:=grownCap_ge w n 0 133;have hM:=grownCap_le_maxLen w n 0 133 (by unfold maxLen;omega);generalize grownCap w n 0 133=G at hrz hG hM;generalize hC:(([]:List Value).toArray++Builtin.zeroCells (Value.agg #[.string ⟨#[]⟩,.string ⟨#[]⟩,.bool false]).cells n++Builtin.zeroCells (Value.agg #[.string ⟨#[]⟩,.string ⟨#[]⟩,.bool false]).cells (G-n))=C at hrz;have hCs:C.size=G*3:=by
  rw[<-hC];simp only[Array.size_append,size_zeroCells];have:(Value.agg #[.string ⟨#[]⟩,.string ⟨#[]⟩,.bool false]).cells.size=3:=rfl;rw[this];simp;omega
 have HM:=hide hM;clear hC hi0 hz0 hs0 hb0 hold hM;have hG63:G<=9223372036854775807:=by have:=HM.out;unfold maxLen at this;omega
 go_enter Tryz.func271,Tryz.ntmps271;go_wp2_with (at_builtin;refine Lib.wpList_append_run _ rfl _ _ _ _ rfl _ _ rfl rfl _ _ (hrz _) ?_)
 go_ret;refine⟨_,rfl,⟨by simp,Or.inr ⟨w.heap.size,G,C,rfl,n_ _,?_,Nat.zero_le _,HM.out,hCs,by simp⟩⟩,⟨rfl,rfl,rfl,by simp,fun k hk _=>?_⟩,⟨_,_,rfl⟩⟩
 ·exact Go.heap_alloc_new w _
 ·exact Below.heap_alloc w _ k hk
def nR (w:World) (ao:Option Addr) (m c:Nat) (news:List Value):Prop:=
 news.length=m*3/\(∀ u∈news,u.oneCell'=true)/\((ao=none/\m=0/\c=0)∨∃ a,ao=some a/\∀ j u,news[j]?=some u->w.cell? (a.add j)=some u)
theorem xP {w w':World} {ao:Option Addr} {m c:Nat} {news:List Value} (hb:Below w.heap.size w w') (h:nR w ao m c news):nR w' ao m c news:=by
 obtain⟨h1,h2,h3⟩:=h;refine⟨h1,h2,?_⟩;rcases h3 with h|⟨a,e,h⟩
 ·exact Or.inl h
 ·exact Or.inr ⟨a,e,fun j u hj=>aA hb (h j u hj)⟩
theorem sY (B:Nat) (v:Value) (n:Nat) (xs:List Value) (w:World) (hown:w.ownsRow B 133 3 v n xs) (hB:B<=w.heap.size) (ao:Option Addr) (m c:Nat) (news:List Value) (h:nR w ao m c news) (hs:n+m<=1000000) (ty:TypeId):
  ∃ v' w',(Builtin.append_ #[36,36] ty #[v,.slice ao m c]).run p_ w=.ok v' w'/\w'.ownsRow B 133 3 v' (n+m) (xs++news)/\w.grownBy w' v.ownBlock:=by
 obtain⟨i0,hi0,hz0,hs0,hb0⟩:=zDA;obtain⟨h1,h2,h3⟩:=h;rcases h3 with⟨rfl,rfl,rfl⟩|⟨a,rfl,h⟩
 ·have hnil:news=[]:=List.length_eq_zero_iff.1 (by omega);subst hnil;refine⟨v,w,run_append_owned_none w B _ ty _ i0 3 Tryz.underlying36 hi0 v n xs hown,by simpa using hown,⟨rfl,rfl,rfl,n_ _,fun _ _ _=>rfl⟩⟩
 ·obtain⟨v',w',hr,ho,hg,_⟩:=run_append_own (P:=p_) (w:=w) B 36 ty 133 i0 _ 3 40 Tryz.underlying36 hi0 hz0 hs0 hb0 rfl (by omega) v n xs hown a m c news h1 h h2 (by unfold maxLen;omega) (by omega) hB;exact⟨v',w',hr,ho,hg⟩
theorem rE {B:Nat} {w0 w w':World} {v:Value} {e:TypeId} {n:Nat} {xs:List Value} (hB:Below B w0 w) (hw:B<=w.heap.size) (hown:w.ownsRow B e 3 v n xs) (hg:w.grownBy w' v.ownBlock):Below B w0 w':=
 hB.grown hg hw (fun k hk=>(hown.lt k hk).1)
theorem zG (gb:Nat) (a1 a2 a3:Option Addr) (m1 m2 m3 c1 c2 c3:Nat) (n1 n2 n3:List Value) (w:World)
  (g0:w.cell? ⟨gb,0,none⟩=some (.slice a1 m1 c1)) (g1:w.cell? ⟨gb,1,none⟩=some (.slice a2 m2 c2)) (g2:w.cell? ⟨gb,2,none⟩=some (.slice a3 m3 c3))
  (s1:nR w a1 m1 c1 n1) (s2:nR w a2 m2 c2 n2) (s3:nR w a3 m3 c3 n3) (hm:1<=m1+m2+m3) (hM:m1+m2+m3<=1000000):
  Calls p_ 231 #[.slice (some ⟨gb,0,none⟩) 3 3] w fun e w'=>
   ∃ v,e=.returned v/\w'.ownsRow w.heap.size 133 3 v (m1+m2+m3) (n1++n2++n3)/\Below w.heap.size w w':=by
 go_enter Tryz.func231,Tryz.ntmps231;go_wp2;refine wp_loop_rounds 4 ?_;rw[rounds_succ];go_wp2;rw[rounds_succ];go_wp2;rw[rounds_succ];go_wp2;rw[rounds_succ];go_wp2_with fail;rw[show((m1:Int)+(m2:Int)+(m3:Int))=((m1+m2+m3:Nat):Int) from by omega];refine(zKg _ _ hm hM).mono ?_;rintro e w1 ⟨v,rfl,hown,hg,_⟩;have hB1:Below w.heap.size w w1:=(r_ _ _).grown hg (n_ _) (fun k hk=>by cases hk);obtain⟨v1,w2,hr1,ho1,hg1⟩:=sY w.heap.size v 0 [] w1 hown hB1.size a1 m1 c1 n1 (xP hB1 s1) (by omega) 36;have hB2:=rE hB1 hB1.size hown hg1;obtain⟨v2,w3,hr2,ho2,hg2⟩:=sY w.heap.size v1 (0+m1) ([]++n1) w2 ho1 hB2.size a2 m2 c2 n2 (xP hB2 s2) (by omega) 36;have hB3:=rE hB2 hB2.size ho1 hg2;obtain⟨v3,w4,hr3,ho3,hg3⟩:=sY w.heap.size v2 (0+m1+m2) ([]++n1++n2) w3 ho2 hB3.size a3 m3 c3 n3 (xP hB3 s3) (by omega) 36;have hB4:=rE hB3 hB3.size ho2 hg3;have k0:=aA hB1 g0;have k1:=aA hB2 g1;have k2:=aA hB3 g2;have HO:=hide ho3;have HB:=hide hB4;clear hown hg ho1 hg1 ho2 hg2 ho3 hg3 hB1 hB2 hB3 hB4 s1 s2 s3 g0 g1 g2;go_wp2;refine wp_loop_rounds 4 ?_;rw[rounds_succ];go_wp2_with (at_builtin;refine Lib.wpList_append_run _ rfl _ _ _ _ rfl _ _ rfl rfl _ _ hr1 ?_)
 rw[rounds_succ];go_wp2_with (at_builtin;refine Lib.wpList_append_run _ rfl _ _ _ _ rfl _ _ rfl rfl _ _ hr2 ?_)
 rw[rounds_succ];go_wp2_with (at_builtin;refine Lib.wpList_append_run _ rfl _ _ _ _ rfl _ _ rfl rfl _ _ hr3 ?_)
 rw[rounds_succ];go_wp2;go_ret;exact⟨v3,rfl,by simpa using HO.out,HB.out⟩
end
section
open Go.RowKit Go.Joins Go.WideShapes
def bN (c:Chg):List Value:=[.string c.key,.string c.val,.bool c.gone]
def cG (l:List Chg):List Value:=l.flatMap bN
theorem tF (l:List Chg):(cG l).length=l.length*3:=by
 induction l with
 | nil=>rfl
 | cons c l ih=>rw[cG,List.flatMap_cons,List.length_append];show 3+(cG l).length=_;rw[ih,List.length_cons];omega
theorem tJ (a b:List Chg):cG (a++b)=cG a++cG b:=by simp[cG]
theorem pF (l:List Chg):∀ u∈cG l,u.oneCell'=true:=by
 intro u hu;rw[cG,List.mem_flatMap] at hu;obtain⟨c,_,hc⟩:=hu;simp only[bN,List.mem_cons,List.not_mem_nil,or_false] at hc;rcases hc with rfl|rfl|rfl<;>rfl
theorem zCm {w:World} {b:Nat} (l:List Chg):∀ (off:Nat),dG w b off l->∀ j u,(cG l)[j]?=some u->w.cell? ⟨b,off+j,none⟩=some u:=by
 induction l with
 | nil=>intro off _ j u h;simp[cG] at h
 | cons c l ih=>
  intro off h j u hu;have h0:=h 0 (by simp);simp only[Nat.zero_mul,Nat.add_zero,List.getElem_cons_zero] at h0;have ht:dG w b (off+3) l:=fun i hi=>by
   have:=h (i+1) (by simp;omega);simp only[List.getElem_cons_succ] at this;have e:off+(i+1)*3=off+3+i*3:=by omega
   rw[e] at this;exact this
  rw[cG,List.flatMap_cons] at hu
  match j,hu with
  | 0,hu=>simp[bN] at hu;rw[<-hu];exact h0.1
  | 1,hu=>simp[bN] at hu;rw[<-hu];exact h0.2.1
  | 2,hu=>simp[bN] at hu;rw[<-hu];exact h0.2.2
  | j+3,hu=>
   rw[List.getElem?_append_right (by simp[bN])] at hu;simp only[bN,List.length_cons,List.length_nil,Nat.zero_add,Nat.reduceAdd,Nat.add_sub_cancel] at hu;have:=ih (off+3) ht j u hu;have e:off+3+j=off+(j+3):=by omega
   rw[e] at this;exact this
theorem eW {w:World} {b:Nat} (l:List Chg):∀ (off:Nat),(∀ j u,(cG l)[j]?=some u->w.cell? ⟨b,off+j,none⟩=some u)->dG w b off l:=by
 induction l with
 | nil=>intro off _ i hi;simp at hi
 | cons c l ih=>
  intro off h i hi;have g:∀ j u,(bN c++cG l)[j]?=some u->w.cell? ⟨b,off+j,none⟩=some u:=fun j u hu=>h j u (by rw[cG,List.flatMap_cons];exact hu)
  match i with
  | 0=>
   simp only[Nat.zero_mul,Nat.add_zero,List.getElem_cons_zero];exact⟨g 0 _ rfl,g 1 _ rfl,g 2 _ rfl⟩
  | i+1=>
   have t:=ih (off+3) (fun j u hu=>by
    have:=g (j+3) u (by rw[List.getElem?_append_right (by simp[bN])];simpa[bN] using hu);have e:off+(j+3)=off+3+j:=by omega
    rw[e] at this;exact this) i (by simpa using hi)
   have e:off+(i+1)*3=off+3+i*3:=by omega
   rw[e];exact t
theorem zEw {w:World} {b off:Nat} {l:List Chg} (h:dG w b off l) (k:Nat):dG w b off (l.take k):=fun i hi=>by
 have hi':i<l.length:=by rw[List.length_take] at hi;omega
 have:=h i hi';simpa using this
theorem zED {w:World} {b off:Nat} {l:List Chg} (h:dG w b off l) (k:Nat):dG w b (off+k*3) (l.drop k):=fun i hi=>by
 have hi':k+i<l.length:=by rw[List.length_drop] at hi;omega
 have:=h (k+i) hi';have e:off+(k+i)*3=off+k*3+i*3:=by omega
 rw[e] at this;simpa using this
theorem zL {w:World} {b off:Nat} {l:List Chg} (h:dG w b off l) (c:Nat):nR w (some ⟨b,off,none⟩) l.length c (cG l):=
 ⟨tF l,pF l,Or.inr ⟨_,rfl,fun j u hj=>by rw[add_plain];exact zCm l off h j u hj⟩⟩
theorem zCX (w:World):nR w none 0 0 (cG []):=⟨rfl,pF [],Or.inl ⟨rfl,rfl,rfl⟩⟩
theorem zIx (w:World) (a:Addr) (c:Nat):nR w (some a) 0 c (cG []):=⟨rfl,pF [],Or.inr ⟨a,rfl,fun j u hj=>by simp[cG] at hj⟩⟩
def bO (w:World) (B:Nat) (v:Value) (l:List Chg):Prop:=w.ownsRow B 133 3 v l.length (cG l)
theorem dJ {w:World} {B B':Nat} {v:Value} {l:List Chg} (h:bO w B v l) (hb:B'<=B):bO w B' v l:=ownsRow_le h hb
theorem zDr {w:World} {B:Nat} {v:Value} {l:List Chg} (h:w.ownsRow B 133 3 v l.length (cG l)) (hn:0<l.length):
  ∃ g cap,v=.slice (some ⟨g,0,none⟩) l.length cap/\B<=g/\dG w g 0 l:=by
 obtain⟨g,cap,rfl⟩:=ownsRow_form h hn;refine⟨g,cap,rfl,(h.lt g rfl).1,eW l 0 fun j u hj=>?_⟩;have:=h.cells (g:=g) rfl j u hj;rwa [add_plain] at this
end
end Go.Proofs.YtnboipekkahmnaaGreatDoor
