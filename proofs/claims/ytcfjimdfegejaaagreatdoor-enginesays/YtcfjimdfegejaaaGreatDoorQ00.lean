import Derived.Shelf.Small.Bits
import Derived.Shelf.Small.Strs
import Derived.Shelf.Small.Wraps
import Derived.Shelf.Strconv.Itoa3
import Derived.Shelf.Strconv.ErrVarAll
import Derived.Shelf.Strings.Shaped
import Derived.Shelf.Strings.LastIndex
import Derived.Shelf.Strings.Repeat
import Derived.Shelf.Strings.BuilderCap
import Derived.WalkSpells
import Derived.WalkLawsBesides
import Derived.Lib.SmallJoins
import Derived.Deep.RegionHeld3
import Derived.Deep.DrawnRows
import Derived.Lib.MinMaxS
import Derived.Lib.AppendZerosOnto
import Derived.Laws.CopyOwn
import Derived.Deep.AppendLies
import Derived.RangeFuncNested
import Derived.RangeFuncBound
import Derived.Shelf.RegionOpen
import Derived.OwnWalkIn
import Derived.LoopNIn
import Derived.LoopIn
import Derived.Shelf.Spec.SlicesInsert
import Derived.Test.YtcfjimdfegejaaaGreatDoorRows
set_option maxHeartbeats 8000000
set_option maxRecDepth 100000
namespace Go.Proofs.YtcfjimdfegejaaaGreatDoor
open IntKind renaming u8→U4
open World renaming cell?_of_block→b_,cell?_setCell_other→t_,cell?_setCell_same→u_
open Go.RowKit.Below renaming heap_setCell→h_,refl→r_
open Nat renaming le_refl→n_
open Go.Proofs.Tryz renaming prog→p_
open Value renaming string→v_,int→i_
open IntKind renaming i64→k_
open Go.Joins renaming below_alloc1→a_
abbrev BA:=ByteArray
abbrev CX (a b:Int) (c:ByteArray):Obj:=.cells #[.int .i64 a,.int .i64 b,.string c] 118
abbrev DX :Obj:=.cells #[.int .i64 0,.int .i64 0,.int .i64 0,.string ⟨#[]⟩] 108
abbrev EX (a b c:Int) (d:ByteArray):Obj:=.cells #[.int .i64 a,.int .i64 b,.int .i64 c,.string d] 108
abbrev FX (a b:ByteArray) (c:Bool):Obj:=.cells #[.string a,.string b,.bool c] 99
abbrev GX (a b:ByteArray):Obj:=.cells #[.string a,.string b] 128
abbrev IX (a b c:Int):Obj:=.cells #[.int k_ a,.int k_ b,.int k_ c] 157
abbrev JX :Obj:=.cells #[.int k_ 0,.int k_ 0,.int k_ 0] 157
abbrev KX (a:Int):Obj:=.cells #[.int .u8 a] 5
abbrev LX (a:ByteArray) (b c d e:Int) (f g:ByteArray) (h:Option Addr) (i j:Nat) (k:Option Addr) (l m:Nat):Obj:=.cells #[.string a,.int .i64 b,.int .i64 c,.int .i64 d,.int .u64 e,.string f,.string g,.slice h i j,.slice k l m] 39
abbrev MX (a b:ByteArray):Obj:=.cells #[.string a,.string b] 142
abbrev OX :Obj:=.cells #[.string ⟨#[]⟩,.string ⟨#[]⟩,.bool false] 99
abbrev PX (a:ByteArray):Obj:=.cells #[.string a] 9
abbrev QX (a b:Option Addr) (c d:Nat):Obj:=.cells #[.pointer a,.slice b c d] 294
abbrev RX :Obj:=.cells #[.int .i64 0,.int .i64 0,.string ⟨#[]⟩] 118
abbrev SX (a b c:Option Addr):Obj:=.cells #[.pointer a,.slice b 1 1,.slice c 1 1,.pointer none,.pointer none,.pointer none,.pointer none] 54
abbrev TX (a b:ByteArray):Obj:=.cells #[.string a,.string b,.bool false] 99
abbrev UX (a b:Int) (c:ByteArray):Obj:=.cells #[.int .i64 a,.int .i64 0,.int .i64 b,.string c] 108
abbrev VX (a:Option Addr):Obj:=.cells #[.pointer a] 59
abbrev WX (a:Int) (b:ByteArray) (c:Bool):Obj:=.cells #[.int .i64 a,.string b,.bool c] 192
abbrev XX (a:Option Addr) (b c d:Int):Obj:=.cells #[.pointer a,.int .i64 b,.int .i64 c,.int .i64 d,.int .i64 0] 296
abbrev YX :Obj:=.cells #[.int k_ 96] 3
abbrev ZX (a:Int):Obj:=.cells #[.int k_ a] 3
abbrev AY (a:Option Addr):Obj:=.cells #[.slice none 0 0,.slice a 1 1,.slice none 0 0] 36
abbrev BY (a:Int):Obj:=.cells #[.int .i64 a] 3
abbrev CY :Obj:=.cells #[.string ⟨#[]⟩,.string ⟨#[]⟩] 142
abbrev DY (a b c d:Int):Obj:=.cells #[.int U4 a,.int U4 b,.int U4 c,.int U4 d] 5
abbrev EY (a:Option Addr):Obj:=.cells #[.pointer a] 25
abbrev FY (a:Option Addr) (b c:Nat):Obj:=.cells #[.slice a b c] 226
abbrev GY (a b c:Int):Obj:=.cells #[.int .i64 a,.int .i64 b,.int .i64 c] 157
abbrev IY (a:Option Addr) (b c:Nat) (d e:Option Addr) (f g:Nat):Obj:=.cells #[.slice a b c,.slice d 1 1,.slice e f g] 36
abbrev JY (a:Int):Obj:=.cells #[.int .i64 a,.slice none 0 0] 163
abbrev KY :Obj:=.cells #[.slice none 0 0] 97
abbrev LY (a b:Option Addr):Obj:=.cells #[.pointer a,.pointer b,.slice none 0 0,.pointer none,.pointer none,.pointer none,.pointer none] 87
abbrev MY (a b c d:Int):Obj:=.cells #[.int .u8 a,.int .u8 b,.int .u8 c,.int .u8 d] 5
abbrev NY (a:Int):Obj:=.cells #[.int .u8 0,.int .u8 a] 5
abbrev OY (a:Option Addr) (b c:Nat):Obj:=.cells #[.slice a b c] 37
abbrev PY (a:ByteArray):Obj:=.cells #[.int .i64 0,.string a,.bool false] 192
abbrev QY (a:Option Addr) (b c:Nat):Obj:=.cells #[.slice a b c] 32
abbrev RY :Obj:=.cells #[.pointer none,.slice none 0 0] 249
abbrev SY (a:Int):Obj:=.cells #[.int .u8 1,.int .u8 a] 5
end Go.Proofs.YtcfjimdfegejaaaGreatDoor
namespace Go.Proofs
open World renaming cell?_of_block→b_,cell?_setCell_other→t_,cell?_setCell_same→u_
open Go.RowKit.Below renaming heap_setCell→h_,refl→r_
open Nat renaming le_refl→n_
open Go.Proofs.Tryz renaming prog→p_
open Value renaming string→v_,int→i_
open IntKind renaming i64→k_
open Go.Joins renaming below_alloc1→a_
section
open Go.Shelf
def Tryz.lays103_ren:Go.Shelf.Ren:=⟨fun|103=>201|210=>241|206=>262|n=>n,fun|9=>9|4=>4|24=>149|3=>3|n=>n,fun|n=>n⟩
theorem Tryz.lays103:Go.Proofs.Lays.n103 p_ Tryz.lays103_ren:={
 mixed:=by kernel_rfl
 f103:=Tryz.func201.trans (congrArg some (by kernel_rfl))
 f206:=Tryz.func262.trans (congrArg some (by kernel_rfl))
 f210:=Tryz.func241.trans (congrArg some (by kernel_rfl))
 t3:=Tryz.underlying3
 a3:=Tryz.isAgg3
 z3:=Tryz.sizeOf3
 v3:=Tryz.zeroValue3
 t4:=Tryz.underlying4
 a4:=Tryz.isAgg4
 z4:=Tryz.sizeOf4
 v4:=Tryz.zeroValue4
 t9:=Tryz.underlying9
 a9:=Tryz.isAgg9
 z9:=Tryz.sizeOf9
 v9:=Tryz.zeroValue9
 t24:=Tryz.underlying149
 a24:=Tryz.isAgg149
 z24:=Tryz.sizeOf149
 v24:=Tryz.zeroValue149 }
open Go.RowKit in
theorem Tryz.strings_CutPrefix (s p:ByteArray) (w:World):
  Calls p_ 201 #[.string s,.string p] w fun e w'=>e=.returned (.tuple #[.string ⟨(Lib.trimPrefix s.data.toList p.data.toList).toArray⟩,.bool (Lib.hasPrefix s.data.toList p.data.toList)])/\w'=w:=Any.strings_CutPrefix Tryz.lays103 s p w
def Tryz.lays219_ren:Go.Shelf.Ren:=⟨fun|219=>278|217=>303|225=>304|224=>305|267=>306|266=>320|314=>321|n=>n,fun|9=>9|3=>3|4=>4|5=>5|46=>286|146=>337|51=>336|n=>n,fun|1=>0|n=>n⟩
theorem Tryz.lays219:Go.Proofs.Lays.n219 p_ Tryz.lays219_ren:={
 mixed:=by kernel_rfl
 f217:=Tryz.func303.trans (congrArg some (by kernel_rfl))
 f219:=Tryz.func278.trans (congrArg some (by kernel_rfl))
 f224:=Tryz.func305.trans (congrArg some (by kernel_rfl))
 f225:=Tryz.func304.trans (congrArg some (by kernel_rfl))
 f266:=Tryz.func320.trans (congrArg some (by kernel_rfl))
 f267:=Tryz.func306.trans (congrArg some (by kernel_rfl))
 f314:=Tryz.func321.trans (congrArg some (by kernel_rfl))
 t3:=Tryz.underlying3
 a3:=Tryz.isAgg3
 z3:=Tryz.sizeOf3
 v3:=Tryz.zeroValue3
 t4:=Tryz.underlying4
 a4:=Tryz.isAgg4
 z4:=Tryz.sizeOf4
 v4:=Tryz.zeroValue4
 t5:=Tryz.underlying5
 a5:=Tryz.isAgg5
 z5:=Tryz.sizeOf5
 v5:=Tryz.zeroValue5
 t9:=Tryz.underlying9
 a9:=Tryz.isAgg9
 z9:=Tryz.sizeOf9
 v9:=Tryz.zeroValue9
 t46:=Tryz.underlying286
 a46:=Tryz.isAgg286
 z46:=Tryz.sizeOf286
 v46:=Tryz.zeroValue286
 t51:=Tryz.underlying336
 a51:=Tryz.isAgg336
 z51:=Tryz.sizeOf336
 v51:=Tryz.zeroValue336
 t146:=Tryz.underlying337
 a146:=Tryz.isAgg337
 z146:=Tryz.sizeOf337
 v146:=Tryz.zeroValue337
 g1:=by kernel_rfl }
open Go.RowKit Go.Lib in
theorem Tryz.stringslite_Index_one (s:ByteArray) (c:UInt8) (w:World):
  Calls p_ 278 #[.string s,.string ⟨#[c]⟩] w fun e w'=>e=.returned (.int .i64 (Lib.indexByte s.data.toList c))/\w'=w:=Any.stringslite_Index_one Tryz.lays219 s c w
def Tryz.lays170_ren:Go.Shelf.Ren:=⟨fun|170=>173|n=>n,fun|70=>247|3=>3|0=>0|72=>249|37=>226|5=>5|n=>n,fun|n=>n⟩
theorem Tryz.lays170:Go.Proofs.Lays.n170 p_ Tryz.lays170_ren:={
 mixed:=by kernel_rfl
 f170:=Tryz.func173.trans (congrArg some (by kernel_rfl))
 t0:=Tryz.underlying0
 a0:=Tryz.isAgg0
 z0:=Tryz.sizeOf0
 v0:=Tryz.zeroValue0
 t3:=Tryz.underlying3
 a3:=Tryz.isAgg3
 z3:=Tryz.sizeOf3
 v3:=Tryz.zeroValue3
 t37:=Tryz.underlying226
 a37:=Tryz.isAgg226
 z37:=Tryz.sizeOf226
 v37:=Tryz.zeroValue226
 t70:=Tryz.underlying247
 a70:=Tryz.isAgg247
 z70:=Tryz.sizeOf247
 v70:=Tryz.zeroValue247
 t72:=Tryz.underlying249
 a72:=Tryz.isAgg249
 z72:=Tryz.sizeOf249
 v72:=Tryz.zeroValue249 }
def Tryz.lays169_ren:Go.Shelf.Ren:=⟨fun|169=>176|n=>n,fun|70=>247|9=>9|0=>0|72=>249|37=>226|127=>306|3=>3|5=>5|n=>n,fun|n=>n⟩
theorem Tryz.lays169:Go.Proofs.Lays.n169 p_ Tryz.lays169_ren:={
 mixed:=by kernel_rfl
 f169:=Tryz.func176.trans (congrArg some (by kernel_rfl))
 t0:=Tryz.underlying0
 a0:=Tryz.isAgg0
 z0:=Tryz.sizeOf0
 v0:=Tryz.zeroValue0
 t3:=Tryz.underlying3
 a3:=Tryz.isAgg3
 z3:=Tryz.sizeOf3
 v3:=Tryz.zeroValue3
 t9:=Tryz.underlying9
 a9:=Tryz.isAgg9
 z9:=Tryz.sizeOf9
 v9:=Tryz.zeroValue9
 t37:=Tryz.underlying226
 a37:=Tryz.isAgg226
 z37:=Tryz.sizeOf226
 v37:=Tryz.zeroValue226
 t70:=Tryz.underlying247
 a70:=Tryz.isAgg247
 z70:=Tryz.sizeOf247
 v70:=Tryz.zeroValue247
 t72:=Tryz.underlying249
 a72:=Tryz.isAgg249
 z72:=Tryz.sizeOf249
 v72:=Tryz.zeroValue249
 t127:=Tryz.underlying306
 a127:=Tryz.isAgg306
 z127:=Tryz.sizeOf306
 v127:=Tryz.zeroValue306 }
theorem Tryz.Builder_Extra_169:Builder.Extra p_ Tryz.lays169_ren:={
 sizeBuilder:=by kernel_rfl
 liesBuilder:=by kernel_rfl
 t5:=Tryz.underlying5
 a5:=Tryz.isAgg5
 z5:=Tryz.sizeOf5
 v5:=Tryz.zeroValue5
 infoByte:=by kernel_rfl
 cellsByte:=by kernel_rfl
 sizeByte:=by kernel_rfl
 neB5:=by decide }
open Go.RowKit in
theorem Tryz.Builder_Len_f (B b:Nat) (bs:List Value) (w:World) (h:Lib.IsBuilderF 249 5 B b bs w):
  Calls p_ 173 #[.pointer (some ⟨b,0,none⟩)] w fun e w'=>e=.returned (.int .i64 bs.length)/\w'=w:=Any.Builder_Len_f Tryz.lays170 B b bs w h
open Go.RowKit in
theorem Tryz.Builder_String_any_k (B b:Nat) (l:List UInt8) (w:World) (h:Lib.IsBuilderF 249 5 B b (Lib.byteCells l) w) (hBw:B<=w.heap.size):
  Calls p_ 176 #[.pointer (some ⟨b,0,none⟩)] w fun e w'=>e=.returned (.string ⟨l.toArray⟩)/\(Lib.IsBuilderF 249 5 B b (Lib.byteCells l) w'/\Below B w w'/\Lib.OthersKept 5 (some b) w w'):=Any.Builder_String_any_k Tryz.lays169 Tryz.Builder_Extra_169 B b l w h hBw
end
end Go.Proofs
namespace Go.Proofs.YtcfjimdfegejaaaGreatDoor
open Go.Proofs.Tryz
open World renaming cell?_of_block→b_,cell?_setCell_other→t_,cell?_setCell_same→u_
open Go.RowKit.Below renaming heap_setCell→h_,refl→r_
open Nat renaming le_refl→n_
open Go.Proofs.Tryz renaming prog→p_
open Value renaming string→v_,int→i_
open IntKind renaming i64→k_
open Go.Joins renaming below_alloc1→a_
section
open Go.RowKit Go.Joins
theorem aA {W w1:World} {p:Addr} {v:Value} (hb:Below W.heap.size W w1) (h:W.cell? p=some v):w1.cell? p=some v:=cell_later hb h
theorem aB {B:Nat} {w W w1:World} (hB:Below B w W) (hw:B<=w.heap.size) (hb:Below W.heap.size W w1):Below B w w1:=
 hB.trans (hb.mono (Nat.le_trans hw hB.size))
theorem aC (w:World) (C:Array Value) (t:TypeId) (j:Nat):(w.alloc (.cells C t)).cell? ⟨w.heap.size,j,none⟩=C[j]?:=cell_of_block (Go.heap_alloc_new w _) j
theorem aE {W w1:World} {p:Addr} (hb:Below W.heap.size W w1) (hp:p.block<W.heap.size) (h:W.frozen? p=false):w1.frozen? p=false:=(hb.frozen hp).trans h
theorem aQ (w:World) (C:Array Value) (t:TypeId) (j:Nat):(w.alloc (.cells C t)).frozen? ⟨w.heap.size,j,none⟩=false:=unfrozen_of_block (Go.heap_alloc_new w _) j
theorem aa {p:Prop} (h:p):Hid p:=h
theorem bB {a b:Bool} (h:a=b):Ending.returned (.bool a)=.returned (.bool b):=by rw[h]
theorem zFN {a b:ByteArray} (h:a=b):Ending.returned (.string a)=.returned (.string b):=by rw[h]
theorem iJ {k:IntKind} {a b:Int} (h:a=b):Ending.returned (.int k a)=.returned (.int k b):=by rw[h]
structure ad (W:World) where
 w:World
 on:Below W.heap.size W w
theorem ad.cell {W:World} (n:ad W) {p:Addr} {v:Value} (h:W.cell? p=some v):n.w.cell? p=some v:=aA n.on h
theorem ad.some (W:World):Nonempty (ad W):=⟨⟨W,r_ _ _⟩⟩
theorem dE {P:Program} {id:Nat} {Q:Exit->Act->World->Prop} {a:Act} {w:World} {l:List Oper} (hm:P.follows .mixedOrders=true) (hB:Region.lexB .any l.toArray=true)
  (h:wpQuiet P l.toArray (fun w'=>∃ n:ad w,w'=n.w) (fun a'=>∀ w',(∃ n:ad w,w'=n.w)->Q .normal a' w') l a):(Code.region id l.toArray true).wp P Q a w:=
 wp_region_quiet (C:=fun w'=>∃ n:ad w,w'=n.w) hm hB ⟨⟨w.drew,(r_ _ _).drew⟩,rfl⟩ (by simpa using h)
theorem jG {W w':World} (h:∃ n:ad W,w'=n.w):Below W.heap.size W w':=by obtain⟨n,rfl⟩:=h;exact n.on
theorem fF {P:Program} {f:FuncId} {args:Array Value} {W:World} {n:ad W} {v:Value}
  (h:Calls P f args n.w fun e w'=>e=.returned v/\Below n.w.heap.size n.w w'):Calls P f args n.w fun e Ch=>e=.returned v/\∃ m:ad W,Ch=m.w:=
 h.mono fun _ w' ⟨he,hb⟩=>⟨he,⟨w',aB n.on (n_ _) hb⟩,rfl⟩
theorem zLW {P:Program} {f:FuncId} {args:Array Value} {W:World} {n:ad W} {v:Value}
  (h:Calls P f args n.w fun e w'=>e=.returned v/\w'=n.w):Calls P f args n.w fun e Ch=>e=.returned v/\∃ m:ad W,Ch=m.w:=
 h.mono fun _ _ ⟨he,hw⟩=>⟨he,n,hw⟩
theorem sD {P:Program} {f:FuncId} {args:Array Value} {w:World} {v v':Value} {R:World->Prop} (h:Calls P f args w fun e w'=>e=.returned v/\R w') (hv:v=v'):Calls P f args w fun e w'=>e=.returned v'/\R w':=hv▸h
theorem PF (w:World) (o:Obj) {n:Nat} {a0:Value} {t:TypeId} (h:w.heap.size=n) (e:o=.cells #[a0] t):(w.alloc o).cell? ⟨n,0,none⟩=some a0/\Below w.heap.size w (w.alloc o)/\n<(w.alloc o).heap.size/\(∀ j,(w.alloc o).frozen? ⟨n,j,none⟩=false)/\(w.alloc o).heap.size=n+1:=by
 subst h e;exact⟨aC _ _ _ 0,a_ _ _,by simp,aQ _ _ _,by simp⟩
theorem Fl (w:World) (o:Obj) {n:Nat} {a0 a1:Value} {t:TypeId} (h:w.heap.size=n) (e:o=.cells #[a0,a1] t):(w.alloc o).cell? ⟨n,0,none⟩=some a0/\(w.alloc o).cell? ⟨n,1,none⟩=some a1/\Below w.heap.size w (w.alloc o)/\n<(w.alloc o).heap.size/\(∀ j,(w.alloc o).frozen? ⟨n,j,none⟩=false)/\(w.alloc o).heap.size=n+1:=by
 subst h e;exact⟨aC _ _ _ 0,aC _ _ _ 1,a_ _ _,by simp,aQ _ _ _,by simp⟩
theorem Nf (w:World) (o:Obj) {n:Nat} {a0 a1 a2:Value} {t:TypeId} (h:w.heap.size=n) (e:o=.cells #[a0,a1,a2] t):(w.alloc o).cell? ⟨n,0,none⟩=some a0/\(w.alloc o).cell? ⟨n,1,none⟩=some a1/\(w.alloc o).cell? ⟨n,2,none⟩=some a2/\Below w.heap.size w (w.alloc o)/\n<(w.alloc o).heap.size/\(∀ j,(w.alloc o).frozen? ⟨n,j,none⟩=false)/\(w.alloc o).heap.size=n+1:=by
 subst h e;exact⟨aC _ _ _ 0,aC _ _ _ 1,aC _ _ _ 2,a_ _ _,by simp,aQ _ _ _,by simp⟩
theorem kn (w:World) (o:Obj) {n:Nat} {a0 a1 a2 a3:Value} {t:TypeId} (h:w.heap.size=n) (e:o=.cells #[a0,a1,a2,a3] t):(w.alloc o).cell? ⟨n,0,none⟩=some a0/\(w.alloc o).cell? ⟨n,1,none⟩=some a1/\(w.alloc o).cell? ⟨n,2,none⟩=some a2/\(w.alloc o).cell? ⟨n,3,none⟩=some a3/\Below w.heap.size w (w.alloc o)/\n<(w.alloc o).heap.size/\(∀ j,(w.alloc o).frozen? ⟨n,j,none⟩=false)/\(w.alloc o).heap.size=n+1:=by
 subst h e;exact⟨aC _ _ _ 0,aC _ _ _ 1,aC _ _ _ 2,aC _ _ _ 3,a_ _ _,by simp,aQ _ _ _,by simp⟩
theorem nw9 (w:World) (o:Obj) {n:Nat} {a0 a1 a2 a3 a4 a5 a6 a7 a8:Value} {t:TypeId} (h:w.heap.size=n) (e:o=.cells #[a0,a1,a2,a3,a4,a5,a6,a7,a8] t):(w.alloc o).cell? ⟨n,0,none⟩=some a0/\(w.alloc o).cell? ⟨n,1,none⟩=some a1/\(w.alloc o).cell? ⟨n,2,none⟩=some a2/\(w.alloc o).cell? ⟨n,3,none⟩=some a3/\(w.alloc o).cell? ⟨n,4,none⟩=some a4/\(w.alloc o).cell? ⟨n,5,none⟩=some a5/\(w.alloc o).cell? ⟨n,6,none⟩=some a6/\(w.alloc o).cell? ⟨n,7,none⟩=some a7/\(w.alloc o).cell? ⟨n,8,none⟩=some a8/\Below w.heap.size w (w.alloc o)/\n<(w.alloc o).heap.size/\(∀ j,(w.alloc o).frozen? ⟨n,j,none⟩=false)/\(w.alloc o).heap.size=n+1:=by
 subst h e;exact⟨aC _ _ _ 0,aC _ _ _ 1,aC _ _ _ 2,aC _ _ _ 3,aC _ _ _ 4,aC _ _ _ 5,aC _ _ _ 6,aC _ _ _ 7,aC _ _ _ 8,a_ _ _,by simp,aQ _ _ _,by simp⟩
theorem Em {W w1:World} (h:Below W.heap.size W w1) {p0 p1:Addr} {v0 v1:Value} (h0:W.cell? p0=some v0) (h1:W.cell? p1=some v1):w1.cell? p0=some v0/\w1.cell? p1=some v1:=⟨aA h h0,aA h h1⟩
theorem Fe {W w1:World} (h:Below W.heap.size W w1) {p0 p1 p2:Addr} {v0 v1 v2:Value} (h0:W.cell? p0=some v0) (h1:W.cell? p1=some v1) (h2:W.cell? p2=some v2):w1.cell? p0=some v0/\w1.cell? p1=some v1/\w1.cell? p2=some v2:=⟨aA h h0,aA h h1,aA h h2⟩
theorem Ij {W w1:World} (h:Below W.heap.size W w1) {p0 p1 p2 p3:Addr} {v0 v1 v2 v3:Value} (h0:W.cell? p0=some v0) (h1:W.cell? p1=some v1) (h2:W.cell? p2=some v2) (h3:W.cell? p3=some v3):w1.cell? p0=some v0/\w1.cell? p1=some v1/\w1.cell? p2=some v2/\w1.cell? p3=some v3:=⟨aA h h0,aA h h1,aA h h2,aA h h3⟩
theorem on5 {W w1:World} (h:Below W.heap.size W w1) {p0 p1 p2 p3 p4:Addr} {v0 v1 v2 v3 v4:Value} (h0:W.cell? p0=some v0) (h1:W.cell? p1=some v1) (h2:W.cell? p2=some v2) (h3:W.cell? p3=some v3) (h4:W.cell? p4=some v4):w1.cell? p0=some v0/\w1.cell? p1=some v1/\w1.cell? p2=some v2/\w1.cell? p3=some v3/\w1.cell? p4=some v4:=⟨aA h h0,aA h h1,aA h h2,aA h h3,aA h h4⟩
theorem on6 {W w1:World} (h:Below W.heap.size W w1) {p0 p1 p2 p3 p4 p5:Addr} {v0 v1 v2 v3 v4 v5:Value} (h0:W.cell? p0=some v0) (h1:W.cell? p1=some v1) (h2:W.cell? p2=some v2) (h3:W.cell? p3=some v3) (h4:W.cell? p4=some v4) (h5:W.cell? p5=some v5):w1.cell? p0=some v0/\w1.cell? p1=some v1/\w1.cell? p2=some v2/\w1.cell? p3=some v3/\w1.cell? p4=some v4/\w1.cell? p5=some v5:=⟨aA h h0,aA h h1,aA h h2,aA h h3,aA h h4,aA h h5⟩
theorem on7 {W w1:World} (h:Below W.heap.size W w1) {p0 p1 p2 p3 p4 p5 p6:Addr} {v0 v1 v2 v3 v4 v5 v6:Value} (h0:W.cell? p0=some v0) (h1:W.cell? p1=some v1) (h2:W.cell? p2=some v2) (h3:W.cell? p3=some v3) (h4:W.cell? p4=some v4) (h5:W.cell? p5=some v5) (h6:W.cell? p6=some v6):w1.cell? p0=some v0/\w1.cell? p1=some v1/\w1.cell? p2=some v2/\w1.cell? p3=some v3/\w1.cell? p4=some v4/\w1.cell? p5=some v5/\w1.cell? p6=some v6:=⟨aA h h0,aA h h1,aA h h2,aA h h3,aA h h4,aA h h5,aA h h6⟩
theorem ZQ {W w1:World} (h:Below W.heap.size W w1) {p0 p1 p2 p3 p4 p5 p6 p7:Addr} {v0 v1 v2 v3 v4 v5 v6 v7:Value} (h0:W.cell? p0=some v0) (h1:W.cell? p1=some v1) (h2:W.cell? p2=some v2) (h3:W.cell? p3=some v3) (h4:W.cell? p4=some v4) (h5:W.cell? p5=some v5) (h6:W.cell? p6=some v6) (h7:W.cell? p7=some v7):w1.cell? p0=some v0/\w1.cell? p1=some v1/\w1.cell? p2=some v2/\w1.cell? p3=some v3/\w1.cell? p4=some v4/\w1.cell? p5=some v5/\w1.cell? p6=some v6/\w1.cell? p7=some v7:=⟨aA h h0,aA h h1,aA h h2,aA h h3,aA h h4,aA h h5,aA h h6,aA h h7⟩
end
def jb (a b:BA):Bool:=Op.bytesLess a.toList b.toList
def ng (a b:BA):Bool:=Op.bytesLess a.toList b.toList || a.toList==b.toList
def Gf (a:BA):Bool:=a.toList.isEmpty
def bc (a b:BA):Bool:=a.toList==b.toList
theorem zF:∀ x:List UInt8,Op.bytesLess x x=false
 | []=>rfl
 | a::x=>by simp[Op.bytesLess,zF x]
theorem zHr:∀ x y z:List UInt8,Op.bytesLess x y=true->Op.bytesLess y z=true->Op.bytesLess x z=true:=by
 intro x
 induction x with
 | nil=>intro y z h1 h2;cases y<;>cases z<;>simp_all [Op.bytesLess]
 | cons a x ih=>
  intro y z h1 h2
  cases y with
  | nil=>simp[Op.bytesLess] at h1
  | cons b y=>
   cases z with
   | nil=>simp[Op.bytesLess] at h2
   | cons c z=>
    simp only[Op.bytesLess,Bool.or_eq_true,decide_eq_true_eq,Bool.and_eq_true,beq_iff_eq,UInt8.lt_iff_toNat_lt] at *;rcases h1 with h1|⟨rfl,h1⟩<;>rcases h2 with h2|⟨rfl,h2⟩
    ·left;omega
    ·left;exact h1
    ·left;exact h2
    ·right;exact⟨rfl,ih y z h1 h2⟩
theorem zIX:∀ x y:List UInt8,Op.bytesLess x y=true∨x=y∨Op.bytesLess y x=true:=by
 intro x
 induction x with
 | nil=>intro y;cases y<;>simp[Op.bytesLess]
 | cons a x ih=>
  intro y
  cases y with
  | nil=>simp[Op.bytesLess]
  | cons b y=>
   simp only[Op.bytesLess,Bool.or_eq_true,decide_eq_true_eq,Bool.and_eq_true,beq_iff_eq,UInt8.lt_iff_toNat_lt,List.cons.injEq];rcases Nat.lt_trichotomy a.toNat b.toNat with h|h|h
   ·exact Or.inl (Or.inl h)
   ·have e:a=b:=UInt8.toNat_inj.1 h;subst e;rcases ih y with h|h|h
    ·exact Or.inl (Or.inr ⟨rfl,h⟩)
    ·exact Or.inr (Or.inl ⟨rfl,h⟩)
    ·exact Or.inr (Or.inr (Or.inr ⟨rfl,h⟩))
   ·exact Or.inr (Or.inr (Or.inl h))
theorem gV {a b:BA} (h:a.toList=b.toList):a=b:=by
 rw[Lib.toList_data,Lib.toList_data] at h;cases a;cases b;simp_all
theorem bA (a:BA):jb a a=false:=zF _
theorem cL {a b c:BA} (h:jb a b=true) (k:jb b c=true):jb a c=true:=zHr _ _ _ h k
theorem jZ (a b:BA):jb a b=true∨a=b∨jb b a=true:=by
 rcases zIX a.toList b.toList with h|h|h
 ·exact Or.inl h
 ·exact Or.inr (Or.inl (gV h))
 ·exact Or.inr (Or.inr h)
theorem kP {a b:BA} (h:jb a b=true):jb b a=false:=by
 cases e:jb b a with
 | false=>rfl
 | true=>have:=cL h e;rw[bA] at this;cases this
theorem jM (a b:BA):ng a b=true↔jb a b=true∨a=b:=by
 unfold ng jb;simp only[Bool.or_eq_true,beq_iff_eq];exact⟨fun h=>h.elim Or.inl (fun e=>Or.inr (gV e)),fun h=>h.elim Or.inl (fun e=>Or.inr (by rw[e]))⟩
theorem mA (a b:BA):ng a b=!jb b a:=by
 rw[Bool.eq_iff_iff,jM];rcases jZ a b with h|h|h
 ·simp[h,kP h]
 ·subst h;simp[bA]
 ·simp only[h,Bool.not_true,Bool.false_eq_true,iff_false,not_or];constructor
  ·intro k;rw[kP h] at k;cases k
  ·intro e;subst e;rw[bA] at h;cases h
theorem sL:ByteArray.empty.toList=[]:=by rw[Lib.toList_data];rfl
theorem eV (a b:BA):bc a b=true↔a=b:=by
 unfold bc;rw[beq_iff_eq];exact⟨gV,fun h=>by rw[h]⟩
theorem xB (a:BA):bc a a=true:=(eV a a).2 rfl
theorem uM {a b:BA} (h:jb a b=true):bc a b=false:=by
 cases e:bc a b with
 | false=>rfl
 | true=>rw[(eV a b).1 e,bA] at h;cases h
theorem xD (a b:BA):bc a b=bc b a:=by
 rw[Bool.eq_iff_iff,eV,eV];exact⟨Eq.symm,Eq.symm⟩
theorem zJG (a:BA):Gf a=true↔a=ByteArray.empty:=by
 unfold Gf;rw[List.isEmpty_iff];exact⟨fun h=>gV (by rw[h,sL]),fun h=>by rw[h,sL]⟩
theorem zLQ (a:BA):jb a ByteArray.empty=false:=by
 unfold jb;rw[sL];cases a.toList<;>rfl
theorem zPf (x y:BA):Lib.maxS x y=if jb x y then y else x:=by
 unfold Lib.maxS jb;rw[Proofs.bytesLess_eq,Lib.toList_data,Lib.toList_data];by_cases h:x.data.toList<y.data.toList<;>simp[h]
theorem zPg (x y:BA):Lib.minS x y=if ng x y then x else y:=by
 unfold Lib.minS ng;rw[Proofs.bytesLess_eq,Lib.toList_data,Lib.toList_data];by_cases h:x.data.toList<y.data.toList<;>by_cases h':x.data.toList=y.data.toList<;>simp[h,h']
 intro e;exact absurd (by rw[e]) h'
def cX (k:BA):BA:=k++⟨#[0]⟩
theorem zLy:∀ x k:List UInt8,Op.bytesLess x (k++[0])=(Op.bytesLess x k || x==k):=by
 intro x
 induction x with
 | nil=>intro k;cases k<;>rfl
 | cons a x ih=>
  intro k
  cases k with
  | nil=>
   have:¬(a<0):=by simp[UInt8.lt_iff_toNat_lt]
   cases x<;>simp[Op.bytesLess,this]
  | cons b k=>
   simp only[List.cons_append,Op.bytesLess,ih,List.cons_beq_cons];cases decide (a<b)<;>cases (a==b)<;>simp
theorem zLn (a k:BA):jb a (cX k)=ng a k:=by
 unfold jb ng cX;have e:(k++(⟨#[0]⟩:BA)).toList=k.toList++[0]:=by simp[Lib.toList_data,ByteArray.data_append]
 rw[e,zLy]
def Fb (f t k:BA):Bool:=ng f k&&(Gf t || jb k t)
def pe (a b:BA):BA:=if Gf a then b else if Gf b then a else Lib.minS a b
section
open Go.RowKit Go.Joins
structure ma where
 key:BA
 val:BA
 gone:Bool
def dG (w:World) (b off:Nat) (l:List ma):Prop:=
 ∀ i (h:i<l.length),w.cell? ⟨b,off+i*3,none⟩=some (.string l[i].key)/\w.cell? ⟨b,off+i*3+1,none⟩=some (.string l[i].val)/\w.cell? ⟨b,off+i*3+2,none⟩=some (.bool l[i].gone)
theorem gC {w w':World} {b off:Nat} {l:List ma} (hb:Below w.heap.size w w') (h:dG w b off l):dG w' b off l:=
 fun i hi=>⟨aA hb (h i hi).1,aA hb (h i hi).2.1,aA hb (h i hi).2.2⟩
def cU (l:List ma) (key:BA):Nat:=l.findIdx fun c=>!jb c.key key
def fB (l:List ma) (key:BA):Bool:=match l[cU l key]? with
 | some c=>bc c.key key
 | none=>false
theorem zBl (l:List ma) (key:BA):cU l key<=l.length:=List.findIdx_le_length
theorem zEe {l:List ma} {key:BA} {k:Nat} (hk:k<=cU l key) (hl:k<l.length) (h:jb l[k].key key=true):k+1<=cU l key:=by
 rcases Nat.lt_or_ge k (cU l key) with h'|h'
 ·exact h'
 ·have e:cU l key=k:=by omega
  have:=List.findIdx_getElem (p:=fun c:ma=>!jb c.key key) (xs:=l) (w:=by unfold cU at e;omega);unfold cU at e;simp only[e,h] at this;cases this
theorem FR {l:List ma} {key:BA} {k:Nat} (hk:k<=cU l key) (h:(hl:k<l.length)->jb l[k].key key=false):cU l key=k:=by
 rcases Nat.lt_or_ge k (cU l key) with h'|h'
 ·have hl:k<l.length:=Nat.lt_of_lt_of_le h' (zBl l key);have:=List.not_of_lt_findIdx (p:=fun c:ma=>!jb c.key key) (xs:=l) (i:=k) h';simp[h hl] at this
 ·omega
def Su (l:List ma) (c:ma):List ma:=l.take (cU l c.key)++c::l.drop (if fB l c.key then cU l c.key+1 else cU l c.key)
end
def mL (c:UInt8):Bool:=decide (97<=c.toNat)&&decide (c.toNat<=122)
def eZ (c:UInt8):Bool:=decide (48<=c.toNat)&&decide (c.toNat<=57)
def gR (i:Nat) (c:UInt8):Bool:=mL c || (decide (i≠0)&&eZ c)
def jJ (l:List UInt8) (k:Nat):Bool:=(List.range k).all fun i=>gR i (l.getD i 0)
def bK (l:List UInt8):Bool:=decide (1<=l.length)&&decide (l.length<=6)&&jJ l l.length
def qN (l:List UInt8) (k:Nat):Bool:=(List.range k).all fun i=>eZ (l.getD i 0)
def ui (l:List UInt8):Bool:=decide (l.length=6)&&qN l l.length
def jE (k head:List UInt8):Bool:=Lib.hasPrefix k head&&bK (Lib.trimPrefix k head)
def nY (r:List UInt8) (i:Int):Bool:=decide (0<=i)&&(bK (r.take i.toNat)&&ui (r.drop (i.toNat+1)))
def kW (k:List UInt8):Bool:=Lib.hasPrefix k [109,47]&&nY (Lib.trimPrefix k [109,47]) (Lib.indexByte (Lib.trimPrefix k [109,47]) 47)
def Fc (k:List UInt8):Bool:=jE k [116,47] || (jE k [113,47] || kW k)
theorem rG (l:List UInt8) (k:Nat):jJ l (k+1)=(jJ l k&&gR k (l.getD k 0)):=by
 simp[jJ,List.range_succ]
theorem zFx (l:List UInt8) (k:Nat):qN l (k+1)=(qN l k&&eZ (l.getD k 0)):=by
 simp[qN,List.range_succ]
theorem uD {l:List UInt8} {k n:Nat} (h:k<=n) (hn:jJ l k=false):jJ l n=false:=by
 rw[jJ,List.all_eq_false] at *;obtain⟨i,hi,h2⟩:=hn;exact⟨i,List.mem_range.2 (Nat.lt_of_lt_of_le (List.mem_range.1 hi) h),h2⟩
theorem zKc {l:List UInt8} {k n:Nat} (h:k<=n) (hn:qN l k=false):qN l n=false:=by
 rw[qN,List.all_eq_false] at *;obtain⟨i,hi,h2⟩:=hn;exact⟨i,List.mem_range.2 (Nat.lt_of_lt_of_le (List.mem_range.1 hi) h),h2⟩
theorem vR (s:ByteArray) (k:Nat) (h:k<s.size):s.data.toList.getD k 0=s[k]:=by
 rw[List.getD_eq_getElem?_getD,List.getElem?_eq_getElem (by simpa using h)];rfl
theorem fR (s:ByteArray):s.data.toList.length=s.size:=by simp
section
open Go.RowKit Go.Joins
theorem mJ (c:UInt8) (w:World):
  Calls p_ 191 #[.int .u8 c.toNat] w fun e w'=>e=.returned (.bool (mL c))/\w'=w:=by
 go_enter func191,ntmps191;go_wp2
 all_goals
  go_ret;refine⟨bB ?_,rfl⟩;simp only[mL]
  first|(rw[Bool.eq_iff_iff];simp;omega)|(simp;omega)
theorem jP (c:UInt8) (w:World):
  Calls p_ 192 #[.int .u8 c.toNat] w fun e w'=>e=.returned (.bool (eZ c))/\w'=w:=by
 go_enter func192,ntmps192;go_wp2
 all_goals
  go_ret;refine⟨bB ?_,rfl⟩;simp only[eZ]
  first|(rw[Bool.eq_iff_iff];simp;omega)|(simp;omega)
theorem zC4 (s:ByteArray) (w:World):
  Calls p_ 203 #[.string s] w fun e w'=>e=.returned (.bool (ui s.data.toList))/\w'=w:=by
 by_cases h6:s.size=6
 ·have hg:((s.size:Int) != 6)=false:=by rw[h6];rfl
  go_enter func203,ntmps203;go_wp2
  go_loop [9] (fun i=>∃ k:Nat,k<=s.size/\i=.int .i64 k/\qN s.data.toList k=true) (fun i=>s.size-(intOf i).toNat)
  case atStart=>exact⟨0,Nat.zero_le _,rfl,rfl⟩
  case round=>
   obtain⟨k,hk,rfl,hd⟩:=hrel;have HD:=aa hd;clear hd;by_cases Aa:k<s.size
   ·have HS:=aa (zFx s.data.toList k);have HB:=aa (vR s k Aa)
    cases hc:eZ s[k] with
    | true=>
     go_wp2_with (go_at_call 192;refine(jP _ _).mono ?_;rintro e w' ⟨rfl,rfl⟩)
     go_round
     case rel=>exact⟨k+1,by omega,by go_num,by rw[HS.out,HD.out,HB.out,hc];rfl⟩
     case measure=>simp[intOf];omega
    | false=>
     go_wp2_with (go_at_call 192;refine(jP _ _).mono ?_;rintro e w' ⟨rfl,rfl⟩)
     go_ret;refine⟨bB ?_,rfl⟩;rw[ui,fR,zKc (k:=k+1) (by omega) (by rw[HS.out,HB.out,hc,Bool.and_false]),Bool.and_false]
   ·go_wp2;go_ret;refine⟨bB ?_,rfl⟩;have e:k=s.size:=by omega
    have:=HD.out;rw[e] at this;rw[ui,fR,this];simp[h6]
 ·have hg:((s.size:Int) != 6)=true:=by rw[bne_iff_ne];omega
  go_enter func203,ntmps203;go_wp2;go_ret;exact⟨bB (by simp[ui,h6]),rfl⟩
theorem kM (s:ByteArray) (w:World):
  Calls p_ 120 #[.string s] w fun e w'=>e=.returned (.bool (bK s.data.toList))/\w'=w:=by
 by_cases h1:1<=s.size
 ·by_cases h6:s.size<=6
  ·go_enter func120,ntmps120;go_wp2
   go_loop [14] (fun i=>∃ k:Nat,k<=s.size/\i=.int .i64 k/\jJ s.data.toList k=true) (fun i=>s.size-(intOf i).toNat)
   case atStart=>exact⟨0,Nat.zero_le _,rfl,rfl⟩
   case round=>
    obtain⟨k,hk,rfl,hd⟩:=hrel;have HD:=aa hd;clear hd;by_cases Aa:k<s.size
    ·have HS:=aa (rG s.data.toList k);have HB:=aa (vR s k Aa);have yes:gR k s[k]=true->jJ s.data.toList (k+1)=true:=fun h=>by rw[HS.out,HD.out,HB.out,h];rfl
     have no:gR k s[k]=false->bK s.data.toList=false:=fun h=>by
      rw[bK,fR,uD (k:=k+1) (by omega) (by rw[HS.out,HB.out,h,Bool.and_false]),Bool.and_false]
     have HY:=aa yes;have HN:=aa no;clear yes no
     cases hc:mL s[k] with
     | true=>
      go_wp2_with (first|(go_at_call 191;refine(mJ _ _).mono ?_;rintro e w' ⟨rfl,rfl⟩)|(go_at_call 192;refine(jP _ _).mono ?_;rintro e w' ⟨rfl,rfl⟩))
      go_round
      case rel=>exact⟨k+1,by omega,by go_num,HY.out (by simp[gR,hc])⟩
      case measure=>simp[intOf];omega
     | false=>
      by_cases h0:k=0
      ·subst h0;go_wp2_with (first|(go_at_call 191;refine(mJ _ _).mono ?_;rintro e w' ⟨rfl,rfl⟩)|(go_at_call 192;refine(jP _ _).mono ?_;rintro e w' ⟨rfl,rfl⟩))
       go_ret;exact⟨bB (HN.out (by simp[gR,hc])).symm,rfl⟩
      ·have Ih:((k:Int)==0)=false:=beq_eq_false_iff_ne.2 (by omega)
       cases hd:eZ s[k] with
       | true=>
        go_wp2_with (first|(go_at_call 191;refine(mJ _ _).mono ?_;rintro e w' ⟨rfl,rfl⟩)|(go_at_call 192;refine(jP _ _).mono ?_;rintro e w' ⟨rfl,rfl⟩))
        go_round
        case rel=>exact⟨k+1,by omega,by go_num,HY.out (by simp[gR,hd,h0])⟩
        case measure=>simp[intOf];omega
       | false=>
        go_wp2_with (first|(go_at_call 191;refine(mJ _ _).mono ?_;rintro e w' ⟨rfl,rfl⟩)|(go_at_call 192;refine(jP _ _).mono ?_;rintro e w' ⟨rfl,rfl⟩))
        go_ret;exact⟨bB (HN.out (by simp[gR,hc,hd])).symm,rfl⟩
    ·go_wp2;go_ret;refine⟨bB ?_,rfl⟩;have e:k=s.size:=by omega
     have:=HD.out;rw[e] at this;rw[bK,fR,this];simp[h1,h6]
  ·go_enter func120,ntmps120;go_wp2;go_ret;exact⟨bB (by simp[bK,h6]),rfl⟩
 ·go_enter func120,ntmps120;go_wp2;go_ret;exact⟨bB (by simp[bK];omega),rfl⟩
def pa (n:Nat):Value:=if n=0 then .nilIface else .iface 77 (.int .i64 n)
theorem aP {n:Nat} (h:n≠0):pa n=.iface 77 (.int .i64 n):=if_neg h
theorem aR:pa 0=.nilIface:=rfl
theorem zC7 (l:List UInt8) (c:UInt8):-1<=Lib.indexByte l c/\Lib.indexByte l c<l.length:=by
 induction l with
 | nil=>simp[Lib.indexByte]
 | cons b l ih=>
  simp only[Lib.indexByte,List.length_cons];split
  ·omega
  ·split<;>omega
def qE (s:BA) (n:Nat):BA:=s.extract 0 n
def qD (s:BA) (n:Nat):BA:=s.extract n s.size
theorem oT (s:BA) (n:Nat):(qE s n).data.toList=s.data.toList.take n:=by simp[qE]
theorem oM (s:BA) (n:Nat):(qD s n).data.toList=s.data.toList.drop n:=by
 rw[qD,Lib.extract_to_end]
def fh (s:BA) (i:Int):Value:=
 if 0<=i then .tuple #[.string (qE s i.toNat),.string (qD s (i.toNat+1)),.bool true] else .tuple #[.string s,.string ⟨#[]⟩,.bool false]
theorem zLm (s:BA) (c:UInt8) (w:World) (hs:s.size<=maxLen):
  Calls p_ 242 #[.string s,.string ⟨#[c]⟩] w fun e w'=>e=.returned (fh s (Lib.indexByte s.data.toList c))/\Below w.heap.size w w':=by
 unfold maxLen at hs;have hi:=zC7 s.data.toList c;rw[fR] at hi;have hc:=Tryz.stringslite_Index_one s c;generalize Lib.indexByte s.data.toList c=i at hc hi ⊢;have HC:=aa hc;clear hc;by_cases h0:0<=i
 ·obtain⟨n,rfl⟩:=Int.eq_ofNat_of_zero_le h0;obtain⟨_,h2⟩:=hi;have h3:n+1<=s.size:=by omega
  go_enter func242,ntmps242;go_wp2_with (go_at_call 278;refine(HC.out _).mono ?_;rintro e w1 ⟨rfl,rfl⟩)
  go_quiet (fail);go_wp2;go_ret3;refine⟨?_,below_draws _ _ _⟩;simp[fh,qE,qD]
 ·have hg:decide (0<=i)=false:=by simp;omega
  go_enter func242,ntmps242;go_wp2_with (go_at_call 278;refine(HC.out _).mono ?_;rintro e w1 ⟨rfl,rfl⟩)
  go_ret3;refine⟨?_,r_ _ _⟩;simp[fh,h0]
theorem VR (s:BA) (c:UInt8) (w:World) (hs:s.size<=maxLen):
  Calls p_ 202 #[.string s,.string ⟨#[c]⟩] w fun e w'=>e=.returned (fh s (Lib.indexByte s.data.toList c))/\Below w.heap.size w w':=by
 have hc:=fun w=>zLm s c w hs;unfold fh at hc ⊢;by_cases h0:0<=Lib.indexByte s.data.toList c
 all_goals
  simp only[h0,if_true,if_false] at hc ⊢;have HC:=aa hc;clear hc h0;go_enter func202,ntmps202;go_wp2_with (go_at_call 242;refine(HC.out _).mono ?_;rintro e w1 ⟨rfl,hb⟩)
  go_ret3;exact⟨rfl,hb⟩
end
section
open Go.RowKit Go.Joins
attribute [local go_sem ↓] Go.wp_at_zero Go.wp_at_succ
def rW (n:Nat):List UInt8:=[UInt8.ofNat n,UInt8.ofNat (n / 256),UInt8.ofNat (n / 65536),UInt8.ofNat (n / 16777216)]
def dM (n:Nat):BA:=⟨(rW n).toArray⟩
def bU (t:BA) (i:Nat):Nat:=if h:i<t.size then t[i].toNat else 0
theorem iV {t:BA} {i:Nat} (h:i<t.size):t[i].toNat=bU t i:=by unfold bU;rw[dif_pos h]
theorem oC (t:BA) (i:Nat):bU t i<256:=by
 unfold bU;split
 ·exact UInt8.toNat_lt _
 ·decide
def ae (t:BA) (n:Nat):Option (Nat×BA):=
 if (bU t 0=111∨bU t 0=99)/\((t.extract 1 5).toList==(dM n).toList)=true/\bU t 5<=90 then some (bU t 0,t.extract 6 (6+bU t 5)) else none
def oe (k n:Nat) (d:BA):BA:=⟨#[UInt8.ofNat k]⟩++dM n++⟨#[UInt8.ofNat d.size]⟩++d
theorem nK (n:Nat) (hn:n<=2000000000) (w:World):Calls p_ 245 #[.int .i64 (n:Int)] w fun e w'=>e=.returned (.string (dM n))/\Below w.heap.size w w':=by
 have hcv:=run_convert_bytes_back (P:=p_) (w.alloc (MY ((n:Int) % 256) ((n:Int) / 256 % 256) ((n:Int) / 65536 % 256) ((n:Int) / 16777216))) 226 9 5 ⟨w.heap.size,0,none⟩ 4 (rW n) underlying226 underlying5 underlying9 (fun j hj=>by
  have Dj:j=0∨j=1∨j=2∨j=3:=by simp[rW] at hj;omega
  rcases Dj with rfl|rfl|rfl|rfl<;>simp[Addr.add,rW]<;>omega)
 have HB:=aa (a_ w (MY ((n:Int) % 256) ((n:Int) / 256 % 256) ((n:Int) / 65536 % 256) ((n:Int) / 16777216)));have hl:(rW n).length=4:=rfl;rw[hl] at hcv;clear hl;have rz:(0:Int)<=(n:Int):=by omega
 have Lu:(n:Int)<=2000000000:=by omega
 unfold dM;generalize (rW n)=fl at *;go_enter func245,ntmps245;go_wp2;go_ret;exact⟨rfl,HB.out⟩
theorem wQ (t:BA) (n:Nat) (hn:n<=2000000000) (ru:t.size=96) (hd:ae t n=none) (w:World):Calls p_ 209 #[.string t,.int .i64 (n:Int)] w fun e w'=>e=.returned (.tuple #[.int .u8 0,.string ⟨#[]⟩,.bool false])/\Below w.heap.size w w':=by
 have e0:t[0].toNat=bU t 0:=iV (by omega);have e5:t[5].toNat=bU t 5:=iV (by omega);have l0:=oC t 0;have l5:=oC t 5;have HF:=fun w=>aa (nK n hn w);unfold ae at hd;generalize bU t 0=x at *;generalize bU t 5=y at *;by_cases hk:x=111∨x=99
 ·cases hs:((t.extract 1 5).toList==(dM n).toList) with
  | true=>
   have hy:90<y:=by
    have:¬y<=90:=fun h=>by rw[if_pos ⟨hk,hs,h⟩] at hd;cases hd
    omega
   have hy':(90:Int)<(y:Int):=by omega
   clear hd;generalize dM n=ff at *;rcases hk with rfl|rfl
   all_goals
    go_enter func209,ntmps209;go_wp2_with fail;have La:=ad.some w;refine dE (by kernel_rfl) (by kernel_rfl) ?_
    repeat (go_big_quiet_step ((go_at_call 245;exact fF (HF _).out)))
    refine wpQuiet_nil ?_;intro w2 Lc;replace Lc:=jG Lc;have HB:=aa Lc;clear Lc;go_wp2;go_ret3;exact⟨rfl,HB.out⟩
  | false=>
   clear hd;generalize dM n=ff at *;rcases hk with rfl|rfl
   all_goals
    go_enter func209,ntmps209;go_wp2_with fail;have La:=ad.some w;refine dE (by kernel_rfl) (by kernel_rfl) ?_
    repeat (go_big_quiet_step ((go_at_call 245;exact fF (HF _).out)))
    refine wpQuiet_nil ?_;intro w2 Lc;replace Lc:=jG Lc;have HB:=aa Lc;clear Lc;go_wp2;go_ret3;exact⟨rfl,HB.out⟩
 ·have k1:((x:Int)==111)=false:=by simp;omega
  have k2:((x:Int)==99)=false:=by simp;omega
  have k3:¬x=111:=by omega
  have k4:¬x=99:=by omega
  have k5:¬(x:Int)=111:=by omega
  have k6:¬(x:Int)=99:=by omega
  have k7:((x:Int) != 111)=true:=by simp;omega
  have k8:((x:Int) != 99)=true:=by simp;omega
  clear hd hk;generalize dM n=ff at *;go_enter func209,ntmps209;go_wp2_with fail;have La:=ad.some w;refine dE (by kernel_rfl) (by kernel_rfl) ?_
  repeat (go_big_quiet_step ((go_at_call 245;exact fF (HF _).out)))
  refine wpQuiet_nil ?_;intro w2 Lc;replace Lc:=jG Lc;have HB:=aa Lc;clear Lc;go_wp2;go_ret3;exact⟨rfl,HB.out⟩
theorem wL (t:BA) (n k:Nat) (d:BA) (hn:n<=2000000000) (ru:t.size=96) (hd:ae t n=some (k,d)) (w:World):Calls p_ 209 #[.string t,.int .i64 (n:Int)] w fun e w'=>e=.returned (.tuple #[.int .u8 (k:Int),.string d,.bool true])/\Below w.heap.size w w':=by
 have e0:t[0].toNat=bU t 0:=iV (by omega);have e5:t[5].toNat=bU t 5:=iV (by omega);have l0:=oC t 0;have l5:=oC t 5;have HF:=fun w=>aa (nK n hn w);unfold ae at hd;generalize bU t 0=x at *;generalize bU t 5=y at *;split at hd
 case isFalse=>cases hd
 case isTrue h=>
  obtain⟨hk,hs,hy⟩:=h;simp only[Option.some.injEq,Prod.mk.injEq] at hd;obtain⟨rfl,rfl⟩:=hd;have hy':(y:Int)<=90:=by omega
  have SI:(0:Int)<=(y:Int):=by omega
  generalize dM n=ff at *;rcases hk with rfl|rfl
  all_goals
   go_enter func209,ntmps209;go_wp2_with fail;have La:=ad.some w;refine dE (by kernel_rfl) (by kernel_rfl) ?_
   repeat (go_big_quiet_step ((go_at_call 245;exact fF (HF _).out)))
   refine wpQuiet_nil ?_;intro w2 Lc;replace Lc:=jG Lc;have HB:=aa Lc;clear Lc;go_wp2;go_quiet (fail);go_wp2;go_ret3;exact⟨rfl,below_drewN HB.out _⟩
end
section
open Go.RowKit Go.Joins
theorem qS:(Tryz.prog.info? 99).map (fun i=>(i.zero,i.size,i.bytes))=some (some (.agg #[.string ⟨#[]⟩,.string ⟨#[]⟩,.bool false]),3,40):=by kernel_rfl
theorem OJ:∃ i,Tryz.prog.info? 99=some i/\i.zero=some (.agg #[.string ⟨#[]⟩,.string ⟨#[]⟩,.bool false])/\i.size=3/\i.bytes=40:=info_parts qS
theorem zKg (n:Nat) (w:World) (h1:1<=n) (h2:n<=1000000):
  Calls p_ 243 #[.slice none 0 0,.int .i64 n] w fun e w'=>
   ∃ v,e=.returned v/\w'.ownsRow w.heap.size 99 3 v 0 []/\w.grownBy w' none/\(∃ g cap,v=.slice (some ⟨g,0,none⟩) 0 cap):=by
 obtain⟨i0,Qb,Xb,We,ze⟩:=OJ;have hold:(Builtin.firstCells i0.size 0 (.slice none 0 0)).run p_ w.drew=.ok ([]:List Value).toArray w.drew:=run_firstCells_none w.drew i0.size 0 0 0;have aw:=fun ty=>Lib.run_append_grow_zeros (P:=p_) w 36 3 ty 99 i0 _ .i64 .i64 underlying36 underlying3 Qb Xb none 0 0 [] hold n (by omega) (by omega) (by omega) (by omega)
   (by rw[ze];omega)
   (growslice_fits (by omega) (by rw[ze];omega))
 simp only[Nat.zero_add] at aw;have hG:=grownCap_ge w n 0 99;have hM:=grownCap_le_maxLen w n 0 99 (by unfold maxLen;omega);generalize grownCap w n 0 99=G at aw hG hM;generalize hC:(([]:List Value).toArray++Builtin.zeroCells (Value.agg #[.string ⟨#[]⟩,.string ⟨#[]⟩,.bool false]).cells n++Builtin.zeroCells (Value.agg #[.string ⟨#[]⟩,.string ⟨#[]⟩,.bool false]).cells (G-n))=C at aw;have hCs:C.size=G*3:=by
  rw[<-hC];simp only[Array.size_append,size_zeroCells];have:(Value.agg #[.string ⟨#[]⟩,.string ⟨#[]⟩,.bool false]).cells.size=3:=rfl;rw[this];simp;omega
 have HM:=aa hM;clear hC Qb Xb We ze hold hM;have VM:G<=9223372036854775807:=by have:=HM.out;unfold maxLen at this;omega
 go_enter func243,ntmps243;go_wp2_with (at_builtin;refine Lib.wpList_append_run _ rfl _ _ _ _ rfl _ _ rfl rfl _ _ (aw _) ?_)
 go_ret;refine⟨_,rfl,⟨by simp,Or.inr ⟨w.heap.size,G,C,rfl,n_ _,?_,Nat.zero_le _,HM.out,hCs,by simp⟩⟩,⟨rfl,rfl,rfl,by simp,fun k hk _=>?_⟩,⟨_,_,rfl⟩⟩
 ·exact Go.heap_alloc_new w _
 ·exact Below.heap_alloc w _ k hk
def nR (w:World) (ao:Option Addr) (m c:Nat) (Vb:List Value):Prop:=
 Vb.length=m*3/\(∀ u∈Vb,u.oneCell'=true)/\((ao=none/\m=0/\c=0)∨∃ a,ao=some a/\∀ j u,Vb[j]?=some u->w.cell? (a.add j)=some u)
theorem xP {w w':World} {ao:Option Addr} {m c:Nat} {Vb:List Value} (hb:Below w.heap.size w w') (h:nR w ao m c Vb):nR w' ao m c Vb:=by
 obtain⟨h1,h2,h3⟩:=h;refine⟨h1,h2,?_⟩;rcases h3 with h|⟨a,e,h⟩
 ·exact Or.inl h
 ·exact Or.inr ⟨a,e,fun j u hj=>aA hb (h j u hj)⟩
theorem sY (B:Nat) (v:Value) (n:Nat) (xs:List Value) (w:World) (ya:w.ownsRow B 99 3 v n xs) (hB:B<=w.heap.size) (ao:Option Addr) (m c:Nat) (Vb:List Value) (h:nR w ao m c Vb) (hs:n+m<=1000000) (ty:TypeId):
  ∃ v' w',(Builtin.append_ #[36,36] ty #[v,.slice ao m c]).run p_ w=.ok v' w'/\w'.ownsRow B 99 3 v' (n+m) (xs++Vb)/\w.grownBy w' v.ownBlock:=by
 obtain⟨i0,Qb,Xb,We,ze⟩:=OJ;obtain⟨h1,h2,h3⟩:=h;rcases h3 with⟨rfl,rfl,rfl⟩|⟨a,rfl,h⟩
 ·have Wi:Vb=[]:=List.length_eq_zero_iff.1 (by omega);subst Wi;refine⟨v,w,run_append_owned_none w B _ ty _ i0 3 underlying36 Qb v n xs ya,by simpa using ya,⟨rfl,rfl,rfl,n_ _,fun _ _ _=>rfl⟩⟩
 ·obtain⟨v',w',hr,ho,hg,_⟩:=run_append_own (P:=p_) (w:=w) B 36 ty 99 i0 _ 3 40 underlying36 Qb Xb We ze rfl (by omega) v n xs ya a m c Vb h1 h h2 (by unfold maxLen;omega) (by omega) hB;exact⟨v',w',hr,ho,hg⟩
theorem rE {B:Nat} {w0 w w':World} {v:Value} {e:TypeId} {n:Nat} {xs:List Value} (hB:Below B w0 w) (hw:B<=w.heap.size) (ya:w.ownsRow B e 3 v n xs) (hg:w.grownBy w' v.ownBlock):Below B w0 w':=
 hB.grown hg hw (fun k hk=>(ya.lt k hk).1)
theorem zG (gb:Nat) (a1 a2 a3:Option Addr) (m1 m2 m3 c1 c2 c3:Nat) (n1 n2 n3:List Value) (w:World)
  (g0:w.cell? ⟨gb,0,none⟩=some (.slice a1 m1 c1)) (g1:w.cell? ⟨gb,1,none⟩=some (.slice a2 m2 c2)) (g2:w.cell? ⟨gb,2,none⟩=some (.slice a3 m3 c3))
  (s1:nR w a1 m1 c1 n1) (s2:nR w a2 m2 c2 n2) (s3:nR w a3 m3 c3 n3) (hm:1<=m1+m2+m3) (hM:m1+m2+m3<=1000000):
  Calls p_ 205 #[.slice (some ⟨gb,0,none⟩) 3 3] w fun e w'=>
   ∃ v,e=.returned v/\w'.ownsRow w.heap.size 99 3 v (m1+m2+m3) (n1++n2++n3)/\Below w.heap.size w w':=by
 go_enter func205,ntmps205;go_wp2;refine wp_loop_rounds 4 ?_;rw[rounds_succ];go_wp2;rw[rounds_succ];go_wp2;rw[rounds_succ];go_wp2;rw[rounds_succ];go_wp2_with fail;rw[show((m1:Int)+(m2:Int)+(m3:Int))=((m1+m2+m3:Nat):Int) from by omega];refine(zKg _ _ hm hM).mono ?_;rintro e w1 ⟨v,rfl,ya,hg,_⟩;have Th:Below w.heap.size w w1:=(r_ _ _).grown hg (n_ _) (fun k hk=>by cases hk);obtain⟨v1,w2,RP,mc,Co⟩:=sY w.heap.size v 0 [] w1 ya Th.size a1 m1 c1 n1 (xP Th s1) (by omega) 36;have Qi:=rE Th Th.size ya Co;obtain⟨v2,w3,Lh,qc,Hg⟩:=sY w.heap.size v1 (0+m1) ([]++n1) w2 mc Qi.size a2 m2 c2 n2 (xP Qi s2) (by omega) 36;have su:=rE Qi Qi.size mc Hg;obtain⟨v3,w4,hr3,Ae,WC⟩:=sY w.heap.size v2 (0+m1+m2) ([]++n1++n2) w3 qc su.size a3 m3 c3 n3 (xP su s3) (by omega) 36;have OH:=rE su su.size qc WC;have k0:=aA Th g0;have k1:=aA Qi g1;have k2:=aA su g2;have HO:=aa Ae;have HB:=aa OH;clear ya hg mc Co qc Hg Ae WC Th Qi su OH s1 s2 s3 g0 g1 g2;go_wp2;refine wp_loop_rounds 4 ?_;rw[rounds_succ];go_wp2_with (at_builtin;refine Lib.wpList_append_run _ rfl _ _ _ _ rfl _ _ rfl rfl _ _ RP ?_)
 rw[rounds_succ];go_wp2_with (at_builtin;refine Lib.wpList_append_run _ rfl _ _ _ _ rfl _ _ rfl rfl _ _ Lh ?_)
 rw[rounds_succ];go_wp2_with (at_builtin;refine Lib.wpList_append_run _ rfl _ _ _ _ rfl _ _ rfl rfl _ _ hr3 ?_)
 rw[rounds_succ];go_wp2;go_ret;exact⟨v3,rfl,by simpa using HO.out,HB.out⟩
end
section
open Go.RowKit Go.Joins Go.WideShapes
def bN (c:ma):List Value:=[.string c.key,.string c.val,.bool c.gone]
def cG (l:List ma):List Value:=l.flatMap bN
theorem tF (l:List ma):(cG l).length=l.length*3:=by
 induction l with
 | nil=>rfl
 | cons c l ih=>rw[cG,List.flatMap_cons,List.length_append];show 3+(cG l).length=_;rw[ih,List.length_cons];omega
theorem tJ (a b:List ma):cG (a++b)=cG a++cG b:=by simp[cG]
theorem pF (l:List ma):∀ u∈cG l,u.oneCell'=true:=by
 intro u hu;rw[cG,List.mem_flatMap] at hu;obtain⟨c,_,hc⟩:=hu;simp only[bN,List.mem_cons,List.not_mem_nil,or_false] at hc;rcases hc with rfl|rfl|rfl<;>rfl
theorem zCm {w:World} {b:Nat} (l:List ma):∀ (off:Nat),dG w b off l->∀ j u,(cG l)[j]?=some u->w.cell? ⟨b,off+j,none⟩=some u:=by
 induction l with
 | nil=>intro off _ j u h;simp[cG] at h
 | cons c l ih=>
  intro off h j u hu;have h0:=h 0 (by simp);simp only[Nat.zero_mul,Nat.add_zero,List.getElem_cons_zero] at h0;have ht:dG w b (off+3) l:=fun i hi=>by
   have:=h (i+1) (by simp;omega);simp only[List.getElem_cons_succ] at this;have e:off+(i+1)*3=off+3+i*3:=by omega
   rw[e] at this;exact this
  rw[cG,List.flatMap_cons] at hu
  match j,hu with
  | 0,hu=>simp[bN] at hu;rw[<-hu];exact h0.1
  | 1,hu=>simp[bN] at hu;rw[<-hu];exact h0.2.1
  | 2,hu=>simp[bN] at hu;rw[<-hu];exact h0.2.2
  | j+3,hu=>
   rw[List.getElem?_append_right (by simp[bN])] at hu;simp only[bN,List.length_cons,List.length_nil,Nat.zero_add,Nat.reduceAdd,Nat.add_sub_cancel] at hu;have:=ih (off+3) ht j u hu;have e:off+3+j=off+(j+3):=by omega
   rw[e] at this;exact this
theorem eW {w:World} {b:Nat} (l:List ma):∀ (off:Nat),(∀ j u,(cG l)[j]?=some u->w.cell? ⟨b,off+j,none⟩=some u)->dG w b off l:=by
 induction l with
 | nil=>intro off _ i hi;simp at hi
 | cons c l ih=>
  intro off h i hi;have g:∀ j u,(bN c++cG l)[j]?=some u->w.cell? ⟨b,off+j,none⟩=some u:=fun j u hu=>h j u (by rw[cG,List.flatMap_cons];exact hu)
  match i with
  | 0=>
   simp only[Nat.zero_mul,Nat.add_zero,List.getElem_cons_zero];exact⟨g 0 _ rfl,g 1 _ rfl,g 2 _ rfl⟩
  | i+1=>
   have t:=ih (off+3) (fun j u hu=>by
    have:=g (j+3) u (by rw[List.getElem?_append_right (by simp[bN])];simpa[bN] using hu);have e:off+(j+3)=off+3+j:=by omega
    rw[e] at this;exact this) i (by simpa using hi)
   have e:off+(i+1)*3=off+3+i*3:=by omega
   rw[e];exact t
theorem zEw {w:World} {b off:Nat} {l:List ma} (h:dG w b off l) (k:Nat):dG w b off (l.take k):=fun i hi=>by
 have Um:i<l.length:=by rw[List.length_take] at hi;omega
 have:=h i Um;simpa using this
theorem zED {w:World} {b off:Nat} {l:List ma} (h:dG w b off l) (k:Nat):dG w b (off+k*3) (l.drop k):=fun i hi=>by
 have Um:k+i<l.length:=by rw[List.length_drop] at hi;omega
 have:=h (k+i) Um;have e:off+(k+i)*3=off+k*3+i*3:=by omega
 rw[e] at this;simpa using this
theorem zL {w:World} {b off:Nat} {l:List ma} (h:dG w b off l) (c:Nat):nR w (some ⟨b,off,none⟩) l.length c (cG l):=
 ⟨tF l,pF l,Or.inr ⟨_,rfl,fun j u hj=>by rw[add_plain];exact zCm l off h j u hj⟩⟩
theorem zCX (w:World):nR w none 0 0 (cG []):=⟨rfl,pF [],Or.inl ⟨rfl,rfl,rfl⟩⟩
theorem zIx (w:World) (a:Addr) (c:Nat):nR w (some a) 0 c (cG []):=⟨rfl,pF [],Or.inr ⟨a,rfl,fun j u hj=>by simp[cG] at hj⟩⟩
def bO (w:World) (B:Nat) (v:Value) (l:List ma):Prop:=w.ownsRow B 99 3 v l.length (cG l)
theorem dJ {w:World} {B B':Nat} {v:Value} {l:List ma} (h:bO w B v l) (hb:B'<=B):bO w B' v l:=ownsRow_le h hb
theorem zDr {w:World} {B:Nat} {v:Value} {l:List ma} (h:w.ownsRow B 99 3 v l.length (cG l)) (hn:0<l.length):
  ∃ g cap,v=.slice (some ⟨g,0,none⟩) l.length cap/\B<=g/\dG w g 0 l:=by
 obtain⟨g,cap,rfl⟩:=ownsRow_form h hn;refine⟨g,cap,rfl,(h.lt g rfl).1,eW l 0 fun j u hj=>?_⟩;have:=h.cells (g:=g) rfl j u hj;rwa [add_plain] at this
end
section
open Go.RowKit Go.Joins
def gL (c:ma):Bool:=decide (c.key.size<=60)&&decide (c.val.size<=100)
def iR (l:List ma) (n:Nat):Bool:=decide (l.length<=n)&&l.all gL
theorem zEg {l:List ma} {k:Nat} (hk:k<l.length) (h:(l.take k).all gL=true) (h2:gL l[k]=true):(l.take (k+1)).all gL=true:=by
 rw[List.take_succ_eq_append_getElem hk,List.all_append,h];simp[h2]
theorem yL {l:List ma} {k n:Nat} (hk:k<l.length) (h:gL l[k]=false):iR l n=false:=by
 unfold iR;have:l.all gL=false:=by
  rw[List.all_eq_false];exact⟨l[k],List.getElem_mem hk,by simp[h]⟩
 rw[this,Bool.and_false]
theorem zAi (l:List ma) (n b off cap:Nat) (w:World) (hl:dG w b off l) (hm:n<=1000):
  Calls p_ 29 #[.slice (some ⟨b,off,none⟩) l.length cap,.int .i64 n] w fun e w'=>e=.returned (.bool (iR l n))/\w'=w:=by
 by_cases Iv:l.length<=n
 ·have hg:decide ((n:Int)<(l.length:Int))=false:=by simp;omega
  go_enter func29,ntmps29;go_wp2
  go_loop [5] (fun i=>∃ k:Nat,k<=l.length/\i=.int .i64 k/\(l.take k).all gL=true) (fun i=>l.length-(intOf i).toNat)
  case atStart=>exact⟨0,Nat.zero_le _,rfl,by simp⟩
  case round=>
   obtain⟨k,hk,rfl,pg⟩:=hrel;have HA:Hid ((l.take k).all gL=true):=pg;clear pg;by_cases Aa:k<l.length
   ·obtain⟨c0,c1,_⟩:=hl k Aa;go_wp2
    ·go_ret;exact⟨bB (yL Aa (by simp only[gL,Bool.and_eq_false_iff,decide_eq_false_iff_not];omega)).symm,rfl⟩
    ·go_round
     case rel=>refine⟨k+1,by omega,by go_num,?_⟩;exact List.all_eq_true.mp (zEg Aa HA.out (by simp only[gL,Bool.and_eq_true,decide_eq_true_eq];omega))
     case measure=>simp[intOf];omega
    ·go_ret;exact⟨bB (yL Aa (by simp only[gL,Bool.and_eq_false_iff,decide_eq_false_iff_not];omega)).symm,rfl⟩
   ·go_wp2;go_ret;refine⟨bB ?_,rfl⟩;have e:l.take k=l:=List.take_of_length_le (by omega);have:=HA.out;rw[e] at this;simp[iR,this,Iv]
 ·have hg:decide ((n:Int)<(l.length:Int))=true:=by simp;omega
  go_enter func29,ntmps29;go_wp2;go_ret;exact⟨bB (by simp[iR,Iv]),rfl⟩
theorem zCj (ao:Option Addr) (n cap:Nat) (w:World):
  Calls p_ 29 #[.slice ao 0 cap,.int .i64 n] w fun e w'=>e=.returned (.bool true)/\w'=w:=by
 have hg:decide ((n:Int)<0)=false:=by simp
 go_enter func29,ntmps29;go_wp2;refine wp_loop_rounds 1 ?_;rw[rounds_succ];go_wp2;go_ret;exact⟨rfl,rfl⟩
def Ka (d:BA):List Value:=d.data.toList.map fun b=>.int .u8 b.toNat
abbrev Wr:=Int×BA
def bL (x:Wr):List Value:=.int .i64 x.1::Ka x.2
theorem cM (d:BA):(Ka d).length=d.size:=by unfold Ka;rw[List.length_map,Array.length_toList];rfl
theorem rV (d:BA):∀ v∈Ka d,v.oneCell'=true:=fun v hv=>by
 obtain⟨b,_,rfl⟩:=List.mem_map.1 hv;rfl
theorem aY {x:Wr} (h:x.2.size=96):(bL x).length=97:=by unfold bL;rw[List.length_cons,cM,h]
theorem qY (x:Wr):∀ v∈bL x,v.oneCell'=true:=fun v hv=>by
 rcases List.mem_cons.1 hv with rfl|hv
 ·rfl
 ·exact rV _ v hv
theorem uZ {α:Type} {f:α->List Value} {z:Nat} {l:List α} (h:∀ x∈l,(f x).length=z):∀ (i c:Nat) (hi:i<l.length),c<z->(l.flatMap f)[i*z+c]?=(f l[i])[c]?:=by
 induction l with
 | nil=>intro i c hi;cases hi
 | cons x l ih=>
  intro i c hi hc;have hx:=h x (List.mem_cons_self ..)
  cases i with
  | zero=>rw[List.flatMap_cons,Nat.zero_mul,Nat.zero_add,List.getElem?_append_left (by omega)];rfl
  | succ i=>
   have e:(i+1)*z=i*z+z:=Nat.succ_mul i z;rw[List.flatMap_cons,List.getElem?_append_right (by omega),show(i+1)*z+c-(f x).length=i*z+c by omega,ih (fun y hy=>h y (List.mem_cons_of_mem _ hy)) i c (by simpa using hi) hc];rfl
theorem cC {α:Type} {f:α->List Value} {z:Nat} {l:List α} (h:∀ x∈l,(f x).length=z):(l.flatMap f).length=l.length*z:=by
 induction l with
 | nil=>simp
 | cons x l ih=>
  rw[List.flatMap_cons,List.length_append,h x (List.mem_cons_self ..),ih (fun y hy=>h y (List.mem_cons_of_mem _ hy)),List.length_cons,Nat.succ_mul];omega
def Re (w:World) (B:Nat) (v:Value) (l:List Wr):Prop:=w.ownsRow B 322 97 v l.length (l.flatMap bL)/\∀ x∈l,x.2.size=96
theorem gA:(Tryz.prog.info? 322).map (·.size)=some 97:=by kernel_rfl
theorem nV:(Tryz.prog.info? 284).map (·.size)=some 96:=by kernel_rfl
theorem yM {w:World} {B g n cap:Nat} {l:List Wr} (h:Re w B (.slice (some ⟨g,0,none⟩) n cap) l) {i:Nat} (hi:i<l.length):w.rangeAt g (i*97) (bL l[i]):=fun j v hv=>by
 have hj:j<(bL l[i]).length:=(List.getElem?_eq_some_iff.1 hv).1;rw[aY (h.2 _ (List.getElem_mem hi))] at hj;have e:=World.ownsRow.cells h.1 (g:=g) rfl (i*97+j) v ((uZ (fun x hx=>aY (h.2 x hx)) i j hi hj).trans hv);rw[Go.Addr.add_mid,Nat.zero_add] at e;exact e
theorem mF {W w1:World} {b o:Nat} {cs:List Value} (hb:Below W.heap.size W w1) (h:W.rangeAt b o cs):w1.rangeAt b o cs:=fun j v hv=>aA hb (h j v hv)
theorem zF2 {w:World} {g o:Nat} {x:Wr} (h:w.rangeAt g o (bL x)) (hx:x.2.size=96):(Instr.loadAt 322 (.pointer (some ⟨g,o,none⟩))).run p_ w=.ok (.agg (bL x).toArray) w:=
 run_loadAt_mid w g o _ _ _ h underlying322 rfl (by rw[aY hx];exact gA)
end
section
open Go.RowKit Go.Joins
attribute [local go_sem ↓] Go.wp_at_zero Go.wp_at_succ
theorem zFk (pb:Nat) (q:Int) (x:Wr) (w:World) (hq:w.cell? ⟨pb,0,none⟩=some (.int .i64 q)):
  Calls p_ 247 #[.agg (bL x).toArray,.pointer (some ⟨pb,0,none⟩)] w fun e w'=>e=.returned (.bool (x.1==q))/\Below w.heap.size w w':=by
 have hpb:pb<w.heap.size:=World.block_lt_of_cell? _ _ hq;have h0:(bL x)[0]?=some (.int .i64 x.1):=rfl;generalize bL x=cs at *;generalize x.1=b at *;go_enter func247,ntmps247;go_wp2;go_ret;exact⟨rfl,(r_ _ _).alloc (n_ _) _⟩
def qh (q:Int):List Wr->Option Nat
 | []=>none
 | x::l=>if x.1==q then some 0 else (qh q l).map (·+1)
def Pk (q:Int) (l:List Wr):Int:=match qh q l with|some i=>i|none=>-1
theorem zBa {q:Int}:∀ {l:List Wr} {k:Nat},(∀ i (h:i<l.length),i<k->(l[i].1==q)=false)->∀ (hk:k<l.length),(l[k].1==q)=true->qh q l=some k
 | [],_,_,hk,_=>by cases hk
 | x::l,0,_,_,e=>by unfold qh;rw[show(x.1==q)=true from e];rfl
 | x::l,k+1,h,hk,e=>by
  unfold qh;rw[show(x.1==q)=false from h 0 (by simp) (by omega),zBa (k:=k) (fun i hi hl=>h (i+1) (by simpa using hi) (by omega)) (by simpa using hk) e];rfl
theorem zBJ {q:Int}:∀ {l:List Wr},(∀ i (h:i<l.length),(l[i].1==q)=false)->qh q l=none
 | [],_=>rfl
 | x::l,h=>by
  unfold qh;rw[show(x.1==q)=false from h 0 (by simp),zBJ (fun i hi=>h (i+1) (by simpa using hi))];rfl
theorem zKB (pb:Nat) (q:Int) (g cap:Nat) (l:List Wr) (B:Nat) (w:World) (hq:w.cell? ⟨pb,0,none⟩=some (.int .i64 q)) (h:Re w B (.slice (some ⟨g,0,none⟩) l.length cap) l) (hl:l.length<=1000):
  Calls p_ 279 #[.slice (some ⟨g,0,none⟩) l.length cap,.func (.func 247) #[] #[.pointer (some ⟨pb,0,none⟩)]] w fun e w'=>e=.returned (.int .i64 (Pk q l))/\Below w.heap.size w w':=by
 have H:=aa h;have HQ:=aa hq;clear h hq;go_enter func279,ntmps279;go_wp2
 go_loopw [8] (fun i wr=>∃ k:Nat,k<=l.length/\i=.int .i64 (k:Int)/\(∀ j (h:j<l.length),j<k->(l[j].1==q)=false)/\Below w.heap.size w wr) (fun i _=>l.length-(intOf i).toNat)
 case atStart=>exact⟨0,Nat.zero_le _,rfl,fun j _ hj=>by omega,r_ _ _⟩
 case round=>
  obtain⟨k,hk,rfl,xe,hB⟩:=hrel;have Rg:=aa xe;clear xe;by_cases Aa:k<l.length
  ·have Za:(k:Int)<(l.length:Int):=by omega
   have Xj:=aa (mF hB (yM H.out Aa));have Wk:=aa (H.out.2 _ (List.getElem_mem Aa));have HH:=fun W hW=>aa (zFk pb q l[k] W hW);have HE:∀ b,(l[k].1==q)=b->Hid ((l[k].1==q)=b):=fun _ h=>h;generalize hx:l[k]=x at *;have HX:=aa hx;clear hx
   cases hb:(x.1==q) with
   | true=>
    have HR:Hid (Pk q l=k):=by
     unfold Pk;rw[zBa Rg.out Aa (by rw[HX.out];exact hb)];rfl
    go_wp2_with (first
     | (go_at_call 247;refine(HH _ (aA hB HQ.out)).out.mono ?_;rintro e w1 ⟨rfl,Ba⟩)
     | (refine wpList_load_mid (by rfl) 322 _ (by rfl) g (k*97) (by rfl) (bL x) _ Xj.out underlying322 (by rfl) (by rw[aY Wk.out];exact gA) ?_))
    go_ret;exact⟨iJ HR.out.symm,aB hB (n_ _) Ba⟩
   | false=>
    go_wp2_with (first
     | (go_at_call 247;refine(HH _ (aA hB HQ.out)).out.mono ?_;rintro e w1 ⟨rfl,Ba⟩)
     | (refine wpList_load_mid (by rfl) 322 _ (by rfl) g (k*97) (by rfl) (bL x) _ Xj.out underlying322 (by rfl) (by rw[aY Wk.out];exact gA) ?_))
    exact⟨⟨k+1,by omega,by go_num,fun j h hj=>by
     by_cases e:j=k
     ·subst e;rw[HX.out];exact hb
     ·exact Rg.out j h (by omega),aB hB (n_ _) Ba⟩,by simp[intOf];omega⟩
  ·have ek:k=l.length:=by omega
   subst ek;have HR:Hid (Pk q l=-1):=by
    unfold Pk;rw[zBJ fun i hi=>Rg.out i hi hi];rfl
   have lk:¬(l.length:Int)<(l.length:Int):=by omega
   go_wp2;go_ret;exact⟨iJ HR.out.symm,hB⟩
end
section
open Go.RowKit Go.Joins
theorem wD {α:Type} (L:List α) (o:Nat):splice L o []=L:=by simp[splice]
theorem wI {α:Type} (L:List α) (o:Nat) (v:α) (vs:List α) (h:o<L.length):splice (L.set o v) (o+1) vs=splice L o (v::vs):=by
 unfold splice;have h1:(L.set o v).take (o+1)=L.take o++[v]:=by
  rw[List.take_set];rw[List.take_succ_eq_append_getElem h,List.set_append_right _ _ (by rw[List.length_take];omega),show o-(L.take o).length=0 by simp;omega];rfl
 have h2:(L.set o v).drop (o+1+vs.length)=L.drop (o+(v::vs).length):=by
  rw[List.drop_set,if_pos (by omega),List.length_cons];congr 1;omega
 rw[h1,h2];simp
theorem mS {α:Type} (L:List α) (o:Nat) (cs:List α) (h:o+cs.length<=L.length) (j:Nat):(splice L o cs)[j]?=if j<o then L[j]? else if j<o+cs.length then cs[j-o]? else L[j]?:=by
 unfold splice;by_cases h1:j<o
 ·rw[if_pos h1,List.getElem?_append_left (by rw[List.length_take];omega),List.getElem?_take_of_lt h1]
 ·rw[if_neg h1,List.getElem?_append_right (by rw[List.length_take];omega)];have e:j-(L.take o).length=j-o:=by rw[List.length_take];omega
  rw[e];by_cases h2:j<o+cs.length
  ·rw[if_pos h2,List.getElem?_append_left (by omega)]
  ·rw[if_neg h2,List.getElem?_append_right (by omega),List.getElem?_drop];congr 1;omega
theorem zOB {α:Type} {a b:List α} {n:Nat}:(a++b).take (a.length+n)=a++b.take n:=by rw[List.take_append,List.take_of_length_le (by omega),show a.length+n-a.length=n by omega]
theorem zOf {α:Type} {a b:List α} {n:Nat}:(a++b).drop (a.length+n)=b.drop n:=by rw[List.drop_append,List.drop_of_length_le (by omega),show a.length+n-a.length=n by omega,List.nil_append]
theorem uV {α:Type} {f:α->List Value} {z:Nat} {l:List α} (h:∀ x∈l,(f x).length=z) (i:Nat) (hi:i<l.length) (x:α) (hx:(f x).length=z):splice (l.flatMap f) (i*z) (f x)=(l.set i x).flatMap f:=by
 induction l generalizing i with
 | nil=>cases hi
 | cons y l ih=>
  have hy:=h y (List.mem_cons_self ..)
  cases i with
  | zero=>
   unfold splice;rw[List.set_cons_zero,List.flatMap_cons,List.flatMap_cons,Nat.zero_mul,List.take_zero,List.nil_append,Nat.zero_add,hx,<-hy,List.drop_left]
  | succ i=>
   have e:=ih (fun a ha=>h a (List.mem_cons_of_mem _ ha)) i (by simpa using hi);rw[List.set_cons_succ,List.flatMap_cons,List.flatMap_cons,<-e];unfold splice;have e2:(i+1)*z=(f y).length+i*z:=by rw[hy,Nat.succ_mul];omega
   rw[e2,zOB,Nat.add_assoc,zOf];rw[List.append_assoc]
theorem eY (g:Nat) (t:TypeId) (fr:Nat×Nat):∀ (vs:List Value) (o:Nat) (w:World) (cur:List Value),w.heap[g]?=some (.cells cur.toArray t fr)->o+vs.length<=cur.length->(w.setCells g o vs).heap[g]?=some (.cells (splice cur o vs).toArray t fr)
 | [],o,w,cur,h,_=>by rw[wD];exact h
 | v::vs,o,w,cur,h,hl=>by
  have oz:o+(vs.length+1)<=cur.length:=hl;rw[World.setCells,<-wI cur o v vs (by omega)];refine eY g t fr vs (o+1) _ (cur.set o v) ?_ (by rw[List.length_set];omega);rw[setCell_eq_setRow w g o cur.toArray t fr v h,setRow_heap w g cur.toArray _ t fr h];congr 2;apply Array.ext';simp
theorem jV (g:Nat) (t:TypeId) (fr:Nat×Nat):∀ (vs:List Value) (o:Nat) (w:World) (cur:List Value),w.heap[g]?=some (.cells cur.toArray t fr)->o+vs.length<=cur.length->w.setCells g o vs=w.setRow g (splice cur o vs).toArray
 | [],o,w,cur,h,_=>by rw[wD,setRow_self w g cur.toArray t fr h];rfl
 | v::vs,o,w,cur,h,hl=>by
  have oz:o+(vs.length+1)<=cur.length:=hl;have e:w.setCell ⟨g,o,none⟩ v=w.setRow g (cur.set o v).toArray:=by
   rw[setCell_eq_setRow w g o cur.toArray t fr v h];congr 1;apply Array.ext';simp
  rw[World.setCells,<-wI cur o v vs (by omega),e,jV g t fr vs (o+1) _ (cur.set o v) (setRow_heap w g cur.toArray _ t fr h) (by rw[List.length_set];omega),setRow_setRow]
theorem rL {w:World} {g:Nat} {cur:List Value} {t:TypeId} (h:w.heap[g]?=some (.cells cur.toArray t (0,0))) {o n:Nat} (hl:o+n<=cur.length):w.there g o n:=fun j hj=>by
 refine⟨?_,by simp[World.frozen?,h]⟩;rw[cell_of_row w g (o+j) cur.toArray t (0,0) h];simp;omega
theorem jD {w:World} {g:Nat} {cur:List Value} {t:TypeId} {fr:Nat×Nat} (h:w.heap[g]?=some (.cells cur.toArray t fr)) {o:Nat} {cs:List Value} (hc:∀ j,j<cs.length->cur[o+j]?=cs[j]?):w.rangeAt g o cs:=fun j v hv=>by
 have hj:j<cs.length:=(List.getElem?_eq_some_iff.1 hv).1;rw[cell_of_row w g (o+j) cur.toArray t fr h,List.getElem?_toArray,hc j hj,hv]
theorem uY {P:Program} (w:World) (dT sT ty Hn:TypeId) (size g o Gn ux m:Nat) (src:Value) (cur:List Value) (t:TypeId) (cs:List Value) (hu:P.underlying dT=some (.slice Hn)) (hs:(P.info? Hn).map (·.size)=some size)
  (hg:w.heap[g]?=some (.cells cur.toArray t (0,0))) (hm:(Builtin.lenOf src).run P w=.ok m w) (hf:(Builtin.firstCells size (Nat.min m Gn) src).run P w=.ok cs.toArray w) (Rf:o+cs.length<=cur.length) (h1:∀ v∈cs,v.oneCell'=true):
  (Builtin.copy_ #[dT,sT] ty #[.slice (some ⟨g,o,none⟩) Gn ux,src]).run P w=.ok (goInt (Nat.min m Gn)) (w.setCells g o cs):=by
 have Zb:=run_storeCells_at P g o t cs 0 cur.toArray w hg (by simpa using Rf) h1;have e:w.setRow g (cur.toArray.toList.take (o+0)++cs++cur.toArray.toList.drop (o+0+cs.length)).toArray=w.setCells g o cs:=by
  rw[jV g t (0,0) cs o w cur hg Rf];simp[splice]
 rw[e] at Zb
 cases hq:P.info? Hn with
 | none=>simp[hq] at hs
 | some i=>
  have hi:i.size=size:=by simpa[hq] using hs
  simp[Builtin.copy_,run_underlying hu,hm,hf,Zb,hq,hi,typeInfo,sizeOf]
theorem zBB {P:Program} (w:World) (C:Array Value) (t:TypeId) (vs:List Value) (h:vs.length=C.size) (h1:∀ v∈vs,v.oneCell'=true):(storeCells ⟨w.heap.size,0,none⟩ vs).run P (w.alloc (.cells C t))=.ok () (w.alloc (.cells vs.toArray t)):=by
 have Zb:=run_storeCells_at P w.heap.size 0 t vs 0 C (w.alloc (.cells C t)) (Go.heap_alloc_new w _) (by omega) h1;have e:(w.alloc (.cells C t)).setRow w.heap.size (C.toList.take (0+0)++vs++C.toList.drop (0+0+vs.length)).toArray=w.alloc (.cells vs.toArray t):=by
  have e1:C.toList.take (0+0)++vs++C.toList.drop (0+0+vs.length)=vs:=by
   rw[List.take_zero,List.nil_append,List.drop_of_length_le (by simp;omega),List.append_nil]
  rw[e1];unfold World.setRow World.alloc
  cases w with
  | mk heap tape XA os output=>
   congr 1;apply Array.ext
   ·simp
   ·intro k h1 h2;simp only[Array.getElem_modify,Array.getElem_push];split
    ·rename_i hk;subst hk;simp
    ·rename_i hk;have Aa:k<heap.size:=by simp at h2;omega
     rw[dif_pos Aa,dif_pos Aa]
 rw[e] at Zb;exact Zb
theorem oJ {P:Program} (w:World) (t e ty:TypeId) (z:Value) (ht:P.underlying t=some (.slice e)) (hv:∀ w,(zeroValue e).run P w=.ok z w) (h1:∀ v∈z.cells,v.oneCell'=true) (g o n c:Nat) (cur:List Value) (t':TypeId)
  (hg:w.heap[g]?=some (.cells cur.toArray t' (0,0))) (Rf:o+n*z.cells.size<=cur.length):
  (Builtin.clear_ #[t] ty #[.slice (some ⟨g,o,none⟩) n c]).run P w=.ok (.tuple #[]) (w.setCells g o (Builtin.zeroCells z.cells n).toList):=by
 have Yc:∀ v∈(Builtin.zeroCells z.cells n).toList,v.oneCell'=true:=by
  intro v Ro;unfold Builtin.zeroCells at Ro;simp only[Array.toList_map,List.mem_map] at Ro;obtain⟨i,hi,rfl⟩:=Ro;have Um:i<n*z.cells.size:=by simpa using hi
  have hp:0<z.cells.size:=by
   rcases Nat.eq_zero_or_pos z.cells.size with e|e
   ·rw[e] at Um;omega
   ·exact e
  have hm:i % z.cells.size<z.cells.size:=Nat.mod_lt _ hp;rw[getElem!_pos z.cells _ hm];exact h1 _ (by simp)
 have Zb:=run_storeCells_at P g o t' (Builtin.zeroCells z.cells n).toList 0 cur.toArray w hg (by simpa[Builtin.zeroCells] using Rf) Yc;have e2:w.setRow g (cur.toArray.toList.take (o+0)++(Builtin.zeroCells z.cells n).toList++cur.toArray.toList.drop (o+0+(Builtin.zeroCells z.cells n).toList.length)).toArray=w.setCells g o (Builtin.zeroCells z.cells n).toList:=by
  rw[jV g t' (0,0) _ o w cur hg (by simpa[Builtin.zeroCells] using Rf)];simp[splice]
 rw[e2] at Zb
 cases n with
 | zero=>
  have:(Builtin.zeroCells z.cells 0).toList=[]:=by simp[Builtin.zeroCells]
  rw[this];simp[Builtin.clear_,run_underlying ht];rfl
 | succ m=>simp[Builtin.clear_,run_underlying ht,hv,Zb]
structure aG (w w':World) (B:Nat) (S S':Nat->Prop):Prop where
 Ia:Below B w w'
 Ma:∀ j,j<w.heap.size->¬S j->w'.heap[j]?=w.heap[j]?/\¬S' j
theorem aG.trans {w w1 w2:World} {B:Nat} {S S1 S2:Nat->Prop} (h:aG w w1 B S S1) (h':aG w1 w2 B S1 S2):aG w w2 B S S2:=
 ⟨h.Ia.trans h'.Ia,fun j hj hn=>by
  obtain⟨a,b⟩:=h.Ma j hj hn;obtain⟨c,d⟩:=h'.Ma j (Nat.lt_of_lt_of_le hj h.Ia.size) b;exact⟨c.trans a,d⟩⟩
theorem aG.on {w w':World} {B:Nat} {S:Nat->Prop} (hB:B<=w.heap.size) (hb:Below w.heap.size w w'):aG w w' B S S:=⟨hb.mono hB,fun j hj hn=>⟨hb.block j hj,hn⟩⟩
theorem aG.refl {w:World} {B:Nat} {S:Nat->Prop} (hB:B<=w.heap.size):aG w w B S S:=.on hB (r_ _ _)
end
section
open Go.RowKit Go.Joins Go.WideShapes
theorem oS {P:Program} {Cz:Array Oper} {rest:List Oper} {o:Oper} {a:Act} {Q:Exit->Act->World->Prop} (hgd:o.guard=none) (s x:Operand) (t:TypeId)
  (ho:o.op=.call { callee:=.builtin .append,args:=#[s,x],argTypes:=#[t,t] })
  (Eg:Nat) (e:TypeId) (i:TypeInfo) (z:Value) (size bytes:Nat) (ht:P.underlying t=some (.slice e)) (hi:P.info? e=some i) (hz:i.zero=some z)
  (SE:i.size=size) (TN:i.bytes=bytes) (By:z.cells.size=size) (Mb:0<size) (W:World) (C:List Value) (hC:C.length=size) (h1:∀ u∈C,u.oneCell'=true)
  (v:Value) (n:Nat) (xs:List Value) (ya:W.ownsRow Eg e size v n xs) (hs:a.eval s=v) (hx:a.eval x=.slice (some ⟨W.heap.size,0,none⟩) 1 1)
  (hn:n<=1000000) (hb:bytes<=1000) (vr:Eg<=W.heap.size)
  (h:∀ v' w',w'.ownsRow Eg e size v' (n+1) (xs++C)->(∀ w0,Below Eg w0 W->Below Eg w0 w')->wpList P Cz Q rest (a.put o.dst v') w'):wpList P Cz Q (o::rest) a (W.alloc (.cells C.toArray e)):=by
 refine wpList_append_own _ hgd s x t ho Eg e i z size bytes ht hi hz SE TN By Mb v n xs hs (ya.alloc _) ⟨W.heap.size,0,none⟩ 1 1 C hx (by omega) ?_ h1 (by unfold maxLen;omega) ?_ (Nat.le_trans vr (by simp)) ?_
 ·intro j u hj;have:=aC W C.toArray e j;rw[add_plain,Nat.zero_add,this];simpa using hj
 ·have:(n+1)*bytes<=1000001*1000:=Nat.mul_le_mul (by omega) hb;omega
 ·intro v' w' h2 h3 _;refine h v' w' h2 fun w0 hB=>?_;exact(hB.trans ((a_ W _).mono vr)).grown h3 (Nat.le_trans vr (by simp)) (fun k hk=>(ya.lt k hk).1)
end
section
open Go.RowKit Go.Joins
def jd (c:ma):BA:=⟨#[UInt8.ofNat c.key.size,UInt8.ofNat c.val.size]⟩++c.key++c.val
def aO:List ma->BA
 | []=>⟨#[]⟩
 | c::l=>jd c++aO l
theorem pL (b:BA):(⟨#[]⟩:BA)++b=b:=by
 apply ByteArray.ext;simp[ByteArray.data_append]
theorem lP (b:BA):b++(⟨#[]⟩:BA)=b:=by
 apply ByteArray.ext;simp[ByteArray.data_append]
theorem jL (a b c:BA):a++b++c=a++(b++c):=by
 apply ByteArray.ext;simp[ByteArray.data_append,Array.append_assoc]
theorem zGO (l:List ma) (c:ma):aO (l++[c])=aO l++jd c:=by
 induction l with
 | nil=>show jd c++⟨#[]⟩=⟨#[]⟩++jd c;rw[pL,lP]
 | cons d l ih=>show jd d++aO (l++[c])=jd d++aO l++jd c;rw[ih,jL]
theorem oA (c:ma):(jd c).size=2+c.key.size+c.val.size:=by
 unfold jd;rw[ByteArray.size_append,ByteArray.size_append];rfl
theorem sP (l:List ma) (n:Nat) (h:∀ c∈l,c.key.size+c.val.size<=n):(aO l).size<=l.length*(n+2):=by
 induction l with
 | nil=>exact Nat.zero_le _
 | cons c l ih=>
  show(jd c++aO l).size<=_;rw[ByteArray.size_append,oA,List.length_cons,Nat.succ_mul];have h1:=ih fun d hd=>h d (List.mem_cons_of_mem _ hd);have h2:=h c (List.mem_cons_self ..);omega
theorem mE (a b:BA):Go.Lib.strCells (a++b)=Go.Lib.strCells a++Go.Lib.strCells b:=by
 unfold Go.Lib.strCells;rw[ByteArray.data_append,Array.toList_append,List.map_append]
theorem zIL (i j:Nat) (hi:i<256) (hj:j<256):Go.Lib.strCells ⟨#[UInt8.ofNat i,UInt8.ofNat j]⟩=[.int .u8 (i:Int),.int .u8 (j:Int)]:=by
 unfold Go.Lib.strCells;simp;omega
def Db:List ma->ma->List ma
 | [],c=>[c]
 | x::l,c=>if jb x.key c.key then x::Db l c else if bc x.key c.key then c::l else c::x::l
theorem wC (x:ma) (l:List ma) (key:ByteArray):cU (x::l) key=if jb x.key key then cU l key+1 else 0:=by
 unfold cU;rw[List.findIdx_cons];cases jb x.key key<;>rfl
theorem zD3 (x:ma) (l:List ma) (key:ByteArray):fB (x::l) key=if jb x.key key then fB l key else bc x.key key:=by
 unfold fB;rw[wC];cases jb x.key key<;>simp
theorem zLv (l:List ma) (c:ma):Su l c=Db l c:=by
 induction l with
 | nil=>rfl
 | cons x l ih=>
  unfold Su at *;rw[Db,wC,zD3];cases h:jb x.key c.key
  ·cases h2:bc x.key c.key<;>simp
  ·simp only[if_true];rw[<-ih];cases fB l c.key<;>simp
theorem yP (l:List ma) (c:ma):(Db l c).length<=l.length+1:=by
 induction l with
 | nil=>simp[Db]
 | cons x l ih=>unfold Db;split<;>(try split)<;>simp<;>omega
theorem zKt (l:List ma) (c:ma):0<(Db l c).length:=by
 cases l with
 | nil=>simp[Db]
 | cons x l=>unfold Db;split<;>(try split)<;>simp
theorem vU {l:List ma} {c y:ma} (h:y∈Db l c):y=c∨y∈l:=by
 induction l with
 | nil=>simpa[Db] using h
 | cons x l ih=>
  unfold Db at h;split at h
  ·rcases List.mem_cons.1 h with h|h
   ·right;simp[h]
   ·rcases ih h with h|h
    ·left;exact h
    ·right;simp[h]
  ·split at h
   ·rcases List.mem_cons.1 h with h|h
    ·left;exact h
    ·right;simp[h]
   ·rcases List.mem_cons.1 h with h|h
    ·left;exact h
    ·right;exact h
def Pc (l:List ma):Prop:=l.Pairwise fun a b=>jb a.key b.key=true
theorem zA8 {l:List ma} (c:ma) (h:Pc l):Pc (Db l c):=by
 induction l with
 | nil=>simp[Pc,Db]
 | cons x l ih=>
  unfold Pc at *;obtain⟨h1,h2⟩:=List.pairwise_cons.1 h;unfold Db;split
  ·rename_i hx;refine List.pairwise_cons.2 ⟨fun y hy=>?_,ih h2⟩;rcases vU hy with rfl|hy
   ·exact hx
   ·exact h1 y hy
  ·rename_i hx;split
   ·rename_i he;have e:=(eV _ _).1 he;exact List.pairwise_cons.2 ⟨fun y hy=>e▸h1 y hy,h2⟩
   ·rename_i he;have k:jb c.key x.key=true:=by
     rcases jZ x.key c.key with k|k|k
     ·exact absurd k hx
     ·exact absurd ((eV _ _).2 k) he
     ·exact k
    refine List.pairwise_cons.2 ⟨fun y hy=>?_,h⟩;rcases List.mem_cons.1 hy with rfl|hy
    ·exact k
    ·exact cL k (h1 y hy)
theorem zD (p q:ByteArray):(jb p q=true/\bc p q=false/\jb q p=false/\bc q p=false)∨p=q∨(jb p q=false/\bc p q=false/\jb q p=true/\bc q p=false):=by
 rcases jZ p q with h|h|h
 ·left;exact⟨h,uM h,kP h,(xD q p).trans (uM h)⟩
 ·right;left;exact h
 ·right;right;exact⟨kP h,(xD p q).trans (uM h),h,uM h⟩
theorem pN {α β:Type} (f:α->List β) (k:Nat) (hk:∀ x,(f x).length=k) (l:List α):(l.flatMap f).length=l.length*k:=by
 induction l with
 | nil=>simp
 | cons x l ih=>rw[List.flatMap_cons,List.length_append,ih,hk,List.length_cons,Nat.succ_mul];omega
theorem nI {α β:Type} (f:α->List β) (k:Nat) (hk:∀ x,(f x).length=k) (l:List α):∀ (i j:Nat) (hi:i<l.length),j<k->(l.flatMap f)[i*k+j]?=(f l[i])[j]?:=by
 induction l with
 | nil=>intro i j hi;simp at hi
 | cons x l ih=>
  intro i j hi hj;rw[List.flatMap_cons]
  match i with
  | 0=>rw[Nat.zero_mul,Nat.zero_add,List.getElem?_append_left (by rw[hk];exact hj)];rfl
  | i+1=>
   rw[List.getElem?_append_right (by rw[hk,Nat.succ_mul];omega),hk];have e:(i+1)*k+j-k=i*k+j:=by rw[Nat.succ_mul];omega
   rw[e,ih i j (by simpa using hi) hj];rfl
theorem aI {w w':World} {B:Nat} {e:TypeId} {size:Nat} {v:Value} {n:Nat} {xs:List Value} (h:w.ownsRow B e size v n xs) (hk:∀ k,v.ownBlock=some k->w'.heap[k]?=w.heap[k]?):w'.ownsRow B e size v n xs:=by
 obtain⟨h1,h2⟩:=h;refine⟨h1,?_⟩;rcases h2 with h2|⟨g,cap,cur,hv,hg,hh,r⟩
 ·exact .inl h2
 ·exact .inr ⟨g,cap,cur,hv,hg,(hk g (by rw[hv];rfl)).trans hh,r⟩
theorem bQ {w w':World} {B:Nat} {e:TypeId} {size:Nat} {v:Value} {n:Nat} {xs:List Value} (h:w.ownsRow B e size v n xs) (hb:Below w.heap.size w w'):w'.ownsRow B e size v n xs:=
 aI h fun k hk=>hb.block k (h.lt k hk).2
theorem aX {w:World} {B:Nat} {e:TypeId} {size:Nat} {v:Value} {n:Nat} {xs:List Value} (h:w.ownsRow B e size v n xs):
  (v=.slice none 0 0/\n=0)∨∃ g cap,v=.slice (some ⟨g,0,none⟩) n cap/\B<=g/\g<w.heap.size/\n<=cap/\cap<=maxLen:=by
 rcases h.2 with h2|⟨g,cap,cur,hv,hg,hh,h3,h4,_⟩
 ·exact .inl h2
 ·exact .inr ⟨g,cap,hv,hg,(h.lt g (by rw[hv];rfl)).2,h3,h4⟩
theorem dU {α:Type} {w:World} {B:Nat} {e:TypeId} {k g cap:Nat} {f:α->List Value} (hk:∀ x,(f x).length=k) {l:List α} (h:w.ownsRow B e k (.slice (some ⟨g,0,none⟩) l.length cap) l.length (l.flatMap f))
  (i j:Nat) (hi:i<l.length) (hj:j<k):w.cell? ⟨g,i*k+j,none⟩=(f l[i])[j]?/\w.frozen? ⟨g,i*k+j,none⟩=false:=by
 refine⟨?_,h.frozenAt _⟩;rw[h.cellAt (i*k+j) ?_,nI f k hk l i j hi hj];have:(i+1)*k<=l.length*k:=Nat.mul_le_mul_right k (by omega);rw[Nat.succ_mul] at this;omega
theorem zKF {α β:Type} (f:α->List β) (k:Nat) (hk:∀ x,(f x).length=k) (l:List α) (y:α) (i j:Nat) (hi:i<l.length) (hj:j<k) (u:β) (hy:f y=(f l[i]).set j u):(l.flatMap f).set (i*k+j) u=(l.set i y).flatMap f:=by
 apply List.ext_getElem?;intro m;rcases Nat.lt_or_ge m (l.length*k) with hm|hm
 ·have Ih:0<k:=by omega
  have hq:m / k<l.length:=Nat.div_lt_of_lt_mul (by rw[Nat.mul_comm];exact hm);have hr:m % k<k:=Nat.mod_lt _ Ih;have em:m=m / k*k+m % k:=by rw[Nat.mul_comm];exact(Nat.div_add_mod m k).symm
  rw[List.getElem?_set];by_cases e:i*k+j=m
  ·have e1:m / k=i:=by
    rw[<-e,Nat.mul_comm,Nat.mul_add_div Ih,Nat.div_eq_of_lt hj,Nat.add_zero]
   have e2:m % k=j:=by
    rw[<-e,Nat.mul_comm,Nat.mul_add_mod,Nat.mod_eq_of_lt hj]
   rw[if_pos e,if_pos (by rw[pN f k hk];omega),<-e,nI f k hk _ i j (by simpa using hi) hj];simp[hy,hk,hj]
  ·rw[if_neg e]
   conv=>lhs;rw[em]
   conv=>rhs;rw[em]
   rw[nI f k hk l _ _ hq hr,nI f k hk _ _ _ (by simpa using hq) hr,List.getElem_set];by_cases e1:i=m / k
   ·subst e1;rw[if_pos rfl,hy,List.getElem?_set];have e2:j≠m % k:=fun h=>e (by rw[h];exact em.symm);rw[if_neg e2]
   ·rw[if_neg e1]
 ·rw[List.getElem?_eq_none (by rw[List.length_set,pN f k hk];exact hm),List.getElem?_eq_none (by rw[pN f k hk,List.length_set];exact hm)]
end
section
open Go.RowKit Go.Joins
attribute [local go_sem ↓] Go.wp_at_zero Go.wp_at_succ
theorem zC9:(Tryz.prog.info? 249).map (·.size)=some 2:=by kernel_rfl
theorem zJ6:liesAt p_ Tryz.prog.depth 249 (2 / Tryz.prog.cellsOf 249) 0 249 1=true:=by kernel_rfl
theorem zJf:(Tryz.prog.info? 5).map (fun i=>(i.zero,i.size,i.bytes))=some (some (.int .u8 0),1,1):=by kernel_rfl
theorem zEv (b:Nat) (w:World) (h0:w.cell? ⟨b,0,none⟩=some (.pointer (some ⟨b,0,none⟩))):
  Calls p_ 223 #[.pointer (some ⟨b,0,none⟩)] w fun e w'=>e=.returned (.tuple #[])/\w'=w:=by
 obtain⟨j,hj,_⟩:=Option.map_eq_some_iff.1 zC9;go_enter func223,ntmps223;go_wp2;rw[Lib.run_neq_ptr_same w _ underlying247 hj];go_wp2;go_end0;exact⟨rfl,rfl⟩
theorem zDd (b:Nat) (w:World) (h0:w.cell? ⟨b,0,none⟩=some (.pointer none)) (hsh:w.shape? b=some (249,2)) (hfz:w.frozen? ⟨b,0,none⟩=false):
  Calls p_ 223 #[.pointer (some ⟨b,0,none⟩)] w fun e w'=>e=.returned (.tuple #[])/\w'=w.setCell ⟨b,0,none⟩ (.pointer (some ⟨b,0,none⟩)):=by
 obtain⟨j,hj,lz⟩:=Option.map_eq_some_iff.1 zC9;go_enter func223,ntmps223;go_wp2;rw[Lib.run_to_unsafe w ⟨b,0,none⟩ underlying247 underlying333 hj (by rw[lz];decide) hsh (Nat.zero_lt_succ 1)];simp only[Result.andThen];rw[Oper.upon_value];go_wp2;rw[run_callFunc_extern func258 (by kernel_rfl) (by kernel_rfl) (by kernel_rfl) (e:=Extern.AbiNoEscape.same) (by kernel_rfl)];rw[Lib.run_noEscape];simp only[Result.andThen];rw[Oper.upon_value];go_wp2;rw[Lib.run_from_unsafe w ⟨b,0,none⟩ underlying333 underlying247 hj hsh zJ6];simp only[Result.andThen];rw[Oper.upon_value];go_wp2;go_end0;exact⟨rfl,rfl⟩
theorem zF3 (B b:Nat) (bs:List Value) (w:World) (h:Lib.IsBuilderF 249 5 B b bs w):
  Calls p_ 223 #[.pointer (some ⟨b,0,none⟩)] w fun e w'=>e=.returned (.tuple #[])/\(Lib.BuilderAtF 249 5 B b (.pointer (some ⟨b,0,none⟩)) bs w'/\Below B w w'):=by
 rcases h with h|h
 ·refine(zDd b w h.cell0 h.shape h.frozen0).mono ?_;rintro e w' ⟨rfl,rfl⟩;exact⟨rfl,h.used _,(r_ B w).setCell (p:=⟨b,0,none⟩) h.1 _⟩
 ·refine(zEv b w h.cell0).mono ?_;rintro e w' ⟨rfl,rfl⟩;exact⟨rfl,h,r_ B _⟩
theorem zGm (B b:Nat) (bs:List Value) (s:ByteArray) (w:World) (h:Lib.IsBuilderF 249 5 B b bs w) (hlen:bs.length+s.size<=140737488355328) (hBw:B<=w.heap.size):
  Calls p_ 174 #[.pointer (some ⟨b,0,none⟩),.string s] w fun e w'=>e=.returned (.tuple #[.int .i64 s.size,.nilIface])/\(Lib.IsBuilderF 249 5 B b (bs++Lib.strCells s) w'/\Below B w w'):=by
 obtain⟨i0,hi,Xb,Yc,te⟩:=info_parts zJf;go_enter func174,ntmps174;go_wp2_with (go_at_call 223;refine(zF3 B b bs _ h).mono ?_)
 rintro e w1 ⟨rfl,h1,Ba⟩;obtain⟨hB,v,Xl,ya,La⟩:=h1;have c0:w1.cell? ⟨b,0,none⟩=some (.pointer (some ⟨b,0,none⟩)):=by rw[Lib.cell_of_heap Xl];rfl
 have c1:w1.cell? ⟨b,1,none⟩=some v:=by rw[Lib.cell_of_heap Xl];rfl
 go_wp2_with (at_builtin;refine Lib.wpList_append_own_stringF _ rfl _ _ 226 9 rfl B 5 i0 underlying226 underlying9 hi Xb Yc te _ _ _ rfl ya s rfl ?c3 ?c4 ?c5 ?_)
 case c3=>unfold maxLen;omega
 case c4=>omega
 case c5=>have:=Ba.size;omega
 intro v' w2 Wv Oa _;have Aa:b<w1.heap.size:=by
  rcases Nat.lt_or_ge b w1.heap.size with h'|h'
  ·exact h'
  ·simp[Array.getElem?_eq_none h'] at Xl
 have za:w2.heap[b]?=some (.cells #[.pointer (some ⟨b,0,none⟩),v] 249 (0,0)):=by
  rw[Oa.block b Aa (fun e=>La e.symm)];exact Xl
 have d0:w2.cell? ⟨b,0,none⟩=some (.pointer (some ⟨b,0,none⟩)):=by rw[Lib.cell_of_heap za];rfl
 have d1:w2.cell? ⟨b,1,none⟩=some v:=by rw[Lib.cell_of_heap za];rfl
 have f1:w2.frozen? ⟨b,1,none⟩=false:=Lib.frozen_of_heap za 1;obtain⟨ao,n',cap,rfl⟩:∃ ao n' cap,v'=.slice ao n' cap:=by
  rcases Wv.2 with⟨hv,_⟩|⟨g,cap,cur,fz,hv,_⟩
  ·exact⟨_,_,_,hv⟩
  ·exact⟨_,_,_,hv⟩
 go_wp2;go_ret2;refine⟨rfl,.inr ?_,?_⟩
 ·exact Lib.BuilderAtF.put (T:=249) (e:=5) hB za (bs':=bs++Lib.strCells s) (by simpa[Lib.strCells_length] using Wv) (by decide)
 ·exact(Ba.grown Oa (by have:=Ba.size;omega) (fun k hk=>(ya.lt k hk).1)).setCell (p:=⟨b,1,none⟩) hB _
end
section
open Go.RowKit Go.Joins
def oQ (c:ma) (s:Bool×List (BA×BA)) (r:BA×BA):Bool×List (BA×BA):=
 (s.1 || ng c.key r.1,(if !s.1&&ng c.key r.1 then s.2++[(c.key,c.val)] else s.2)++if bc r.1 c.key then [] else [r])
def xk (c:ma) (s:Bool×List (BA×BA)):List (BA×BA):=if s.1 then s.2 else s.2++[(c.key,c.val)]
def Nb (l:List (BA×BA)) (c:ma):List (BA×BA):=xk c (l.foldl (oQ c) (c.gone,[]))
def iB (l:List (BA×BA)) (cs:List ma):List (BA×BA):=cs.foldl Nb l
theorem zNT (c:ma) (l:List (BA×BA)) (s0:Bool×List (BA×BA)) (k:Nat) (hk:k<l.length):(l.take (k+1)).foldl (oQ c) s0=oQ c ((l.take k).foldl (oQ c) s0) l[k]:=by
 rw[List.take_succ_eq_append_getElem hk,List.foldl_append];rfl
theorem zJW (c:ma) (l:List (BA×BA)):∀ (s:Bool×List (BA×BA)),((l.foldl (oQ c) s).1=false->(l.foldl (oQ c) s).2.length<=s.2.length+l.length)/\(l.foldl (oQ c) s).2.length<=s.2.length+l.length+(if s.1 then 0 else 1)/\(s.1=true->(l.foldl (oQ c) s).1=true):=by
 induction l with
 | nil=>intro s;simp
 | cons r l ih=>
  intro s;obtain⟨h1,h2,h3⟩:=ih (oQ c s r);rw[List.foldl_cons];generalize hs:List.foldl (oQ c) (oQ c s r) l=t at *;obtain⟨laid,out⟩:=s
  cases laid with
  | true=>
   have e1:(oQ c (true,out) r).1=true:=rfl;have e2:(oQ c (true,out) r).2.length<=out.length+1:=by cases he:bc r.1 c.key<;>simp[oQ,he]
   rw[e1] at h2 h3;refine⟨fun h=>?_,?_,fun _=>h3 rfl⟩
   ·rw[h3 rfl] at h;cases h
   ·simp only[List.length_cons,if_true] at h2 ⊢;omega
  | false=>
   cases fe:ng c.key r.1 with
   | true=>
    have e1:(oQ c (false,out) r).1=true:=by simp[oQ,fe]
    have e2:(oQ c (false,out) r).2.length<=out.length+2:=by cases he:bc r.1 c.key<;>simp[oQ,fe,he]
    rw[e1] at h2 h3;refine⟨fun h=>?_,?_,fun h=>by cases h⟩
    ·rw[h3 rfl] at h;cases h
    ·simp only[List.length_cons,if_true,Bool.false_eq_true,if_false] at h2 ⊢;omega
   | false=>
    have e1:(oQ c (false,out) r).1=false:=by simp[oQ,fe]
    have e2:(oQ c (false,out) r).2.length<=out.length+1:=by cases he:bc r.1 c.key<;>simp[oQ,fe,he]
    rw[e1] at h2;refine⟨fun h=>?_,?_,fun h=>by cases h⟩
    ·have:=h1 h;simp only[List.length_cons];omega
    ·simp only[List.length_cons,Bool.false_eq_true,if_false] at h2 ⊢;omega
theorem zNL (l:List (BA×BA)) (c:ma):(Nb l c).length<=l.length+1:=by
 unfold Nb xk;obtain⟨h1,h2,_⟩:=zJW c l (c.gone,[]);split
 ·refine Nat.le_trans h2 ?_;simp only[List.length_nil];split<;>omega
 ·rename_i h;have:=h1 (by simpa using h);simp at this ⊢;omega
theorem vS:∀ (cs:List ma) (l:List (BA×BA)),(iB l cs).length<=l.length+cs.length
 | [],l=>by simp[iB]
 | c::cs,l=>by
  have:=vS cs (Nb l c);have h:=zNL l c;simp only[iB,List.foldl_cons,List.length_cons] at this ⊢;omega
theorem zK1 (l:List (BA×BA)) (cs:List ma) (k:Nat) (hk:k<cs.length):iB l (cs.take (k+1))=Nb (iB l (cs.take k)) cs[k]:=by
 unfold iB;rw[List.take_succ_eq_append_getElem hk,List.foldl_append];rfl
abbrev bV (l:List (BA×BA)):Prop:=l.Pairwise fun a b=>jb a.1 b.1=true
theorem rH {a b:BA} (h:a≠b):bc a b=false:=by
 cases e:bc a b with
 | false=>rfl
 | true=>exact absurd ((eV _ _).1 e) h
theorem pG (a:BA):bc a a=true:=(eV _ _).2 rfl
theorem uE (c:ma):∀ (l out:List (BA×BA)),(l.foldl (oQ c) (true,out))=(true,out++l.filter fun r=>!bc r.1 c.key)
 | [],out=>by simp
 | r::l,out=>by
  rw[List.foldl_cons];have e:oQ c (true,out) r=(true,out++if bc r.1 c.key then [] else [r]):=by simp[oQ]
  rw[e,uE c l];cases h:bc r.1 c.key<;>simp[h]
theorem zS (c:ma):∀ (l out:List (BA×BA)),bV l->xk c (l.foldl (oQ c) (false,out))=out++(l.filter fun r=>jb r.1 c.key)++(c.key,c.val)::l.filter fun r=>jb c.key r.1
 | [],out,_=>by simp[xk]
 | r::l,out,h=>by
  replace h:=List.pairwise_cons.1 h;rw[List.foldl_cons]
  cases fe:ng c.key r.1 with
  | false=>
   have Aa:jb r.1 c.key=true:=by have:=mA c.key r.1;rw[fe] at this;simpa using this
   have La:bc r.1 c.key=false:=rH fun e=>by rw[e,bA] at Aa;cases Aa
   have Sp:jb c.key r.1=false:=by
    cases e:jb c.key r.1 with
    | false=>rfl
    | true=>have:=cL e Aa;rw[bA] at this;cases this
   have e:oQ c (false,out) r=(false,out++[r]):=by simp[oQ,fe,La]
   rw[e,zS c l _ h.2];simp[Aa,Sp]
  | true=>
   have e:oQ c (false,out) r=(true,out++[(c.key,c.val)]++if bc r.1 c.key then [] else [r]):=by simp[oQ,fe]
   rw[e,uE];have Jk:∀ x∈l,jb c.key x.1=true:=fun x hx=>by
    have h1:=h.1 x hx;rcases(jM _ _).1 fe with h2|h2
    ·exact cL h2 h1
    ·rw[h2];exact h1
   have f1:(l.filter fun r=>jb r.1 c.key)=[]:=List.filter_eq_nil_iff.2 fun x hx e=>by
    have:=cL (Jk x hx) e;rw[bA] at this;cases this
   have f2:(l.filter fun r=>jb c.key r.1)=l:=List.filter_eq_self.2 Jk;have f3:(l.filter fun r=>!bc r.1 c.key)=l:=List.filter_eq_self.2 fun x hx=>by
    rw[rH fun e=>by have:=Jk x hx;rw[e,bA] at this;cases this];rfl
   have Aa:jb r.1 c.key=false:=by have:=mA c.key r.1;rw[fe] at this;simpa using this
   rw[f3]
   cases FO:bc r.1 c.key with
   | true=>
    have e2:=(eV _ _).1 FO;have Sp:jb c.key r.1=false:=by rw[e2,bA]
    simp[xk,Aa,Sp,f1,f2]
   | false=>
    have Sp:jb c.key r.1=true:=by
     rcases(jM _ _).1 fe with h2|h2
     ·exact h2
     ·rw[h2,pG] at FO;cases FO
    simp[xk,Aa,Sp,f1,f2]
theorem iF {l:List (BA×BA)} {c:ma} (h:c.gone=true):Nb l c=l.filter fun r=>!bc r.1 c.key:=by
 unfold Nb;rw[h,uE];simp[xk]
theorem iX {l:List (BA×BA)} {c:ma} (hl:bV l) (h:c.gone=false):Nb l c=(l.filter fun r=>jb r.1 c.key)++(c.key,c.val)::l.filter fun r=>jb c.key r.1:=by
 unfold Nb;rw[h,zS c l [] hl];simp
theorem jO {l:List (BA×BA)} (hl:bV l) (c:ma):bV (Nb l c):=by
 cases h:c.gone with
 | true=>rw[iF h];exact hl.filter _
 | false=>
  rw[iX hl h];unfold bV;rw[List.pairwise_append];refine⟨hl.filter _,?_,?_⟩
  ·rw[List.pairwise_cons];exact⟨fun x hx=>(List.mem_filter.1 hx).2,hl.filter _⟩
  ·intro x hx y hy;have h1:=(List.mem_filter.1 hx).2;rcases List.mem_cons.1 hy with rfl|hy
   ·exact h1
   ·exact cL h1 (List.mem_filter.1 hy).2
def iO (w:World) (b off:Nat) (l:List (BA×BA)):Prop:=
 ∀ i (h:i<l.length),w.cell? ⟨b,off+i*2,none⟩=some (.string l[i].1)/\w.cell? ⟨b,off+i*2+1,none⟩=some (.string l[i].2)
def fL (s:BA×BA):Bool:=decide (s.1.size<=60)&&decide (s.2.size<=60)
def iA (l:List (BA×BA)):Bool:=decide (l.length<=50)&&l.all fL
theorem zHa {l:List (BA×BA)} {k:Nat} (hk:k<l.length) (h:(l.take k).all fL=true) (h2:fL l[k]=true):(l.take (k+1)).all fL=true:=by
 rw[List.take_succ_eq_append_getElem hk,List.all_append,h];simp[h2]
theorem zBE {l:List (BA×BA)} {k:Nat} (hk:k<l.length) (h:fL l[k]=false):iA l=false:=by
 unfold iA;have:l.all fL=false:=by
  rw[List.all_eq_false];exact⟨l[k],List.getElem_mem hk,by simp[h]⟩
 rw[this,Bool.and_false]
theorem yT (l:List (BA×BA)) (b off cap:Nat) (w:World) (hl:iO w b off l) (hn:l.length<=maxLen):
  Calls p_ 30 #[.slice (some ⟨b,off,none⟩) l.length cap] w fun e w'=>e=.returned (.bool (iA l))/\w'=w:=by
 unfold maxLen at hn;by_cases Iv:l.length<=50
 ·have hg:decide ((50:Int)<(l.length:Int))=false:=by simp;omega
  go_enter func30,ntmps30;go_wp2
  go_loop [3] (fun i=>∃ k:Nat,k<=l.length/\i=.int .i64 k/\(l.take k).all fL=true) (fun i=>l.length-(intOf i).toNat)
  case atStart=>exact⟨0,Nat.zero_le _,rfl,by simp⟩
  case round=>
   obtain⟨k,hk,rfl,pg⟩:=hrel;have HA:Hid ((l.take k).all fL=true):=pg;clear pg;by_cases Aa:k<l.length
   ·obtain⟨c0,c1⟩:=hl k Aa;go_wp2
    ·go_ret;exact⟨bB (zBE Aa (by simp only[fL,Bool.and_eq_false_iff,decide_eq_false_iff_not];omega)).symm,rfl⟩
    ·go_round
     case rel=>exact⟨k+1,by omega,by go_num,zHa Aa HA.out (by simp only[fL,Bool.and_eq_true,decide_eq_true_eq];omega)⟩
     case measure=>simp[intOf];omega
    ·go_ret;exact⟨bB (zBE Aa (by simp only[fL,Bool.and_eq_false_iff,decide_eq_false_iff_not];omega)).symm,rfl⟩
   ·go_wp2;go_ret;refine⟨bB ?_,rfl⟩;have e:l.take k=l:=List.take_of_length_le (by omega);have:=HA.out;rw[e] at this;simp[iA,this,Iv]
 ·have hg:decide ((50:Int)<(l.length:Int))=true:=by simp;omega
  go_enter func30,ntmps30;go_wp2;go_ret;exact⟨bB (by simp[iA,Iv]),rfl⟩
theorem zAC (ao:Option Addr) (cap:Nat) (w:World):
  Calls p_ 30 #[.slice ao 0 cap] w fun e w'=>e=.returned (.bool true)/\w'=w:=by
 go_enter func30,ntmps30;go_wp2;refine wp_loop_rounds 1 ?_;rw[rounds_succ];go_wp2;go_ret;exact⟨rfl,rfl⟩
theorem gW {w w':World} {b off:Nat} {l:List (BA×BA)} (hb:Below w.heap.size w w') (h:iO w b off l):iO w' b off l:=
 fun i hi=>⟨aA hb (h i hi).1,aA hb (h i hi).2⟩
theorem zKD {l:List (BA×BA)} {f:BA×BA->Bool} {k:Nat} (hk:k<l.length) (h:(l.take k).any f=false) (h2:f l[k]=false):(l.take (k+1)).any f=false:=by
 rw[List.take_succ_eq_append_getElem hk,List.any_append,h];simp[h2]
theorem zLU {l:List (BA×BA)} {f:BA×BA->Bool} {k:Nat} (hk:k<l.length) (h:f l[k]=true):l.any f=true:=by
 rw[List.any_eq_true];exact⟨l[k],List.getElem_mem hk,h⟩
def bY (w:World) (ao:Option Addr) (l:List (BA×BA)):Prop:=l=[]∨∃ b off,ao=some ⟨b,off,none⟩/\iO w b off l
theorem lX {w w':World} {ao:Option Addr} {l:List (BA×BA)} (hb:Below w.heap.size w w') (h:bY w ao l):bY w' ao l:=by
 rcases h with h|⟨b,off,h,k⟩
 ·exact .inl h
 ·exact .inr ⟨b,off,h,gW hb k⟩
theorem zC8 {w w':World} {ao:Option Addr} {l:List (BA×BA)} (h:bY w ao l) (hk:∀ b off,ao=some ⟨b,off,none⟩->b<w.heap.size->w'.heap[b]?=w.heap[b]?):bY w' ao l:=by
 rcases h with h|⟨b,off,rfl,h⟩
 ·exact .inl h
 ·by_cases h0:l=[]
  ·exact .inl h0
  ·have hl:0<l.length:=List.length_pos_iff.2 h0;have e:=hk b off rfl (World.block_lt_of_cell? w _ (h 0 hl).1);exact .inr ⟨b,off,rfl,fun i hi=>⟨(b_ (w:=w) e).trans (h i hi).1,(b_ (w:=w) e).trans (h i hi).2⟩⟩
theorem vD (l:List (BA×BA)) (ao:Option Addr) (cap:Nat) (w:World) (hl:bY w ao l) (hn:l.length<=maxLen):
  Calls p_ 30 #[.slice ao l.length cap] w fun e w'=>e=.returned (.bool (iA l))/\w'=w:=by
 rcases hl with rfl|⟨b,off,rfl,h⟩
 ·exact zAC _ _ _
 ·exact yT l b off cap w h hn
end
section
open Go.RowKit Go.Joins Go.Shelf
attribute [local go_sem] Oper.semAt_some
structure yb where
 ed:Int
 val:ByteArray
 gone:Bool
def Vs (x:yb):Value:=.agg #[.int .i64 x.ed,.string x.val,.bool x.gone]
def zIN (w:World) (g:Nat) (l:List yb):Prop:=
 ∀ i (h:i<l.length),w.cell? ⟨g,i*3,none⟩=some (.int .i64 l[i].ed)/\w.cell? ⟨g,i*3+1,none⟩=some (.string l[i].val)/\w.cell? ⟨g,i*3+2,none⟩=some (.bool l[i].gone)
def fG {α:Type} (f:Nat->α) (k:Nat):List α:=(List.range k).map f
theorem yQ {α:Type} (f:Nat->α) (k:Nat):fG f (k+1)=fG f k++[f k]:=by simp[fG,List.range_succ]
theorem zDa {α:Type} (f:Nat->α) (k:Nat):(fG f k).length=k:=by simp[fG]
def fM (l:List yb) (j:Nat):Nat×yb:=(l.length-1-j,(l[l.length-1-j]?).getD ⟨0,ByteArray.empty,false⟩)
theorem zKY (F:Fence) (n:Nat) (hF:F.fn 256) (bh:F.round=none) (hn:1<=n) (l Bs n₀ b cap:Nat) (vs:List yb) (hlen:vs.length<=1000000) (hb:b<n₀) (hBl:Bs<n₀) (J Jx:List (Nat×yb)->World->Prop)
  (hY:∀ pre x W,J pre W->pre.length<vs.length->YieldAt F (n-1) p_ l #[.int .i64 (x.1:Int),Vs x.2] W fun e W'=>
   (e=.returned (.bool true)/\J (pre++[x]) W'/\Below n₀ W W')∨(e=.returned (.bool false)/\Jx (pre++[x]) W'))
  (W:World) (tu:W.cell? ⟨Bs,0,none⟩=some (.slice (some ⟨b,0,none⟩) vs.length cap)) (hc:zIN W b vs) (h0:J [] W):
  CallsIn F n p_ 256 #[.func (.yield l) #[] #[],.pointer (some ⟨Bs,0,none⟩)] W fun e W'=>(∃ v,e=.returned v)/\
   ((∃ ys,ys=fG (fM vs) vs.length/\J ys W')∨(∃ pre,(∃ k,k<=vs.length/\pre=fG (fM vs) k)/\Jx pre W')):=by
 refine callsIn_of_wp func256 rfl hF ?_ bh;simp only[ntmps256,List.size_toArray,List.length_cons,List.length_nil,Nat.reduceAdd,Nat.reduceSub,Array.replicate_succ,Array.replicate_zero,List.push_toArray,List.append_toArray,List.nil_append,List.cons_append]
 gi_wp2
 gi_loopw [3] (fun i wr=>∃ k:Nat,k<=vs.length/\i=.int .i64 ((vs.length:Int)-1-k)/\J (fG (fM vs) k) wr/\Below n₀ W wr)
  (fun i _=>(intOf i+1).toNat)
 case atStart=>exact⟨0,Nat.zero_le _,by simp,h0,r_ _ _⟩
 case round=>
  obtain⟨k,hk,rfl,Fx,Lo⟩:=hrel;have UH:=(Lo.cell (p:=⟨Bs,0,none⟩) hBl).trans tu;by_cases Aa:k<vs.length
  ·obtain⟨p,hp⟩:∃ p,p=vs.length-1-k:=⟨_,rfl⟩;have Mo:p<vs.length:=by omega
   have OP:(vs.length:Int)-1-(k:Int)=(p:Int):=by omega
   have Xl:fM vs k=(p,vs[p]):=by unfold fM;rw[<-hp,List.getElem?_eq_getElem Mo];rfl
   obtain⟨fn,tmps,assign,body,hy,hR⟩:=hY _ (p,vs[p]) wr Fx (by rw[zDa];exact Aa);dsimp only[Vs] at hy;obtain⟨d0,d1,d2⟩:=hc p Mo;have c0:=(Lo.cell (p:=⟨b,p*3,none⟩) hb).trans d0;have c1:=(Lo.cell (p:=⟨b,p*3+1,none⟩) hb).trans d1;have c2:=(Lo.cell (p:=⟨b,p*3+2,none⟩) hb).trans d2;have HP:Hid (p=vs.length-1-k):=hp;have Jz:Hid (fM vs k=(p,vs[p])):=Xl;clear hp Xl d0 d1 d2;rw[OP];have HPI:Hid ((vs.length:Int)-1-(k:Int)=(p:Int)):=OP;clear OP
   gi_wp2
   refine hR.mono ?_;rintro e W3 (⟨rfl,XM,Bk⟩|⟨rfl,Gx⟩)
   ·gi_wp2
    go_roundw
    case rel=>exact⟨k+1,by omega,by have:=HPI.out;congr 1;omega,by rw[yQ,Jz.out];exact XM,Lo.trans Bk⟩
    case measure=>simp[intOf]
   ·gi_wp2
    refine bodyPost_ret (results_none rfl _ _ _) rfl ?_;exact⟨⟨_,rfl⟩,.inr ⟨_,⟨k+1,by omega,by rw[yQ,Jz.out]⟩,Gx⟩⟩
  ·obtain rfl:k=vs.length:=by omega
   have e1:(vs.length:Int)-1-(vs.length:Int)=-1:=by omega
   rw[e1]
   gi_wp2
   go_end0;exact⟨⟨_,rfl⟩,.inl ⟨_,rfl,Fx⟩⟩
theorem zCG (F:Fence) (n:Nat) (hF:F.fn 256) (bh:F.round=none) (l Bs:Nat) (J:List (Nat×yb)->World->Prop) (W:World) (tu:W.cell? ⟨Bs,0,none⟩=some (.slice none 0 0)) (h0:J [] W):
  CallsIn F n p_ 256 #[.func (.yield l) #[] #[],.pointer (some ⟨Bs,0,none⟩)] W fun e W'=>(∃ v,e=.returned v)/\J [] W':=by
 refine callsIn_of_wp func256 rfl hF ?_ bh;simp only[ntmps256,List.size_toArray,List.length_cons,List.length_nil,Nat.reduceAdd,Nat.reduceSub,Array.replicate_succ,Array.replicate_zero,List.push_toArray,List.append_toArray,List.nil_append,List.cons_append]
 gi_wp2
 gi_loopw [3] (fun i wr=>i=.int .i64 (-1)/\J [] wr) (fun _ _=>0)
 case atStart=>exact⟨rfl,h0⟩
 case round=>
  obtain⟨rfl,Fx⟩:=hrel
  gi_wp2
  go_end0;exact⟨⟨_,rfl⟩,Fx⟩
theorem zL5 (F:Fence) (n:Nat) (hF:F.fn 221) (bh:F.round=none) (a:Option Addr) (len cap:Nat) (w:World):
  CallsIn F n p_ 221 #[.slice a len cap] w fun e w'=>e=.returned (.func (.func 256) #[] #[.pointer (some ⟨w.heap.size,0,none⟩)])/\w'=w.alloc (.cells #[.slice a len cap] 177):=by
 refine callsIn_of_wp func221 rfl hF ?_ bh;simp only[ntmps221,List.size_toArray,List.length_cons,List.length_nil,Nat.reduceAdd,Nat.reduceSub,Array.replicate_succ,Array.replicate_zero,List.push_toArray,List.append_toArray,List.nil_append,List.cons_append]
 gi_wp2
 go_ret;exact⟨rfl,rfl⟩
def jH (n₀:Nat) (W:World) (ao:Option Addr) (cap:Nat) (vs:List yb):Prop:=(ao=none/\cap=0/\vs=[])∨∃ b,ao=some ⟨b,0,none⟩/\b<n₀/\zIN W b vs
theorem jH.below {n₀:Nat} {A B:World} (h:Below n₀ A B) {ao:Option Addr} {cap:Nat} {vs:List yb}:jH n₀ A ao cap vs->jH n₀ B ao cap vs
 | .inl e=>.inl e
 | .inr ⟨b,e,hb,hc⟩=>.inr ⟨b,e,hb,fun i hi=>⟨(h.cell (p:=⟨b,i*3,none⟩) hb).trans (hc i hi).1,(h.cell (p:=⟨b,i*3+1,none⟩) hb).trans (hc i hi).2.1,(h.cell (p:=⟨b,i*3+2,none⟩) hb).trans (hc i hi).2.2⟩⟩
theorem zFD (F:Fence) (n:Nat) (hF:F.fn 256) (bh:F.round=none) (hn:1<=n) (Bs n₀:Nat) (ao:Option Addr) (cap:Nat) (vs:List yb) (hlen:vs.length<=1000000) (w:World) (tu:Bs<n₀) (hn₀:n₀<=w.heap.size)
  (hc:w.cell? ⟨Bs,0,none⟩=some (.slice ao vs.length cap)) (hI:jH n₀ w ao cap vs):
  SeqStopsK F n p_ 256 #[.pointer (some ⟨Bs,0,none⟩)] (fun x:Nat×yb=>#[i_ .i64 (x.1:Int),Vs x.2]) (Below n₀) (fun ys=>ys=fG (fM vs) vs.length) (fun pre=>∃ k,k<=vs.length/\pre=fG (fM vs) k) vs.length w:=fun l J Jx W hW _ _ hY h0=>by
 have JC:=(hW.cell (p:=⟨Bs,0,none⟩) (by show Bs<_;omega)).trans hc;rcases hI.below (hW.mono hn₀) with⟨rfl,rfl,rfl⟩|⟨b,rfl,hb,Yf⟩
 ·exact(zCG F n hF bh l Bs J W JC h0).mono fun e W' ⟨he,hj⟩=>⟨he,.inl ⟨_,rfl,hj⟩⟩
 ·exact zKY F n hF bh hn l Bs n₀ b cap vs hlen hb tu J Jx hY W JC Yf h0
def fO (vs:List yb) (n:Int):Int:=match (vs.reverse.findIdx? fun x=>decide (x.ed<=n)) with
 | some j=>(vs.length:Int)-1-j
 | none=>-1
theorem zLs (vs:List yb) (k:Nat) (hk:k<=vs.length):(fG (fM vs) k).map (·.2)=vs.reverse.take k:=by
 apply List.ext_getElem
 ·simp[fG];omega
 ·intro i h1 h2;have hi:i<k:=by simpa[fG] using h1
  have:vs.length-1-i<vs.length:=by omega
  simp[fG,fM,this]
theorem zIZ {vs:List yb} {n:Int} (h:∀ y∈fG (fM vs) vs.length,n<y.2.ed):fO vs n=-1:=by
 unfold fO;have:vs.reverse.findIdx? (fun x=>decide (x.ed<=n))=none:=by
  rw[List.findIdx?_eq_none_iff];intro x hx;have e:=zLs vs vs.length (n_ _);rw[List.take_of_length_le (by simp)] at e;rw[<-e] at hx;obtain⟨y,hy,rfl⟩:=List.mem_map.1 hx;have:=h y hy;simp;omega
 rw[this]
theorem zJw {vs:List yb} {n:Int} {k:Nat} (hk:k<=vs.length) {pre:List (Nat×yb)} {x:Nat×yb} (e:pre++[x]=fG (fM vs) k) (h:∀ y∈pre,n<y.2.ed) (hx:x.2.ed<=n):fO vs n=(x.1:Int)/\x.1<vs.length/\vs[x.1]?=some x.2:=by
 have Ui:k=pre.length+1:=by have:=congrArg List.length e;simp[fG] at this;omega
 have jo:(fG (fM vs) k)[pre.length]?=some x:=by rw[<-e];simp
 have Ou:fM vs pre.length=x:=by
  have Aa:pre.length<k:=by omega
  simpa[fG,Aa] using jo
 have h1:x.1=vs.length-1-pre.length:=by rw[<-Ou];rfl
 have h2:vs[x.1]?=some x.2:=by
  rw[h1,<-Ou];unfold fM;rw[List.getElem?_eq_getElem (by omega)];rfl
 refine⟨?_,by omega,h2⟩;unfold fO;have hf:vs.reverse.findIdx? (fun x=>decide (x.ed<=n))=some pre.length:=by
  rw[List.findIdx?_eq_some_iff_getElem];have hr:∀ j (hj:j<vs.reverse.length),vs.reverse[j]=(fM vs j).2:=by
   intro j hj;have Td:j<vs.length:=by simpa using hj
   unfold fM;rw[List.getElem_reverse,List.getElem?_eq_getElem (by omega)];rfl
  refine⟨by simp;omega,?_,fun j hj=>?_⟩
  ·rw[hr,Ou];simpa using hx
  ·rw[hr];have hy:fM vs j∈pre:=by
    have:(fG (fM vs) k)[j]?=some (fM vs j):=by
     have:j<k:=by omega
     simp[fG,this]
    rw[<-e,List.getElem?_append_left hj] at this;exact List.mem_of_getElem? this
   have:=h _ hy;simp;omega
 rw[hf];show(vs.length:Int)-1-(pre.length:Int)=(x.1:Int);omega
end
section
open Go.RowKit Go.Joins
theorem pH (f t k:ByteArray) (w:World):
  Calls p_ 158 #[.agg #[.string f,.string t],.string k] w fun e w'=>e=.returned (.bool (Fb f t k))/\Below w.heap.size w w':=by
 go_enter func158,ntmps158;go_wp2
 all_goals
  go_ret;refine⟨?_,a_ _ _⟩;simp_all [Fb,ng,jb,Gf]
theorem GJ (f t k:ByteArray) (w:World):
  Calls p_ 91 #[.agg #[.string f,.string t],.string k] w fun e w'=>e=.returned (.bool (Fb f t k))/\Below w.heap.size w w':=by
 go_enter func91,ntmps91;go_wp2
 all_goals
  go_ret;refine⟨?_,a_ _ _⟩;simp_all [Fb,ng,jb,Gf]
structure aU where
 n:Int
 keys:List BA
def Ad (ds:List aU) (n:Int):Nat:=ds.findIdx fun d=>!decide (d.n<n)
def iN (ds:List aU) (n:Int):Bool:=match ds[Ad ds n]? with
 | some d=>d.n==n
 | none=>false
def cR (ds:List aU) (n:Int):Nat:=if iN ds n=true then Ad ds n+1 else Ad ds n
def gS (ds:List aU):Prop:=ds.Pairwise fun a b=>a.n<b.n
theorem zE3 (ds:List aU) (n:Int):Ad ds n<=ds.length:=List.findIdx_le_length
theorem zFd {ds:List aU} {n:Int} {i:Nat} (hi:i<=ds.length) (h1:∀ m (hm:m<ds.length),m<i->ds[m].n<n) (h2:∀ m (hm:m<ds.length),i<=m->n<=ds[m].n):Ad ds n=i:=by
 unfold Ad;rcases Nat.lt_trichotomy (ds.findIdx fun d=>!decide (d.n<n)) i with h|h|h
 ·have hl:ds.findIdx (fun d=>!decide (d.n<n))<ds.length:=by omega
  have:=List.findIdx_getElem (p:=fun d:aU=>!decide (d.n<n)) (xs:=ds) (w:=hl);have h3:=h1 _ hl h;simp[h3] at this
 ·exact h
 ·have hl:i<ds.length:=Nat.lt_of_lt_of_le h List.findIdx_le_length;have:=List.not_of_lt_findIdx (p:=fun d:aU=>!decide (d.n<n)) (xs:=ds) (i:=i) h;have h3:=h2 i hl (n_ _);simp at this;omega
theorem nW {ds:List aU} (h:gS ds) {i j:Nat} (hj:j<ds.length) (Yx:i<j):(ds[i]'(by omega)).n<ds[j].n:=List.pairwise_iff_getElem.1 h i j (by omega) hj Yx
theorem zFi {ds:List aU} {n:Int} {m:Nat} (hm:m<ds.length) (h:m<Ad ds n):ds[m].n<n:=by
 have:=List.not_of_lt_findIdx (p:=fun d:aU=>!decide (d.n<n)) (xs:=ds) (i:=m) h;simpa using this
theorem OR {ds:List aU} (hr:gS ds) {n:Int} {m:Nat} (hm:m<ds.length) (h:Ad ds n<=m):n<=ds[m].n:=by
 have hl:Ad ds n<ds.length:=by omega
 have h1:=List.findIdx_getElem (p:=fun d:aU=>!decide (d.n<n)) (xs:=ds) (w:=hl);have h3:n<=(ds[ds.findIdx fun d=>!decide (d.n<n)]'hl).n:=by simpa using h1
 have h2:n<=(ds[Ad ds n]'hl).n:=h3;rcases Nat.lt_or_ge (Ad ds n) m with h'|h'
 ·have:=nW hr hm h';omega
 ·have e:Ad ds n=m:=by omega
  simpa[e] using h2
theorem zLC {ds:List aU} {n:Int} (h:∀ d∈ds,d.n<n):Ad ds n=ds.length/\iN ds n=false:=by
 have e:Ad ds n=ds.length:=zFd (n_ _) (fun m hm _=>h _ (List.getElem_mem hm)) (fun m hm h'=>by omega);exact⟨e,by rw[iN,e,List.getElem?_eq_none (n_ _)]⟩
theorem zBi (ds:List aU) (n:Int):cR ds n<=ds.length:=by
 unfold cR;split
 ·rename_i h;unfold iN at h;split at h
  ·rename_i d hd;have:=(List.getElem?_eq_some_iff.1 hd).1;omega
  ·cases h
 ·exact zE3 ds n
theorem zKx {ds:List aU} {n:Int} {m:Nat} (hm:m<ds.length) (h:m<cR ds n):ds[m].n<=n:=by
 unfold cR at h;split at h
 ·rename_i hk;rcases Nat.lt_or_ge m (Ad ds n) with h'|h'
  ·have:=zFi hm h';omega
  ·have e:m=Ad ds n:=by omega
   unfold iN at hk;rw[<-e,List.getElem?_eq_getElem hm] at hk;simp at hk;omega
 ·have:=zFi hm h;omega
theorem zKA {ds:List aU} (hr:gS ds) {n:Int} {m:Nat} (hm:m<ds.length) (h:cR ds n<=m):n<ds[m].n:=by
 unfold cR at h;split at h
 ·rename_i hk;have h1:Ad ds n<m:=by omega
  have h2:=OR hr (n:=n) (m:=Ad ds n) (by omega) (n_ _);have:=nW hr hm h1;omega
 ·rename_i hk;have h1:=OR hr hm h;rcases Nat.lt_or_ge (Ad ds n) m with h'|h'
  ·have h2:=OR hr (n:=n) (m:=Ad ds n) (by omega) (n_ _);have:=nW hr hm h';omega
  ·have e:m=Ad ds n:=by omega
   unfold iN at hk;rw[<-e,List.getElem?_eq_getElem hm] at hk;simp at hk;omega
theorem YS {ds:List aU} (hr:gS ds) (n:Int):ds.drop (cR ds n)=ds.filter fun d=>decide (n<d.n):=by
 conv=>rhs;rw[<-List.take_append_drop (cR ds n) ds]
 rw[List.filter_append];have h1:(ds.take (cR ds n)).filter (fun d=>decide (n<d.n))=[]:=by
  rw[List.filter_eq_nil_iff];intro d hd;obtain⟨m,hm,rfl⟩:=List.mem_iff_getElem.1 hd;rw[List.length_take] at hm;have:=zKx (ds:=ds) (n:=n) (m:=m) (by omega) (by omega);rw[List.getElem_take];simp;omega
 have h2:(ds.drop (cR ds n)).filter (fun d=>decide (n<d.n))=ds.drop (cR ds n):=by
  rw[List.filter_eq_self];intro d hd;obtain⟨m,hm,rfl⟩:=List.mem_iff_getElem.1 hd;rw[List.length_drop] at hm;have:=zKA hr (n:=n) (m:=cR ds n+m) (by omega) (by omega);rw[List.getElem_drop];simpa using this
 rw[h1,h2,List.nil_append]
def JT (vg:List (BA×BA)) (d:aU):Bool:=d.keys.any fun k=>vg.any fun s=>Fb s.1 s.2 k
def lC (ds:List aU) (vg:List (BA×BA)) (since:Int):Bool:=(ds.drop (cR ds since)).all fun d=>!JT vg d
theorem zFu {ds:List aU} (hr:gS ds) (k:Nat):gS (ds.drop k):=hr.drop
theorem zMr {ds:List aU} (hr:gS ds) (vg:List (BA×BA)) (since:Int):lC ds vg since=(ds.filter fun d=>decide (since<d.n)).all fun d=>!JT vg d:=by
 unfold lC;rw[YS hr]
theorem rY (l:List ma) (b off cap:Nat) (key:ByteArray) (w:World) (hl:dG w b off l) (hn:l.length<=9223372036854775806):
  Calls p_ 142 #[.slice (some ⟨b,off,none⟩) l.length cap,.string key] w fun e w'=>e=.returned (.tuple #[.int .i64 (cU l key),.bool (fB l key)])/\Below w.heap.size w w':=by
 go_enter func142,ntmps142;go_wp2
 go_loop [4] (fun i=>∃ k:Nat,k<=l.length/\i=.int .i64 k/\k<=cU l key) (fun i=>l.length-(intOf i).toNat)
 case atStart=>exact⟨0,Nat.zero_le _,rfl,Nat.zero_le _⟩
 case round=>
  obtain⟨k,hk,rfl,hp⟩:=hrel;by_cases Aa:k<l.length
  ·obtain⟨c0,_,_⟩:=hl k Aa;have Za:(k:Int)<(l.length:Int):=by omega
   cases hc:jb l[k].key key with
   | true=>
    have JC:Op.bytesLess l[k].key.toList key.toList=true:=hc;have HP:=aa (zEe hp Aa hc);clear hc;go_wp2
    go_round
    case rel=>exact⟨k+1,by omega,by go_num,HP.out⟩
    case measure=>simp[intOf];omega
   | false=>
    have JC:Op.bytesLess l[k].key.toList key.toList=false:=hc;have HE:=aa (FR hp (fun _=>hc));have HF:=aa (show fB l key=(l[k].key.toList==key.toList) by rw[fB,HE.out,List.getElem?_eq_getElem Aa];rfl);clear hc;go_wp2;go_quiet (fail);go_wp2;go_ret2;exact⟨by rw[HE.out,HF.out];rfl,below_draws _ _ _⟩
  ·have HE:=aa (FR hp (fun h=>absurd h Aa));have HF:=aa (show fB l key=false by rw[fB,HE.out,List.getElem?_eq_none (by omega)]);have hd:decide ((k:Int)<(l.length:Int))=false:=by simp;omega
   go_wp2;go_quiet (fail);go_wp2;go_ret2;exact⟨by rw[HE.out,HF.out];rfl,below_draws _ _ _⟩
theorem zAZ (ao:Option Addr) (cap:Nat) (key:ByteArray) (w:World):
  Calls p_ 142 #[.slice ao 0 cap,.string key] w fun e w'=>e=.returned (.tuple #[.int .i64 0,.bool false])/\Below w.heap.size w w':=by
 go_enter func142,ntmps142;go_wp2;refine wp_loop_rounds 1 ?_;rw[rounds_succ];go_wp2;go_quiet (fail);go_wp2;go_ret2;exact⟨rfl,below_draws _ _ _⟩
end
section
open Go.RowKit Go.Joins
attribute [local go_sem ↓] Go.wp_at_zero Go.wp_at_succ
theorem zL6 (a b:ByteArray) (w:World):
  Calls p_ 198 #[.string a,.string b] w fun e w'=>e=.returned (.string (pe a b))/\w'=w:=by
 have hm:=fun (w:World) (ts:Array TypeId) (t:TypeId)=>Lib.run_min_strs (P:=p_) w ts t a b;go_enter func198,ntmps198;go_wp2
 all_goals
  go_ret;refine⟨?_,rfl⟩;simp_all [pe,Gf]
theorem uT (k:ByteArray) (w:World) (hk:k.size<=1000):
  Calls p_ 76 #[.string k] w fun e w'=>e=.returned (.agg #[.string k,.string (cX k)])/\Below w.heap.size w w':=by
 go_enter func76,ntmps76;go_wp2;exact bodyPost_ret (v:=.agg #[.string k,.string (k++⟨#[0]⟩)]) (by simp[results,results76,go_sem]) rfl ⟨rfl,a_ _ _⟩
theorem zLA (af Mj bf bt:ByteArray) (w:World):
  Calls p_ 131 #[.agg #[.string af,.string Mj],.agg #[.string bf,.string bt]] w fun e w'=>e=.returned (.agg #[.string (Lib.maxS af bf),.string (pe Mj bt)])/\Below w.heap.size w w':=by
 have hm:=fun (w:World) (ts:Array TypeId) (t:TypeId)=>Lib.run_max_strs (P:=p_) w ts t af bf;go_enter func131,ntmps131;go_wp2
 go_region_held3 (fun w'=>w'.cell? ⟨w.heap.size,0,none⟩=some (.string af)/\w'.cell? ⟨w.heap.size,1,none⟩=some (.string Mj)/\w'.cell? ⟨w.heap.size+1,0,none⟩=some (.string bf)/\w'.cell? ⟨w.heap.size+1,1,none⟩=some (.string bt)) (go_keep) (first|(go_at_call 198;refine(zL6 _ _ _).mono ?_;rintro e w' ⟨rfl,rfl⟩))
 all_goals
  go_wp2;exact bodyPost_ret (v:=.agg #[.string (Lib.maxS af bf),.string (pe Mj bt)]) (by simp[results,results131,go_sem]) rfl ⟨rfl,(below_alloc3 _ _ _ _).drew⟩
end
section
open Go.RowKit Go.Joins
def td:List Value->Nat->List Value->List Value
 | xs,_,[]=>xs
 | xs,o,v::r=>td (xs.set o v) (o+1) r
theorem zDO:∀ (vs xs:List Value) (o:Nat),(td xs o vs).length=xs.length
 | [],_,_=>rfl
 | v::r,xs,o=>by rw[td,zDO r,List.length_set]
theorem vO:∀ (vs xs:List Value) (o i:Nat),i<o->(td xs o vs)[i]?=xs[i]?
 | [],_,_,_,_=>rfl
 | v::r,xs,o,i,h=>by rw[td,vO r _ _ _ (by omega),List.getElem?_set_ne (by omega)]
theorem ZR:∀ (vs xs:List Value) (o i:Nat),o<=i->i<o+vs.length->i<xs.length->(td xs o vs)[i]?=vs[i-o]?
 | [],_,o,i,h1,h2,_=>by simp at h2;omega
 | v::r,xs,o,i,h1,h2,h3=>by
  rw[td];rcases Nat.eq_or_lt_of_le h1 with e|e
  ·subst e;rw[vO r _ _ _ (by omega),List.getElem?_set_self h3];simp
  ·rw[ZR r _ _ _ (by omega) (by simp at h2;omega) (by simpa using h3)];obtain⟨d,rfl⟩:∃ d,i=o+1+d:=⟨i-(o+1),by omega⟩;rw[show o+1+d-(o+1)=d by omega,show o+1+d-o=d+1 by omega];rfl
theorem tN (vs xs:List Value) (o:Nat):(td xs o vs).take o=xs.take o:=by
 apply List.ext_getElem?;intro i;rw[List.getElem?_take,List.getElem?_take];split
 ·exact vO _ _ _ _ (by assumption)
 ·rfl
theorem tI (vs xs:List Value) (h:vs.length<=xs.length):(td xs 0 vs).take vs.length=vs:=by
 apply List.ext_getElem?;intro i;rw[List.getElem?_take];split
 ·rw[ZR _ _ _ _ (Nat.zero_le _) (by omega) (by omega)];rfl
 ·rw[List.getElem?_eq_none (by omega)]
theorem cT {B g n cap:Nat} {e:TypeId} {size:Nat}:∀ (vs:List Value) (o:Nat) (w:World) (xs:List Value),w.ownsRow B e size (.slice (some ⟨g,0,none⟩) n cap) n xs->
  (w.setCells g o vs).ownsRow B e size (.slice (some ⟨g,0,none⟩) n cap) n (td xs o vs)/\w.grownBy (w.setCells g o vs) (some g)
 | [],_,w,_,h=>⟨h,World.grownBy.refl w _⟩
 | v::r,o,w,xs,h=>by
  have h1:=h.stored o v;have h2:=cT r (o+1) _ _ h1.1;exact⟨h2.1,h1.2.trans h2.2⟩
theorem rT {w:World} {B g n m cap:Nat} {e:TypeId} {size:Nat} {xs:List Value} (h:w.ownsRow B e size (.slice (some ⟨g,0,none⟩) n cap) n xs) (hm:m<=n):w.ownsRow B e size (.slice (some ⟨g,0,none⟩) m cap) m (xs.take (m*size)):=by
 obtain⟨h1,h2⟩:=h;have fe:m*size<=n*size:=Nat.mul_le_mul_right _ hm;refine⟨by rw[List.length_take,h1];omega,?_⟩;rcases h2 with⟨e1,_⟩|⟨g',Pb,cur,e1,hb,hh,hn,hc,hs,ht⟩
 ·cases e1
 ·cases e1;refine .inr ⟨g,cap,cur,rfl,hb,hh,by omega,hc,hs,?_⟩;rw[<-ht,List.take_take,Nat.min_eq_left fe]
theorem cS {w:World} {B g n cap:Nat} {e:TypeId} {size:Nat} {xs:List Value} (h:w.ownsRow B e size (.slice (some ⟨g,0,none⟩) n cap) n xs) (j:Nat) (hj:j<n*size):(w.cell? ⟨g,j,none⟩).isSome=true/\w.frozen? ⟨g,j,none⟩=false:=by
 refine⟨?_,h.frozenAt j⟩;rw[h.cellAt j hj,List.getElem?_eq_getElem (by rw[h.1];exact hj)];rfl
theorem qG {P:Program} (w:World) (t e ty:TypeId) (z:Value) (ht:P.underlying t=some (.slice e)) (hv:∀ w,(zeroValue e).run P w=.ok z w) (b o n c:Nat) (hn:0<n) (h1:∀ u∈(Builtin.zeroCells z.cells n).toList,u.oneCell'=true)
  (hc:∀ j,j<n*z.cells.size->(w.cell? ⟨b,o+j,none⟩).isSome=true) (hf:∀ j,j<n*z.cells.size->w.frozen? ⟨b,o+j,none⟩=false):
  (Builtin.clear_ #[t] ty #[.slice (some ⟨b,o,none⟩) n c]).run P w=.ok (.tuple #[]) (w.setCells b o (Builtin.zeroCells z.cells n).toList):=by
 have hl:(Builtin.zeroCells z.cells n).toList.length=n*z.cells.size:=by rw[Array.length_toList,size_zeroCells]
 have Zb:=run_storeCells_cells (P:=P) b o (Builtin.zeroCells z.cells n).toList 0 w (by rw[hl];simpa using hc) (by rw[hl];simpa using hf) h1;simp only[Nat.add_zero] at Zb;obtain⟨m,rfl⟩:∃ m,n=m+1:=⟨n-1,by omega⟩;simp[Builtin.clear_,run_underlying ht,hv,Zb]
theorem kY {P:Program} (w:World) (dT sT ty Hn:TypeId) (m b o Gn ux:Nat) (a:Addr) (Gy BR:Nat) (cs:List Value)
  (hu:P.underlying dT=some (.slice Hn)) (hs:(P.info? Hn).map (·.size)=some m) (hn:cs.length=Nat.min Gy Gn*m)
  (As:∀ j v,cs[j]?=some v->w.cell? (a.add j)=some v) (hc:∀ j,j<cs.length->(w.cell? ⟨b,o+j,none⟩).isSome=true) (hf:∀ j,j<cs.length->w.frozen? ⟨b,o+j,none⟩=false) (h1:∀ v∈cs,v.oneCell'=true):
  (Builtin.copy_ #[dT,sT] ty #[.slice (some ⟨b,o,none⟩) Gn ux,.slice (some a) Gy BR]).run P w=.ok (goInt (Nat.min Gy Gn)) (w.setCells b o cs):=by
 have hl:=run_loadCells_list (P:=P) w a cs As;have Zb:=run_storeCells_cells (P:=P) b o cs 0 w (by simpa using hc) (by simpa using hf) h1
 cases hq:P.info? Hn with
 | none=>simp[hq] at hs
 | some i=>
  have hi:i.size=m:=by simpa[hq] using hs
  rw[hn] at hl;simp only[Nat.add_zero] at Zb;simp[Builtin.copy_,run_underlying hu,Builtin.lenOf,Builtin.firstCells,sizeOf,typeInfo,hq,hi,hl,Zb]
theorem zIG {w:World} {B g n m cap:Nat} {e:TypeId} {size:Nat} {xs:List Value} (h:w.ownsRow B e size (.slice (some ⟨g,0,none⟩) n cap) n xs) (hm:n<=m) (hc:m<=cap):∃ ys,ys.length=(m-n)*size/\w.ownsRow B e size (.slice (some ⟨g,0,none⟩) m cap) m (xs++ys):=by
 obtain⟨h1,h2⟩:=h;rcases h2 with⟨e1,_⟩|⟨g',Pb,cur,e1,hb,hh,hn,Au,hs,ht⟩
 ·cases e1
 ·cases e1;have fe:n*size<=m*size:=Nat.mul_le_mul_right _ hm;have hlc:m*size<=cap*size:=Nat.mul_le_mul_right _ hc;have hlen:cur.toList.length=cap*size:=by simpa using hs
  refine⟨(cur.toList.take (m*size)).drop (n*size),by rw[List.length_drop,List.length_take,hlen,Nat.min_eq_left hlc,Nat.sub_mul],?_,.inr ⟨g,cap,cur,rfl,hb,hh,hc,Au,hs,?_⟩⟩
  ·rw[List.length_append,h1,List.length_drop,List.length_take,hlen,Nat.min_eq_left hlc];omega
  ·rw[<-ht];have:cur.toList.take (n*size)=(cur.toList.take (m*size)).take (n*size):=by rw[List.take_take,Nat.min_eq_left fe]
   rw[this,List.take_append_drop]
theorem LR:∀ (vs xs:List Value) (o i:Nat),o+vs.length<=i->(td xs o vs)[i]?=xs[i]?
 | [],_,_,_,_=>rfl
 | v::r,xs,o,i,h=>by
  rw[td,LR r _ _ _ (by simp at h;omega),List.getElem?_set_ne (by simp at h;omega)]
theorem nH (vs xs:List Value) (o:Nat) (h:o+vs.length<=xs.length):td xs o vs=xs.take o++vs++xs.drop (o+vs.length):=by
 apply List.ext_getElem?;intro i;rcases Nat.lt_or_ge i o with h1|h1
 ·rw[vO _ _ _ _ h1,List.append_assoc,List.getElem?_append_left (by rw[List.length_take];omega),List.getElem?_take,if_pos h1]
 ·rcases Nat.lt_or_ge i (o+vs.length) with h2|h2
  ·rw[ZR _ _ _ _ h1 h2 (by omega),List.append_assoc,List.getElem?_append_right (by rw[List.length_take];omega),List.length_take,Nat.min_eq_left (by omega),List.getElem?_append_left (by omega)]
  ·rw[LR _ _ _ _ h2,List.getElem?_append_right (by rw[List.length_append,List.length_take];omega),List.length_append,List.length_take,Nat.min_eq_left (by omega),List.getElem?_drop,show o+vs.length+(i-(o+vs.length))=i by omega]
end
def vk (n i:Nat):UInt8:=UInt8.ofNat (48+n / 10 ^ i % 10)
def Ge (n:Nat):List UInt8:=[vk n 5,vk n 4,vk n 3,vk n 2,vk n 1,vk n 0]
theorem iU (n i:Nat):(vk n i).toNat=48+n / 10 ^ i % 10:=by
 have:n / 10 ^ i % 10<10:=Nat.mod_lt _ (by omega);simp[vk];omega
theorem zMs (n i:Nat):eZ (vk n i)=true:=by
 have:n / 10 ^ i % 10<10:=Nat.mod_lt _ (by omega);simp only[eZ,iU,Bool.and_eq_true,decide_eq_true_eq];omega
theorem CJ (n:Nat) (h:n<=999999):List.replicate (6-(Lib.decDigits n).length) 48++Lib.decDigits n=Ge n:=by
 have z:∀ i,n / 10 ^ i=0->vk n i=48:=fun i hi=>by simp[vk,hi]
 have e:=Lib.decDigits_eq n;have hd:∀ t,Lib.dg n t=vk n t:=fun _=>rfl;by_cases h1:n<10
 ·have k:Lib.nDigits n=1:=by rw[Lib.nDigits,dif_pos h1]
  rw[e,k];simp[Ge,hd,List.range_succ,z 5 (by omega),z 4 (by omega),z 3 (by omega),z 2 (by omega),z 1 (by omega),List.replicate_succ]
 ·by_cases h2:n<100
  ·have k:Lib.nDigits n=2:=by rw[Lib.nDigits,dif_neg h1,Lib.nDigits,dif_pos (by omega)]
   rw[e,k];simp[Ge,hd,List.range_succ,z 5 (by omega),z 4 (by omega),z 3 (by omega),z 2 (by omega),List.replicate_succ]
  ·by_cases h3:n<1000
   ·have k:Lib.nDigits n=3:=by rw[Lib.nDigits,dif_neg h1,Lib.nDigits,dif_neg (by omega),Lib.nDigits,dif_pos (by omega)]
    rw[e,k];simp[Ge,hd,List.range_succ,z 5 (by omega),z 4 (by omega),z 3 (by omega),List.replicate_succ]
   ·by_cases h4:n<10000
    ·have k:Lib.nDigits n=4:=by rw[Lib.nDigits,dif_neg h1,Lib.nDigits,dif_neg (by omega),Lib.nDigits,dif_neg (by omega),Lib.nDigits,dif_pos (by omega)]
     rw[e,k];simp[Ge,hd,List.range_succ,z 5 (by omega),z 4 (by omega),List.replicate_succ]
    ·by_cases h5:n<100000
     ·have k:Lib.nDigits n=5:=by rw[Lib.nDigits,dif_neg h1,Lib.nDigits,dif_neg (by omega),Lib.nDigits,dif_neg (by omega),Lib.nDigits,dif_neg (by omega),Lib.nDigits,dif_pos (by omega)]
      rw[e,k];simp[Ge,hd,List.range_succ,z 5 (by omega)]
     ·have k:Lib.nDigits n=6:=by rw[Lib.nDigits,dif_neg h1,Lib.nDigits,dif_neg (by omega),Lib.nDigits,dif_neg (by omega),Lib.nDigits,dif_neg (by omega),Lib.nDigits,dif_neg (by omega),Lib.nDigits,dif_pos (by omega)]
      rw[e,k];simp[Ge,hd,List.range_succ]
theorem zL9 (n:Nat) (h:n<=999999):(Lib.decDigits n).length<=6:=by
 have:=congrArg List.length (CJ n h);rw[List.length_append,List.length_replicate] at this;have h6:(Ge n).length=6:=rfl;omega
theorem Ss (n:Nat) (h:n<=999999):n=100000*(n / 100000 % 10)+10000*(n / 10000 % 10)+1000*(n / 1000 % 10)+100*(n / 100 % 10)+10*(n / 10 % 10)+n % 10:=by omega
theorem zM6 (n m i:Nat):(vk n i<vk m i)↔n / 10 ^ i % 10<m / 10 ^ i % 10:=by
 rw[UInt8.lt_iff_toNat_lt,iU,iU];omega
theorem zM5 (n m i:Nat):(vk n i=vk m i)↔n / 10 ^ i % 10=m / 10 ^ i % 10:=by
 rw[<-UInt8.toNat_inj,iU,iU];omega
theorem zMS (n m:Nat) (hn:n<=999999) (hm:m<=999999):Op.bytesLess (Ge n) (Ge m)=decide (n<m):=by
 have en:=Ss n hn;have em:=Ss m hm;have b:=fun (x i:Nat)=>Nat.mod_lt (x / 10 ^ i) (show 10 > 0 by omega);have n0:=b n 0;have n1:=b n 1;have n2:=b n 2;have n3:=b n 3;have n4:=b n 4;have n5:=b n 5;have m0:=b m 0;have m1:=b m 1;have m2:=b m 2;have m3:=b m 3;have m4:=b m 4;have m5:=b m 5;rw[Bool.eq_iff_iff];simp only[Ge,Op.bytesLess,Bool.or_eq_true,Bool.and_eq_true,decide_eq_true_eq,beq_iff_eq,zM6,zM5];simp only[Nat.reducePow,Nat.div_one] at *;generalize n / 100000 % 10=a5 at *;generalize n / 10000 % 10=a4 at *;generalize n / 1000 % 10=a3 at *;generalize n / 100 % 10=a2 at *;generalize n / 10 % 10=a1 at *;generalize n % 10=a0 at *;generalize m / 100000 % 10=b5 at *;generalize m / 10000 % 10=b4 at *;generalize m / 1000 % 10=b3 at *;generalize m / 100 % 10=b2 at *;generalize m / 10 % 10=b1 at *;generalize m % 10=b0 at *;subst en em;simp only[Bool.false_eq_true,and_false,or_false];omega
theorem xC {l:List UInt8} (h:bK l=true):∀ c∈l,c≠47:=by
 intro c hc e;subst e;obtain⟨i,hi,hx⟩:=List.mem_iff_getElem.1 hc;simp only[bK,Bool.and_eq_true] at h;have h2:=h.2;rw[jJ,List.all_eq_true] at h2;have:=h2 i (List.mem_range.2 hi);rw[List.getD_eq_getElem?_getD,List.getElem?_eq_getElem hi,hx] at this;simp[gR,mL,eZ] at this
theorem sM {l:List UInt8} (h:∀ c∈l,c≠47) (r:List UInt8):Lib.indexByte (l++47::r) 47=l.length:=by
 induction l with
 | nil=>simp[Lib.indexByte]
 | cons c l ih=>
  have hc:(c==47)=false:=beq_eq_false_iff_ne.2 (h c (by simp));have i:=ih (fun x hx=>h x (by simp[hx]));simp only[List.cons_append,Lib.indexByte,hc,i];have:((l.length:Int) == -1)=false:=beq_eq_false_iff_ne.2 (by omega);simp[this]
theorem zEy (p k:List UInt8):((Op.bytesLess (p++[47]) k || (p++[47])==k)&&Op.bytesLess k (p++[48]))=(p++[47]).isPrefixOf k:=by
 induction p generalizing k with
 | nil=>
  cases k with
  | nil=>rfl
  | cons d r=>
   rw[Bool.eq_iff_iff];simp only[List.nil_append,Op.bytesLess,List.isPrefixOf,Bool.and_eq_true,Bool.or_eq_true,decide_eq_true_eq,beq_iff_eq,UInt8.lt_iff_toNat_lt];have n47:(47:UInt8).toNat=47:=rfl;have n48:(48:UInt8).toNat=48:=rfl;have hd:(47:UInt8)=d↔d.toNat=47:=⟨fun e=>by rw[<-e];rfl,fun e=>UInt8.toNat_inj.1 (by rw[e];rfl)⟩;rw[n47,n48,hd];simp only[Bool.false_eq_true,and_false,or_false,and_true];constructor
   ·rintro⟨h|h,h2⟩
    ·omega
    ·rw[<-List.cons.inj h |>.1] ; rfl
   ·intro e;refine⟨?_,by omega⟩;have e':=hd.2 e
    cases r with
    | nil=>right;rw[<-e']
    | cons x r=>left;right;exact⟨e,rfl⟩
 | cons c p ih=>
  cases k with
  | nil=>simp[Op.bytesLess]
  | cons d k=>
   have:=ih k;simp only[List.cons_append,Op.bytesLess,List.isPrefixOf,List.cons_beq_cons];by_cases e:c=d
   ·subst e;have n:¬c<c:=by simp
    simp only[n,decide_false,Bool.false_or,beq_self_eq_true,Bool.true_and];exact this
   ·have e1:(c==d)=false:=beq_eq_false_iff_ne.2 e;have e2:(d==c)=false:=beq_eq_false_iff_ne.2 (Ne.symm e);rw[e1,e2];by_cases l:c<d
    ·have n:¬d<c:=by rw[UInt8.lt_iff_toNat_lt] at *;omega
     simp[l,n]
    ·simp[l]
theorem lS (k:List UInt8) (a b:UInt8):Lib.hasPrefix k [a,b]=(k.take 2==[a,b]):=by
 match k with
 | []=>simp[Lib.hasPrefix]
 | [x]=>simp[Lib.hasPrefix,List.isPrefixOf]
 | x::y::r=>
  rw[Bool.eq_iff_iff];simp[Lib.hasPrefix];constructor
  ·rintro⟨rfl,rfl⟩;exact⟨rfl,rfl⟩
  ·rintro⟨rfl,rfl⟩;exact⟨rfl,rfl⟩
theorem qI (k:List UInt8) (a b:UInt8):jE k [a,b]=((k.take 2==[a,b])&&bK (k.drop 2)):=by
 unfold jE;rw[lS]
 cases h:k.take 2==[a,b] with
 | false=>rfl
 | true=>
  have:Lib.hasPrefix k [a,b]=true:=by rw[lS,h]
  rw[Lib.trimPrefix,if_pos this];rfl
theorem uP (k:List UInt8):kW k=(decide (10<=k.length)&&((k.take 2==[109,47])&&((k.getD (k.length-7) 0==47)&&(bK ((k.drop 2).take (k.length-9))&&qN (k.drop (k.length-6)) 6)))):=by
 unfold kW;rw[lS]
 cases h:k.take 2==[109,47] with
 | false=>simp
 | true=>
  have hp:Lib.hasPrefix k [109,47]=true:=by rw[lS,h]
  rw[Lib.trimPrefix,if_pos hp];have hk:∃ r,k=109::47::r:=by
   match k,h with
   | [],h=>simp at h
   | [x],h=>simp at h
   | x::y::r,h=>
    simp at h;exact⟨r,by rw[h.1,h.2]⟩
  obtain⟨r,rfl⟩:=hk;simp only[List.length_cons,List.length_nil,Nat.zero_add,Nat.reduceAdd,List.drop_succ_cons,List.drop_zero,Bool.true_and];rw[Bool.eq_iff_iff];simp only[nY,Bool.and_eq_true,decide_eq_true_eq,beq_iff_eq];constructor
  ·rintro⟨h0,hn,hs⟩;obtain⟨i,hi⟩:∃ i:Nat,Lib.indexByte r 47=i:=⟨_,(Int.toNat_of_nonneg h0).symm⟩;rw[hi,Int.toNat_natCast] at hn hs;have Dl:=hs;have yl:=hn;simp only[ui,Bool.and_eq_true,decide_eq_true_eq,List.length_drop] at Dl;simp only[bK,Bool.and_eq_true,decide_eq_true_eq,List.length_take] at yl;have hlen:r.length=i+7:=by omega
   have Sc:r[i]?=some 47:=(Lib.indexByte_some hi).1;refine⟨by omega,?_,?_,?_⟩
   ·have e:r.length+1+1-7=i+2:=by omega
    rw[e,List.getD_eq_getElem?_getD];simp[Sc]
   ·have e:r.length+1+1-9=i:=by omega
    rw[e];exact hn
   ·have e:r.length+1+1-6=i+1+2:=by omega
    rw[e];simp only[List.drop_succ_cons];have:=Dl.2;rwa [show r.length-(i+1)=6 by omega] at this
  ·rintro⟨uq,hc,hn,hd⟩;obtain⟨i,hlen⟩:∃ i,r.length=i+7:=⟨r.length-7,by omega⟩;have e1:r.length+1+1-7=i+2:=by omega
   have e2:r.length+1+1-9=i:=by omega
   have e3:r.length+1+1-6=i+1+2:=by omega
   rw[e1] at hc;rw[e2] at hn;rw[e3] at hd;simp only[List.drop_succ_cons] at hd;have hi:i<r.length:=by omega
   have Sc:r[i]=47:=by
    rw[List.getD_eq_getElem?_getD] at hc;simpa[List.getElem?_eq_getElem hi] using hc
   have hr:r=r.take i++47::r.drop (i+1):=by
    rw[<-Sc,List.getElem_cons_drop,List.take_append_drop]
   have NO:Lib.indexByte r 47=(i:Int):=by
    rw[hr,sM (xC hn)];simp;omega
   rw[NO,Int.toNat_natCast];refine⟨by omega,hn,?_⟩;simp only[ui,Bool.and_eq_true,decide_eq_true_eq,List.length_drop];refine⟨by omega,?_⟩;rw[show r.length-(i+1)=6 by omega];exact hd
theorem zOk {k:List UInt8} (h:k.take 2=[116,47]∨k.take 2=[113,47]):Fc k=bK (k.drop 2):=by
 unfold Fc;rw[qI,qI,uP];rcases h with h|h<;>simp[h]
theorem zKl {k:List UInt8} (h:k.take 2≠[116,47]) (h':k.take 2≠[113,47]):Fc k=kW k:=by
 unfold Fc;rw[qI,qI];simp[beq_eq_false_iff_ne.2 h,beq_eq_false_iff_ne.2 h']
theorem zOl {k:List UInt8} (h:k.length<=2):Fc k=false:=by
 unfold Fc;rw[qI,qI,uP];have e:bK (k.drop 2)=false:=by rw[List.drop_eq_nil_of_le h];rfl
 rw[e];simp;omega
def Hc (s:BA):BA:=⟨#[113,47]⟩++s
def aZ (q:BA):BA:=⟨#[109,47]⟩++q++⟨#[47]⟩
def Jb (q:BA):BA:=⟨#[109,47]⟩++q++⟨#[48]⟩
def Ta (q:BA) (n:Nat):BA:=aZ q++⟨(Ge n).toArray⟩
theorem zMT (s:BA):(Hc s).data.toList=113::47::s.data.toList:=by simp[Hc,ByteArray.data_append]
theorem rI (s:BA):(aZ s).data.toList=109::47::(s.data.toList++[47]):=by simp[aZ,ByteArray.data_append]
theorem zNc (s:BA):(Jb s).data.toList=109::47::(s.data.toList++[48]):=by simp[Jb,ByteArray.data_append]
theorem mN (s:BA) (n:Nat):(Ta s n).data.toList=109::47::(s.data.toList++47::Ge n):=by
 simp[Ta,ByteArray.data_append,rI]
theorem kG {a b:BA} (h:a.data.toList=b.data.toList):a=b:=gV (by rw[Lib.toList_data,Lib.toList_data,h])
theorem zGi {a b:List UInt8} (ha:∀ c∈a,c≠47) (hb:∀ c∈b,c≠47) {x y:List UInt8} (h:a++47::x=b++47::y):a=b/\x=y:=by
 have e1:=sM ha x;have e2:=sM hb y;rw[h,e2] at e1;have l:b.length=a.length:=by omega
 exact⟨(List.append_inj h l.symm).1,(List.cons.inj (List.append_inj h l.symm).2).2⟩
theorem zCP (q k:BA):Fb (aZ q) (Jb q) k=(aZ q).data.toList.isPrefixOf k.data.toList:=by
 have e:=zEy (109::47::q.data.toList) k.data.toList;unfold Fb ng jb Gf;simp only[Lib.toList_data];rw[rI,zNc] at *;simp only[List.cons_append] at e;rw[<-e];simp
theorem zKW {a b:BA} (ha:bK a.data.toList=true) (hb:bK b.data.toList=true) (m:Nat):Fb (aZ a) (Jb a) (Ta b m)=bc a b:=by
 rw[zCP,Bool.eq_iff_iff,List.isPrefixOf_iff_prefix,eV,rI,mN];constructor
 ·rintro⟨t,ht⟩;simp only[List.cons_append,List.append_assoc,List.cons.injEq,true_and,List.nil_append] at ht;exact kG (zGi (xC ha) (xC hb) ht).1
 ·rintro rfl;exact⟨Ge m,by simp⟩
theorem zKp (p x y:List UInt8):Op.bytesLess (p++x) (p++y)=Op.bytesLess x y:=by
 induction p with
 | nil=>rfl
 | cons c p ih=>simp[Op.bytesLess,ih]
theorem zM1 (a:BA) {n m:Nat} (hn:n<=999999) (hm:m<=999999):jb (Ta a n) (Ta a m)=decide (n<m):=by
 unfold jb;rw[Lib.toList_data,Lib.toList_data,mN,mN];have:=zKp (109::47::(a.data.toList++[47])) (Ge n) (Ge m);simp only[List.cons_append,List.append_assoc,List.nil_append] at this;rw[this,zMS n m hn hm]
theorem DS {s:BA} (h:bK s.data.toList=true):s.size<=6:=by
 simp only[bK,Bool.and_eq_true,decide_eq_true_eq,fR] at h;omega
theorem pS (q:BA) (n:Nat):(Ta q n).size=q.size+9:=by
 rw[Lib.size_eq,mN,Lib.size_eq];simp[Ge]
theorem zAv (l r:List UInt8) (BM:Nat):Lib.decFrom BM (l++r)=(Lib.decFrom BM l).bind fun m=>Lib.decFrom m r:=by
 induction l generalizing BM with
 | nil=>simp[Lib.decFrom]
 | cons b l ih=>
  simp only[List.cons_append,Lib.decFrom]
  cases Lib.digitVal b with
  | none=>rfl
  | some d=>exact ih _
theorem wG (d:Nat) (h:d<10):Lib.digitVal (UInt8.ofNat (48+d))=some d:=by
 have:(UInt8.ofNat (48+d)).toNat=48+d:=by simp;omega
 simp only[Lib.digitVal,this];rw[if_pos (by omega)];simp
theorem zDQ (n:Nat):Lib.decFrom 0 (Lib.decDigits n)=some n:=by
 induction n using Nat.strongRecOn with
 | _ n ih=>
  rw[Lib.decDigits];by_cases h:n<10
  ·rw[dif_pos h];simp only[Lib.decFrom,wG n h];simp
  ·rw[dif_neg h,zAv,ih (n / 10) (by omega)];simp only[Option.bind_some,Lib.decFrom,wG (n % 10) (Nat.mod_lt _ (by omega))];congr 1;omega
theorem DG (n:Nat):∀ c∈Lib.decDigits n,eZ c=true:=by
 have one:∀ d,d<10->eZ (UInt8.ofNat (48+d))=true:=fun d hd=>by
  have:(UInt8.ofNat (48+d)).toNat=48+d:=by simp;omega
  simp only[eZ,this,Bool.and_eq_true,decide_eq_true_eq];omega
 induction n using Nat.strongRecOn with
 | _ n ih=>
  intro c hc;rw[Lib.decDigits] at hc;by_cases h:n<10
  ·rw[dif_pos h] at hc;simp at hc;rw[hc];simpa using one n h
  ·rw[dif_neg h,List.mem_append] at hc;rcases hc with hc|hc
   ·exact ih (n / 10) (by omega) c hc
   ·simp at hc;rw[hc];simpa using one (n % 10) (by omega)
theorem rM {c:UInt8} (h:eZ c=true) (x:UInt8) (hx:eZ x=false):c≠x:=by
 rintro rfl;rw[h] at hx;cases hx
theorem MT (n:Nat):Lib.decDigits n≠[]:=by
 rw[Lib.decDigits];split<;>simp
theorem zJY (n:Nat):Lib.atoi (Lib.decDigits n)=some (n:Int):=by
 have h:=zDQ n;have hd:=DG n
 cases e:Lib.decDigits n with
 | nil=>exact absurd e (MT n)
 | cons b r=>
  rw[e] at h hd;have hb:=hd b (by simp);have n1:(b==45)=false:=beq_eq_false_iff_ne.2 (rM hb 45 (by decide));have n2:(b==43)=false:=beq_eq_false_iff_ne.2 (rM hb 43 (by decide));simp[Lib.atoi,n1,n2,Lib.decNat,h]
theorem eQ (n:Nat) (h:n<=9999999):(Lib.decDigits n).length<=7:=by
 rw[Lib.decDigits_length];have s:∀ m k,m<10 ^ (k+1)->Lib.nDigits m<=k+1:=by
  intro m k
  induction k generalizing m with
  | zero=>intro hm;rw[Lib.nDigits,dif_pos (by simpa using hm)];omega
  | succ k ih=>
   intro hm;rw[Lib.nDigits];split
   ·omega
   ·have:=ih (m / 10) (by rw[Nat.pow_succ] at hm;omega);omega
 exact s n 6 (by omega)
theorem zDE {l:List UInt8} {x:UInt8} (h:∀ c∈l,c≠x) (r:List UInt8):Lib.indexByte (l++x::r) x=l.length:=by
 induction l with
 | nil=>simp[Lib.indexByte]
 | cons c l ih=>
  have hc:(c==x)=false:=beq_eq_false_iff_ne.2 (h c (by simp));have i:=ih (fun y hy=>h y (by simp[hy]));simp only[List.cons_append,Lib.indexByte,hc,i];have:((l.length:Int) == -1)=false:=beq_eq_false_iff_ne.2 (by omega);simp[this]
def Va (n:Nat):BA:=⟨(Lib.decDigits n).toArray⟩
theorem eM (n:Nat):(Va n).data.toList=Lib.decDigits n:=by simp[Va]
def dA (a b:Nat) (r:BA):BA:=Va a++⟨#[32]⟩++Va b++⟨#[32]⟩++r
theorem vQ (a b:Nat) (r:BA):(dA a b r).data.toList=Lib.decDigits a++32::(Lib.decDigits b++32::r.data.toList):=by
 simp[dA,ByteArray.data_append,eM]
theorem zEr (a b:Nat) (r:BA):Lib.indexByte (dA a b r).data.toList 32=(Va a).size:=by
 rw[vQ,zDE (fun c hc=>rM (DG a c hc) 32 (by decide)),Lib.size_eq,eM]
section
open Go.RowKit Go.Joins
theorem LJ (f:Int) (w:World):
  Calls p_ 8 #[.nilIface,.int .i64 f] w fun e w'=>e=.returned (.bool (f==0))/\w'=w:=by
 go_enter func8,ntmps8;go_wp2;go_ret;exact⟨rfl,rfl⟩
theorem zDu (v:Value) (W:World):(Instr.typeAssert (.iface 77 v) 42 77 true).run p_ W=.ok (.tuple #[v,.bool true]) W:=by kernel_rfl
theorem rD (u:TypeId) (v:Value) (W:World):(binOp .eql 42 (.iface u v) .nilIface).run p_ W=.ok (.bool false) W:=by kernel_rfl
theorem bM (u:TypeId) (v:Value) (W:World):(binOp .neq 42 (.iface u v) .nilIface).run p_ W=.ok (.bool true) W:=by kernel_rfl
theorem eG (W:World):(binOp .neq 42 .nilIface .nilIface).run p_ W=.ok (.bool false) W:=by kernel_rfl
theorem zO5 (n f:Int) (w:World) (hf:0<f):
  Calls p_ 8 #[.iface 77 (.int .i64 n),.int .i64 f] w fun e w'=>e=.returned (.bool (n==f))/\w'=w:=by
 have h1:=zDu (.int .i64 n);have h2:=rD 77 (.int .i64 n);go_enter func8,ntmps8;go_wp2
 all_goals
  go_ret;exact⟨rfl,rfl⟩
theorem eI (n:Nat) (v:Value) (w:World) (hv:v=if n=0 then .nilIface else .iface 77 (.int .i64 n)):
  Calls p_ 8 #[v,.int .i64 n] w fun e w'=>e=.returned (.bool true)/\w'=w:=by
 by_cases h:n=0
 ·subst h;rw[if_pos rfl] at hv;subst hv;exact LJ 0 w
 ·rw[if_neg h] at hv;subst hv;refine(zO5 n n w (by omega)).mono fun e w' ⟨he,hw⟩=>⟨?_,hw⟩;rw[he];simp
end
def cJ (c:ma) (s:Bool×List ma) (x:ma):Bool×List ma:=
 let s1:Bool×List ma:=if !s.1&&ng c.key x.key then (true,s.2++[c]) else s
 if bc x.key c.key then s1 else (s1.1,s1.2++[x])
def pr (c:ma) (s:Bool×List ma):List ma:=if s.1 then s.2 else s.2++[c]
theorem zK0 (c:ma) (l:List ma) (out:List ma) (h:∀ x∈l,jb c.key x.key=true):l.foldl (cJ c) (true,out)=(true,out++l):=by
 induction l generalizing out with
 | nil=>simp
 | cons x l ih=>
  have hx:=h x (by simp);have e:bc x.key c.key=false:=(xD _ _).trans (uM hx);rw[List.foldl_cons];have:cJ c (true,out) x=(true,out++[x]):=by simp[cJ,e]
  rw[this,ih _ (fun y hy=>h y (by simp[hy]))];simp
theorem zOV (c:ma) (l:List ma) (out:List ma) (h:Pc l):pr c (l.foldl (cJ c) (false,out))=out++Db l c:=by
 induction l generalizing out with
 | nil=>simp[pr,Db]
 | cons x l ih=>
  unfold Pc at h;obtain⟨h1,h2⟩:=List.pairwise_cons.1 h;rw[List.foldl_cons];rcases zD x.key c.key with⟨k1,k2,k3,k4⟩|k1|⟨k1,k2,k3,k4⟩
  ·have e:ng c.key x.key=false:=by rw[mA,k1];rfl
   have:cJ c (false,out) x=(false,out++[x]):=by simp[cJ,e,k2]
   rw[this,ih _ h2];simp[Db,k1]
  ·have e:ng c.key c.key=true:=by rw[mA,bA];rfl
   have:cJ c (false,out) x=(true,out++[c]):=by simp[cJ,e,k1,xB]
   rw[this,zK0 c l _ (fun y hy=>k1▸h1 y hy)];simp[pr,Db,k1,bA,xB]
  ·have e:ng c.key x.key=true:=by rw[mA,k1];rfl
   have:cJ c (false,out) x=(true,out++[c]++[x]):=by simp[cJ,e,k2]
   rw[this,zK0 c l _ (fun y hy=>cL k3 (h1 y hy))];simp[pr,Db,k1,k2]
theorem zJZ (c:ma) (l:List ma) (k:Nat) (hk:k<l.length):(l.take (k+1)).foldl (cJ c) (false,[])=cJ c ((l.take k).foldl (cJ c) (false,[])) l[k]:=by
 rw[List.take_succ_eq_append_getElem hk,List.foldl_append];rfl
theorem zO7 (c:ma) (s:Bool×List ma) (x:ma):(cJ c s x).2.length<=s.2.length+2:=by
 unfold cJ;simp only;split<;>split<;>simp<;>omega
theorem zOh {l:List ma} (h:Pc l) (i:Nat) (hi:i<l.length) (key:ByteArray) (hk:l[i].key=key):cU l key=i/\fB l key=true:=by
 have hp:cU l key=i:=by
  refine FR ?_ (fun _=>by rw[hk,bA]);rcases Nat.lt_or_ge (cU l key) i with h'|h'
  ·have hl:cU l key<l.length:=by omega
   have e:=List.findIdx_getElem (p:=fun c:ma=>!jb c.key key) (xs:=l) (w:=hl);have:=List.pairwise_iff_getElem.1 h _ i hl hi h';rw[hk] at this;unfold cU at this;rw[this] at e;cases e
  ·exact h'
 refine⟨hp,?_⟩;rw[fB,hp,List.getElem?_eq_getElem hi];simp only;rw[hk,xB]
theorem zOi {l:List ma} {key:ByteArray} (h:∀ i (hi:i<l.length),bc l[i].key key=false):fB l key=false:=by
 unfold fB;split
 ·rename_i c hc;obtain⟨hi,rfl⟩:=List.getElem?_eq_some_iff.1 hc;exact h _ hi
 ·rfl
section
open Go.RowKit Go.Joins
theorem zO4 (l:List ma) (b off cap b2 th pd:Nat) (w:World) (hl:dG w b off l) (Jh:dG w b2 th l) (hn:l.length<=1000):
  Calls p_ 70 #[.slice (some ⟨b,off,none⟩) l.length cap,.slice (some ⟨b2,th,none⟩) l.length pd] w fun e w'=>e=.returned (.bool true)/\Below w.heap.size w w':=by
 go_enter func70,ntmps70;go_wp2
 go_loopw [5] (fun i wr=>∃ k:Nat,k<=l.length/\i=.int .i64 k/\Below w.heap.size w wr) (fun i _=>l.length-(intOf i).toNat)
 case atStart=>exact⟨0,Nat.zero_le _,rfl,r_ _ _⟩
 case round=>
  obtain⟨k,hk,rfl,hB⟩:=hrel;by_cases Aa:k<l.length
  ·obtain⟨c0,c1,c2⟩:=gC hB hl k Aa;obtain⟨d0,d1,d2⟩:=gC hB Jh k Aa;go_wp2;go_quiet (fail);go_wp2;go_roundw
   case rel=>exact⟨k+1,by omega,by go_num,hB.trans (below_draws _ _ _)⟩
   case measure=>simp[intOf];omega
  ·go_wp2;go_ret;exact⟨rfl,hB⟩
def sQ (p:aU×Value):List Value:=[.int .i64 p.1.n,p.2]
theorem qX (p:aU×Value):(sQ p).length=2:=rfl
def Oh (dv:List (aU×Value)):List Value:=dv.flatMap sQ
structure bP (w:World) (B hb:Nat) (Xc:Nat->Option Value) (v:Value) (dv:List (aU×Value)):Prop where
 cell:w.cell? ⟨hb,2,none⟩=some v
 soft:w.frozen? ⟨hb,2,none⟩=false
 lo:B<=hb
 own:w.ownsRow B 163 2 v dv.length (Oh dv)
 keys:∀ p∈dv,w.ownsRow B 9 1 p.2 p.1.keys.length (p.1.keys.map v_)
 off:v.ownBlock≠some hb
 vf:∀ p∈dv,p.2.ownBlock≠some hb
 apart:∀ p∈dv,p.2.ownBlock=none∨p.2.ownBlock≠v.ownBlock
 pair:dv.Pairwise fun p q=>p.2.ownBlock=none∨p.2.ownBlock≠q.2.ownBlock
 rest:∀ j,(j≠2->w.cell? ⟨hb,j,none⟩=Xc j)/\w.frozen? ⟨hb,j,none⟩=false
theorem bP.lt {w:World} {B hb:Nat} {Xc:Nat->Option Value} {v:Value} {dv:List (aU×Value)} (h:bP w B hb Xc v dv):hb<w.heap.size:=World.block_lt_of_cell? w ⟨hb,2,none⟩ h.cell
theorem bP.on {w w':World} {B hb:Nat} {Xc:Nat->Option Value} {v:Value} {dv:List (aU×Value)} (h:bP w B hb Xc v dv) (Sd:Below w.heap.size w w'):bP w' B hb Xc v dv where
 cell:=aA Sd h.cell
 soft:=aE Sd h.lt h.soft
 lo:=h.lo
 own:=bQ h.own Sd
 keys:=fun p hp=>bQ (h.keys p hp) Sd
 off:=h.off
 vf:=h.vf
 apart:=h.apart
 pair:=h.pair
 rest:=fun j=>⟨fun hj=>(b_ (w:=w) (Sd.block hb h.lt)).trans ((h.rest j).1 hj),(World.frozen?_of_block (w:=w) (Sd.block hb h.lt)).trans (h.rest j).2⟩
theorem bP.form {w:World} {B hb:Nat} {Xc:Nat->Option Value} {v:Value} {dv:List (aU×Value)} (h:bP w B hb Xc v dv):
  (v=.slice none 0 0/\dv=[])∨∃ g cap,v=.slice (some ⟨g,0,none⟩) dv.length cap/\B<=g/\g≠hb/\dv.length<=cap/\cap<=9223372036854775807/\
   ∀ i (hi:i<dv.length),w.cell? ⟨g,i*2,none⟩=some (.int .i64 dv[i].1.n)/\w.cell? ⟨g,i*2+1,none⟩=some dv[i].2/\w.frozen? ⟨g,i*2+1,none⟩=false:=by
 rcases aX h.own with⟨hv,h0⟩|⟨g,cap,hv,h1,h2,h3,h4⟩
 ·exact .inl ⟨hv,List.length_eq_zero_iff.1 h0⟩
 ·refine .inr ⟨g,cap,hv,h1,fun e=>h.off (by rw[hv,e];rfl),h3,by unfold maxLen at h4;omega,fun i hi=>?_⟩;have ho:=h.own;rw[hv] at ho;have a:=dU qX ho i 0 hi (by omega);have b:=dU qX ho i 1 hi (by omega);exact⟨a.1,b.1,b.2⟩
theorem zHo {w:World} {B:Nat} {v:Value} {ks:List ByteArray} (h:w.ownsRow B 9 1 v ks.length (ks.map v_)):
  (v=.slice none 0 0/\ks=[])∨∃ g cap,v=.slice (some ⟨g,0,none⟩) ks.length cap/\ks.length<=cap/\cap<=9223372036854775807/\∀ i (hi:i<ks.length),w.cell? ⟨g,i,none⟩=some (.string ks[i]):=by
 rcases aX h with⟨hv,h0⟩|⟨g,cap,hv,h1,h2,h3,h4⟩
 ·exact .inl ⟨hv,List.length_eq_zero_iff.1 h0⟩
 ·refine .inr ⟨g,cap,hv,h3,by unfold maxLen at h4;omega,fun i hi=>?_⟩;rw[hv] at h;have:=h.cellAt i (by omega);rw[this];simp[hi]
def jn (hb:Nat) (v:Value) (dv:List (aU×Value)) (k:Nat):Prop:=k=hb∨v.ownBlock=some k∨∃ p∈dv,p.2.ownBlock=some k
theorem zM7 {w:World} {B hb:Nat} {Xc:Nat->Option Value} {v:Value} {dv:List (aU×Value)} (h:bP w B hb Xc v dv) {k:Nat} (hk:jn hb v dv k):k<w.heap.size:=by
 rcases hk with rfl|e|⟨p,hp,e⟩
 ·exact h.lt
 ·exact(h.own.lt k e).2
 ·exact((h.keys p hp).lt k e).2
theorem bP.kept {w w':World} {B hb:Nat} {Xc:Nat->Option Value} {v:Value} {dv:List (aU×Value)} (h:bP w B hb Xc v dv) (hk:∀ k,jn hb v dv k->w'.heap[k]?=w.heap[k]?):bP w' B hb Xc v dv where
 cell:=(b_ (w:=w) (hk hb (.inl rfl))).trans h.cell
 soft:=(World.frozen?_of_block (w:=w) (hk hb (.inl rfl))).trans h.soft
 lo:=h.lo
 own:=aI h.own fun k e=>hk k (.inr (.inl e))
 keys:=fun p hp=>aI (h.keys p hp) fun k e=>hk k (.inr (.inr ⟨p,hp,e⟩))
 off:=h.off
 vf:=h.vf
 apart:=h.apart
 pair:=h.pair
 rest:=fun j=>⟨fun hj=>(b_ (w:=w) (hk hb (.inl rfl))).trans ((h.rest j).1 hj),(World.frozen?_of_block (w:=w) (hk hb (.inl rfl))).trans (h.rest j).2⟩
def Fg (x y:Int):Int:=if x<y then -1 else if y<x then 1 else 0
theorem zLT (x y:Int) (w:World):Calls p_ 214 #[.int .i64 x,.int .i64 y] w fun e w'=>e=.returned (.int .i64 (Fg x y))/\w'=w:=by
 rcases Int.lt_trichotomy x y with h|h|h
 ·have e:Fg x y=-1:=by simp[Fg,h]
  have E:=aa e;clear e;go_enter func214,ntmps214;go_wp2;go_ret;exact⟨iJ E.out.symm,rfl⟩
 ·have e:Fg x y=0:=by simp[Fg,h]
  have E:=aa e;have h1:¬x<y:=by omega
  have h2:¬y<x:=by omega
  clear e h;go_enter func214,ntmps214;go_wp2;go_ret;exact⟨iJ E.out.symm,rfl⟩
 ·have e:Fg x y=1:=by simp[Fg,h];omega
  have E:=aa e;have h1:¬x<y:=by omega
  clear e;go_enter func214,ntmps214;go_wp2;go_ret;exact⟨iJ E.out.symm,rfl⟩
theorem pU (x y:Int) (v:Value) (w:World):Calls p_ 213 #[.agg #[.int .i64 x,v],.int .i64 y] w fun e w'=>e=.returned (.int .i64 (Fg x y))/\Below w.heap.size w w':=by
 go_enter func213,ntmps213;go_wp2_with (go_at_call 214;refine(zLT _ _ _).mono ?_;rintro e w1 ⟨rfl,rfl⟩)
 go_ret;exact⟨rfl,a_ _ _⟩
theorem zK6 {x y:Int} (h:x<y):Fg x y=-1:=by simp[Fg,h]
theorem zMF {x y:Int} (h:y<=x):0<=Fg x y/\Fg x y<=1:=by
 unfold Fg;rw[if_neg (by omega)];split<;>omega
theorem zMc (x y:Int):(Fg x y==0)=(x==y):=by
 rw[Bool.eq_iff_iff];simp only[beq_iff_eq];unfold Fg;split
 ·omega
 ·split<;>omega
def zN (w:World) (g:Nat) (dv:List (aU×Value)):Prop:=∀ i (hi:i<dv.length),w.cell? ⟨g,i*2,none⟩=some (.int .i64 dv[i].1.n)/\w.cell? ⟨g,i*2+1,none⟩=some dv[i].2
theorem zBy {w w':World} {g:Nat} {dv:List (aU×Value)} (hb:Below w.heap.size w w') (h:zN w g dv):zN w' g dv:=fun i hi=>⟨aA hb (h i hi).1,aA hb (h i hi).2⟩
def xb (dv:List (aU×Value)):List aU:=dv.map (·.1)
theorem zK9 {dv:List (aU×Value)} {n:Int} {i:Nat} (hp:Ad (xb dv) n=i) (hi:i<dv.length):iN (xb dv) n=(dv[i].1.n==n):=by
 unfold iN;rw[hp,List.getElem?_eq_getElem (by simpa[xb] using hi)];simp[xb]
theorem zLp {dv:List (aU×Value)} {n:Int} {i:Nat} (hp:Ad (xb dv) n=i) (hi:dv.length<=i):iN (xb dv) n=false:=by
 unfold iN;rw[hp,List.getElem?_eq_none (by simpa[xb] using hi)]
theorem zEI (dv:List (aU×Value)) (g cap:Nat) (n:Int) (w:World) (hl:zN w g dv) (hr:gS (xb dv)) (hn:dv.length<=1000000):
  Calls p_ 212 #[.slice (some ⟨g,0,none⟩) dv.length cap,.int .i64 n,.func (Fn.func 213) #[] #[]] w
   fun e w'=>e=.returned (.tuple #[.int .i64 (Ad (xb dv) n),.bool (iN (xb dv) n)])/\Below w.heap.size w w':=by
 have HR:=aa hr;clear hr;go_enter func212,ntmps212;go_wp2
 go_loopw [9,10] (fun i j wr=>∃ p q:Nat,p<=q/\q<=dv.length/\i=.int .i64 p/\j=.int .i64 q/\(∀ m (hm:m<dv.length),m<p->dv[m].1.n<n)/\(∀ m (hm:m<dv.length),q<=m->n<=dv[m].1.n)/\Below w.heap.size w wr) (fun i j _=>(intOf j).toNat-(intOf i).toNat)
 case atStart=>exact⟨0,dv.length,Nat.zero_le _,n_ _,rfl,rfl,fun m hm h=>by omega,fun m hm h=>by omega,r_ _ _⟩
 case round=>
  obtain⟨p,q,hpq,hq,rfl,rfl,h1,h2,hB⟩:=hrel;have H1:=aa h1;have H2:=aa h2;clear h1 h2;by_cases Aa:p<q
  ·have Za:(p:Int)<(q:Int):=by omega
   obtain⟨m,em⟩:∃ m,m=(p+q) / 2:=⟨_,rfl⟩;have hm:m<dv.length:=by omega
   have b1:p<=m:=by omega
   have b2:m<q:=by omega
   obtain⟨c0,c1⟩:=zBy hB hl m hm;have hmi:((p:Int)+(q:Int)) / 2=(m:Int):=by omega
   clear em;by_cases hc:dv[m].1.n<n
   ·have Au:=zK6 hc;have N1:Hid (∀ k (hk:k<dv.length),k<m+1->dv[k].1.n<n):=fun k hk Pn=>by
     rcases Nat.lt_or_ge k m with h|h
     ·have h3:=nW HR.out (i:=k) (j:=m) (by simpa[xb] using hm) h;simp[xb] at h3;omega
     ·have e:k=m:=by omega
      subst e;exact hc
    clear hc;go_wp2_with (go_at_call 213;refine(pU _ _ _ _).mono ?_;rintro e w1 ⟨rfl,hb⟩;replace hB:=aB hB (n_ _) hb;clear hb)
    go_roundw
    case rel=>exact⟨m+1,q,by omega,hq,by go_num,rfl,N1.out,H2.out,hB⟩
    case measure=>simp[intOf];omega
   ·obtain⟨k0,k1⟩:=zMF (x:=dv[m].1.n) (y:=n) (by omega);have N2:Hid (∀ k (hk:k<dv.length),m<=k->n<=dv[k].1.n):=fun k hk Pn=>by
     rcases Nat.lt_or_ge m k with h|h
     ·have h3:=nW HR.out (i:=m) (j:=k) (by simpa[xb] using hk) h;simp[xb] at h3;omega
     ·have e:k=m:=by omega
      subst e;omega
    have kh:¬Fg dv[m].1.n n<0:=by omega
    clear hc;go_wp2_with (go_at_call 213;refine(pU _ _ _ _).mono ?_;rintro e w1 ⟨rfl,hb⟩;replace hB:=aB hB (n_ _) hb;clear hb)
    go_roundw
    case rel=>exact⟨p,m,by omega,by omega,rfl,rfl,H1.out,N2.out,hB⟩
    case measure=>simp[intOf];omega
  ·have Za:¬(p:Int)<(q:Int):=by omega
   have epq:p=q:=by omega
   subst epq;have HP:=aa (zFd (ds:=xb dv) (n:=n) (i:=p) (by simpa[xb] using hq) (fun m hm h=>by simpa[xb] using H1.out m (by simpa[xb] using hm) h) (fun m hm h=>by simpa[xb] using H2.out m (by simpa[xb] using hm) h));by_cases hp:p<dv.length
   ·have HK:=aa (zK9 HP.out hp);have Ym:(p:Int)<(dv.length:Int):=by omega
    obtain⟨c0,c1⟩:=zBy hB hl p hp;have HC:=aa (zMc dv[p].1.n n);go_wp2_with (go_at_call 213;refine(pU _ _ _ _).mono ?_;rintro e w1 ⟨rfl,hb⟩;replace hB:=aB hB (n_ _) hb;clear hb)
    go_ret2;exact⟨by rw[HP.out,HK.out,<-HC.out];rfl,hB⟩
   ·have HK:=aa (zLp HP.out (by omega));have Ym:¬(p:Int)<(dv.length:Int):=by omega
    go_wp2;go_ret2;exact⟨by rw[HP.out,HK.out];rfl,hB⟩
theorem zEm (n:Int) (w:World):
  Calls p_ 212 #[.slice none 0 0,.int .i64 n,.func (Fn.func 213) #[] #[]] w
   fun e w'=>e=.returned (.tuple #[.int .i64 0,.bool false])/\w'=w:=by
 go_enter func212,ntmps212;go_wp2;refine wp_loop_rounds 1 ?_;rw[rounds_succ];go_wp2;go_ret2;exact⟨rfl,rfl⟩
theorem bP.Gv {w:World} {B hb:Nat} {Xc:Nat->Option Value} {v:Value} {dv:List (aU×Value)} (h:bP w B hb Xc v dv) {g cap:Nat} (hv:v=.slice (some ⟨g,0,none⟩) dv.length cap):zN w g dv:=by
 rcases h.form with⟨h1,_⟩|⟨g',Pb,h1,_,_,_,_,h2⟩
 ·rw[h1] at hv;cases hv
 ·rw[h1] at hv;cases hv;exact fun i hi=>⟨(h2 i hi).1,(h2 i hi).2.1⟩
theorem tP (dv:List (aU×Value)) (B hb:Nat) {Xc:Nat->Option Value} (v:Value) (n:Int) (w:World) (h:bP w B hb Xc v dv) (hr:gS (xb dv)) (hn:dv.length<=1000000):
  Calls p_ 154 #[.pointer (some ⟨hb,2,none⟩),.int .i64 n] w fun e w'=>e=.returned (.tuple #[.int .i64 (Ad (xb dv) n),.bool (iN (xb dv) n)])/\Below w.heap.size w w':=by
 have c:=h.cell;have HR:=aa hr;rcases h.form with⟨rfl,rfl⟩|⟨g,cap,rfl,_,_,_,_,_⟩
 ·clear hr;go_enter func154,ntmps154;go_wp2_with (go_at_call 212;refine(zEm _ _).mono ?_;rintro e w1 ⟨rfl,rfl⟩)
  go_ret2;exact⟨rfl,r_ _ _⟩
 ·have hd:=h.Gv rfl;clear hr;go_enter func154,ntmps154;go_wp2_with (go_at_call 212;refine(zEI dv g cap n _ hd HR.out hn).mono ?_;rintro e w1 ⟨rfl,hb⟩)
  go_ret2;exact⟨rfl,hb⟩
theorem lY (dv:List (aU×Value)) (B hb:Nat) {Xc:Nat->Option Value} (v:Value) (n:Int) (w:World) (h:bP w B hb Xc v dv) (hr:gS (xb dv)) (hn:dv.length<=1000000):
  Calls p_ 83 #[.pointer (some ⟨hb,2,none⟩),.int .i64 n] w fun e w'=>e=.returned (.int .i64 (cR (xb dv) n))/\Below w.heap.size w w':=by
 have hp:Ad (xb dv) n<=1000000:=Nat.le_trans (zE3 _ _) (by simpa[xb] using hn)
 cases hk:iN (xb dv) n with
 | true=>
  have HA:=aa (show cR (xb dv) n=Ad (xb dv) n+1 by simp[cR,hk]);have HR:=aa hr;have HK:=aa hk;clear hr hk;go_enter func83,ntmps83;go_wp2_with (go_at_call 154;refine(tP dv B hb v n _ h HR.out hn).mono ?_;rintro e w1 ⟨rfl,hb⟩;rw[HK.out])
  go_ret;exact⟨iJ (by rw[HA.out];omega),hb⟩
 | false=>
  have HA:=aa (show cR (xb dv) n=Ad (xb dv) n by simp[cR,hk]);have HR:=aa hr;have HK:=aa hk;clear hr hk;go_enter func83,ntmps83;go_wp2_with (go_at_call 154;refine(tP dv B hb v n _ h HR.out hn).mono ?_;rintro e w1 ⟨rfl,hb⟩;rw[HK.out])
  go_ret;exact⟨iJ (by rw[HA.out]),hb⟩
theorem gG {w:World} {B:Nat} {e:TypeId} {size:Nat} {v:Value} {n:Nat} {xs:List Value} (h:w.ownsRow B e size v n xs) (g j:Nat) (u:Value) (La:v.ownBlock≠some g):(w.setCell ⟨g,j,none⟩ u).ownsRow B e size v n xs:=
 aI h fun k hk=>h_ _ _ _ _ (fun e=>La (by rw[hk,e]))
theorem uL {w:World} {p:Addr} {g j:Nat} {u:Value} (La:p.block≠g):(w.setCell ⟨g,j,none⟩ u).cell? p=w.cell? p:=b_ (h_ _ _ _ _ La)
theorem rK {w:World} {p:Addr} {g j:Nat} {u:Value} (La:p.block≠g):(w.setCell ⟨g,j,none⟩ u).frozen? p=w.frozen? p:=World.frozen?_of_block (h_ _ _ _ _ La)
theorem zDx {W w1:World} {B hb:Nat} {Xc:Nat->Option Value} {v:Value} {dv:List (aU×Value)} {n:Int} {g cap:Nat} (h:bP W B hb Xc v dv) (hB:B<=W.heap.size) (hg:W.grownBy w1 v.ownBlock)
  (ho:w1.ownsRow B 163 2 (.slice (some ⟨g,0,none⟩) (dv.length+1) cap) (dv.length+1) (Oh dv++[.int .i64 n,.slice none 0 0])) (Sc:v.ownBlock=some g∨g=W.heap.size):
  bP (w1.setCell ⟨hb,2,none⟩ (.slice (some ⟨g,0,none⟩) (dv.length+1) cap)) B hb Xc (.slice (some ⟨g,0,none⟩) (dv.length+1) cap) (dv++[(⟨n,[]⟩,.slice none 0 0)])/\
  Below B W (w1.setCell ⟨hb,2,none⟩ (.slice (some ⟨g,0,none⟩) (dv.length+1) cap))/\w1.cell? ⟨hb,2,none⟩=some v/\w1.frozen? ⟨hb,2,none⟩=false/\(∀ b,b<W.heap.size->b≠hb->some b≠v.ownBlock->b≠g/\(w1.setCell ⟨hb,2,none⟩ (.slice (some ⟨g,0,none⟩) (dv.length+1) cap)).heap[b]?=W.heap[b]?):=by
 have Aa:=h.lt;have La:g≠hb:=by
  rcases Sc with e|e
  ·exact fun e'=>h.off (by rw[e,e'])
  ·omega
 have c1:w1.cell? ⟨hb,2,none⟩=some v:=hg.cell h.cell (Ne.symm h.off);have f1:w1.frozen? ⟨hb,2,none⟩=false:=(hg.frozen_far ⟨hb,2,none⟩ Aa (Ne.symm h.off)).trans h.soft;have kk:∀ p∈dv,p.2.ownBlock=none∨p.2.ownBlock≠some g:=fun p hp=>by
  rcases Sc with e|e
  ·rw[<-e];exact h.apart p hp
  ·refine .inr fun e'=>?_;have:=((h.keys p hp).lt g e').2;omega
 refine⟨{ cell:=?_,soft:=?_,lo:=h.lo,own:=?_,keys:=?_,off:=?_,vf:=?_,apart:=?_,pair:=?_,rest:=fun j=>⟨fun hj=>(t_ _ _ _ _ (by simp<;>omega)).trans ((b_ (w:=W) (hg.block hb Aa (Ne.symm h.off))).trans ((h.rest j).1 hj)),by rw[World.frozen?_setCell];exact(hg.frozen_far ⟨hb,j,none⟩ Aa (Ne.symm h.off)).trans (h.rest j).2⟩ },?_,c1,f1,?_⟩
 ·exact u_ _ _ _ c1
 ·simpa using f1
 ·have e1:(dv++[((⟨n,[]⟩:aU),Value.slice none 0 0)]).length=dv.length+1:=by simp
  have e2:Oh (dv++[((⟨n,[]⟩:aU),Value.slice none 0 0)])=Oh dv++[.int .i64 n,.slice none 0 0]:=by simp[Oh,sQ]
  rw[e1,e2];exact gG ho hb 2 _ (by simpa[Value.ownBlock] using La)
 ·intro p hp;rcases List.mem_append.1 hp with hp|hp
  ·exact gG ((h.keys p hp).kept hg (h.apart p hp)) hb 2 _ (h.vf p hp)
  ·simp only[List.mem_singleton] at hp;subst hp;exact World.ownsRow_nil _ _ _ _
 ·simpa[Value.ownBlock] using La
 ·intro p hp;rcases List.mem_append.1 hp with hp|hp
  ·exact h.vf p hp
  ·simp only[List.mem_singleton] at hp;subst hp;simp[Value.ownBlock]
 ·intro p hp;rcases List.mem_append.1 hp with hp|hp
  ·exact kk p hp
  ·simp only[List.mem_singleton] at hp;subst hp;exact .inl rfl
 ·rw[List.pairwise_append];refine⟨h.pair,by simp,fun a ha b Sd=>?_⟩;simp only[List.mem_singleton] at Sd;subst Sd;rcases kk a ha with e|e
  ·exact .inl e
  ·cases hx:a.2.ownBlock with
   | none=>exact .inl rfl
   | some y=>exact .inr (by simp[Value.ownBlock])
 ·exact(((r_ B W).grown hg hB (fun k hk=>(h.own.lt k hk).1)).setCell h.lo _)
 ·intro b h1 h2 h3;refine⟨?_,(h_ _ _ _ _ h2).trans (hg.block b h1 h3)⟩;rcases Sc with e|e
  ·exact fun x=>h3 (by rw[e,x])
  ·omega
theorem zJq {W w1:World} {B hb:Nat} {Xc:Nat->Option Value} {d:aU} {kv:Value} {dv:List (aU×Value)} {key:ByteArray} {g cap gk ck:Nat}
  (h:bP W B hb Xc (.slice (some ⟨g,0,none⟩) (dv.length+1) cap) (dv++[(d,kv)])) (hB:B<=W.heap.size) (hg:W.grownBy w1 kv.ownBlock)
  (ho:w1.ownsRow B 9 1 (.slice (some ⟨gk,0,none⟩) (d.keys.length+1) ck) (d.keys.length+1) (d.keys.map v_++[.string key])) (Sc:kv.ownBlock=some gk∨gk=W.heap.size):
  bP (w1.setCell ⟨g,dv.length*2+1,none⟩ (.slice (some ⟨gk,0,none⟩) (d.keys.length+1) ck)) B hb Xc (.slice (some ⟨g,0,none⟩) (dv.length+1) cap) (dv++[(⟨d.n,d.keys++[key]⟩,.slice (some ⟨gk,0,none⟩) (d.keys.length+1) ck)])/\
  Below B W (w1.setCell ⟨g,dv.length*2+1,none⟩ (.slice (some ⟨gk,0,none⟩) (d.keys.length+1) ck))/\
  (∀ b,b<W.heap.size->b≠g->some b≠kv.ownBlock->b≠gk/\(w1.setCell ⟨g,dv.length*2+1,none⟩ (.slice (some ⟨gk,0,none⟩) (d.keys.length+1) ck)).heap[b]?=W.heap[b]?):=by
 have Aa:=h.lt;have mem:(d,kv)∈dv++[(d,kv)]:=by simp
 have hlen:(dv++[(d,kv)]).length=dv.length+1:=by simp
 have Ih:=h.vf _ mem;have xt:=h.apart _ mem;have ya:=h.own;have ll:=(ya.lt g rfl).2;have hgB:=(ya.lt g rfl).1;have Rv:g≠hb:=fun e=>h.off (by rw[e];rfl);have hkg:gk≠g:=by
  rcases Sc with e|e
  ·rcases xt with e'|e'
   ·rw[e] at e';cases e'
   ·rw[e] at e';exact fun x=>e' (by rw[x];rfl)
  ·omega
 have hkh:gk≠hb:=by
  rcases Sc with e|e
  ·rw[e] at Ih;exact fun x=>Ih (by rw[x])
  ·omega
 have Sr:=List.pairwise_append.1 h.pair;have kk:∀ p∈dv,p.2.ownBlock=none∨p.2.ownBlock≠some gk:=fun p hp=>by
  rcases Sc with e|e
  ·rw[<-e];exact Sr.2.2 p hp (d,kv) (by simp)
  ·refine .inr fun e'=>?_;have:=((h.keys p (by simp[hp])).lt gk e').2;omega
 have UE:Value.ownBlock (.slice (some ⟨g,0,none⟩) (dv.length+1) cap)=none∨Value.ownBlock (.slice (some ⟨g,0,none⟩) (dv.length+1) cap)≠kv.ownBlock:=by
  rcases xt with e|e
  ·exact .inr (by rw[e];simp[Value.ownBlock])
  ·exact .inr (Ne.symm e)
 refine⟨{ cell:=?_,soft:=?_,lo:=h.lo,own:=?_,keys:=?_,off:=h.off,vf:=?_,apart:=?_,pair:=?_,rest:=fun j=>⟨fun hj=>(uL (Ne.symm Rv)).trans ((b_ (w:=W) (hg.block hb Aa (Ne.symm Ih))).trans ((h.rest j).1 hj)),(rK (Ne.symm Rv)).trans ((hg.frozen_far ⟨hb,j,none⟩ Aa (Ne.symm Ih)).trans (h.rest j).2)⟩ },?_,?_⟩
 ·rw[uL (Ne.symm Rv)];exact hg.cell h.cell (Ne.symm Ih)
 ·rw[rK (Ne.symm Rv)];exact(hg.frozen_far ⟨hb,2,none⟩ Aa (Ne.symm Ih)).trans h.soft
 ·have h1:=ya.kept hg UE;rw[hlen] at h1;have h2:=(h1.stored (dv.length*2+1) (.slice (some ⟨gk,0,none⟩) (d.keys.length+1) ck)).1;have e:(Oh (dv++[(d,kv)])).set (dv.length*2+1) (.slice (some ⟨gk,0,none⟩) (d.keys.length+1) ck)=Oh (dv++[(⟨d.n,d.keys++[key]⟩,.slice (some ⟨gk,0,none⟩) (d.keys.length+1) ck)]):=by
   unfold Oh;rw[zKF sQ 2 qX (dv++[(d,kv)]) (⟨d.n,d.keys++[key]⟩,.slice (some ⟨gk,0,none⟩) (d.keys.length+1) ck) dv.length 1 (by simp) (by omega) _ (by simp[sQ])];simp
  rw[e] at h2;simpa using h2
 ·intro p hp;rcases List.mem_append.1 hp with hp|hp
  ·have h1:=(h.keys p (by simp[hp])).kept hg (Sr.2.2 p hp (d,kv) (by simp));refine gG h1 g _ _ ?_;rcases h.apart p (by simp[hp]) with e|e
   ·rw[e];simp
   ·exact e
  ·simp only[List.mem_singleton] at hp;subst hp;have:=gG ho g (dv.length*2+1) (.slice (some ⟨gk,0,none⟩) (d.keys.length+1) ck) (by simpa[Value.ownBlock] using hkg);simpa using this
 ·intro p hp;rcases List.mem_append.1 hp with hp|hp
  ·exact h.vf p (by simp[hp])
  ·simp only[List.mem_singleton] at hp;subst hp;simpa[Value.ownBlock] using hkh
 ·intro p hp;rcases List.mem_append.1 hp with hp|hp
  ·exact h.apart p (by simp[hp])
  ·simp only[List.mem_singleton] at hp;subst hp;exact .inr (by simpa[Value.ownBlock] using hkg)
 ·rw[List.pairwise_append];refine⟨Sr.1,by simp,fun a ha b Sd=>?_⟩;simp only[List.mem_singleton] at Sd;subst Sd;exact kk a ha
 ·exact(((r_ B W).grown hg hB (fun k hk=>((h.keys _ mem).lt k hk).1)).setCell hgB _)
 ·intro b h1 h2 h3;refine⟨?_,(h_ _ _ _ _ h2).trans (hg.block b h1 h3)⟩;rcases Sc with e|e
  ·exact fun x=>h3 (by rw[e,x])
  ·omega
theorem wF (f t key:BA) (kb:Nat) (w:World) (hk:w.cell? ⟨kb,0,none⟩=some (.string key)):
  Calls p_ 157 #[.agg #[.string f,.string t],.pointer (some ⟨kb,0,none⟩)] w fun e w'=>e=.returned (.bool (Fb f t key))/\Below w.heap.size w w':=by
 have hB:=a_ w (GX f t);have ck:=aA hB hk;go_enter func157,ntmps157;go_wp2_with (go_at_call 158;refine(pH _ _ _ _).mono ?_;rintro e w1 ⟨rfl,hb⟩;replace hB:=aB hB (n_ _) hb)
 go_ret;exact⟨rfl,hB⟩
theorem zB1 (l:List (BA×BA)) (b off cap kb:Nat) (key:BA) (w:World) (hl:iO w b off l) (hk:w.cell? ⟨kb,0,none⟩=some (.string key)) (hn:l.length<=maxLen):
  Calls p_ 215 #[.slice (some ⟨b,off,none⟩) l.length cap,.func (Fn.func 157) #[] #[.pointer (some ⟨kb,0,none⟩)]] w
   fun e w'=>(∃ i:Int,e=.returned (.int .i64 i)/\decide (0<=i)=l.any fun s=>Fb s.1 s.2 key)/\Below w.heap.size w w':=by
 unfold maxLen at hn;go_enter func215,ntmps215;go_wp2
 go_loopw [8] (fun i wr=>∃ k:Nat,k<=l.length/\i=.int .i64 k/\(l.take k).any (fun s=>Fb s.1 s.2 key)=false/\Below w.heap.size w wr) (fun i _=>l.length-(intOf i).toNat)
 case atStart=>exact⟨0,Nat.zero_le _,rfl,by simp,r_ _ _⟩
 case round=>
  obtain⟨k,ml,rfl,xe,hB⟩:=hrel;have HA:=aa xe;clear xe;by_cases Aa:k<l.length
  ·obtain⟨c0,c1⟩:=gW hB hl k Aa;have ck:=aA hB hk
   cases hh:Fb l[k].1 l[k].2 key with
   | true=>
    go_wp2_with (go_at_call 157;refine(wF _ _ key _ _ ck).mono ?_;rintro e w1 ⟨rfl,hb⟩;replace hB:=aB hB (n_ _) hb;clear hb)
    go_ret;exact⟨⟨k,rfl,by rw[zLU Aa hh];simp⟩,hB⟩
   | false=>
    go_wp2_with (go_at_call 157;refine(wF _ _ key _ _ ck).mono ?_;rintro e w1 ⟨rfl,hb⟩;replace hB:=aB hB (n_ _) hb;clear hb)
    go_roundw
    case rel=>exact⟨k+1,by omega,by go_num,zKD Aa HA.out hh,hB⟩
    case measure=>simp[intOf];omega
  ·go_wp2;go_ret;refine⟨⟨-1,rfl,?_⟩,hB⟩;have e:l.take k=l:=List.take_of_length_le (by omega);have:=HA.out;rw[e] at this;rw[this];rfl
theorem zB6 (ao:Option Addr) (cap kb:Nat) (w:World):
  Calls p_ 215 #[.slice ao 0 cap,.func (Fn.func 157) #[] #[.pointer (some ⟨kb,0,none⟩)]] w
   fun e w'=>e=.returned (.int .i64 (-1))/\w'=w:=by
 go_enter func215,ntmps215;go_wp2;refine wp_loop_rounds 1 ?_;rw[rounds_succ];go_wp2;go_ret;exact⟨rfl,rfl⟩
theorem xM (l:List (BA×BA)) (b off cap kb:Nat) (key:BA) (w:World) (hl:iO w b off l) (hk:w.cell? ⟨kb,0,none⟩=some (.string key)) (hn:l.length<=maxLen):
  Calls p_ 156 #[.slice (some ⟨b,off,none⟩) l.length cap,.func (Fn.func 157) #[] #[.pointer (some ⟨kb,0,none⟩)]] w
   fun e w'=>e=.returned (.bool (l.any fun s=>Fb s.1 s.2 key))/\Below w.heap.size w w':=by
 go_enter func156,ntmps156;go_wp2_with (go_at_call 215;refine(zB1 l _ _ _ _ key _ hl hk hn).mono ?_;rintro e w1 ⟨⟨i,rfl,hi⟩,hb⟩)
 go_ret;exact⟨rfl,hb⟩
theorem wU (ao:Option Addr) (cap kb:Nat) (w:World):
  Calls p_ 156 #[.slice ao 0 cap,.func (Fn.func 157) #[] #[.pointer (some ⟨kb,0,none⟩)]] w
   fun e w'=>e=.returned (.bool false)/\w'=w:=by
 go_enter func156,ntmps156;go_wp2_with (go_at_call 215;refine(zB6 _ _ _ _).mono ?_;rintro e w1 ⟨rfl,rfl⟩)
 go_ret;exact⟨rfl,rfl⟩
theorem zMA (l:List (BA×BA)) (b off cap:Nat) (key:BA) (w:World) (hl:iO w b off l) (hn:l.length<=maxLen):
  Calls p_ 86 #[.slice (some ⟨b,off,none⟩) l.length cap,.string key] w fun e w'=>e=.returned (.bool (l.any fun s=>Fb s.1 s.2 key))/\Below w.heap.size w w':=by
 obtain⟨hk,hB,-⟩:=PF w (PX key) rfl rfl;have oz:=gW hB hl;go_enter func86,ntmps86;go_wp2_with (go_at_call 156;refine(xM l _ _ _ _ key _ oz hk hn).mono ?_;rintro e w1 ⟨rfl,hb⟩;replace hB:=aB hB (n_ _) hb;clear hb)
 go_ret;exact⟨rfl,hB⟩
theorem zMM (ao:Option Addr) (cap:Nat) (key:BA) (w:World):
  Calls p_ 86 #[.slice ao 0 cap,.string key] w fun e w'=>e=.returned (.bool false)/\Below w.heap.size w w':=by
 go_enter func86,ntmps86;go_wp2_with (go_at_call 156;refine(wU _ _ _ _).mono ?_;rintro e w1 ⟨rfl,rfl⟩)
 go_ret;exact⟨rfl,a_ _ _⟩
end
section
open Go.ChangeShapes Go.WideShapes Go.ChangeAt Go.RowKit
theorem Tryz.own:ownKnob Tryz.prog.godebug=none:=by kernel_rfl
theorem Tryz.laidOut:laidOutB p_=true:=by kernel_rfl
theorem yO {H:Type} {enc:TypeId×Value->H} {P:Program} (hl:laidOutB P=true) {W W':World} (hb:Below W.heap.size W W'):
  ∀ (ts:List TypeId) (vs:List Value) (ds:List (DataW H)) (ps:List MemPlace),(∀ t∈ts,P.readableRec t=true/\t<P.types.size)->
   DataW.TrodAll enc P W 0 (fun _=>true) true ts vs ds ps->(∀ x∈ps,x.block<W.heap.size)->
   DataW.TrodAll enc P W' 0 (fun b=>decide (b<W.heap.size)) true ts vs ds ps
 | [],vs,ds,ps,_,h,_=>by
  obtain⟨rfl,rfl,rfl⟩:=trodAll_nil h;exact trodAll_mk0
 | t::ts,vs,ds,ps,hr,h,Aa=>by
  obtain⟨v,ZF,d,ds',p,q,rfl,rfl,rfl,h0,r0⟩:=trodAll_cons h;exact trodAll_cons_mk (Below.trod hl (hr t (by simp)).1 (hr t (by simp)).2 h0 hb (fun x hx=>Aa x (by simp[hx])))
   (yO hl hb ts ZF ds' q (fun t' ht=>hr t' (by simp[ht])) r0 (fun x hx=>Aa x (by simp[hx])))
theorem zKX {H:Type} {enc:TypeId×Value->H} {P:Program} {f:Func} {s:ChangeSpec} {tb:TypeId} {W W':World} {args:Array Value} {ds gs:List (DataW H)} {Dn:List MemPlace}
  (hl:laidOutB P=true) (hrt:f.resultTypes=#[tb]) (htb:P.underlying tb=some .bool) (hv:s.vars=[])
  (Zi:∀ t∈f.params.toList,P.readableRec t=true/\t<P.types.size)
  (hW:DataW.Whole enc P f.params.toList s.vars false W args.toList ds gs Dn) (hs:s.fn H (ds++gs)={ results:=[.lit (.bool true)],args:=ds }) (hb:Below W.heap.size W W'):
  s.post enc P f false true false false W args (.bool true) W':=by
 have Aa:∀ x∈Dn,x.block<W.heap.size:=fun x hx=>hW.lt x hx;have vu:=hW;obtain⟨p,q,hA,hV,rfl,_,_⟩:=hW;rw[hv] at hV;obtain⟨rfl,rfl⟩:=trodVars_none hV;refine⟨ds,[],p++[],[],p,[],vu,?_,?_,?_,hb.frame _,fun h=>by cases h⟩
 ·rw[hs,hrt];exact trodAll_mk1 (shut_bool htb true)
 ·rw[hs];exact yO hl hb _ _ _ _ Zi hA (fun x hx=>Aa x (by simp[hx]))
 ·rw[hs,hv];rfl
end
end Go.Proofs.YtcfjimdfegejaaaGreatDoor
