import Derived.Shelf.SlicesE.Clone
import Derived.Shelf.SlicesQ.Contains
import Derived.Test.YtcfjimdfegejaaaGreatDoorProg
import Derived.Shelf.SlSorted.Search
import Derived.Shelf.SlIter.Stops
set_option maxHeartbeats 8000000
set_option maxRecDepth 100000
namespace Go.Proofs
open Go.Proofs.Tryz renaming prog→p_
section
open Go.Shelf
def Tryz.cloneS_ren:Go.Shelf.Ren:=⟨fun|41=>87|n=>n,fun|22=>37|23=>128|4=>4|n=>n,fun|n=>n⟩
theorem Tryz.cloneS:Go.Proofs.SlLaysE0.n41 p_ Tryz.cloneS_ren:={
 mixed:=by kernel_rfl
 f41:=⟨Tryz.f87.name,by decide,Tryz.func87.trans (congrArg some (by kernel_rfl))⟩
 t4:=Tryz.underlying4
 a4:=Tryz.isAgg4
 z4:=Tryz.sizeOf4
 v4:=Tryz.zeroValue4
 t22:=Tryz.underlying37
 a22:=Tryz.isAgg37
 z22:=Tryz.sizeOf37
 v22:=Tryz.zeroValue37 }
def Tryz.containsS_ren:Go.Shelf.Ren:=⟨fun|7=>143|6=>204|n=>n,fun|22=>37|24=>128|4=>4|0=>0|3=>3|n=>n,fun|n=>n⟩
theorem Tryz.containsS:Go.Proofs.SlLaysQ.n7 p_ Tryz.containsS_ren:={
 mixed:=by kernel_rfl
 f6:=⟨Tryz.f204.name,by decide,Tryz.func204.trans (congrArg some (by kernel_rfl))⟩
 f7:=⟨Tryz.f143.name,by decide,Tryz.func143.trans (congrArg some (by kernel_rfl))⟩
 t0:=Tryz.underlying0
 a0:=Tryz.isAgg0
 z0:=Tryz.sizeOf0
 v0:=Tryz.zeroValue0
 t3:=Tryz.underlying3
 a3:=Tryz.isAgg3
 z3:=Tryz.sizeOf3
 v3:=Tryz.zeroValue3
 t4:=Tryz.underlying4
 a4:=Tryz.isAgg4
 z4:=Tryz.sizeOf4
 v4:=Tryz.zeroValue4
 t22:=Tryz.underlying37
 a22:=Tryz.isAgg37
 z22:=Tryz.sizeOf37
 v22:=Tryz.zeroValue37 }
def Tryz.cloneC_ren:Go.Shelf.Ren:=⟨fun|41=>81|n=>n,fun|22=>36|23=>99|4=>4|n=>n,fun|n=>n⟩
theorem Tryz.cloneC:Go.Proofs.SlLaysE0.n41 p_ Tryz.cloneC_ren:={
 mixed:=by kernel_rfl
 f41:=⟨Tryz.f81.name,by decide,Tryz.func81.trans (congrArg some (by kernel_rfl))⟩
 t4:=Tryz.underlying4
 a4:=Tryz.isAgg4
 z4:=Tryz.sizeOf4
 v4:=Tryz.zeroValue4
 t22:=Tryz.underlying36
 a22:=Tryz.isAgg36
 z22:=Tryz.sizeOf36
 v22:=Tryz.zeroValue36 }
def Tryz.search_ren:Go.Shelf.Ren:=⟨fun|16=>267|n=>n,fun|3=>3|35=>79|4=>4|38=>286|n=>n,fun|n=>n⟩
theorem Tryz.search:Go.Proofs.SlLaysO.n16 p_ Tryz.search_ren:={
 mixed:=by kernel_rfl
 f16:=Tryz.func267.trans (congrArg some (by kernel_rfl))
 t3:=Tryz.underlying3
 a3:=Tryz.isAgg3
 z3:=Tryz.sizeOf3
 v3:=Tryz.zeroValue3
 t4:=Tryz.underlying4
 a4:=Tryz.isAgg4
 z4:=Tryz.sizeOf4
 v4:=Tryz.zeroValue4
 t35:=Tryz.underlying79
 a35:=Tryz.isAgg79
 z35:=Tryz.sizeOf79
 v35:=Tryz.zeroValue79
 t38:=Tryz.underlying286
 a38:=Tryz.isAgg286
 z38:=Tryz.sizeOf286
 v38:=Tryz.zeroValue286 }
def Tryz.keysV_ren:Go.Shelf.Ren:=⟨fun|7=>95|10=>166|n=>n,fun|23=>176|26=>9|3=>177|28=>174|0=>0|27=>173|33=>166|4=>4|n=>n,fun|n=>n⟩
theorem Tryz.keysV:Go.Proofs.SlLaysZ.n7 p_ Tryz.keysV_ren:={
 mixed:=by kernel_rfl
 f7:=⟨Tryz.f95.name,by decide,Tryz.func95.trans (congrArg some (by kernel_rfl))⟩
 f10:=⟨Tryz.f166.name,by decide,Tryz.func166.trans (congrArg some (by kernel_rfl))⟩
 t0:=Tryz.underlying0
 a0:=Tryz.isAgg0
 z0:=Tryz.sizeOf0
 v0:=Tryz.zeroValue0
 t4:=Tryz.underlying4
 a4:=Tryz.isAgg4
 z4:=Tryz.sizeOf4
 v4:=Tryz.zeroValue4
 t23:=Tryz.underlying176
 a23:=Tryz.isAgg176
 z23:=Tryz.sizeOf176
 v23:=Tryz.zeroValue176
 t26:=Tryz.underlying9
 a26:=Tryz.isAgg9
 z26:=Tryz.sizeOf9
 v26:=Tryz.zeroValue9
 t27:=Tryz.underlying173
 a27:=Tryz.isAgg173
 z27:=Tryz.sizeOf173
 v27:=Tryz.zeroValue173
 t28:=Tryz.underlying174
 a28:=Tryz.isAgg174
 z28:=Tryz.sizeOf174
 v28:=Tryz.zeroValue174
 t33:=Tryz.underlying166
 a33:=Tryz.isAgg166
 z33:=Tryz.sizeOf166
 v33:=Tryz.zeroValue166 }
def Tryz.collectS_ren:Go.Shelf.Ren:=⟨fun|8=>94|11=>165|n=>n,fun|26=>9|28=>174|24=>97|0=>0|33=>166|4=>4|n=>n,fun|n=>n⟩
theorem Tryz.collectS:Go.Proofs.SlLaysZ.n8 p_ Tryz.collectS_ren:={
 mixed:=by kernel_rfl
 f8:=⟨Tryz.f94.name,by decide,Tryz.func94.trans (congrArg some (by kernel_rfl))⟩
 f11:=⟨Tryz.f165.name,by decide,Tryz.func165.trans (congrArg some (by kernel_rfl))⟩
 t0:=Tryz.underlying0
 a0:=Tryz.isAgg0
 z0:=Tryz.sizeOf0
 v0:=Tryz.zeroValue0
 t24:=Tryz.underlying97
 a24:=Tryz.isAgg97
 z24:=Tryz.sizeOf97
 v24:=Tryz.zeroValue97
 t26:=Tryz.underlying9
 a26:=Tryz.isAgg9
 z26:=Tryz.sizeOf9
 v26:=Tryz.zeroValue9
 t28:=Tryz.underlying174
 a28:=Tryz.isAgg174
 z28:=Tryz.sizeOf174
 v28:=Tryz.zeroValue174
 i26:=by kernel_rfl }
def Tryz.cloneV_ren:Go.Shelf.Ren:=⟨fun|41=>168|n=>n,fun|22=>177|23=>192|4=>4|n=>n,fun|n=>n⟩
theorem Tryz.cloneV:Go.Proofs.SlLaysE0.n41 p_ Tryz.cloneV_ren:={
 mixed:=by kernel_rfl
 f41:=⟨Tryz.f168.name,by decide,Tryz.func168.trans (congrArg some (by kernel_rfl))⟩
 t4:=Tryz.underlying4
 a4:=Tryz.isAgg4
 z4:=Tryz.sizeOf4
 v4:=Tryz.zeroValue4
 t22:=Tryz.underlying177
 a22:=Tryz.isAgg177
 z22:=Tryz.sizeOf177
 v22:=Tryz.zeroValue177 }
end
end Go.Proofs
