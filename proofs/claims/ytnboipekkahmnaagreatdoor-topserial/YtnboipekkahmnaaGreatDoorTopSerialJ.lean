import Derived.Test.YtnboipekkahmnaaGreatDoorCards
import Derived.Test.YtnboipekkahmnaaGreatDoorS00
import Derived.SevenTiedAt
set_option maxHeartbeats 8000000
set_option maxRecDepth 100000
namespace Go.Proofs.YtnboipekkahmnaaGreatDoor
theorem aT {a b:Bool} (h:a=true) (g:b=true):(a&&b)=true:=by rw[h,g];rfl
theorem zNT:laidOutB Tryz.pinned.checked.prog=true:=by kernel_rfl
theorem zNU:mapsRowed Tryz.pinned.checked.prog=true:=by kernel_rfl
theorem zNV:namedTie Tryz.pinned.checked.prog Rows.topSerialRow.named (OpenSpec.ofChange Rows.topSerialSpec).bare.vars=true:=by kernel_rfl
theorem zNA:(Rows.topSerialRow.inPlace==Tryz.pinned.checked.prog.inPlace 4)=true:=by kernel_rfl
theorem zNB:(Rows.topSerialRow.unfollowed==Tryz.pinned.checked.prog.unfollowed 4)=true:=by kernel_rfl
theorem zNC:(Rows.topSerialRow.recurses==Tryz.pinned.checked.prog.recurses 4)=true:=by kernel_rfl
theorem zND:(Rows.topSerialRow.named==Tryz.pinned.checked.prog.varsNamed 4)=true:=by kernel_rfl
theorem zNE:(Rows.topSerialRow.plainKeys==Tryz.pinned.checked.prog.plainKeys)=true:=by kernel_rfl
theorem zNF:Tryz.pinned.checked.prog.stopsHeard=true:=by kernel_rfl
theorem zNG:Tryz.pinned.checked.prog.mayEnter=true:=by kernel_rfl
theorem zNH:(Rows.topSerialRow.lifted==Tryz.pinned.checked.prog.liftsFinal)=true:=by kernel_rfl
theorem zFA:joinedFacts Tryz.pinned.checked.prog 4 Tryz.f4 (OpenSpec.ofChange Rows.topSerialSpec).bare Rows.topSerialRow=true:=by
 unfold joinedFacts;exact(aT (aT (aT (aT (aT (aT (aT (aT (aT (aT (aT (aT (aT (aT (aT (aT (aT (aT (aT (aT (aT (aT (aT (aT (aT (aT (aT (aT (aT (aT (aT (by kernel_rfl) zNT) zNU) (by kernel_rfl)) zNV) (by kernel_rfl)) (by kernel_rfl)) (by kernel_rfl)) (by kernel_rfl)) zNA) zNB) zNC) zND) (by kernel_rfl)) (by kernel_rfl)) (by kernel_rfl)) (by kernel_rfl)) (by kernel_rfl)) (by kernel_rfl)) (by kernel_rfl)) (by kernel_rfl)) (by kernel_rfl)) zNE) (by kernel_rfl)) zNF) zNG) zNH) (by kernel_rfl)) (by kernel_rfl)) (by kernel_rfl)) (by kernel_rfl)) (by kernel_rfl))
theorem zCn:Tryz.pinned.checked.prog.funcNamed Rows.topSerialRow.func=some 4:=by kernel_rfl
theorem zNo:Tryz.f4.isInstance Tryz.pinned.checked.prog Rows.topSerialRow.origin Rows.topSerialRow.targs:=of_decide_eq_true (by kernel_rfl)
theorem zNt:Tryz.f4.isWrapper Tryz.pinned.checked.prog Rows.topSerialRow.wrapper Rows.topSerialRow.mainSum:=by unfold Func.isWrapper;first|(rw[if_pos (by decide +kernel)];kernel_rfl)|(rw[if_neg (by decide +kernel)];exact⟨rfl,rfl⟩)
theorem zNs:Rows.topSerialRow.wfByText (OpenSpec.ofChange Rows.topSerialSpec)=true:=by kernel_rfl
theorem zNq:Tryz.pinned.checked.prog.mainIs=some (Rows.topSerialCard.stood.harness.1,Rows.topSerialCard.stood.harness.2.toList):=by kernel_rfl
theorem zNn:false=Rows.topSerialRow.goesBy Tryz.pinned.checked.prog:=by kernel_rfl
theorem zJD:true=Tryz.pinned.checked.prog.looks []:=by kernel_rfl
end Go.Proofs.YtnboipekkahmnaaGreatDoor
