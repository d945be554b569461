import Derived.Test.YtnboipekkahmnaaGreatDoorCards
import Derived.Test.YtnboipekkahmnaaGreatDoorE00
import Derived.SevenTiedAt
set_option maxHeartbeats 8000000
set_option maxRecDepth 100000
namespace Go.Proofs.YtnboipekkahmnaaGreatDoor
theorem aT {a b:Bool} (h:a=true) (g:b=true):(a&&b)=true:=by rw[h,g];rfl
theorem zGz:laidOutB Tryz.pinned.checked.prog=true:=by kernel_rfl
theorem zGL:mapsRowed Tryz.pinned.checked.prog=true:=by kernel_rfl
theorem zGT:namedTie Tryz.pinned.checked.prog Rows.topAbortRow.named (OpenSpec.ofChange Rows.topAbortSpec).bare.vars=true:=by kernel_rfl
theorem zD4:(Rows.topAbortRow.inPlace==Tryz.pinned.checked.prog.inPlace 8)=true:=by kernel_rfl
theorem zD6:(Rows.topAbortRow.unfollowed==Tryz.pinned.checked.prog.unfollowed 8)=true:=by kernel_rfl
theorem zEd:(Rows.topAbortRow.recurses==Tryz.pinned.checked.prog.recurses 8)=true:=by kernel_rfl
theorem zEk:(Rows.topAbortRow.named==Tryz.pinned.checked.prog.varsNamed 8)=true:=by kernel_rfl
theorem zEx:(Rows.topAbortRow.plainKeys==Tryz.pinned.checked.prog.plainKeys)=true:=by kernel_rfl
theorem zEE:Tryz.pinned.checked.prog.stopsHeard=true:=by kernel_rfl
theorem zER:Tryz.pinned.checked.prog.mayEnter=true:=by kernel_rfl
theorem zFA:(Rows.topAbortRow.lifted==Tryz.pinned.checked.prog.liftsFinal)=true:=by kernel_rfl
theorem zAe:joinedFacts Tryz.pinned.checked.prog 8 Tryz.f8 (OpenSpec.ofChange Rows.topAbortSpec).bare Rows.topAbortRow=true:=by
 unfold joinedFacts
 exact(aT (aT (aT (aT (aT (aT (aT (aT (aT (aT (aT (aT (aT (aT (aT (aT (aT (aT (aT (aT (aT (aT (aT (aT (aT (aT (aT (aT (aT (aT (aT (by kernel_rfl) zGz) zGL) (by kernel_rfl)) zGT) (by kernel_rfl)) (by kernel_rfl)) (by kernel_rfl)) (by kernel_rfl)) zD4) zD6) zEd) zEk) (by kernel_rfl)) (by kernel_rfl)) (by kernel_rfl)) (by kernel_rfl)) (by kernel_rfl)) (by kernel_rfl)) (by kernel_rfl)) (by kernel_rfl)) (by kernel_rfl)) zEx) (by kernel_rfl)) zEE) zER) zFA) (by kernel_rfl)) (by kernel_rfl)) (by kernel_rfl)) (by kernel_rfl)) (by kernel_rfl))
theorem tG:Tryz.pinned.checked.prog.funcNamed Rows.topAbortRow.func=some 8:=by kernel_rfl
theorem zDj:Tryz.f8.isInstance Tryz.pinned.checked.prog Rows.topAbortRow.origin Rows.topAbortRow.targs:=of_decide_eq_true (by kernel_rfl)
theorem zDV:Tryz.f8.isWrapper Tryz.pinned.checked.prog Rows.topAbortRow.wrapper Rows.topAbortRow.mainSum:=by unfold Func.isWrapper;first|(rw[if_pos (by decide +kernel)];kernel_rfl)|(rw[if_neg (by decide +kernel)];exact⟨rfl,rfl⟩)
theorem zDK:Rows.topAbortRow.wfByText (OpenSpec.ofChange Rows.topAbortSpec)=true:=by kernel_rfl
theorem zDw:Tryz.pinned.checked.prog.mainIs=some (Rows.topAbortCard.stood.harness.1,Rows.topAbortCard.stood.harness.2.toList):=by kernel_rfl
theorem zC1:false=Rows.topAbortRow.goesBy Tryz.pinned.checked.prog:=by kernel_rfl
theorem zAP:true=Tryz.pinned.checked.prog.looks []:=by kernel_rfl
end Go.Proofs.YtnboipekkahmnaaGreatDoor
