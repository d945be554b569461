/-
  Closed facts of the row of EngineSays, one by one. No claim is made here.
-/
import Derived.Test.YtcfjimdfegejaaaGreatDoorCards
import Derived.Test.YtcfjimdfegejaaaGreatDoorQ00
import Derived.SevenTiedAt
set_option maxHeartbeats 8000000
set_option maxRecDepth 100000
namespace Go.Proofs.YtcfjimdfegejaaaGreatDoor
theorem aT {a b:Bool} (h:a=true) (g:b=true):(a&&b)=true:=by rw[h,g];rfl
theorem zLf:laidOutB Tryz.pinned.checked.prog=true:=by kernel_rfl
theorem zLg:mapsRowed Tryz.pinned.checked.prog=true:=by kernel_rfl
theorem zLi:namedTie Tryz.pinned.checked.prog Rows.engineSaysRow.named (OpenSpec.ofChange Rows.engineSaysSpec).bare.vars=true:=by kernel_rfl
theorem zG1:(Rows.engineSaysRow.inPlace==Tryz.pinned.checked.prog.inPlace 3)=true:=by kernel_rfl
theorem zG2:(Rows.engineSaysRow.unfollowed==Tryz.pinned.checked.prog.unfollowed 3)=true:=by kernel_rfl
theorem zHb:(Rows.engineSaysRow.recurses==Tryz.pinned.checked.prog.recurses 3)=true:=by kernel_rfl
theorem zHe:(Rows.engineSaysRow.named==Tryz.pinned.checked.prog.varsNamed 3)=true:=by kernel_rfl
theorem zHw:(Rows.engineSaysRow.plainKeys==Tryz.pinned.checked.prog.plainKeys)=true:=by kernel_rfl
theorem zHz:Tryz.pinned.checked.prog.stopsHeard=true:=by kernel_rfl
theorem zHB:Tryz.pinned.checked.prog.mayEnter=true:=by kernel_rfl
theorem zHJ:(Rows.engineSaysRow.lifted==Tryz.pinned.checked.prog.liftsFinal)=true:=by kernel_rfl
theorem zDS:joinedFacts Tryz.pinned.checked.prog 3 Tryz.f3 (OpenSpec.ofChange Rows.engineSaysSpec).bare Rows.engineSaysRow=true:=by
 unfold joinedFacts;exact(aT (aT (aT (aT (aT (aT (aT (aT (aT (aT (aT (aT (aT (aT (aT (aT (aT (aT (aT (aT (aT (aT (aT (aT (aT (aT (aT (aT (aT (aT (aT (by kernel_rfl) zLf) zLg) (by kernel_rfl)) zLi) (by kernel_rfl)) (by kernel_rfl)) (by kernel_rfl)) (by kernel_rfl)) zG1) zG2) zHb) zHe) (by kernel_rfl)) (by kernel_rfl)) (by kernel_rfl)) (by kernel_rfl)) (by kernel_rfl)) (by kernel_rfl)) (by kernel_rfl)) (by kernel_rfl)) (by kernel_rfl)) zHw) (by kernel_rfl)) zHz) zHB) zHJ) (by kernel_rfl)) (by kernel_rfl)) (by kernel_rfl)) (by kernel_rfl)) (by kernel_rfl))
theorem wW:Tryz.pinned.checked.prog.funcNamed Rows.engineSaysRow.func=some 3:=by kernel_rfl
theorem zFB:Tryz.f3.isInstance Tryz.pinned.checked.prog Rows.engineSaysRow.origin Rows.engineSaysRow.targs:=of_decide_eq_true (by kernel_rfl)
theorem zGf:Tryz.f3.isWrapper Tryz.pinned.checked.prog Rows.engineSaysRow.wrapper Rows.engineSaysRow.mainSum:=by unfold Func.isWrapper;first|(rw[if_pos (by decide +kernel)];kernel_rfl)|(rw[if_neg (by decide +kernel)];exact⟨rfl,rfl⟩)
theorem zGd:Rows.engineSaysRow.wfByText (OpenSpec.ofChange Rows.engineSaysSpec)=true:=by kernel_rfl
theorem zFT:Tryz.pinned.checked.prog.mainIs=some (Rows.engineSaysCard.stood.harness.1,Rows.engineSaysCard.stood.harness.2.toList):=by kernel_rfl
theorem zFf:false=Rows.engineSaysRow.goesBy Tryz.pinned.checked.prog:=by kernel_rfl
theorem zEi:true=Tryz.pinned.checked.prog.looks []:=by kernel_rfl
end Go.Proofs.YtcfjimdfegejaaaGreatDoor
