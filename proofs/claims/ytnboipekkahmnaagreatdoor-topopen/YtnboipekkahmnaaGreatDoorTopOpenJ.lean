import Derived.Test.YtnboipekkahmnaaGreatDoorCards
import Derived.Test.YtnboipekkahmnaaGreatDoorE00
import Derived.SevenTiedAt
set_option maxHeartbeats 8000000
set_option maxRecDepth 100000
namespace Go.Proofs.YtnboipekkahmnaaGreatDoor
theorem aT {a b:Bool} (h:a=true) (g:b=true):(a&&b)=true:=by rw[h,g];rfl
theorem zF4:laidOutB Tryz.pinned.checked.prog=true:=by kernel_rfl
theorem zGf:mapsRowed Tryz.pinned.checked.prog=true:=by kernel_rfl
theorem zGz:namedTie Tryz.pinned.checked.prog Rows.topOpenRow.named (OpenSpec.ofChange Rows.topOpenSpec).bare.vars=true:=by kernel_rfl
theorem zD0:(Rows.topOpenRow.inPlace==Tryz.pinned.checked.prog.inPlace 10)=true:=by kernel_rfl
theorem zD4:(Rows.topOpenRow.unfollowed==Tryz.pinned.checked.prog.unfollowed 10)=true:=by kernel_rfl
theorem zD6:(Rows.topOpenRow.recurses==Tryz.pinned.checked.prog.recurses 10)=true:=by kernel_rfl
theorem zEd:(Rows.topOpenRow.named==Tryz.pinned.checked.prog.varsNamed 10)=true:=by kernel_rfl
theorem zEk:(Rows.topOpenRow.plainKeys==Tryz.pinned.checked.prog.plainKeys)=true:=by kernel_rfl
theorem zEx:Tryz.pinned.checked.prog.stopsHeard=true:=by kernel_rfl
theorem zEE:Tryz.pinned.checked.prog.mayEnter=true:=by kernel_rfl
theorem zER:(Rows.topOpenRow.lifted==Tryz.pinned.checked.prog.liftsFinal)=true:=by kernel_rfl
theorem zAe:joinedFacts Tryz.pinned.checked.prog 10 Tryz.f10 (OpenSpec.ofChange Rows.topOpenSpec).bare Rows.topOpenRow=true:=by
 unfold joinedFacts
 exact(aT (aT (aT (aT (aT (aT (aT (aT (aT (aT (aT (aT (aT (aT (aT (aT (aT (aT (aT (aT (aT (aT (aT (aT (aT (aT (aT (aT (aT (aT (aT (by kernel_rfl) zF4) zGf) (by kernel_rfl)) zGz) (by kernel_rfl)) (by kernel_rfl)) (by kernel_rfl)) (by kernel_rfl)) zD0) zD4) zD6) zEd) (by kernel_rfl)) (by kernel_rfl)) (by kernel_rfl)) (by kernel_rfl)) (by kernel_rfl)) (by kernel_rfl)) (by kernel_rfl)) (by kernel_rfl)) (by kernel_rfl)) zEk) (by kernel_rfl)) zEx) zEE) zER) (by kernel_rfl)) (by kernel_rfl)) (by kernel_rfl)) (by kernel_rfl)) (by kernel_rfl))
theorem tG:Tryz.pinned.checked.prog.funcNamed Rows.topOpenRow.func=some 10:=by kernel_rfl
theorem zDj:Tryz.f10.isInstance Tryz.pinned.checked.prog Rows.topOpenRow.origin Rows.topOpenRow.targs:=of_decide_eq_true (by kernel_rfl)
theorem zDV:Tryz.f10.isWrapper Tryz.pinned.checked.prog Rows.topOpenRow.wrapper Rows.topOpenRow.mainSum:=by unfold Func.isWrapper;first|(rw[if_pos (by decide +kernel)];kernel_rfl)|(rw[if_neg (by decide +kernel)];exact⟨rfl,rfl⟩)
theorem zDK:Rows.topOpenRow.wfByText (OpenSpec.ofChange Rows.topOpenSpec)=true:=by kernel_rfl
theorem zDw:Tryz.pinned.checked.prog.mainIs=some (Rows.topOpenCard.stood.harness.1,Rows.topOpenCard.stood.harness.2.toList):=by kernel_rfl
theorem zC1:false=Rows.topOpenRow.goesBy Tryz.pinned.checked.prog:=by kernel_rfl
theorem zCf:true=Tryz.pinned.checked.prog.looks []:=by kernel_rfl
end Go.Proofs.YtnboipekkahmnaaGreatDoor
