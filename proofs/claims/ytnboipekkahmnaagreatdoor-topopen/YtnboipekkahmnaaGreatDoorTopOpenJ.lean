import Derived.Test.YtnboipekkahmnaaGreatDoorCards
import Derived.Test.YtnboipekkahmnaaGreatDoorE00
import Derived.SevenTiedAt
set_option maxHeartbeats 8000000
set_option maxRecDepth 100000
namespace Go.Proofs.YtnboipekkahmnaaGreatDoor
theorem zNm {a b:Bool} (h:a=true) (g:b=true):(a&&b)=true:=by rw[h,g];rfl
theorem zO4:laidOutB Tryz.pinned.checked.prog=true:=by kernel_rfl
theorem zO5:mapsRowed Tryz.pinned.checked.prog=true:=by kernel_rfl
theorem zO6:namedTie Tryz.pinned.checked.prog Rows.topOpenRow.named (OpenSpec.ofChange Rows.topOpenSpec).bare.vars=true:=by kernel_rfl
theorem zOV:(Rows.topOpenRow.inPlace==Tryz.pinned.checked.prog.inPlace 10)=true:=by kernel_rfl
theorem zOW:(Rows.topOpenRow.unfollowed==Tryz.pinned.checked.prog.unfollowed 10)=true:=by kernel_rfl
theorem zOX:(Rows.topOpenRow.recurses==Tryz.pinned.checked.prog.recurses 10)=true:=by kernel_rfl
theorem zOY:(Rows.topOpenRow.named==Tryz.pinned.checked.prog.varsNamed 10)=true:=by kernel_rfl
theorem zOZ:(Rows.topOpenRow.plainKeys==Tryz.pinned.checked.prog.plainKeys)=true:=by kernel_rfl
theorem zO0:Tryz.pinned.checked.prog.stopsHeard=true:=by kernel_rfl
theorem zO1:Tryz.pinned.checked.prog.mayEnter=true:=by kernel_rfl
theorem zO2:(Rows.topOpenRow.lifted==Tryz.pinned.checked.prog.liftsFinal)=true:=by kernel_rfl
theorem zNX:joinedFacts Tryz.pinned.checked.prog 10 Tryz.f10 (OpenSpec.ofChange Rows.topOpenSpec).bare Rows.topOpenRow=true:=by
 unfold joinedFacts
 exact(zNm (zNm (zNm (zNm (zNm (zNm (zNm (zNm (zNm (zNm (zNm (zNm (zNm (zNm (zNm (zNm (zNm (zNm (zNm (zNm (zNm (zNm (zNm (zNm (zNm (zNm (zNm (zNm (zNm (zNm (zNm (by kernel_rfl) zO4) zO5) (by kernel_rfl)) zO6) (by kernel_rfl)) (by kernel_rfl)) (by kernel_rfl)) (by kernel_rfl)) zOV) zOW) zOX) zOY) (by kernel_rfl)) (by kernel_rfl)) (by kernel_rfl)) (by kernel_rfl)) (by kernel_rfl)) (by kernel_rfl)) (by kernel_rfl)) (by kernel_rfl)) (by kernel_rfl)) zOZ) (by kernel_rfl)) zO0) zO1) zO2) (by kernel_rfl)) (by kernel_rfl)) (by kernel_rfl)) (by kernel_rfl)) (by kernel_rfl))
theorem zNw:Tryz.pinned.checked.prog.funcNamed Rows.topOpenRow.func=some 10:=by kernel_rfl
theorem zOH:Tryz.f10.isInstance Tryz.pinned.checked.prog Rows.topOpenRow.origin Rows.topOpenRow.targs:=of_decide_eq_true (by kernel_rfl)
theorem zOM:Tryz.f10.isWrapper Tryz.pinned.checked.prog Rows.topOpenRow.wrapper Rows.topOpenRow.mainSum:=by unfold Func.isWrapper;first|(rw[if_pos (by decide +kernel)];kernel_rfl)|(rw[if_neg (by decide +kernel)];exact⟨rfl,rfl⟩)
theorem zOL:Rows.topOpenRow.wfByText (OpenSpec.ofChange Rows.topOpenSpec)=true:=by kernel_rfl
theorem zOJ:Tryz.pinned.checked.prog.mainIs=some (Rows.topOpenCard.stood.harness.1,Rows.topOpenCard.stood.harness.2.toList):=by kernel_rfl
theorem zOG:false=Rows.topOpenRow.goesBy Tryz.pinned.checked.prog:=by kernel_rfl
theorem zOh:true=Tryz.pinned.checked.prog.looks []:=by kernel_rfl
end Go.Proofs.YtnboipekkahmnaaGreatDoor
