import Derived.Test.YtnboipekkahmnaaGreatDoorCards
import Derived.Test.YtnboipekkahmnaaGreatDoorD00
import Derived.SevenTiedAt
set_option maxHeartbeats 8000000
set_option maxRecDepth 100000
namespace Go.Proofs.YtnboipekkahmnaaGreatDoor
theorem aT {a b:Bool} (h:a=true) (g:b=true):(a&&b)=true:=by rw[h,g];rfl
theorem zNF:laidOutB Tryz.pinned.checked.prog=true:=by kernel_rfl
theorem zNG:mapsRowed Tryz.pinned.checked.prog=true:=by kernel_rfl
theorem zNH:namedTie Tryz.pinned.checked.prog Rows.topBlindRow.named (OpenSpec.ofChange Rows.topBlindSpec).bare.vars=true:=by kernel_rfl
theorem zNv:(Rows.topBlindRow.inPlace==Tryz.pinned.checked.prog.inPlace 7)=true:=by kernel_rfl
theorem zNw:(Rows.topBlindRow.unfollowed==Tryz.pinned.checked.prog.unfollowed 7)=true:=by kernel_rfl
theorem zNx:(Rows.topBlindRow.recurses==Tryz.pinned.checked.prog.recurses 7)=true:=by kernel_rfl
theorem zNy:(Rows.topBlindRow.named==Tryz.pinned.checked.prog.varsNamed 7)=true:=by kernel_rfl
theorem zNz:(Rows.topBlindRow.plainKeys==Tryz.pinned.checked.prog.plainKeys)=true:=by kernel_rfl
theorem zNA:Tryz.pinned.checked.prog.stopsHeard=true:=by kernel_rfl
theorem zNB:Tryz.pinned.checked.prog.mayEnter=true:=by kernel_rfl
theorem zNC:(Rows.topBlindRow.lifted==Tryz.pinned.checked.prog.liftsFinal)=true:=by kernel_rfl
theorem zEE:joinedFacts Tryz.pinned.checked.prog 7 Tryz.f7 (OpenSpec.ofChange Rows.topBlindSpec).bare Rows.topBlindRow=true:=by
 unfold joinedFacts;exact(aT (aT (aT (aT (aT (aT (aT (aT (aT (aT (aT (aT (aT (aT (aT (aT (aT (aT (aT (aT (aT (aT (aT (aT (aT (aT (aT (aT (aT (aT (aT (by kernel_rfl) zNF) zNG) (by kernel_rfl)) zNH) (by kernel_rfl)) (by kernel_rfl)) (by kernel_rfl)) (by kernel_rfl)) zNv) zNw) zNx) zNy) (by kernel_rfl)) (by kernel_rfl)) (by kernel_rfl)) (by kernel_rfl)) (by kernel_rfl)) (by kernel_rfl)) (by kernel_rfl)) (by kernel_rfl)) (by kernel_rfl)) zNz) (by kernel_rfl)) zNA) zNB) zNC) (by kernel_rfl)) (by kernel_rfl)) (by kernel_rfl)) (by kernel_rfl)) (by kernel_rfl))
theorem zCV:Tryz.pinned.checked.prog.funcNamed Rows.topBlindRow.func=some 7:=by kernel_rfl
theorem zKh:Tryz.f7.isInstance Tryz.pinned.checked.prog Rows.topBlindRow.origin Rows.topBlindRow.targs:=of_decide_eq_true (by kernel_rfl)
theorem zNn:Tryz.f7.isWrapper Tryz.pinned.checked.prog Rows.topBlindRow.wrapper Rows.topBlindRow.mainSum:=by unfold Func.isWrapper;first|(rw[if_pos (by decide +kernel)];kernel_rfl)|(rw[if_neg (by decide +kernel)];exact⟨rfl,rfl⟩)
theorem zNm:Rows.topBlindRow.wfByText (OpenSpec.ofChange Rows.topBlindSpec)=true:=by kernel_rfl
theorem zNk:Tryz.pinned.checked.prog.mainIs=some (Rows.topBlindCard.stood.harness.1,Rows.topBlindCard.stood.harness.2.toList):=by kernel_rfl
theorem zJD:false=Rows.topBlindRow.goesBy Tryz.pinned.checked.prog:=by kernel_rfl
theorem zGz:true=Tryz.pinned.checked.prog.looks []:=by kernel_rfl
end Go.Proofs.YtnboipekkahmnaaGreatDoor
