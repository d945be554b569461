import Derived.Test.YtnboipekkahmnaaGreatDoorCards
import Derived.Test.YtnboipekkahmnaaGreatDoorE00
import Derived.SevenTiedAt
set_option maxHeartbeats 8000000
set_option maxRecDepth 100000
namespace Go.Proofs.YtnboipekkahmnaaGreatDoor
theorem zNk {a b:Bool} (h:a=true) (g:b=true):(a&&b)=true:=by rw[h,g];rfl
theorem zOP:laidOutB Tryz.pinned.checked.prog=true:=by kernel_rfl
theorem zOQ:mapsRowed Tryz.pinned.checked.prog=true:=by kernel_rfl
theorem zOR:namedTie Tryz.pinned.checked.prog Rows.topAbortRow.named (OpenSpec.ofChange Rows.topAbortSpec).bare.vars=true:=by kernel_rfl
theorem zOq:(Rows.topAbortRow.inPlace==Tryz.pinned.checked.prog.inPlace 8)=true:=by kernel_rfl
theorem zOr:(Rows.topAbortRow.unfollowed==Tryz.pinned.checked.prog.unfollowed 8)=true:=by kernel_rfl
theorem zOs:(Rows.topAbortRow.recurses==Tryz.pinned.checked.prog.recurses 8)=true:=by kernel_rfl
theorem zOt:(Rows.topAbortRow.named==Tryz.pinned.checked.prog.varsNamed 8)=true:=by kernel_rfl
theorem zOu:(Rows.topAbortRow.plainKeys==Tryz.pinned.checked.prog.plainKeys)=true:=by kernel_rfl
theorem zOv:Tryz.pinned.checked.prog.stopsHeard=true:=by kernel_rfl
theorem zOw:Tryz.pinned.checked.prog.mayEnter=true:=by kernel_rfl
theorem zOx:(Rows.topAbortRow.lifted==Tryz.pinned.checked.prog.liftsFinal)=true:=by kernel_rfl
theorem zNJ:joinedFacts Tryz.pinned.checked.prog 8 Tryz.f8 (OpenSpec.ofChange Rows.topAbortSpec).bare Rows.topAbortRow=true:=by
 unfold joinedFacts
 exact(zNk (zNk (zNk (zNk (zNk (zNk (zNk (zNk (zNk (zNk (zNk (zNk (zNk (zNk (zNk (zNk (zNk (zNk (zNk (zNk (zNk (zNk (zNk (zNk (zNk (zNk (zNk (zNk (zNk (zNk (zNk (by kernel_rfl) zOP) zOQ) (by kernel_rfl)) zOR) (by kernel_rfl)) (by kernel_rfl)) (by kernel_rfl)) (by kernel_rfl)) zOq) zOr) zOs) zOt) (by kernel_rfl)) (by kernel_rfl)) (by kernel_rfl)) (by kernel_rfl)) (by kernel_rfl)) (by kernel_rfl)) (by kernel_rfl)) (by kernel_rfl)) (by kernel_rfl)) zOu) (by kernel_rfl)) zOv) zOw) zOx) (by kernel_rfl)) (by kernel_rfl)) (by kernel_rfl)) (by kernel_rfl)) (by kernel_rfl))
theorem zNr:Tryz.pinned.checked.prog.funcNamed Rows.topAbortRow.func=some 8:=by kernel_rfl
theorem zN4:Tryz.f8.isInstance Tryz.pinned.checked.prog Rows.topAbortRow.origin Rows.topAbortRow.targs:=of_decide_eq_true (by kernel_rfl)
theorem zN9:Tryz.f8.isWrapper Tryz.pinned.checked.prog Rows.topAbortRow.wrapper Rows.topAbortRow.mainSum:=by unfold Func.isWrapper;first|(rw[if_pos (by decide +kernel)];kernel_rfl)|(rw[if_neg (by decide +kernel)];exact⟨rfl,rfl⟩)
theorem zN8:Rows.topAbortRow.wfByText (OpenSpec.ofChange Rows.topAbortSpec)=true:=by kernel_rfl
theorem zN6:Tryz.pinned.checked.prog.mainIs=some (Rows.topAbortCard.stood.harness.1,Rows.topAbortCard.stood.harness.2.toList):=by kernel_rfl
theorem zN3:false=Rows.topAbortRow.goesBy Tryz.pinned.checked.prog:=by kernel_rfl
theorem zNP:true=Tryz.pinned.checked.prog.looks []:=by kernel_rfl
end Go.Proofs.YtnboipekkahmnaaGreatDoor
