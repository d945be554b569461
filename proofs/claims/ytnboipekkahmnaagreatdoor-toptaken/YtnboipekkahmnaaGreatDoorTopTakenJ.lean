import Derived.Test.YtnboipekkahmnaaGreatDoorCards
import Derived.Test.YtnboipekkahmnaaGreatDoorT00
import Derived.SevenTiedAt
set_option maxHeartbeats 8000000
set_option maxRecDepth 100000
namespace Go.Proofs.YtnboipekkahmnaaGreatDoor
theorem cY {a b:Bool} (h:a=true) (g:b=true):(a&&b)=true:=by rw[h,g];rfl
theorem pE:laidOutB Tryz.pinned.checked.prog=true:=by kernel_rfl
theorem pV:mapsRowed Tryz.pinned.checked.prog=true:=by kernel_rfl
theorem pW:namedTie Tryz.pinned.checked.prog Rows.topTakenRow.named (OpenSpec.ofChange Rows.topTakenSpec).bare.vars=true:=by kernel_rfl
theorem lK:(Rows.topTakenRow.inPlace==Tryz.pinned.checked.prog.inPlace 9)=true:=by kernel_rfl
theorem lO:(Rows.topTakenRow.unfollowed==Tryz.pinned.checked.prog.unfollowed 9)=true:=by kernel_rfl
theorem lS:(Rows.topTakenRow.recurses==Tryz.pinned.checked.prog.recurses 9)=true:=by kernel_rfl
theorem lU:(Rows.topTakenRow.named==Tryz.pinned.checked.prog.varsNamed 9)=true:=by kernel_rfl
theorem lZ:(Rows.topTakenRow.plainKeys==Tryz.pinned.checked.prog.plainKeys)=true:=by kernel_rfl
theorem mG:Tryz.pinned.checked.prog.stopsHeard=true:=by kernel_rfl
theorem oF:Tryz.pinned.checked.prog.mayEnter=true:=by kernel_rfl
theorem oN:(Rows.topTakenRow.lifted==Tryz.pinned.checked.prog.liftsFinal)=true:=by kernel_rfl
theorem gH:joinedFacts Tryz.pinned.checked.prog 9 Tryz.f9 (OpenSpec.ofChange Rows.topTakenSpec).bare Rows.topTakenRow=true:=by
 unfold joinedFacts;exact(cY (cY (cY (cY (cY (cY (cY (cY (cY (cY (cY (cY (cY (cY (cY (cY (cY (cY (cY (cY (cY (cY (cY (cY (cY (cY (cY (cY (cY (cY (cY (by kernel_rfl) pE) pV) (by kernel_rfl)) pW) (by kernel_rfl)) (by kernel_rfl)) (by kernel_rfl)) (by kernel_rfl)) lK) lO) lS) lU) (by kernel_rfl)) (by kernel_rfl)) (by kernel_rfl)) (by kernel_rfl)) (by kernel_rfl)) (by kernel_rfl)) (by kernel_rfl)) (by kernel_rfl)) (by kernel_rfl)) lZ) (by kernel_rfl)) mG) oF) oN) (by kernel_rfl)) (by kernel_rfl)) (by kernel_rfl)) (by kernel_rfl)) (by kernel_rfl))
theorem dV:Tryz.pinned.checked.prog.funcNamed Rows.topTakenRow.func=some 9:=by kernel_rfl
theorem iR:Tryz.f9.isInstance Tryz.pinned.checked.prog Rows.topTakenRow.origin Rows.topTakenRow.targs:=of_decide_eq_true (by kernel_rfl)
theorem jR:Tryz.f9.isWrapper Tryz.pinned.checked.prog Rows.topTakenRow.wrapper Rows.topTakenRow.mainSum:=by unfold Func.isWrapper;first|(rw[if_pos (by decide +kernel)];kernel_rfl)|(rw[if_neg (by decide +kernel)];exact⟨rfl,rfl⟩)
theorem jQ:Rows.topTakenRow.wfByText (OpenSpec.ofChange Rows.topTakenSpec)=true:=by kernel_rfl
theorem iZ:Tryz.pinned.checked.prog.mainIs=some (Rows.topTakenCard.stood.harness.1,Rows.topTakenCard.stood.harness.2.toList):=by kernel_rfl
theorem iM:false=Rows.topTakenRow.goesBy Tryz.pinned.checked.prog:=by kernel_rfl
theorem gT:true=Tryz.pinned.checked.prog.looks []:=by kernel_rfl
end Go.Proofs.YtnboipekkahmnaaGreatDoor
