import Derived.Test.YtnboipekkahmnaaGreatDoorCards
import Derived.Test.YtnboipekkahmnaaGreatDoorE00
import Derived.SevenTiedAt
set_option maxHeartbeats 8000000
set_option maxRecDepth 100000
namespace Go.Proofs.YtnboipekkahmnaaGreatDoor
theorem aT {a b:Bool} (h:a=true) (g:b=true):(a&&b)=true:=by rw[h,g];rfl
theorem zGT:laidOutB Tryz.pinned.checked.prog=true:=by kernel_rfl
theorem zF4:mapsRowed Tryz.pinned.checked.prog=true:=by kernel_rfl
theorem zGz:namedTie Tryz.pinned.checked.prog Rows.topKeptRow.named (OpenSpec.ofChange Rows.topKeptSpec).bare.vars=true:=by kernel_rfl
theorem zEk:(Rows.topKeptRow.inPlace==Tryz.pinned.checked.prog.inPlace 12)=true:=by kernel_rfl
theorem zEd:(Rows.topKeptRow.unfollowed==Tryz.pinned.checked.prog.unfollowed 12)=true:=by kernel_rfl
theorem zD6:(Rows.topKeptRow.recurses==Tryz.pinned.checked.prog.recurses 12)=true:=by kernel_rfl
theorem zDV:(Rows.topKeptRow.named==Tryz.pinned.checked.prog.varsNamed 12)=true:=by kernel_rfl
theorem zEx:(Rows.topKeptRow.plainKeys==Tryz.pinned.checked.prog.plainKeys)=true:=by kernel_rfl
theorem zD0:Tryz.pinned.checked.prog.stopsHeard=true:=by kernel_rfl
theorem zEE:Tryz.pinned.checked.prog.mayEnter=true:=by kernel_rfl
theorem zER:(Rows.topKeptRow.lifted==Tryz.pinned.checked.prog.liftsFinal)=true:=by kernel_rfl
theorem zAt:joinedFacts Tryz.pinned.checked.prog 12 Tryz.f12 (OpenSpec.ofChange Rows.topKeptSpec).bare Rows.topKeptRow=true:=by
 unfold joinedFacts
 exact(aT (aT (aT (aT (aT (aT (aT (aT (aT (aT (aT (aT (aT (aT (aT (aT (aT (aT (aT (aT (aT (aT (aT (aT (aT (aT (aT (aT (aT (aT (aT (by kernel_rfl) zGT) zF4) (by kernel_rfl)) zGz) (by kernel_rfl)) (by kernel_rfl)) (by kernel_rfl)) (by kernel_rfl)) zEk) zEd) zD6) zDV) (by kernel_rfl)) (by kernel_rfl)) (by kernel_rfl)) (by kernel_rfl)) (by kernel_rfl)) (by kernel_rfl)) (by kernel_rfl)) (by kernel_rfl)) (by kernel_rfl)) zEx) (by kernel_rfl)) zD0) zEE) zER) (by kernel_rfl)) (by kernel_rfl)) (by kernel_rfl)) (by kernel_rfl)) (by kernel_rfl))
theorem tG:Tryz.pinned.checked.prog.funcNamed Rows.topKeptRow.func=some 12:=by kernel_rfl
theorem zDw:Tryz.f12.isInstance Tryz.pinned.checked.prog Rows.topKeptRow.origin Rows.topKeptRow.targs:=of_decide_eq_true (by kernel_rfl)
theorem zDJ:Tryz.f12.isWrapper Tryz.pinned.checked.prog Rows.topKeptRow.wrapper Rows.topKeptRow.mainSum:=by unfold Func.isWrapper;first|(rw[if_pos (by decide +kernel)];kernel_rfl)|(rw[if_neg (by decide +kernel)];exact⟨rfl,rfl⟩)
theorem zC1:Rows.topKeptRow.wfByText (OpenSpec.ofChange Rows.topKeptSpec)=true:=by kernel_rfl
theorem zDK:Tryz.pinned.checked.prog.mainIs=some (Rows.topKeptCard.stood.harness.1,Rows.topKeptCard.stood.harness.2.toList):=by kernel_rfl
theorem zDv:false=Rows.topKeptRow.goesBy Tryz.pinned.checked.prog:=by kernel_rfl
theorem zCi:true=Tryz.pinned.checked.prog.looks []:=by kernel_rfl
end Go.Proofs.YtnboipekkahmnaaGreatDoor
