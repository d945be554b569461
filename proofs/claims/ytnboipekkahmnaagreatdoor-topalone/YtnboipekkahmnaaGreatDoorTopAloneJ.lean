import Derived.Test.YtnboipekkahmnaaGreatDoorCards
import Derived.Test.YtnboipekkahmnaaGreatDoorE00
import Derived.SevenTiedAt
set_option maxHeartbeats 8000000
set_option maxRecDepth 100000
namespace Go.Proofs.YtnboipekkahmnaaGreatDoor
theorem aT {a b:Bool} (h:a=true) (g:b=true):(a&&b)=true:=by rw[h,g];rfl
theorem zEE:laidOutB Tryz.pinned.checked.prog=true:=by kernel_rfl
theorem zER:mapsRowed Tryz.pinned.checked.prog=true:=by kernel_rfl
theorem zFA:namedTie Tryz.pinned.checked.prog Rows.topAloneRow.named (OpenSpec.ofChange Rows.topAloneSpec).bare.vars=true:=by kernel_rfl
theorem zDJ:(Rows.topAloneRow.inPlace==Tryz.pinned.checked.prog.inPlace 5)=true:=by kernel_rfl
theorem zDK:(Rows.topAloneRow.unfollowed==Tryz.pinned.checked.prog.unfollowed 5)=true:=by kernel_rfl
theorem zDV:(Rows.topAloneRow.recurses==Tryz.pinned.checked.prog.recurses 5)=true:=by kernel_rfl
theorem zD0:(Rows.topAloneRow.named==Tryz.pinned.checked.prog.varsNamed 5)=true:=by kernel_rfl
theorem zD4:(Rows.topAloneRow.plainKeys==Tryz.pinned.checked.prog.plainKeys)=true:=by kernel_rfl
theorem zD6:Tryz.pinned.checked.prog.stopsHeard=true:=by kernel_rfl
theorem zEd:Tryz.pinned.checked.prog.mayEnter=true:=by kernel_rfl
theorem zEk:(Rows.topAloneRow.lifted==Tryz.pinned.checked.prog.liftsFinal)=true:=by kernel_rfl
theorem xH:joinedFacts Tryz.pinned.checked.prog 5 Tryz.f5 (OpenSpec.ofChange Rows.topAloneSpec).bare Rows.topAloneRow=true:=by
 unfold joinedFacts
 exact(aT (aT (aT (aT (aT (aT (aT (aT (aT (aT (aT (aT (aT (aT (aT (aT (aT (aT (aT (aT (aT (aT (aT (aT (aT (aT (aT (aT (aT (aT (aT (by kernel_rfl) zEE) zER) (by kernel_rfl)) zFA) (by kernel_rfl)) (by kernel_rfl)) (by kernel_rfl)) (by kernel_rfl)) zDJ) zDK) zDV) zD0) (by kernel_rfl)) (by kernel_rfl)) (by kernel_rfl)) (by kernel_rfl)) (by kernel_rfl)) (by kernel_rfl)) (by kernel_rfl)) (by kernel_rfl)) (by kernel_rfl)) zD4) (by kernel_rfl)) zD6) zEd) zEk) (by kernel_rfl)) (by kernel_rfl)) (by kernel_rfl)) (by kernel_rfl)) (by kernel_rfl))
theorem tG:Tryz.pinned.checked.prog.funcNamed Rows.topAloneRow.func=some 5:=by kernel_rfl
theorem zCn:Tryz.f5.isInstance Tryz.pinned.checked.prog Rows.topAloneRow.origin Rows.topAloneRow.targs:=of_decide_eq_true (by kernel_rfl)
theorem zDv:Tryz.f5.isWrapper Tryz.pinned.checked.prog Rows.topAloneRow.wrapper Rows.topAloneRow.mainSum:=by unfold Func.isWrapper;first|(rw[if_pos (by decide +kernel)];kernel_rfl)|(rw[if_neg (by decide +kernel)];exact⟨rfl,rfl⟩)
theorem zDj:Rows.topAloneRow.wfByText (OpenSpec.ofChange Rows.topAloneSpec)=true:=by kernel_rfl
theorem zCV:Tryz.pinned.checked.prog.mainIs=some (Rows.topAloneCard.stood.harness.1,Rows.topAloneCard.stood.harness.2.toList):=by kernel_rfl
theorem zCi:false=Rows.topAloneRow.goesBy Tryz.pinned.checked.prog:=by kernel_rfl
theorem zAw:true=Tryz.pinned.checked.prog.looks []:=by kernel_rfl
end Go.Proofs.YtnboipekkahmnaaGreatDoor
