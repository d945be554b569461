import Derived.Test.YtnboipekkahmnaaGreatDoorCards
import Derived.Test.YtnboipekkahmnaaGreatDoorF00
import Derived.SevenTiedAt
set_option maxHeartbeats 8000000
set_option maxRecDepth 100000
namespace Go.Proofs.YtnboipekkahmnaaGreatDoor
theorem aT {a b:Bool} (h:a=true) (g:b=true):(a&&b)=true:=by rw[h,g];rfl
theorem zNG:laidOutB Tryz.pinned.checked.prog=true:=by kernel_rfl
theorem zNH:mapsRowed Tryz.pinned.checked.prog=true:=by kernel_rfl
theorem zNI:namedTie Tryz.pinned.checked.prog Rows.topFallRow.named (OpenSpec.ofChange Rows.topFallSpec).bare.vars=true:=by kernel_rfl
theorem zNt:(Rows.topFallRow.inPlace==Tryz.pinned.checked.prog.inPlace 11)=true:=by kernel_rfl
theorem zNu:(Rows.topFallRow.unfollowed==Tryz.pinned.checked.prog.unfollowed 11)=true:=by kernel_rfl
theorem zNv:(Rows.topFallRow.recurses==Tryz.pinned.checked.prog.recurses 11)=true:=by kernel_rfl
theorem zNw:(Rows.topFallRow.named==Tryz.pinned.checked.prog.varsNamed 11)=true:=by kernel_rfl
theorem zNx:(Rows.topFallRow.plainKeys==Tryz.pinned.checked.prog.plainKeys)=true:=by kernel_rfl
theorem zNy:Tryz.pinned.checked.prog.stopsHeard=true:=by kernel_rfl
theorem zNz:Tryz.pinned.checked.prog.mayEnter=true:=by kernel_rfl
theorem zNA:(Rows.topFallRow.lifted==Tryz.pinned.checked.prog.liftsFinal)=true:=by kernel_rfl
theorem zD4:joinedFacts Tryz.pinned.checked.prog 11 Tryz.f11 (OpenSpec.ofChange Rows.topFallSpec).bare Rows.topFallRow=true:=by
 unfold joinedFacts;exact(aT (aT (aT (aT (aT (aT (aT (aT (aT (aT (aT (aT (aT (aT (aT (aT (aT (aT (aT (aT (aT (aT (aT (aT (aT (aT (aT (aT (aT (aT (aT (by kernel_rfl) zNG) zNH) (by kernel_rfl)) zNI) (by kernel_rfl)) (by kernel_rfl)) (by kernel_rfl)) (by kernel_rfl)) zNt) zNu) zNv) zNw) (by kernel_rfl)) (by kernel_rfl)) (by kernel_rfl)) (by kernel_rfl)) (by kernel_rfl)) (by kernel_rfl)) (by kernel_rfl)) (by kernel_rfl)) (by kernel_rfl)) zNx) (by kernel_rfl)) zNy) zNz) zNA) (by kernel_rfl)) (by kernel_rfl)) (by kernel_rfl)) (by kernel_rfl)) (by kernel_rfl))
theorem zCi:Tryz.pinned.checked.prog.funcNamed Rows.topFallRow.func=some 11:=by kernel_rfl
theorem zNm:Tryz.f11.isInstance Tryz.pinned.checked.prog Rows.topFallRow.origin Rows.topFallRow.targs:=of_decide_eq_true (by kernel_rfl)
theorem zNr:Tryz.f11.isWrapper Tryz.pinned.checked.prog Rows.topFallRow.wrapper Rows.topFallRow.mainSum:=by unfold Func.isWrapper;first|(rw[if_pos (by decide +kernel)];kernel_rfl)|(rw[if_neg (by decide +kernel)];exact⟨rfl,rfl⟩)
theorem zNq:Rows.topFallRow.wfByText (OpenSpec.ofChange Rows.topFallSpec)=true:=by kernel_rfl
theorem zNo:Tryz.pinned.checked.prog.mainIs=some (Rows.topFallCard.stood.harness.1,Rows.topFallCard.stood.harness.2.toList):=by kernel_rfl
theorem zNl:false=Rows.topFallRow.goesBy Tryz.pinned.checked.prog:=by kernel_rfl
theorem zGz:true=Tryz.pinned.checked.prog.looks []:=by kernel_rfl
end Go.Proofs.YtnboipekkahmnaaGreatDoor
