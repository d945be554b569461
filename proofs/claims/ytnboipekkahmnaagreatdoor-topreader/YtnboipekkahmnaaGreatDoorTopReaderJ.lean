import Derived.Test.YtnboipekkahmnaaGreatDoorCards
import Derived.Test.YtnboipekkahmnaaGreatDoorR00
import Derived.SevenTiedAt
set_option maxHeartbeats 8000000
set_option maxRecDepth 100000
namespace Go.Proofs.YtnboipekkahmnaaGreatDoor
theorem aT {a b:Bool} (h:a=true) (g:b=true):(a&&b)=true:=by rw[h,g];rfl
theorem zNu:laidOutB Tryz.pinned.checked.prog=true:=by kernel_rfl
theorem zNv:mapsRowed Tryz.pinned.checked.prog=true:=by kernel_rfl
theorem zNw:namedTie Tryz.pinned.checked.prog Rows.topReaderRow.named (OpenSpec.ofChange Rows.topReaderSpec).bare.vars=true:=by kernel_rfl
theorem zJD:(Rows.topReaderRow.inPlace==Tryz.pinned.checked.prog.inPlace 6)=true:=by kernel_rfl
theorem zKh:(Rows.topReaderRow.unfollowed==Tryz.pinned.checked.prog.unfollowed 6)=true:=by kernel_rfl
theorem zL4:(Rows.topReaderRow.recurses==Tryz.pinned.checked.prog.recurses 6)=true:=by kernel_rfl
theorem zNk:(Rows.topReaderRow.named==Tryz.pinned.checked.prog.varsNamed 6)=true:=by kernel_rfl
theorem zNl:(Rows.topReaderRow.plainKeys==Tryz.pinned.checked.prog.plainKeys)=true:=by kernel_rfl
theorem zNm:Tryz.pinned.checked.prog.stopsHeard=true:=by kernel_rfl
theorem zNn:Tryz.pinned.checked.prog.mayEnter=true:=by kernel_rfl
theorem zNo:(Rows.topReaderRow.lifted==Tryz.pinned.checked.prog.liftsFinal)=true:=by kernel_rfl
theorem zCV:joinedFacts Tryz.pinned.checked.prog 6 Tryz.f6 (OpenSpec.ofChange Rows.topReaderSpec).bare Rows.topReaderRow=true:=by
 unfold joinedFacts;exact(aT (aT (aT (aT (aT (aT (aT (aT (aT (aT (aT (aT (aT (aT (aT (aT (aT (aT (aT (aT (aT (aT (aT (aT (aT (aT (aT (aT (aT (aT (aT (by kernel_rfl) zNu) zNv) (by kernel_rfl)) zNw) (by kernel_rfl)) (by kernel_rfl)) (by kernel_rfl)) (by kernel_rfl)) zJD) zKh) zL4) zNk) (by kernel_rfl)) (by kernel_rfl)) (by kernel_rfl)) (by kernel_rfl)) (by kernel_rfl)) (by kernel_rfl)) (by kernel_rfl)) (by kernel_rfl)) (by kernel_rfl)) zNl) (by kernel_rfl)) zNm) zNn) zNo) (by kernel_rfl)) (by kernel_rfl)) (by kernel_rfl)) (by kernel_rfl)) (by kernel_rfl))
theorem zAt:Tryz.pinned.checked.prog.funcNamed Rows.topReaderRow.func=some 6:=by kernel_rfl
theorem zER:Tryz.f6.isInstance Tryz.pinned.checked.prog Rows.topReaderRow.origin Rows.topReaderRow.targs:=of_decide_eq_true (by kernel_rfl)
theorem zGT:Tryz.f6.isWrapper Tryz.pinned.checked.prog Rows.topReaderRow.wrapper Rows.topReaderRow.mainSum:=by unfold Func.isWrapper;first|(rw[if_pos (by decide +kernel)];kernel_rfl)|(rw[if_neg (by decide +kernel)];exact⟨rfl,rfl⟩)
theorem zGL:Rows.topReaderRow.wfByText (OpenSpec.ofChange Rows.topReaderSpec)=true:=by kernel_rfl
theorem zF4:Tryz.pinned.checked.prog.mainIs=some (Rows.topReaderCard.stood.harness.1,Rows.topReaderCard.stood.harness.2.toList):=by kernel_rfl
theorem zEE:false=Rows.topReaderRow.goesBy Tryz.pinned.checked.prog:=by kernel_rfl
theorem zD4:true=Tryz.pinned.checked.prog.looks []:=by kernel_rfl
end Go.Proofs.YtnboipekkahmnaaGreatDoor
