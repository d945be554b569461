import Derived.Test.YtnboipekkahmnaaGreatDoorCards
import Derived.Test.YtnboipekkahmnaaGreatDoorE00
import Derived.SevenTiedAt
set_option maxHeartbeats 8000000
set_option maxRecDepth 100000
namespace Go.Proofs.YtnboipekkahmnaaGreatDoor
theorem zNl {a b:Bool} (h:a=true) (g:b=true):(a&&b)=true:=by rw[h,g];rfl
theorem zOS:laidOutB Tryz.pinned.checked.prog=true:=by kernel_rfl
theorem zOT:mapsRowed Tryz.pinned.checked.prog=true:=by kernel_rfl
theorem zOU:namedTie Tryz.pinned.checked.prog Rows.topAloneRow.named (OpenSpec.ofChange Rows.topAloneSpec).bare.vars=true:=by kernel_rfl
theorem zOy:(Rows.topAloneRow.inPlace==Tryz.pinned.checked.prog.inPlace 5)=true:=by kernel_rfl
theorem zOz:(Rows.topAloneRow.unfollowed==Tryz.pinned.checked.prog.unfollowed 5)=true:=by kernel_rfl
theorem zOA:(Rows.topAloneRow.recurses==Tryz.pinned.checked.prog.recurses 5)=true:=by kernel_rfl
theorem zOB:(Rows.topAloneRow.named==Tryz.pinned.checked.prog.varsNamed 5)=true:=by kernel_rfl
theorem zOC:(Rows.topAloneRow.plainKeys==Tryz.pinned.checked.prog.plainKeys)=true:=by kernel_rfl
theorem zOD:Tryz.pinned.checked.prog.stopsHeard=true:=by kernel_rfl
theorem zOE:Tryz.pinned.checked.prog.mayEnter=true:=by kernel_rfl
theorem zOF:(Rows.topAloneRow.lifted==Tryz.pinned.checked.prog.liftsFinal)=true:=by kernel_rfl
theorem zNM:joinedFacts Tryz.pinned.checked.prog 5 Tryz.f5 (OpenSpec.ofChange Rows.topAloneSpec).bare Rows.topAloneRow=true:=by
 unfold joinedFacts
 exact(zNl (zNl (zNl (zNl (zNl (zNl (zNl (zNl (zNl (zNl (zNl (zNl (zNl (zNl (zNl (zNl (zNl (zNl (zNl (zNl (zNl (zNl (zNl (zNl (zNl (zNl (zNl (zNl (zNl (zNl (zNl (by kernel_rfl) zOS) zOT) (by kernel_rfl)) zOU) (by kernel_rfl)) (by kernel_rfl)) (by kernel_rfl)) (by kernel_rfl)) zOy) zOz) zOA) zOB) (by kernel_rfl)) (by kernel_rfl)) (by kernel_rfl)) (by kernel_rfl)) (by kernel_rfl)) (by kernel_rfl)) (by kernel_rfl)) (by kernel_rfl)) (by kernel_rfl)) zOC) (by kernel_rfl)) zOD) zOE) zOF) (by kernel_rfl)) (by kernel_rfl)) (by kernel_rfl)) (by kernel_rfl)) (by kernel_rfl))
theorem zNs:Tryz.pinned.checked.prog.funcNamed Rows.topAloneRow.func=some 5:=by kernel_rfl
theorem zOb:Tryz.f5.isInstance Tryz.pinned.checked.prog Rows.topAloneRow.origin Rows.topAloneRow.targs:=of_decide_eq_true (by kernel_rfl)
theorem zOg:Tryz.f5.isWrapper Tryz.pinned.checked.prog Rows.topAloneRow.wrapper Rows.topAloneRow.mainSum:=by unfold Func.isWrapper;first|(rw[if_pos (by decide +kernel)];kernel_rfl)|(rw[if_neg (by decide +kernel)];exact⟨rfl,rfl⟩)
theorem zOf:Rows.topAloneRow.wfByText (OpenSpec.ofChange Rows.topAloneSpec)=true:=by kernel_rfl
theorem zOd:Tryz.pinned.checked.prog.mainIs=some (Rows.topAloneCard.stood.harness.1,Rows.topAloneCard.stood.harness.2.toList):=by kernel_rfl
theorem zOa:false=Rows.topAloneRow.goesBy Tryz.pinned.checked.prog:=by kernel_rfl
theorem zNT:true=Tryz.pinned.checked.prog.looks []:=by kernel_rfl
end Go.Proofs.YtnboipekkahmnaaGreatDoor
