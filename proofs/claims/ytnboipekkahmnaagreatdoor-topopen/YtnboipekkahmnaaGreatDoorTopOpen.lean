/-
  PROVED: for all lists of acts, haywaintop.TopOpen returns true, and its arguments read afterwards as they read before (the card TopOpenCardSaid: where the library's listed tables and errors hold what the program's own text lays there; the tie is given).
-/
import Derived.Test.YtnboipekkahmnaaGreatDoorTie
import Derived.Test.YtnboipekkahmnaaGreatDoorO26
import Derived.Deep.DeepWitnessRowRef
import Derived.Test.YtnboipekkahmnaaGreatDoorTopOpenJ
set_option maxHeartbeats 8000000
set_option maxRecDepth 100000
namespace Go.Proofs.YtnboipekkahmnaaGreatDoor
section
open Go.ChangeShapes Go.WideShapes Go.ChangeAt Go.RowKit Go.Joins
open Go.ChangeMaps (open_string shut_string)
theorem zNC (os:Os):laidMet Tryz.prog Rows.topOpenRow.laid ((zAR (World.holding Tryz.prog default ⟨#[],#[],[]⟩).heap.size (zAl (World.holding Tryz.prog os ⟨tR,#[],[]⟩))).forCall (fun _ _=>0) ⟨#[],#[.slice none 0 0],[]⟩).memory:=
 laidMet_of_run' 8 (by kernel_rfl) (by kernel_rfl)
theorem zOj (os:Os) {H:Type} (enc:TypeId×Value->H):∃ places,DataW.whole enc Tryz.prog ((zAR (World.holding Tryz.prog default ⟨#[],#[],[]⟩).heap.size (zAl (World.holding Tryz.prog os ⟨tR,#[],[]⟩))).forCall (fun _ _=>0) ⟨#[],#[.slice none 0 0],[]⟩).memory Tryz.f10.params.toList Rows.topOpenSpec.vars false (#[.slice none 0 0]:Array Value).toList 8=some ([.nil],[],places):=
 ⟨[],by kernel_rfl⟩
theorem zOk {W:World} (h:laidMetH Tryz.prog Rows.topOpenRow.laid W):Lib.TabIs Tryz.prog W "internal/strconv.uint64pow10" .u64 Lib.pow10Tab:=by
 rw[zJN]
 exact zHV h
theorem zOI {W:World} (h:laidMetH Tryz.prog Rows.topOpenRow.laid W):Laid W:=⟨zOk h,zIU h,zGo h⟩
theorem zNY (os:Os) (started:os.Started) (H:Type) (enc:TypeId×Value->H) (F:Stop.Interp):
  ReturnsInHanded {} Tryz.checked os 10 .any ((OpenSpec.ofChange Rows.topOpenSpec).preRow enc Tryz.prog Tryz.f10 Rows.topOpenRow.domain false Rows.topOpenRow.laid) (((OpenSpec.ofChange Rows.topOpenSpec).at F).post enc Tryz.prog Tryz.f10 false true false false):=by
 obtain⟨places,hx⟩:=zOj os enc
 refine returnsInHanded_of_row (C:=Tryz.checked) (s:=OpenSpec.ofChange Rows.topOpenSpec) Tryz.own started (by kernel_rfl) Tryz.func10
  (witness_row_at (enc:=enc) (C:=Tryz.checked) false (zAR (World.holding Tryz.prog default ⟨#[],#[],[]⟩).heap.size (zAl (World.holding Tryz.prog os ⟨tR,#[],[]⟩))) #[.slice none 0 0] rfl (by kernel_rfl) (by kernel_rfl) (by kernel_rfl)
   (OpenSpec.preRow_of_cond 8 hx (by kernel_rfl) (fun k hk=>by cases hk) (by kernel_rfl) (zNC os))) ?_
 intro W base args ds gs before hval0 hW _ _ _ hL _ _
 have hval:∀ (j:Nat) t v,Tryz.f10.params[j]?=some t->args[j]?=some v->Value.okWide Tryz.prog W .any base t v:=hval0
 have hW':=hW
 obtain⟨p,q,hA0,hV,rfl,_,_⟩:=hW
 have hA:DataW.TrodAll enc Tryz.prog W 0 (fun _=>true) true Tryz.f10.params.toList args.toList ds p:=hA0
 rw[Tryz.params10] at hA hval
 obtain⟨v0,d0,rfl,rfl,h0⟩:=trodAll_one hA
 obtain⟨rfl,rfl⟩:=trodVars_none hV
 obtain⟨a0,c0,l0,rfl,hd0,hc0⟩:=zCl (hval 0 22 v0 rfl rfl) h0
 refine(topOpen_walk l0 a0 c0 W (zOI hL) hd0).mono fun e W' ⟨he,hb⟩=>?_
 subst he
 exact⟨_,rfl,zKX Tryz.laidOut (by kernel_rfl) Tryz.underlying4 rfl (by rw[Tryz.params10];decide +kernel) hW' rfl hb⟩
theorem zOK:Rows.TopOpenSaid:=
 OpenClaim.holds_of_cond 10 Tryz.f10 rfl rfl rfl rfl rfl rfl rfl ⟨rfl,rfl,rfl,rfl,rfl⟩ rfl rfl rfl rfl rfl zNw Tryz.func10 zNX zOH zOM
  (fun os started H enc _ F=>by rw[OpenClaim.pre_eq_preRow];exact zNY os started H enc F)
theorem zNZ:∀ t∈[22],Tryz.prog.wantsStandIn t=false:=by
 intro t ht
 simp only[List.mem_cons,List.not_mem_nil,or_false] at ht
 rcases ht with rfl<;>kernel_rfl
theorem zOi (f:FuncId) (fn:Func) (hf:Tryz.pinned.checked.prog.funcNamed Rows.topOpenRow.func=some f) (hfn:Tryz.pinned.checked.prog.funcs[f]?=some fn):
  true=Tryz.pinned.checked.prog.looks []/\∀ (j:Nat) t,fn.params[j]?=some t->Tryz.pinned.checked.prog.wantsStandIn t=false:=by
 obtain rfl:f=10:=Option.some.inj (zNw.symm.trans hf) |>.symm
 obtain rfl:fn=Tryz.f10:=(Option.some.inj (Tryz.func10.symm.trans hfn)).symm
 refine⟨zOh,fun j t ht=>?_⟩
 rw[Tryz.params10] at ht
 exact zNZ t (by simpa using Array.mem_of_getElem? ht)
theorem topOpen_holds:Rows.TopOpenCardSaid:=
 Claim7.holds_tied_plain_at .later [] _ _ _ _ zOK (fun _ h=>by cases h) zOL (fun _ h=>by cases h) topOpen_row_tie rfl ⟨rfl,rfl⟩ zOJ rfl zOi zOG
#print axioms topOpen_holds
end
end Go.Proofs.YtnboipekkahmnaaGreatDoor
