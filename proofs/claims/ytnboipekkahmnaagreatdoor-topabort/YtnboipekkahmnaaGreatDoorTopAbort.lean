/-
  PROVED: for all lists of acts, haywaintop.TopAbort returns true, and its arguments read afterwards as they read before (the card TopAbortCardSaid: where the library's listed tables and errors hold what the program's own text lays there; the tie is given).
-/
import Derived.Test.YtnboipekkahmnaaGreatDoorTie
import Derived.Test.YtnboipekkahmnaaGreatDoorB26
import Derived.Deep.DeepWitnessRowRef
import Derived.Test.YtnboipekkahmnaaGreatDoorTopAbortJ
set_option maxHeartbeats 8000000
set_option maxRecDepth 100000
namespace Go.Proofs.YtnboipekkahmnaaGreatDoor
section
open Go.ChangeShapes Go.WideShapes Go.ChangeAt Go.RowKit Go.Joins
open Go.ChangeMaps (open_string shut_string)
theorem zNz (os:Os):laidMet Tryz.prog Rows.topAbortRow.laid ((zAR (World.holding Tryz.prog default ⟨#[],#[],[]⟩).heap.size (zAl (World.holding Tryz.prog os ⟨tR,#[],[]⟩))).forCall (fun _ _=>0) ⟨#[],#[.slice none 0 0],[]⟩).memory:=
 laidMet_of_run' 8 (by kernel_rfl) (by kernel_rfl)
theorem zNR (os:Os) {H:Type} (enc:TypeId×Value->H):∃ places,DataW.whole enc Tryz.prog ((zAR (World.holding Tryz.prog default ⟨#[],#[],[]⟩).heap.size (zAl (World.holding Tryz.prog os ⟨tR,#[],[]⟩))).forCall (fun _ _=>0) ⟨#[],#[.slice none 0 0],[]⟩).memory Tryz.f8.params.toList Rows.topAbortSpec.vars false (#[.slice none 0 0]:Array Value).toList 8=some ([.nil],[],places):=
 ⟨[],by kernel_rfl⟩
theorem zNS {W:World} (h:laidMetH Tryz.prog Rows.topAbortRow.laid W):Lib.TabIs Tryz.prog W "internal/strconv.uint64pow10" .u64 Lib.pow10Tab:=by
 rw[zJN]
 exact zHV h
theorem zN5 {W:World} (h:laidMetH Tryz.prog Rows.topAbortRow.laid W):Laid W:=⟨zNS h,zIU h,zGo h⟩
theorem zNK (os:Os) (started:os.Started) (H:Type) (enc:TypeId×Value->H) (F:Stop.Interp):
  ReturnsInHanded {} Tryz.checked os 8 .any ((OpenSpec.ofChange Rows.topAbortSpec).preRow enc Tryz.prog Tryz.f8 Rows.topAbortRow.domain false Rows.topAbortRow.laid) (((OpenSpec.ofChange Rows.topAbortSpec).at F).post enc Tryz.prog Tryz.f8 false true false false):=by
 obtain⟨places,hx⟩:=zNR os enc
 refine returnsInHanded_of_row (C:=Tryz.checked) (s:=OpenSpec.ofChange Rows.topAbortSpec) Tryz.own started (by kernel_rfl) Tryz.func8
  (witness_row_at (enc:=enc) (C:=Tryz.checked) false (zAR (World.holding Tryz.prog default ⟨#[],#[],[]⟩).heap.size (zAl (World.holding Tryz.prog os ⟨tR,#[],[]⟩))) #[.slice none 0 0] rfl (by kernel_rfl) (by kernel_rfl) (by kernel_rfl)
   (OpenSpec.preRow_of_cond 8 hx (by kernel_rfl) (fun k hk=>by cases hk) (by kernel_rfl) (zNz os))) ?_
 intro W base args ds gs before hval0 hW _ _ _ hL _ _
 have hval:∀ (j:Nat) t v,Tryz.f8.params[j]?=some t->args[j]?=some v->Value.okWide Tryz.prog W .any base t v:=hval0
 have hW':=hW
 obtain⟨p,q,hA0,hV,rfl,_,_⟩:=hW
 have hA:DataW.TrodAll enc Tryz.prog W 0 (fun _=>true) true Tryz.f8.params.toList args.toList ds p:=hA0
 rw[Tryz.params8] at hA hval
 obtain⟨v0,d0,rfl,rfl,h0⟩:=trodAll_one hA
 obtain⟨rfl,rfl⟩:=trodVars_none hV
 obtain⟨a0,c0,l0,rfl,hd0,hc0⟩:=zCl (hval 0 22 v0 rfl rfl) h0
 refine(topAbort_walk l0 a0 c0 W (zN5 hL) hd0 hc0).mono fun e W' ⟨he,hb⟩=>?_
 subst he
 exact⟨_,rfl,zKX Tryz.laidOut (by kernel_rfl) Tryz.underlying4 rfl (by rw[Tryz.params8];decide +kernel) hW' rfl hb⟩
theorem zN7:Rows.TopAbortSaid:=
 OpenClaim.holds_of_cond 8 Tryz.f8 rfl rfl rfl rfl rfl rfl rfl ⟨rfl,rfl,rfl,rfl,rfl⟩ rfl rfl rfl rfl rfl zNr Tryz.func8 zNJ zN4 zN9
  (fun os started H enc _ F=>by rw[OpenClaim.pre_eq_preRow];exact zNK os started H enc F)
theorem zNL:∀ t∈[22],Tryz.prog.wantsStandIn t=false:=by
 intro t ht
 simp only[List.mem_cons,List.not_mem_nil,or_false] at ht
 rcases ht with rfl<;>kernel_rfl
theorem zNQ (f:FuncId) (fn:Func) (hf:Tryz.pinned.checked.prog.funcNamed Rows.topAbortRow.func=some f) (hfn:Tryz.pinned.checked.prog.funcs[f]?=some fn):
  true=Tryz.pinned.checked.prog.looks []/\∀ (j:Nat) t,fn.params[j]?=some t->Tryz.pinned.checked.prog.wantsStandIn t=false:=by
 obtain rfl:f=8:=Option.some.inj (zNr.symm.trans hf) |>.symm
 obtain rfl:fn=Tryz.f8:=(Option.some.inj (Tryz.func8.symm.trans hfn)).symm
 refine⟨zNP,fun j t ht=>?_⟩
 rw[Tryz.params8] at ht
 exact zNL t (by simpa using Array.mem_of_getElem? ht)
theorem topAbort_holds:Rows.TopAbortCardSaid:=
 Claim7.holds_tied_plain_at .later [] _ _ _ _ zN7 (fun _ h=>by cases h) zN8 (fun _ h=>by cases h) topAbort_row_tie rfl ⟨rfl,rfl⟩ zN6 rfl zNQ zN3
#print axioms topAbort_holds
end
end Go.Proofs.YtnboipekkahmnaaGreatDoor
