/-
  PROVED: for all lists of acts, haywaintop.TopKept returns true, and its arguments read afterwards as they read before (the card TopKeptCardSaid: where the library's listed tables and errors hold what the program's own text lays there; the tie is given).
-/
import Derived.Test.YtnboipekkahmnaaGreatDoorTie
import Derived.Test.YtnboipekkahmnaaGreatDoorK26
import Derived.Test.YtnboipekkahmnaaGreatDoorE25
import Derived.Deep.DeepWitnessRowRef
import Derived.Test.YtnboipekkahmnaaGreatDoorTopKeptJ
set_option maxHeartbeats 8000000
set_option maxRecDepth 100000
namespace Go.Proofs.YtnboipekkahmnaaGreatDoor
section
open Go.ChangeShapes Go.WideShapes Go.ChangeAt Go.RowKit Go.Joins
open Go.ChangeMaps (open_string shut_string)
theorem xH (os:Os):laidMet Tryz.prog Rows.topKeptRow.laid ((zAR (World.holding Tryz.prog default ⟨#[],#[],[]⟩).heap.size (zAl (World.holding Tryz.prog os ⟨tR,#[],[]⟩))).forCall (fun _ _=>0) ⟨#[],#[.slice none 0 0],[]⟩).memory:=
 laidMet_of_run' 8 (by kernel_rfl) (by kernel_rfl)
theorem zCn (os:Os) {H:Type} (enc:TypeId×Value->H):∃ places,DataW.whole enc Tryz.prog ((zAR (World.holding Tryz.prog default ⟨#[],#[],[]⟩).heap.size (zAl (World.holding Tryz.prog os ⟨tR,#[],[]⟩))).forCall (fun _ _=>0) ⟨#[],#[.slice none 0 0],[]⟩).memory Tryz.f12.params.toList Rows.topKeptSpec.vars false (#[.slice none 0 0]:Array Value).toList 8=some ([.nil],[],places):=
 ⟨[],by kernel_rfl⟩
theorem zCf {W:World} (h:laidMetH Tryz.prog Rows.topKeptRow.laid W):Lib.TabIs Tryz.prog W "internal/strconv.uint64pow10" .u64 Lib.pow10Tab:=by
 rw[zJN]
 exact zHV h
theorem zCV {W:World} (h:laidMetH Tryz.prog Rows.topKeptRow.laid W):Laid W:=⟨zCf h,zIU h,zGo h⟩
theorem zAP (os:Os) (started:os.Started) (H:Type) (enc:TypeId×Value->H) (F:Stop.Interp):
  ReturnsInHanded {} Tryz.checked os 12 .any ((OpenSpec.ofChange Rows.topKeptSpec).preRow enc Tryz.prog Tryz.f12 Rows.topKeptRow.domain false Rows.topKeptRow.laid) (((OpenSpec.ofChange Rows.topKeptSpec).at F).post enc Tryz.prog Tryz.f12 false true false false):=by
 obtain⟨places,hx⟩:=zCn os enc
 refine returnsInHanded_of_row (C:=Tryz.checked) (s:=OpenSpec.ofChange Rows.topKeptSpec) Tryz.own started (by kernel_rfl) Tryz.func12
  (witness_row_at (enc:=enc) (C:=Tryz.checked) false (zAR (World.holding Tryz.prog default ⟨#[],#[],[]⟩).heap.size (zAl (World.holding Tryz.prog os ⟨tR,#[],[]⟩))) #[.slice none 0 0] rfl (by kernel_rfl) (by kernel_rfl) (by kernel_rfl)
   (OpenSpec.preRow_of_cond 8 hx (by kernel_rfl) (fun k hk=>by cases hk) (by kernel_rfl) (xH os))) ?_
 intro W base args ds gs before hval0 hW _ _ _ hL _ _
 have hval:∀ (j:Nat) t v,Tryz.f12.params[j]?=some t->args[j]?=some v->Value.okWide Tryz.prog W .any base t v:=hval0
 have hW':=hW
 obtain⟨p,q,hA0,hV,rfl,_,_⟩:=hW
 have hA:DataW.TrodAll enc Tryz.prog W 0 (fun _=>true) true Tryz.f12.params.toList args.toList ds p:=hA0
 rw[Tryz.params12] at hA hval
 obtain⟨v0,d0,rfl,rfl,h0⟩:=trodAll_one hA
 obtain⟨rfl,rfl⟩:=trodVars_none hV
 obtain⟨a0,c0,l0,rfl,hd0,hc0⟩:=zCl (hval 0 22 v0 rfl rfl) h0
 refine(topKept_walk l0 a0 c0 W (zCV hL) hd0).mono fun e W' ⟨he,hb⟩=>?_
 subst he
 exact⟨_,rfl,zKX Tryz.laidOut (by kernel_rfl) Tryz.underlying4 rfl (by rw[Tryz.params12];decide +kernel) hW' rfl hb⟩
theorem zCF:Rows.TopKeptSaid:=
 OpenClaim.holds_of_cond 12 Tryz.f12 rfl rfl rfl rfl rfl rfl rfl ⟨rfl,rfl,rfl,rfl,rfl⟩ rfl rfl rfl rfl rfl tG Tryz.func12 zAt zDw zDJ
  (fun os started H enc _ F=>by rw[OpenClaim.pre_eq_preRow];exact zAP os started H enc F)
theorem zAw:∀ t∈[22],Tryz.prog.wantsStandIn t=false:=by
 intro t ht
 simp only[List.mem_cons,List.not_mem_nil,or_false] at ht
 rcases ht with rfl<;>kernel_rfl
theorem zBW (f:FuncId) (fn:Func) (hf:Tryz.pinned.checked.prog.funcNamed Rows.topKeptRow.func=some f) (hfn:Tryz.pinned.checked.prog.funcs[f]?=some fn):
  true=Tryz.pinned.checked.prog.looks []/\∀ (j:Nat) t,fn.params[j]?=some t->Tryz.pinned.checked.prog.wantsStandIn t=false:=by
 obtain rfl:f=12:=Option.some.inj (tG.symm.trans hf) |>.symm
 obtain rfl:fn=Tryz.f12:=(Option.some.inj (Tryz.func12.symm.trans hfn)).symm
 refine⟨zCi,fun j t ht=>?_⟩
 rw[Tryz.params12] at ht
 exact zAw t (by simpa using Array.mem_of_getElem? ht)
theorem topKept_holds:Rows.TopKeptCardSaid:=
 Claim7.holds_tied_plain_at .later [] _ _ _ _ zCF (fun _ h=>by cases h) zC1 (fun _ h=>by cases h) topKept_row_tie rfl ⟨rfl,rfl⟩ zDK rfl zBW zDv
#print axioms topKept_holds
end
end Go.Proofs.YtnboipekkahmnaaGreatDoor
