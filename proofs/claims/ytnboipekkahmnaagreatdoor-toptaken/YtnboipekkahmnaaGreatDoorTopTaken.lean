/-
  PROVED: for all numbers many and all lists of numbers turns, haywaintop.TopTaken returns true, and its arguments read afterwards as they read before (the card TopTakenCardSaid: where the library's listed tables and errors hold what the program's own text lays there; the tie is given).
-/
import Derived.Test.YtnboipekkahmnaaGreatDoorTie
import Derived.Test.YtnboipekkahmnaaGreatDoorT20
import Derived.Deep.DeepWitnessRowRef
import Derived.Test.YtnboipekkahmnaaGreatDoorTopTakenJ
import Derived.Test.YtnboipekkahmnaaGreatDoorT22
set_option maxHeartbeats 8000000
set_option maxRecDepth 100000
namespace Go.Proofs.YtnboipekkahmnaaGreatDoor
section
open Go.ChangeShapes Go.WideShapes Go.ChangeAt Go.RowKit Go.Joins
open Go.ChangeMaps (open_string shut_string)
theorem eU (os:Os):laidMet Tryz.prog Rows.topTakenRow.laid ((zAR (World.holding Tryz.prog default ⟨#[],#[],[]⟩).heap.size (zAl (World.holding Tryz.prog os ⟨tR,#[],[]⟩))).forCall (fun _ _=>0) ⟨#[],#[.int .i64 0,.slice none 0 0],[]⟩).memory:=
 laidMet_of_run' 8 (by kernel_rfl) (by kernel_rfl)
theorem gZ (os:Os) {H:Type} (enc:TypeId×Value->H):∃ places,DataW.whole enc Tryz.prog ((zAR (World.holding Tryz.prog default ⟨#[],#[],[]⟩).heap.size (zAl (World.holding Tryz.prog os ⟨tR,#[],[]⟩))).forCall (fun _ _=>0) ⟨#[],#[.int .i64 0,.slice none 0 0],[]⟩).memory Tryz.f9.params.toList Rows.topTakenSpec.vars false (#[.int .i64 0,.slice none 0 0]:Array Value).toList 8=some ([.lit (.int .i64 0),.nil],[],places):=
 ⟨[],by kernel_rfl⟩
theorem hO {W:World} (h:laidMetH Tryz.prog Rows.topTakenRow.laid W):Lib.TabIs Tryz.prog W "internal/strconv.uint64pow10" .u64 Lib.pow10Tab:=by
 rw[zJN];exact zHV h
theorem iY {W:World} (h:laidMetH Tryz.prog Rows.topTakenRow.laid W):Laid W:=⟨hO h,zIU h,zGo h⟩
theorem gK (os:Os) (started:os.Started) (H:Type) (enc:TypeId×Value->H) (F:Stop.Interp):
  ReturnsInHanded {} Tryz.checked os 9 .any ((OpenSpec.ofChange Rows.topTakenSpec).preRow enc Tryz.prog Tryz.f9 Rows.topTakenRow.domain false Rows.topTakenRow.laid) (((OpenSpec.ofChange Rows.topTakenSpec).at F).post enc Tryz.prog Tryz.f9 false true false false):=by
 obtain⟨places,hx⟩:=gZ os enc;refine returnsInHanded_of_row (C:=Tryz.checked) (s:=OpenSpec.ofChange Rows.topTakenSpec) Tryz.own started (by kernel_rfl) Tryz.func9
  (witness_row_at (enc:=enc) (C:=Tryz.checked) false (zAR (World.holding Tryz.prog default ⟨#[],#[],[]⟩).heap.size (zAl (World.holding Tryz.prog os ⟨tR,#[],[]⟩))) #[.int .i64 0,.slice none 0 0] rfl (by kernel_rfl) (by kernel_rfl) (by kernel_rfl)
   (OpenSpec.preRow_of_cond 8 hx (by kernel_rfl) (fun k hk=>by cases hk) (by kernel_rfl) (eU os))) ?_
 intro W base args ds gs before hval0 hW _ _ _ hL _ _;have hval:∀ (j:Nat) t v,Tryz.f9.params[j]?=some t->args[j]?=some v->Value.okWide Tryz.prog W .any base t v:=hval0;have hW':=hW;obtain⟨p,q,hA0,hV,rfl,_,_⟩:=hW;have hA:DataW.TrodAll enc Tryz.prog W 0 (fun _=>true) true Tryz.f9.params.toList args.toList ds p:=hA0;rw[Tryz.params9] at hA hval;obtain⟨v0,v1,d0,d1,p0,p1,rfl,rfl,rfl,h0,h1⟩:=trodAll_two hA;obtain⟨rfl,rfl⟩:=trodVars_none hV;obtain⟨many,rfl,rfl,rfl,_⟩:=open_int Tryz.underlying3 (hval 0 3 v0 rfl rfl) h0;obtain⟨ao,cap,l,rfl,hl⟩:=kZ (hval 1 93 v1 rfl rfl) h1;refine(topTaken_walk many l ao cap W (iY hL) hl).mono fun e W' ⟨he,hb⟩=>?_;subst he;exact⟨_,rfl,zKX Tryz.laidOut (by kernel_rfl) Tryz.underlying4 rfl (by rw[Tryz.params9];decide +kernel) hW' rfl hb⟩
theorem jI:Rows.TopTakenSaid:=
 OpenClaim.holds_of_cond 9 Tryz.f9 rfl rfl rfl rfl rfl rfl rfl ⟨rfl,rfl,rfl,rfl,rfl⟩ rfl rfl rfl rfl rfl dV Tryz.func9 gH iR jR
  (fun os started H enc _ F=>by rw[OpenClaim.pre_eq_preRow];exact gK os started H enc F)
theorem gL:∀ t∈[3,93],Tryz.prog.wantsStandIn t=false:=by
 intro t ht;simp only[List.mem_cons,List.not_mem_nil,or_false] at ht;rcases ht with rfl|rfl<;>kernel_rfl
theorem gU (f:FuncId) (fn:Func) (hf:Tryz.pinned.checked.prog.funcNamed Rows.topTakenRow.func=some f) (hfn:Tryz.pinned.checked.prog.funcs[f]?=some fn):
  true=Tryz.pinned.checked.prog.looks []/\∀ (j:Nat) t,fn.params[j]?=some t->Tryz.pinned.checked.prog.wantsStandIn t=false:=by
 obtain rfl:f=9:=Option.some.inj (dV.symm.trans hf) |>.symm;obtain rfl:fn=Tryz.f9:=(Option.some.inj (Tryz.func9.symm.trans hfn)).symm;refine⟨gT,fun j t ht=>?_⟩;rw[Tryz.params9] at ht;exact gL t (by simpa using Array.mem_of_getElem? ht)
theorem topTaken_holds:Rows.TopTakenCardSaid:=
 Claim7.holds_tied_plain_at .later [] _ _ _ _ jI (fun _ h=>by cases h) jQ (fun _ h=>by cases h) topTaken_row_tie rfl ⟨rfl,rfl⟩ iZ rfl gU iM
#print axioms topTaken_holds
end
end Go.Proofs.YtnboipekkahmnaaGreatDoor
