/-
  PROVED: for all lists of acts and all texts key, a and b, haywaintop.TopBlind returns true, and its arguments read afterwards as they read before (the card TopBlindCardSaid: where the library's listed tables and errors hold what the program's own text lays there; the tie is given).
-/
import Derived.Test.YtnboipekkahmnaaGreatDoorTie
import Derived.Test.YtnboipekkahmnaaGreatDoorD25
import Derived.Deep.DeepWitnessRowRef
import Derived.Test.YtnboipekkahmnaaGreatDoorTopBlindJ
import Derived.Test.YtnboipekkahmnaaGreatDoorD27
set_option maxHeartbeats 8000000
set_option maxRecDepth 100000
namespace Go.Proofs.YtnboipekkahmnaaGreatDoor
section
open Go.ChangeShapes Go.WideShapes Go.ChangeAt Go.RowKit Go.Joins
open Go.ChangeMaps (open_string shut_string)
theorem zDK (os:Os):laidMet Tryz.prog Rows.topBlindRow.laid ((zAR (World.holding Tryz.prog default ⟨#[],#[],[]⟩).heap.size (zAl (World.holding Tryz.prog os ⟨tR,#[],[]⟩))).forCall (fun _ _=>0) ⟨#[],#[.slice none 0 0,.string ByteArray.empty,.string ByteArray.empty,.string ByteArray.empty],[]⟩).memory:=
 laidMet_of_run' 8 (by kernel_rfl) (by kernel_rfl)
theorem zGT (os:Os) {H:Type} (enc:TypeId×Value->H):∃ places,DataW.whole enc Tryz.prog ((zAR (World.holding Tryz.prog default ⟨#[],#[],[]⟩).heap.size (zAl (World.holding Tryz.prog os ⟨tR,#[],[]⟩))).forCall (fun _ _=>0) ⟨#[],#[.slice none 0 0,.string ByteArray.empty,.string ByteArray.empty,.string ByteArray.empty],[]⟩).memory Tryz.f7.params.toList Rows.topBlindSpec.vars false (#[.slice none 0 0,.string ByteArray.empty,.string ByteArray.empty,.string ByteArray.empty]:Array Value).toList 8=some ([.nil,.lit (.string []),.lit (.string []),.lit (.string [])],[],places):=
 ⟨[],by kernel_rfl⟩
theorem zHQ {W:World} (h:laidMetH Tryz.prog Rows.topBlindRow.laid W):Lib.TabIs Tryz.prog W "internal/strconv.uint64pow10" .u64 Lib.pow10Tab:=by
 rw[zJN];exact zHV h
theorem zL4 {W:World} (h:laidMetH Tryz.prog Rows.topBlindRow.laid W):Laid W:=⟨zHQ h,zIU h,zGo h⟩
theorem zER (os:Os) (started:os.Started) (H:Type) (enc:TypeId×Value->H) (F:Stop.Interp):
  ReturnsInHanded {} Tryz.checked os 7 .any ((OpenSpec.ofChange Rows.topBlindSpec).preRow enc Tryz.prog Tryz.f7 Rows.topBlindRow.domain false Rows.topBlindRow.laid) (((OpenSpec.ofChange Rows.topBlindSpec).at F).post enc Tryz.prog Tryz.f7 false true false false):=by
 obtain⟨places,hx⟩:=zGT os enc;refine returnsInHanded_of_row (C:=Tryz.checked) (s:=OpenSpec.ofChange Rows.topBlindSpec) Tryz.own started (by kernel_rfl) Tryz.func7
  (witness_row_at (enc:=enc) (C:=Tryz.checked) false (zAR (World.holding Tryz.prog default ⟨#[],#[],[]⟩).heap.size (zAl (World.holding Tryz.prog os ⟨tR,#[],[]⟩))) #[.slice none 0 0,.string ByteArray.empty,.string ByteArray.empty,.string ByteArray.empty] rfl (by kernel_rfl) (by kernel_rfl) (by kernel_rfl)
   (OpenSpec.preRow_of_cond 8 hx (by kernel_rfl) (fun k hk=>by cases hk) (by kernel_rfl) (zDK os))) ?_
 intro W base args ds gs before hval0 hW _ _ _ hL _ _;have hval:∀ (j:Nat) t v,Tryz.f7.params[j]?=some t->args[j]?=some v->Value.okWide Tryz.prog W .any base t v:=hval0;have hW':=hW;obtain⟨p,q,hA0,hV,rfl,_,_⟩:=hW;have hA:DataW.TrodAll enc Tryz.prog W 0 (fun _=>true) true Tryz.f7.params.toList args.toList ds p:=hA0;rw[Tryz.params7] at hA hval;obtain⟨v0,v1,v2,v3,d0,d1,d2,d3,p0,p1,p2,p3,rfl,rfl,rfl,h0,h1,h2,h3⟩:=trodAll_four hA;obtain⟨rfl,rfl⟩:=trodVars_none hV;obtain⟨a0,c0,l0,rfl,hd0,hc0⟩:=zCl (hval 0 22 v0 rfl rfl) h0;obtain⟨key,rfl,rfl,rfl,_⟩:=open_string Tryz.underlying9 (hval 1 9 v1 rfl rfl) h1;obtain⟨a,rfl,rfl,rfl,_⟩:=open_string Tryz.underlying9 (hval 2 9 v2 rfl rfl) h2;obtain⟨b,rfl,rfl,rfl,_⟩:=open_string Tryz.underlying9 (hval 3 9 v3 rfl rfl) h3;refine(topBlind_walk l0 a0 c0 key a b W (zL4 hL) hd0).mono fun e W' ⟨he,hb⟩=>?_;subst he;exact⟨_,rfl,zKX Tryz.laidOut (by kernel_rfl) Tryz.underlying4 rfl (by rw[Tryz.params7];decide +kernel) hW' rfl hb⟩
theorem zNl:Rows.TopBlindSaid:=
 OpenClaim.holds_of_cond 7 Tryz.f7 rfl rfl rfl rfl rfl rfl rfl ⟨rfl,rfl,rfl,rfl,rfl⟩ rfl rfl rfl rfl rfl zCV Tryz.func7 zEE zKh zNn
  (fun os started H enc _ F=>by rw[OpenClaim.pre_eq_preRow];exact zER os started H enc F)
theorem zFA:∀ t∈[22,9,9,9],Tryz.prog.wantsStandIn t=false:=by
 intro t ht;simp only[List.mem_cons,List.not_mem_nil,or_false] at ht;rcases ht with rfl|rfl|rfl|rfl<;>kernel_rfl
theorem zGL (f:FuncId) (fn:Func) (hf:Tryz.pinned.checked.prog.funcNamed Rows.topBlindRow.func=some f) (hfn:Tryz.pinned.checked.prog.funcs[f]?=some fn):
  true=Tryz.pinned.checked.prog.looks []/\∀ (j:Nat) t,fn.params[j]?=some t->Tryz.pinned.checked.prog.wantsStandIn t=false:=by
 obtain rfl:f=7:=Option.some.inj (zCV.symm.trans hf) |>.symm;obtain rfl:fn=Tryz.f7:=(Option.some.inj (Tryz.func7.symm.trans hfn)).symm;refine⟨zGz,fun j t ht=>?_⟩;rw[Tryz.params7] at ht;exact zFA t (by simpa using Array.mem_of_getElem? ht)
theorem topBlind_holds:Rows.TopBlindCardSaid:=
 Claim7.holds_tied_plain_at .later [] _ _ _ _ zNl (fun _ h=>by cases h) zNm (fun _ h=>by cases h) topBlind_row_tie rfl ⟨rfl,rfl⟩ zNk rfl zGL zJD
#print axioms topBlind_holds
end
end Go.Proofs.YtnboipekkahmnaaGreatDoor
