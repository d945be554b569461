/-
  PROVED: for all lists of acts and all numbers fuse and keep, haywaintop.TopFall returns true, and its arguments read afterwards as they read before (the card TopFallCardSaid: where the library's listed tables and errors hold what the program's own text lays there; the tie is given).
-/
import Derived.Test.YtnboipekkahmnaaGreatDoorTie
import Derived.Test.YtnboipekkahmnaaGreatDoorF24
import Derived.Deep.DeepWitnessRowRef
import Derived.Test.YtnboipekkahmnaaGreatDoorTopFallJ
import Derived.Test.YtnboipekkahmnaaGreatDoorF26
set_option maxHeartbeats 8000000
set_option maxRecDepth 100000
namespace Go.Proofs.YtnboipekkahmnaaGreatDoor
section
open Go.ChangeShapes Go.WideShapes Go.ChangeAt Go.RowKit Go.Joins
open Go.ChangeMaps (open_string shut_string)
theorem zDj (os:Os):laidMet Tryz.prog Rows.topFallRow.laid ((zAR (World.holding Tryz.prog default ⟨#[],#[],[]⟩).heap.size (zAl (World.holding Tryz.prog os ⟨tR,#[],[]⟩))).forCall (fun _ _=>0) ⟨#[],#[.slice none 0 0,.int .i64 0,.int .u64 0],[]⟩).memory:=
 laidMet_of_run' 8 (by kernel_rfl) (by kernel_rfl)
theorem zGT (os:Os) {H:Type} (enc:TypeId×Value->H):∃ places,DataW.whole enc Tryz.prog ((zAR (World.holding Tryz.prog default ⟨#[],#[],[]⟩).heap.size (zAl (World.holding Tryz.prog os ⟨tR,#[],[]⟩))).forCall (fun _ _=>0) ⟨#[],#[.slice none 0 0,.int .i64 0,.int .u64 0],[]⟩).memory Tryz.f11.params.toList Rows.topFallSpec.vars false (#[.slice none 0 0,.int .i64 0,.int .u64 0]:Array Value).toList 8=some ([.nil,.lit (.int .i64 0),.lit (.int .u64 0)],[],places):=
 ⟨[],by kernel_rfl⟩
theorem zHQ {W:World} (h:laidMetH Tryz.prog Rows.topFallRow.laid W):Lib.TabIs Tryz.prog W "internal/strconv.uint64pow10" .u64 Lib.pow10Tab:=by
 rw[zJN];exact zHV h
theorem zNn {W:World} (h:laidMetH Tryz.prog Rows.topFallRow.laid W):Laid W:=⟨zHQ h,zIU h,zGo h⟩
theorem zD6 (os:Os) (started:os.Started) (H:Type) (enc:TypeId×Value->H) (F:Stop.Interp):
  ReturnsInHanded {} Tryz.checked os 11 .any ((OpenSpec.ofChange Rows.topFallSpec).preRow enc Tryz.prog Tryz.f11 Rows.topFallRow.domain false Rows.topFallRow.laid) (((OpenSpec.ofChange Rows.topFallSpec).at F).post enc Tryz.prog Tryz.f11 false true false false):=by
 obtain⟨places,hx⟩:=zGT os enc;refine returnsInHanded_of_row (C:=Tryz.checked) (s:=OpenSpec.ofChange Rows.topFallSpec) Tryz.own started (by kernel_rfl) Tryz.func11
  (witness_row_at (enc:=enc) (C:=Tryz.checked) false (zAR (World.holding Tryz.prog default ⟨#[],#[],[]⟩).heap.size (zAl (World.holding Tryz.prog os ⟨tR,#[],[]⟩))) #[.slice none 0 0,.int .i64 0,.int .u64 0] rfl (by kernel_rfl) (by kernel_rfl) (by kernel_rfl)
   (OpenSpec.preRow_of_cond 8 hx (by kernel_rfl) (fun k hk=>by cases hk) (by kernel_rfl) (zDj os))) ?_
 intro W base args ds gs before hval0 hW _ _ _ hL _ _;have hval:∀ (j:Nat) t v,Tryz.f11.params[j]?=some t->args[j]?=some v->Value.okWide Tryz.prog W .any base t v:=hval0;have hW':=hW;obtain⟨p,q,hA0,hV,rfl,_,_⟩:=hW;have hA:DataW.TrodAll enc Tryz.prog W 0 (fun _=>true) true Tryz.f11.params.toList args.toList ds p:=hA0;rw[Tryz.params11] at hA hval;obtain⟨v0,v1,v2,d0,d1,d2,p0,p1,p2,rfl,rfl,rfl,h0,h1,h2⟩:=trodAll_three hA;obtain⟨rfl,rfl⟩:=trodVars_none hV;obtain⟨a0,c0,l0,rfl,hd0,hc0⟩:=zCl (hval 0 22 v0 rfl rfl) h0;obtain⟨fuse,rfl,rfl,rfl,hn⟩:=open_int Tryz.underlying3 (hval 1 3 v1 rfl rfl) h1;obtain⟨keep,rfl,rfl,rfl,_⟩:=open_int Tryz.underlying35 (hval 2 35 v2 rfl rfl) h2;refine(topFall_walk l0 a0 c0 fuse keep W (zNn hL) hd0 hc0 (zNs hn).1 (zNs hn).2).mono fun e W' ⟨he,hb⟩=>?_;subst he;exact⟨_,rfl,zKX Tryz.laidOut (by kernel_rfl) Tryz.underlying4 rfl (by rw[Tryz.params11];decide +kernel) hW' rfl hb⟩
theorem zNp:Rows.TopFallSaid:=
 OpenClaim.holds_of_cond 11 Tryz.f11 rfl rfl rfl rfl rfl rfl rfl ⟨rfl,rfl,rfl,rfl,rfl⟩ rfl rfl rfl rfl rfl zCi Tryz.func11 zD4 zNm zNr
  (fun os started H enc _ F=>by rw[OpenClaim.pre_eq_preRow];exact zD6 os started H enc F)
theorem zEd:∀ t∈[22,3,35],Tryz.prog.wantsStandIn t=false:=by
 intro t ht;simp only[List.mem_cons,List.not_mem_nil,or_false] at ht;rcases ht with rfl|rfl|rfl<;>kernel_rfl
theorem zGL (f:FuncId) (fn:Func) (hf:Tryz.pinned.checked.prog.funcNamed Rows.topFallRow.func=some f) (hfn:Tryz.pinned.checked.prog.funcs[f]?=some fn):
  true=Tryz.pinned.checked.prog.looks []/\∀ (j:Nat) t,fn.params[j]?=some t->Tryz.pinned.checked.prog.wantsStandIn t=false:=by
 obtain rfl:f=11:=Option.some.inj (zCi.symm.trans hf) |>.symm;obtain rfl:fn=Tryz.f11:=(Option.some.inj (Tryz.func11.symm.trans hfn)).symm;refine⟨zGz,fun j t ht=>?_⟩;rw[Tryz.params11] at ht;exact zEd t (by simpa using Array.mem_of_getElem? ht)
theorem topFall_holds:Rows.TopFallCardSaid:=
 Claim7.holds_tied_plain_at .later [] _ _ _ _ zNp (fun _ h=>by cases h) zNq (fun _ h=>by cases h) topFall_row_tie rfl ⟨rfl,rfl⟩ zNo rfl zGL zNl
#print axioms topFall_holds
end
end Go.Proofs.YtnboipekkahmnaaGreatDoor
