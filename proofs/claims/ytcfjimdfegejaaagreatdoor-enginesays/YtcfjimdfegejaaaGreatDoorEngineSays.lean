/-
  PROVED: for all numbers of sectors and all lists of acts, haywainlaw.EngineSays returns true, and its arguments read afterwards as they read before (the card EngineSaysCardSaid: where the library's listed tables and errors hold what the program's own text lays there; the tie is given).
-/
import Derived.Test.YtcfjimdfegejaaaGreatDoorTie
import Derived.Test.YtcfjimdfegejaaaGreatDoorQ29
import Derived.Deep.DeepWitnessRowRef
import Derived.Test.YtcfjimdfegejaaaGreatDoorEngineSaysJ
set_option maxHeartbeats 8000000
set_option maxRecDepth 100000
namespace Go.Proofs.YtcfjimdfegejaaaGreatDoor
variable {W:World}
section
open Go.ChangeShapes Go.WideShapes Go.ChangeAt Go.RowKit Go.Joins
open Go.ChangeMaps (open_string shut_string)
theorem zCn (os:Os):laidMet Tryz.prog Rows.engineSaysRow.laid ((SR (World.holding Tryz.prog default ⟨#[],#[],[]⟩).heap.size (WR (World.holding Tryz.prog os ⟨tR,#[],[]⟩))).forCall (fun _ _=>0) ⟨#[],#[.int .i64 0,.slice none 0 0],[]⟩).memory:=
 laidMet_of_run' 8 (by kernel_rfl) (by kernel_rfl)
theorem zEx (os:Os) {H:Type} (enc:TypeId×Value->H):∃ Ns,DataW.whole enc Tryz.prog ((SR (World.holding Tryz.prog default ⟨#[],#[],[]⟩).heap.size (WR (World.holding Tryz.prog os ⟨tR,#[],[]⟩))).forCall (fun _ _=>0) ⟨#[],#[.int .i64 0,.slice none 0 0],[]⟩).memory Tryz.f3.params.toList Rows.engineSaysSpec.vars false (#[.int .i64 0,.slice none 0 0]:Array Value).toList 8=some ([.lit (.int .i64 0),.nil],[],Ns):=
 ⟨[],by kernel_rfl⟩
theorem zEE (h:laidMetH Tryz.prog Rows.engineSaysRow.laid W):Lib.TabIs Tryz.prog W "internal/strconv.uint64pow10" .u64 Lib.pow10Tab:=by
 rw[zJN];exact zHV h
theorem zFH (h:laidMetH Tryz.prog Rows.engineSaysRow.laid W):Yd W:=⟨zEE h,zIU h,zGo h⟩
theorem zDV (os:Os) (Sk:os.Started) (H:Type) (enc:TypeId×Value->H) (F:Stop.Interp):
  ReturnsInHanded {} Tryz.checked os 3 .any ((OpenSpec.ofChange Rows.engineSaysSpec).preRow enc Tryz.prog Tryz.f3 Rows.engineSaysRow.domain false Rows.engineSaysRow.laid) (((OpenSpec.ofChange Rows.engineSaysSpec).at F).post enc Tryz.prog Tryz.f3 false true false false):=by
 obtain⟨Ns,hx⟩:=zEx os enc;refine returnsInHanded_of_row (C:=Tryz.checked) (s:=OpenSpec.ofChange Rows.engineSaysSpec) Tryz.own Sk (by kernel_rfl) Tryz.func3
  (witness_row_at (enc:=enc) (C:=Tryz.checked) false (SR (World.holding Tryz.prog default ⟨#[],#[],[]⟩).heap.size (WR (World.holding Tryz.prog os ⟨tR,#[],[]⟩))) #[.int .i64 0,.slice none 0 0] rfl (by kernel_rfl) (by kernel_rfl) (by kernel_rfl)
   (OpenSpec.preRow_of_cond 8 hx (by kernel_rfl) (fun k hk=>by cases hk) (by kernel_rfl) (zCn os))) ?_
 intro W Eg args ds gs Dn AF hW _ _ _ hL _ _;have Gj:∀ (j:Nat) t v,Tryz.f3.params[j]?=some t->args[j]?=some v->Value.okWide Tryz.prog W .any Eg t v:=AF;have vu:=hW;obtain⟨p,q,hA0,hV,rfl,_,_⟩:=hW;have hA:DataW.TrodAll enc Tryz.prog W 0 (fun _=>true) true Tryz.f3.params.toList args.toList ds p:=hA0;rw[Tryz.params3] at hA Gj;obtain⟨v0,v1,d0,d1,p0,p1,rfl,rfl,rfl,h0,h1⟩:=trodAll_two hA;obtain⟨rfl,rfl⟩:=trodVars_none hV;obtain⟨n,rfl,rfl,rfl,_⟩:=open_int Tryz.underlying3 (Gj 0 3 v0 rfl rfl) h0;obtain⟨a1,c1,l1,rfl,Np,il⟩:=zCl (Gj 1 22 v1 rfl rfl) h1;refine(engineSays_walk n l1 a1 c1 W (zFH hL) Np).mono fun e W' ⟨he,hb⟩=>?_;subst he;exact⟨_,rfl,zKX Tryz.laidOut (by kernel_rfl) Tryz.underlying4 rfl (by rw[Tryz.params3];decide +kernel) vu rfl hb⟩
theorem zF4:Rows.EngineSaysSaid:=
 OpenClaim.holds_of_cond 3 Tryz.f3 rfl rfl rfl rfl rfl rfl rfl ⟨rfl,rfl,rfl,rfl,rfl⟩ rfl rfl rfl rfl rfl wW Tryz.func3 zDS zFB zGf
  (fun os Sk H enc _ F=>by rw[OpenClaim.pre_eq_preRow];exact zDV os Sk H enc F)
theorem zDX:∀ t∈[3,22],Tryz.prog.wantsStandIn t=false:=by
 intro t ht;simp only[List.mem_cons,List.not_mem_nil,or_false] at ht;rcases ht with rfl|rfl<;>kernel_rfl
theorem zEk (f:FuncId) (fn:Func) (hf:Tryz.pinned.checked.prog.funcNamed Rows.engineSaysRow.func=some f) (XH:Tryz.pinned.checked.prog.funcs[f]?=some fn):
  true=Tryz.pinned.checked.prog.looks []/\∀ (j:Nat) t,fn.params[j]?=some t->Tryz.pinned.checked.prog.wantsStandIn t=false:=by
 obtain rfl:f=3:=Option.some.inj (wW.symm.trans hf) |>.symm;obtain rfl:fn=Tryz.f3:=(Option.some.inj (Tryz.func3.symm.trans XH)).symm;refine⟨zEi,fun j t ht=>?_⟩;rw[Tryz.params3] at ht;exact zDX t (by simpa using Array.mem_of_getElem? ht)
theorem engineSays_holds:Rows.EngineSaysCardSaid:=
 Claim7.holds_tied_plain_at .later [] _ _ _ _ zF4 (fun _ h=>by cases h) zGd (fun _ h=>by cases h) engineSays_row_tie rfl ⟨rfl,rfl⟩ zFT rfl zEk zFf
#print axioms engineSays_holds
end
end Go.Proofs.YtcfjimdfegejaaaGreatDoor
