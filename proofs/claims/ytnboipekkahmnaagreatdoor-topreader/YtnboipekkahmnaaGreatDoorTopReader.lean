/-
  PROVED: for all lists of acts first and acts, all spans s and all texts key, haywaintop.TopReader returns true, and its arguments read afterwards as they read before (the card TopReaderCardSaid: where the library's listed tables and errors hold what the program's own text lays there; the tie is given).
-/
import Derived.Test.YtnboipekkahmnaaGreatDoorTie
import Derived.Test.YtnboipekkahmnaaGreatDoorR25
import Derived.Deep.DeepWitnessRowRef
import Derived.Test.YtnboipekkahmnaaGreatDoorTopReaderJ
import Derived.Test.YtnboipekkahmnaaGreatDoorR27
set_option maxHeartbeats 8000000
set_option maxRecDepth 100000
namespace Go.Proofs.YtnboipekkahmnaaGreatDoor
section
open Go.ChangeShapes Go.WideShapes Go.ChangeAt Go.RowKit Go.Joins
open Go.ChangeMaps (open_string shut_string)
theorem zCF (os:Os):laidMet Tryz.prog Rows.topReaderRow.laid ((zAR (World.holding Tryz.prog default ⟨#[],#[],[]⟩).heap.size (zAl (World.holding Tryz.prog os ⟨tR,#[],[]⟩))).forCall (fun _ _=>0) ⟨#[],#[.slice none 0 0,.slice none 0 0,.agg #[.string ByteArray.empty,.string ByteArray.empty],.string ByteArray.empty],[]⟩).memory:=
 laidMet_of_run' 8 (by kernel_rfl) (by kernel_rfl)
theorem zEd (os:Os) {H:Type} (enc:TypeId×Value->H):∃ places,DataW.whole enc Tryz.prog ((zAR (World.holding Tryz.prog default ⟨#[],#[],[]⟩).heap.size (zAl (World.holding Tryz.prog os ⟨tR,#[],[]⟩))).forCall (fun _ _=>0) ⟨#[],#[.slice none 0 0,.slice none 0 0,.agg #[.string ByteArray.empty,.string ByteArray.empty],.string ByteArray.empty],[]⟩).memory Tryz.f6.params.toList Rows.topReaderSpec.vars false (#[.slice none 0 0,.slice none 0 0,.agg #[.string ByteArray.empty,.string ByteArray.empty],.string ByteArray.empty]:Array Value).toList 8=some ([.nil,.nil,.agg [.lit (.string []),.lit (.string [])],.lit (.string [])],[],places):=
 ⟨[],by kernel_rfl⟩
theorem zEk {W:World} (h:laidMetH Tryz.prog Rows.topReaderRow.laid W):Lib.TabIs Tryz.prog W "internal/strconv.uint64pow10" .u64 Lib.pow10Tab:=by
 rw[zJN];exact zHV h
theorem zFA {W:World} (h:laidMetH Tryz.prog Rows.topReaderRow.laid W):Laid W:=⟨zEk h,zIU h,zGo h⟩
theorem zC1 (os:Os) (started:os.Started) (H:Type) (enc:TypeId×Value->H) (F:Stop.Interp):
  ReturnsInHanded {} Tryz.checked os 6 .any ((OpenSpec.ofChange Rows.topReaderSpec).preRow enc Tryz.prog Tryz.f6 Rows.topReaderRow.domain false Rows.topReaderRow.laid) (((OpenSpec.ofChange Rows.topReaderSpec).at F).post enc Tryz.prog Tryz.f6 false true false false):=by
 obtain⟨places,hx⟩:=zEd os enc;refine returnsInHanded_of_row (C:=Tryz.checked) (s:=OpenSpec.ofChange Rows.topReaderSpec) Tryz.own started (by kernel_rfl) Tryz.func6
  (witness_row_at (enc:=enc) (C:=Tryz.checked) false (zAR (World.holding Tryz.prog default ⟨#[],#[],[]⟩).heap.size (zAl (World.holding Tryz.prog os ⟨tR,#[],[]⟩))) #[.slice none 0 0,.slice none 0 0,.agg #[.string ByteArray.empty,.string ByteArray.empty],.string ByteArray.empty] rfl (by kernel_rfl) (by kernel_rfl) (by kernel_rfl)
   (OpenSpec.preRow_of_cond 8 hx (by kernel_rfl) (fun k hk=>by cases hk) (by kernel_rfl) (zCF os))) ?_
 intro W base args ds gs before hval0 hW _ _ _ hL _ _;have hval:∀ (j:Nat) t v,Tryz.f6.params[j]?=some t->args[j]?=some v->Value.okWide Tryz.prog W .any base t v:=hval0;have hW':=hW;obtain⟨p,q,hA0,hV,rfl,_,_⟩:=hW;have hA:DataW.TrodAll enc Tryz.prog W 0 (fun _=>true) true Tryz.f6.params.toList args.toList ds p:=hA0;rw[Tryz.params6] at hA hval;obtain⟨v0,v1,v2,v3,d0,d1,d2,d3,p0,p1,p2,p3,rfl,rfl,rfl,h0,h1,h2,h3⟩:=trodAll_four hA;obtain⟨rfl,rfl⟩:=trodVars_none hV;obtain⟨a0,c0,l0,rfl,hd0,hc0⟩:=zCl (hval 0 22 v0 rfl rfl) h0;obtain⟨a1,c1,l1,rfl,hd1,hc1⟩:=zCl (hval 1 22 v1 rfl rfl) h1;obtain⟨x0,x1,y0,y1,ms,rfl,rfl,rfl,hy0,hy1⟩:=open_agg2 Tryz.underlying80 (by kernel_rfl) (show Tryz.prog.cellsOf 80=2 by kernel_rfl) (hval 2 80 v2 rfl rfl) h2;obtain⟨sf,e0,rfl,_⟩:=DataW.trod_string Tryz.underlying9 hy0;obtain⟨st,e1,rfl,_⟩:=DataW.trod_string Tryz.underlying9 hy1;simp at e0 e1;subst e0 e1;obtain⟨key,rfl,rfl,rfl,_⟩:=open_string Tryz.underlying9 (hval 3 9 v3 rfl rfl) h3;refine(topReader_walk l0 a0 c0 l1 a1 c1 sf st key W (zFA hL) hd0 hd1).mono fun e W' ⟨he,hb⟩=>?_;subst he;exact⟨_,rfl,zKX Tryz.laidOut (by kernel_rfl) Tryz.underlying4 rfl (by rw[Tryz.params6];decide +kernel) hW' rfl hb⟩
theorem zGz:Rows.TopReaderSaid:=
 OpenClaim.holds_of_cond 6 Tryz.f6 rfl rfl rfl rfl rfl rfl rfl ⟨rfl,rfl,rfl,rfl,rfl⟩ rfl rfl rfl rfl rfl zAt Tryz.func6 zCV zER zGT
  (fun os started H enc _ F=>by rw[OpenClaim.pre_eq_preRow];exact zC1 os started H enc F)
theorem zDj:∀ t∈[22,80,9],Tryz.prog.wantsStandIn t=false:=by
 intro t ht;simp only[List.mem_cons,List.not_mem_nil,or_false] at ht;rcases ht with rfl|rfl|rfl<;>kernel_rfl
theorem zD6 (f:FuncId) (fn:Func) (hf:Tryz.pinned.checked.prog.funcNamed Rows.topReaderRow.func=some f) (hfn:Tryz.pinned.checked.prog.funcs[f]?=some fn):
  true=Tryz.pinned.checked.prog.looks []/\∀ (j:Nat) t,fn.params[j]?=some t->Tryz.pinned.checked.prog.wantsStandIn t=false:=by
 obtain rfl:f=6:=Option.some.inj (zAt.symm.trans hf) |>.symm;obtain rfl:fn=Tryz.f6:=(Option.some.inj (Tryz.func6.symm.trans hfn)).symm;refine⟨zD4,fun j t ht=>?_⟩;rw[Tryz.params6] at ht;exact zDj t (by simpa using Array.mem_of_getElem? ht)
theorem topReader_holds:Rows.TopReaderCardSaid:=
 Claim7.holds_tied_plain_at .later [] _ _ _ _ zGz (fun _ h=>by cases h) zGL (fun _ h=>by cases h) topReader_row_tie rfl ⟨rfl,rfl⟩ zF4 rfl zD6 zEE
#print axioms topReader_holds
end
end Go.Proofs.YtnboipekkahmnaaGreatDoor
