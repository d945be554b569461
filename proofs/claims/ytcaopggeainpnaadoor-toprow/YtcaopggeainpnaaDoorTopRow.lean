/-
  PROVED: for all queues q and all messages m, haywaintop.TopRow returns true, and its arguments read afterwards as they read before (the card TopRowCardSaid: where the library's listed tables and errors hold what the program's own text lays there; the tie is given).
-/
import Derived.Test.YtcaopggeainpnaaDoorCards
import Derived.Test.YtcaopggeainpnaaDoorTie
import Derived.Test.YtcaopggeainpnaaDoorTopRowWalk
import Derived.Deep.DeepWitnessRowRef
import Derived.Test.YtcaopggeainpnaaDoorLaw
import Derived.Test.YtcaopggeainpnaaDoorLaidW
import Derived.Test.YtcaopggeainpnaaDoorLaidE
import Derived.Test.YtcaopggeainpnaaDoorLaidT
import Derived.Deep.DeepHandedRow
import Derived.Lib.LaidTab
namespace Go.Proofs.YtcaopggeainpnaaDoor
open Go.ChangeShapes Go.WideShapes Go.ChangeAt Go.RowKit Go.Joins
open Go.ChangeMaps (open_string shut_string)

theorem topRow_laid_met (os : Os) : laidMet Tryd.prog Rows.topRowRow.laid ((layErrs (World.holding Tryd.prog default ⟨#[], #[], []⟩).heap.size (layTabs (World.holding Tryd.prog os ⟨errBlocks, #[], []⟩))).forCall (fun _ _ => 0) ⟨#[], #[.agg #[.int .i64 0, .int .i64 0, .string ByteArray.empty], .agg #[.int .i64 0, .int .i64 0, .int .i64 0, .string ByteArray.empty]], []⟩).memory :=
  laidMet_of_run' 8 (by kernel_rfl) (by kernel_rfl)
theorem topRow_reads (os : Os) {H : Type} (enc : TypeId × Value → H) : ∃ places, DataW.whole enc Tryd.prog ((layErrs (World.holding Tryd.prog default ⟨#[], #[], []⟩).heap.size (layTabs (World.holding Tryd.prog os ⟨errBlocks, #[], []⟩))).forCall (fun _ _ => 0) ⟨#[], #[.agg #[.int .i64 0, .int .i64 0, .string ByteArray.empty], .agg #[.int .i64 0, .int .i64 0, .int .i64 0, .string ByteArray.empty]], []⟩).memory Tryd.f6.params.toList Rows.topRowSpec.vars false (#[.agg #[.int .i64 0, .int .i64 0, .string ByteArray.empty], .agg #[.int .i64 0, .int .i64 0, .int .i64 0, .string ByteArray.empty]] : Array Value).toList 8 = some ([.agg [.lit (.int .i64 0), .lit (.int .i64 0), .lit (.string [])], .agg [.lit (.int .i64 0), .lit (.int .i64 0), .lit (.int .i64 0), .lit (.string [])]], [], places) :=
  ⟨[], by kernel_rfl⟩
theorem topRow_table {W : World} (h : laidMetH Tryd.prog Rows.topRowRow.laid W) : Lib.TabIs Tryd.prog W "internal/strconv.uint64pow10" .u64 Lib.pow10Tab := by
  rw [pow_list]
  exact tab_third h

set_option maxRecDepth 100000 in
theorem topRow_lifted (os : Os) (started : os.Started) (H : Type) (enc : TypeId × Value → H) (F : Stop.Interp) :
    ReturnsInHanded {} Tryd.checked os 6 .any ((OpenSpec.ofChange Rows.topRowSpec).preRow enc Tryd.prog Tryd.f6 Rows.topRowRow.domain false Rows.topRowRow.laid) (((OpenSpec.ofChange Rows.topRowSpec).at F).post enc Tryd.prog Tryd.f6 false true false false) := by
  obtain ⟨places, hx⟩ := topRow_reads os enc
  refine returnsInHanded_of_row (C := Tryd.checked) (s := OpenSpec.ofChange Rows.topRowSpec) Tryd.own started (by kernel_rfl) Tryd.func6
    (witness_row_at (enc := enc) (C := Tryd.checked) false (layErrs (World.holding Tryd.prog default ⟨#[], #[], []⟩).heap.size (layTabs (World.holding Tryd.prog os ⟨errBlocks, #[], []⟩))) #[.agg #[.int .i64 0, .int .i64 0, .string ByteArray.empty], .agg #[.int .i64 0, .int .i64 0, .int .i64 0, .string ByteArray.empty]] rfl (by kernel_rfl) (by kernel_rfl) (by kernel_rfl)
      (OpenSpec.preRow_of_cond 8 hx (by kernel_rfl) (fun k hk => by cases hk) (by kernel_rfl) (topRow_laid_met os))) ?_
  intro W base args ds gs before hval0 hW _ _ _ hL _ _
  have hval : ∀ (j : Nat) t v, Tryd.f6.params[j]? = some t → args[j]? = some v → Value.okWide Tryd.prog W .any base t v := hval0
  have hW' := hW
  obtain ⟨p, q, hA0, hV, rfl, _, _⟩ := hW
  have hA : DataW.TrodAll enc Tryd.prog W 0 (fun _ => true) true Tryd.f6.params.toList args.toList ds p := hA0
  rw [Tryd.params6] at hA hval
  obtain ⟨v0, v1, d0, d1, p0, p1, rfl, rfl, rfl, h0, h1⟩ := trodAll_two hA
  obtain ⟨rfl, rfl⟩ := trodVars_none hV
  obtain ⟨c0, c1, c2, y0, y1, y2, m, rfl, rfl, rfl, hy0, hy1, hy2⟩ := open_agg3 Tryd.underlying32 (by kernel_rfl) (show Tryd.prog.cellsOf 32 = 3 by kernel_rfl) (hval 0 32 v0 rfl rfl) h0
  obtain ⟨c3, c4, c5, c6, y3, y4, y5, y6, m', rfl, rfl, rfl, hy3, hy4, hy5, hy6⟩ := open_agg4 Tryd.underlying34 (by kernel_rfl) (show Tryd.prog.cellsOf 34 = 4 by kernel_rfl) (hval 1 34 v1 rfl rfl) h1
  obtain ⟨x, e0, rfl, _⟩ := DataW.trod_int Tryd.underlying3 hy0
  obtain ⟨y, e1, rfl, _⟩ := DataW.trod_int Tryd.underlying3 hy1
  obtain ⟨d, e2, rfl, _⟩ := DataW.trod_string Tryd.underlying9 hy2
  obtain ⟨k, e3, rfl, _⟩ := DataW.trod_int Tryd.underlying3 hy3
  obtain ⟨t, e4, rfl, _⟩ := DataW.trod_int Tryd.underlying3 hy4
  obtain ⟨u, e5, rfl, _⟩ := DataW.trod_int Tryd.underlying3 hy5
  obtain ⟨b, e6, rfl, _⟩ := DataW.trod_string Tryd.underlying9 hy6
  simp at e0 e1 e2 e3 e4 e5 e6
  subst e0 e1 e2 e3 e4 e5 e6
  refine (topRow_walk x y k t u d b W (topRow_table hL)).mono fun e W' ⟨he, hb⟩ => ?_
  subst he
  exact ⟨_, rfl, law_post Tryd.laidOut (by kernel_rfl) Tryd.underlying4 rfl (by rw [Tryd.params6]; decide +kernel) hW' rfl hb⟩

theorem topRow_said : Rows.TopRowSaid :=
  OpenClaim.holds_of_cond 6 Tryd.f6 rfl rfl rfl rfl rfl rfl rfl ⟨rfl, rfl, rfl, rfl, rfl⟩ rfl rfl rfl rfl rfl (by kernel_rfl) Tryd.func6 (by kernel_rfl)
    (of_decide_eq_true (by kernel_rfl)) (by unfold Func.isWrapper; first | (rw [if_pos (by decide +kernel)]; kernel_rfl) | (rw [if_neg (by decide +kernel)]; exact ⟨rfl, rfl⟩))
    (fun os started H enc _ F => by rw [OpenClaim.pre_eq_preRow]; exact topRow_lifted os started H enc F)

theorem topRow_stands : ∀ t ∈ [32, 34], Tryd.prog.wantsStandIn t = false := by
  intro t ht
  simp only [List.mem_cons, List.not_mem_nil, or_false] at ht
  rcases ht with rfl | rfl <;> kernel_rfl
theorem topRow_plain (f : FuncId) (fn : Func) (hf : Tryd.pinned.checked.prog.funcNamed Rows.topRowRow.func = some f) (hfn : Tryd.pinned.checked.prog.funcs[f]? = some fn) :
    true = Tryd.pinned.checked.prog.looks [] ∧ ∀ (j : Nat) t, fn.params[j]? = some t → Tryd.pinned.checked.prog.wantsStandIn t = false := by
  obtain rfl : f = 6 := Option.some.inj ((show Tryd.prog.funcNamed Rows.topRowRow.func = some 6 by kernel_rfl).symm.trans hf) |>.symm
  obtain rfl : fn = Tryd.f6 := (Option.some.inj (Tryd.func6.symm.trans hfn)).symm
  refine ⟨by kernel_rfl, fun j t ht => ?_⟩
  rw [Tryd.params6] at ht
  exact topRow_stands t (by simpa using Array.mem_of_getElem? ht)

theorem topRow_holds : Rows.TopRowCardSaid :=
  Claim7.holds_tied_plain_at .later [] _ _ _ _ topRow_said (fun _ h => by cases h) (by kernel_rfl) (fun _ h => by cases h) topRow_row_tie rfl ⟨rfl, rfl⟩ (by kernel_rfl) rfl topRow_plain (by kernel_rfl)
#print axioms topRow_holds
end Go.Proofs.YtcaopggeainpnaaDoor
