/-
  PROVED: for all lists of texts bodies and all numbers now, haywaintop.TopFifo returns true, and its arguments read afterwards as they read before (the card TopFifoCardSaid: where the library's listed tables and errors hold what the program's own text lays there; the tie is given).
-/
import Derived.Test.YtpbhcjkllfonhaaGreatDoorCards
import Derived.Test.YtpbhcjkllfonhaaGreatDoorTie
import Derived.Test.YtpbhcjkllfonhaaGreatDoorQueTop
import Derived.Deep.DeepWitnessRowRef
import Derived.Test.YtpbhcjkllfonhaaGreatDoorLaw
import Derived.Deep.DeepHandedRow
import Derived.Lib.LaidTab
namespace Go.Proofs.YtpbhcjkllfonhaaGreatDoor
open Go.ChangeShapes Go.WideShapes Go.ChangeAt Go.RowKit Go.Joins
open Go.ChangeMaps (open_string shut_string)

theorem topFifo_laid_met (os : Os) : laidMet Tryz.prog Rows.topFifoRow.laid ((layErrs (World.holding Tryz.prog default ⟨#[], #[], []⟩).heap.size (layTabs (World.holding Tryz.prog os ⟨errBlocks, #[], []⟩))).forCall (fun _ _ => 0) ⟨#[], #[.slice none 0 0, .int .i64 0], []⟩).memory :=
  laidMet_of_run' 8 (by kernel_rfl) (by kernel_rfl)
theorem topFifo_reads (os : Os) {H : Type} (enc : TypeId × Value → H) : ∃ places, DataW.whole enc Tryz.prog ((layErrs (World.holding Tryz.prog default ⟨#[], #[], []⟩).heap.size (layTabs (World.holding Tryz.prog os ⟨errBlocks, #[], []⟩))).forCall (fun _ _ => 0) ⟨#[], #[.slice none 0 0, .int .i64 0], []⟩).memory Tryz.f4.params.toList Rows.topFifoSpec.vars false (#[.slice none 0 0, .int .i64 0] : Array Value).toList 8 = some ([.nil, .lit (.int .i64 0)], [], places) :=
  ⟨[], by kernel_rfl⟩
theorem topFifo_table {W : World} (h : laidMetH Tryz.prog Rows.topFifoRow.laid W) : Lib.TabIs Tryz.prog W "internal/strconv.uint64pow10" .u64 Lib.pow10Tab := by
  rw [pow_list]
  exact tab_third h
theorem topFifo_laid {W : World} (h : laidMetH Tryz.prog Rows.topFifoRow.laid W) : Laid W := ⟨topFifo_table h, err_fifth h, err_fourth h⟩

set_option maxRecDepth 100000 in
theorem topFifo_lifted (os : Os) (started : os.Started) (H : Type) (enc : TypeId × Value → H) (F : Stop.Interp) :
    ReturnsInHanded {} Tryz.checked os 4 .any ((OpenSpec.ofChange Rows.topFifoSpec).preRow enc Tryz.prog Tryz.f4 Rows.topFifoRow.domain false Rows.topFifoRow.laid) (((OpenSpec.ofChange Rows.topFifoSpec).at F).post enc Tryz.prog Tryz.f4 false true false false) := by
  obtain ⟨places, hx⟩ := topFifo_reads os enc
  refine returnsInHanded_of_row (C := Tryz.checked) (s := OpenSpec.ofChange Rows.topFifoSpec) Tryz.own started (by kernel_rfl) Tryz.func4
    (witness_row_at (enc := enc) (C := Tryz.checked) false (layErrs (World.holding Tryz.prog default ⟨#[], #[], []⟩).heap.size (layTabs (World.holding Tryz.prog os ⟨errBlocks, #[], []⟩))) #[.slice none 0 0, .int .i64 0] rfl (by kernel_rfl) (by kernel_rfl) (by kernel_rfl)
      (OpenSpec.preRow_of_cond 8 hx (by kernel_rfl) (fun k hk => by cases hk) (by kernel_rfl) (topFifo_laid_met os))) ?_
  intro W base args ds gs before hval0 hW _ _ _ hL _ _
  have hval : ∀ (j : Nat) t v, Tryz.f4.params[j]? = some t → args[j]? = some v → Value.okWide Tryz.prog W .any base t v := hval0
  have hW' := hW
  obtain ⟨p, q, hA0, hV, rfl, _, _⟩ := hW
  have hA : DataW.TrodAll enc Tryz.prog W 0 (fun _ => true) true Tryz.f4.params.toList args.toList ds p := hA0
  rw [Tryz.params4] at hA hval
  obtain ⟨v0, v1, d0, d1, p0, p1, rfl, rfl, rfl, h0, h1⟩ := trodAll_two hA
  obtain ⟨rfl, rfl⟩ := trodVars_none hV
  obtain ⟨ao, cap, l, rfl, hl, _, _⟩ := open_strsArg (hval 0 42 v0 rfl rfl) h0
  obtain ⟨now, rfl, rfl, rfl, _⟩ := open_int Tryz.underlying3 (hval 1 3 v1 rfl rfl) h1
  refine (topFifo_walk l ao cap now W (topFifo_laid hL) hl).mono fun e W' ⟨he, hb⟩ => ?_
  subst he
  exact ⟨_, rfl, law_post Tryz.laidOut (by kernel_rfl) Tryz.underlying4 rfl (by rw [Tryz.params4]; decide +kernel) hW' rfl hb⟩

theorem topFifo_said : Rows.TopFifoSaid :=
  OpenClaim.holds_of_cond 4 Tryz.f4 rfl rfl rfl rfl rfl rfl rfl ⟨rfl, rfl, rfl, rfl, rfl⟩ rfl rfl rfl rfl rfl (by kernel_rfl) Tryz.func4 (by kernel_rfl)
    (of_decide_eq_true (by kernel_rfl)) (by unfold Func.isWrapper; first | (rw [if_pos (by decide +kernel)]; kernel_rfl) | (rw [if_neg (by decide +kernel)]; exact ⟨rfl, rfl⟩))
    (fun os started H enc _ F => by rw [OpenClaim.pre_eq_preRow]; exact topFifo_lifted os started H enc F)

theorem topFifo_stands : ∀ t ∈ [42, 3], Tryz.prog.wantsStandIn t = false := by
  intro t ht
  simp only [List.mem_cons, List.not_mem_nil, or_false] at ht
  rcases ht with rfl | rfl <;> kernel_rfl
theorem topFifo_plain (f : FuncId) (fn : Func) (hf : Tryz.pinned.checked.prog.funcNamed Rows.topFifoRow.func = some f) (hfn : Tryz.pinned.checked.prog.funcs[f]? = some fn) :
    true = Tryz.pinned.checked.prog.looks [] ∧ ∀ (j : Nat) t, fn.params[j]? = some t → Tryz.pinned.checked.prog.wantsStandIn t = false := by
  obtain rfl : f = 4 := Option.some.inj ((show Tryz.prog.funcNamed Rows.topFifoRow.func = some 4 by kernel_rfl).symm.trans hf) |>.symm
  obtain rfl : fn = Tryz.f4 := (Option.some.inj (Tryz.func4.symm.trans hfn)).symm
  refine ⟨by kernel_rfl, fun j t ht => ?_⟩
  rw [Tryz.params4] at ht
  exact topFifo_stands t (by simpa using Array.mem_of_getElem? ht)

theorem topFifo_holds : Rows.TopFifoCardSaid :=
  Claim7.holds_tied_plain_at .later [] _ _ _ _ topFifo_said (fun _ h => by cases h) (by kernel_rfl) (fun _ h => by cases h) topFifo_row_tie rfl ⟨rfl, rfl⟩ (by kernel_rfl) rfl topFifo_plain (by kernel_rfl)
#print axioms topFifo_holds
end Go.Proofs.YtpbhcjkllfonhaaGreatDoor
