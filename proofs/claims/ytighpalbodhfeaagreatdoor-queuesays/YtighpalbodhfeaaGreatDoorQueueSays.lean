/-
  PROVED: for all lists of rows and all lists of acts, haywainlaw.QueueSays returns true, and its arguments read afterwards as they read before (the card QueueSaysCardSaid: where the library's listed tables and errors hold what the program's own text lays there; the tie is given).
-/
import Derived.Test.YtighpalbodhfeaaGreatDoorCards
import Derived.Test.YtighpalbodhfeaaGreatDoorTie
import Derived.Test.YtighpalbodhfeaaGreatDoorQueTurnB
import Derived.Test.YtighpalbodhfeaaGreatDoorLaw
import Derived.Deep.DeepWitnessRowRef
import Derived.Deep.DeepHandedRow
import Derived.Lib.LaidTab
namespace Go.Proofs.YtighpalbodhfeaaGreatDoor
open Go.ChangeShapes Go.WideShapes Go.ChangeAt Go.RowKit Go.Joins
open Go.ChangeMaps (open_string shut_string)

theorem queueSays_laid_met (os : Os) : laidMet Tryz.prog Rows.queueSaysRow.laid ((layErrs (World.holding Tryz.prog default ⟨#[], #[], []⟩).heap.size (layTabs (World.holding Tryz.prog os ⟨errBlocks, #[], []⟩))).forCall (fun _ _ => 0) ⟨#[], #[.slice none 0 0, .slice none 0 0], []⟩).memory :=
  laidMet_of_run' 8 (by kernel_rfl) (by kernel_rfl)
theorem queueSays_reads (os : Os) {H : Type} (enc : TypeId × Value → H) : ∃ places, DataW.whole enc Tryz.prog ((layErrs (World.holding Tryz.prog default ⟨#[], #[], []⟩).heap.size (layTabs (World.holding Tryz.prog os ⟨errBlocks, #[], []⟩))).forCall (fun _ _ => 0) ⟨#[], #[.slice none 0 0, .slice none 0 0], []⟩).memory Tryz.f3.params.toList Rows.queueSaysSpec.vars false (#[.slice none 0 0, .slice none 0 0] : Array Value).toList 8 = some ([.nil, .nil], [], places) :=
  ⟨[], by kernel_rfl⟩
theorem queueSays_table {W : World} (h : laidMetH Tryz.prog Rows.queueSaysRow.laid W) : Lib.TabIs Tryz.prog W "internal/strconv.uint64pow10" .u64 Lib.pow10Tab := by
  rw [pow_list]
  exact tab_third h
theorem queueSays_laid {W : World} (h : laidMetH Tryz.prog Rows.queueSaysRow.laid W) : Laid W := ⟨queueSays_table h, err_fifth h, err_fourth h⟩

set_option maxRecDepth 100000 in
theorem queueSays_lifted (os : Os) (started : os.Started) (H : Type) (enc : TypeId × Value → H) (F : Stop.Interp) :
    ReturnsInHanded {} Tryz.checked os 3 .any ((OpenSpec.ofChange Rows.queueSaysSpec).preRow enc Tryz.prog Tryz.f3 Rows.queueSaysRow.domain false Rows.queueSaysRow.laid) (((OpenSpec.ofChange Rows.queueSaysSpec).at F).post enc Tryz.prog Tryz.f3 false true false false) := by
  obtain ⟨places, hx⟩ := queueSays_reads os enc
  refine returnsInHanded_of_row (C := Tryz.checked) (s := OpenSpec.ofChange Rows.queueSaysSpec) Tryz.own started (by kernel_rfl) Tryz.func3
    (witness_row_at (enc := enc) (C := Tryz.checked) false (layErrs (World.holding Tryz.prog default ⟨#[], #[], []⟩).heap.size (layTabs (World.holding Tryz.prog os ⟨errBlocks, #[], []⟩))) #[.slice none 0 0, .slice none 0 0] rfl (by kernel_rfl) (by kernel_rfl) (by kernel_rfl)
      (OpenSpec.preRow_of_cond 8 hx (by kernel_rfl) (fun k hk => by cases hk) (by kernel_rfl) (queueSays_laid_met os))) ?_
  intro W base args ds gs before hval0 hW _ _ _ hL _ _
  have hval : ∀ (j : Nat) t v, Tryz.f3.params[j]? = some t → args[j]? = some v → Value.okWide Tryz.prog W .any base t v := hval0
  have hW' := hW
  obtain ⟨p, q, hA0, hV, rfl, _, _⟩ := hW
  have hA : DataW.TrodAll enc Tryz.prog W 0 (fun _ => true) true Tryz.f3.params.toList args.toList ds p := hA0
  rw [Tryz.params3] at hA hval
  obtain ⟨v0, v1, d0, d1, p0, p1, rfl, rfl, rfl, h0, h1⟩ := trodAll_two hA
  obtain ⟨rfl, rfl⟩ := trodVars_none hV
  obtain ⟨ra, rc, rows, rfl, hr, _, hnil⟩ := open_rowsArg (hval 0 22 v0 rfl rfl) h0
  obtain ⟨aa, ac, acts, rfl, hac⟩ := open_actsArg (hval 1 23 v1 rfl rfl) h1
  refine (queueSays_walk rows ra rc acts aa ac W (queueSays_laid hL) hr hnil hac).mono fun e W' ⟨he, hb⟩ => ?_
  subst he
  exact ⟨_, rfl, law_post Tryz.laidOut (by kernel_rfl) Tryz.underlying4 rfl (by rw [Tryz.params3]; decide +kernel) hW' rfl hb⟩

theorem queueSays_said : Rows.QueueSaysSaid :=
  OpenClaim.holds_of_cond 3 Tryz.f3 rfl rfl rfl rfl rfl rfl rfl ⟨rfl, rfl, rfl, rfl, rfl⟩ rfl rfl rfl rfl rfl (by kernel_rfl) Tryz.func3 (by kernel_rfl)
    (of_decide_eq_true (by kernel_rfl)) (by unfold Func.isWrapper; first | (rw [if_pos (by decide +kernel)]; kernel_rfl) | (rw [if_neg (by decide +kernel)]; exact ⟨rfl, rfl⟩))
    (fun os started H enc _ F => by rw [OpenClaim.pre_eq_preRow]; exact queueSays_lifted os started H enc F)

theorem queueSays_stands : ∀ t ∈ [22, 23], Tryz.prog.wantsStandIn t = false := by
  intro t ht
  simp only [List.mem_cons, List.not_mem_nil, or_false] at ht
  rcases ht with rfl | rfl <;> kernel_rfl
theorem queueSays_plain (f : FuncId) (fn : Func) (hf : Tryz.pinned.checked.prog.funcNamed Rows.queueSaysRow.func = some f) (hfn : Tryz.pinned.checked.prog.funcs[f]? = some fn) :
    true = Tryz.pinned.checked.prog.looks [] ∧ ∀ (j : Nat) t, fn.params[j]? = some t → Tryz.pinned.checked.prog.wantsStandIn t = false := by
  obtain rfl : f = 3 := Option.some.inj ((show Tryz.prog.funcNamed Rows.queueSaysRow.func = some 3 by kernel_rfl).symm.trans hf) |>.symm
  obtain rfl : fn = Tryz.f3 := (Option.some.inj (Tryz.func3.symm.trans hfn)).symm
  refine ⟨by kernel_rfl, fun j t ht => ?_⟩
  rw [Tryz.params3] at ht
  exact queueSays_stands t (by simpa using Array.mem_of_getElem? ht)

theorem queueSays_holds : Rows.QueueSaysCardSaid :=
  Claim7.holds_tied_plain_at .later [] _ _ _ _ queueSays_said (fun _ h => by cases h) (by kernel_rfl) (fun _ h => by cases h) queueSays_row_tie rfl ⟨rfl, rfl⟩ (by kernel_rfl) rfl queueSays_plain (by kernel_rfl)
#print axioms queueSays_holds
end Go.Proofs.YtighpalbodhfeaaGreatDoor
