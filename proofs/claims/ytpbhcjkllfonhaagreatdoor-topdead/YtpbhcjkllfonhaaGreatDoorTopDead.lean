/-
  PROVED: for all texts body, all numbers tries and both values of dead, haywaintop.TopDead returns true, and its arguments read afterwards as they read before (the card TopDeadCardSaid: where the library's listed tables and errors hold what the program's own text lays there; the tie is given).
-/
import Derived.Test.YtpbhcjkllfonhaaGreatDoorCards
import Derived.Test.YtpbhcjkllfonhaaGreatDoorTie
import Derived.Test.YtpbhcjkllfonhaaGreatDoorQueTop
import Derived.Deep.DeepWitnessRowRef
import Derived.Test.YtpbhcjkllfonhaaGreatDoorLaw
import Derived.Deep.DeepHandedRow
import Derived.Lib.LaidTab
namespace Go.Proofs.YtpbhcjkllfonhaaGreatDoor
open Go.ChangeShapes Go.WideShapes Go.ChangeAt Go.RowKit Go.Joins
open Go.ChangeMaps (open_string shut_string)

theorem topDead_laid_met (os : Os) : laidMet Tryz.prog Rows.topDeadRow.laid ((layErrs (World.holding Tryz.prog default ⟨#[], #[], []⟩).heap.size (layTabs (World.holding Tryz.prog os ⟨errBlocks, #[], []⟩))).forCall (fun _ _ => 0) ⟨#[], #[.string ByteArray.empty, .int .i64 0, .bool false], []⟩).memory :=
  laidMet_of_run' 8 (by kernel_rfl) (by kernel_rfl)
theorem topDead_reads (os : Os) {H : Type} (enc : TypeId × Value → H) : ∃ places, DataW.whole enc Tryz.prog ((layErrs (World.holding Tryz.prog default ⟨#[], #[], []⟩).heap.size (layTabs (World.holding Tryz.prog os ⟨errBlocks, #[], []⟩))).forCall (fun _ _ => 0) ⟨#[], #[.string ByteArray.empty, .int .i64 0, .bool false], []⟩).memory Tryz.f6.params.toList Rows.topDeadSpec.vars false (#[.string ByteArray.empty, .int .i64 0, .bool false] : Array Value).toList 8 = some ([.lit (.string []), .lit (.int .i64 0), .lit (.bool false)], [], places) :=
  ⟨[], by kernel_rfl⟩
theorem topDead_table {W : World} (h : laidMetH Tryz.prog Rows.topDeadRow.laid W) : Lib.TabIs Tryz.prog W "internal/strconv.uint64pow10" .u64 Lib.pow10Tab := by
  rw [pow_list]
  exact tab_third h
theorem topDead_laid {W : World} (h : laidMetH Tryz.prog Rows.topDeadRow.laid W) : Laid W := ⟨topDead_table h, err_fifth h, err_fourth h⟩

set_option maxRecDepth 100000 in
theorem topDead_lifted (os : Os) (started : os.Started) (H : Type) (enc : TypeId × Value → H) (F : Stop.Interp) :
    ReturnsInHanded {} Tryz.checked os 6 .any ((OpenSpec.ofChange Rows.topDeadSpec).preRow enc Tryz.prog Tryz.f6 Rows.topDeadRow.domain false Rows.topDeadRow.laid) (((OpenSpec.ofChange Rows.topDeadSpec).at F).post enc Tryz.prog Tryz.f6 false true false false) := by
  obtain ⟨places, hx⟩ := topDead_reads os enc
  refine returnsInHanded_of_row (C := Tryz.checked) (s := OpenSpec.ofChange Rows.topDeadSpec) Tryz.own started (by kernel_rfl) Tryz.func6
    (witness_row_at (enc := enc) (C := Tryz.checked) false (layErrs (World.holding Tryz.prog default ⟨#[], #[], []⟩).heap.size (layTabs (World.holding Tryz.prog os ⟨errBlocks, #[], []⟩))) #[.string ByteArray.empty, .int .i64 0, .bool false] rfl (by kernel_rfl) (by kernel_rfl) (by kernel_rfl)
      (OpenSpec.preRow_of_cond 8 hx (by kernel_rfl) (fun k hk => by cases hk) (by kernel_rfl) (topDead_laid_met os))) ?_
  intro W base args ds gs before hval0 hW _ _ _ hL _ _
  have hval : ∀ (j : Nat) t v, Tryz.f6.params[j]? = some t → args[j]? = some v → Value.okWide Tryz.prog W .any base t v := hval0
  have hW' := hW
  obtain ⟨p, q, hA0, hV, rfl, _, _⟩ := hW
  have hA : DataW.TrodAll enc Tryz.prog W 0 (fun _ => true) true Tryz.f6.params.toList args.toList ds p := hA0
  rw [Tryz.params6] at hA hval
  obtain ⟨v0, v1, v2, d0, d1, d2, p0, p1, p2, rfl, rfl, rfl, h0, h1, h2⟩ := trodAll_three hA
  obtain ⟨rfl, rfl⟩ := trodVars_none hV
  obtain ⟨body, rfl, rfl, rfl, _⟩ := open_string Tryz.underlying9 (hval 0 9 v0 rfl rfl) h0
  obtain ⟨tries, rfl, rfl, rfl, _⟩ := open_int Tryz.underlying3 (hval 1 3 v1 rfl rfl) h1
  obtain ⟨dead, rfl, rfl, rfl⟩ := Go.RowKit.open_bool Tryz.underlying4 (hval 2 4 v2 rfl rfl) h2
  refine (topDead_walk body tries dead W (topDead_laid hL)).mono fun e W' ⟨he, hb⟩ => ?_
  subst he
  exact ⟨_, rfl, law_post Tryz.laidOut (by kernel_rfl) Tryz.underlying4 rfl (by rw [Tryz.params6]; decide +kernel) hW' rfl hb⟩

theorem topDead_said : Rows.TopDeadSaid :=
  OpenClaim.holds_of_cond 6 Tryz.f6 rfl rfl rfl rfl rfl rfl rfl ⟨rfl, rfl, rfl, rfl, rfl⟩ rfl rfl rfl rfl rfl (by kernel_rfl) Tryz.func6 (by kernel_rfl)
    (of_decide_eq_true (by kernel_rfl)) (by unfold Func.isWrapper; first | (rw [if_pos (by decide +kernel)]; kernel_rfl) | (rw [if_neg (by decide +kernel)]; exact ⟨rfl, rfl⟩))
    (fun os started H enc _ F => by rw [OpenClaim.pre_eq_preRow]; exact topDead_lifted os started H enc F)

theorem topDead_stands : ∀ t ∈ [9, 3, 4], Tryz.prog.wantsStandIn t = false := by
  intro t ht
  simp only [List.mem_cons, List.not_mem_nil, or_false] at ht
  rcases ht with rfl | rfl | rfl <;> kernel_rfl
theorem topDead_plain (f : FuncId) (fn : Func) (hf : Tryz.pinned.checked.prog.funcNamed Rows.topDeadRow.func = some f) (hfn : Tryz.pinned.checked.prog.funcs[f]? = some fn) :
    true = Tryz.pinned.checked.prog.looks [] ∧ ∀ (j : Nat) t, fn.params[j]? = some t → Tryz.pinned.checked.prog.wantsStandIn t = false := by
  obtain rfl : f = 6 := Option.some.inj ((show Tryz.prog.funcNamed Rows.topDeadRow.func = some 6 by kernel_rfl).symm.trans hf) |>.symm
  obtain rfl : fn = Tryz.f6 := (Option.some.inj (Tryz.func6.symm.trans hfn)).symm
  refine ⟨by kernel_rfl, fun j t ht => ?_⟩
  rw [Tryz.params6] at ht
  exact topDead_stands t (by simpa using Array.mem_of_getElem? ht)

theorem topDead_holds : Rows.TopDeadCardSaid :=
  Claim7.holds_tied_plain_at .later [] _ _ _ _ topDead_said (fun _ h => by cases h) (by kernel_rfl) (fun _ h => by cases h) topDead_row_tie rfl ⟨rfl, rfl⟩ (by kernel_rfl) rfl topDead_plain (by kernel_rfl)
#print axioms topDead_holds
end Go.Proofs.YtpbhcjkllfonhaaGreatDoor
