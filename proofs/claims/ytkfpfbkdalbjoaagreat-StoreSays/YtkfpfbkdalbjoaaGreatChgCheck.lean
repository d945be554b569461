/-
  What change.Check returns of every change: no fault, a wrong shape, or a value beyond the bound. It makes new memory alone.
-/
import Derived.Test.YtkfpfbkdalbjoaaGreatChgMem
import Derived.Test.YtkfpfbkdalbjoaaGreatRowCheck
import Derived.Test.YtkfpfbkdalbjoaaGreatRefKey
namespace Go.Proofs.YtkfpfbkdalbjoaaGreat
open Go.RowKit Go.Joins

def chgFault (c : Chg) : Nat := if !keyL c.key.data.toList then 3 else if c.gone && !c.val.toList.isEmpty then 3 else if 40 < c.val.size then 1 else 0

set_option maxHeartbeats 2000000 in
theorem chg_check (c : Chg) (w : World) (hk : c.key.size ≤ maxLen) :
    Calls Tryz.prog 49 #[.agg #[.string c.key, .string c.val, .bool c.gone]] w fun e w' => e = .returned (errV (chgFault c)) ∧ Below w.heap.size w w' := by
  have HK := fun w' => hide (check_any c.key w' hk)
  unfold chgFault
  generalize keyL c.key.data.toList = kl at *
  have hB := below_alloc1 w (Obj.cells #[Value.string c.key, Value.string c.val, Value.bool c.gone] 54)
  have a1 : (w.alloc (Obj.cells #[Value.string c.key, Value.string c.val, Value.bool c.gone] 54)).cell? ⟨w.heap.size, 1, none⟩ = some (.string c.val) := by simp
  have a2 : (w.alloc (Obj.cells #[Value.string c.key, Value.string c.val, Value.bool c.gone] 54)).cell? ⟨w.heap.size, 2, none⟩ = some (.bool c.gone) := by simp
  cases kl
  · go_enter Tryz.func49, Tryz.ntmps49
    go_wp2_with fail
    refine ((HK _).out).mono ?_
    rintro e w1 ⟨rfl, hb⟩
    replace hB := below_on hB (Nat.le_refl _) hb
    simp only [Bool.false_eq_true, if_false, errV]
    go_wp2
    go_ret
    exact ⟨rfl, hB⟩
  · generalize c.gone = g at *
    cases g
    all_goals
      go_enter Tryz.func49, Tryz.ntmps49
      go_wp2_with fail
      refine ((HK _).out).mono ?_
      rintro e w1 ⟨rfl, hb⟩
      replace hB := below_on hB (Nat.le_refl _) hb
      replace a1 := cell_on hb a1
      replace a2 := cell_on hb a2
      clear HK hb
      simp only [if_true, errV]
      by_cases h40 : 40 < c.val.size
      · have j40 : (40 : Int) < (c.val.size : Int) := by omega
        go_wp2
        all_goals
          go_ret
          exact ⟨by simp_all [errV], hB⟩
      · have j40 : ¬ (40 : Int) < (c.val.size : Int) := by omega
        go_wp2
        all_goals
          go_ret
          exact ⟨by simp_all [errV], hB⟩
end Go.Proofs.YtkfpfbkdalbjoaaGreat

/-
  What haywainref.ChangeFault returns: the same as package change's Check; it makes new memory alone.
-/
namespace Go.Proofs.YtkfpfbkdalbjoaaGreat
open Go.RowKit Go.Joins

theorem fault_of (c : Chg) : chgFault c = if faultK c.key.data.toList = 0 then (if c.gone && !c.val.toList.isEmpty then 3 else if 40 < c.val.size then 1 else 0) else 3 := by
  unfold chgFault faultK
  cases keyL c.key.data.toList <;> simp
set_option maxHeartbeats 2000000 in
theorem rfault_any (c : Chg) (w : World) (hk : c.key.size ≤ 1000) :
    Calls Tryz.prog 28 #[.agg #[.string c.key, .string c.val, .bool c.gone]] w fun e w' => e = .returned (.int .i64 (chgFault c)) ∧ Below w.heap.size w w' := by
  have HK := fun w' => hide (keyFault_any c.key w' hk)
  rw [fault_of]
  have h03 : faultK c.key.data.toList = 0 ∨ faultK c.key.data.toList = 3 := by unfold faultK; split <;> simp
  generalize faultK c.key.data.toList = f at *
  have hB := below_alloc1 w (Obj.cells #[Value.string c.key, Value.string c.val, Value.bool c.gone] 54)
  have a1 : (w.alloc (Obj.cells #[Value.string c.key, Value.string c.val, Value.bool c.gone] 54)).cell? ⟨w.heap.size, 1, none⟩ = some (.string c.val) := by simp
  have a2 : (w.alloc (Obj.cells #[Value.string c.key, Value.string c.val, Value.bool c.gone] 54)).cell? ⟨w.heap.size, 2, none⟩ = some (.bool c.gone) := by simp
  rcases h03 with rfl | rfl
  · generalize c.gone = g at *
    cases g
    all_goals
      by_cases h40 : 40 < c.val.size
      · have j40 : (40 : Int) < (c.val.size : Int) := by omega
        go_enter Tryz.func28, Tryz.ntmps28
        go_wp2_with (go_at_call 52; refine ((HK _).out).mono ?_; rintro e w1 ⟨rfl, rfl⟩)
        all_goals
          go_ret
          exact ⟨by simp_all, hB⟩
      · have j40 : ¬ (40 : Int) < (c.val.size : Int) := by omega
        go_enter Tryz.func28, Tryz.ntmps28
        go_wp2_with (go_at_call 52; refine ((HK _).out).mono ?_; rintro e w1 ⟨rfl, rfl⟩)
        all_goals
          go_ret
          exact ⟨by simp_all, hB⟩
  · go_enter Tryz.func28, Tryz.ntmps28
    go_wp2_with (go_at_call 52; refine ((HK _).out).mono ?_; rintro e w1 ⟨rfl, rfl⟩)
    go_ret
    exact ⟨rfl, hB⟩
end Go.Proofs.YtkfpfbkdalbjoaaGreat
