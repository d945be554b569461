/-
  What change.Check returns of every change: no fault, a wrong shape, or a value beyond the bound. It makes new memory alone.
-/
import Derived.Test.YtjphbmdmnicjpacChgMem
import Derived.Test.YtjphbmdmnicjpacRowCheck
namespace Go.Proofs.Ytjphbmdmnicjpac
open Go.RowKit Go.Joins

def chgFault (c : Chg) : Nat := if !keyL c.key.data.toList then 3 else if c.gone && !c.val.toList.isEmpty then 3 else if 40 < c.val.size then 1 else 0

set_option maxHeartbeats 2000000 in
theorem chg_check (c : Chg) (w : World) (hk : c.key.size ≤ maxLen) :
    Calls Try.prog 100 #[.agg #[.string c.key, .string c.val, .bool c.gone]] w fun e w' => e = .returned (errV (chgFault c)) ∧ Below w.heap.size w w' := by
  have HK := fun w' => hide (check_any c.key w' hk)
  unfold chgFault
  generalize keyL c.key.data.toList = kl at *
  have hB := below_alloc1 w (Obj.cells #[Value.string c.key, Value.string c.val, Value.bool c.gone] 29)
  have a1 : (w.alloc (Obj.cells #[Value.string c.key, Value.string c.val, Value.bool c.gone] 29)).cell? ⟨w.heap.size, 1, none⟩ = some (.string c.val) := by simp
  have a2 : (w.alloc (Obj.cells #[Value.string c.key, Value.string c.val, Value.bool c.gone] 29)).cell? ⟨w.heap.size, 2, none⟩ = some (.bool c.gone) := by simp
  cases kl
  · go_enter Try.func100, Try.ntmps100
    go_wp2_with fail
    refine ((HK _).out).mono ?_
    rintro e w1 ⟨rfl, hb⟩
    replace hB := below_on hB (Nat.le_refl _) hb
    simp only [Bool.false_eq_true, if_false, errV]
    go_wp2
    go_ret
    exact ⟨rfl, hB⟩
  · generalize c.gone = g at *
    cases g
    all_goals
      go_enter Try.func100, Try.ntmps100
      go_wp2_with fail
      refine ((HK _).out).mono ?_
      rintro e w1 ⟨rfl, hb⟩
      replace hB := below_on hB (Nat.le_refl _) hb
      replace a1 := cell_on hb a1
      replace a2 := cell_on hb a2
      clear HK hb
      simp only [if_true, errV]
      by_cases h40 : 40 < c.val.size
      · have j40 : (40 : Int) < (c.val.size : Int) := by omega
        go_wp2
        all_goals
          go_ret
          exact ⟨by simp_all [errV], hB⟩
      · have j40 : ¬ (40 : Int) < (c.val.size : Int) := by omega
        go_wp2
        all_goals
          go_ret
          exact ⟨by simp_all [errV], hB⟩
end Go.Proofs.Ytjphbmdmnicjpac
