/-
  What change.Check returns of every change: no fault, a wrong shape, or a value beyond the bound. It makes new memory alone.
-/
import Derived.Test.YtpbhcjkllfonhaaGreatSpOn
import Derived.Test.YtpbhcjkllfonhaaGreatCutWalk
import Derived.Test.YtpbhcjkllfonhaaGreatVerLast2
namespace Go.Proofs.YtpbhcjkllfonhaaGreat
open Go.RowKit Go.Joins

def chgFault (c : Chg) : Nat := if !keyL c.key.data.toList then 3 else if c.gone && !c.val.toList.isEmpty then 3 else if 40 < c.val.size then 1 else 0

set_option maxHeartbeats 2000000 in
theorem chg_check (c : Chg) (w : World) (hk : c.key.size ≤ maxLen) :
    Calls Tryz.prog 50 #[.agg #[.string c.key, .string c.val, .bool c.gone]] w fun e w' => e = .returned (errV (chgFault c)) ∧ Below w.heap.size w w' := by
  have HK := fun w' => hide (check_any c.key w' hk)
  unfold chgFault
  generalize keyL c.key.data.toList = kl at *
  have hB := below_alloc1 w (Obj.cells #[Value.string c.key, Value.string c.val, Value.bool c.gone] 46)
  have a1 : (w.alloc (Obj.cells #[Value.string c.key, Value.string c.val, Value.bool c.gone] 46)).cell? ⟨w.heap.size, 1, none⟩ = some (.string c.val) := by simp
  have a2 : (w.alloc (Obj.cells #[Value.string c.key, Value.string c.val, Value.bool c.gone] 46)).cell? ⟨w.heap.size, 2, none⟩ = some (.bool c.gone) := by simp
  cases kl
  · go_enter Tryz.func50, Tryz.ntmps50
    go_wp2_with fail
    refine ((HK _).out).mono ?_
    rintro e w1 ⟨rfl, hb⟩
    replace hB := below_on hB (Nat.le_refl _) hb
    simp only [Bool.false_eq_true, if_false, errV]
    go_wp2
    go_ret
    exact ⟨rfl, hB⟩
  · generalize c.gone = g at *
    cases g
    all_goals
      go_enter Tryz.func50, Tryz.ntmps50
      go_wp2_with fail
      refine ((HK _).out).mono ?_
      rintro e w1 ⟨rfl, hb⟩
      replace hB := below_on hB (Nat.le_refl _) hb
      replace a1 := cell_on hb a1
      replace a2 := cell_on hb a2
      clear HK hb
      simp only [if_true, errV]
      by_cases h40 : 40 < c.val.size
      · have j40 : (40 : Int) < (c.val.size : Int) := by omega
        go_wp2
        all_goals
          go_ret
          exact ⟨by simp_all [errV], hB⟩
      · have j40 : ¬ (40 : Int) < (c.val.size : Int) := by omega
        go_wp2
        all_goals
          go_ret
          exact ⟨by simp_all [errV], hB⟩
end Go.Proofs.YtpbhcjkllfonhaaGreat

/-
  What Versions.Now and Versions.Read return of versions that lie in memory. Nothing that was there is changed.
-/
namespace Go.Proofs.YtpbhcjkllfonhaaGreat
open Go.RowKit Go.Joins

theorem now_any {B vb mb n : Nat} {now : Int} {D : DataW Value} {g : ByteArray → Value} {R : ByteArray → List Ver} (w : World) (h : VS w B vb mb now n D g R) :
    Calls Tryz.prog 26 #[.pointer (some ⟨vb, 0, none⟩)] w fun e w' => e = .returned (.int .i64 now) ∧ w' = w := by
  have c := h.num
  go_enter Tryz.func26, Tryz.ntmps26
  go_wp2
  go_ret
  exact ⟨rfl, rfl⟩
set_option maxHeartbeats 1000000 in
theorem read_any {B vb mb n : Nat} {now : Int} {D : DataW Value} {g : ByteArray → Value} {R : ByteArray → List Ver} (key : ByteArray) (at_ : Int) (w : World) (h : VS w B vb mb now n D g R) (hk : key.size ≤ maxLen) (hR : (R key).length ≤ 1000000) :
    Calls Tryz.prog 44 #[.pointer (some ⟨vb, 0, none⟩), .string key, .int .i64 at_] w fun e w' => e = .returned (.tuple #[.string (behindV (R key) at_).1, .bool (behindV (R key) at_).2]) ∧ Below w.heap.size w w' := by
  have c := h.mp
  have hl := h.looked hk
  obtain ⟨ao, cap, e, hI, _, _⟩ := ownV_in (h.rows key)
  rw [e] at hl
  have HI := hide hI
  clear hI e
  generalize R key = vs at *
  go_enter Tryz.func44, Tryz.ntmps44
  go_wp2_with (go_at_call 61; refine (behind_any ao cap vs at_ _ hR HI.out).mono ?_; rintro e w1 ⟨rfl, hb⟩)
  go_ret2
  exact ⟨rfl, hb⟩
end Go.Proofs.YtpbhcjkllfonhaaGreat
