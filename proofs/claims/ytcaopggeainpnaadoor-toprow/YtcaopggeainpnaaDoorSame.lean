/-
  What haywainlaw.same returns of an error of package api and a number; what haywainref.SameNumbers returns of two lists of the same numbers. They change nothing but the count of draws.
-/
import Derived.Test.YtcaopggeainpnaaDoorBase
namespace Go.Proofs.YtcaopggeainpnaaDoor
open Go.RowKit Go.Joins

set_option maxHeartbeats 400000 in
theorem same_nil (f : Int) (w : World) :
    Calls Tryd.prog 7 #[.nilIface, .int .i64 f] w fun e w' => e = .returned (.bool (f == 0)) ∧ w' = w := by
  go_enter Tryd.func7, Tryd.ntmps7
  go_wp2
  go_ret
  exact ⟨rfl, rfl⟩
theorem assert_errno (v : Value) (W : World) : (Instr.typeAssert (.iface 23 v) 27 23 true).run Tryd.prog W = .ok (.tuple #[v, .bool true]) W := by kernel_rfl
theorem err_not_nil (u : TypeId) (v : Value) (W : World) : (binOp .eql 27 (.iface u v) .nilIface).run Tryd.prog W = .ok (.bool false) W := by kernel_rfl
theorem err_neq_nil (u : TypeId) (v : Value) (W : World) : (binOp .neq 27 (.iface u v) .nilIface).run Tryd.prog W = .ok (.bool true) W := by kernel_rfl
theorem nil_neq_nil (W : World) : (binOp .neq 27 .nilIface .nilIface).run Tryd.prog W = .ok (.bool false) W := by kernel_rfl
set_option maxHeartbeats 400000 in
theorem same_err (n f : Int) (w : World) (hf : 0 < f) :
    Calls Tryd.prog 7 #[.iface 23 (.int .i64 n), .int .i64 f] w fun e w' => e = .returned (.bool (n == f)) ∧ w' = w := by
  have h1 := assert_errno (.int .i64 n)
  have h2 := err_not_nil 23 (.int .i64 n)
  go_enter Tryd.func7, Tryd.ntmps7
  go_wp2
  all_goals
    go_ret
    exact ⟨rfl, rfl⟩
/-- an error of package api by its number, held against that number -/
theorem same_of (n : Nat) (v : Value) (w : World) (hv : v = if n = 0 then .nilIface else .iface 23 (.int .i64 n)) :
    Calls Tryd.prog 7 #[v, .int .i64 n] w fun e w' => e = .returned (.bool true) ∧ w' = w := by
  by_cases h : n = 0
  · subst h
    rw [if_pos rfl] at hv
    subst hv
    exact same_nil 0 w
  · rw [if_neg h] at hv
    subst hv
    refine (same_err n n w (by omega)).mono fun e w' ⟨he, hw⟩ => ⟨?_, hw⟩
    rw [he]; simp

/-- two lists of the same numbers -/
theorem sameNumbers_any (n b0 o0 c0 b1 o1 c1 : Nat) (V : Nat → Int) (w : World) (hn : n ≤ 9223372036854775807)
    (h0 : ∀ i, i < n → w.cell? ⟨b0, o0 + i, none⟩ = some (.int .i64 (V i))) (h1 : ∀ i, i < n → w.cell? ⟨b1, o1 + i, none⟩ = some (.int .i64 (V i))) :
    Calls Tryd.prog 8 #[.slice (some ⟨b0, o0, none⟩) n c0, .slice (some ⟨b1, o1, none⟩) n c1] w fun e w' => e = .returned (.bool true) ∧ Below w.heap.size w w' := by
  go_enter Tryd.func8, Tryd.ntmps8
  go_wp2
  go_loopw [5] (fun i wr => ∃ k m : Nat, k ≤ n ∧ i = .int .i64 k ∧ wr = w.drewN m) (fun i _ => n - (intOf i).toNat)
  case atStart => exact ⟨0, 0, Nat.zero_le _, rfl, rfl⟩
  case round =>
    obtain ⟨k, m, hk, rfl, rfl⟩ := hrel
    by_cases hlt : k < n
    · have e0 := h0 k hlt
      have e1 := h1 k hlt
      have hlt' : (k : Int) < (n : Int) := by omega
      go_wp2
      go_quiet (fail)
      go_wp2
      go_roundw
      case rel => exact ⟨k + 1, _, by omega, by go_num, by first | rfl | exact World.drewN_drewN _ _ _⟩
      case measure => simp [intOf]; omega
    · go_wp2
      go_ret
      exact ⟨rfl, below_draws _ _ _⟩
end Go.Proofs.YtcaopggeainpnaaDoor
