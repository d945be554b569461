/-
  What haywainlaw.same returns of an error of package api and a number. It changes nothing.
-/
import Derived.Test.YtkfpfbkdalbjoaaGreatBase
namespace Go.Proofs.YtkfpfbkdalbjoaaGreat
open Go.RowKit Go.Joins

set_option maxHeartbeats 400000 in
theorem same_nil (f : Int) (w : World) :
    Calls Tryz.prog 7 #[.nilIface, .int .i64 f] w fun e w' => e = .returned (.bool (f == 0)) ∧ w' = w := by
  go_enter Tryz.func7, Tryz.ntmps7
  go_wp2
  go_ret
  exact ⟨rfl, rfl⟩
theorem assert_errno (v : Value) (W : World) : (Instr.typeAssert (.iface 57 v) 27 57 true).run Tryz.prog W = .ok (.tuple #[v, .bool true]) W := by kernel_rfl
theorem err_not_nil (u : TypeId) (v : Value) (W : World) : (binOp .eql 27 (.iface u v) .nilIface).run Tryz.prog W = .ok (.bool false) W := by kernel_rfl
theorem err_neq_nil (u : TypeId) (v : Value) (W : World) : (binOp .neq 27 (.iface u v) .nilIface).run Tryz.prog W = .ok (.bool true) W := by kernel_rfl
theorem nil_neq_nil (W : World) : (binOp .neq 27 .nilIface .nilIface).run Tryz.prog W = .ok (.bool false) W := by kernel_rfl
set_option maxHeartbeats 400000 in
theorem same_err (n f : Int) (w : World) (hf : 0 < f) :
    Calls Tryz.prog 7 #[.iface 57 (.int .i64 n), .int .i64 f] w fun e w' => e = .returned (.bool (n == f)) ∧ w' = w := by
  have h1 := assert_errno (.int .i64 n)
  have h2 := err_not_nil 57 (.int .i64 n)
  go_enter Tryz.func7, Tryz.ntmps7
  go_wp2
  all_goals
    go_ret
    exact ⟨rfl, rfl⟩
/-- an error of package api by its number, held against that number -/
theorem same_of (n : Nat) (v : Value) (w : World) (hv : v = if n = 0 then .nilIface else .iface 57 (.int .i64 n)) :
    Calls Tryz.prog 7 #[v, .int .i64 n] w fun e w' => e = .returned (.bool true) ∧ w' = w := by
  by_cases h : n = 0
  · subst h
    rw [if_pos rfl] at hv
    subst hv
    exact same_nil 0 w
  · rw [if_neg h] at hv
    subst hv
    refine (same_err n n w (by omega)).mono fun e w' ⟨he, hw⟩ => ⟨?_, hw⟩
    rw [he]; simp

end Go.Proofs.YtkfpfbkdalbjoaaGreat
