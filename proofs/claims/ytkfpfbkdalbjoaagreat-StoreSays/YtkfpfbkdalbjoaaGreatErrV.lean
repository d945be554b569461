/-
  An error of package api as a value.
-/
import Derived.Test.YtkfpfbkdalbjoaaGreatBase
namespace Go.Proofs.YtkfpfbkdalbjoaaGreat
open Go.RowKit Go.Joins

/-- an error of package api, by its number; 0: none -/
def errV (n : Nat) : Value := if n = 0 then .nilIface else .iface 57 (.int .i64 n)
theorem errD_pos {n : Nat} (h : n ≠ 0) : errV n = .iface 57 (.int .i64 n) := if_neg h
theorem errD_nil : errV 0 = .nilIface := rfl
end Go.Proofs.YtkfpfbkdalbjoaaGreat
