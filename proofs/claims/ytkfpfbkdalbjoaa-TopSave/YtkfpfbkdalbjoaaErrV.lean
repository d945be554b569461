/-
  An error of package api as a value.
-/
import Derived.Test.YtkfpfbkdalbjoaaBase
namespace Go.Proofs.Ytkfpfbkdalbjoaa
open Go.RowKit Go.Joins

/-- an error of package api, by its number; 0: none -/
def errV (n : Nat) : Value := if n = 0 then .nilIface else .iface 82 (.int .i64 n)
theorem errD_pos {n : Nat} (h : n ≠ 0) : errV n = .iface 82 (.int .i64 n) := if_neg h
theorem errD_nil : errV 0 = .nilIface := rfl
end Go.Proofs.Ytkfpfbkdalbjoaa
