/-
  Spans that lie in memory stay there; plain facts on lists of them.
-/
import Derived.Test.YtkfpfbkdalbjoaaLight
namespace Go.Proofs.Ytkfpfbkdalbjoaa
open Go.RowKit Go.Joins

theorem spansAt_on {w w' : World} {b off : Nat} {l : List (ByteArray × ByteArray)} (hb : Below w.heap.size w w') (h : spansAt w b off l) : spansAt w' b off l :=
  fun i hi => ⟨cell_on hb (h i hi).1, cell_on hb (h i hi).2⟩
theorem any_take {l : List (ByteArray × ByteArray)} {f : ByteArray × ByteArray → Bool} {k : Nat} (hk : k < l.length) (h : (l.take k).any f = false) (h2 : f l[k] = false) : (l.take (k + 1)).any f = false := by
  rw [List.take_succ_eq_append_getElem hk, List.any_append, h]; simp [h2]
theorem any_yes {l : List (ByteArray × ByteArray)} {f : ByteArray × ByteArray → Bool} {k : Nat} (hk : k < l.length) (h : f l[k] = true) : l.any f = true := by
  rw [List.any_eq_true]; exact ⟨l[k], List.getElem_mem hk, h⟩
end Go.Proofs.Ytkfpfbkdalbjoaa
