/-
  haywainlaw.LightSpans of a literal list of two spans.
-/
import Derived.Test.YtcaopggeainpnaaLight
namespace Go.Proofs.Ytcaopggeainpnaa
open Go.RowKit Go.Joins

theorem spansAt_two (w : World) (g : Nat) (a b c d : ByteArray) (t : TypeId) (h : w.heap[g]? = some (.cells #[.string a, .string b, .string c, .string d] t)) : spansAt w g 0 [(a, b), (c, d)] := by
  intro i hi
  have e : i = 0 ∨ i = 1 := by simp at hi; omega
  rcases e with rfl | rfl <;> simp [World.cell?, h]

theorem lightSpans_two (W : World) (a b c d : ByteArray) :
    Calls Try.prog 6 #[.slice (some ⟨W.heap.size, 0, none⟩) 2 2] (W.alloc (.cells #[.string a, .string b, .string c, .string d] 23)) fun e w' => e = .returned (.bool (lightSpans [(a, b), (c, d)])) ∧ Below W.heap.size W w' :=
  (lightSpans_some [(a, b), (c, d)] W.heap.size 0 2 _ (spansAt_two _ _ a b c d 23 (Go.heap_alloc_new _ _)) (by simp [maxLen])).mono fun _ _ h => ⟨h.1, by rw [h.2]; exact below_alloc1 _ _⟩
end Go.Proofs.Ytcaopggeainpnaa
