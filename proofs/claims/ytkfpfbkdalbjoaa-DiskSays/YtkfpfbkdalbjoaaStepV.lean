/-
  An act on blocks of one's own: what lies elsewhere is as it was.
-/
import Derived.Test.YtkfpfbkdalbjoaaBase
namespace Go.Proofs.Ytkfpfbkdalbjoaa
open Go.RowKit Go.Joins

/-- all else is left alone -/
structure StepV (w w' : World) (B : Nat) (S S' : Nat → Prop) : Prop where
  bel : Below B w w'
  far : ∀ j, j < w.heap.size → ¬ S j → w'.heap[j]? = w.heap[j]? ∧ ¬ S' j
theorem StepV.trans {w w1 w2 : World} {B : Nat} {S S1 S2 : Nat → Prop} (h : StepV w w1 B S S1) (h' : StepV w1 w2 B S1 S2) : StepV w w2 B S S2 :=
  ⟨h.bel.trans h'.bel, fun j hj hn => by
    obtain ⟨a, b⟩ := h.far j hj hn
    obtain ⟨c, d⟩ := h'.far j (Nat.lt_of_lt_of_le hj h.bel.size) b
    exact ⟨c.trans a, d⟩⟩
theorem StepV.on {w w' : World} {B : Nat} {S : Nat → Prop} (hB : B ≤ w.heap.size) (hb : Below w.heap.size w w') : StepV w w' B S S := ⟨hb.mono hB, fun j hj hn => ⟨hb.block j hj, hn⟩⟩
theorem StepV.refl {w : World} {B : Nat} {S : Nat → Prop} (hB : B ≤ w.heap.size) : StepV w w B S S := .on hB (Below.refl _ _)
end Go.Proofs.Ytkfpfbkdalbjoaa
