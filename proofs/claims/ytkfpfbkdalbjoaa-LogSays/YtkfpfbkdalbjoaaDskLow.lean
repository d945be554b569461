/-
  A disk above a lower bound.
-/
import Derived.Test.YtkfpfbkdalbjoaaDskL
namespace Go.Proofs.Ytkfpfbkdalbjoaa
open Go.RowKit Go.Joins

theorem ownsRow_low {w : World} {B B' : Nat} {e : TypeId} {z : Nat} {v : Value} {n : Nat} {xs : List Value} (h : w.ownsRow B e z v n xs) (hB : B' ≤ B) : w.ownsRow B' e z v n xs := by
  refine ⟨h.1, ?_⟩
  rcases h.2 with e | ⟨g, cap, cur, rfl, h1, h2⟩
  · exact .inl e
  · exact .inr ⟨g, cap, cur, rfl, Nat.le_trans hB h1, h2⟩
theorem DK.lower {w : World} {B B' db : Nat} {S : Nat → Prop} {s : DSt} (h : DK w B db S s) (hB : B' ≤ B) : DK w B' db S s := by
  obtain ⟨nb, kb, lb, n, lv, loose, L, h1, h2, h3, h4, h5, h6, h7⟩ := h
  exact ⟨nb, kb, lb, n, lv, loose, L, h1, { h2 with own := fun i hi hi' => ⟨ownsRow_low (h2.own i hi hi').1 hB, (h2.own i hi hi').2⟩, lo := ⟨Nat.le_trans hB h2.lo.1, Nat.le_trans hB h2.lo.2.1, Nat.le_trans hB h2.lo.2.2.1, Nat.le_trans hB h2.lo.2.2.2⟩ }, h3, h4, h5, h6, Nat.le_trans hB h7⟩
end Go.Proofs.Ytkfpfbkdalbjoaa
