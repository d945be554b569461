/-
  Four cells of a block set: what lies there then.
-/
import Derived.Test.YtighpalbodhfeaaGreatDoorQueOwn
namespace Go.Proofs.YtighpalbodhfeaaGreatDoor
open Go.RowKit Go.Joins Go.Shelf

theorem set4 (w : World) (mb : Nat) (a b c d : Value) {z0 z1 z2 z3 : Value} (h0 : w.cell? ⟨mb, 0, none⟩ = some z0) (h1 : w.cell? ⟨mb, 1, none⟩ = some z1) (h2 : w.cell? ⟨mb, 2, none⟩ = some z2) (h3 : w.cell? ⟨mb, 3, none⟩ = some z3) :
    ((((w.setCell ⟨mb, 0, none⟩ a).setCell ⟨mb, 1, none⟩ b).setCell ⟨mb, 2, none⟩ c).setCell ⟨mb, 3, none⟩ d).cell? ⟨mb, 0, none⟩ = some a ∧ ((((w.setCell ⟨mb, 0, none⟩ a).setCell ⟨mb, 1, none⟩ b).setCell ⟨mb, 2, none⟩ c).setCell ⟨mb, 3, none⟩ d).cell? ⟨mb, 1, none⟩ = some b ∧ ((((w.setCell ⟨mb, 0, none⟩ a).setCell ⟨mb, 1, none⟩ b).setCell ⟨mb, 2, none⟩ c).setCell ⟨mb, 3, none⟩ d).cell? ⟨mb, 2, none⟩ = some c ∧ ((((w.setCell ⟨mb, 0, none⟩ a).setCell ⟨mb, 1, none⟩ b).setCell ⟨mb, 2, none⟩ c).setCell ⟨mb, 3, none⟩ d).cell? ⟨mb, 3, none⟩ = some d ∧ ∀ k, k ≠ mb → ((((w.setCell ⟨mb, 0, none⟩ a).setCell ⟨mb, 1, none⟩ b).setCell ⟨mb, 2, none⟩ c).setCell ⟨mb, 3, none⟩ d).heap[k]? = w.heap[k]? := by
  have ot : ∀ (W : World) (i j : Nat) (v : Value), i ≠ j → (W.setCell ⟨mb, i, none⟩ v).cell? ⟨mb, j, none⟩ = W.cell? ⟨mb, j, none⟩ := fun W i j v hij => World.cell?_setCell_other _ _ _ _ (fun e => hij (congrArg Addr.off e))
  have st : ∀ (W : World) (j : Nat) (v : Value) (x : Nat), x ≠ mb → (W.setCell ⟨mb, j, none⟩ v).heap[x]? = W.heap[x]? := fun W j v x hx => Below.heap_setCell _ _ _ _ hx
  refine ⟨?_, ?_, ?_, ?_, fun k hk => ?_⟩
  · rw [ot _ 3 0 _ (by omega), ot _ 2 0 _ (by omega), ot _ 1 0 _ (by omega)]; exact World.cell?_setCell_same _ _ _ h0
  · rw [ot _ 3 1 _ (by omega), ot _ 2 1 _ (by omega)]; exact World.cell?_setCell_same _ _ _ ((ot _ 0 1 _ (by omega)).trans h1)
  · rw [ot _ 3 2 _ (by omega)]; exact World.cell?_setCell_same _ _ _ ((ot _ 1 2 _ (by omega)).trans ((ot _ 0 2 _ (by omega)).trans h2))
  · exact World.cell?_setCell_same _ _ _ ((ot _ 2 3 _ (by omega)).trans ((ot _ 1 3 _ (by omega)).trans ((ot _ 0 3 _ (by omega)).trans h3)))
  · rw [st _ _ _ _ hk, st _ _ _ _ hk, st _ _ _ _ hk, st _ _ _ _ hk]
end Go.Proofs.YtighpalbodhfeaaGreatDoor
