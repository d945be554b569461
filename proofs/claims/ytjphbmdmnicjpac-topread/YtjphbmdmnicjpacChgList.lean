/-
  Changes as a list of cells, and as they lie in memory: from the one to the other.
-/
import Derived.Test.YtjphbmdmnicjpacChgGrow
namespace Go.Proofs.Ytjphbmdmnicjpac
open Go.RowKit Go.Joins Go.WideShapes

def cellsC (c : Chg) : List Value := [.string c.key, .string c.val, .bool c.gone]
def cellsL (l : List Chg) : List Value := l.flatMap cellsC
theorem cellsL_length (l : List Chg) : (cellsL l).length = l.length * 3 := by
  induction l with
  | nil => rfl
  | cons c l ih => rw [cellsL, List.flatMap_cons, List.length_append]; show 3 + (cellsL l).length = _; rw [ih, List.length_cons]; omega
theorem cellsL_append (a b : List Chg) : cellsL (a ++ b) = cellsL a ++ cellsL b := by simp [cellsL]
theorem cellsL_one (l : List Chg) : ∀ u ∈ cellsL l, u.oneCell' = true := by
  intro u hu
  rw [cellsL, List.mem_flatMap] at hu
  obtain ⟨c, _, hc⟩ := hu
  simp only [cellsC, List.mem_cons, List.not_mem_nil, or_false] at hc
  rcases hc with rfl | rfl | rfl <;> rfl
theorem cells_of_chgs {w : World} {b : Nat} (l : List Chg) : ∀ (off : Nat), chgsAt w b off l → ∀ j u, (cellsL l)[j]? = some u → w.cell? ⟨b, off + j, none⟩ = some u := by
  induction l with
  | nil => intro off _ j u h; simp [cellsL] at h
  | cons c l ih =>
    intro off h j u hu
    have h0 := h 0 (by simp)
    simp only [Nat.zero_mul, Nat.add_zero, List.getElem_cons_zero] at h0
    have ht : chgsAt w b (off + 3) l := fun i hi => by
      have := h (i + 1) (by simp; omega)
      simp only [List.getElem_cons_succ] at this
      have e : off + (i + 1) * 3 = off + 3 + i * 3 := by omega
      rw [e] at this
      exact this
    rw [cellsL, List.flatMap_cons] at hu
    match j, hu with
    | 0, hu => simp [cellsC] at hu; rw [← hu]; exact h0.1
    | 1, hu => simp [cellsC] at hu; rw [← hu]; exact h0.2.1
    | 2, hu => simp [cellsC] at hu; rw [← hu]; exact h0.2.2
    | j + 3, hu =>
      rw [List.getElem?_append_right (by simp [cellsC])] at hu
      simp only [cellsC, List.length_cons, List.length_nil, Nat.zero_add, Nat.reduceAdd, Nat.add_sub_cancel] at hu
      have := ih (off + 3) ht j u hu
      have e : off + 3 + j = off + (j + 3) := by omega
      rw [e] at this
      exact this
theorem chgs_of_cells {w : World} {b : Nat} (l : List Chg) : ∀ (off : Nat), (∀ j u, (cellsL l)[j]? = some u → w.cell? ⟨b, off + j, none⟩ = some u) → chgsAt w b off l := by
  induction l with
  | nil => intro off _ i hi; simp at hi
  | cons c l ih =>
    intro off h i hi
    have g : ∀ j u, (cellsC c ++ cellsL l)[j]? = some u → w.cell? ⟨b, off + j, none⟩ = some u := fun j u hu => h j u (by rw [cellsL, List.flatMap_cons]; exact hu)
    match i with
    | 0 =>
      simp only [Nat.zero_mul, Nat.add_zero, List.getElem_cons_zero]
      exact ⟨g 0 _ rfl, g 1 _ rfl, g 2 _ rfl⟩
    | i + 1 =>
      have t := ih (off + 3) (fun j u hu => by
        have := g (j + 3) u (by rw [List.getElem?_append_right (by simp [cellsC])]; simpa [cellsC] using hu)
        have e : off + (j + 3) = off + 3 + j := by omega
        rw [e] at this
        exact this) i (by simpa using hi)
      have e : off + (i + 1) * 3 = off + 3 + i * 3 := by omega
      rw [e]
      exact t
theorem chgsAt_take {w : World} {b off : Nat} {l : List Chg} (h : chgsAt w b off l) (k : Nat) : chgsAt w b off (l.take k) := fun i hi => by
  have hi' : i < l.length := by rw [List.length_take] at hi; omega
  have := h i hi'
  simpa using this
theorem chgsAt_drop {w : World} {b off : Nat} {l : List Chg} (h : chgsAt w b off l) (k : Nat) : chgsAt w b (off + k * 3) (l.drop k) := fun i hi => by
  have hi' : k + i < l.length := by rw [List.length_drop] at hi; omega
  have := h (k + i) hi'
  have e : off + (k + i) * 3 = off + k * 3 + i * 3 := by omega
  rw [e] at this
  simpa using this
theorem src_of {w : World} {b off : Nat} {l : List Chg} (h : chgsAt w b off l) (c : Nat) : chSrc w (some ⟨b, off, none⟩) l.length c (cellsL l) :=
  ⟨cellsL_length l, cellsL_one l, Or.inr ⟨_, rfl, fun j u hj => by rw [add_plain]; exact cells_of_chgs l off h j u hj⟩⟩
theorem src_none (w : World) : chSrc w none 0 0 (cellsL []) := ⟨rfl, cellsL_one [], Or.inl ⟨rfl, rfl, rfl⟩⟩
theorem src_empty (w : World) (a : Addr) (c : Nat) : chSrc w (some a) 0 c (cellsL []) := ⟨rfl, cellsL_one [], Or.inr ⟨a, rfl, fun j u hj => by simp [cellsL] at hj⟩⟩
/-- a value that owns these changes, in a block from B on -/
def ownCh (w : World) (B : Nat) (v : Value) (l : List Chg) : Prop := w.ownsRow B 29 3 v l.length (cellsL l)
theorem ownCh_le {w : World} {B B' : Nat} {v : Value} {l : List Chg} (h : ownCh w B v l) (hb : B' ≤ B) : ownCh w B' v l := ownsRow_le h hb
/-- a row of one's own that isn't empty -/
theorem own_chgs {w : World} {B : Nat} {v : Value} {l : List Chg} (h : w.ownsRow B 29 3 v l.length (cellsL l)) (hn : 0 < l.length) :
    ∃ g cap, v = .slice (some ⟨g, 0, none⟩) l.length cap ∧ B ≤ g ∧ chgsAt w g 0 l := by
  obtain ⟨g, cap, rfl⟩ := ownsRow_form h hn
  refine ⟨g, cap, rfl, (h.lt g rfl).1, chgs_of_cells l 0 fun j u hj => ?_⟩
  have := h.cells (g := g) rfl j u hj
  rwa [add_plain] at this
end Go.Proofs.Ytjphbmdmnicjpac
