/-
  Rows of one's own whose elements have the same number of cells each: plain facts. Nothing of the program's functions is named here.
-/
import Derived.Test.YtpbhcjkllfonhaaBase
import Derived.Laws.OwnMore
import Derived.Deep.AppendLies
namespace Go.Proofs.Ytpbhcjkllfonhaa
open Go.RowKit Go.Joins

theorem flat_len {α β : Type} (f : α → List β) (k : Nat) (hk : ∀ x, (f x).length = k) (l : List α) : (l.flatMap f).length = l.length * k := by
  induction l with
  | nil => simp
  | cons x l ih => rw [List.flatMap_cons, List.length_append, ih, hk, List.length_cons, Nat.succ_mul]; omega
theorem flat_get {α β : Type} (f : α → List β) (k : Nat) (hk : ∀ x, (f x).length = k) (l : List α) : ∀ (i j : Nat) (hi : i < l.length), j < k → (l.flatMap f)[i * k + j]? = (f l[i])[j]? := by
  induction l with
  | nil => intro i j hi; simp at hi
  | cons x l ih =>
    intro i j hi hj
    rw [List.flatMap_cons]
    match i with
    | 0 => rw [Nat.zero_mul, Nat.zero_add, List.getElem?_append_left (by rw [hk]; exact hj)]; rfl
    | i + 1 =>
      rw [List.getElem?_append_right (by rw [hk, Nat.succ_mul]; omega), hk]
      have e : (i + 1) * k + j - k = i * k + j := by rw [Nat.succ_mul]; omega
      rw [e, ih i j (by simpa using hi) hj]
      rfl
/-- what is owned stays owned where its block is as it was -/
theorem own_block {w w' : World} {B : Nat} {e : TypeId} {size : Nat} {v : Value} {n : Nat} {xs : List Value} (h : w.ownsRow B e size v n xs) (hk : ∀ k, v.ownBlock = some k → w'.heap[k]? = w.heap[k]?) : w'.ownsRow B e size v n xs := by
  obtain ⟨h1, h2⟩ := h
  refine ⟨h1, ?_⟩
  rcases h2 with h2 | ⟨g, cap, cur, hv, hg, hh, r⟩
  · exact .inl h2
  · exact .inr ⟨g, cap, cur, hv, hg, (hk g (by rw [hv]; rfl)).trans hh, r⟩
theorem own_on {w w' : World} {B : Nat} {e : TypeId} {size : Nat} {v : Value} {n : Nat} {xs : List Value} (h : w.ownsRow B e size v n xs) (hb : Below w.heap.size w w') : w'.ownsRow B e size v n xs :=
  own_block h fun k hk => hb.block k (h.lt k hk).2
/-- a row's value: nil, or a block's head -/
theorem own_form {w : World} {B : Nat} {e : TypeId} {size : Nat} {v : Value} {n : Nat} {xs : List Value} (h : w.ownsRow B e size v n xs) :
    (v = .slice none 0 0 ∧ n = 0) ∨ ∃ g cap, v = .slice (some ⟨g, 0, none⟩) n cap ∧ B ≤ g ∧ g < w.heap.size ∧ n ≤ cap ∧ cap ≤ maxLen := by
  rcases h.2 with h2 | ⟨g, cap, cur, hv, hg, hh, h3, h4, _⟩
  · exact .inl h2
  · exact .inr ⟨g, cap, hv, hg, (h.lt g (by rw [hv]; rfl)).2, h3, h4⟩
/-- the cells of an element of a row of one's own -/
theorem own_get {α : Type} {w : World} {B : Nat} {e : TypeId} {k g cap : Nat} {f : α → List Value} (hk : ∀ x, (f x).length = k) {l : List α} (h : w.ownsRow B e k (.slice (some ⟨g, 0, none⟩) l.length cap) l.length (l.flatMap f))
    (i j : Nat) (hi : i < l.length) (hj : j < k) : w.cell? ⟨g, i * k + j, none⟩ = (f l[i])[j]? ∧ w.frozen? ⟨g, i * k + j, none⟩ = false := by
  refine ⟨?_, h.frozenAt _⟩
  rw [h.cellAt (i * k + j) ?_, flat_get f k hk l i j hi hj]
  have : (i + 1) * k ≤ l.length * k := Nat.mul_le_mul_right k (by omega)
  rw [Nat.succ_mul] at this
  omega
theorem flat_set {α β : Type} (f : α → List β) (k : Nat) (hk : ∀ x, (f x).length = k) (l : List α) (y : α) (i j : Nat) (hi : i < l.length) (hj : j < k) (u : β) (hy : f y = (f l[i]).set j u) : (l.flatMap f).set (i * k + j) u = (l.set i y).flatMap f := by
  apply List.ext_getElem?
  intro m
  rcases Nat.lt_or_ge m (l.length * k) with hm | hm
  · have hk0 : 0 < k := by omega
    have hq : m / k < l.length := Nat.div_lt_of_lt_mul (by rw [Nat.mul_comm]; exact hm)
    have hr : m % k < k := Nat.mod_lt _ hk0
    have em : m = m / k * k + m % k := by rw [Nat.mul_comm]; exact (Nat.div_add_mod m k).symm
    rw [List.getElem?_set]
    by_cases e : i * k + j = m
    · have e1 : m / k = i := by
        rw [← e, Nat.mul_comm, Nat.mul_add_div hk0, Nat.div_eq_of_lt hj, Nat.add_zero]
      have e2 : m % k = j := by
        rw [← e, Nat.mul_comm, Nat.mul_add_mod, Nat.mod_eq_of_lt hj]
      rw [if_pos e, if_pos (by rw [flat_len f k hk]; omega), ← e, flat_get f k hk _ i j (by simpa using hi) hj]
      simp [hy, hk, hj]
    · rw [if_neg e]
      conv => lhs; rw [em]
      conv => rhs; rw [em]
      rw [flat_get f k hk l _ _ hq hr, flat_get f k hk _ _ _ (by simpa using hq) hr, List.getElem_set]
      by_cases e1 : i = m / k
      · subst e1
        rw [if_pos rfl, hy, List.getElem?_set]
        have e2 : j ≠ m % k := fun h => e (by rw [h]; exact em.symm)
        rw [if_neg e2]
      · rw [if_neg e1]
  · rw [List.getElem?_eq_none (by rw [List.length_set, flat_len f k hk]; exact hm), List.getElem?_eq_none (by rw [flat_len f k hk, List.length_set]; exact hm)]
end Go.Proofs.Ytpbhcjkllfonhaa
