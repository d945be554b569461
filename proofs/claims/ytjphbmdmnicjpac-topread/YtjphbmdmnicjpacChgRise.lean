/-
  Plain facts of changes put among others: they rise, the one put is found, the last put of a key stays, and puts of unlike keys may change places. Nothing of the program is named here.
-/
import Derived.Test.YtjphbmdmnicjpacChgMem
namespace Go.Proofs.Ytjphbmdmnicjpac
open Go.RowKit Go.Joins

def insL : List Chg → Chg → List Chg
  | [], c => [c]
  | x :: l, c => if ltS x.key c.key then x :: insL l c else if eqS x.key c.key then c :: l else c :: x :: l
theorem placeL_cons (x : Chg) (l : List Chg) (key : ByteArray) : placeL (x :: l) key = if ltS x.key key then placeL l key + 1 else 0 := by
  unfold placeL
  rw [List.findIdx_cons]
  cases ltS x.key key <;> rfl
theorem foundL_cons (x : Chg) (l : List Chg) (key : ByteArray) : foundL (x :: l) key = if ltS x.key key then foundL l key else eqS x.key key := by
  unfold foundL
  rw [placeL_cons]
  cases ltS x.key key <;> simp
theorem putL_ins (l : List Chg) (c : Chg) : putL l c = insL l c := by
  induction l with
  | nil => rfl
  | cons x l ih =>
    unfold putL at *
    rw [insL, placeL_cons, foundL_cons]
    cases h : ltS x.key c.key
    · cases h2 : eqS x.key c.key <;> simp
    · simp only [if_true]
      rw [← ih]
      cases foundL l c.key <;> simp
theorem ins_length (l : List Chg) (c : Chg) : (insL l c).length ≤ l.length + 1 := by
  induction l with
  | nil => simp [insL]
  | cons x l ih => unfold insL; split <;> (try split) <;> simp <;> omega
theorem ins_some (l : List Chg) (c : Chg) : 0 < (insL l c).length := by
  cases l with
  | nil => simp [insL]
  | cons x l => unfold insL; split <;> (try split) <;> simp
theorem ins_mem {l : List Chg} {c y : Chg} (h : y ∈ insL l c) : y = c ∨ y ∈ l := by
  induction l with
  | nil => simpa [insL] using h
  | cons x l ih =>
    unfold insL at h
    split at h
    · rcases List.mem_cons.1 h with h | h
      · right; simp [h]
      · rcases ih h with h | h
        · left; exact h
        · right; simp [h]
    · split at h
      · rcases List.mem_cons.1 h with h | h
        · left; exact h
        · right; simp [h]
      · rcases List.mem_cons.1 h with h | h
        · left; exact h
        · right; exact h

def rises (l : List Chg) : Prop := l.Pairwise fun a b => ltS a.key b.key = true
theorem ins_rises {l : List Chg} (c : Chg) (h : rises l) : rises (insL l c) := by
  induction l with
  | nil => simp [rises, insL]
  | cons x l ih =>
    unfold rises at *
    obtain ⟨h1, h2⟩ := List.pairwise_cons.1 h
    unfold insL
    split
    · rename_i hx
      refine List.pairwise_cons.2 ⟨fun y hy => ?_, ih h2⟩
      rcases ins_mem hy with rfl | hy
      · exact hx
      · exact h1 y hy
    · rename_i hx
      split
      · rename_i he
        have e := (eqS_iff _ _).1 he
        exact List.pairwise_cons.2 ⟨fun y hy => e ▸ h1 y hy, h2⟩
      · rename_i he
        have k : ltS c.key x.key = true := by
          rcases ltS_total x.key c.key with k | k | k
          · exact absurd k hx
          · exact absurd ((eqS_iff _ _).2 k) he
          · exact k
        refine List.pairwise_cons.2 ⟨fun y hy => ?_, h⟩
        rcases List.mem_cons.1 hy with rfl | hy
        · exact k
        · exact ltS_trans k (h1 y hy)
theorem rises_at {l : List Chg} (h : rises l) {i : Nat} (hi : i + 1 < l.length) : leS l[i + 1].key l[i].key = false := by
  have := List.pairwise_iff_getElem.1 h i (i + 1) (by omega) hi (by omega)
  rw [leS_not, this]; rfl
theorem ins_found (l : List Chg) (c : Chg) : foundL (insL l c) c.key = true ∧ (insL l c)[placeL (insL l c) c.key]? = some c := by
  induction l with
  | nil => simp [insL, foundL_cons, placeL_cons, ltS_irrefl, eqS_refl]
  | cons x l ih =>
    unfold insL
    split
    · rename_i hx
      rw [foundL_cons, placeL_cons, hx]
      simpa using ih
    · split
      · simp [foundL_cons, placeL_cons, ltS_irrefl, eqS_refl]
      · simp [foundL_cons, placeL_cons, ltS_irrefl, eqS_refl]
theorem keys_three (p q : ByteArray) : (ltS p q = true ∧ eqS p q = false ∧ ltS q p = false ∧ eqS q p = false) ∨ p = q ∨ (ltS p q = false ∧ eqS p q = false ∧ ltS q p = true ∧ eqS q p = false) := by
  rcases ltS_total p q with h | h | h
  · left; exact ⟨h, eqS_lt h, ltS_asymm h, (eqS_comm q p).trans (eqS_lt h)⟩
  · right; left; exact h
  · right; right; exact ⟨ltS_asymm h, (eqS_comm p q).trans (eqS_lt h), h, eqS_lt h⟩
theorem ins_same {a b : Chg} (h : a.key = b.key) (l : List Chg) : insL (insL l a) b = insL l b := by
  induction l with
  | nil => simp [insL, h, ltS_irrefl, eqS_refl]
  | cons x l ih =>
    rcases keys_three x.key b.key with ⟨h1, h2, h3, h4⟩ | h1 | ⟨h1, h2, h3, h4⟩
    · simp [insL, h, h1, ih]
    · simp [insL, h, h1, ltS_irrefl, eqS_refl]
    · simp [insL, h, h1, h2, ltS_irrefl, eqS_refl]
theorem ins_swap {a b : Chg} (h : a.key ≠ b.key) (l : List Chg) : insL (insL l a) b = insL (insL l b) a := by
  induction l with
  | nil =>
    rcases keys_three a.key b.key with ⟨h1, h2, h3, h4⟩ | h1 | ⟨h1, h2, h3, h4⟩
    · simp [insL, h1, h3, h4]
    · exact absurd h1 h
    · simp [insL, h1, h2, h3]
  | cons x l ih =>
    rcases keys_three x.key a.key with ⟨a1, a2, a3, a4⟩ | a1 | ⟨a1, a2, a3, a4⟩ <;> rcases keys_three x.key b.key with ⟨b1, b2, b3, b4⟩ | b1 | ⟨b1, b2, b3, b4⟩
    · simp [insL, a1, b1, ih]
    · have k : ltS b.key a.key = true := b1 ▸ a1
      simp [insL, b1, k, ltS_irrefl, eqS_refl]
    · have k : ltS b.key a.key = true := ltS_trans b3 a1
      simp [insL, a1, b1, b2, k]
    · have k : ltS a.key b.key = true := a1 ▸ b1
      simp [insL, a1, k, ltS_irrefl, eqS_refl]
    · exact absurd (a1.symm.trans b1) h
    · have k : ltS b.key a.key = true := a1 ▸ b3
      have k2 : ltS a.key b.key = false := a1 ▸ b1
      have k3 : eqS a.key b.key = false := a1 ▸ b2
      simp [insL, a1, k, k2, k3, ltS_irrefl, eqS_refl]
    · have k : ltS a.key b.key = true := ltS_trans a3 b1
      simp [insL, a1, a2, b1, k]
    · have k : ltS a.key b.key = true := b1 ▸ a3
      have k2 : ltS b.key a.key = false := b1 ▸ a1
      have k3 : eqS b.key a.key = false := b1 ▸ a2
      simp [insL, b1, k, k2, k3, ltS_irrefl, eqS_refl]
    · rcases keys_three a.key b.key with ⟨h1, h2, h3, h4⟩ | h1 | ⟨h1, h2, h3, h4⟩
      · simp [insL, a1, a2, b1, b2, h1, h3, h4]
      · exact absurd h1 h
      · simp [insL, a1, a2, b1, b2, h1, h2, h3]
end Go.Proofs.Ytjphbmdmnicjpac
