/-
  Plain facts of haywaintop.TopRead: rows of a span, and what is read of it, of rows that rise.
-/
import Derived.Test.YtjphbmdmnicjpacViewScan
import Derived.Test.YtjphbmdmnicjpacVerGood
namespace Go.Proofs.Ytjphbmdmnicjpac
open Go.RowKit Go.Joins

theorem rise_pair {l : List (ByteArray × ByteArray)} (h : riseA l) : l.Pairwise fun a b => ltS a.1 b.1 = true := by
  rw [List.pairwise_iff_getElem]
  intro i j hi hj hij
  have step : ∀ d i (hi : i < l.length) (hj : i + d + 1 < l.length), ltS l[i].1 l[i + d + 1].1 = true := by
    intro d
    induction d with
    | zero =>
      intro i hi hj
      have := h (i + 1) hj i hi rfl
      rw [leS_not] at this
      simpa using this
    | succ d ih =>
      intro i hi hj
      have h1 := ih i hi (by omega)
      have h2 := h (i + d + 1 + 1) (by omega) (i + d + 1) (by omega) rfl
      rw [leS_not] at h2
      have h3 : ltS l[i + d + 1].1 l[i + d + 1 + 1].1 = true := by simpa using h2
      exact ltS_trans h1 h3
  have := step (j - i - 1) i hi (by omega)
  have e : i + (j - i - 1) + 1 = j := by omega
  simp only [e] at this
  exact this
theorem key_once {l : List (ByteArray × ByteArray)} (hp : l.Pairwise fun a b => ltS a.1 b.1 = true) {a b : ByteArray × ByteArray} (ha : a ∈ l) (hb : b ∈ l) (e : a.1 = b.1) : a = b := by
  obtain ⟨i, hi, rfl⟩ := List.getElem_of_mem ha
  obtain ⟨j, hj, rfl⟩ := List.getElem_of_mem hb
  rcases Nat.lt_trichotomy i j with h | h | h
  · have := List.pairwise_iff_getElem.1 hp i j hi hj h
    rw [e, ltS_irrefl] at this; cases this
  · subst h; rfl
  · have := List.pairwise_iff_getElem.1 hp j i hj hi h
    rw [e, ltS_irrefl] at this; cases this
theorem upto_has (k x : ByteArray) : hasS ⟨#[]⟩ (zeroS k) x = leS x k := by
  have h1 : leS ⟨#[]⟩ x = true := by
    rw [leS_not]
    have : ltS x ⟨#[]⟩ = false := ltS_nil x
    rw [this]; rfl
  unfold hasS
  rw [h1, zeroS_nil, ltS_zero]
  rfl
theorem initR_mem : ∀ (l : List (ByteArray × ByteArray)), (l.Pairwise fun a b => ltS a.1 b.1 = true) → ∀ key : ByteArray, (∃ v, (key, v) ∈ l ∧ initR l key = [⟨0, v, false⟩]) ∨ ((∀ v, (key, v) ∉ l) ∧ initR l key = []) := by
  have aux : ∀ (l : List (ByteArray × ByteArray)), (l.Pairwise fun a b => ltS a.1 b.1 = true) → ∀ (R : ByteArray → List Ver) (key : ByteArray), (∃ v, (key, v) ∈ l ∧ (l.foldl (fun R r => putG R r.1 [⟨0, r.2, false⟩]) R) key = [⟨0, v, false⟩]) ∨ ((∀ v, (key, v) ∉ l) ∧ (l.foldl (fun R r => putG R r.1 [⟨0, r.2, false⟩]) R) key = R key) := by
    intro l
    induction l with
    | nil => intro _ R key; exact .inr ⟨by simp, rfl⟩
    | cons r l ih =>
      intro hp R key
      rw [List.pairwise_cons] at hp
      rcases ih hp.2 (putG R r.1 [⟨0, r.2, false⟩]) key with ⟨v, h1, h2⟩ | ⟨h1, h2⟩
      · exact .inl ⟨v, List.mem_cons_of_mem _ h1, h2⟩
      · by_cases e : key = r.1
        · subst e
          exact .inl ⟨r.2, by simp, by rw [List.foldl_cons, h2, putG_same]⟩
        · refine .inr ⟨fun v hv => ?_, by rw [List.foldl_cons, h2, putG_other _ _ e]⟩
          rcases List.mem_cons.1 hv with e2 | e2
          · exact e (by rw [← e2])
          · exact h1 v e2
  exact fun l hp key => aux l hp _ key
theorem told_init {l : List (ByteArray × ByteArray)} (hp : l.Pairwise fun a b => ltS a.1 b.1 = true) (hk : ∀ r ∈ l, r.1.size ≤ 1000) (s r : ByteArray × ByteArray) : told (initR l) 0 s r ↔ r ∈ l.filter fun r => hasS s.1 s.2 r.1 := by
  rw [List.mem_filter]
  unfold told
  constructor
  · rintro ⟨_, h2, h3⟩
    rcases initR_mem l hp r.1 with ⟨v, h, e⟩ | ⟨_, e⟩
    · rw [e] at h3
      have : v = r.2 := by simpa [behindV, lastV] using h3
      subst this
      exact ⟨h, h2⟩
    · rw [e] at h3; simp [behindV, lastV] at h3
  · rintro ⟨h, h2⟩
    refine ⟨by have := hk r h; unfold maxLen; omega, h2, ?_⟩
    rcases initR_mem l hp r.1 with ⟨v, h', e⟩ | ⟨hno, _⟩
    · have : v = r.2 := congrArg Prod.snd (key_once hp h' h rfl)
      rw [e, this]
      rfl
    · exact absurd h (hno r.2)
/-- the rows of a span -/
def inS (l : List (ByteArray × ByteArray)) (s : ByteArray × ByteArray) : List (ByteArray × ByteArray) := l.filter fun r => hasS s.1 s.2 r.1
theorem seen_rows {l : List (ByteArray × ByteArray)} (hp : l.Pairwise fun a b => ltS a.1 b.1 = true) (hk : ∀ r ∈ l, r.1.size ≤ 1000) {s : ByteArray × ByteArray} {F : List (ByteArray × ByteArray)} (hF : F.Pairwise fun a b => ltS a.1 b.1 = true) (hm : ∀ r, r ∈ F ↔ told (initR l) 0 s r) : F = inS l s :=
  rows_eq hF (hp.filter _) fun r => (hm r).trans (told_init hp hk s r)
/-- what is read is just what is told -/
theorem read_told {l : List (ByteArray × ByteArray)} (hp : l.Pairwise fun a b => ltS a.1 b.1 = true) (s : ByteArray × ByteArray) {m : Nat} (hm : 1 ≤ m) {r : ByteArray × ByteArray} (hr : r ∈ l) : hasS (rdS (inS l s) s m).1 (rdS (inS l s) s m).2 r.1 = true ↔ r ∈ (inS l s).take m := by
  have hF : (inS l s).Pairwise fun a b => ltS a.1 b.1 = true := hp.filter _
  have hmem : ∀ r, r ∈ l → (r ∈ inS l s ↔ hasS s.1 s.2 r.1 = true) := fun r h => by unfold inS; rw [List.mem_filter]; exact ⟨fun h => h.2, fun h' => ⟨h, h'⟩⟩
  unfold rdS
  by_cases h : m ≤ (inS l s).length
  · have h1 : m - 1 < (inS l s).length := by omega
    rw [if_pos h, List.getElem?_eq_getElem h1]
    show hasS (Lib.maxS s.1 ⟨#[]⟩) (endS s.2 (zeroS (inS l s)[m - 1].1)) r.1 = true ↔ _
    rw [has_both, Bool.and_eq_true]
    have h2 : hasS ⟨#[]⟩ (zeroS (inS l s)[m - 1].1) r.1 = leS r.1 (inS l s)[m - 1].1 := upto_has _ _
    rw [h2, ← hmem r hr]
    constructor
    · rintro ⟨h3, h4⟩
      obtain ⟨i, hi, e⟩ := List.getElem_of_mem h3
      rcases Nat.lt_or_ge i m with h5 | h5
      · rw [List.mem_take_iff_getElem]
        exact ⟨i, by omega, e⟩
      · have h6 := List.pairwise_iff_getElem.1 hF (m - 1) i h1 hi (by omega)
        rw [e] at h6
        rw [leS_not, h6] at h4
        cases h4
    · intro h3
      refine ⟨List.mem_of_mem_take h3, ?_⟩
      rw [List.mem_take_iff_getElem] at h3
      obtain ⟨i, hi, e⟩ := h3
      rcases Nat.lt_or_ge i (m - 1) with h5 | h5
      · have h6 := List.pairwise_iff_getElem.1 hF i (m - 1) (by omega) h1 h5
        rw [e] at h6
        exact (leS_iff _ _).2 (.inl h6)
      · have e2 : i = m - 1 := by omega
        subst e2
        exact (leS_iff _ _).2 (.inr (by rw [e]))
  · rw [if_neg h, List.take_of_length_le (by omega)]
    exact (hmem r hr).symm
end Go.Proofs.Ytjphbmdmnicjpac
