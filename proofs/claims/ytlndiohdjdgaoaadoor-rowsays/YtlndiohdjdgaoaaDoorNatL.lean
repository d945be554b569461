/-
  Plain facts on numbers and words in texts. Nothing of the program is named here.
-/
import Derived.Test.YtlndiohdjdgaoaaDoorDecL
namespace Go.Proofs.YtlndiohdjdgaoaaDoor

def valL (l : List UInt8) : Nat := l.foldl (fun a c => 10 * a + (c.toNat - 48)) 0
theorem valL_snoc (l : List UInt8) (c : UInt8) : valL (l ++ [c]) = 10 * valL l + (c.toNat - 48) := by simp [valL]
theorem dig_back {c : UInt8} (h : isDig c = true) : UInt8.ofNat (48 + (c.toNat - 48)) = c ∧ c.toNat - 48 < 10 := by
  simp only [isDig, Bool.and_eq_true, decide_eq_true_eq] at h
  refine ⟨?_, by omega⟩
  rw [show 48 + (c.toNat - 48) = c.toNat by omega]
  simp
theorem dec_head (n : Nat) : 1 ≤ n → (Lib.decDigits n).head? ≠ some 48 := by
  induction n using Nat.strongRecOn with
  | _ n ih =>
    intro h
    by_cases h10 : n < 10
    · rw [Lib.decDigits_one h10]
      simp
      intro e
      have := congrArg UInt8.toNat e
      simp at this
      omega
    · rw [Lib.decDigits, dif_neg h10, List.head?_append]
      have := ih (n / 10) (by omega) (by omega)
      have hne := dec_ne (n / 10)
      cases hd : Lib.decDigits (n / 10) with
      | nil => exact absurd hd hne
      | cons a r => rw [hd] at this; simpa using this
theorem valL_dec (n : Nat) : valL (Lib.decDigits n) = n := by
  induction n using Nat.strongRecOn with
  | _ n ih =>
    by_cases h10 : n < 10
    · rw [Lib.decDigits_one h10]
      simp [valL]
      omega
    · rw [Lib.decDigits, dif_neg h10, valL_snoc, ih (n / 10) (by omega)]
      simp
      omega
theorem dec_valL : ∀ (k : Nat) (l : List UInt8), l.length = k → l ≠ [] → (∀ c ∈ l, isDig c = true) → (l.head? = some 48 → l.length = 1) → Lib.decDigits (valL l) = l := by
  intro k
  induction k using Nat.strongRecOn with
  | _ k ih =>
    intro l hk hne hd h0
    obtain ⟨l', c, rfl⟩ : ∃ l' c, l = l' ++ [c] := ⟨l.dropLast, l.getLast hne, (List.dropLast_concat_getLast hne).symm⟩
    obtain ⟨hc, hc10⟩ := dig_back (hd c (by simp))
    rw [valL_snoc]
    by_cases he : l' = []
    · subst he
      simp only [valL, List.foldl_nil, Nat.mul_zero, Nat.zero_add]
      rw [Lib.decDigits_one hc10, hc]
      rfl
    · have hh : l'.head? ≠ some 48 := fun e => by
        have : (l' ++ [c]).head? = some 48 := by rw [List.head?_append, e]; rfl
        have := h0 this
        simp at this
        exact he this
      have hi := ih l'.length (by simp at hk; omega) l' rfl he (fun x hx => hd x (by simp [hx])) (fun e => absurd e hh)
      have hv : 1 ≤ valL l' := by
        rcases Nat.eq_zero_or_pos (valL l') with e | e
        · rw [e, Lib.decDigits_one (by omega)] at hi
          rw [← hi] at hh
          exact absurd rfl hh
        · exact e
      rw [Lib.decDigits, dif_neg (by omega)]
      rw [show (10 * valL l' + (c.toNat - 48)) / 10 = valL l' by omega, show (10 * valL l' + (c.toNat - 48)) % 10 = c.toNat - 48 by omega, hi, hc]
/-- a number up to most, or none -/
def natR (l : List UInt8) (most : Nat) (r : Int) : Prop := (∃ n : Nat, n ≤ most ∧ l = Lib.decDigits n ∧ r = n) ∨ (r = -1 ∧ ∀ n : Nat, n ≤ most → l ≠ Lib.decDigits n)
theorem valL_lt (l : List UInt8) (h : ∀ c ∈ l, isDig c = true) : valL l < 10 ^ l.length := by
  have : ∀ (k : Nat) (l : List UInt8), l.length = k → (∀ c ∈ l, isDig c = true) → valL l < 10 ^ l.length := by
    intro k
    induction k with
    | zero => intro l hk _; rw [List.length_eq_zero_iff.1 hk]; simp [valL]
    | succ k ih =>
      intro l hk hd
      have hne : l ≠ [] := fun e => by rw [e] at hk; cases hk
      obtain ⟨l', c, rfl⟩ : ∃ l' c, l = l' ++ [c] := ⟨l.dropLast, l.getLast hne, (List.dropLast_concat_getLast hne).symm⟩
      have h1 := ih l' (by simpa using hk) (fun x hx => hd x (by simp [hx]))
      obtain ⟨_, h2⟩ := dig_back (hd c (by simp))
      rw [valL_snoc, List.length_append, List.length_singleton, Nat.pow_succ]
      omega
  exact this _ l rfl h

/-- words of a text, at most so many -/
def wordsR (s : ByteArray) (most : Nat) (out : List ByteArray) (rest : ByteArray) : Prop :=
  s.data.toList = (out.map fun x => x.data.toList ++ [32]).flatten ++ rest.data.toList ∧ (∀ x ∈ out, ∀ c ∈ x.data.toList, c ≠ 32) ∧ ((∀ c ∈ rest.data.toList, c ≠ 32) ∨ out.length + 1 = most) ∧ out.length + 1 ≤ most
end Go.Proofs.YtlndiohdjdgaoaaDoor
