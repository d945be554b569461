/-
  Plain facts on keys of rows: six digits of a number, the rows of a table, a queue, a message, and their order. Nothing of the program is named here.
-/
import Derived.Test.YtpbhcjkllfonhaaGreatChgFind
import Derived.Lib.ItoaNum
import Derived.Lib.IndexLaws
namespace Go.Proofs.YtpbhcjkllfonhaaGreat

def dgt (n i : Nat) : UInt8 := UInt8.ofNat (48 + n / 10 ^ i % 10)
def six (n : Nat) : List UInt8 := [dgt n 5, dgt n 4, dgt n 3, dgt n 2, dgt n 1, dgt n 0]
theorem dgt_toNat (n i : Nat) : (dgt n i).toNat = 48 + n / 10 ^ i % 10 := by
  have : n / 10 ^ i % 10 < 10 := Nat.mod_lt _ (by omega)
  simp [dgt]; omega
theorem dgt_dig (n i : Nat) : isDig (dgt n i) = true := by
  have : n / 10 ^ i % 10 < 10 := Nat.mod_lt _ (by omega)
  simp only [isDig, dgt_toNat, Bool.and_eq_true, decide_eq_true_eq]; omega

theorem pad_six (n : Nat) (h : n ≤ 999999) : List.replicate (6 - (Lib.decDigits n).length) 48 ++ Lib.decDigits n = six n := by
  have z : ∀ i, n / 10 ^ i = 0 → dgt n i = 48 := fun i hi => by simp [dgt, hi]
  have e := Lib.decDigits_eq n
  have hd : ∀ t, Lib.dg n t = dgt n t := fun _ => rfl
  by_cases h1 : n < 10
  · have k : Lib.nDigits n = 1 := by rw [Lib.nDigits, dif_pos h1]
    rw [e, k]
    simp [six, hd, List.range_succ, z 5 (by omega), z 4 (by omega), z 3 (by omega), z 2 (by omega), z 1 (by omega), List.replicate_succ]
  · by_cases h2 : n < 100
    · have k : Lib.nDigits n = 2 := by rw [Lib.nDigits, dif_neg h1, Lib.nDigits, dif_pos (by omega)]
      rw [e, k]
      simp [six, hd, List.range_succ, z 5 (by omega), z 4 (by omega), z 3 (by omega), z 2 (by omega), List.replicate_succ]
    · by_cases h3 : n < 1000
      · have k : Lib.nDigits n = 3 := by rw [Lib.nDigits, dif_neg h1, Lib.nDigits, dif_neg (by omega), Lib.nDigits, dif_pos (by omega)]
        rw [e, k]
        simp [six, hd, List.range_succ, z 5 (by omega), z 4 (by omega), z 3 (by omega), List.replicate_succ]
      · by_cases h4 : n < 10000
        · have k : Lib.nDigits n = 4 := by rw [Lib.nDigits, dif_neg h1, Lib.nDigits, dif_neg (by omega), Lib.nDigits, dif_neg (by omega), Lib.nDigits, dif_pos (by omega)]
          rw [e, k]
          simp [six, hd, List.range_succ, z 5 (by omega), z 4 (by omega), List.replicate_succ]
        · by_cases h5 : n < 100000
          · have k : Lib.nDigits n = 5 := by rw [Lib.nDigits, dif_neg h1, Lib.nDigits, dif_neg (by omega), Lib.nDigits, dif_neg (by omega), Lib.nDigits, dif_neg (by omega), Lib.nDigits, dif_pos (by omega)]
            rw [e, k]
            simp [six, hd, List.range_succ, z 5 (by omega)]
          · have k : Lib.nDigits n = 6 := by rw [Lib.nDigits, dif_neg h1, Lib.nDigits, dif_neg (by omega), Lib.nDigits, dif_neg (by omega), Lib.nDigits, dif_neg (by omega), Lib.nDigits, dif_neg (by omega), Lib.nDigits, dif_pos (by omega)]
            rw [e, k]
            simp [six, hd, List.range_succ]

theorem len_dec (n : Nat) (h : n ≤ 999999) : (Lib.decDigits n).length ≤ 6 := by
  have := congrArg List.length (pad_six n h)
  rw [List.length_append, List.length_replicate] at this
  have h6 : (six n).length = 6 := rfl
  omega

theorem sixL_six (n : Nat) : sixL (six n) = true := by
  simp [sixL, six, digTo, List.range_succ, dgt_dig]

/-- six digits, split -/
theorem split6 (n : Nat) (h : n ≤ 999999) : n = 100000 * (n / 100000 % 10) + 10000 * (n / 10000 % 10) + 1000 * (n / 1000 % 10) + 100 * (n / 100 % 10) + 10 * (n / 10 % 10) + n % 10 := by omega
theorem dgt_lt (n m i : Nat) : (dgt n i < dgt m i) ↔ n / 10 ^ i % 10 < m / 10 ^ i % 10 := by
  rw [UInt8.lt_iff_toNat_lt, dgt_toNat, dgt_toNat]; omega
theorem dgt_eq (n m i : Nat) : (dgt n i = dgt m i) ↔ n / 10 ^ i % 10 = m / 10 ^ i % 10 := by
  rw [← UInt8.toNat_inj, dgt_toNat, dgt_toNat]; omega
theorem six_lt (n m : Nat) (hn : n ≤ 999999) (hm : m ≤ 999999) : Op.bytesLess (six n) (six m) = decide (n < m) := by
  have en := split6 n hn
  have em := split6 m hm
  have b := fun (x i : Nat) => Nat.mod_lt (x / 10 ^ i) (show 10 > 0 by omega)
  have n0 := b n 0; have n1 := b n 1; have n2 := b n 2; have n3 := b n 3; have n4 := b n 4; have n5 := b n 5
  have m0 := b m 0; have m1 := b m 1; have m2 := b m 2; have m3 := b m 3; have m4 := b m 4; have m5 := b m 5
  rw [Bool.eq_iff_iff]
  simp only [six, Op.bytesLess, Bool.or_eq_true, Bool.and_eq_true, decide_eq_true_eq, beq_iff_eq, dgt_lt, dgt_eq]
  simp only [Nat.reducePow, Nat.div_one] at *
  generalize n / 100000 % 10 = a5 at *
  generalize n / 10000 % 10 = a4 at *
  generalize n / 1000 % 10 = a3 at *
  generalize n / 100 % 10 = a2 at *
  generalize n / 10 % 10 = a1 at *
  generalize n % 10 = a0 at *
  generalize m / 100000 % 10 = b5 at *
  generalize m / 10000 % 10 = b4 at *
  generalize m / 1000 % 10 = b3 at *
  generalize m / 100 % 10 = b2 at *
  generalize m / 10 % 10 = b1 at *
  generalize m % 10 = b0 at *
  subst en em
  simp only [Bool.false_eq_true, and_false, or_false]
  omega
theorem six_inj (n m : Nat) (hn : n ≤ 999999) (hm : m ≤ 999999) (h : six n = six m) : n = m := by
  rcases Nat.lt_trichotomy n m with k | k | k
  · have := six_lt n m hn hm; rw [h, blt_irrefl] at this; simp at this; omega
  · exact k
  · have := six_lt m n hm hn; rw [h, blt_irrefl] at this; simp at this; omega

/-! names have no stroke -/
theorem name_mem {l : List UInt8} (h : nameL l = true) : ∀ c ∈ l, c ≠ 47 := by
  intro c hc e
  subst e
  obtain ⟨i, hi, hx⟩ := List.mem_iff_getElem.1 hc
  simp only [nameL, Bool.and_eq_true] at h
  have h2 := h.2
  rw [nameTo, List.all_eq_true] at h2
  have := h2 i (List.mem_range.2 hi)
  rw [List.getD_eq_getElem?_getD, List.getElem?_eq_getElem hi, hx] at this
  simp [nameAt, isLet, isDig] at this
theorem index_name {l : List UInt8} (h : ∀ c ∈ l, c ≠ 47) (r : List UInt8) : Lib.indexByte (l ++ 47 :: r) 47 = l.length := by
  induction l with
  | nil => simp [Lib.indexByte]
  | cons c l ih =>
    have hc : (c == 47) = false := beq_eq_false_iff_ne.2 (h c (by simp))
    have i := ih (fun x hx => h x (by simp [hx]))
    simp only [List.cons_append, Lib.indexByte, hc, i]
    have : ((l.length : Int) == -1) = false := beq_eq_false_iff_ne.2 (by omega)
    simp [this]

/-! the keys from 'p and a stroke' on, below 'p and 0' are those that begin so -/
theorem span_prefix (p k : List UInt8) : ((Op.bytesLess (p ++ [47]) k || (p ++ [47]) == k) && Op.bytesLess k (p ++ [48])) = (p ++ [47]).isPrefixOf k := by
  induction p generalizing k with
  | nil =>
    cases k with
    | nil => rfl
    | cons d r =>
      rw [Bool.eq_iff_iff]
      simp only [List.nil_append, Op.bytesLess, List.isPrefixOf, Bool.and_eq_true, Bool.or_eq_true, decide_eq_true_eq, beq_iff_eq, UInt8.lt_iff_toNat_lt]
      have n47 : (47 : UInt8).toNat = 47 := rfl
      have n48 : (48 : UInt8).toNat = 48 := rfl
      have hd : (47 : UInt8) = d ↔ d.toNat = 47 := ⟨fun e => by rw [← e]; rfl, fun e => UInt8.toNat_inj.1 (by rw [e]; rfl)⟩
      rw [n47, n48, hd]
      simp only [Bool.false_eq_true, and_false, or_false, and_true]
      constructor
      · rintro ⟨h | h, h2⟩
        · omega
        · rw [← List.cons.inj h |>.1] ; rfl
      · intro e
        refine ⟨?_, by omega⟩
        have e' := hd.2 e
        cases r with
        | nil => right; rw [← e']
        | cons x r => left; right; exact ⟨e, rfl⟩
  | cons c p ih =>
    cases k with
    | nil => simp [Op.bytesLess]
    | cons d k =>
      have := ih k
      simp only [List.cons_append, Op.bytesLess, List.isPrefixOf, List.cons_beq_cons]
      by_cases e : c = d
      · subst e
        have n : ¬ c < c := by simp
        simp only [n, decide_false, Bool.false_or, beq_self_eq_true, Bool.true_and]
        exact this
      · have e1 : (c == d) = false := beq_eq_false_iff_ne.2 e
        have e2 : (d == c) = false := beq_eq_false_iff_ne.2 (Ne.symm e)
        rw [e1, e2]
        by_cases l : c < d
        · have n : ¬ d < c := by rw [UInt8.lt_iff_toNat_lt] at *; omega
          simp [l, n]
        · simp [l]
end Go.Proofs.YtpbhcjkllfonhaaGreat

/-
  Plain facts on keys of rows, by the document's answer: where a stroke stands seven bytes ahead of the end. Nothing of the program is named here.
-/
namespace Go.Proofs.YtpbhcjkllfonhaaGreat

theorem hasPrefix_two (k : List UInt8) (a b : UInt8) : Lib.hasPrefix k [a, b] = (k.take 2 == [a, b]) := by
  match k with
  | [] => simp [Lib.hasPrefix]
  | [x] => simp [Lib.hasPrefix, List.isPrefixOf]
  | x :: y :: r =>
    rw [Bool.eq_iff_iff]
    simp [Lib.hasPrefix]
    constructor
    · rintro ⟨rfl, rfl⟩; exact ⟨rfl, rfl⟩
    · rintro ⟨rfl, rfl⟩; exact ⟨rfl, rfl⟩
theorem named_eq (k : List UInt8) (a b : UInt8) : namedL k [a, b] = ((k.take 2 == [a, b]) && nameL (k.drop 2)) := by
  unfold namedL
  rw [hasPrefix_two]
  cases h : k.take 2 == [a, b] with
  | false => rfl
  | true =>
    have : Lib.hasPrefix k [a, b] = true := by rw [hasPrefix_two, h]
    rw [Lib.trimPrefix, if_pos this]
    rfl
theorem message_eq (k : List UInt8) : messageL k = (decide (10 ≤ k.length) && ((k.take 2 == [109, 47]) && ((k.getD (k.length - 7) 0 == 47) && (nameL ((k.drop 2).take (k.length - 9)) && digTo (k.drop (k.length - 6)) 6)))) := by
  unfold messageL
  rw [hasPrefix_two]
  cases h : k.take 2 == [109, 47] with
  | false => simp
  | true =>
    have hp : Lib.hasPrefix k [109, 47] = true := by rw [hasPrefix_two, h]
    rw [Lib.trimPrefix, if_pos hp]
    have hk : ∃ r, k = 109 :: 47 :: r := by
      match k, h with
      | [], h => simp at h
      | [x], h => simp at h
      | x :: y :: r, h =>
        simp at h
        exact ⟨r, by rw [h.1, h.2]⟩
    obtain ⟨r, rfl⟩ := hk
    simp only [List.length_cons, List.length_nil, Nat.zero_add, Nat.reduceAdd, List.drop_succ_cons, List.drop_zero, Bool.true_and]
    rw [Bool.eq_iff_iff]
    simp only [messageOf, Bool.and_eq_true, decide_eq_true_eq, beq_iff_eq]
    constructor
    · rintro ⟨h0, hn, hs⟩
      obtain ⟨i, hi⟩ : ∃ i : Nat, Lib.indexByte r 47 = i := ⟨_, (Int.toNat_of_nonneg h0).symm⟩
      rw [hi, Int.toNat_natCast] at hn hs
      have hs' := hs
      have hn' := hn
      simp only [sixL, Bool.and_eq_true, decide_eq_true_eq, List.length_drop] at hs'
      simp only [nameL, Bool.and_eq_true, decide_eq_true_eq, List.length_take] at hn'
      have hlen : r.length = i + 7 := by omega
      have hat : r[i]? = some 47 := (Lib.indexByte_some hi).1
      refine ⟨by omega, ?_, ?_, ?_⟩
      · have e : r.length + 1 + 1 - 7 = i + 2 := by omega
        rw [e, List.getD_eq_getElem?_getD]
        simp [hat]
      · have e : r.length + 1 + 1 - 9 = i := by omega
        rw [e]; exact hn
      · have e : r.length + 1 + 1 - 6 = i + 1 + 2 := by omega
        rw [e]
        simp only [List.drop_succ_cons]
        have := hs'.2
        rwa [show r.length - (i + 1) = 6 by omega] at this
    · rintro ⟨h10, hc, hn, hd⟩
      obtain ⟨i, hlen⟩ : ∃ i, r.length = i + 7 := ⟨r.length - 7, by omega⟩
      have e1 : r.length + 1 + 1 - 7 = i + 2 := by omega
      have e2 : r.length + 1 + 1 - 9 = i := by omega
      have e3 : r.length + 1 + 1 - 6 = i + 1 + 2 := by omega
      rw [e1] at hc
      rw [e2] at hn
      rw [e3] at hd
      simp only [List.drop_succ_cons] at hd
      have hi : i < r.length := by omega
      have hat : r[i] = 47 := by
        rw [List.getD_eq_getElem?_getD] at hc
        simpa [List.getElem?_eq_getElem hi] using hc
      have hr : r = r.take i ++ 47 :: r.drop (i + 1) := by
        rw [← hat, List.getElem_cons_drop, List.take_append_drop]
      have hidx : Lib.indexByte r 47 = (i : Int) := by
        rw [hr, index_name (name_mem hn)]
        simp; omega
      rw [hidx, Int.toNat_natCast]
      refine ⟨by omega, hn, ?_⟩
      simp only [sixL, Bool.and_eq_true, decide_eq_true_eq, List.length_drop]
      refine ⟨by omega, ?_⟩
      rw [show r.length - (i + 1) = 6 by omega]
      exact hd
theorem key_named {k : List UInt8} (h : k.take 2 = [116, 47] ∨ k.take 2 = [113, 47]) : keyL k = nameL (k.drop 2) := by
  unfold keyL
  rw [named_eq, named_eq, message_eq]
  rcases h with h | h <;> simp [h]
theorem key_other {k : List UInt8} (h : k.take 2 ≠ [116, 47]) (h' : k.take 2 ≠ [113, 47]) : keyL k = messageL k := by
  unfold keyL
  rw [named_eq, named_eq]
  simp [beq_eq_false_iff_ne.2 h, beq_eq_false_iff_ne.2 h']
theorem key_short {k : List UInt8} (h : k.length ≤ 2) : keyL k = false := by
  unfold keyL
  rw [named_eq, named_eq, message_eq]
  have e : nameL (k.drop 2) = false := by rw [List.drop_eq_nil_of_le h]; rfl
  rw [e]; simp; omega
end Go.Proofs.YtpbhcjkllfonhaaGreat
