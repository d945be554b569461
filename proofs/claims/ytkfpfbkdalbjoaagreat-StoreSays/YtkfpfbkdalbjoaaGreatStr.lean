/-
  Plain facts on texts as bytes: their order, spans of them. Nothing of the program is named here.
-/
import Derived.Lib.MinMaxS
import Derived.Lib.Strings
import Derived.Lib.IndexBytes
import Derived.Lib.ItoaNum
import Derived.Lib.IndexLaws
namespace Go.Proofs.YtkfpfbkdalbjoaaGreat

def ltS (a b : ByteArray) : Bool := Op.bytesLess a.toList b.toList
def leS (a b : ByteArray) : Bool := Op.bytesLess a.toList b.toList || a.toList == b.toList
def nilS (a : ByteArray) : Bool := a.toList.isEmpty
def eqS (a b : ByteArray) : Bool := a.toList == b.toList

theorem blt_irrefl : ∀ x : List UInt8, Op.bytesLess x x = false
  | [] => rfl
  | a :: x => by simp [Op.bytesLess, blt_irrefl x]

theorem blt_trans : ∀ x y z : List UInt8, Op.bytesLess x y = true → Op.bytesLess y z = true → Op.bytesLess x z = true := by
  intro x
  induction x with
  | nil => intro y z h1 h2; cases y <;> cases z <;> simp_all [Op.bytesLess]
  | cons a x ih =>
    intro y z h1 h2
    cases y with
    | nil => simp [Op.bytesLess] at h1
    | cons b y =>
      cases z with
      | nil => simp [Op.bytesLess] at h2
      | cons c z =>
        simp only [Op.bytesLess, Bool.or_eq_true, decide_eq_true_eq, Bool.and_eq_true, beq_iff_eq, UInt8.lt_iff_toNat_lt] at *
        rcases h1 with h1 | ⟨rfl, h1⟩ <;> rcases h2 with h2 | ⟨rfl, h2⟩
        · left; omega
        · left; exact h1
        · left; exact h2
        · right; exact ⟨rfl, ih y z h1 h2⟩

theorem blt_total : ∀ x y : List UInt8, Op.bytesLess x y = true ∨ x = y ∨ Op.bytesLess y x = true := by
  intro x
  induction x with
  | nil => intro y; cases y <;> simp [Op.bytesLess]
  | cons a x ih =>
    intro y
    cases y with
    | nil => simp [Op.bytesLess]
    | cons b y =>
      simp only [Op.bytesLess, Bool.or_eq_true, decide_eq_true_eq, Bool.and_eq_true, beq_iff_eq, UInt8.lt_iff_toNat_lt, List.cons.injEq]
      rcases Nat.lt_trichotomy a.toNat b.toNat with h | h | h
      · exact Or.inl (Or.inl h)
      · have e : a = b := UInt8.toNat_inj.1 h
        subst e
        rcases ih y with h | h | h
        · exact Or.inl (Or.inr ⟨rfl, h⟩)
        · exact Or.inr (Or.inl ⟨rfl, h⟩)
        · exact Or.inr (Or.inr (Or.inr ⟨rfl, h⟩))
      · exact Or.inr (Or.inr (Or.inl h))

theorem toList_inj {a b : ByteArray} (h : a.toList = b.toList) : a = b := by
  rw [Lib.toList_data, Lib.toList_data] at h
  cases a; cases b; simp_all

theorem ltS_irrefl (a : ByteArray) : ltS a a = false := blt_irrefl _
theorem ltS_trans {a b c : ByteArray} (h : ltS a b = true) (k : ltS b c = true) : ltS a c = true := blt_trans _ _ _ h k
theorem ltS_total (a b : ByteArray) : ltS a b = true ∨ a = b ∨ ltS b a = true := by
  rcases blt_total a.toList b.toList with h | h | h
  · exact Or.inl h
  · exact Or.inr (Or.inl (toList_inj h))
  · exact Or.inr (Or.inr h)
theorem ltS_asymm {a b : ByteArray} (h : ltS a b = true) : ltS b a = false := by
  cases e : ltS b a with
  | false => rfl
  | true => have := ltS_trans h e; rw [ltS_irrefl] at this; cases this
theorem leS_iff (a b : ByteArray) : leS a b = true ↔ ltS a b = true ∨ a = b := by
  unfold leS ltS
  simp only [Bool.or_eq_true, beq_iff_eq]
  exact ⟨fun h => h.elim Or.inl (fun e => Or.inr (toList_inj e)), fun h => h.elim Or.inl (fun e => Or.inr (by rw [e]))⟩
/-- 'not above' is 'below or the same'. -/
theorem leS_not (a b : ByteArray) : leS a b = !ltS b a := by
  rw [Bool.eq_iff_iff, leS_iff]
  rcases ltS_total a b with h | h | h
  · simp [h, ltS_asymm h]
  · subst h; simp [ltS_irrefl]
  · simp only [h, Bool.not_true, Bool.false_eq_true, iff_false, not_or]
    constructor
    · intro k; rw [ltS_asymm h] at k; cases k
    · intro e; subst e; rw [ltS_irrefl] at h; cases h
theorem empty_list : ByteArray.empty.toList = [] := by rw [Lib.toList_data]; rfl
theorem eqS_iff (a b : ByteArray) : eqS a b = true ↔ a = b := by
  unfold eqS
  rw [beq_iff_eq]
  exact ⟨toList_inj, fun h => by rw [h]⟩
theorem eqS_refl (a : ByteArray) : eqS a a = true := (eqS_iff a a).2 rfl
theorem eqS_lt {a b : ByteArray} (h : ltS a b = true) : eqS a b = false := by
  cases e : eqS a b with
  | false => rfl
  | true => rw [(eqS_iff a b).1 e, ltS_irrefl] at h; cases h
theorem eqS_comm (a b : ByteArray) : eqS a b = eqS b a := by
  rw [Bool.eq_iff_iff, eqS_iff, eqS_iff]
  exact ⟨Eq.symm, Eq.symm⟩
theorem nilS_iff (a : ByteArray) : nilS a = true ↔ a = ByteArray.empty := by
  unfold nilS
  rw [List.isEmpty_iff]
  exact ⟨fun h => toList_inj (by rw [h, empty_list]), fun h => by rw [h, empty_list]⟩
theorem ltS_nil (a : ByteArray) : ltS a ByteArray.empty = false := by
  unfold ltS; rw [empty_list]
  cases a.toList <;> rfl
theorem maxS_eq (x y : ByteArray) : Lib.maxS x y = if ltS x y then y else x := by
  unfold Lib.maxS ltS
  rw [Proofs.bytesLess_eq, Lib.toList_data, Lib.toList_data]
  by_cases h : x.data.toList < y.data.toList <;> simp [h]
theorem minS_eq (x y : ByteArray) : Lib.minS x y = if leS x y then x else y := by
  unfold Lib.minS leS
  rw [Proofs.bytesLess_eq, Lib.toList_data, Lib.toList_data]
  by_cases h : x.data.toList < y.data.toList <;> by_cases h' : x.data.toList = y.data.toList <;> simp [h, h']
  intro e; exact absurd (by rw [e]) h'

/-- a key and a byte 0 -/
def zeroS (k : ByteArray) : ByteArray := k ++ ⟨#[0]⟩
theorem blt_zero : ∀ x k : List UInt8, Op.bytesLess x (k ++ [0]) = (Op.bytesLess x k || x == k) := by
  intro x
  induction x with
  | nil => intro k; cases k <;> rfl
  | cons a x ih =>
    intro k
    cases k with
    | nil =>
      have : ¬ (a < 0) := by simp [UInt8.lt_iff_toNat_lt]
      cases x <;> simp [Op.bytesLess, this]
    | cons b k =>
      simp only [List.cons_append, Op.bytesLess, ih, List.cons_beq_cons]
      cases decide (a < b) <;> cases (a == b) <;> simp
theorem ltS_zero (a k : ByteArray) : ltS a (zeroS k) = leS a k := by
  unfold ltS leS zeroS
  have e : (k ++ (⟨#[0]⟩ : ByteArray)).toList = k.toList ++ [0] := by simp [Lib.toList_data, ByteArray.data_append]
  rw [e, blt_zero]
theorem zeroS_nil (k : ByteArray) : nilS (zeroS k) = false := by
  unfold nilS zeroS
  have e : (k ++ (⟨#[0]⟩ : ByteArray)).toList = k.toList ++ [0] := by simp [Lib.toList_data, ByteArray.data_append]
  rw [e]; simp

/-! spans -/
def hasS (f t k : ByteArray) : Bool := leS f k && (nilS t || ltS k t)
def emptyS (f t : ByteArray) : Bool := !nilS t && leS t f
def endS (a b : ByteArray) : ByteArray := if nilS a then b else if nilS b then a else Lib.minS a b
def meetS (af a_t bf bt : ByteArray) : Bool := !emptyS af a_t && !emptyS bf bt && !emptyS (Lib.maxS af bf) (endS a_t bt)

theorem maxS_le (a b k : ByteArray) : leS (Lib.maxS a b) k = (leS a k && leS b k) := by
  rw [maxS_eq]
  simp only [leS_not]
  rcases ltS_total a b with h | h | h
  · rw [if_pos h]
    cases e : ltS k b with
    | true => simp
    | false =>
      have : ltS k a = false := by
        cases e2 : ltS k a with
        | false => rfl
        | true => rw [ltS_trans e2 h] at e; cases e
      simp [this]
  · subst h; simp [ltS_irrefl]
  · rw [if_neg (by simp [ltS_asymm h])]
    cases e : ltS k a with
    | true => simp
    | false =>
      have : ltS k b = false := by
        cases e2 : ltS k b with
        | false => rfl
        | true => rw [ltS_trans e2 h] at e; cases e
      simp [this]
theorem minS_lt (a b k : ByteArray) : ltS k (Lib.minS a b) = (ltS k a && ltS k b) := by
  rw [minS_eq, leS_not]
  rcases ltS_total a b with h | h | h
  · rw [ltS_asymm h]
    cases e : ltS k a with
    | false => simp [e]
    | true => simp [e, ltS_trans e h]
  · subst h; simp [ltS_irrefl]
  · rw [h]
    cases e : ltS k b with
    | false => simp [e]
    | true => simp [e, ltS_trans e h]
theorem minS_nil {a b : ByteArray} (ha : nilS a = false) (hb : nilS b = false) : nilS (Lib.minS a b) = false := by
  rw [minS_eq]; split <;> assumption
theorem end_lt (a b k : ByteArray) : (nilS (endS a b) || ltS k (endS a b)) = ((nilS a || ltS k a) && (nilS b || ltS k b)) := by
  unfold endS
  cases ha : nilS a with
  | true => simp
  | false =>
    cases hb : nilS b with
    | true => simp [ha]
    | false => simp [minS_nil ha hb, minS_lt]
/-- what two spans have in common are just the keys that both have -/
theorem has_both (af a_t bf bt k : ByteArray) : hasS (Lib.maxS af bf) (endS a_t bt) k = (hasS af a_t k && hasS bf bt k) := by
  unfold hasS
  rw [maxS_le, end_lt]
  cases leS af k <;> cases leS bf k <;> cases (nilS a_t || ltS k a_t) <;> simp
theorem empty_has {f t k : ByteArray} (h : emptyS f t = true) : hasS f t k = false := by
  unfold emptyS at h; unfold hasS
  simp only [Bool.and_eq_true, Bool.not_eq_true', leS_not] at h
  rw [h.1, Bool.false_or, leS_not]
  have h2 : ltS f t = false := by simpa using h.2
  cases e : ltS k f with
  | true => rfl
  | false =>
    cases e2 : ltS k t with
    | false => rfl
    | true =>
      rcases ltS_total f k with h | h | h
      · rw [ltS_trans h e2] at h2; cases h2
      · subst h; rw [e2] at h2; cases h2
      · rw [h] at e; cases e
theorem has_not_empty {f t k : ByteArray} (h : hasS f t k = true) : emptyS f t = false := by
  cases e : emptyS f t with
  | false => rfl
  | true => rw [empty_has e] at h; cases h
theorem has_meet {af a_t bf bt k : ByteArray} (h : hasS af a_t k = true) (h' : hasS bf bt k = true) : meetS af a_t bf bt = true := by
  unfold meetS
  have hb : hasS (Lib.maxS af bf) (endS a_t bt) k = true := by rw [has_both, h, h']; rfl
  rw [has_not_empty h, has_not_empty h', has_not_empty hb]; rfl
/-- a span is empty just if it has no key: its From is a key of it, else -/
theorem not_empty_has (f t : ByteArray) : emptyS f t = !hasS f t f := by
  unfold emptyS hasS
  have e : leS f f = true := by rw [leS_iff]; exact Or.inr rfl
  rw [e, leS_not]
  cases nilS t <;> cases ltS f t <;> rfl
theorem maxS_comm (a b : ByteArray) : Lib.maxS a b = Lib.maxS b a := by
  simp only [maxS_eq]
  rcases ltS_total a b with h | h | h
  · simp [h, ltS_asymm h]
  · subst h; rfl
  · simp [h, ltS_asymm h]
theorem minS_comm (a b : ByteArray) : Lib.minS a b = Lib.minS b a := by
  simp only [minS_eq, leS_not]
  rcases ltS_total a b with h | h | h
  · simp [h, ltS_asymm h]
  · subst h; rfl
  · simp [h, ltS_asymm h]
theorem endS_comm (a b : ByteArray) : endS a b = endS b a := by
  unfold endS
  cases ha : nilS a <;> cases hb : nilS b <;> simp
  · exact minS_comm a b
  · rw [(nilS_iff a).1 ha, (nilS_iff b).1 hb]
theorem meet_comm (af a_t bf bt : ByteArray) : meetS af a_t bf bt = meetS bf bt af a_t := by
  unfold meetS
  rw [maxS_comm af bf, endS_comm a_t bt]
  cases emptyS af a_t <;> cases emptyS bf bt <;> rfl
theorem point_has (k o : ByteArray) : hasS k (zeroS k) o = eqS k o := by
  unfold hasS
  rw [zeroS_nil, ltS_zero, Bool.false_or, leS_not, leS_not]
  rcases ltS_total k o with h | h | h
  · rw [h, ltS_asymm h, eqS_lt h]; rfl
  · subst h; simp [ltS_irrefl, eqS_refl]
  · rw [h, eqS_comm, eqS_lt h]; rfl
theorem point_not_empty (k : ByteArray) : emptyS k (zeroS k) = false := by
  rw [not_empty_has, point_has, eqS_refl]; rfl
theorem point_meet (k af a_t : ByteArray) : meetS k (zeroS k) af a_t = (hasS af a_t k && !emptyS af a_t) := by
  cases h : hasS af a_t k with
  | true =>
    rw [has_meet (k := k) (by rw [point_has, eqS_refl]) h, has_not_empty h]; rfl
  | false =>
    unfold meetS
    rw [not_empty_has (Lib.maxS k af), has_both, point_has]
    cases e : eqS k (Lib.maxS k af) with
    | false => simp
    | true =>
      rw [← (eqS_iff _ _).1 e, h]; simp
end Go.Proofs.YtkfpfbkdalbjoaaGreat

/-
  Plain facts on names and keys of rows as lists of bytes. Nothing of the program is named here.
-/
namespace Go.Proofs.YtkfpfbkdalbjoaaGreat

def isLet (c : UInt8) : Bool := decide (97 ≤ c.toNat) && decide (c.toNat ≤ 122)
def isDig (c : UInt8) : Bool := decide (48 ≤ c.toNat) && decide (c.toNat ≤ 57)
/-- may this byte stand at this place of a name? -/
def nameAt (i : Nat) (c : UInt8) : Bool := isLet c || (decide (i ≠ 0) && isDig c)
def nameTo (l : List UInt8) (k : Nat) : Bool := (List.range k).all fun i => nameAt i (l.getD i 0)
def nameL (l : List UInt8) : Bool := decide (1 ≤ l.length) && decide (l.length ≤ 6) && nameTo l l.length
def digTo (l : List UInt8) (k : Nat) : Bool := (List.range k).all fun i => isDig (l.getD i 0)
def sixL (l : List UInt8) : Bool := decide (l.length = 6) && digTo l l.length

def namedL (k head : List UInt8) : Bool := Lib.hasPrefix k head && nameL (Lib.trimPrefix k head)
def messageOf (r : List UInt8) (i : Int) : Bool := decide (0 ≤ i) && (nameL (r.take i.toNat) && sixL (r.drop (i.toNat + 1)))
def messageL (k : List UInt8) : Bool := Lib.hasPrefix k [109, 47] && messageOf (Lib.trimPrefix k [109, 47]) (Lib.indexByte (Lib.trimPrefix k [109, 47]) 47)
def keyL (k : List UInt8) : Bool := namedL k [116, 47] || (namedL k [113, 47] || messageL k)

theorem nameTo_succ (l : List UInt8) (k : Nat) : nameTo l (k + 1) = (nameTo l k && nameAt k (l.getD k 0)) := by
  simp [nameTo, List.range_succ]
theorem digTo_succ (l : List UInt8) (k : Nat) : digTo l (k + 1) = (digTo l k && isDig (l.getD k 0)) := by
  simp [digTo, List.range_succ]
theorem nameTo_le {l : List UInt8} {k n : Nat} (h : k ≤ n) (hn : nameTo l k = false) : nameTo l n = false := by
  rw [nameTo, List.all_eq_false] at *
  obtain ⟨i, hi, h2⟩ := hn
  exact ⟨i, List.mem_range.2 (Nat.lt_of_lt_of_le (List.mem_range.1 hi) h), h2⟩
theorem digTo_le {l : List UInt8} {k n : Nat} (h : k ≤ n) (hn : digTo l k = false) : digTo l n = false := by
  rw [digTo, List.all_eq_false] at *
  obtain ⟨i, hi, h2⟩ := hn
  exact ⟨i, List.mem_range.2 (Nat.lt_of_lt_of_le (List.mem_range.1 hi) h), h2⟩
theorem byte_at (s : ByteArray) (k : Nat) (h : k < s.size) : s.data.toList.getD k 0 = s[k] := by
  rw [List.getD_eq_getElem?_getD, List.getElem?_eq_getElem (by simpa using h)]
  rfl
theorem len_data (s : ByteArray) : s.data.toList.length = s.size := by simp
end Go.Proofs.YtkfpfbkdalbjoaaGreat

/-
  Plain facts on keys of rows: six digits of a number, the rows of a table, a queue, a message, and their order. Nothing of the program is named here.
-/
namespace Go.Proofs.YtkfpfbkdalbjoaaGreat

def dgt (n i : Nat) : UInt8 := UInt8.ofNat (48 + n / 10 ^ i % 10)
def six (n : Nat) : List UInt8 := [dgt n 5, dgt n 4, dgt n 3, dgt n 2, dgt n 1, dgt n 0]
theorem dgt_toNat (n i : Nat) : (dgt n i).toNat = 48 + n / 10 ^ i % 10 := by
  have : n / 10 ^ i % 10 < 10 := Nat.mod_lt _ (by omega)
  simp [dgt]; omega
theorem dgt_dig (n i : Nat) : isDig (dgt n i) = true := by
  have : n / 10 ^ i % 10 < 10 := Nat.mod_lt _ (by omega)
  simp only [isDig, dgt_toNat, Bool.and_eq_true, decide_eq_true_eq]; omega

theorem pad_six (n : Nat) (h : n ≤ 999999) : List.replicate (6 - (Lib.decDigits n).length) 48 ++ Lib.decDigits n = six n := by
  have z : ∀ i, n / 10 ^ i = 0 → dgt n i = 48 := fun i hi => by simp [dgt, hi]
  have e := Lib.decDigits_eq n
  have hd : ∀ t, Lib.dg n t = dgt n t := fun _ => rfl
  by_cases h1 : n < 10
  · have k : Lib.nDigits n = 1 := by rw [Lib.nDigits, dif_pos h1]
    rw [e, k]
    simp [six, hd, List.range_succ, z 5 (by omega), z 4 (by omega), z 3 (by omega), z 2 (by omega), z 1 (by omega), List.replicate_succ]
  · by_cases h2 : n < 100
    · have k : Lib.nDigits n = 2 := by rw [Lib.nDigits, dif_neg h1, Lib.nDigits, dif_pos (by omega)]
      rw [e, k]
      simp [six, hd, List.range_succ, z 5 (by omega), z 4 (by omega), z 3 (by omega), z 2 (by omega), List.replicate_succ]
    · by_cases h3 : n < 1000
      · have k : Lib.nDigits n = 3 := by rw [Lib.nDigits, dif_neg h1, Lib.nDigits, dif_neg (by omega), Lib.nDigits, dif_pos (by omega)]
        rw [e, k]
        simp [six, hd, List.range_succ, z 5 (by omega), z 4 (by omega), z 3 (by omega), List.replicate_succ]
      · by_cases h4 : n < 10000
        · have k : Lib.nDigits n = 4 := by rw [Lib.nDigits, dif_neg h1, Lib.nDigits, dif_neg (by omega), Lib.nDigits, dif_neg (by omega), Lib.nDigits, dif_pos (by omega)]
          rw [e, k]
          simp [six, hd, List.range_succ, z 5 (by omega), z 4 (by omega), List.replicate_succ]
        · by_cases h5 : n < 100000
          · have k : Lib.nDigits n = 5 := by rw [Lib.nDigits, dif_neg h1, Lib.nDigits, dif_neg (by omega), Lib.nDigits, dif_neg (by omega), Lib.nDigits, dif_neg (by omega), Lib.nDigits, dif_pos (by omega)]
            rw [e, k]
            simp [six, hd, List.range_succ, z 5 (by omega)]
          · have k : Lib.nDigits n = 6 := by rw [Lib.nDigits, dif_neg h1, Lib.nDigits, dif_neg (by omega), Lib.nDigits, dif_neg (by omega), Lib.nDigits, dif_neg (by omega), Lib.nDigits, dif_neg (by omega), Lib.nDigits, dif_pos (by omega)]
            rw [e, k]
            simp [six, hd, List.range_succ]

theorem len_dec (n : Nat) (h : n ≤ 999999) : (Lib.decDigits n).length ≤ 6 := by
  have := congrArg List.length (pad_six n h)
  rw [List.length_append, List.length_replicate] at this
  have h6 : (six n).length = 6 := rfl
  omega

theorem sixL_six (n : Nat) : sixL (six n) = true := by
  simp [sixL, six, digTo, List.range_succ, dgt_dig]

/-- six digits, split -/
theorem split6 (n : Nat) (h : n ≤ 999999) : n = 100000 * (n / 100000 % 10) + 10000 * (n / 10000 % 10) + 1000 * (n / 1000 % 10) + 100 * (n / 100 % 10) + 10 * (n / 10 % 10) + n % 10 := by omega
theorem dgt_lt (n m i : Nat) : (dgt n i < dgt m i) ↔ n / 10 ^ i % 10 < m / 10 ^ i % 10 := by
  rw [UInt8.lt_iff_toNat_lt, dgt_toNat, dgt_toNat]; omega
theorem dgt_eq (n m i : Nat) : (dgt n i = dgt m i) ↔ n / 10 ^ i % 10 = m / 10 ^ i % 10 := by
  rw [← UInt8.toNat_inj, dgt_toNat, dgt_toNat]; omega
theorem six_lt (n m : Nat) (hn : n ≤ 999999) (hm : m ≤ 999999) : Op.bytesLess (six n) (six m) = decide (n < m) := by
  have en := split6 n hn
  have em := split6 m hm
  have b := fun (x i : Nat) => Nat.mod_lt (x / 10 ^ i) (show 10 > 0 by omega)
  have n0 := b n 0; have n1 := b n 1; have n2 := b n 2; have n3 := b n 3; have n4 := b n 4; have n5 := b n 5
  have m0 := b m 0; have m1 := b m 1; have m2 := b m 2; have m3 := b m 3; have m4 := b m 4; have m5 := b m 5
  rw [Bool.eq_iff_iff]
  simp only [six, Op.bytesLess, Bool.or_eq_true, Bool.and_eq_true, decide_eq_true_eq, beq_iff_eq, dgt_lt, dgt_eq]
  simp only [Nat.reducePow, Nat.div_one] at *
  generalize n / 100000 % 10 = a5 at *
  generalize n / 10000 % 10 = a4 at *
  generalize n / 1000 % 10 = a3 at *
  generalize n / 100 % 10 = a2 at *
  generalize n / 10 % 10 = a1 at *
  generalize n % 10 = a0 at *
  generalize m / 100000 % 10 = b5 at *
  generalize m / 10000 % 10 = b4 at *
  generalize m / 1000 % 10 = b3 at *
  generalize m / 100 % 10 = b2 at *
  generalize m / 10 % 10 = b1 at *
  generalize m % 10 = b0 at *
  subst en em
  simp only [Bool.false_eq_true, and_false, or_false]
  omega
theorem six_inj (n m : Nat) (hn : n ≤ 999999) (hm : m ≤ 999999) (h : six n = six m) : n = m := by
  rcases Nat.lt_trichotomy n m with k | k | k
  · have := six_lt n m hn hm; rw [h, blt_irrefl] at this; simp at this; omega
  · exact k
  · have := six_lt m n hm hn; rw [h, blt_irrefl] at this; simp at this; omega

/-! names have no stroke -/
theorem name_mem {l : List UInt8} (h : nameL l = true) : ∀ c ∈ l, c ≠ 47 := by
  intro c hc e
  subst e
  obtain ⟨i, hi, hx⟩ := List.mem_iff_getElem.1 hc
  simp only [nameL, Bool.and_eq_true] at h
  have h2 := h.2
  rw [nameTo, List.all_eq_true] at h2
  have := h2 i (List.mem_range.2 hi)
  rw [List.getD_eq_getElem?_getD, List.getElem?_eq_getElem hi, hx] at this
  simp [nameAt, isLet, isDig] at this
theorem index_name {l : List UInt8} (h : ∀ c ∈ l, c ≠ 47) (r : List UInt8) : Lib.indexByte (l ++ 47 :: r) 47 = l.length := by
  induction l with
  | nil => simp [Lib.indexByte]
  | cons c l ih =>
    have hc : (c == 47) = false := beq_eq_false_iff_ne.2 (h c (by simp))
    have i := ih (fun x hx => h x (by simp [hx]))
    simp only [List.cons_append, Lib.indexByte, hc, i]
    have : ((l.length : Int) == -1) = false := beq_eq_false_iff_ne.2 (by omega)
    simp [this]

/-! the keys from 'p and a stroke' on, below 'p and 0' are those that begin so -/
theorem span_prefix (p k : List UInt8) : ((Op.bytesLess (p ++ [47]) k || (p ++ [47]) == k) && Op.bytesLess k (p ++ [48])) = (p ++ [47]).isPrefixOf k := by
  induction p generalizing k with
  | nil =>
    cases k with
    | nil => rfl
    | cons d r =>
      rw [Bool.eq_iff_iff]
      simp only [List.nil_append, Op.bytesLess, List.isPrefixOf, Bool.and_eq_true, Bool.or_eq_true, decide_eq_true_eq, beq_iff_eq, UInt8.lt_iff_toNat_lt]
      have n47 : (47 : UInt8).toNat = 47 := rfl
      have n48 : (48 : UInt8).toNat = 48 := rfl
      have hd : (47 : UInt8) = d ↔ d.toNat = 47 := ⟨fun e => by rw [← e]; rfl, fun e => UInt8.toNat_inj.1 (by rw [e]; rfl)⟩
      rw [n47, n48, hd]
      simp only [Bool.false_eq_true, and_false, or_false, and_true]
      constructor
      · rintro ⟨h | h, h2⟩
        · omega
        · rw [← List.cons.inj h |>.1] ; rfl
      · intro e
        refine ⟨?_, by omega⟩
        have e' := hd.2 e
        cases r with
        | nil => right; rw [← e']
        | cons x r => left; right; exact ⟨e, rfl⟩
  | cons c p ih =>
    cases k with
    | nil => simp [Op.bytesLess]
    | cons d k =>
      have := ih k
      simp only [List.cons_append, Op.bytesLess, List.isPrefixOf, List.cons_beq_cons]
      by_cases e : c = d
      · subst e
        have n : ¬ c < c := by simp
        simp only [n, decide_false, Bool.false_or, beq_self_eq_true, Bool.true_and]
        exact this
      · have e1 : (c == d) = false := beq_eq_false_iff_ne.2 e
        have e2 : (d == c) = false := beq_eq_false_iff_ne.2 (Ne.symm e)
        rw [e1, e2]
        by_cases l : c < d
        · have n : ¬ d < c := by rw [UInt8.lt_iff_toNat_lt] at *; omega
          simp [l, n]
        · simp [l]
end Go.Proofs.YtkfpfbkdalbjoaaGreat

/-
  Plain facts on keys of rows, by the document's answer: where a stroke stands seven bytes ahead of the end. Nothing of the program is named here.
-/
namespace Go.Proofs.YtkfpfbkdalbjoaaGreat

theorem hasPrefix_two (k : List UInt8) (a b : UInt8) : Lib.hasPrefix k [a, b] = (k.take 2 == [a, b]) := by
  match k with
  | [] => simp [Lib.hasPrefix]
  | [x] => simp [Lib.hasPrefix, List.isPrefixOf]
  | x :: y :: r =>
    rw [Bool.eq_iff_iff]
    simp [Lib.hasPrefix]
    constructor
    · rintro ⟨rfl, rfl⟩; exact ⟨rfl, rfl⟩
    · rintro ⟨rfl, rfl⟩; exact ⟨rfl, rfl⟩
theorem named_eq (k : List UInt8) (a b : UInt8) : namedL k [a, b] = ((k.take 2 == [a, b]) && nameL (k.drop 2)) := by
  unfold namedL
  rw [hasPrefix_two]
  cases h : k.take 2 == [a, b] with
  | false => rfl
  | true =>
    have : Lib.hasPrefix k [a, b] = true := by rw [hasPrefix_two, h]
    rw [Lib.trimPrefix, if_pos this]
    rfl
theorem message_eq (k : List UInt8) : messageL k = (decide (10 ≤ k.length) && ((k.take 2 == [109, 47]) && ((k.getD (k.length - 7) 0 == 47) && (nameL ((k.drop 2).take (k.length - 9)) && digTo (k.drop (k.length - 6)) 6)))) := by
  unfold messageL
  rw [hasPrefix_two]
  cases h : k.take 2 == [109, 47] with
  | false => simp
  | true =>
    have hp : Lib.hasPrefix k [109, 47] = true := by rw [hasPrefix_two, h]
    rw [Lib.trimPrefix, if_pos hp]
    have hk : ∃ r, k = 109 :: 47 :: r := by
      match k, h with
      | [], h => simp at h
      | [x], h => simp at h
      | x :: y :: r, h =>
        simp at h
        exact ⟨r, by rw [h.1, h.2]⟩
    obtain ⟨r, rfl⟩ := hk
    simp only [List.length_cons, List.length_nil, Nat.zero_add, Nat.reduceAdd, List.drop_succ_cons, List.drop_zero, Bool.true_and]
    rw [Bool.eq_iff_iff]
    simp only [messageOf, Bool.and_eq_true, decide_eq_true_eq, beq_iff_eq]
    constructor
    · rintro ⟨h0, hn, hs⟩
      obtain ⟨i, hi⟩ : ∃ i : Nat, Lib.indexByte r 47 = i := ⟨_, (Int.toNat_of_nonneg h0).symm⟩
      rw [hi, Int.toNat_natCast] at hn hs
      have hs' := hs
      have hn' := hn
      simp only [sixL, Bool.and_eq_true, decide_eq_true_eq, List.length_drop] at hs'
      simp only [nameL, Bool.and_eq_true, decide_eq_true_eq, List.length_take] at hn'
      have hlen : r.length = i + 7 := by omega
      have hat : r[i]? = some 47 := (Lib.indexByte_some hi).1
      refine ⟨by omega, ?_, ?_, ?_⟩
      · have e : r.length + 1 + 1 - 7 = i + 2 := by omega
        rw [e, List.getD_eq_getElem?_getD]
        simp [hat]
      · have e : r.length + 1 + 1 - 9 = i := by omega
        rw [e]; exact hn
      · have e : r.length + 1 + 1 - 6 = i + 1 + 2 := by omega
        rw [e]
        simp only [List.drop_succ_cons]
        have := hs'.2
        rwa [show r.length - (i + 1) = 6 by omega] at this
    · rintro ⟨h10, hc, hn, hd⟩
      obtain ⟨i, hlen⟩ : ∃ i, r.length = i + 7 := ⟨r.length - 7, by omega⟩
      have e1 : r.length + 1 + 1 - 7 = i + 2 := by omega
      have e2 : r.length + 1 + 1 - 9 = i := by omega
      have e3 : r.length + 1 + 1 - 6 = i + 1 + 2 := by omega
      rw [e1] at hc
      rw [e2] at hn
      rw [e3] at hd
      simp only [List.drop_succ_cons] at hd
      have hi : i < r.length := by omega
      have hat : r[i] = 47 := by
        rw [List.getD_eq_getElem?_getD] at hc
        simpa [List.getElem?_eq_getElem hi] using hc
      have hr : r = r.take i ++ 47 :: r.drop (i + 1) := by
        rw [← hat, List.getElem_cons_drop, List.take_append_drop]
      have hidx : Lib.indexByte r 47 = (i : Int) := by
        rw [hr, index_name (name_mem hn)]
        simp; omega
      rw [hidx, Int.toNat_natCast]
      refine ⟨by omega, hn, ?_⟩
      simp only [sixL, Bool.and_eq_true, decide_eq_true_eq, List.length_drop]
      refine ⟨by omega, ?_⟩
      rw [show r.length - (i + 1) = 6 by omega]
      exact hd
theorem key_named {k : List UInt8} (h : k.take 2 = [116, 47] ∨ k.take 2 = [113, 47]) : keyL k = nameL (k.drop 2) := by
  unfold keyL
  rw [named_eq, named_eq, message_eq]
  rcases h with h | h <;> simp [h]
theorem key_other {k : List UInt8} (h : k.take 2 ≠ [116, 47]) (h' : k.take 2 ≠ [113, 47]) : keyL k = messageL k := by
  unfold keyL
  rw [named_eq, named_eq]
  simp [beq_eq_false_iff_ne.2 h, beq_eq_false_iff_ne.2 h']
theorem key_short {k : List UInt8} (h : k.length ≤ 2) : keyL k = false := by
  unfold keyL
  rw [named_eq, named_eq, message_eq]
  have e : nameL (k.drop 2) = false := by rw [List.drop_eq_nil_of_le h]; rfl
  rw [e]; simp; omega
end Go.Proofs.YtkfpfbkdalbjoaaGreat
