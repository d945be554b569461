/-
  Plain facts on texts as bytes: their order, spans of them. Nothing of the program is named here.
-/
import Derived.Lib.MinMaxS
namespace Go.Proofs.Ytkfpfbkdalbjoaa

def ltS (a b : ByteArray) : Bool := Op.bytesLess a.toList b.toList
def leS (a b : ByteArray) : Bool := Op.bytesLess a.toList b.toList || a.toList == b.toList
def nilS (a : ByteArray) : Bool := a.toList.isEmpty
def eqS (a b : ByteArray) : Bool := a.toList == b.toList

theorem blt_irrefl : ∀ x : List UInt8, Op.bytesLess x x = false
  | [] => rfl
  | a :: x => by simp [Op.bytesLess, blt_irrefl x]

theorem blt_trans : ∀ x y z : List UInt8, Op.bytesLess x y = true → Op.bytesLess y z = true → Op.bytesLess x z = true := by
  intro x
  induction x with
  | nil => intro y z h1 h2; cases y <;> cases z <;> simp_all [Op.bytesLess]
  | cons a x ih =>
    intro y z h1 h2
    cases y with
    | nil => simp [Op.bytesLess] at h1
    | cons b y =>
      cases z with
      | nil => simp [Op.bytesLess] at h2
      | cons c z =>
        simp only [Op.bytesLess, Bool.or_eq_true, decide_eq_true_eq, Bool.and_eq_true, beq_iff_eq, UInt8.lt_iff_toNat_lt] at *
        rcases h1 with h1 | ⟨rfl, h1⟩ <;> rcases h2 with h2 | ⟨rfl, h2⟩
        · left; omega
        · left; exact h1
        · left; exact h2
        · right; exact ⟨rfl, ih y z h1 h2⟩

theorem blt_total : ∀ x y : List UInt8, Op.bytesLess x y = true ∨ x = y ∨ Op.bytesLess y x = true := by
  intro x
  induction x with
  | nil => intro y; cases y <;> simp [Op.bytesLess]
  | cons a x ih =>
    intro y
    cases y with
    | nil => simp [Op.bytesLess]
    | cons b y =>
      simp only [Op.bytesLess, Bool.or_eq_true, decide_eq_true_eq, Bool.and_eq_true, beq_iff_eq, UInt8.lt_iff_toNat_lt, List.cons.injEq]
      rcases Nat.lt_trichotomy a.toNat b.toNat with h | h | h
      · exact Or.inl (Or.inl h)
      · have e : a = b := UInt8.toNat_inj.1 h
        subst e
        rcases ih y with h | h | h
        · exact Or.inl (Or.inr ⟨rfl, h⟩)
        · exact Or.inr (Or.inl ⟨rfl, h⟩)
        · exact Or.inr (Or.inr (Or.inr ⟨rfl, h⟩))
      · exact Or.inr (Or.inr (Or.inl h))

theorem toList_inj {a b : ByteArray} (h : a.toList = b.toList) : a = b := by
  rw [Lib.toList_data, Lib.toList_data] at h
  cases a; cases b; simp_all

theorem ltS_irrefl (a : ByteArray) : ltS a a = false := blt_irrefl _
theorem ltS_trans {a b c : ByteArray} (h : ltS a b = true) (k : ltS b c = true) : ltS a c = true := blt_trans _ _ _ h k
theorem ltS_total (a b : ByteArray) : ltS a b = true ∨ a = b ∨ ltS b a = true := by
  rcases blt_total a.toList b.toList with h | h | h
  · exact Or.inl h
  · exact Or.inr (Or.inl (toList_inj h))
  · exact Or.inr (Or.inr h)
theorem ltS_asymm {a b : ByteArray} (h : ltS a b = true) : ltS b a = false := by
  cases e : ltS b a with
  | false => rfl
  | true => have := ltS_trans h e; rw [ltS_irrefl] at this; cases this
theorem leS_iff (a b : ByteArray) : leS a b = true ↔ ltS a b = true ∨ a = b := by
  unfold leS ltS
  simp only [Bool.or_eq_true, beq_iff_eq]
  exact ⟨fun h => h.elim Or.inl (fun e => Or.inr (toList_inj e)), fun h => h.elim Or.inl (fun e => Or.inr (by rw [e]))⟩
/-- 'not above' is 'below or the same'. -/
theorem leS_not (a b : ByteArray) : leS a b = !ltS b a := by
  rw [Bool.eq_iff_iff, leS_iff]
  rcases ltS_total a b with h | h | h
  · simp [h, ltS_asymm h]
  · subst h; simp [ltS_irrefl]
  · simp only [h, Bool.not_true, Bool.false_eq_true, iff_false, not_or]
    constructor
    · intro k; rw [ltS_asymm h] at k; cases k
    · intro e; subst e; rw [ltS_irrefl] at h; cases h
theorem empty_list : ByteArray.empty.toList = [] := by rw [Lib.toList_data]; rfl
theorem eqS_iff (a b : ByteArray) : eqS a b = true ↔ a = b := by
  unfold eqS
  rw [beq_iff_eq]
  exact ⟨toList_inj, fun h => by rw [h]⟩
theorem eqS_refl (a : ByteArray) : eqS a a = true := (eqS_iff a a).2 rfl
theorem eqS_lt {a b : ByteArray} (h : ltS a b = true) : eqS a b = false := by
  cases e : eqS a b with
  | false => rfl
  | true => rw [(eqS_iff a b).1 e, ltS_irrefl] at h; cases h
theorem eqS_comm (a b : ByteArray) : eqS a b = eqS b a := by
  rw [Bool.eq_iff_iff, eqS_iff, eqS_iff]
  exact ⟨Eq.symm, Eq.symm⟩
theorem nilS_iff (a : ByteArray) : nilS a = true ↔ a = ByteArray.empty := by
  unfold nilS
  rw [List.isEmpty_iff]
  exact ⟨fun h => toList_inj (by rw [h, empty_list]), fun h => by rw [h, empty_list]⟩
theorem ltS_nil (a : ByteArray) : ltS a ByteArray.empty = false := by
  unfold ltS; rw [empty_list]
  cases a.toList <;> rfl
theorem maxS_eq (x y : ByteArray) : Lib.maxS x y = if ltS x y then y else x := by
  unfold Lib.maxS ltS
  rw [Proofs.bytesLess_eq, Lib.toList_data, Lib.toList_data]
  by_cases h : x.data.toList < y.data.toList <;> simp [h]
theorem minS_eq (x y : ByteArray) : Lib.minS x y = if leS x y then x else y := by
  unfold Lib.minS leS
  rw [Proofs.bytesLess_eq, Lib.toList_data, Lib.toList_data]
  by_cases h : x.data.toList < y.data.toList <;> by_cases h' : x.data.toList = y.data.toList <;> simp [h, h']
  intro e; exact absurd (by rw [e]) h'

/-- a key and a byte 0 -/
def zeroS (k : ByteArray) : ByteArray := k ++ ⟨#[0]⟩
theorem blt_zero : ∀ x k : List UInt8, Op.bytesLess x (k ++ [0]) = (Op.bytesLess x k || x == k) := by
  intro x
  induction x with
  | nil => intro k; cases k <;> rfl
  | cons a x ih =>
    intro k
    cases k with
    | nil =>
      have : ¬ (a < 0) := by simp [UInt8.lt_iff_toNat_lt]
      cases x <;> simp [Op.bytesLess, this]
    | cons b k =>
      simp only [List.cons_append, Op.bytesLess, ih, List.cons_beq_cons]
      cases decide (a < b) <;> cases (a == b) <;> simp
theorem ltS_zero (a k : ByteArray) : ltS a (zeroS k) = leS a k := by
  unfold ltS leS zeroS
  have e : (k ++ (⟨#[0]⟩ : ByteArray)).toList = k.toList ++ [0] := by simp [Lib.toList_data, ByteArray.data_append]
  rw [e, blt_zero]
theorem zeroS_nil (k : ByteArray) : nilS (zeroS k) = false := by
  unfold nilS zeroS
  have e : (k ++ (⟨#[0]⟩ : ByteArray)).toList = k.toList ++ [0] := by simp [Lib.toList_data, ByteArray.data_append]
  rw [e]; simp

/-! spans -/
def hasS (f t k : ByteArray) : Bool := leS f k && (nilS t || ltS k t)
def emptyS (f t : ByteArray) : Bool := !nilS t && leS t f
def endS (a b : ByteArray) : ByteArray := if nilS a then b else if nilS b then a else Lib.minS a b
def meetS (af a_t bf bt : ByteArray) : Bool := !emptyS af a_t && !emptyS bf bt && !emptyS (Lib.maxS af bf) (endS a_t bt)

theorem maxS_le (a b k : ByteArray) : leS (Lib.maxS a b) k = (leS a k && leS b k) := by
  rw [maxS_eq]
  simp only [leS_not]
  rcases ltS_total a b with h | h | h
  · rw [if_pos h]
    cases e : ltS k b with
    | true => simp
    | false =>
      have : ltS k a = false := by
        cases e2 : ltS k a with
        | false => rfl
        | true => rw [ltS_trans e2 h] at e; cases e
      simp [this]
  · subst h; simp [ltS_irrefl]
  · rw [if_neg (by simp [ltS_asymm h])]
    cases e : ltS k a with
    | true => simp
    | false =>
      have : ltS k b = false := by
        cases e2 : ltS k b with
        | false => rfl
        | true => rw [ltS_trans e2 h] at e; cases e
      simp [this]
theorem minS_lt (a b k : ByteArray) : ltS k (Lib.minS a b) = (ltS k a && ltS k b) := by
  rw [minS_eq, leS_not]
  rcases ltS_total a b with h | h | h
  · rw [ltS_asymm h]
    cases e : ltS k a with
    | false => simp [e]
    | true => simp [e, ltS_trans e h]
  · subst h; simp [ltS_irrefl]
  · rw [h]
    cases e : ltS k b with
    | false => simp [e]
    | true => simp [e, ltS_trans e h]
theorem minS_nil {a b : ByteArray} (ha : nilS a = false) (hb : nilS b = false) : nilS (Lib.minS a b) = false := by
  rw [minS_eq]; split <;> assumption
theorem end_lt (a b k : ByteArray) : (nilS (endS a b) || ltS k (endS a b)) = ((nilS a || ltS k a) && (nilS b || ltS k b)) := by
  unfold endS
  cases ha : nilS a with
  | true => simp
  | false =>
    cases hb : nilS b with
    | true => simp [ha]
    | false => simp [minS_nil ha hb, minS_lt]
/-- what two spans have in common are just the keys that both have -/
theorem has_both (af a_t bf bt k : ByteArray) : hasS (Lib.maxS af bf) (endS a_t bt) k = (hasS af a_t k && hasS bf bt k) := by
  unfold hasS
  rw [maxS_le, end_lt]
  cases leS af k <;> cases leS bf k <;> cases (nilS a_t || ltS k a_t) <;> simp
theorem empty_has {f t k : ByteArray} (h : emptyS f t = true) : hasS f t k = false := by
  unfold emptyS at h; unfold hasS
  simp only [Bool.and_eq_true, Bool.not_eq_true', leS_not] at h
  rw [h.1, Bool.false_or, leS_not]
  have h2 : ltS f t = false := by simpa using h.2
  cases e : ltS k f with
  | true => rfl
  | false =>
    cases e2 : ltS k t with
    | false => rfl
    | true =>
      rcases ltS_total f k with h | h | h
      · rw [ltS_trans h e2] at h2; cases h2
      · subst h; rw [e2] at h2; cases h2
      · rw [h] at e; cases e
theorem has_not_empty {f t k : ByteArray} (h : hasS f t k = true) : emptyS f t = false := by
  cases e : emptyS f t with
  | false => rfl
  | true => rw [empty_has e] at h; cases h
theorem has_meet {af a_t bf bt k : ByteArray} (h : hasS af a_t k = true) (h' : hasS bf bt k = true) : meetS af a_t bf bt = true := by
  unfold meetS
  have hb : hasS (Lib.maxS af bf) (endS a_t bt) k = true := by rw [has_both, h, h']; rfl
  rw [has_not_empty h, has_not_empty h', has_not_empty hb]; rfl
/-- a span is empty just if it has no key: its From is a key of it, else -/
theorem not_empty_has (f t : ByteArray) : emptyS f t = !hasS f t f := by
  unfold emptyS hasS
  have e : leS f f = true := by rw [leS_iff]; exact Or.inr rfl
  rw [e, leS_not]
  cases nilS t <;> cases ltS f t <;> rfl
theorem maxS_comm (a b : ByteArray) : Lib.maxS a b = Lib.maxS b a := by
  simp only [maxS_eq]
  rcases ltS_total a b with h | h | h
  · simp [h, ltS_asymm h]
  · subst h; rfl
  · simp [h, ltS_asymm h]
theorem minS_comm (a b : ByteArray) : Lib.minS a b = Lib.minS b a := by
  simp only [minS_eq, leS_not]
  rcases ltS_total a b with h | h | h
  · simp [h, ltS_asymm h]
  · subst h; rfl
  · simp [h, ltS_asymm h]
theorem endS_comm (a b : ByteArray) : endS a b = endS b a := by
  unfold endS
  cases ha : nilS a <;> cases hb : nilS b <;> simp
  · exact minS_comm a b
  · rw [(nilS_iff a).1 ha, (nilS_iff b).1 hb]
theorem meet_comm (af a_t bf bt : ByteArray) : meetS af a_t bf bt = meetS bf bt af a_t := by
  unfold meetS
  rw [maxS_comm af bf, endS_comm a_t bt]
  cases emptyS af a_t <;> cases emptyS bf bt <;> rfl
theorem point_has (k o : ByteArray) : hasS k (zeroS k) o = eqS k o := by
  unfold hasS
  rw [zeroS_nil, ltS_zero, Bool.false_or, leS_not, leS_not]
  rcases ltS_total k o with h | h | h
  · rw [h, ltS_asymm h, eqS_lt h]; rfl
  · subst h; simp [ltS_irrefl, eqS_refl]
  · rw [h, eqS_comm, eqS_lt h]; rfl
theorem point_not_empty (k : ByteArray) : emptyS k (zeroS k) = false := by
  rw [not_empty_has, point_has, eqS_refl]; rfl
theorem point_meet (k af a_t : ByteArray) : meetS k (zeroS k) af a_t = (hasS af a_t k && !emptyS af a_t) := by
  cases h : hasS af a_t k with
  | true =>
    rw [has_meet (k := k) (by rw [point_has, eqS_refl]) h, has_not_empty h]; rfl
  | false =>
    unfold meetS
    rw [not_empty_has (Lib.maxS k af), has_both, point_has]
    cases e : eqS k (Lib.maxS k af) with
    | false => simp
    | true =>
      rw [← (eqS_iff _ _).1 e, h]; simp
end Go.Proofs.Ytkfpfbkdalbjoaa
