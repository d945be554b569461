/-
  Plain facts on texts as bytes: their order, spans of them. Nothing of the program is named here.
-/
import Derived.Lib.MinMaxS
import Derived.Test.YtpbhcjkllfonhaaGreatRows
import Derived.WalkKit
import Derived.WalkSpells
import Derived.WalkLawsBesides
import Derived.Lib.SmallJoins
import Derived.BigQuiet
import Derived.Deep.RegionHeld3
import Derived.Deep.DrawnRows
namespace Go.Proofs.YtpbhcjkllfonhaaGreat

def ltS (a b : ByteArray) : Bool := Op.bytesLess a.toList b.toList
def leS (a b : ByteArray) : Bool := Op.bytesLess a.toList b.toList || a.toList == b.toList
def nilS (a : ByteArray) : Bool := a.toList.isEmpty
def eqS (a b : ByteArray) : Bool := a.toList == b.toList

theorem blt_irrefl : ∀ x : List UInt8, Op.bytesLess x x = false
  | [] => rfl
  | a :: x => by simp [Op.bytesLess, blt_irrefl x]

theorem blt_trans : ∀ x y z : List UInt8, Op.bytesLess x y = true → Op.bytesLess y z = true → Op.bytesLess x z = true := by
  intro x
  induction x with
  | nil => intro y z h1 h2; cases y <;> cases z <;> simp_all [Op.bytesLess]
  | cons a x ih =>
    intro y z h1 h2
    cases y with
    | nil => simp [Op.bytesLess] at h1
    | cons b y =>
      cases z with
      | nil => simp [Op.bytesLess] at h2
      | cons c z =>
        simp only [Op.bytesLess, Bool.or_eq_true, decide_eq_true_eq, Bool.and_eq_true, beq_iff_eq, UInt8.lt_iff_toNat_lt] at *
        rcases h1 with h1 | ⟨rfl, h1⟩ <;> rcases h2 with h2 | ⟨rfl, h2⟩
        · left; omega
        · left; exact h1
        · left; exact h2
        · right; exact ⟨rfl, ih y z h1 h2⟩

theorem blt_total : ∀ x y : List UInt8, Op.bytesLess x y = true ∨ x = y ∨ Op.bytesLess y x = true := by
  intro x
  induction x with
  | nil => intro y; cases y <;> simp [Op.bytesLess]
  | cons a x ih =>
    intro y
    cases y with
    | nil => simp [Op.bytesLess]
    | cons b y =>
      simp only [Op.bytesLess, Bool.or_eq_true, decide_eq_true_eq, Bool.and_eq_true, beq_iff_eq, UInt8.lt_iff_toNat_lt, List.cons.injEq]
      rcases Nat.lt_trichotomy a.toNat b.toNat with h | h | h
      · exact Or.inl (Or.inl h)
      · have e : a = b := UInt8.toNat_inj.1 h
        subst e
        rcases ih y with h | h | h
        · exact Or.inl (Or.inr ⟨rfl, h⟩)
        · exact Or.inr (Or.inl ⟨rfl, h⟩)
        · exact Or.inr (Or.inr (Or.inr ⟨rfl, h⟩))
      · exact Or.inr (Or.inr (Or.inl h))

theorem toList_inj {a b : ByteArray} (h : a.toList = b.toList) : a = b := by
  rw [Lib.toList_data, Lib.toList_data] at h
  cases a; cases b; simp_all

theorem ltS_irrefl (a : ByteArray) : ltS a a = false := blt_irrefl _
theorem ltS_trans {a b c : ByteArray} (h : ltS a b = true) (k : ltS b c = true) : ltS a c = true := blt_trans _ _ _ h k
theorem ltS_total (a b : ByteArray) : ltS a b = true ∨ a = b ∨ ltS b a = true := by
  rcases blt_total a.toList b.toList with h | h | h
  · exact Or.inl h
  · exact Or.inr (Or.inl (toList_inj h))
  · exact Or.inr (Or.inr h)
theorem ltS_asymm {a b : ByteArray} (h : ltS a b = true) : ltS b a = false := by
  cases e : ltS b a with
  | false => rfl
  | true => have := ltS_trans h e; rw [ltS_irrefl] at this; cases this
theorem leS_iff (a b : ByteArray) : leS a b = true ↔ ltS a b = true ∨ a = b := by
  unfold leS ltS
  simp only [Bool.or_eq_true, beq_iff_eq]
  exact ⟨fun h => h.elim Or.inl (fun e => Or.inr (toList_inj e)), fun h => h.elim Or.inl (fun e => Or.inr (by rw [e]))⟩
/-- 'not above' is 'below or the same'. -/
theorem leS_not (a b : ByteArray) : leS a b = !ltS b a := by
  rw [Bool.eq_iff_iff, leS_iff]
  rcases ltS_total a b with h | h | h
  · simp [h, ltS_asymm h]
  · subst h; simp [ltS_irrefl]
  · simp only [h, Bool.not_true, Bool.false_eq_true, iff_false, not_or]
    constructor
    · intro k; rw [ltS_asymm h] at k; cases k
    · intro e; subst e; rw [ltS_irrefl] at h; cases h
theorem empty_list : ByteArray.empty.toList = [] := by rw [Lib.toList_data]; rfl
theorem eqS_iff (a b : ByteArray) : eqS a b = true ↔ a = b := by
  unfold eqS
  rw [beq_iff_eq]
  exact ⟨toList_inj, fun h => by rw [h]⟩
theorem eqS_refl (a : ByteArray) : eqS a a = true := (eqS_iff a a).2 rfl
theorem eqS_lt {a b : ByteArray} (h : ltS a b = true) : eqS a b = false := by
  cases e : eqS a b with
  | false => rfl
  | true => rw [(eqS_iff a b).1 e, ltS_irrefl] at h; cases h
theorem eqS_comm (a b : ByteArray) : eqS a b = eqS b a := by
  rw [Bool.eq_iff_iff, eqS_iff, eqS_iff]
  exact ⟨Eq.symm, Eq.symm⟩
theorem nilS_iff (a : ByteArray) : nilS a = true ↔ a = ByteArray.empty := by
  unfold nilS
  rw [List.isEmpty_iff]
  exact ⟨fun h => toList_inj (by rw [h, empty_list]), fun h => by rw [h, empty_list]⟩
theorem ltS_nil (a : ByteArray) : ltS a ByteArray.empty = false := by
  unfold ltS; rw [empty_list]
  cases a.toList <;> rfl
theorem maxS_eq (x y : ByteArray) : Lib.maxS x y = if ltS x y then y else x := by
  unfold Lib.maxS ltS
  rw [Proofs.bytesLess_eq, Lib.toList_data, Lib.toList_data]
  by_cases h : x.data.toList < y.data.toList <;> simp [h]
theorem minS_eq (x y : ByteArray) : Lib.minS x y = if leS x y then x else y := by
  unfold Lib.minS leS
  rw [Proofs.bytesLess_eq, Lib.toList_data, Lib.toList_data]
  by_cases h : x.data.toList < y.data.toList <;> by_cases h' : x.data.toList = y.data.toList <;> simp [h, h']
  intro e; exact absurd (by rw [e]) h'

/-- a key and a byte 0 -/
def zeroS (k : ByteArray) : ByteArray := k ++ ⟨#[0]⟩
theorem blt_zero : ∀ x k : List UInt8, Op.bytesLess x (k ++ [0]) = (Op.bytesLess x k || x == k) := by
  intro x
  induction x with
  | nil => intro k; cases k <;> rfl
  | cons a x ih =>
    intro k
    cases k with
    | nil =>
      have : ¬ (a < 0) := by simp [UInt8.lt_iff_toNat_lt]
      cases x <;> simp [Op.bytesLess, this]
    | cons b k =>
      simp only [List.cons_append, Op.bytesLess, ih, List.cons_beq_cons]
      cases decide (a < b) <;> cases (a == b) <;> simp
theorem ltS_zero (a k : ByteArray) : ltS a (zeroS k) = leS a k := by
  unfold ltS leS zeroS
  have e : (k ++ (⟨#[0]⟩ : ByteArray)).toList = k.toList ++ [0] := by simp [Lib.toList_data, ByteArray.data_append]
  rw [e, blt_zero]
theorem zeroS_nil (k : ByteArray) : nilS (zeroS k) = false := by
  unfold nilS zeroS
  have e : (k ++ (⟨#[0]⟩ : ByteArray)).toList = k.toList ++ [0] := by simp [Lib.toList_data, ByteArray.data_append]
  rw [e]; simp

/-! spans -/
def hasS (f t k : ByteArray) : Bool := leS f k && (nilS t || ltS k t)
def emptyS (f t : ByteArray) : Bool := !nilS t && leS t f
def endS (a b : ByteArray) : ByteArray := if nilS a then b else if nilS b then a else Lib.minS a b
def meetS (af a_t bf bt : ByteArray) : Bool := !emptyS af a_t && !emptyS bf bt && !emptyS (Lib.maxS af bf) (endS a_t bt)

theorem maxS_le (a b k : ByteArray) : leS (Lib.maxS a b) k = (leS a k && leS b k) := by
  rw [maxS_eq]
  simp only [leS_not]
  rcases ltS_total a b with h | h | h
  · rw [if_pos h]
    cases e : ltS k b with
    | true => simp
    | false =>
      have : ltS k a = false := by
        cases e2 : ltS k a with
        | false => rfl
        | true => rw [ltS_trans e2 h] at e; cases e
      simp [this]
  · subst h; simp [ltS_irrefl]
  · rw [if_neg (by simp [ltS_asymm h])]
    cases e : ltS k a with
    | true => simp
    | false =>
      have : ltS k b = false := by
        cases e2 : ltS k b with
        | false => rfl
        | true => rw [ltS_trans e2 h] at e; cases e
      simp [this]
theorem minS_lt (a b k : ByteArray) : ltS k (Lib.minS a b) = (ltS k a && ltS k b) := by
  rw [minS_eq, leS_not]
  rcases ltS_total a b with h | h | h
  · rw [ltS_asymm h]
    cases e : ltS k a with
    | false => simp [e]
    | true => simp [e, ltS_trans e h]
  · subst h; simp [ltS_irrefl]
  · rw [h]
    cases e : ltS k b with
    | false => simp [e]
    | true => simp [e, ltS_trans e h]
theorem minS_nil {a b : ByteArray} (ha : nilS a = false) (hb : nilS b = false) : nilS (Lib.minS a b) = false := by
  rw [minS_eq]; split <;> assumption
theorem end_lt (a b k : ByteArray) : (nilS (endS a b) || ltS k (endS a b)) = ((nilS a || ltS k a) && (nilS b || ltS k b)) := by
  unfold endS
  cases ha : nilS a with
  | true => simp
  | false =>
    cases hb : nilS b with
    | true => simp [ha]
    | false => simp [minS_nil ha hb, minS_lt]
/-- what two spans have in common are just the keys that both have -/
theorem has_both (af a_t bf bt k : ByteArray) : hasS (Lib.maxS af bf) (endS a_t bt) k = (hasS af a_t k && hasS bf bt k) := by
  unfold hasS
  rw [maxS_le, end_lt]
  cases leS af k <;> cases leS bf k <;> cases (nilS a_t || ltS k a_t) <;> simp
theorem empty_has {f t k : ByteArray} (h : emptyS f t = true) : hasS f t k = false := by
  unfold emptyS at h; unfold hasS
  simp only [Bool.and_eq_true, Bool.not_eq_true', leS_not] at h
  rw [h.1, Bool.false_or, leS_not]
  have h2 : ltS f t = false := by simpa using h.2
  cases e : ltS k f with
  | true => rfl
  | false =>
    cases e2 : ltS k t with
    | false => rfl
    | true =>
      rcases ltS_total f k with h | h | h
      · rw [ltS_trans h e2] at h2; cases h2
      · subst h; rw [e2] at h2; cases h2
      · rw [h] at e; cases e
theorem has_not_empty {f t k : ByteArray} (h : hasS f t k = true) : emptyS f t = false := by
  cases e : emptyS f t with
  | false => rfl
  | true => rw [empty_has e] at h; cases h
theorem has_meet {af a_t bf bt k : ByteArray} (h : hasS af a_t k = true) (h' : hasS bf bt k = true) : meetS af a_t bf bt = true := by
  unfold meetS
  have hb : hasS (Lib.maxS af bf) (endS a_t bt) k = true := by rw [has_both, h, h']; rfl
  rw [has_not_empty h, has_not_empty h', has_not_empty hb]; rfl
/-- a span is empty just if it has no key: its From is a key of it, else -/
theorem not_empty_has (f t : ByteArray) : emptyS f t = !hasS f t f := by
  unfold emptyS hasS
  have e : leS f f = true := by rw [leS_iff]; exact Or.inr rfl
  rw [e, leS_not]
  cases nilS t <;> cases ltS f t <;> rfl
theorem maxS_comm (a b : ByteArray) : Lib.maxS a b = Lib.maxS b a := by
  simp only [maxS_eq]
  rcases ltS_total a b with h | h | h
  · simp [h, ltS_asymm h]
  · subst h; rfl
  · simp [h, ltS_asymm h]
theorem minS_comm (a b : ByteArray) : Lib.minS a b = Lib.minS b a := by
  simp only [minS_eq, leS_not]
  rcases ltS_total a b with h | h | h
  · simp [h, ltS_asymm h]
  · subst h; rfl
  · simp [h, ltS_asymm h]
theorem endS_comm (a b : ByteArray) : endS a b = endS b a := by
  unfold endS
  cases ha : nilS a <;> cases hb : nilS b <;> simp
  · exact minS_comm a b
  · rw [(nilS_iff a).1 ha, (nilS_iff b).1 hb]
theorem meet_comm (af a_t bf bt : ByteArray) : meetS af a_t bf bt = meetS bf bt af a_t := by
  unfold meetS
  rw [maxS_comm af bf, endS_comm a_t bt]
  cases emptyS af a_t <;> cases emptyS bf bt <;> rfl
theorem point_has (k o : ByteArray) : hasS k (zeroS k) o = eqS k o := by
  unfold hasS
  rw [zeroS_nil, ltS_zero, Bool.false_or, leS_not, leS_not]
  rcases ltS_total k o with h | h | h
  · rw [h, ltS_asymm h, eqS_lt h]; rfl
  · subst h; simp [ltS_irrefl, eqS_refl]
  · rw [h, eqS_comm, eqS_lt h]; rfl
theorem point_not_empty (k : ByteArray) : emptyS k (zeroS k) = false := by
  rw [not_empty_has, point_has, eqS_refl]; rfl
theorem point_meet (k af a_t : ByteArray) : meetS k (zeroS k) af a_t = (hasS af a_t k && !emptyS af a_t) := by
  cases h : hasS af a_t k with
  | true =>
    rw [has_meet (k := k) (by rw [point_has, eqS_refl]) h, has_not_empty h]; rfl
  | false =>
    unfold meetS
    rw [not_empty_has (Lib.maxS k af), has_both, point_has]
    cases e : eqS k (Lib.maxS k af) with
    | false => simp
    | true =>
      rw [← (eqS_iff _ _).1 e, h]; simp
end Go.Proofs.YtpbhcjkllfonhaaGreat

/-
  Small helpers of the walks: what was there is there behind a call that makes new memory alone; an ending's value by an equation.
-/
namespace Go.Proofs.YtpbhcjkllfonhaaGreat
open Go.RowKit Go.Joins

theorem cell_on {W w1 : World} {p : Addr} {v : Value} (hb : Below W.heap.size W w1) (h : W.cell? p = some v) : w1.cell? p = some v := cell_later hb h
theorem below_on {B : Nat} {w W w1 : World} (hB : Below B w W) (hw : B ≤ w.heap.size) (hb : Below W.heap.size W w1) : Below B w w1 :=
  hB.trans (hb.mono (Nat.le_trans hw hB.size))
theorem cell_new (w : World) (C : Array Value) (t : TypeId) (j : Nat) : (w.alloc (.cells C t)).cell? ⟨w.heap.size, j, none⟩ = C[j]? := cell_of_block (Go.heap_alloc_new w _) j
theorem frozen_on {W w1 : World} {p : Addr} (hb : Below W.heap.size W w1) (hp : p.block < W.heap.size) (h : W.frozen? p = false) : w1.frozen? p = false := (hb.frozen hp).trans h
theorem frozen_new (w : World) (C : Array Value) (t : TypeId) (j : Nat) : (w.alloc (.cells C t)).frozen? ⟨w.heap.size, j, none⟩ = false := unfrozen_of_block (Go.heap_alloc_new w _) j
theorem hide {p : Prop} (h : p) : Hid p := h
theorem ret_bool {a b : Bool} (h : a = b) : Ending.returned (.bool a) = .returned (.bool b) := by rw [h]
theorem ret_string {a b : ByteArray} (h : a = b) : Ending.returned (.string a) = .returned (.string b) := by rw [h]
theorem ret_int {k : IntKind} {a b : Int} (h : a = b) : Ending.returned (.int k a) = .returned (.int k b) := by rw [h]

/-- A world in which all is there that was there in W. -/
structure OnW (W : World) where
  w : World
  on : Below W.heap.size W w
theorem OnW.cell {W : World} (n : OnW W) {p : Addr} {v : Value} (h : W.cell? p = some v) : n.w.cell? p = some v := cell_on n.on h
theorem OnW.some (W : World) : Nonempty (OnW W) := ⟨⟨W, Below.refl _ _⟩⟩
/-- A region that draws its order, whose operations read and whose callees make new memory alone, walked once, in the order of the text: the class of worlds is 'all is there that was'. -/
theorem wp_region_on {P : Program} {id : Nat} {Q : Exit → Act → World → Prop} {a : Act} {w : World} {l : List Oper} (hm : P.follows .mixedOrders = true) (hB : Region.lexB .any l.toArray = true)
    (h : wpQuiet P l.toArray (fun w' => ∃ n : OnW w, w' = n.w) (fun a' => ∀ w', (∃ n : OnW w, w' = n.w) → Q .normal a' w') l a) : (Code.region id l.toArray true).wp P Q a w :=
  wp_region_quiet (C := fun w' => ∃ n : OnW w, w' = n.w) hm hB ⟨⟨w.drew, (Below.refl _ _).drew⟩, rfl⟩ (by simpa using h)
theorem on_end {W w' : World} (h : ∃ n : OnW W, w' = n.w) : Below W.heap.size W w' := by obtain ⟨n, rfl⟩ := h; exact n.on
theorem on_call {P : Program} {f : FuncId} {args : Array Value} {W : World} {n : OnW W} {v : Value}
    (h : Calls P f args n.w fun e w' => e = .returned v ∧ Below n.w.heap.size n.w w') : Calls P f args n.w fun e w'' => e = .returned v ∧ ∃ m : OnW W, w'' = m.w :=
  h.mono fun _ w' ⟨he, hb⟩ => ⟨he, ⟨w', below_on n.on (Nat.le_refl _) hb⟩, rfl⟩
theorem on_same {P : Program} {f : FuncId} {args : Array Value} {W : World} {n : OnW W} {v : Value}
    (h : Calls P f args n.w fun e w' => e = .returned v ∧ w' = n.w) : Calls P f args n.w fun e w'' => e = .returned v ∧ ∃ m : OnW W, w'' = m.w :=
  h.mono fun _ _ ⟨he, hw⟩ => ⟨he, n, hw⟩
/-- a contract's value, told otherwise -/
theorem call_val {P : Program} {f : FuncId} {args : Array Value} {w : World} {v v' : Value} {R : World → Prop} (h : Calls P f args w fun e w' => e = .returned v ∧ R w') (hv : v = v') : Calls P f args w fun e w' => e = .returned v' ∧ R w' := hv ▸ h
end Go.Proofs.YtpbhcjkllfonhaaGreat

/-
  What span.Has returns, for every span and key; nothing that was there is changed.
-/
namespace Go.Proofs.YtpbhcjkllfonhaaGreat
open Go.RowKit Go.Joins

set_option maxHeartbeats 400000 in
theorem has_any (f t k : ByteArray) (w : World) :
    Calls Tryz.prog 53 #[.agg #[.string f, .string t], .string k] w fun e w' => e = .returned (.bool (hasS f t k)) ∧ Below w.heap.size w w' := by
  go_enter Tryz.func53, Tryz.ntmps53
  go_wp2
  all_goals
    go_ret
    refine ⟨?_, below_alloc1 _ _⟩
    simp_all [hasS, leS, ltS, nilS]

end Go.Proofs.YtpbhcjkllfonhaaGreat

/-
  What haywainlaw.LightSpans returns of a list of spans that lies in memory: are there at most 50, and has none an end of more than 60 bytes? It changes nothing.
-/
namespace Go.Proofs.YtpbhcjkllfonhaaGreat
open Go.RowKit Go.Joins

/-- spans, two texts each, lie in block b from off on -/
def spansAt (w : World) (b off : Nat) (l : List (ByteArray × ByteArray)) : Prop :=
  ∀ i (h : i < l.length), w.cell? ⟨b, off + i * 2, none⟩ = some (.string l[i].1) ∧ w.cell? ⟨b, off + i * 2 + 1, none⟩ = some (.string l[i].2)
def lightSpan (s : ByteArray × ByteArray) : Bool := decide (s.1.size ≤ 60) && decide (s.2.size ≤ 60)
def lightSpans (l : List (ByteArray × ByteArray)) : Bool := decide (l.length ≤ 50) && l.all lightSpan

theorem light_take {l : List (ByteArray × ByteArray)} {k : Nat} (hk : k < l.length) (h : (l.take k).all lightSpan = true) (h2 : lightSpan l[k] = true) : (l.take (k + 1)).all lightSpan = true := by
  rw [List.take_succ_eq_append_getElem hk, List.all_append, h]; simp [h2]
theorem light_not {l : List (ByteArray × ByteArray)} {k : Nat} (hk : k < l.length) (h : lightSpan l[k] = false) : lightSpans l = false := by
  unfold lightSpans
  have : l.all lightSpan = false := by
    rw [List.all_eq_false]; exact ⟨l[k], List.getElem_mem hk, by simp [h]⟩
  rw [this, Bool.and_false]

set_option maxHeartbeats 1000000 in
theorem lightSpans_some (l : List (ByteArray × ByteArray)) (b off cap : Nat) (w : World) (hl : spansAt w b off l) (hn : l.length ≤ maxLen) :
    Calls Tryz.prog 24 #[.slice (some ⟨b, off, none⟩) l.length cap] w fun e w' => e = .returned (.bool (lightSpans l)) ∧ w' = w := by
  unfold maxLen at hn
  by_cases h50 : l.length ≤ 50
  · have hg : decide ((50 : Int) < (l.length : Int)) = false := by simp; omega
    go_enter Tryz.func24, Tryz.ntmps24
    go_wp2
    go_loop [3] (fun i => ∃ k : Nat, k ≤ l.length ∧ i = .int .i64 k ∧ (l.take k).all lightSpan = true) (fun i => l.length - (intOf i).toNat)
    case atStart => exact ⟨0, Nat.zero_le _, rfl, by simp⟩
    case round =>
      obtain ⟨k, hk, rfl, hall⟩ := hrel
      have HA : Hid ((l.take k).all lightSpan = true) := hall
      clear hall
      by_cases hlt : k < l.length
      · obtain ⟨c0, c1⟩ := hl k hlt
        go_wp2
        · go_ret
          exact ⟨ret_bool (light_not hlt (by simp only [lightSpan, Bool.and_eq_false_iff, decide_eq_false_iff_not]; omega)).symm, rfl⟩
        · go_round
          case rel => exact ⟨k + 1, by omega, by go_num, light_take hlt HA.out (by simp only [lightSpan, Bool.and_eq_true, decide_eq_true_eq]; omega)⟩
          case measure => simp [intOf]; omega
        · go_ret
          exact ⟨ret_bool (light_not hlt (by simp only [lightSpan, Bool.and_eq_false_iff, decide_eq_false_iff_not]; omega)).symm, rfl⟩
      · go_wp2
        go_ret
        refine ⟨ret_bool ?_, rfl⟩
        have e : l.take k = l := List.take_of_length_le (by omega)
        have := HA.out
        rw [e] at this
        simp [lightSpans, this, h50]
  · have hg : decide ((50 : Int) < (l.length : Int)) = true := by simp; omega
    go_enter Tryz.func24, Tryz.ntmps24
    go_wp2
    go_ret
    exact ⟨ret_bool (by simp [lightSpans, h50]), rfl⟩
/-- of a slice without elements, nil or not -/
theorem lightSpans_nil (ao : Option Addr) (cap : Nat) (w : World) :
    Calls Tryz.prog 24 #[.slice ao 0 cap] w fun e w' => e = .returned (.bool true) ∧ w' = w := by
  go_enter Tryz.func24, Tryz.ntmps24
  go_wp2
  refine wp_loop_rounds 1 ?_
  rw [rounds_succ]
  go_wp2
  go_ret
  exact ⟨rfl, rfl⟩
end Go.Proofs.YtpbhcjkllfonhaaGreat
