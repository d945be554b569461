/-
  Plain facts on keys of rows as texts: which may be, which are the same, which a queue's span has. Nothing of the program is named here.
-/
import Derived.Test.YtighpalbodhfeaaGreatDoorBase
import Derived.Lib.Atoi
namespace Go.Proofs.YtighpalbodhfeaaGreatDoor

def tabB (s : ByteArray) : ByteArray := ⟨#[116, 47]⟩ ++ s
def queB (s : ByteArray) : ByteArray := ⟨#[113, 47]⟩ ++ s
def fromB (q : ByteArray) : ByteArray := ⟨#[109, 47]⟩ ++ q ++ ⟨#[47]⟩
def toB (q : ByteArray) : ByteArray := ⟨#[109, 47]⟩ ++ q ++ ⟨#[48]⟩
def msgB (q : ByteArray) (n : Nat) : ByteArray := fromB q ++ ⟨(six n).toArray⟩

theorem tabB_l (s : ByteArray) : (tabB s).data.toList = 116 :: 47 :: s.data.toList := by simp [tabB, ByteArray.data_append]
theorem queB_l (s : ByteArray) : (queB s).data.toList = 113 :: 47 :: s.data.toList := by simp [queB, ByteArray.data_append]
theorem fromB_l (s : ByteArray) : (fromB s).data.toList = 109 :: 47 :: (s.data.toList ++ [47]) := by simp [fromB, ByteArray.data_append]
theorem toB_l (s : ByteArray) : (toB s).data.toList = 109 :: 47 :: (s.data.toList ++ [48]) := by simp [toB, ByteArray.data_append]
theorem msgB_l (s : ByteArray) (n : Nat) : (msgB s n).data.toList = 109 :: 47 :: (s.data.toList ++ 47 :: six n) := by
  simp [msgB, ByteArray.data_append, fromB_l]

theorem data_inj {a b : ByteArray} (h : a.data.toList = b.data.toList) : a = b := toList_inj (by rw [Lib.toList_data, Lib.toList_data, h])
theorem eqS_data (a b : ByteArray) : eqS a b = (a.data.toList == b.data.toList) := by unfold eqS; rw [Lib.toList_data, Lib.toList_data]

theorem key_tab {s : ByteArray} (h : nameL s.data.toList = true) : keyL (tabB s).data.toList = true := by
  rw [tabB_l, keyL, namedL, Lib.trimPrefix]
  simp [Lib.hasPrefix, h]
theorem key_que {s : ByteArray} (h : nameL s.data.toList = true) : keyL (queB s).data.toList = true := by
  have : namedL (queB s).data.toList [113, 47] = true := by
    rw [queB_l, namedL, Lib.trimPrefix]
    simp [Lib.hasPrefix, h]
  rw [keyL, this]; simp
theorem key_msg {s : ByteArray} (h : nameL s.data.toList = true) (n : Nat) : keyL (msgB s n).data.toList = true := by
  have e : Lib.trimPrefix (msgB s n).data.toList [109, 47] = s.data.toList ++ 47 :: six n := by
    rw [msgB_l, Lib.trimPrefix]; simp [Lib.hasPrefix]
  have p : Lib.hasPrefix (msgB s n).data.toList [109, 47] = true := by rw [msgB_l]; simp [Lib.hasPrefix]
  have m : messageL (msgB s n).data.toList = true := by
    rw [messageL, p, e, index_name (name_mem h), messageOf]
    have t : (s.data.toList ++ 47 :: six n).take s.data.toList.length = s.data.toList := by simp
    have d : (s.data.toList ++ 47 :: six n).drop (s.data.toList.length + 1) = six n := by
      rw [List.drop_append]; simp
    simp only [Int.toNat_natCast, t, d, h, sixL_six]
    simp
  rw [keyL, m]; simp

theorem split_name {a b : List UInt8} (ha : ∀ c ∈ a, c ≠ 47) (hb : ∀ c ∈ b, c ≠ 47) {x y : List UInt8} (h : a ++ 47 :: x = b ++ 47 :: y) : a = b ∧ x = y := by
  have e1 := index_name ha x
  have e2 := index_name hb y
  rw [h, e2] at e1
  have l : b.length = a.length := by omega
  exact ⟨(List.append_inj h l.symm).1, (List.cons.inj (List.append_inj h l.symm).2).2⟩

theorem msg_eq {a b : ByteArray} (ha : nameL a.data.toList = true) (hb : nameL b.data.toList = true) {n m : Nat} (hn : n ≤ 999999) (hm : m ≤ 999999) :
    eqS (msgB a n) (msgB b m) = (eqS a b && decide (n = m)) := by
  rw [Bool.eq_iff_iff, Bool.and_eq_true, eqS_iff, eqS_iff, decide_eq_true_eq]
  constructor
  · intro h
    have h' := congrArg (fun s => s.data.toList) h
    simp only [msgB_l, List.cons.injEq, true_and] at h'
    obtain ⟨e1, e2⟩ := split_name (name_mem ha) (name_mem hb) h'
    exact ⟨data_inj e1, six_inj n m hn hm e2⟩
  · rintro ⟨rfl, rfl⟩; rfl

theorem span_has (q k : ByteArray) : hasS (fromB q) (toB q) k = (fromB q).data.toList.isPrefixOf k.data.toList := by
  have e := span_prefix (109 :: 47 :: q.data.toList) k.data.toList
  unfold hasS leS ltS nilS
  simp only [Lib.toList_data]
  rw [fromB_l, toB_l] at *
  simp only [List.cons_append] at e
  rw [← e]
  simp
theorem span_msg {a b : ByteArray} (ha : nameL a.data.toList = true) (hb : nameL b.data.toList = true) (m : Nat) : hasS (fromB a) (toB a) (msgB b m) = eqS a b := by
  rw [span_has, Bool.eq_iff_iff, List.isPrefixOf_iff_prefix, eqS_iff, fromB_l, msgB_l]
  constructor
  · rintro ⟨t, ht⟩
    simp only [List.cons_append, List.append_assoc, List.cons.injEq, true_and, List.nil_append] at ht
    exact data_inj (split_name (name_mem ha) (name_mem hb) ht).1
  · rintro rfl
    exact ⟨six m, by simp⟩
theorem span_tab (a b : ByteArray) : hasS (fromB a) (toB a) (tabB b) = false := by
  rw [span_has, fromB_l, tabB_l]; rfl
theorem span_que (a b : ByteArray) : hasS (fromB a) (toB a) (queB b) = false := by
  rw [span_has, fromB_l, queB_l]; rfl
theorem blt_same (p x y : List UInt8) : Op.bytesLess (p ++ x) (p ++ y) = Op.bytesLess x y := by
  induction p with
  | nil => rfl
  | cons c p ih => simp [Op.bytesLess, ih]
theorem msg_lt (a : ByteArray) {n m : Nat} (hn : n ≤ 999999) (hm : m ≤ 999999) : ltS (msgB a n) (msgB a m) = decide (n < m) := by
  unfold ltS
  rw [Lib.toList_data, Lib.toList_data, msgB_l, msgB_l]
  have := blt_same (109 :: 47 :: (a.data.toList ++ [47])) (six n) (six m)
  simp only [List.cons_append, List.append_assoc, List.nil_append] at this
  rw [this, six_lt n m hn hm]
theorem tab_que (a b : ByteArray) : eqS (tabB a) (queB b) = false := by
  rw [eqS_data, tabB_l, queB_l]; rfl
theorem tab_eq (a b : ByteArray) : eqS (tabB a) (tabB b) = eqS a b := by
  rw [eqS_data, eqS_data, tabB_l, tabB_l]; simp
theorem name_size {s : ByteArray} (h : nameL s.data.toList = true) : s.size ≤ 6 := by
  simp only [nameL, Bool.and_eq_true, decide_eq_true_eq, len_data] at h; omega
theorem msg_size (q : ByteArray) (n : Nat) : (msgB q n).size = q.size + 9 := by
  rw [Lib.size_eq, msgB_l, Lib.size_eq]; simp [six]
end Go.Proofs.YtighpalbodhfeaaGreatDoor

/-
  Plain facts on decimal digits and on texts of two numbers and a rest with blanks between. Nothing of the program is named here.
-/
namespace Go.Proofs.YtighpalbodhfeaaGreatDoor

theorem decFrom_append (l r : List UInt8) (acc : Nat) : Lib.decFrom acc (l ++ r) = (Lib.decFrom acc l).bind fun m => Lib.decFrom m r := by
  induction l generalizing acc with
  | nil => simp [Lib.decFrom]
  | cons b l ih =>
    simp only [List.cons_append, Lib.decFrom]
    cases Lib.digitVal b with
    | none => rfl
    | some d => exact ih _
theorem digitVal_of (d : Nat) (h : d < 10) : Lib.digitVal (UInt8.ofNat (48 + d)) = some d := by
  have : (UInt8.ofNat (48 + d)).toNat = 48 + d := by simp; omega
  simp only [Lib.digitVal, this]
  rw [if_pos (by omega)]; simp
theorem dec_from (n : Nat) : Lib.decFrom 0 (Lib.decDigits n) = some n := by
  induction n using Nat.strongRecOn with
  | _ n ih =>
    rw [Lib.decDigits]
    by_cases h : n < 10
    · rw [dif_pos h]; simp only [Lib.decFrom, digitVal_of n h]; simp
    · rw [dif_neg h, decFrom_append, ih (n / 10) (by omega)]
      simp only [Option.bind_some, Lib.decFrom, digitVal_of (n % 10) (Nat.mod_lt _ (by omega))]
      congr 1
      omega
theorem dec_dig (n : Nat) : ∀ c ∈ Lib.decDigits n, isDig c = true := by
  have one : ∀ d, d < 10 → isDig (UInt8.ofNat (48 + d)) = true := fun d hd => by
    have : (UInt8.ofNat (48 + d)).toNat = 48 + d := by simp; omega
    simp only [isDig, this, Bool.and_eq_true, decide_eq_true_eq]; omega
  induction n using Nat.strongRecOn with
  | _ n ih =>
    intro c hc
    rw [Lib.decDigits] at hc
    by_cases h : n < 10
    · rw [dif_pos h] at hc
      simp at hc
      rw [hc]; simpa using one n h
    · rw [dif_neg h, List.mem_append] at hc
      rcases hc with hc | hc
      · exact ih (n / 10) (by omega) c hc
      · simp at hc
        rw [hc]; simpa using one (n % 10) (by omega)
theorem dig_ne {c : UInt8} (h : isDig c = true) (x : UInt8) (hx : isDig x = false) : c ≠ x := by
  rintro rfl; rw [h] at hx; cases hx
theorem dec_ne (n : Nat) : Lib.decDigits n ≠ [] := by
  rw [Lib.decDigits]
  split <;> simp
theorem atoi_dec (n : Nat) : Lib.atoi (Lib.decDigits n) = some (n : Int) := by
  have h := dec_from n
  have hd := dec_dig n
  cases e : Lib.decDigits n with
  | nil => exact absurd e (dec_ne n)
  | cons b r =>
    rw [e] at h hd
    have hb := hd b (by simp)
    have n1 : (b == 45) = false := beq_eq_false_iff_ne.2 (dig_ne hb 45 (by decide))
    have n2 : (b == 43) = false := beq_eq_false_iff_ne.2 (dig_ne hb 43 (by decide))
    simp [Lib.atoi, n1, n2, Lib.decNat, h]
theorem len_dec_lt (n : Nat) (h : n ≤ 9999999) : (Lib.decDigits n).length ≤ 7 := by
  rw [Lib.decDigits_length]
  have s : ∀ m k, m < 10 ^ (k + 1) → Lib.nDigits m ≤ k + 1 := by
    intro m k
    induction k generalizing m with
    | zero => intro hm; rw [Lib.nDigits, dif_pos (by simpa using hm)]; omega
    | succ k ih =>
      intro hm
      rw [Lib.nDigits]
      split
      · omega
      · have := ih (m / 10) (by rw [Nat.pow_succ] at hm; omega)
        omega
  exact s n 6 (by omega)
theorem index_no {l : List UInt8} {x : UInt8} (h : ∀ c ∈ l, c ≠ x) (r : List UInt8) : Lib.indexByte (l ++ x :: r) x = l.length := by
  induction l with
  | nil => simp [Lib.indexByte]
  | cons c l ih =>
    have hc : (c == x) = false := beq_eq_false_iff_ne.2 (h c (by simp))
    have i := ih (fun y hy => h y (by simp [hy]))
    simp only [List.cons_append, Lib.indexByte, hc, i]
    have : ((l.length : Int) == -1) = false := beq_eq_false_iff_ne.2 (by omega)
    simp [this]

def decB (n : Nat) : ByteArray := ⟨(Lib.decDigits n).toArray⟩
theorem decB_l (n : Nat) : (decB n).data.toList = Lib.decDigits n := by simp [decB]
/-- two numbers and a rest, blanks between -/
def joinB (a b : Nat) (r : ByteArray) : ByteArray := decB a ++ ⟨#[32]⟩ ++ decB b ++ ⟨#[32]⟩ ++ r
theorem joinB_l (a b : Nat) (r : ByteArray) : (joinB a b r).data.toList = Lib.decDigits a ++ 32 :: (Lib.decDigits b ++ 32 :: r.data.toList) := by
  simp [joinB, ByteArray.data_append, decB_l]
theorem join_index1 (a b : Nat) (r : ByteArray) : Lib.indexByte (joinB a b r).data.toList 32 = (decB a).size := by
  rw [joinB_l, index_no (fun c hc => dig_ne (dec_dig a c hc) 32 (by decide)), Lib.size_eq, decB_l]
end Go.Proofs.YtighpalbodhfeaaGreatDoor
