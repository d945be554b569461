/-
  Plain facts on decimal digits and on texts of two numbers and a rest with blanks between. Nothing of the program is named here.
-/
import Derived.Test.YtlndiohdjdgaoaaDoorKeyL
import Derived.Lib.Atoi
namespace Go.Proofs.YtlndiohdjdgaoaaDoor

theorem decFrom_append (l r : List UInt8) (acc : Nat) : Lib.decFrom acc (l ++ r) = (Lib.decFrom acc l).bind fun m => Lib.decFrom m r := by
  induction l generalizing acc with
  | nil => simp [Lib.decFrom]
  | cons b l ih =>
    simp only [List.cons_append, Lib.decFrom]
    cases Lib.digitVal b with
    | none => rfl
    | some d => exact ih _
theorem digitVal_of (d : Nat) (h : d < 10) : Lib.digitVal (UInt8.ofNat (48 + d)) = some d := by
  have : (UInt8.ofNat (48 + d)).toNat = 48 + d := by simp; omega
  simp only [Lib.digitVal, this]
  rw [if_pos (by omega)]; simp
theorem dec_from (n : Nat) : Lib.decFrom 0 (Lib.decDigits n) = some n := by
  induction n using Nat.strongRecOn with
  | _ n ih =>
    rw [Lib.decDigits]
    by_cases h : n < 10
    · rw [dif_pos h]; simp only [Lib.decFrom, digitVal_of n h]; simp
    · rw [dif_neg h, decFrom_append, ih (n / 10) (by omega)]
      simp only [Option.bind_some, Lib.decFrom, digitVal_of (n % 10) (Nat.mod_lt _ (by omega))]
      congr 1
      omega
theorem dec_dig (n : Nat) : ∀ c ∈ Lib.decDigits n, isDig c = true := by
  have one : ∀ d, d < 10 → isDig (UInt8.ofNat (48 + d)) = true := fun d hd => by
    have : (UInt8.ofNat (48 + d)).toNat = 48 + d := by simp; omega
    simp only [isDig, this, Bool.and_eq_true, decide_eq_true_eq]; omega
  induction n using Nat.strongRecOn with
  | _ n ih =>
    intro c hc
    rw [Lib.decDigits] at hc
    by_cases h : n < 10
    · rw [dif_pos h] at hc
      simp at hc
      rw [hc]; simpa using one n h
    · rw [dif_neg h, List.mem_append] at hc
      rcases hc with hc | hc
      · exact ih (n / 10) (by omega) c hc
      · simp at hc
        rw [hc]; simpa using one (n % 10) (by omega)
theorem dig_ne {c : UInt8} (h : isDig c = true) (x : UInt8) (hx : isDig x = false) : c ≠ x := by
  rintro rfl; rw [h] at hx; cases hx
theorem dec_ne (n : Nat) : Lib.decDigits n ≠ [] := by
  rw [Lib.decDigits]
  split <;> simp
theorem atoi_dec (n : Nat) : Lib.atoi (Lib.decDigits n) = some (n : Int) := by
  have h := dec_from n
  have hd := dec_dig n
  cases e : Lib.decDigits n with
  | nil => exact absurd e (dec_ne n)
  | cons b r =>
    rw [e] at h hd
    have hb := hd b (by simp)
    have n1 : (b == 45) = false := beq_eq_false_iff_ne.2 (dig_ne hb 45 (by decide))
    have n2 : (b == 43) = false := beq_eq_false_iff_ne.2 (dig_ne hb 43 (by decide))
    simp [Lib.atoi, n1, n2, Lib.decNat, h]
theorem len_dec_lt (n : Nat) (h : n ≤ 9999999) : (Lib.decDigits n).length ≤ 7 := by
  rw [Lib.decDigits_length]
  have s : ∀ m k, m < 10 ^ (k + 1) → Lib.nDigits m ≤ k + 1 := by
    intro m k
    induction k generalizing m with
    | zero => intro hm; rw [Lib.nDigits, dif_pos (by simpa using hm)]; omega
    | succ k ih =>
      intro hm
      rw [Lib.nDigits]
      split
      · omega
      · have := ih (m / 10) (by rw [Nat.pow_succ] at hm; omega)
        omega
  exact s n 6 (by omega)
theorem index_no {l : List UInt8} {x : UInt8} (h : ∀ c ∈ l, c ≠ x) (r : List UInt8) : Lib.indexByte (l ++ x :: r) x = l.length := by
  induction l with
  | nil => simp [Lib.indexByte]
  | cons c l ih =>
    have hc : (c == x) = false := beq_eq_false_iff_ne.2 (h c (by simp))
    have i := ih (fun y hy => h y (by simp [hy]))
    simp only [List.cons_append, Lib.indexByte, hc, i]
    have : ((l.length : Int) == -1) = false := beq_eq_false_iff_ne.2 (by omega)
    simp [this]

def decB (n : Nat) : ByteArray := ⟨(Lib.decDigits n).toArray⟩
theorem decB_l (n : Nat) : (decB n).data.toList = Lib.decDigits n := by simp [decB]
/-- two numbers and a rest, blanks between -/
def joinB (a b : Nat) (r : ByteArray) : ByteArray := decB a ++ ⟨#[32]⟩ ++ decB b ++ ⟨#[32]⟩ ++ r
theorem joinB_l (a b : Nat) (r : ByteArray) : (joinB a b r).data.toList = Lib.decDigits a ++ 32 :: (Lib.decDigits b ++ 32 :: r.data.toList) := by
  simp [joinB, ByteArray.data_append, decB_l]
theorem join_index1 (a b : Nat) (r : ByteArray) : Lib.indexByte (joinB a b r).data.toList 32 = (decB a).size := by
  rw [joinB_l, index_no (fun c hc => dig_ne (dec_dig a c hc) 32 (by decide)), Lib.size_eq, decB_l]
end Go.Proofs.YtlndiohdjdgaoaaDoor
