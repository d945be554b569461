/-
  Plain facts on names and keys of rows as lists of bytes. Nothing of the program is named here.
-/
import Derived.Test.YtpbhcjkllfonhaaStr
import Derived.Lib.Strings
import Derived.Lib.IndexBytes
import Derived.Test.YtpbhcjkllfonhaaBase
namespace Go.Proofs.Ytpbhcjkllfonhaa

def isLet (c : UInt8) : Bool := decide (97 ≤ c.toNat) && decide (c.toNat ≤ 122)
def isDig (c : UInt8) : Bool := decide (48 ≤ c.toNat) && decide (c.toNat ≤ 57)
/-- may this byte stand at this place of a name? -/
def nameAt (i : Nat) (c : UInt8) : Bool := isLet c || (decide (i ≠ 0) && isDig c)
def nameTo (l : List UInt8) (k : Nat) : Bool := (List.range k).all fun i => nameAt i (l.getD i 0)
def nameL (l : List UInt8) : Bool := decide (1 ≤ l.length) && decide (l.length ≤ 6) && nameTo l l.length
def digTo (l : List UInt8) (k : Nat) : Bool := (List.range k).all fun i => isDig (l.getD i 0)
def sixL (l : List UInt8) : Bool := decide (l.length = 6) && digTo l l.length

def namedL (k head : List UInt8) : Bool := Lib.hasPrefix k head && nameL (Lib.trimPrefix k head)
def messageOf (r : List UInt8) (i : Int) : Bool := decide (0 ≤ i) && (nameL (r.take i.toNat) && sixL (r.drop (i.toNat + 1)))
def messageL (k : List UInt8) : Bool := Lib.hasPrefix k [109, 47] && messageOf (Lib.trimPrefix k [109, 47]) (Lib.indexByte (Lib.trimPrefix k [109, 47]) 47)
def keyL (k : List UInt8) : Bool := namedL k [116, 47] || (namedL k [113, 47] || messageL k)

theorem nameTo_succ (l : List UInt8) (k : Nat) : nameTo l (k + 1) = (nameTo l k && nameAt k (l.getD k 0)) := by
  simp [nameTo, List.range_succ]
theorem digTo_succ (l : List UInt8) (k : Nat) : digTo l (k + 1) = (digTo l k && isDig (l.getD k 0)) := by
  simp [digTo, List.range_succ]
theorem nameTo_le {l : List UInt8} {k n : Nat} (h : k ≤ n) (hn : nameTo l k = false) : nameTo l n = false := by
  rw [nameTo, List.all_eq_false] at *
  obtain ⟨i, hi, h2⟩ := hn
  exact ⟨i, List.mem_range.2 (Nat.lt_of_lt_of_le (List.mem_range.1 hi) h), h2⟩
theorem digTo_le {l : List UInt8} {k n : Nat} (h : k ≤ n) (hn : digTo l k = false) : digTo l n = false := by
  rw [digTo, List.all_eq_false] at *
  obtain ⟨i, hi, h2⟩ := hn
  exact ⟨i, List.mem_range.2 (Nat.lt_of_lt_of_le (List.mem_range.1 hi) h), h2⟩
theorem byte_at (s : ByteArray) (k : Nat) (h : k < s.size) : s.data.toList.getD k 0 = s[k] := by
  rw [List.getD_eq_getElem?_getD, List.getElem?_eq_getElem (by simpa using h)]
  rfl
theorem len_data (s : ByteArray) : s.data.toList.length = s.size := by simp
end Go.Proofs.Ytpbhcjkllfonhaa

/-
  What package row's functions on names and digits return (isLetter, isDigit, Name, isNumber), for every text; they change nothing.
-/
namespace Go.Proofs.Ytpbhcjkllfonhaa
open Go.RowKit Go.Joins

set_option maxHeartbeats 400000 in
theorem isLetter_any (c : UInt8) (w : World) :
    Calls Try.prog 70 #[.int .u8 c.toNat] w fun e w' => e = .returned (.bool (isLet c)) ∧ w' = w := by
  go_enter Try.func70, Try.ntmps70
  go_wp2
  all_goals
    go_ret
    refine ⟨ret_bool ?_, rfl⟩
    simp only [isLet]
    first | (rw [Bool.eq_iff_iff]; simp; omega) | (simp; omega)

set_option maxHeartbeats 400000 in
theorem isDigit_any (c : UInt8) (w : World) :
    Calls Try.prog 71 #[.int .u8 c.toNat] w fun e w' => e = .returned (.bool (isDig c)) ∧ w' = w := by
  go_enter Try.func71, Try.ntmps71
  go_wp2
  all_goals
    go_ret
    refine ⟨ret_bool ?_, rfl⟩
    simp only [isDig]
    first | (rw [Bool.eq_iff_iff]; simp; omega) | (simp; omega)

set_option maxHeartbeats 1000000 in
theorem isNumber_any (s : ByteArray) (w : World) :
    Calls Try.prog 67 #[.string s] w fun e w' => e = .returned (.bool (sixL s.data.toList)) ∧ w' = w := by
  by_cases h6 : s.size = 6
  · have hg : ((s.size : Int) != 6) = false := by rw [h6]; rfl
    go_enter Try.func67, Try.ntmps67
    go_wp2
    go_loop [9] (fun i => ∃ k : Nat, k ≤ s.size ∧ i = .int .i64 k ∧ digTo s.data.toList k = true) (fun i => s.size - (intOf i).toNat)
    case atStart => exact ⟨0, Nat.zero_le _, rfl, rfl⟩
    case round =>
      obtain ⟨k, hk, rfl, hd⟩ := hrel
      have HD := hide hd
      clear hd
      by_cases hlt : k < s.size
      · have HS := hide (digTo_succ s.data.toList k)
        have HB := hide (byte_at s k hlt)
        cases hc : isDig s[k] with
        | true =>
          go_wp2_with (go_at_call 71; refine (isDigit_any _ _).mono ?_; rintro e w' ⟨rfl, rfl⟩)
          go_round
          case rel => exact ⟨k + 1, by omega, by go_num, by rw [HS.out, HD.out, HB.out, hc]; rfl⟩
          case measure => simp [intOf]; omega
        | false =>
          go_wp2_with (go_at_call 71; refine (isDigit_any _ _).mono ?_; rintro e w' ⟨rfl, rfl⟩)
          go_ret
          refine ⟨ret_bool ?_, rfl⟩
          rw [sixL, len_data, digTo_le (k := k + 1) (by omega) (by rw [HS.out, HB.out, hc, Bool.and_false]), Bool.and_false]
      · go_wp2
        go_ret
        refine ⟨ret_bool ?_, rfl⟩
        have e : k = s.size := by omega
        have := HD.out
        rw [e] at this
        rw [sixL, len_data, this]; simp [h6]
  · have hg : ((s.size : Int) != 6) = true := by rw [bne_iff_ne]; omega
    go_enter Try.func67, Try.ntmps67
    go_wp2
    go_ret
    exact ⟨ret_bool (by simp [sixL, h6]), rfl⟩

set_option maxHeartbeats 2000000 in
theorem name_any (s : ByteArray) (w : World) :
    Calls Try.prog 65 #[.string s] w fun e w' => e = .returned (.bool (nameL s.data.toList)) ∧ w' = w := by
  by_cases h1 : 1 ≤ s.size
  · by_cases h6 : s.size ≤ 6
    · go_enter Try.func65, Try.ntmps65
      go_wp2
      go_loop [14] (fun i => ∃ k : Nat, k ≤ s.size ∧ i = .int .i64 k ∧ nameTo s.data.toList k = true) (fun i => s.size - (intOf i).toNat)
      case atStart => exact ⟨0, Nat.zero_le _, rfl, rfl⟩
      case round =>
        obtain ⟨k, hk, rfl, hd⟩ := hrel
        have HD := hide hd
        clear hd
        by_cases hlt : k < s.size
        · have HS := hide (nameTo_succ s.data.toList k)
          have HB := hide (byte_at s k hlt)
          have yes : nameAt k s[k] = true → nameTo s.data.toList (k + 1) = true := fun h => by rw [HS.out, HD.out, HB.out, h]; rfl
          have no : nameAt k s[k] = false → nameL s.data.toList = false := fun h => by
            rw [nameL, len_data, nameTo_le (k := k + 1) (by omega) (by rw [HS.out, HB.out, h, Bool.and_false]), Bool.and_false]
          have HY := hide yes
          have HN := hide no
          clear yes no
          cases hc : isLet s[k] with
          | true =>
            go_wp2_with (first | (go_at_call 70; refine (isLetter_any _ _).mono ?_; rintro e w' ⟨rfl, rfl⟩) | (go_at_call 71; refine (isDigit_any _ _).mono ?_; rintro e w' ⟨rfl, rfl⟩))
            go_round
            case rel => exact ⟨k + 1, by omega, by go_num, HY.out (by simp [nameAt, hc])⟩
            case measure => simp [intOf]; omega
          | false =>
            by_cases h0 : k = 0
            · subst h0
              go_wp2_with (first | (go_at_call 70; refine (isLetter_any _ _).mono ?_; rintro e w' ⟨rfl, rfl⟩) | (go_at_call 71; refine (isDigit_any _ _).mono ?_; rintro e w' ⟨rfl, rfl⟩))
              go_ret
              exact ⟨ret_bool (HN.out (by simp [nameAt, hc])).symm, rfl⟩
            · have hk0 : ((k : Int) == 0) = false := beq_eq_false_iff_ne.2 (by omega)
              cases hd : isDig s[k] with
              | true =>
                go_wp2_with (first | (go_at_call 70; refine (isLetter_any _ _).mono ?_; rintro e w' ⟨rfl, rfl⟩) | (go_at_call 71; refine (isDigit_any _ _).mono ?_; rintro e w' ⟨rfl, rfl⟩))
                go_round
                case rel => exact ⟨k + 1, by omega, by go_num, HY.out (by simp [nameAt, hd, h0])⟩
                case measure => simp [intOf]; omega
              | false =>
                go_wp2_with (first | (go_at_call 70; refine (isLetter_any _ _).mono ?_; rintro e w' ⟨rfl, rfl⟩) | (go_at_call 71; refine (isDigit_any _ _).mono ?_; rintro e w' ⟨rfl, rfl⟩))
                go_ret
                exact ⟨ret_bool (HN.out (by simp [nameAt, hc, hd])).symm, rfl⟩
        · go_wp2
          go_ret
          refine ⟨ret_bool ?_, rfl⟩
          have e : k = s.size := by omega
          have := HD.out
          rw [e] at this
          rw [nameL, len_data, this]; simp [h1, h6]
    · go_enter Try.func65, Try.ntmps65
      go_wp2
      go_ret
      exact ⟨ret_bool (by simp [nameL, h6]), rfl⟩
  · go_enter Try.func65, Try.ntmps65
    go_wp2
    go_ret
    exact ⟨ret_bool (by simp [nameL]; omega), rfl⟩
end Go.Proofs.Ytpbhcjkllfonhaa
