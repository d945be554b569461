/-
  What package row's functions on names and digits return (isLetter, isDigit, Name, isNumber), for every text; they change nothing.
-/
import Derived.Test.YtkfpfbkdalbjoaaGreatBase
import Derived.Test.YtkfpfbkdalbjoaaGreatStr
namespace Go.Proofs.YtkfpfbkdalbjoaaGreat
open Go.RowKit Go.Joins

set_option maxHeartbeats 400000 in
theorem isLetter_any (c : UInt8) (w : World) :
    Calls Tryz.prog 92 #[.int .u8 c.toNat] w fun e w' => e = .returned (.bool (isLet c)) ∧ w' = w := by
  go_enter Tryz.func92, Tryz.ntmps92
  go_wp2
  all_goals
    go_ret
    refine ⟨ret_bool ?_, rfl⟩
    simp only [isLet]
    first | (rw [Bool.eq_iff_iff]; simp; omega) | (simp; omega)

set_option maxHeartbeats 400000 in
theorem isDigit_any (c : UInt8) (w : World) :
    Calls Tryz.prog 93 #[.int .u8 c.toNat] w fun e w' => e = .returned (.bool (isDig c)) ∧ w' = w := by
  go_enter Tryz.func93, Tryz.ntmps93
  go_wp2
  all_goals
    go_ret
    refine ⟨ret_bool ?_, rfl⟩
    simp only [isDig]
    first | (rw [Bool.eq_iff_iff]; simp; omega) | (simp; omega)

set_option maxHeartbeats 1000000 in
theorem isNumber_any (s : ByteArray) (w : World) :
    Calls Tryz.prog 90 #[.string s] w fun e w' => e = .returned (.bool (sixL s.data.toList)) ∧ w' = w := by
  by_cases h6 : s.size = 6
  · have hg : ((s.size : Int) != 6) = false := by rw [h6]; rfl
    go_enter Tryz.func90, Tryz.ntmps90
    go_wp2
    go_loop [9] (fun i => ∃ k : Nat, k ≤ s.size ∧ i = .int .i64 k ∧ digTo s.data.toList k = true) (fun i => s.size - (intOf i).toNat)
    case atStart => exact ⟨0, Nat.zero_le _, rfl, rfl⟩
    case round =>
      obtain ⟨k, hk, rfl, hd⟩ := hrel
      have HD := hide hd
      clear hd
      by_cases hlt : k < s.size
      · have HS := hide (digTo_succ s.data.toList k)
        have HB := hide (byte_at s k hlt)
        cases hc : isDig s[k] with
        | true =>
          go_wp2_with (go_at_call 93; refine (isDigit_any _ _).mono ?_; rintro e w' ⟨rfl, rfl⟩)
          go_round
          case rel => exact ⟨k + 1, by omega, by go_num, by rw [HS.out, HD.out, HB.out, hc]; rfl⟩
          case measure => simp [intOf]; omega
        | false =>
          go_wp2_with (go_at_call 93; refine (isDigit_any _ _).mono ?_; rintro e w' ⟨rfl, rfl⟩)
          go_ret
          refine ⟨ret_bool ?_, rfl⟩
          rw [sixL, len_data, digTo_le (k := k + 1) (by omega) (by rw [HS.out, HB.out, hc, Bool.and_false]), Bool.and_false]
      · go_wp2
        go_ret
        refine ⟨ret_bool ?_, rfl⟩
        have e : k = s.size := by omega
        have := HD.out
        rw [e] at this
        rw [sixL, len_data, this]; simp [h6]
  · have hg : ((s.size : Int) != 6) = true := by rw [bne_iff_ne]; omega
    go_enter Tryz.func90, Tryz.ntmps90
    go_wp2
    go_ret
    exact ⟨ret_bool (by simp [sixL, h6]), rfl⟩

set_option maxHeartbeats 2000000 in
theorem name_any (s : ByteArray) (w : World) :
    Calls Tryz.prog 88 #[.string s] w fun e w' => e = .returned (.bool (nameL s.data.toList)) ∧ w' = w := by
  by_cases h1 : 1 ≤ s.size
  · by_cases h6 : s.size ≤ 6
    · go_enter Tryz.func88, Tryz.ntmps88
      go_wp2
      go_loop [14] (fun i => ∃ k : Nat, k ≤ s.size ∧ i = .int .i64 k ∧ nameTo s.data.toList k = true) (fun i => s.size - (intOf i).toNat)
      case atStart => exact ⟨0, Nat.zero_le _, rfl, rfl⟩
      case round =>
        obtain ⟨k, hk, rfl, hd⟩ := hrel
        have HD := hide hd
        clear hd
        by_cases hlt : k < s.size
        · have HS := hide (nameTo_succ s.data.toList k)
          have HB := hide (byte_at s k hlt)
          have yes : nameAt k s[k] = true → nameTo s.data.toList (k + 1) = true := fun h => by rw [HS.out, HD.out, HB.out, h]; rfl
          have no : nameAt k s[k] = false → nameL s.data.toList = false := fun h => by
            rw [nameL, len_data, nameTo_le (k := k + 1) (by omega) (by rw [HS.out, HB.out, h, Bool.and_false]), Bool.and_false]
          have HY := hide yes
          have HN := hide no
          clear yes no
          cases hc : isLet s[k] with
          | true =>
            go_wp2_with (first | (go_at_call 92; refine (isLetter_any _ _).mono ?_; rintro e w' ⟨rfl, rfl⟩) | (go_at_call 93; refine (isDigit_any _ _).mono ?_; rintro e w' ⟨rfl, rfl⟩))
            go_round
            case rel => exact ⟨k + 1, by omega, by go_num, HY.out (by simp [nameAt, hc])⟩
            case measure => simp [intOf]; omega
          | false =>
            by_cases h0 : k = 0
            · subst h0
              go_wp2_with (first | (go_at_call 92; refine (isLetter_any _ _).mono ?_; rintro e w' ⟨rfl, rfl⟩) | (go_at_call 93; refine (isDigit_any _ _).mono ?_; rintro e w' ⟨rfl, rfl⟩))
              go_ret
              exact ⟨ret_bool (HN.out (by simp [nameAt, hc])).symm, rfl⟩
            · have hk0 : ((k : Int) == 0) = false := beq_eq_false_iff_ne.2 (by omega)
              cases hd : isDig s[k] with
              | true =>
                go_wp2_with (first | (go_at_call 92; refine (isLetter_any _ _).mono ?_; rintro e w' ⟨rfl, rfl⟩) | (go_at_call 93; refine (isDigit_any _ _).mono ?_; rintro e w' ⟨rfl, rfl⟩))
                go_round
                case rel => exact ⟨k + 1, by omega, by go_num, HY.out (by simp [nameAt, hd, h0])⟩
                case measure => simp [intOf]; omega
              | false =>
                go_wp2_with (first | (go_at_call 92; refine (isLetter_any _ _).mono ?_; rintro e w' ⟨rfl, rfl⟩) | (go_at_call 93; refine (isDigit_any _ _).mono ?_; rintro e w' ⟨rfl, rfl⟩))
                go_ret
                exact ⟨ret_bool (HN.out (by simp [nameAt, hc, hd])).symm, rfl⟩
        · go_wp2
          go_ret
          refine ⟨ret_bool ?_, rfl⟩
          have e : k = s.size := by omega
          have := HD.out
          rw [e] at this
          rw [nameL, len_data, this]; simp [h1, h6]
    · go_enter Tryz.func88, Tryz.ntmps88
      go_wp2
      go_ret
      exact ⟨ret_bool (by simp [nameL, h6]), rfl⟩
  · go_enter Tryz.func88, Tryz.ntmps88
    go_wp2
    go_ret
    exact ⟨ret_bool (by simp [nameL]; omega), rfl⟩
end Go.Proofs.YtkfpfbkdalbjoaaGreat
