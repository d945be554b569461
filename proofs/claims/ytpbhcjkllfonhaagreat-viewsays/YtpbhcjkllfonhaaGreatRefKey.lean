/-
  What the document's answers on names and keys return (haywainref.NameMay, KeyFault): the same as package row's, for every text; they change nothing.
-/
import Derived.Test.YtpbhcjkllfonhaaGreatKeyL
import Derived.Test.YtpbhcjkllfonhaaGreatStr
namespace Go.Proofs.YtpbhcjkllfonhaaGreat
open Go.RowKit Go.Joins

theorem let_iff (c : UInt8) : isLet c = true ↔ 97 ≤ (c.toNat : Int) ∧ (c.toNat : Int) ≤ 122 := by
  simp only [isLet, Bool.and_eq_true, decide_eq_true_eq]; omega
theorem dig_iff (c : UInt8) : isDig c = true ↔ 48 ≤ (c.toNat : Int) ∧ (c.toNat : Int) ≤ 57 := by
  simp only [isDig, Bool.and_eq_true, decide_eq_true_eq]; omega
theorem name_first {s : ByteArray} (h1 : 0 < s.size) (h : isLet s[0] = false) : nameL s.data.toList = false := by
  rw [nameL, len_data, nameTo_le (k := 1) (by omega) (by rw [nameTo_succ, byte_at s 0 h1]; simp [nameAt, h]), Bool.and_false]

set_option maxHeartbeats 2000000 in
theorem nameMay_any (s : ByteArray) (w : World) :
    Calls Tryz.prog 49 #[.string s] w fun e w' => e = .returned (.bool (nameL s.data.toList)) ∧ w' = w := by
  by_cases h1 : 1 ≤ s.size
  · have hz : 0 < s.size := h1
    by_cases h6 : s.size ≤ 6
    · cases hc : isLet s[0] with
      | false =>
        have hN := name_first hz hc
        have hL := mt (let_iff s[0]).2 (by rw [hc]; simp)
        rw [hN]
        clear hN hc
        go_enter Tryz.func49, Tryz.ntmps49
        go_wp2
        all_goals first
          | (go_ret; exact ⟨rfl, rfl⟩)
          | (exfalso; omega)
      | true =>
        obtain ⟨l1, l2⟩ := (let_iff s[0]).1 hc
        go_enter Tryz.func49, Tryz.ntmps49
        go_wp2
        go_loop [3] (fun i => ∃ k : Nat, k ≤ s.size ∧ i = .int .i64 k ∧ nameTo s.data.toList k = true) (fun i => s.size - (intOf i).toNat)
        case atStart => exact ⟨0, Nat.zero_le _, rfl, rfl⟩
        case round =>
          obtain ⟨k, hk, rfl, hd⟩ := hrel
          have HD := hide hd
          clear hd
          by_cases hlt : k < s.size
          · have HS := hide (nameTo_succ s.data.toList k)
            have HB := hide (byte_at s k hlt)
            have HC := hide hc
            have HY : Hid (isLet s[k] = true ∨ isDig s[k] = true → nameTo s.data.toList (k + 1) = true) := fun h => by
              rw [HS.out, HD.out, HB.out]
              rcases h with h | h
              · simp [nameAt, h]
              · by_cases k0 : k = 0
                · subst k0; simp [nameAt, HC.out]
                · simp [nameAt, h, k0]
            have HN : Hid (isLet s[k] = false → isDig s[k] = false → nameL s.data.toList = false) := fun h h' => by
              rw [nameL, len_data, nameTo_le (k := k + 1) (by omega) (by rw [HS.out, HB.out]; simp [nameAt, h, h']), Bool.and_false]
            have HL := hide (let_iff s[k])
            have HG := hide (dig_iff s[k])
            clear hc
            have hb8 : (s[k].toNat : Int) < 48 ∨ (48 ≤ (s[k].toNat : Int) ∧ (s[k].toNat : Int) ≤ 57) ∨ (58 ≤ (s[k].toNat : Int) ∧ (s[k].toNat : Int) < 97) ∨ (97 ≤ (s[k].toNat : Int) ∧ (s[k].toNat : Int) ≤ 122) ∨ 123 ≤ (s[k].toNat : Int) := by omega
            rcases hb8 with b | ⟨b, b'⟩ | ⟨b, b'⟩ | ⟨b, b'⟩ | b
            · replace HN := hide (HN.out (Bool.eq_false_iff.2 fun h => by have := HL.out.1 h; omega) (Bool.eq_false_iff.2 fun h => by have := HG.out.1 h; omega))
              go_wp2
              all_goals first
                | (exfalso; simp only [Bool.not_eq_eq_eq_not, Bool.not_false, Bool.not_true, decide_eq_true_eq, decide_eq_false_iff_not] at *; omega)
                | (go_ret; exact ⟨ret_bool HN.out.symm, rfl⟩)
            · replace HY := hide (HY.out (.inr (HG.out.2 ⟨b, b'⟩)))
              go_wp2
              all_goals
                go_round
                case rel => exact ⟨k + 1, by omega, by go_num, HY.out⟩
                case measure => simp [intOf]; omega
            · replace HN := hide (HN.out (Bool.eq_false_iff.2 fun h => by have := HL.out.1 h; omega) (Bool.eq_false_iff.2 fun h => by have := HG.out.1 h; omega))
              go_wp2
              all_goals first
                | (exfalso; simp only [Bool.not_eq_eq_eq_not, Bool.not_false, Bool.not_true, decide_eq_true_eq, decide_eq_false_iff_not] at *; omega)
                | (go_ret; exact ⟨ret_bool HN.out.symm, rfl⟩)
            · replace HY := hide (HY.out (.inl (HL.out.2 ⟨b, b'⟩)))
              go_wp2
              all_goals
                go_round
                case rel => exact ⟨k + 1, by omega, by go_num, HY.out⟩
                case measure => simp [intOf]; omega
            · replace HN := hide (HN.out (Bool.eq_false_iff.2 fun h => by have := HL.out.1 h; omega) (Bool.eq_false_iff.2 fun h => by have := HG.out.1 h; omega))
              go_wp2
              all_goals first
                | (exfalso; simp only [Bool.not_eq_eq_eq_not, Bool.not_false, Bool.not_true, decide_eq_true_eq, decide_eq_false_iff_not] at *; omega)
                | (go_ret; exact ⟨ret_bool HN.out.symm, rfl⟩)
          · go_wp2
            go_ret
            refine ⟨ret_bool ?_, rfl⟩
            have e : k = s.size := by omega
            have := HD.out
            rw [e] at this
            rw [nameL, len_data, this]; simp [h1, h6]
    · go_enter Tryz.func49, Tryz.ntmps49
      go_wp2
      go_ret
      exact ⟨ret_bool (by simp [nameL, h6]), rfl⟩
  · go_enter Tryz.func49, Tryz.ntmps49
    go_wp2
    go_ret
    exact ⟨ret_bool (by simp [nameL]; omega), rfl⟩

theorem take_eq (k : ByteArray) (a b : UInt8) : ((k.extract 0 2).toList == (⟨#[a, b]⟩ : ByteArray).toList) = (k.data.toList.take 2 == [a, b]) := by
  simp [Lib.toList_data, ByteArray.data_extract]
def faultK (k : List UInt8) : Nat := if keyL k then 0 else 3
theorem digTo_drop (l : List UInt8) (n k : Nat) : digTo (l.drop n) k = (List.range k).all fun i => isDig (l.getD (n + i) 0) := by
  unfold digTo
  congr 1
  funext i
  simp [List.getD_eq_getElem?_getD]
end Go.Proofs.YtpbhcjkllfonhaaGreat

/-
  What haywainref.KeyFault returns: 0 at a key of a row, else 3; for every text; it changes nothing.
-/
namespace Go.Proofs.YtpbhcjkllfonhaaGreat
open Go.RowKit Go.Joins

theorem data_drop (k : ByteArray) (a : Nat) : (k.extract a k.size).data.toList = k.data.toList.drop a := by
  rw [ByteArray.data_extract]
  simp only [Array.toList_extract, List.extract_eq_take_drop]
  exact List.take_of_length_le (by simp)
theorem data_mid (k : ByteArray) (a b : Nat) : (k.extract a b).data.toList = (k.data.toList.drop a).take (b - a) := by
  rw [ByteArray.data_extract]
  simp only [Array.toList_extract, List.extract_eq_take_drop]
theorem take_two (k : ByteArray) : (k.extract 0 2).toList = k.data.toList.take 2 := by
  rw [Lib.toList_data, data_mid]; rfl
set_option maxHeartbeats 1000000 in
theorem keyFault_named (k : ByteArray) (w : World) (h2 : 2 < k.size) (h : (k.extract 0 2).toList = [116, 47] ∨ ¬ (k.extract 0 2).toList = [116, 47] ∧ (k.extract 0 2).toList = [113, 47]) :
    Calls Tryz.prog 25 #[.string k] w fun e w' => e = .returned (.int .i64 (faultK k.data.toList)) ∧ w' = w := by
  have hk : keyL k.data.toList = nameL (k.data.toList.drop 2) := key_named (by rw [take_two] at h; rcases h with h | h; exact .inl h; exact .inr h.2)
  have hn := fun w' => nameMay_any (k.extract 2 k.size) w'
  rw [data_drop, ← hk] at hn
  unfold faultK
  generalize keyL k.data.toList = y at hn ⊢
  have HN := fun w' => hide (hn w')
  clear hn hk
  have g2 : (2 : Int) < (k.size : Int) := by omega
  cases y
  all_goals
    rcases h with h | ⟨h', h⟩
    all_goals
      go_enter Tryz.func25, Tryz.ntmps25
      go_wp2_with (go_at_call 49; refine ((HN _).out).mono ?_; rintro e w1 ⟨rfl, rfl⟩)
      go_ret
      exact ⟨rfl, rfl⟩
set_option maxHeartbeats 1000000 in
theorem keyFault_short (k : ByteArray) (w : World) (h2 : k.size ≤ 2) :
    Calls Tryz.prog 25 #[.string k] w fun e w' => e = .returned (.int .i64 (faultK k.data.toList)) ∧ w' = w := by
  have hk : faultK k.data.toList = 3 := by unfold faultK; rw [key_short (by rwa [len_data])]; rfl
  rw [hk]
  clear hk
  have g2 : ¬ (2 : Int) < (k.size : Int) := by omega
  have g3 : (k.size : Int) < 10 := by omega
  go_enter Tryz.func25, Tryz.ntmps25
  go_wp2
  go_ret
  exact ⟨rfl, rfl⟩
theorem fault_no {k : ByteArray} (h1 : ¬ (k.extract 0 2).toList = [116, 47]) (h2 : ¬ (k.extract 0 2).toList = [113, 47]) (h : messageL k.data.toList = false) : faultK k.data.toList = 3 := by
  rw [take_two] at h1 h2
  unfold faultK; rw [key_other h1 h2, h]; rfl
theorem fault_yes {k : ByteArray} (h1 : ¬ (k.extract 0 2).toList = [116, 47]) (h2 : ¬ (k.extract 0 2).toList = [113, 47]) (h : messageL k.data.toList = true) : faultK k.data.toList = 0 := by
  rw [take_two] at h1 h2
  unfold faultK; rw [key_other h1 h2, h]; rfl
set_option maxHeartbeats 1000000 in
theorem keyFault_other (k : ByteArray) (w : World) (h2 : 2 < k.size) (h : ¬ (k.extract 0 2).toList = [116, 47]) (h' : ¬ (k.extract 0 2).toList = [113, 47]) (hn : k.size < 10 ∨ ¬ (k.extract 0 2).toList = [109, 47]) :
    Calls Tryz.prog 25 #[.string k] w fun e w' => e = .returned (.int .i64 (faultK k.data.toList)) ∧ w' = w := by
  have hk : faultK k.data.toList = 3 := fault_no h h' (by
    rw [message_eq, len_data]
    rcases hn with hn | hn
    · simp; omega
    · rw [take_two] at hn; simp [hn])
  rw [hk]
  clear hk
  have g2 : (2 : Int) < (k.size : Int) := by omega
  have b1 := beq_eq_false_iff_ne.2 h
  have b2 := beq_eq_false_iff_ne.2 h'
  rcases hn with hn | hn
  · have g3 : (k.size : Int) < 10 := by omega
    go_enter Tryz.func25, Tryz.ntmps25
    go_wp2
    go_ret
    exact ⟨rfl, rfl⟩
  · have b3 := beq_eq_false_iff_ne.2 hn
    go_enter Tryz.func25, Tryz.ntmps25
    go_wp2
    all_goals
      go_ret
      exact ⟨rfl, rfl⟩
end Go.Proofs.YtpbhcjkllfonhaaGreat
