/-
  What the document's answers on names and keys return (haywainref.NameMay, KeyFault): the same as package row's, for every text; they change nothing.
-/
import Derived.Test.YtkfpfbkdalbjoaaGreatStr
import Derived.Test.YtkfpfbkdalbjoaaGreatBase
namespace Go.Proofs.YtkfpfbkdalbjoaaGreat
open Go.RowKit Go.Joins

theorem let_iff (c : UInt8) : isLet c = true ↔ 97 ≤ (c.toNat : Int) ∧ (c.toNat : Int) ≤ 122 := by
  simp only [isLet, Bool.and_eq_true, decide_eq_true_eq]; omega
theorem dig_iff (c : UInt8) : isDig c = true ↔ 48 ≤ (c.toNat : Int) ∧ (c.toNat : Int) ≤ 57 := by
  simp only [isDig, Bool.and_eq_true, decide_eq_true_eq]; omega
theorem name_first {s : ByteArray} (h1 : 0 < s.size) (h : isLet s[0] = false) : nameL s.data.toList = false := by
  rw [nameL, len_data, nameTo_le (k := 1) (by omega) (by rw [nameTo_succ, byte_at s 0 h1]; simp [nameAt, h]), Bool.and_false]

set_option maxHeartbeats 2000000 in
theorem nameMay_any (s : ByteArray) (w : World) :
    Calls Tryz.prog 74 #[.string s] w fun e w' => e = .returned (.bool (nameL s.data.toList)) ∧ w' = w := by
  by_cases h1 : 1 ≤ s.size
  · have hz : 0 < s.size := h1
    by_cases h6 : s.size ≤ 6
    · cases hc : isLet s[0] with
      | false =>
        have hN := name_first hz hc
        have hL := mt (let_iff s[0]).2 (by rw [hc]; simp)
        rw [hN]
        clear hN hc
        go_enter Tryz.func74, Tryz.ntmps74
        go_wp2
        all_goals first
          | (go_ret; exact ⟨rfl, rfl⟩)
          | (exfalso; omega)
      | true =>
        obtain ⟨l1, l2⟩ := (let_iff s[0]).1 hc
        go_enter Tryz.func74, Tryz.ntmps74
        go_wp2
        go_loop [3] (fun i => ∃ k : Nat, k ≤ s.size ∧ i = .int .i64 k ∧ nameTo s.data.toList k = true) (fun i => s.size - (intOf i).toNat)
        case atStart => exact ⟨0, Nat.zero_le _, rfl, rfl⟩
        case round =>
          obtain ⟨k, hk, rfl, hd⟩ := hrel
          have HD := hide hd
          clear hd
          by_cases hlt : k < s.size
          · have HS := hide (nameTo_succ s.data.toList k)
            have HB := hide (byte_at s k hlt)
            have HC := hide hc
            have HY : Hid (isLet s[k] = true ∨ isDig s[k] = true → nameTo s.data.toList (k + 1) = true) := fun h => by
              rw [HS.out, HD.out, HB.out]
              rcases h with h | h
              · simp [nameAt, h]
              · by_cases k0 : k = 0
                · subst k0; simp [nameAt, HC.out]
                · simp [nameAt, h, k0]
            have HN : Hid (isLet s[k] = false → isDig s[k] = false → nameL s.data.toList = false) := fun h h' => by
              rw [nameL, len_data, nameTo_le (k := k + 1) (by omega) (by rw [HS.out, HB.out]; simp [nameAt, h, h']), Bool.and_false]
            have HL := hide (let_iff s[k])
            have HG := hide (dig_iff s[k])
            clear hc
            have hb8 : (s[k].toNat : Int) < 48 ∨ (48 ≤ (s[k].toNat : Int) ∧ (s[k].toNat : Int) ≤ 57) ∨ (58 ≤ (s[k].toNat : Int) ∧ (s[k].toNat : Int) < 97) ∨ (97 ≤ (s[k].toNat : Int) ∧ (s[k].toNat : Int) ≤ 122) ∨ 123 ≤ (s[k].toNat : Int) := by omega
            rcases hb8 with b | ⟨b, b'⟩ | ⟨b, b'⟩ | ⟨b, b'⟩ | b
            · replace HN := hide (HN.out (Bool.eq_false_iff.2 fun h => by have := HL.out.1 h; omega) (Bool.eq_false_iff.2 fun h => by have := HG.out.1 h; omega))
              go_wp2
              all_goals first
                | (exfalso; simp only [Bool.not_eq_eq_eq_not, Bool.not_false, Bool.not_true, decide_eq_true_eq, decide_eq_false_iff_not] at *; omega)
                | (go_ret; exact ⟨ret_bool HN.out.symm, rfl⟩)
            · replace HY := hide (HY.out (.inr (HG.out.2 ⟨b, b'⟩)))
              go_wp2
              all_goals
                go_round
                case rel => exact ⟨k + 1, by omega, by go_num, HY.out⟩
                case measure => simp [intOf]; omega
            · replace HN := hide (HN.out (Bool.eq_false_iff.2 fun h => by have := HL.out.1 h; omega) (Bool.eq_false_iff.2 fun h => by have := HG.out.1 h; omega))
              go_wp2
              all_goals first
                | (exfalso; simp only [Bool.not_eq_eq_eq_not, Bool.not_false, Bool.not_true, decide_eq_true_eq, decide_eq_false_iff_not] at *; omega)
                | (go_ret; exact ⟨ret_bool HN.out.symm, rfl⟩)
            · replace HY := hide (HY.out (.inl (HL.out.2 ⟨b, b'⟩)))
              go_wp2
              all_goals
                go_round
                case rel => exact ⟨k + 1, by omega, by go_num, HY.out⟩
                case measure => simp [intOf]; omega
            · replace HN := hide (HN.out (Bool.eq_false_iff.2 fun h => by have := HL.out.1 h; omega) (Bool.eq_false_iff.2 fun h => by have := HG.out.1 h; omega))
              go_wp2
              all_goals first
                | (exfalso; simp only [Bool.not_eq_eq_eq_not, Bool.not_false, Bool.not_true, decide_eq_true_eq, decide_eq_false_iff_not] at *; omega)
                | (go_ret; exact ⟨ret_bool HN.out.symm, rfl⟩)
          · go_wp2
            go_ret
            refine ⟨ret_bool ?_, rfl⟩
            have e : k = s.size := by omega
            have := HD.out
            rw [e] at this
            rw [nameL, len_data, this]; simp [h1, h6]
    · go_enter Tryz.func74, Tryz.ntmps74
      go_wp2
      go_ret
      exact ⟨ret_bool (by simp [nameL, h6]), rfl⟩
  · go_enter Tryz.func74, Tryz.ntmps74
    go_wp2
    go_ret
    exact ⟨ret_bool (by simp [nameL]; omega), rfl⟩

theorem take_eq (k : ByteArray) (a b : UInt8) : ((k.extract 0 2).toList == (⟨#[a, b]⟩ : ByteArray).toList) = (k.data.toList.take 2 == [a, b]) := by
  simp [Lib.toList_data, ByteArray.data_extract]
def faultK (k : List UInt8) : Nat := if keyL k then 0 else 3
theorem digTo_drop (l : List UInt8) (n k : Nat) : digTo (l.drop n) k = (List.range k).all fun i => isDig (l.getD (n + i) 0) := by
  unfold digTo
  congr 1
  funext i
  simp [List.getD_eq_getElem?_getD]
end Go.Proofs.YtkfpfbkdalbjoaaGreat

/-
  What haywainref.KeyFault returns: 0 at a key of a row, else 3; for every text; it changes nothing.
-/
namespace Go.Proofs.YtkfpfbkdalbjoaaGreat
open Go.RowKit Go.Joins

theorem data_drop (k : ByteArray) (a : Nat) : (k.extract a k.size).data.toList = k.data.toList.drop a := by
  rw [ByteArray.data_extract]
  simp only [Array.toList_extract, List.extract_eq_take_drop]
  exact List.take_of_length_le (by simp)
theorem data_mid (k : ByteArray) (a b : Nat) : (k.extract a b).data.toList = (k.data.toList.drop a).take (b - a) := by
  rw [ByteArray.data_extract]
  simp only [Array.toList_extract, List.extract_eq_take_drop]
theorem take_two (k : ByteArray) : (k.extract 0 2).toList = k.data.toList.take 2 := by
  rw [Lib.toList_data, data_mid]; rfl
set_option maxHeartbeats 1000000 in
theorem keyFault_named (k : ByteArray) (w : World) (h2 : 2 < k.size) (h : (k.extract 0 2).toList = [116, 47] ∨ ¬ (k.extract 0 2).toList = [116, 47] ∧ (k.extract 0 2).toList = [113, 47]) :
    Calls Tryz.prog 52 #[.string k] w fun e w' => e = .returned (.int .i64 (faultK k.data.toList)) ∧ w' = w := by
  have hk : keyL k.data.toList = nameL (k.data.toList.drop 2) := key_named (by rw [take_two] at h; rcases h with h | h; exact .inl h; exact .inr h.2)
  have hn := fun w' => nameMay_any (k.extract 2 k.size) w'
  rw [data_drop, ← hk] at hn
  unfold faultK
  generalize keyL k.data.toList = y at hn ⊢
  have HN := fun w' => hide (hn w')
  clear hn hk
  have g2 : (2 : Int) < (k.size : Int) := by omega
  cases y
  all_goals
    rcases h with h | ⟨h', h⟩
    all_goals
      go_enter Tryz.func52, Tryz.ntmps52
      go_wp2_with (go_at_call 74; refine ((HN _).out).mono ?_; rintro e w1 ⟨rfl, rfl⟩)
      go_ret
      exact ⟨rfl, rfl⟩
set_option maxHeartbeats 1000000 in
theorem keyFault_short (k : ByteArray) (w : World) (h2 : k.size ≤ 2) :
    Calls Tryz.prog 52 #[.string k] w fun e w' => e = .returned (.int .i64 (faultK k.data.toList)) ∧ w' = w := by
  have hk : faultK k.data.toList = 3 := by unfold faultK; rw [key_short (by rwa [len_data])]; rfl
  rw [hk]
  clear hk
  have g2 : ¬ (2 : Int) < (k.size : Int) := by omega
  have g3 : (k.size : Int) < 10 := by omega
  go_enter Tryz.func52, Tryz.ntmps52
  go_wp2
  go_ret
  exact ⟨rfl, rfl⟩
theorem fault_no {k : ByteArray} (h1 : ¬ (k.extract 0 2).toList = [116, 47]) (h2 : ¬ (k.extract 0 2).toList = [113, 47]) (h : messageL k.data.toList = false) : faultK k.data.toList = 3 := by
  rw [take_two] at h1 h2
  unfold faultK; rw [key_other h1 h2, h]; rfl
theorem fault_yes {k : ByteArray} (h1 : ¬ (k.extract 0 2).toList = [116, 47]) (h2 : ¬ (k.extract 0 2).toList = [113, 47]) (h : messageL k.data.toList = true) : faultK k.data.toList = 0 := by
  rw [take_two] at h1 h2
  unfold faultK; rw [key_other h1 h2, h]; rfl
set_option maxHeartbeats 1000000 in
theorem keyFault_other (k : ByteArray) (w : World) (h2 : 2 < k.size) (h : ¬ (k.extract 0 2).toList = [116, 47]) (h' : ¬ (k.extract 0 2).toList = [113, 47]) (hn : k.size < 10 ∨ ¬ (k.extract 0 2).toList = [109, 47]) :
    Calls Tryz.prog 52 #[.string k] w fun e w' => e = .returned (.int .i64 (faultK k.data.toList)) ∧ w' = w := by
  have hk : faultK k.data.toList = 3 := fault_no h h' (by
    rw [message_eq, len_data]
    rcases hn with hn | hn
    · simp; omega
    · rw [take_two] at hn; simp [hn])
  rw [hk]
  clear hk
  have g2 : (2 : Int) < (k.size : Int) := by omega
  have b1 := beq_eq_false_iff_ne.2 h
  have b2 := beq_eq_false_iff_ne.2 h'
  rcases hn with hn | hn
  · have g3 : (k.size : Int) < 10 := by omega
    go_enter Tryz.func52, Tryz.ntmps52
    go_wp2
    go_ret
    exact ⟨rfl, rfl⟩
  · have b3 := beq_eq_false_iff_ne.2 hn
    go_enter Tryz.func52, Tryz.ntmps52
    go_wp2
    all_goals
      go_ret
      exact ⟨rfl, rfl⟩
end Go.Proofs.YtkfpfbkdalbjoaaGreat

/-
  What haywainref.KeyFault returns: 0 at a key of a row, else 3; for every text; it changes nothing.
-/
namespace Go.Proofs.YtkfpfbkdalbjoaaGreat
open Go.RowKit Go.Joins

theorem wrap_in {n : Int} (h0 : 0 ≤ n) (h1 : n ≤ 100000) : wrap64 n = n := by unfold wrap64; omega
theorem message_at {k : ByteArray} (h10 : 10 ≤ k.size) (hm : (k.extract 0 2).toList = [109, 47]) (h : k.size - 7 < k.size) :
    messageL k.data.toList = ((k[k.size - 7] == 47) && (nameL (k.extract 2 (k.size - 7)).data.toList && (List.range 6).all fun i => isDig (k.data.toList.getD (k.size - 6 + i) 0))) := by
  rw [take_two] at hm
  rw [message_eq, len_data, hm, byte_at k _ h, data_mid, digTo_drop]
  have e : k.size - 7 - 2 = k.size - 9 := by omega
  rw [e]
  simp [h10]
set_option maxHeartbeats 2000000 in
theorem keyFault_message (k : ByteArray) (w : World) (h10 : 10 ≤ k.size) (hn : k.size ≤ 1000) (hm : (k.extract 0 2).toList = [109, 47]) :
    Calls Tryz.prog 52 #[.string k] w fun e w' => e = .returned (.int .i64 (faultK k.data.toList)) ∧ w' = w := by
  have h : ¬ (k.extract 0 2).toList = [116, 47] := by rw [hm]; decide
  have h' : ¬ (k.extract 0 2).toList = [113, 47] := by rw [hm]; decide
  have g2 : (2 : Int) < (k.size : Int) := by omega
  have g10 : decide ((k.size : Int) < 10) = false := by simp; omega
  have i7 : (k.size : Int) - 7 = ((k.size - 7 : Nat) : Int) := by omega
  have w7 : wrap64 ((k.size - 7 : Nat) : Int) = ((k.size - 7 : Nat) : Int) := wrap_in (by omega) (by omega)
  have i6 : (k.size : Int) - 6 = ((k.size - 6 : Nat) : Int) := by omega
  have w6 : wrap64 ((k.size - 6 : Nat) : Int) = ((k.size - 6 : Nat) : Int) := wrap_in (by omega) (by omega)
  have l7 : k.size - 7 < k.size := by omega
  have j7 : (2 : Int) ≤ ((k.size - 7 : Nat) : Int) := by omega
  have z7 : (0 : Int) ≤ ((k.size - 7 : Nat) : Int) := by omega
  have y7 : ((k.size - 7 : Nat) : Int) < (k.size : Int) := by omega
  have x7 : ((k.size - 7 : Nat) : Int) ≤ (k.size : Int) := by omega
  have b1 := beq_eq_false_iff_ne.2 h
  have b2 := beq_eq_false_iff_ne.2 h'
  have HM := hide (message_at h10 hm l7)
  have HF0 : Hid (messageL k.data.toList = false → faultK k.data.toList = 3) := fault_no h h'
  have HF1 : Hid (messageL k.data.toList = true → faultK k.data.toList = 0) := fault_yes h h'
  by_cases hc : k[k.size - 7] = 47
  · have c47 : ((k[k.size - 7].toNat : Int) != 47) = false := by rw [hc]; rfl
    have hN := fun w' => nameMay_any (k.extract 2 (k.size - 7)) w'
    generalize hy : nameL (k.extract 2 (k.size - 7)).data.toList = y at hN
    have HN := fun w' => hide (hN w')
    clear hN
    have HY := hide hy
    have HC := hide hc
    clear hy hc
    cases y
    · go_enter Tryz.func52, Tryz.ntmps52
      go_wp2_with (go_at_call 74; refine ((HN _).out).mono ?_; rintro e w1 ⟨rfl, rfl⟩)
      go_ret
      exact ⟨ret_int (by rw [HF0.out (by rw [HM.out, HC.out, HY.out]; rfl)]; rfl), rfl⟩
    · replace HM : Hid (messageL k.data.toList = (List.range 6).all fun i => isDig (k.data.toList.getD (k.size - 6 + i) 0)) := by
        have := HM.out
        rw [HC.out, HY.out] at this
        exact this
      go_enter Tryz.func52, Tryz.ntmps52
      go_wp2_with (go_at_call 74; refine ((HN _).out).mono ?_; rintro e w1 ⟨rfl, rfl⟩)
      go_loop [6] (fun i => ∃ j : Nat, j ≤ 6 ∧ i = .int .i64 ((k.size - 6 + j : Nat) : Int) ∧ (List.range j).all (fun i => isDig (k.data.toList.getD (k.size - 6 + i) 0)) = true) (fun i => k.size - (intOf i).toNat)
      case atStart => exact ⟨0, Nat.zero_le _, rfl, rfl⟩
      case round =>
        obtain ⟨j, hj, rfl, hd⟩ := hrel
        have HD := hide hd
        clear hd
        by_cases hlt : j < 6
        · have hl : k.size - 6 + j < k.size := by omega
          have hl' : ((k.size - 6 + j : Nat) : Int) < (k.size : Int) := by omega
          have hB := byte_at k _ hl
          have HS : Hid ((List.range (j + 1)).all (fun i => isDig (k.data.toList.getD (k.size - 6 + i) 0)) = isDig k[k.size - 6 + j]) := by
            show _ = _
            rw [List.range_succ, List.all_append, HD.out, ← hB]; simp
          have HG := hide (dig_iff k[k.size - 6 + j])
          have hle : ∀ b, (List.range (j + 1)).all (fun i => isDig (k.data.toList.getD (k.size - 6 + i) 0)) = b → b = false → (List.range 6).all (fun i => isDig (k.data.toList.getD (k.size - 6 + i) 0)) = false := by
            intro b h hb
            subst hb
            rw [List.all_eq_false] at *
            obtain ⟨x, hx, h2⟩ := h
            exact ⟨x, List.mem_range.2 (by have := List.mem_range.1 hx; omega), h2⟩
          have HE := hide hle
          have wj : wrap64 (((k.size - 6 + j : Nat) : Int) + 1) = ((k.size - 6 + (j + 1) : Nat) : Int) := by rw [wrap_in] <;> omega
          clear hle hB
          generalize k.size - 6 + j = p at *
          have hb8 : (k[p].toNat : Int) < 48 ∨ (48 ≤ (k[p].toNat : Int) ∧ (k[p].toNat : Int) ≤ 57) ∨ 58 ≤ (k[p].toNat : Int) := by omega
          rcases hb8 with b | ⟨b, b'⟩ | b
          · replace HS := hide (HE.out _ HS.out (Bool.eq_false_iff.2 fun h => by have := HG.out.1 h; omega))
            go_wp2
            go_ret
            exact ⟨ret_int (by rw [HF0.out (HM.out.trans HS.out)]; rfl), rfl⟩
          · replace HS := hide (HS.out.trans (HG.out.2 ⟨b, b'⟩))
            go_wp2
            go_round
            case rel => exact ⟨j + 1, by omega, by rw [← wj, wrap_in (by omega) (by omega)], HS.out⟩
            case measure => simp [intOf]; omega
          · replace HS := hide (HE.out _ HS.out (Bool.eq_false_iff.2 fun h => by have := HG.out.1 h; omega))
            go_wp2
            go_ret
            exact ⟨ret_int (by rw [HF0.out (HM.out.trans HS.out)]; rfl), rfl⟩
        · have e : j = 6 := by omega
          subst e
          have e2 : k.size - 6 + 6 = k.size := by omega
          rw [e2]
          go_wp2
          go_ret
          exact ⟨ret_int (by rw [HF1.out (HM.out.trans HD.out)]; rfl), rfl⟩
  · have c47 : ((k[k.size - 7].toNat : Int) != 47) = true := by
      rw [bne_iff_ne]; intro e; exact hc (UInt8.toNat_inj.1 (by simpa using Int.ofNat.inj e))
    have hf := HF0.out (by rw [HM.out, beq_eq_false_iff_ne.2 hc, Bool.false_and])
    rw [hf]
    clear hf hc
    go_enter Tryz.func52, Tryz.ntmps52
    go_wp2
    go_ret
    exact ⟨rfl, rfl⟩
theorem keyFault_any (k : ByteArray) (w : World) (hn : k.size ≤ 1000) :
    Calls Tryz.prog 52 #[.string k] w fun e w' => e = .returned (.int .i64 (faultK k.data.toList)) ∧ w' = w := by
  by_cases h2 : 2 < k.size
  · by_cases ht : (k.extract 0 2).toList = [116, 47]
    · exact keyFault_named k w h2 (.inl ht)
    · by_cases hq : (k.extract 0 2).toList = [113, 47]
      · exact keyFault_named k w h2 (.inr ⟨ht, hq⟩)
      · by_cases hm : (k.extract 0 2).toList = [109, 47]
        · by_cases h10 : 10 ≤ k.size
          · exact keyFault_message k w h10 hn hm
          · exact keyFault_other k w h2 ht hq (.inl (by omega))
        · exact keyFault_other k w h2 ht hq (.inr hm)
  · exact keyFault_short k w (by omega)
end Go.Proofs.YtkfpfbkdalbjoaaGreat
