/-
  What the document's answers on names and keys return (haywainref.NameMay, KeyFault): the same as package row's, for every text; they change nothing.
-/
import Derived.Test.YtlndiohdjdgaoaaDoorRefKeyL
import Derived.Test.YtlndiohdjdgaoaaDoorBase
namespace Go.Proofs.YtlndiohdjdgaoaaDoor
open Go.RowKit Go.Joins

theorem let_iff (c : UInt8) : isLet c = true ↔ 97 ≤ (c.toNat : Int) ∧ (c.toNat : Int) ≤ 122 := by
  simp only [isLet, Bool.and_eq_true, decide_eq_true_eq]; omega
theorem dig_iff (c : UInt8) : isDig c = true ↔ 48 ≤ (c.toNat : Int) ∧ (c.toNat : Int) ≤ 57 := by
  simp only [isDig, Bool.and_eq_true, decide_eq_true_eq]; omega
theorem name_first {s : ByteArray} (h1 : 0 < s.size) (h : isLet s[0] = false) : nameL s.data.toList = false := by
  rw [nameL, len_data, nameTo_le (k := 1) (by omega) (by rw [nameTo_succ, byte_at s 0 h1]; simp [nameAt, h]), Bool.and_false]

set_option maxHeartbeats 2000000 in
theorem nameMay_any (s : ByteArray) (w : World) :
    Calls Tryd.prog 12 #[.string s] w fun e w' => e = .returned (.bool (nameL s.data.toList)) ∧ w' = w := by
  by_cases h1 : 1 ≤ s.size
  · have hz : 0 < s.size := h1
    by_cases h6 : s.size ≤ 6
    · cases hc : isLet s[0] with
      | false =>
        have hN := name_first hz hc
        have hL := mt (let_iff s[0]).2 (by rw [hc]; simp)
        rw [hN]
        clear hN hc
        go_enter Tryd.func12, Tryd.ntmps12
        go_wp2
        all_goals first
          | (go_ret; exact ⟨rfl, rfl⟩)
          | (exfalso; omega)
      | true =>
        obtain ⟨l1, l2⟩ := (let_iff s[0]).1 hc
        go_enter Tryd.func12, Tryd.ntmps12
        go_wp2
        go_loop [3] (fun i => ∃ k : Nat, k ≤ s.size ∧ i = .int .i64 k ∧ nameTo s.data.toList k = true) (fun i => s.size - (intOf i).toNat)
        case atStart => exact ⟨0, Nat.zero_le _, rfl, rfl⟩
        case round =>
          obtain ⟨k, hk, rfl, hd⟩ := hrel
          have HD := hide hd
          clear hd
          by_cases hlt : k < s.size
          · have HS := hide (nameTo_succ s.data.toList k)
            have HB := hide (byte_at s k hlt)
            have HC := hide hc
            have HY : Hid (isLet s[k] = true ∨ isDig s[k] = true → nameTo s.data.toList (k + 1) = true) := fun h => by
              rw [HS.out, HD.out, HB.out]
              rcases h with h | h
              · simp [nameAt, h]
              · by_cases k0 : k = 0
                · subst k0; simp [nameAt, HC.out]
                · simp [nameAt, h, k0]
            have HN : Hid (isLet s[k] = false → isDig s[k] = false → nameL s.data.toList = false) := fun h h' => by
              rw [nameL, len_data, nameTo_le (k := k + 1) (by omega) (by rw [HS.out, HB.out]; simp [nameAt, h, h']), Bool.and_false]
            have HL := hide (let_iff s[k])
            have HG := hide (dig_iff s[k])
            clear hc
            have hb8 : (s[k].toNat : Int) < 48 ∨ (48 ≤ (s[k].toNat : Int) ∧ (s[k].toNat : Int) ≤ 57) ∨ (58 ≤ (s[k].toNat : Int) ∧ (s[k].toNat : Int) < 97) ∨ (97 ≤ (s[k].toNat : Int) ∧ (s[k].toNat : Int) ≤ 122) ∨ 123 ≤ (s[k].toNat : Int) := by omega
            rcases hb8 with b | ⟨b, b'⟩ | ⟨b, b'⟩ | ⟨b, b'⟩ | b
            · replace HN := hide (HN.out (Bool.eq_false_iff.2 fun h => by have := HL.out.1 h; omega) (Bool.eq_false_iff.2 fun h => by have := HG.out.1 h; omega))
              go_wp2
              all_goals first
                | (exfalso; simp only [Bool.not_eq_eq_eq_not, Bool.not_false, Bool.not_true, decide_eq_true_eq, decide_eq_false_iff_not] at *; omega)
                | (go_ret; exact ⟨ret_bool HN.out.symm, rfl⟩)
            · replace HY := hide (HY.out (.inr (HG.out.2 ⟨b, b'⟩)))
              go_wp2
              all_goals
                go_round
                case rel => exact ⟨k + 1, by omega, by go_num, HY.out⟩
                case measure => simp [intOf]; omega
            · replace HN := hide (HN.out (Bool.eq_false_iff.2 fun h => by have := HL.out.1 h; omega) (Bool.eq_false_iff.2 fun h => by have := HG.out.1 h; omega))
              go_wp2
              all_goals first
                | (exfalso; simp only [Bool.not_eq_eq_eq_not, Bool.not_false, Bool.not_true, decide_eq_true_eq, decide_eq_false_iff_not] at *; omega)
                | (go_ret; exact ⟨ret_bool HN.out.symm, rfl⟩)
            · replace HY := hide (HY.out (.inl (HL.out.2 ⟨b, b'⟩)))
              go_wp2
              all_goals
                go_round
                case rel => exact ⟨k + 1, by omega, by go_num, HY.out⟩
                case measure => simp [intOf]; omega
            · replace HN := hide (HN.out (Bool.eq_false_iff.2 fun h => by have := HL.out.1 h; omega) (Bool.eq_false_iff.2 fun h => by have := HG.out.1 h; omega))
              go_wp2
              all_goals first
                | (exfalso; simp only [Bool.not_eq_eq_eq_not, Bool.not_false, Bool.not_true, decide_eq_true_eq, decide_eq_false_iff_not] at *; omega)
                | (go_ret; exact ⟨ret_bool HN.out.symm, rfl⟩)
          · go_wp2
            go_ret
            refine ⟨ret_bool ?_, rfl⟩
            have e : k = s.size := by omega
            have := HD.out
            rw [e] at this
            rw [nameL, len_data, this]; simp [h1, h6]
    · go_enter Tryd.func12, Tryd.ntmps12
      go_wp2
      go_ret
      exact ⟨ret_bool (by simp [nameL, h6]), rfl⟩
  · go_enter Tryd.func12, Tryd.ntmps12
    go_wp2
    go_ret
    exact ⟨ret_bool (by simp [nameL]; omega), rfl⟩

theorem take_eq (k : ByteArray) (a b : UInt8) : ((k.extract 0 2).toList == (⟨#[a, b]⟩ : ByteArray).toList) = (k.data.toList.take 2 == [a, b]) := by
  simp [Lib.toList_data, ByteArray.data_extract]
def faultK (k : List UInt8) : Nat := if keyL k then 0 else 3
theorem digTo_drop (l : List UInt8) (n k : Nat) : digTo (l.drop n) k = (List.range k).all fun i => isDig (l.getD (n + i) 0) := by
  unfold digTo
  congr 1
  funext i
  simp [List.getD_eq_getElem?_getD]
end Go.Proofs.YtlndiohdjdgaoaaDoor
