/-
  Plain facts on keys of rows, by the document's answer: where a stroke stands seven bytes ahead of the end. Nothing of the program is named here.
-/
import Derived.Test.YtpbhcjkllfonhaaKeyL
import Derived.Test.YtpbhcjkllfonhaaBase
namespace Go.Proofs.Ytpbhcjkllfonhaa

theorem hasPrefix_two (k : List UInt8) (a b : UInt8) : Lib.hasPrefix k [a, b] = (k.take 2 == [a, b]) := by
  match k with
  | [] => simp [Lib.hasPrefix]
  | [x] => simp [Lib.hasPrefix, List.isPrefixOf]
  | x :: y :: r =>
    rw [Bool.eq_iff_iff]
    simp [Lib.hasPrefix]
    constructor
    · rintro ⟨rfl, rfl⟩; exact ⟨rfl, rfl⟩
    · rintro ⟨rfl, rfl⟩; exact ⟨rfl, rfl⟩
theorem named_eq (k : List UInt8) (a b : UInt8) : namedL k [a, b] = ((k.take 2 == [a, b]) && nameL (k.drop 2)) := by
  unfold namedL
  rw [hasPrefix_two]
  cases h : k.take 2 == [a, b] with
  | false => rfl
  | true =>
    have : Lib.hasPrefix k [a, b] = true := by rw [hasPrefix_two, h]
    rw [Lib.trimPrefix, if_pos this]
    rfl
theorem message_eq (k : List UInt8) : messageL k = (decide (10 ≤ k.length) && ((k.take 2 == [109, 47]) && ((k.getD (k.length - 7) 0 == 47) && (nameL ((k.drop 2).take (k.length - 9)) && digTo (k.drop (k.length - 6)) 6)))) := by
  unfold messageL
  rw [hasPrefix_two]
  cases h : k.take 2 == [109, 47] with
  | false => simp
  | true =>
    have hp : Lib.hasPrefix k [109, 47] = true := by rw [hasPrefix_two, h]
    rw [Lib.trimPrefix, if_pos hp]
    have hk : ∃ r, k = 109 :: 47 :: r := by
      match k, h with
      | [], h => simp at h
      | [x], h => simp at h
      | x :: y :: r, h =>
        simp at h
        exact ⟨r, by rw [h.1, h.2]⟩
    obtain ⟨r, rfl⟩ := hk
    simp only [List.length_cons, List.length_nil, Nat.zero_add, Nat.reduceAdd, List.drop_succ_cons, List.drop_zero, Bool.true_and]
    rw [Bool.eq_iff_iff]
    simp only [messageOf, Bool.and_eq_true, decide_eq_true_eq, beq_iff_eq]
    constructor
    · rintro ⟨h0, hn, hs⟩
      obtain ⟨i, hi⟩ : ∃ i : Nat, Lib.indexByte r 47 = i := ⟨_, (Int.toNat_of_nonneg h0).symm⟩
      rw [hi, Int.toNat_natCast] at hn hs
      have hs' := hs
      have hn' := hn
      simp only [sixL, Bool.and_eq_true, decide_eq_true_eq, List.length_drop] at hs'
      simp only [nameL, Bool.and_eq_true, decide_eq_true_eq, List.length_take] at hn'
      have hlen : r.length = i + 7 := by omega
      have hat : r[i]? = some 47 := (Lib.indexByte_some hi).1
      refine ⟨by omega, ?_, ?_, ?_⟩
      · have e : r.length + 1 + 1 - 7 = i + 2 := by omega
        rw [e, List.getD_eq_getElem?_getD]
        simp [hat]
      · have e : r.length + 1 + 1 - 9 = i := by omega
        rw [e]; exact hn
      · have e : r.length + 1 + 1 - 6 = i + 1 + 2 := by omega
        rw [e]
        simp only [List.drop_succ_cons]
        have := hs'.2
        rwa [show r.length - (i + 1) = 6 by omega] at this
    · rintro ⟨h10, hc, hn, hd⟩
      obtain ⟨i, hlen⟩ : ∃ i, r.length = i + 7 := ⟨r.length - 7, by omega⟩
      have e1 : r.length + 1 + 1 - 7 = i + 2 := by omega
      have e2 : r.length + 1 + 1 - 9 = i := by omega
      have e3 : r.length + 1 + 1 - 6 = i + 1 + 2 := by omega
      rw [e1] at hc
      rw [e2] at hn
      rw [e3] at hd
      simp only [List.drop_succ_cons] at hd
      have hi : i < r.length := by omega
      have hat : r[i] = 47 := by
        rw [List.getD_eq_getElem?_getD] at hc
        simpa [List.getElem?_eq_getElem hi] using hc
      have hr : r = r.take i ++ 47 :: r.drop (i + 1) := by
        rw [← hat, List.getElem_cons_drop, List.take_append_drop]
      have hidx : Lib.indexByte r 47 = (i : Int) := by
        rw [hr, index_name (name_mem hn)]
        simp; omega
      rw [hidx, Int.toNat_natCast]
      refine ⟨by omega, hn, ?_⟩
      simp only [sixL, Bool.and_eq_true, decide_eq_true_eq, List.length_drop]
      refine ⟨by omega, ?_⟩
      rw [show r.length - (i + 1) = 6 by omega]
      exact hd
theorem key_named {k : List UInt8} (h : k.take 2 = [116, 47] ∨ k.take 2 = [113, 47]) : keyL k = nameL (k.drop 2) := by
  unfold keyL
  rw [named_eq, named_eq, message_eq]
  rcases h with h | h <;> simp [h]
theorem key_other {k : List UInt8} (h : k.take 2 ≠ [116, 47]) (h' : k.take 2 ≠ [113, 47]) : keyL k = messageL k := by
  unfold keyL
  rw [named_eq, named_eq]
  simp [beq_eq_false_iff_ne.2 h, beq_eq_false_iff_ne.2 h']
theorem key_short {k : List UInt8} (h : k.length ≤ 2) : keyL k = false := by
  unfold keyL
  rw [named_eq, named_eq, message_eq]
  have e : nameL (k.drop 2) = false := by rw [List.drop_eq_nil_of_le h]; rfl
  rw [e]; simp; omega
end Go.Proofs.Ytpbhcjkllfonhaa

/-
  What the document's answers on names and keys return (haywainref.NameMay, KeyFault): the same as package row's, for every text; they change nothing.
-/
namespace Go.Proofs.Ytpbhcjkllfonhaa
open Go.RowKit Go.Joins

theorem let_iff (c : UInt8) : isLet c = true ↔ 97 ≤ (c.toNat : Int) ∧ (c.toNat : Int) ≤ 122 := by
  simp only [isLet, Bool.and_eq_true, decide_eq_true_eq]; omega
theorem dig_iff (c : UInt8) : isDig c = true ↔ 48 ≤ (c.toNat : Int) ∧ (c.toNat : Int) ≤ 57 := by
  simp only [isDig, Bool.and_eq_true, decide_eq_true_eq]; omega
theorem name_first {s : ByteArray} (h1 : 0 < s.size) (h : isLet s[0] = false) : nameL s.data.toList = false := by
  rw [nameL, len_data, nameTo_le (k := 1) (by omega) (by rw [nameTo_succ, byte_at s 0 h1]; simp [nameAt, h]), Bool.and_false]

set_option maxHeartbeats 2000000 in
theorem nameMay_any (s : ByteArray) (w : World) :
    Calls Try.prog 34 #[.string s] w fun e w' => e = .returned (.bool (nameL s.data.toList)) ∧ w' = w := by
  by_cases h1 : 1 ≤ s.size
  · have hz : 0 < s.size := h1
    by_cases h6 : s.size ≤ 6
    · cases hc : isLet s[0] with
      | false =>
        have hN := name_first hz hc
        have hL := mt (let_iff s[0]).2 (by rw [hc]; simp)
        rw [hN]
        clear hN hc
        go_enter Try.func34, Try.ntmps34
        go_wp2
        all_goals first
          | (go_ret; exact ⟨rfl, rfl⟩)
          | (exfalso; omega)
      | true =>
        obtain ⟨l1, l2⟩ := (let_iff s[0]).1 hc
        go_enter Try.func34, Try.ntmps34
        go_wp2
        go_loop [3] (fun i => ∃ k : Nat, k ≤ s.size ∧ i = .int .i64 k ∧ nameTo s.data.toList k = true) (fun i => s.size - (intOf i).toNat)
        case atStart => exact ⟨0, Nat.zero_le _, rfl, rfl⟩
        case round =>
          obtain ⟨k, hk, rfl, hd⟩ := hrel
          have HD := hide hd
          clear hd
          by_cases hlt : k < s.size
          · have HS := hide (nameTo_succ s.data.toList k)
            have HB := hide (byte_at s k hlt)
            have HC := hide hc
            have HY : Hid (isLet s[k] = true ∨ isDig s[k] = true → nameTo s.data.toList (k + 1) = true) := fun h => by
              rw [HS.out, HD.out, HB.out]
              rcases h with h | h
              · simp [nameAt, h]
              · by_cases k0 : k = 0
                · subst k0; simp [nameAt, HC.out]
                · simp [nameAt, h, k0]
            have HN : Hid (isLet s[k] = false → isDig s[k] = false → nameL s.data.toList = false) := fun h h' => by
              rw [nameL, len_data, nameTo_le (k := k + 1) (by omega) (by rw [HS.out, HB.out]; simp [nameAt, h, h']), Bool.and_false]
            have HL := hide (let_iff s[k])
            have HG := hide (dig_iff s[k])
            clear hc
            have hb8 : (s[k].toNat : Int) < 48 ∨ (48 ≤ (s[k].toNat : Int) ∧ (s[k].toNat : Int) ≤ 57) ∨ (58 ≤ (s[k].toNat : Int) ∧ (s[k].toNat : Int) < 97) ∨ (97 ≤ (s[k].toNat : Int) ∧ (s[k].toNat : Int) ≤ 122) ∨ 123 ≤ (s[k].toNat : Int) := by omega
            rcases hb8 with b | ⟨b, b'⟩ | ⟨b, b'⟩ | ⟨b, b'⟩ | b
            · replace HN := hide (HN.out (Bool.eq_false_iff.2 fun h => by have := HL.out.1 h; omega) (Bool.eq_false_iff.2 fun h => by have := HG.out.1 h; omega))
              go_wp2
              all_goals first
                | (exfalso; simp only [Bool.not_eq_eq_eq_not, Bool.not_false, Bool.not_true, decide_eq_true_eq, decide_eq_false_iff_not] at *; omega)
                | (go_ret; exact ⟨ret_bool HN.out.symm, rfl⟩)
            · replace HY := hide (HY.out (.inr (HG.out.2 ⟨b, b'⟩)))
              go_wp2
              all_goals
                go_round
                case rel => exact ⟨k + 1, by omega, by go_num, HY.out⟩
                case measure => simp [intOf]; omega
            · replace HN := hide (HN.out (Bool.eq_false_iff.2 fun h => by have := HL.out.1 h; omega) (Bool.eq_false_iff.2 fun h => by have := HG.out.1 h; omega))
              go_wp2
              all_goals first
                | (exfalso; simp only [Bool.not_eq_eq_eq_not, Bool.not_false, Bool.not_true, decide_eq_true_eq, decide_eq_false_iff_not] at *; omega)
                | (go_ret; exact ⟨ret_bool HN.out.symm, rfl⟩)
            · replace HY := hide (HY.out (.inl (HL.out.2 ⟨b, b'⟩)))
              go_wp2
              all_goals
                go_round
                case rel => exact ⟨k + 1, by omega, by go_num, HY.out⟩
                case measure => simp [intOf]; omega
            · replace HN := hide (HN.out (Bool.eq_false_iff.2 fun h => by have := HL.out.1 h; omega) (Bool.eq_false_iff.2 fun h => by have := HG.out.1 h; omega))
              go_wp2
              all_goals first
                | (exfalso; simp only [Bool.not_eq_eq_eq_not, Bool.not_false, Bool.not_true, decide_eq_true_eq, decide_eq_false_iff_not] at *; omega)
                | (go_ret; exact ⟨ret_bool HN.out.symm, rfl⟩)
          · go_wp2
            go_ret
            refine ⟨ret_bool ?_, rfl⟩
            have e : k = s.size := by omega
            have := HD.out
            rw [e] at this
            rw [nameL, len_data, this]; simp [h1, h6]
    · go_enter Try.func34, Try.ntmps34
      go_wp2
      go_ret
      exact ⟨ret_bool (by simp [nameL, h6]), rfl⟩
  · go_enter Try.func34, Try.ntmps34
    go_wp2
    go_ret
    exact ⟨ret_bool (by simp [nameL]; omega), rfl⟩

theorem take_eq (k : ByteArray) (a b : UInt8) : ((k.extract 0 2).toList == (⟨#[a, b]⟩ : ByteArray).toList) = (k.data.toList.take 2 == [a, b]) := by
  simp [Lib.toList_data, ByteArray.data_extract]
def faultK (k : List UInt8) : Nat := if keyL k then 0 else 3
theorem digTo_drop (l : List UInt8) (n k : Nat) : digTo (l.drop n) k = (List.range k).all fun i => isDig (l.getD (n + i) 0) := by
  unfold digTo
  congr 1
  funext i
  simp [List.getD_eq_getElem?_getD]
end Go.Proofs.Ytpbhcjkllfonhaa
