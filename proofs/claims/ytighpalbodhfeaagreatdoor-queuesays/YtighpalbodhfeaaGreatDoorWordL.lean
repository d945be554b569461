/-
  Plain facts on texts of two numbers and a rest, and their words. Nothing of the program is named here.
-/
import Derived.Test.YtighpalbodhfeaaGreatDoorRowErr
import Derived.Test.YtighpalbodhfeaaGreatDoorKeyB
import Derived.Test.YtighpalbodhfeaaGreatDoorBase
namespace Go.Proofs.YtighpalbodhfeaaGreatDoor

theorem dec_blank (n : Nat) : ∀ c ∈ Lib.decDigits n, c ≠ 32 := fun c hc => dig_ne (dec_dig n c hc) 32 (by decide)
theorem name_blank {l : List UInt8} (h : nameL l = true) : ∀ c ∈ l, c ≠ 32 := by
  intro c hc e
  subst e
  obtain ⟨i, hi, hx⟩ := List.mem_iff_getElem.1 hc
  simp only [nameL, Bool.and_eq_true] at h
  have h2 := h.2
  rw [nameTo, List.all_eq_true] at h2
  have := h2 i (List.mem_range.2 hi)
  rw [List.getD_eq_getElem?_getD, List.getElem?_eq_getElem hi, hx] at this
  simp [nameAt, isLet, isDig] at this
theorem split_blank {a b : List UInt8} (ha : ∀ c ∈ a, c ≠ 32) (hb : ∀ c ∈ b, c ≠ 32) {x y : List UInt8} (h : a ++ 32 :: x = b ++ 32 :: y) : a = b ∧ x = y := by
  induction a generalizing b with
  | nil =>
    cases b with
    | nil => simpa using h
    | cons d b =>
      simp at h
      exact absurd h.1.symm (hb d (by simp))
  | cons c a ih =>
    cases b with
    | nil =>
      simp at h
      exact absurd h.1 (ha c (by simp))
    | cons d b =>
      simp at h
      obtain ⟨rfl, h2⟩ := h
      obtain ⟨e1, e2⟩ := ih (fun x hx => ha x (by simp [hx])) (fun x hx => hb x (by simp [hx])) h2
      exact ⟨by rw [e1], e2⟩
theorem count_no {l : List UInt8} (h : ∀ c ∈ l, c ≠ 32) : l.count 32 = 0 := List.count_eq_zero.2 fun hc => h 32 hc rfl
theorem count_out (out : List ByteArray) (h : ∀ x ∈ out, ∀ c ∈ x.data.toList, c ≠ 32) : ((out.map fun x => x.data.toList ++ [32]).flatten).count 32 = out.length := by
  induction out with
  | nil => rfl
  | cons x out ih =>
    rw [List.map_cons, List.flatten_cons, List.count_append, List.count_append, ih (fun y hy => h y (by simp [hy])), count_no (h x (by simp))]
    simp
    omega
theorem words_count {s : ByteArray} {most : Nat} {out : List ByteArray} {rest : ByteArray} (h : wordsR s most out rest) : s.data.toList.count 32 = out.length + rest.data.toList.count 32 := by
  rw [h.1, List.count_append, count_out out h.2.1]
theorem words_two {s x y rest : ByteArray} {most : Nat} (h : wordsR s most [x, y] rest) : s.data.toList = x.data.toList ++ 32 :: (y.data.toList ++ 32 :: rest.data.toList) := by
  rw [h.1]; simp
theorem natR_dec {n most : Nat} {r : Int} (h : natR (Lib.decDigits n) most r) (hn : n ≤ most) : r = n := by
  rcases h with ⟨m, _, he, hr⟩ | ⟨_, hno⟩
  · rw [hr]
    have := congrArg valL he
    rw [valL_dec, valL_dec] at this
    rw [this]
  · exact absurd rfl (hno n hn)
def queueMay (n t : Nat) (d : ByteArray) : Prop := n ≤ 999999 ∧ 1 ≤ t ∧ t ≤ 9 ∧ (d.toList.isEmpty = true ∨ (d.toList.isEmpty = false ∧ nameL d.data.toList = true))
def messageMay (t u : Nat) (d : ByteArray) : Prop := t ≤ 9 ∧ u ≤ 2000000 ∧ d.size ≤ 28
theorem may_blank {n t : Nat} {d : ByteArray} (h : queueMay n t d) : ∀ c ∈ d.data.toList, c ≠ 32 := by
  rcases h.2.2.2 with h | ⟨_, h⟩
  · rw [← Lib.toList_data, List.isEmpty_iff.1 h]; simp
  · exact name_blank h
theorem out_two {out : List ByteArray} (h : out.length = 2) : ∃ x y, out = [x, y] := by
  match out, h with
  | [x, y], _ => exact ⟨x, y, rfl⟩
/-- the words of a queue's text -/
theorem words_queue {s : ByteArray} {out : List ByteArray} {rest : ByteArray} {n t : Nat} {d : ByteArray} (h : wordsR s 99 out rest) (hq : queueMay n t d) (hs : s = joinB n t d) : out = [decB n, decB t] ∧ rest = d := by
  have hc := words_count h
  have hl : s.data.toList = Lib.decDigits n ++ 32 :: (Lib.decDigits t ++ 32 :: d.data.toList) := by rw [hs, joinB_l]
  have h2 : s.data.toList.count 32 = 2 := by
    rw [hl, List.count_append, List.count_cons_self, List.count_append, List.count_cons_self, count_no (dec_blank n), count_no (dec_blank t), count_no (may_blank hq)]
  rw [h2] at hc
  have hr : ∀ c ∈ rest.data.toList, c ≠ 32 := by
    rcases h.2.2.1 with h | h
    · exact h
    · omega
  rw [count_no hr] at hc
  obtain ⟨x, y, rfl⟩ := out_two (by omega : out.length = 2)
  have e := words_two h
  rw [hl] at e
  obtain ⟨e1, e2⟩ := split_blank (dec_blank n) (h.2.1 x (by simp)) e
  obtain ⟨e3, e4⟩ := split_blank (dec_blank t) (h.2.1 y (by simp)) e2
  refine ⟨?_, (data_inj e4).symm⟩
  rw [show x = decB n from data_inj (by rw [decB_l, e1]), show y = decB t from data_inj (by rw [decB_l, e3])]
theorem words_message {s : ByteArray} {out : List ByteArray} {rest : ByteArray} {t u : Nat} {d : ByteArray} (h : wordsR s 3 out rest) (hs : s = joinB t u d) : out = [decB t, decB u] ∧ rest = d := by
  have hc := words_count h
  have hl : s.data.toList = Lib.decDigits t ++ 32 :: (Lib.decDigits u ++ 32 :: d.data.toList) := by rw [hs, joinB_l]
  have h2 : 2 ≤ s.data.toList.count 32 := by
    rw [hl, List.count_append, List.count_cons_self, List.count_append, List.count_cons_self]; omega
  have ho : out.length = 2 := by
    rcases h.2.2.1 with k | k
    · rw [count_no k] at hc
      have := h.2.2.2
      omega
    · omega
  obtain ⟨x, y, rfl⟩ := out_two ho
  have e := words_two h
  rw [hl] at e
  obtain ⟨e1, e2⟩ := split_blank (dec_blank t) (h.2.1 x (by simp)) e
  obtain ⟨e3, e4⟩ := split_blank (dec_blank u) (h.2.1 y (by simp)) e2
  refine ⟨?_, (data_inj e4).symm⟩
  rw [show x = decB t from data_inj (by rw [decB_l, e1]), show y = decB u from data_inj (by rw [decB_l, e3])]
theorem words_no_queue {s x y rest : ByteArray} {r1 r2 : Int} (h : wordsR s 99 [x, y] rest) (h1 : natR x.data.toList 999999 r1) (h2 : natR y.data.toList 9 r2) (hno : ∀ n t d, queueMay n t d → s ≠ joinB n t d) :
    r1 < 0 ∨ (0 ≤ r1 ∧ r2 < 1) ∨ (0 ≤ r1 ∧ 1 ≤ r2 ∧ rest.toList.isEmpty = false ∧ nameL rest.data.toList = false) := by
  rcases h1 with ⟨a, ha, hx, rfl⟩ | ⟨rfl, _⟩
  · rcases h2 with ⟨b, hb, hy, rfl⟩ | ⟨rfl, _⟩
    · by_cases hb1 : b < 1
      · right; left; omega
      · right; right
        refine ⟨by omega, by omega, ?_⟩
        have : ¬ (rest.toList.isEmpty = true ∨ (rest.toList.isEmpty = false ∧ nameL rest.data.toList = true)) := fun k =>
          hno a b rest ⟨ha, by omega, hb, k⟩ (data_inj (by rw [joinB_l, words_two h, hx, hy]))
        cases e : rest.toList.isEmpty <;> cases e2 : nameL rest.data.toList <;> simp_all
    · right; left; omega
  · left; omega
theorem words_no_message {s x y rest : ByteArray} {r1 r2 : Int} (h : wordsR s 3 [x, y] rest) (hr : rest.size ≤ 28) (h1 : natR x.data.toList 9 r1) (h2 : natR y.data.toList 2000000 r2) (hno : ∀ t u d, messageMay t u d → s ≠ joinB t u d) :
    r1 < 0 ∨ (0 ≤ r1 ∧ r2 < 0) := by
  rcases h1 with ⟨a, ha, hx, rfl⟩ | ⟨rfl, _⟩
  · rcases h2 with ⟨b, hb, hy, rfl⟩ | ⟨rfl, _⟩
    · exact absurd (data_inj (by rw [joinB_l, words_two h, hx, hy])) (hno a b rest ⟨ha, hb, hr⟩)
    · right; omega
  · left; omega
end Go.Proofs.YtighpalbodhfeaaGreatDoor

/-
  Plain facts on keys of rows, by the document's answer: where a stroke stands seven bytes ahead of the end. Nothing of the program is named here.
-/
namespace Go.Proofs.YtighpalbodhfeaaGreatDoor

theorem hasPrefix_two (k : List UInt8) (a b : UInt8) : Lib.hasPrefix k [a, b] = (k.take 2 == [a, b]) := by
  match k with
  | [] => simp [Lib.hasPrefix]
  | [x] => simp [Lib.hasPrefix, List.isPrefixOf]
  | x :: y :: r =>
    rw [Bool.eq_iff_iff]
    simp [Lib.hasPrefix]
    constructor
    · rintro ⟨rfl, rfl⟩; exact ⟨rfl, rfl⟩
    · rintro ⟨rfl, rfl⟩; exact ⟨rfl, rfl⟩
theorem named_eq (k : List UInt8) (a b : UInt8) : namedL k [a, b] = ((k.take 2 == [a, b]) && nameL (k.drop 2)) := by
  unfold namedL
  rw [hasPrefix_two]
  cases h : k.take 2 == [a, b] with
  | false => rfl
  | true =>
    have : Lib.hasPrefix k [a, b] = true := by rw [hasPrefix_two, h]
    rw [Lib.trimPrefix, if_pos this]
    rfl
theorem message_eq (k : List UInt8) : messageL k = (decide (10 ≤ k.length) && ((k.take 2 == [109, 47]) && ((k.getD (k.length - 7) 0 == 47) && (nameL ((k.drop 2).take (k.length - 9)) && digTo (k.drop (k.length - 6)) 6)))) := by
  unfold messageL
  rw [hasPrefix_two]
  cases h : k.take 2 == [109, 47] with
  | false => simp
  | true =>
    have hp : Lib.hasPrefix k [109, 47] = true := by rw [hasPrefix_two, h]
    rw [Lib.trimPrefix, if_pos hp]
    have hk : ∃ r, k = 109 :: 47 :: r := by
      match k, h with
      | [], h => simp at h
      | [x], h => simp at h
      | x :: y :: r, h =>
        simp at h
        exact ⟨r, by rw [h.1, h.2]⟩
    obtain ⟨r, rfl⟩ := hk
    simp only [List.length_cons, List.length_nil, Nat.zero_add, Nat.reduceAdd, List.drop_succ_cons, List.drop_zero, Bool.true_and]
    rw [Bool.eq_iff_iff]
    simp only [messageOf, Bool.and_eq_true, decide_eq_true_eq, beq_iff_eq]
    constructor
    · rintro ⟨h0, hn, hs⟩
      obtain ⟨i, hi⟩ : ∃ i : Nat, Lib.indexByte r 47 = i := ⟨_, (Int.toNat_of_nonneg h0).symm⟩
      rw [hi, Int.toNat_natCast] at hn hs
      have hs' := hs
      have hn' := hn
      simp only [sixL, Bool.and_eq_true, decide_eq_true_eq, List.length_drop] at hs'
      simp only [nameL, Bool.and_eq_true, decide_eq_true_eq, List.length_take] at hn'
      have hlen : r.length = i + 7 := by omega
      have hat : r[i]? = some 47 := (Lib.indexByte_some hi).1
      refine ⟨by omega, ?_, ?_, ?_⟩
      · have e : r.length + 1 + 1 - 7 = i + 2 := by omega
        rw [e, List.getD_eq_getElem?_getD]
        simp [hat]
      · have e : r.length + 1 + 1 - 9 = i := by omega
        rw [e]; exact hn
      · have e : r.length + 1 + 1 - 6 = i + 1 + 2 := by omega
        rw [e]
        simp only [List.drop_succ_cons]
        have := hs'.2
        rwa [show r.length - (i + 1) = 6 by omega] at this
    · rintro ⟨h10, hc, hn, hd⟩
      obtain ⟨i, hlen⟩ : ∃ i, r.length = i + 7 := ⟨r.length - 7, by omega⟩
      have e1 : r.length + 1 + 1 - 7 = i + 2 := by omega
      have e2 : r.length + 1 + 1 - 9 = i := by omega
      have e3 : r.length + 1 + 1 - 6 = i + 1 + 2 := by omega
      rw [e1] at hc
      rw [e2] at hn
      rw [e3] at hd
      simp only [List.drop_succ_cons] at hd
      have hi : i < r.length := by omega
      have hat : r[i] = 47 := by
        rw [List.getD_eq_getElem?_getD] at hc
        simpa [List.getElem?_eq_getElem hi] using hc
      have hr : r = r.take i ++ 47 :: r.drop (i + 1) := by
        rw [← hat, List.getElem_cons_drop, List.take_append_drop]
      have hidx : Lib.indexByte r 47 = (i : Int) := by
        rw [hr, index_name (name_mem hn)]
        simp; omega
      rw [hidx, Int.toNat_natCast]
      refine ⟨by omega, hn, ?_⟩
      simp only [sixL, Bool.and_eq_true, decide_eq_true_eq, List.length_drop]
      refine ⟨by omega, ?_⟩
      rw [show r.length - (i + 1) = 6 by omega]
      exact hd
theorem key_named {k : List UInt8} (h : k.take 2 = [116, 47] ∨ k.take 2 = [113, 47]) : keyL k = nameL (k.drop 2) := by
  unfold keyL
  rw [named_eq, named_eq, message_eq]
  rcases h with h | h <;> simp [h]
theorem key_other {k : List UInt8} (h : k.take 2 ≠ [116, 47]) (h' : k.take 2 ≠ [113, 47]) : keyL k = messageL k := by
  unfold keyL
  rw [named_eq, named_eq]
  simp [beq_eq_false_iff_ne.2 h, beq_eq_false_iff_ne.2 h']
theorem key_short {k : List UInt8} (h : k.length ≤ 2) : keyL k = false := by
  unfold keyL
  rw [named_eq, named_eq, message_eq]
  have e : nameL (k.drop 2) = false := by rw [List.drop_eq_nil_of_le h]; rfl
  rw [e]; simp; omega
end Go.Proofs.YtighpalbodhfeaaGreatDoor

/-
  What the document's answers on names and keys return (haywainref.NameMay, KeyFault): the same as package row's, for every text; they change nothing.
-/
namespace Go.Proofs.YtighpalbodhfeaaGreatDoor
open Go.RowKit Go.Joins

theorem let_iff (c : UInt8) : isLet c = true ↔ 97 ≤ (c.toNat : Int) ∧ (c.toNat : Int) ≤ 122 := by
  simp only [isLet, Bool.and_eq_true, decide_eq_true_eq]; omega
theorem dig_iff (c : UInt8) : isDig c = true ↔ 48 ≤ (c.toNat : Int) ∧ (c.toNat : Int) ≤ 57 := by
  simp only [isDig, Bool.and_eq_true, decide_eq_true_eq]; omega
theorem name_first {s : ByteArray} (h1 : 0 < s.size) (h : isLet s[0] = false) : nameL s.data.toList = false := by
  rw [nameL, len_data, nameTo_le (k := 1) (by omega) (by rw [nameTo_succ, byte_at s 0 h1]; simp [nameAt, h]), Bool.and_false]

set_option maxHeartbeats 2000000 in
theorem nameMay_any (s : ByteArray) (w : World) :
    Calls Tryz.prog 53 #[.string s] w fun e w' => e = .returned (.bool (nameL s.data.toList)) ∧ w' = w := by
  by_cases h1 : 1 ≤ s.size
  · have hz : 0 < s.size := h1
    by_cases h6 : s.size ≤ 6
    · cases hc : isLet s[0] with
      | false =>
        have hN := name_first hz hc
        have hL := mt (let_iff s[0]).2 (by rw [hc]; simp)
        rw [hN]
        clear hN hc
        go_enter Tryz.func53, Tryz.ntmps53
        go_wp2
        all_goals first
          | (go_ret; exact ⟨rfl, rfl⟩)
          | (exfalso; omega)
      | true =>
        obtain ⟨l1, l2⟩ := (let_iff s[0]).1 hc
        go_enter Tryz.func53, Tryz.ntmps53
        go_wp2
        go_loop [3] (fun i => ∃ k : Nat, k ≤ s.size ∧ i = .int .i64 k ∧ nameTo s.data.toList k = true) (fun i => s.size - (intOf i).toNat)
        case atStart => exact ⟨0, Nat.zero_le _, rfl, rfl⟩
        case round =>
          obtain ⟨k, hk, rfl, hd⟩ := hrel
          have HD := hide hd
          clear hd
          by_cases hlt : k < s.size
          · have HS := hide (nameTo_succ s.data.toList k)
            have HB := hide (byte_at s k hlt)
            have HC := hide hc
            have HY : Hid (isLet s[k] = true ∨ isDig s[k] = true → nameTo s.data.toList (k + 1) = true) := fun h => by
              rw [HS.out, HD.out, HB.out]
              rcases h with h | h
              · simp [nameAt, h]
              · by_cases k0 : k = 0
                · subst k0; simp [nameAt, HC.out]
                · simp [nameAt, h, k0]
            have HN : Hid (isLet s[k] = false → isDig s[k] = false → nameL s.data.toList = false) := fun h h' => by
              rw [nameL, len_data, nameTo_le (k := k + 1) (by omega) (by rw [HS.out, HB.out]; simp [nameAt, h, h']), Bool.and_false]
            have HL := hide (let_iff s[k])
            have HG := hide (dig_iff s[k])
            clear hc
            have hb8 : (s[k].toNat : Int) < 48 ∨ (48 ≤ (s[k].toNat : Int) ∧ (s[k].toNat : Int) ≤ 57) ∨ (58 ≤ (s[k].toNat : Int) ∧ (s[k].toNat : Int) < 97) ∨ (97 ≤ (s[k].toNat : Int) ∧ (s[k].toNat : Int) ≤ 122) ∨ 123 ≤ (s[k].toNat : Int) := by omega
            rcases hb8 with b | ⟨b, b'⟩ | ⟨b, b'⟩ | ⟨b, b'⟩ | b
            · replace HN := hide (HN.out (Bool.eq_false_iff.2 fun h => by have := HL.out.1 h; omega) (Bool.eq_false_iff.2 fun h => by have := HG.out.1 h; omega))
              go_wp2
              all_goals first
                | (exfalso; simp only [Bool.not_eq_eq_eq_not, Bool.not_false, Bool.not_true, decide_eq_true_eq, decide_eq_false_iff_not] at *; omega)
                | (go_ret; exact ⟨ret_bool HN.out.symm, rfl⟩)
            · replace HY := hide (HY.out (.inr (HG.out.2 ⟨b, b'⟩)))
              go_wp2
              all_goals
                go_round
                case rel => exact ⟨k + 1, by omega, by go_num, HY.out⟩
                case measure => simp [intOf]; omega
            · replace HN := hide (HN.out (Bool.eq_false_iff.2 fun h => by have := HL.out.1 h; omega) (Bool.eq_false_iff.2 fun h => by have := HG.out.1 h; omega))
              go_wp2
              all_goals first
                | (exfalso; simp only [Bool.not_eq_eq_eq_not, Bool.not_false, Bool.not_true, decide_eq_true_eq, decide_eq_false_iff_not] at *; omega)
                | (go_ret; exact ⟨ret_bool HN.out.symm, rfl⟩)
            · replace HY := hide (HY.out (.inl (HL.out.2 ⟨b, b'⟩)))
              go_wp2
              all_goals
                go_round
                case rel => exact ⟨k + 1, by omega, by go_num, HY.out⟩
                case measure => simp [intOf]; omega
            · replace HN := hide (HN.out (Bool.eq_false_iff.2 fun h => by have := HL.out.1 h; omega) (Bool.eq_false_iff.2 fun h => by have := HG.out.1 h; omega))
              go_wp2
              all_goals first
                | (exfalso; simp only [Bool.not_eq_eq_eq_not, Bool.not_false, Bool.not_true, decide_eq_true_eq, decide_eq_false_iff_not] at *; omega)
                | (go_ret; exact ⟨ret_bool HN.out.symm, rfl⟩)
          · go_wp2
            go_ret
            refine ⟨ret_bool ?_, rfl⟩
            have e : k = s.size := by omega
            have := HD.out
            rw [e] at this
            rw [nameL, len_data, this]; simp [h1, h6]
    · go_enter Tryz.func53, Tryz.ntmps53
      go_wp2
      go_ret
      exact ⟨ret_bool (by simp [nameL, h6]), rfl⟩
  · go_enter Tryz.func53, Tryz.ntmps53
    go_wp2
    go_ret
    exact ⟨ret_bool (by simp [nameL]; omega), rfl⟩

theorem take_eq (k : ByteArray) (a b : UInt8) : ((k.extract 0 2).toList == (⟨#[a, b]⟩ : ByteArray).toList) = (k.data.toList.take 2 == [a, b]) := by
  simp [Lib.toList_data, ByteArray.data_extract]
def faultK (k : List UInt8) : Nat := if keyL k then 0 else 3
theorem digTo_drop (l : List UInt8) (n k : Nat) : digTo (l.drop n) k = (List.range k).all fun i => isDig (l.getD (n + i) 0) := by
  unfold digTo
  congr 1
  funext i
  simp [List.getD_eq_getElem?_getD]
end Go.Proofs.YtighpalbodhfeaaGreatDoor

/-
  What haywainref.natural returns of every text: the number, if it is one up to most, else -1; it changes nothing.
-/
namespace Go.Proofs.YtighpalbodhfeaaGreatDoor
open Go.RowKit Go.Joins

theorem nat_none {l : List UInt8} {most : Nat} (hm : most ≤ 9999999) (h : l = [] ∨ 9 < l.length ∨ (l.head? = some 48 ∧ 1 < l.length) ∨ (∃ c ∈ l, isDig c = false) ∨ most < valL l) : natR l most (-1) := by
  refine .inr ⟨rfl, fun n hn e => ?_⟩
  rcases h with h | h | ⟨h, h'⟩ | ⟨c, h, h'⟩ | h
  · exact dec_ne n (e ▸ h)
  · have := len_dec_lt n (by omega)
    rw [e] at h; omega
  · rcases Nat.eq_zero_or_pos n with e0 | e0
    · rw [e, e0, Lib.decDigits_one (by omega)] at h'
      simp at h'
    · exact dec_head n e0 (e ▸ h)
  · have := dec_dig n c (e ▸ h)
    rw [h'] at this; cases this
  · rw [e, valL_dec] at h; omega
theorem take_dig {l : List UInt8} {k : Nat} (hk : k < l.length) (h : ∀ c ∈ l.take k, isDig c = true) (h2 : isDig l[k] = true) : ∀ c ∈ l.take (k + 1), isDig c = true := by
  rw [List.take_succ_eq_append_getElem hk]
  intro c hc
  rcases List.mem_append.1 hc with hc | hc
  · exact h c hc
  · rw [List.mem_singleton.1 hc]; exact h2

set_option maxHeartbeats 2000000 in
theorem natural_any (s : ByteArray) (most : Nat) (w : World) (hm : most ≤ 9999999) (hs : s.size ≤ 1000) :
    Calls Tryz.prog 108 #[.string s, .int .i64 most] w fun e w' => (∃ r : Int, e = .returned (.int .i64 r) ∧ natR s.data.toList most r) ∧ w' = w := by
  have hl := len_data s
  by_cases h1 : s.size < 1
  · have HN := hide (nat_none (l := s.data.toList) hm (.inl (List.length_eq_zero_iff.1 (by omega))))
    have g1 : decide ((s.size : Int) < 1) = true := by simp; omega
    clear hl
    go_enter Tryz.func108, Tryz.ntmps108
    go_wp2
    go_ret
    exact ⟨⟨_, rfl, HN.out⟩, rfl⟩
  · have hz : 0 < s.size := by omega
    have g1 : decide ((s.size : Int) < 1) = false := by simp; omega
    by_cases h9 : 9 < s.size
    · have HN := hide (nat_none (l := s.data.toList) hm (.inr (.inl (by omega))))
      have g2 : decide ((9 : Int) < (s.size : Int)) = true := by simp; omega
      clear hl
      go_enter Tryz.func108, Tryz.ntmps108
      go_wp2
      go_ret
      exact ⟨⟨_, rfl, HN.out⟩, rfl⟩
    · have g2 : decide ((9 : Int) < (s.size : Int)) = false := by simp; omega
      have hh : s.data.toList.head? = some s[0] := by
        rw [List.head?_eq_getElem?, List.getElem?_eq_getElem (by omega)]; rfl
      by_cases h48 : s[0] = 48 ∧ 1 < s.size
      · have HN := hide (nat_none (l := s.data.toList) hm (.inr (.inr (.inl ⟨by rw [hh, h48.1], by omega⟩))))
        have c48 : ((s[0].toNat : Int) == 48) = true := by rw [h48.1]; rfl
        have g3 : decide ((1 : Int) < (s.size : Int)) = true := by simp; omega
        clear hl hh h48
        go_enter Tryz.func108, Tryz.ntmps108
        go_wp2
        go_ret
        exact ⟨⟨_, rfl, HN.out⟩, rfl⟩
      · have HO : Hid (s.data.toList.head? = some 48 → s.data.toList.length = 1) := fun e => by
          rw [hh] at e
          have := Option.some.inj e
          have : ¬ 1 < s.size := fun k => h48 ⟨this, k⟩
          omega
        have c48 : (s[0].toNat : Int) ≠ 48 ∨ ¬ (1 : Int) < (s.size : Int) := by
          by_cases e : s[0] = 48
          · right
            have : ¬ 1 < s.size := fun k => h48 ⟨e, k⟩
            omega
          · left; intro e'; exact e (UInt8.toNat_inj.1 (by simpa using Int.ofNat.inj e'))
        clear hh h48
        rcases c48 with c48 | c48
        rotate_left 1
        have d48 := decide_eq_false c48
        rotate_left 1
        have d48 := beq_eq_false_iff_ne.2 c48
        all_goals
          go_enter Tryz.func108, Tryz.ntmps108
          go_wp2
        all_goals
          go_loop [5, 6] (fun n i => ∃ k : Nat, k ≤ s.size ∧ i = .int .i64 k ∧ n = .int .i64 (valL (s.data.toList.take k) : Nat) ∧ ∀ c ∈ s.data.toList.take k, isDig c = true) (fun _ i => s.size - (intOf i).toNat)
          case atStart => exact ⟨0, Nat.zero_le _, rfl, rfl, by simp⟩
          case round =>
            obtain ⟨k, hk, rfl, rfl, hd⟩ := hrel
            have hv := valL_lt _ hd
            have hlen : (s.data.toList.take k).length ≤ 9 := by rw [List.length_take]; omega
            have hv9 : valL (s.data.toList.take k) < 1000000000 := Nat.lt_of_lt_of_le hv (Nat.pow_le_pow_right (n := 10) (by omega) hlen)
            have HD := hide hd
            clear hv hlen hd
            by_cases hlt : k < s.size
            · have hget : s.data.toList[k]'(by omega) = s[k] := rfl
              have HT := hide (show s.data.toList.take (k + 1) = s.data.toList.take k ++ [s[k]] by rw [List.take_succ_eq_append_getElem (by omega), hget])
              have HM := hide (show s[k] ∈ s.data.toList by rw [← hget]; exact List.getElem_mem _)
              have HL := hide hl
              have HG := hide (dig_iff s[k])
              have hlt' : (k : Int) < (s.size : Int) := by omega
              clear hget hl
              generalize hvv : valL (s.data.toList.take k) = v at *
              have HV := hide hvv
              clear hvv
              have hb8 : (s[k].toNat : Int) < 48 ∨ (48 ≤ (s[k].toNat : Int) ∧ (s[k].toNat : Int) ≤ 57) ∨ 57 < (s[k].toNat : Int) := by omega
              rcases hb8 with b | ⟨b, b'⟩ | b
              · have HN := hide (nat_none (l := s.data.toList) hm (.inr (.inr (.inr (.inl ⟨s[k], HM.out, Bool.eq_false_iff.2 fun h => by have := HG.out.1 h; omega⟩)))))
                go_wp2
                go_ret
                exact ⟨⟨_, rfl, HN.out⟩, rfl⟩
              · have HY := hide (HG.out.2 ⟨b, b'⟩)
                obtain ⟨x, hx⟩ : ∃ x : Nat, s[k].toNat = 48 + x := ⟨s[k].toNat - 48, by omega⟩
                have hx9 : x ≤ 9 := by omega
                go_wp2
                go_round
                case rel => exact ⟨k + 1, by omega, by go_num, by rw [HT.out, valL_snoc, HV.out]; congr 1; omega, by
                  rw [HT.out]
                  intro c hc
                  rcases List.mem_append.1 hc with hc | hc
                  · exact HD.out c hc
                  · rw [List.mem_singleton.1 hc]; exact HY.out⟩
                case measure => simp [intOf]; omega
              · have HN := hide (nat_none (l := s.data.toList) hm (.inr (.inr (.inr (.inl ⟨s[k], HM.out, Bool.eq_false_iff.2 fun h => by have := HG.out.1 h; omega⟩)))))
                go_wp2
                go_ret
                exact ⟨⟨_, rfl, HN.out⟩, rfl⟩
            · have e : s.data.toList.take k = s.data.toList := List.take_of_length_le (by omega)
              rw [e] at HD hv9 ⊢
              by_cases hmm : most < valL s.data.toList
              · have HN := hide (nat_none (l := s.data.toList) hm (.inr (.inr (.inr (.inr hmm)))))
                have g9 : (most : Int) < (valL s.data.toList : Int) := by omega
                go_wp2
                go_ret
                exact ⟨⟨_, rfl, HN.out⟩, rfl⟩
              · have hne : s.data.toList ≠ [] := fun e => by rw [e] at hl; simp at hl; omega
                have HN : Hid (natR s.data.toList most (valL s.data.toList)) := .inl ⟨_, by omega, (dec_valL _ _ rfl hne HD.out HO.out).symm, rfl⟩
                have g9 : ¬ (most : Int) < (valL s.data.toList : Int) := by omega
                clear e hl
                go_wp2
                go_ret
                exact ⟨⟨_, rfl, HN.out⟩, rfl⟩
end Go.Proofs.YtighpalbodhfeaaGreatDoor
