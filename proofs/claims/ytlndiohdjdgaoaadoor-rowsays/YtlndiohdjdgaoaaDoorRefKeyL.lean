/-
  Plain facts on keys of rows, by the document's answer: where a stroke stands seven bytes ahead of the end. Nothing of the program is named here.
-/
import Derived.Test.YtlndiohdjdgaoaaDoorKeyL
namespace Go.Proofs.YtlndiohdjdgaoaaDoor

theorem hasPrefix_two (k : List UInt8) (a b : UInt8) : Lib.hasPrefix k [a, b] = (k.take 2 == [a, b]) := by
  match k with
  | [] => simp [Lib.hasPrefix]
  | [x] => simp [Lib.hasPrefix, List.isPrefixOf]
  | x :: y :: r =>
    rw [Bool.eq_iff_iff]
    simp [Lib.hasPrefix]
    constructor
    · rintro ⟨rfl, rfl⟩; exact ⟨rfl, rfl⟩
    · rintro ⟨rfl, rfl⟩; exact ⟨rfl, rfl⟩
theorem named_eq (k : List UInt8) (a b : UInt8) : namedL k [a, b] = ((k.take 2 == [a, b]) && nameL (k.drop 2)) := by
  unfold namedL
  rw [hasPrefix_two]
  cases h : k.take 2 == [a, b] with
  | false => rfl
  | true =>
    have : Lib.hasPrefix k [a, b] = true := by rw [hasPrefix_two, h]
    rw [Lib.trimPrefix, if_pos this]
    rfl
theorem message_eq (k : List UInt8) : messageL k = (decide (10 ≤ k.length) && ((k.take 2 == [109, 47]) && ((k.getD (k.length - 7) 0 == 47) && (nameL ((k.drop 2).take (k.length - 9)) && digTo (k.drop (k.length - 6)) 6)))) := by
  unfold messageL
  rw [hasPrefix_two]
  cases h : k.take 2 == [109, 47] with
  | false => simp
  | true =>
    have hp : Lib.hasPrefix k [109, 47] = true := by rw [hasPrefix_two, h]
    rw [Lib.trimPrefix, if_pos hp]
    have hk : ∃ r, k = 109 :: 47 :: r := by
      match k, h with
      | [], h => simp at h
      | [x], h => simp at h
      | x :: y :: r, h =>
        simp at h
        exact ⟨r, by rw [h.1, h.2]⟩
    obtain ⟨r, rfl⟩ := hk
    simp only [List.length_cons, List.length_nil, Nat.zero_add, Nat.reduceAdd, List.drop_succ_cons, List.drop_zero, Bool.true_and]
    rw [Bool.eq_iff_iff]
    simp only [messageOf, Bool.and_eq_true, decide_eq_true_eq, beq_iff_eq]
    constructor
    · rintro ⟨h0, hn, hs⟩
      obtain ⟨i, hi⟩ : ∃ i : Nat, Lib.indexByte r 47 = i := ⟨_, (Int.toNat_of_nonneg h0).symm⟩
      rw [hi, Int.toNat_natCast] at hn hs
      have hs' := hs
      have hn' := hn
      simp only [sixL, Bool.and_eq_true, decide_eq_true_eq, List.length_drop] at hs'
      simp only [nameL, Bool.and_eq_true, decide_eq_true_eq, List.length_take] at hn'
      have hlen : r.length = i + 7 := by omega
      have hat : r[i]? = some 47 := (Lib.indexByte_some hi).1
      refine ⟨by omega, ?_, ?_, ?_⟩
      · have e : r.length + 1 + 1 - 7 = i + 2 := by omega
        rw [e, List.getD_eq_getElem?_getD]
        simp [hat]
      · have e : r.length + 1 + 1 - 9 = i := by omega
        rw [e]; exact hn
      · have e : r.length + 1 + 1 - 6 = i + 1 + 2 := by omega
        rw [e]
        simp only [List.drop_succ_cons]
        have := hs'.2
        rwa [show r.length - (i + 1) = 6 by omega] at this
    · rintro ⟨h10, hc, hn, hd⟩
      obtain ⟨i, hlen⟩ : ∃ i, r.length = i + 7 := ⟨r.length - 7, by omega⟩
      have e1 : r.length + 1 + 1 - 7 = i + 2 := by omega
      have e2 : r.length + 1 + 1 - 9 = i := by omega
      have e3 : r.length + 1 + 1 - 6 = i + 1 + 2 := by omega
      rw [e1] at hc
      rw [e2] at hn
      rw [e3] at hd
      simp only [List.drop_succ_cons] at hd
      have hi : i < r.length := by omega
      have hat : r[i] = 47 := by
        rw [List.getD_eq_getElem?_getD] at hc
        simpa [List.getElem?_eq_getElem hi] using hc
      have hr : r = r.take i ++ 47 :: r.drop (i + 1) := by
        rw [← hat, List.getElem_cons_drop, List.take_append_drop]
      have hidx : Lib.indexByte r 47 = (i : Int) := by
        rw [hr, index_name (name_mem hn)]
        simp; omega
      rw [hidx, Int.toNat_natCast]
      refine ⟨by omega, hn, ?_⟩
      simp only [sixL, Bool.and_eq_true, decide_eq_true_eq, List.length_drop]
      refine ⟨by omega, ?_⟩
      rw [show r.length - (i + 1) = 6 by omega]
      exact hd
theorem key_named {k : List UInt8} (h : k.take 2 = [116, 47] ∨ k.take 2 = [113, 47]) : keyL k = nameL (k.drop 2) := by
  unfold keyL
  rw [named_eq, named_eq, message_eq]
  rcases h with h | h <;> simp [h]
theorem key_other {k : List UInt8} (h : k.take 2 ≠ [116, 47]) (h' : k.take 2 ≠ [113, 47]) : keyL k = messageL k := by
  unfold keyL
  rw [named_eq, named_eq]
  simp [beq_eq_false_iff_ne.2 h, beq_eq_false_iff_ne.2 h']
theorem key_short {k : List UInt8} (h : k.length ≤ 2) : keyL k = false := by
  unfold keyL
  rw [named_eq, named_eq, message_eq]
  have e : nameL (k.drop 2) = false := by rw [List.drop_eq_nil_of_le h]; rfl
  rw [e]; simp; omega
end Go.Proofs.YtlndiohdjdgaoaaDoor
