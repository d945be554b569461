/-
  The text that change.Bytes writes is read back by change.Parse.
-/
import Derived.Test.YtlndiohdjdgaoaaChgBytes
import Derived.Test.YtlndiohdjdgaoaaChgParse
namespace Go.Proofs.Ytlndiohdjdgaoaa
open Go.RowKit Go.Joins

def textB (c : Chg) : ByteArray := headB c ++ c.key ++ c.val
theorem head_size (c : Chg) : (headB c).size = 2 := rfl
theorem text_size (c : Chg) : (textB c).size = 2 + c.key.size + c.val.size := by
  rw [textB, ByteArray.size_append, ByteArray.size_append, head_size]
theorem text_0 (c : Chg) (h : 0 < (textB c).size) : (textB c)[0].toNat = if c.gone then 1 else 0 := by
  simp only [textB, ByteArray.getElem_eq_getElem_data, ByteArray.data_append, headB, Array.append_assoc]
  by_cases hg : c.gone = true <;> simp [hg]
theorem text_1 (c : Chg) (h : 1 < (textB c).size) (hk : c.key.size ≤ 255) : (textB c)[1].toNat = c.key.size := by
  simp only [textB, ByteArray.getElem_eq_getElem_data, ByteArray.data_append, headB, Array.append_assoc]
  simp
  omega
theorem text_key (c : Chg) : (textB c).extract 2 (2 + c.key.size) = c.key := by
  rw [textB, ByteArray.append_assoc]
  exact (ByteArray.extract_append_size_add' (i := 0) (head_size c).symm).trans (ByteArray.extract_append_eq_left rfl)
theorem text_val (c : Chg) : (textB c).extract (2 + c.key.size) (textB c).size = c.val := by
  refine ByteArray.extract_append_eq_right ?_ ?_
  · rw [ByteArray.size_append, head_size]
  · rw [text_size, ByteArray.size_append, head_size]
theorem named_len {k head : List UInt8} (h : namedL k head = true) : k.length ≤ head.length + 6 := by
  simp only [namedL, nameL, Bool.and_eq_true, decide_eq_true_eq] at h
  obtain ⟨h1, ⟨_, h2⟩, _⟩ := h
  unfold Lib.trimPrefix at h2
  rw [if_pos h1, List.length_drop] at h2
  omega
theorem key_len {k : List UInt8} (h : keyL k = true) : k.length ≤ 15 := by
  simp only [keyL, Bool.or_eq_true] at h
  rcases h with h | h | h
  · have := named_len h; simp at this; omega
  · have := named_len h; simp at this; omega
  · simp only [messageL, messageOf, nameL, sixL, Bool.and_eq_true, decide_eq_true_eq] at h
    obtain ⟨h1, _, ⟨⟨_, h2⟩, _⟩, h3, _⟩ := h
    generalize Lib.indexByte _ _ = i at *
    unfold Lib.trimPrefix at h2 h3
    rw [if_pos h1] at h2 h3
    simp only [List.length_take, List.length_drop] at h2 h3
    simp only [List.length_cons, List.length_nil] at h2 h3
    omega
theorem fault_key {c : Chg} (h : chgFault c = 0) : c.key.size ≤ 15 ∧ c.val.size ≤ 40 := by
  unfold chgFault at h
  split at h
  · cases h
  · rename_i hk
    split at h
    · cases h
    · split at h
      · cases h
      · rename_i hv
        refine ⟨?_, by omega⟩
        have := key_len (k := c.key.data.toList) (by simpa using hk)
        rwa [len_data] at this

theorem parse_text (c : Chg) (w : World) (hf : chgFault c = 0) :
    Calls Try.prog 22 #[.string (textB c)] w fun e w' => e = .returned (.tuple #[.agg #[.string c.key, .string c.val, .bool c.gone], .nilIface]) ∧ Below w.heap.size w w' := by
  obtain ⟨hk, hv⟩ := fault_key hf
  have hs := text_size c
  refine parse_some (textB c) c w (by unfold maxLen; omega) hf (fun w' => ?_)
  have h0 : 0 < (textB c).size := by omega
  have h1 : 1 < (textB c).size := by omega
  have hS := split_some (textB c) w' h1 (by omega) (if c.gone then 1 else 0) c.key.size (text_0 c h0) (text_1 c h1 (by omega)) (by split <;> omega) (by omega)
  rw [text_key, text_val] at hS
  refine hS.mono ?_
  rintro e w2 ⟨rfl, hb⟩
  refine ⟨?_, hb⟩
  cases c.gone <;> rfl
end Go.Proofs.Ytlndiohdjdgaoaa
