/-
  What change.Bytes returns of every change.
-/
import Derived.Test.YtkfpfbkdalbjoaaGreatChgCheck
import Derived.Test.YtkfpfbkdalbjoaaGreatChgParse
namespace Go.Proofs.YtkfpfbkdalbjoaaGreat
open Go.RowKit Go.Joins

def headB (c : Chg) : ByteArray := ⟨#[if c.gone then 1 else 0, UInt8.ofNat c.key.size]⟩

set_option maxHeartbeats 4000000 in
theorem chg_bytes (c : Chg) (w : World) (hk : c.key.size ≤ 1000) (hv : c.val.size ≤ 1000) (f : Nat) (hf : chgFault c = f) :
    Calls Tryz.prog 67 #[.agg #[.string c.key, .string c.val, .bool c.gone]] w fun e w' => e = .returned (.tuple (if f = 0 then #[.string (headB c ++ c.key ++ c.val), .nilIface] else #[.string ⟨#[]⟩, errV f])) ∧ Below w.heap.size w w' := by
  have HK := fun w' => hide (chg_check c w' (by unfold maxLen; omega))
  rw [hf] at HK
  have hB := below_alloc1 w (Obj.cells #[Value.string c.key, Value.string c.val, Value.bool c.gone] 54)
  have a0 : (w.alloc (Obj.cells #[Value.string c.key, Value.string c.val, Value.bool c.gone] 54)).cell? ⟨w.heap.size, 0, none⟩ = some (.string c.key) := by simp
  have a1 : (w.alloc (Obj.cells #[Value.string c.key, Value.string c.val, Value.bool c.gone] 54)).cell? ⟨w.heap.size, 1, none⟩ = some (.string c.val) := by simp
  have a2 : (w.alloc (Obj.cells #[Value.string c.key, Value.string c.val, Value.bool c.gone] 54)).cell? ⟨w.heap.size, 2, none⟩ = some (.bool c.gone) := by simp
  by_cases h0 : f = 0
  · subst h0
    simp only [if_true]
    unfold headB
    generalize c.gone = g at *
    cases g
    · go_enter Tryz.func67, Tryz.ntmps67
      go_wp2_with fail
      refine ((HK _).out).mono ?_
      rintro e w1 ⟨rfl, hb⟩
      replace hB := below_on hB (Nat.le_refl _) hb
      replace a0 := cell_on hb a0
      replace a1 := cell_on hb a1
      replace a2 := cell_on hb a2
      have m0 := World.new_ne w1 _ a0
      have hX := below_alloc1 w1 (Obj.cells #[Value.int .u8 0, Value.int .u8 ((c.key.size : Int) % 256)] 5)
      have x0 := cell_on hX a0
      have x1 := cell_on hX a1
      have x2 := cell_on hX a2
      have hcv := run_convert_bytes_back (P := Tryz.prog) ((w1.alloc (Obj.cells #[Value.int .u8 0, Value.int .u8 ((c.key.size : Int) % 256)] 5))) 89 9 5 ⟨w1.heap.size, 0, none⟩ 2 [0, UInt8.ofNat c.key.size] Tryz.underlying89 Tryz.underlying5 Tryz.underlying9 (fun j hj => by
        have hj2 : j = 0 ∨ j = 1 := by simp at hj; omega
        rcases hj2 with rfl | rfl
        · simp [Addr.add]
        · simp [Addr.add])
      simp only [List.length_cons, List.length_nil, Nat.zero_add, Nat.reduceAdd] at hcv
      have s1 : ¬ 9223372036854775807 < 2 + c.key.size := by omega
      have s2 : ¬ 9223372036854775807 < 2 + c.key.size + c.val.size := by omega
      clear HK hb
      simp only [if_true, errV]
      go_wp2
      go_ret2
      exact ⟨rfl, hB.trans (hX.mono hB.size)⟩
    · go_enter Tryz.func67, Tryz.ntmps67
      go_wp2_with fail
      refine ((HK _).out).mono ?_
      rintro e w1 ⟨rfl, hb⟩
      replace hB := below_on hB (Nat.le_refl _) hb
      replace a0 := cell_on hb a0
      replace a1 := cell_on hb a1
      replace a2 := cell_on hb a2
      have m0 := World.new_ne w1 _ a0
      have hX := below_alloc1 w1 (Obj.cells #[Value.int .u8 0, Value.int .u8 ((c.key.size : Int) % 256)] 5)
      have x0 := cell_on hX a0
      have x1 := cell_on hX a1
      have x2 := cell_on hX a2
      have hY := below_alloc1 w1 (Obj.cells #[Value.int .u8 1, Value.int .u8 ((c.key.size : Int) % 256)] 5)
      have y0 := cell_on hY a0
      have y1 := cell_on hY a1
      have hcv := run_convert_bytes_back (P := Tryz.prog) (w1.alloc (Obj.cells #[Value.int .u8 1, Value.int .u8 ((c.key.size : Int) % 256)] 5)) 89 9 5 ⟨w1.heap.size, 0, none⟩ 2 [1, UInt8.ofNat c.key.size] Tryz.underlying89 Tryz.underlying5 Tryz.underlying9 (fun j hj => by
        have hj2 : j = 0 ∨ j = 1 := by simp at hj; omega
        rcases hj2 with rfl | rfl
        · simp [Addr.add]
        · simp [Addr.add])
      simp only [List.length_cons, List.length_nil, Nat.zero_add, Nat.reduceAdd] at hcv
      have s1 : ¬ 9223372036854775807 < 2 + c.key.size := by omega
      have s2 : ¬ 9223372036854775807 < 2 + c.key.size + c.val.size := by omega
      clear HK hb
      simp only [if_true, errV]
      go_wp2
      go_ret2
      exact ⟨rfl, hB.trans (hY.mono hB.size)⟩
  · simp only [if_neg h0]
    go_enter Tryz.func67, Tryz.ntmps67
    go_wp2_with fail
    refine ((HK _).out).mono ?_
    rintro e w1 ⟨rfl, hb⟩
    replace hB := below_on hB (Nat.le_refl _) hb
    simp only [if_neg h0, errV]
    go_wp2
    go_ret2
    exact ⟨by simp [errV, h0], hB⟩
end Go.Proofs.YtkfpfbkdalbjoaaGreat

/-
  The text that change.Bytes writes is read back by change.Parse.
-/
namespace Go.Proofs.YtkfpfbkdalbjoaaGreat
open Go.RowKit Go.Joins

def textB (c : Chg) : ByteArray := headB c ++ c.key ++ c.val
theorem head_size (c : Chg) : (headB c).size = 2 := rfl
theorem text_size (c : Chg) : (textB c).size = 2 + c.key.size + c.val.size := by
  rw [textB, ByteArray.size_append, ByteArray.size_append, head_size]
theorem text_0 (c : Chg) (h : 0 < (textB c).size) : (textB c)[0].toNat = if c.gone then 1 else 0 := by
  simp only [textB, ByteArray.getElem_eq_getElem_data, ByteArray.data_append, headB, Array.append_assoc]
  by_cases hg : c.gone = true <;> simp [hg]
theorem text_1 (c : Chg) (h : 1 < (textB c).size) (hk : c.key.size ≤ 255) : (textB c)[1].toNat = c.key.size := by
  simp only [textB, ByteArray.getElem_eq_getElem_data, ByteArray.data_append, headB, Array.append_assoc]
  simp
  omega
theorem text_key (c : Chg) : (textB c).extract 2 (2 + c.key.size) = c.key := by
  rw [textB, ByteArray.append_assoc]
  exact (ByteArray.extract_append_size_add' (i := 0) (head_size c).symm).trans (ByteArray.extract_append_eq_left rfl)
theorem text_val (c : Chg) : (textB c).extract (2 + c.key.size) (textB c).size = c.val := by
  refine ByteArray.extract_append_eq_right ?_ ?_
  · rw [ByteArray.size_append, head_size]
  · rw [text_size, ByteArray.size_append, head_size]
theorem named_len {k head : List UInt8} (h : namedL k head = true) : k.length ≤ head.length + 6 := by
  simp only [namedL, nameL, Bool.and_eq_true, decide_eq_true_eq] at h
  obtain ⟨h1, ⟨_, h2⟩, _⟩ := h
  unfold Lib.trimPrefix at h2
  rw [if_pos h1, List.length_drop] at h2
  omega
theorem key_len {k : List UInt8} (h : keyL k = true) : k.length ≤ 15 := by
  simp only [keyL, Bool.or_eq_true] at h
  rcases h with h | h | h
  · have := named_len h; simp at this; omega
  · have := named_len h; simp at this; omega
  · simp only [messageL, messageOf, nameL, sixL, Bool.and_eq_true, decide_eq_true_eq] at h
    obtain ⟨h1, _, ⟨⟨_, h2⟩, _⟩, h3, _⟩ := h
    generalize Lib.indexByte _ _ = i at *
    unfold Lib.trimPrefix at h2 h3
    rw [if_pos h1] at h2 h3
    simp only [List.length_take, List.length_drop] at h2 h3
    simp only [List.length_cons, List.length_nil] at h2 h3
    omega
theorem fault_key {c : Chg} (h : chgFault c = 0) : c.key.size ≤ 15 ∧ c.val.size ≤ 40 := by
  unfold chgFault at h
  split at h
  · cases h
  · rename_i hk
    split at h
    · cases h
    · split at h
      · cases h
      · rename_i hv
        refine ⟨?_, by omega⟩
        have := key_len (k := c.key.data.toList) (by simpa using hk)
        rwa [len_data] at this

theorem parse_text (c : Chg) (w : World) (hf : chgFault c = 0) :
    Calls Tryz.prog 86 #[.string (textB c)] w fun e w' => e = .returned (.tuple #[.agg #[.string c.key, .string c.val, .bool c.gone], .nilIface]) ∧ Below w.heap.size w w' := by
  obtain ⟨hk, hv⟩ := fault_key hf
  have hs := text_size c
  refine parse_some (textB c) c w (by unfold maxLen; omega) hf (fun w' => ?_)
  have h0 : 0 < (textB c).size := by omega
  have h1 : 1 < (textB c).size := by omega
  have hS := split_some (textB c) w' h1 (by omega) (if c.gone then 1 else 0) c.key.size (text_0 c h0) (text_1 c h1 (by omega)) (by split <;> omega) (by omega)
  rw [text_key, text_val] at hS
  refine hS.mono ?_
  rintro e w2 ⟨rfl, hb⟩
  refine ⟨?_, hb⟩
  cases c.gone <;> rfl
end Go.Proofs.YtkfpfbkdalbjoaaGreat
