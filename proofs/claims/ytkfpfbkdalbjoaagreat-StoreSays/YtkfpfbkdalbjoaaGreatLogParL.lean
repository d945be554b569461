/-
  A change of bytes, as a plain function; what change.Parse returns.
-/
import Derived.Test.YtkfpfbkdalbjoaaGreatChgParse
import Derived.Test.YtkfpfbkdalbjoaaGreatChgBytes
import Derived.Test.YtkfpfbkdalbjoaaGreatLogSec
namespace Go.Proofs.YtkfpfbkdalbjoaaGreat
open Go.RowKit Go.Joins

def zeroC : Chg := ⟨⟨#[]⟩, ⟨#[]⟩, false⟩
def cutC (s : ByteArray) : Chg := ⟨s.extract 2 (2 + byteAt s 1), s.extract (2 + byteAt s 1) s.size, (byteAt s 0 : Int) == 1⟩
def parseF (s : ByteArray) : Nat := if s.size < 2 ∨ 1 < byteAt s 0 ∨ s.size < 2 + byteAt s 1 ∨ chgFault (cutC s) ≠ 0 then 4 else 0
def parseC (s : ByteArray) : Chg := if parseF s = 0 then cutC s else zeroC
theorem parse_any (s : ByteArray) (hs : s.size ≤ 300) (w : World) : Calls Tryz.prog 86 #[.string s] w fun e w' => e = .returned (.tuple #[.agg #[.string (parseC s).key, .string (parseC s).val, .bool (parseC s).gone], errV (parseF s)]) ∧ Below w.heap.size w w' := by
  have bad : parseF s = 4 → parseC s = zeroC := fun e => by unfold parseC; rw [e, if_neg (by decide)]
  by_cases h2 : s.size < 2
  · have e : parseF s = 4 := if_pos (.inl h2)
    rw [bad e, e]
    exact parse_bad s w fun w' => split_short s w' h2
  · have h2' : 2 ≤ s.size := by omega
    have b0 : s[0].toNat = byteAt s 0 := byteAt_of (by omega)
    have b1 : s[1].toNat = byteAt s 1 := byteAt_of (by omega)
    by_cases h1 : 1 < byteAt s 0
    · have e : parseF s = 4 := if_pos (.inr (.inl h1))
      rw [bad e, e]
      exact parse_bad s w fun w' => split_mark s w' h2' _ rfl (by rw [b0]; exact h1)
    · have hy := byteAt_lt s 1
      by_cases hl : s.size < 2 + byteAt s 1
      · have e : parseF s = 4 := if_pos (.inr (.inr (.inl hl)))
        rw [bad e, e]
        exact parse_bad s w fun w' => split_cut s w' h2' _ _ b0 b1 (by omega) hl (by omega)
      · have hS := fun w' => split_some s w' h2' (by omega) _ _ b0 b1 (by omega) (by omega)
        have hg : decide (byteAt s 0 = 1) = ((byteAt s 0 : Int) == 1) := by rw [Bool.eq_iff_iff]; simp; omega
        rw [hg] at hS
        have hk : (cutC s).key.size ≤ maxLen := by unfold cutC maxLen; simp; omega
        by_cases h0 : chgFault (cutC s) = 0
        · have e : parseF s = 0 := if_neg (by rintro (h | h | h | h) <;> contradiction)
          have e2 : parseC s = cutC s := if_pos e
          rw [e2, e]
          exact parse_some s (cutC s) w hk h0 fun w' => hS w'
        · have e : parseF s = 4 := if_pos (.inr (.inr (.inr h0)))
          rw [bad e, e]
          exact parse_refused s (cutC s) w hk _ rfl h0 fun w' => hS w'
/-- a change's own bytes -/
theorem parse_own (c : Chg) (hf : chgFault c = 0) : parseF (textB c) = 0 ∧ parseC (textB c) = c := by
  obtain ⟨hk, hv⟩ := fault_key hf
  have hs := text_size c
  have h0 : 0 < (textB c).size := by omega
  have h1 : 1 < (textB c).size := by omega
  have b0 : byteAt (textB c) 0 = if c.gone then 1 else 0 := (byteAt_of h0).symm.trans (text_0 c h0)
  have b1 : byteAt (textB c) 1 = c.key.size := (byteAt_of h1).symm.trans (text_1 c h1 (by omega))
  have e : cutC (textB c) = c := by
    unfold cutC
    rw [b1, text_key, text_val, b0]
    cases c with
    | mk k v g => cases g <;> rfl
  have ef : parseF (textB c) = 0 := by
    refine if_neg ?_
    rw [e, b0, b1]
    rintro (h | h | h | h)
    · omega
    · split at h <;> omega
    · omega
    · exact h hf
  exact ⟨ef, by unfold parseC; rw [ef, if_pos rfl, e]⟩
end Go.Proofs.YtkfpfbkdalbjoaaGreat

/-
  A log's deeds, as plain lists: of sectors those that are closed.
-/
namespace Go.Proofs.YtkfpfbkdalbjoaaGreat

abbrev RSt := List (List Chg) × List Chg
def takeL (st : RSt) (k : Nat) (d : ByteArray) : Option RSt :=
  if k = 111 then (if parseF d = 0 then some (st.1, st.2 ++ [parseC d]) else none)
  else if (d.toList == (fourB st.2.length).toList) = true then some (st.1 ++ [st.2], []) else none
def scanL (first : Nat) : Nat → List ByteArray → RSt → Nat → List (List Chg) × Nat
  | _, [], st, u => (st.1, u)
  | i, t :: l, st, u => match decL t (first + i) with
    | none => (st.1, u)
    | some (k, d) => match takeL st k d with
      | none => (st.1, u)
      | some st' => scanL first (i + 1) l st' (if k = 99 then i + 1 else u)
def deedsL (secs : List ByteArray) (first : Nat) : List (List Chg) := (scanL first 0 secs ([], []) 0).1
def usedL (secs : List ByteArray) (first : Nat) : Nat := (scanL first 0 secs ([], []) 0).2
theorem decL_kind {t : ByteArray} {n k : Nat} {d : ByteArray} (h : decL t n = some (k, d)) : k = 111 ∨ k = 99 := by
  unfold decL at h
  split at h
  case isFalse => cases h
  case isTrue hh => simp only [Option.some.injEq, Prod.mk.injEq] at h; rw [← h.1]; exact hh.1
theorem decL_size {t : ByteArray} {n k : Nat} {d : ByteArray} (h : decL t n = some (k, d)) : d.size ≤ 90 := by
  unfold decL at h
  split at h
  case isFalse => cases h
  case isTrue hh =>
    simp only [Option.some.injEq, Prod.mk.injEq] at h
    rw [← h.2, ByteArray.size_extract]
    have := hh.2.2
    omega
theorem scan_none {first i : Nat} {t : ByteArray} {l : List ByteArray} {st : RSt} {u : Nat} (h : decL t (first + i) = none) : scanL first i (t :: l) st u = (st.1, u) := by
  simp only [scanL, h]
theorem scan_stop {first i k : Nat} {d t : ByteArray} {l : List ByteArray} {st : RSt} {u : Nat} (h : decL t (first + i) = some (k, d)) (ht : takeL st k d = none) : scanL first i (t :: l) st u = (st.1, u) := by
  simp only [scanL, h, ht]
theorem scan_step {first i k : Nat} {d t : ByteArray} {l : List ByteArray} {st st' : RSt} {u : Nat} (h : decL t (first + i) = some (k, d)) (ht : takeL st k d = some st') : scanL first i (t :: l) st u = scanL first (i + 1) l st' (if k = 99 then i + 1 else u) := by
  simp only [scanL, h, ht]
theorem takeL_len {st st' : RSt} {k : Nat} {d : ByteArray} (h : takeL st k d = some st') : st'.1.length ≤ st.1.length + 1 ∧ st'.2.length ≤ st.2.length + 1 := by
  unfold takeL at h
  split at h
  · split at h
    · simp only [Option.some.injEq] at h; rw [← h]; simp
    · cases h
  · split at h
    · simp only [Option.some.injEq] at h; rw [← h]; simp
    · cases h
end Go.Proofs.YtkfpfbkdalbjoaaGreat
