/-
  What strings.Cut returns at a separator of one byte, for every text; it changes nothing but the count of draws.
-/
import Derived.Test.YtkfpfbkdalbjoaaGreatBase
import Derived.Test.YtkfpfbkdalbjoaaGreatStr
import Derived.Test.YtkfpfbkdalbjoaaGreatShelfS
namespace Go.Proofs.YtkfpfbkdalbjoaaGreat
open Go.RowKit Go.Joins

theorem indexByte_bd (l : List UInt8) (c : UInt8) : -1 ≤ Lib.indexByte l c ∧ Lib.indexByte l c < l.length := by
  induction l with
  | nil => simp [Lib.indexByte]
  | cons b l ih =>
    simp only [Lib.indexByte, List.length_cons]
    split
    · omega
    · split <;> omega

def takeB (s : ByteArray) (n : Nat) : ByteArray := s.extract 0 n
def dropB (s : ByteArray) (n : Nat) : ByteArray := s.extract n s.size
theorem takeB_data (s : ByteArray) (n : Nat) : (takeB s n).data.toList = s.data.toList.take n := by simp [takeB]
theorem dropB_data (s : ByteArray) (n : Nat) : (dropB s n).data.toList = s.data.toList.drop n := by
  rw [dropB, Lib.extract_to_end]
def cutV (s : ByteArray) (i : Int) : Value :=
  if 0 ≤ i then .tuple #[.string (takeB s i.toNat), .string (dropB s (i.toNat + 1)), .bool true] else .tuple #[.string s, .string ⟨#[]⟩, .bool false]

set_option maxHeartbeats 1000000 in
theorem lcut_any (s : ByteArray) (c : UInt8) (w : World) (hs : s.size ≤ maxLen) :
    Calls Tryz.prog 94 #[.string s, .string ⟨#[c]⟩] w fun e w' => e = .returned (cutV s (Lib.indexByte s.data.toList c)) ∧ Below w.heap.size w w' := by
  unfold maxLen at hs
  have hi := indexByte_bd s.data.toList c
  rw [len_data] at hi
  have hc := Tryz.stringslite_Index_one s c
  generalize Lib.indexByte s.data.toList c = i at hc hi ⊢
  have HC := hide hc
  clear hc
  by_cases h0 : 0 ≤ i
  · obtain ⟨n, rfl⟩ := Int.eq_ofNat_of_zero_le h0
    obtain ⟨_, h2⟩ := hi
    have h3 : n + 1 ≤ s.size := by omega
    go_enter Tryz.func94, Tryz.ntmps94
    go_wp2_with (go_at_call 95; refine (HC.out _).mono ?_; rintro e w1 ⟨rfl, rfl⟩)
    go_quiet (fail)
    go_wp2
    go_ret3
    refine ⟨?_, below_draws _ _ _⟩
    simp [cutV, takeB, dropB]
  · have hg : decide (0 ≤ i) = false := by simp; omega
    go_enter Tryz.func94, Tryz.ntmps94
    go_wp2_with (go_at_call 95; refine (HC.out _).mono ?_; rintro e w1 ⟨rfl, rfl⟩)
    go_ret3
    refine ⟨?_, Below.refl _ _⟩
    simp [cutV, h0]

set_option maxHeartbeats 1000000 in
theorem cut_any (s : ByteArray) (c : UInt8) (w : World) (hs : s.size ≤ maxLen) :
    Calls Tryz.prog 89 #[.string s, .string ⟨#[c]⟩] w fun e w' => e = .returned (cutV s (Lib.indexByte s.data.toList c)) ∧ Below w.heap.size w w' := by
  have hc := fun w => lcut_any s c w hs
  unfold cutV at hc ⊢
  by_cases h0 : 0 ≤ Lib.indexByte s.data.toList c
  all_goals
    simp only [h0, if_true, if_false] at hc ⊢
    have HC := hide hc
    clear hc h0
    go_enter Tryz.func89, Tryz.ntmps89
    go_wp2_with (go_at_call 94; refine (HC.out _).mono ?_; rintro e w1 ⟨rfl, hb⟩)
    go_ret3
    exact ⟨rfl, hb⟩
end Go.Proofs.YtkfpfbkdalbjoaaGreat
