/-
  What strings.Cut returns at a separator of one byte, for every text; it changes nothing but the count of draws.
-/
import Derived.Test.YtighpalbodhfeaaGreatDoorBase
import Derived.Test.YtighpalbodhfeaaGreatDoorShelfS
import Derived.Test.YtighpalbodhfeaaGreatDoorRowKeys
namespace Go.Proofs.YtighpalbodhfeaaGreatDoor
open Go.RowKit Go.Joins

theorem indexByte_bd (l : List UInt8) (c : UInt8) : -1 ≤ Lib.indexByte l c ∧ Lib.indexByte l c < l.length := by
  induction l with
  | nil => simp [Lib.indexByte]
  | cons b l ih =>
    simp only [Lib.indexByte, List.length_cons]
    split
    · omega
    · split <;> omega

def takeB (s : ByteArray) (n : Nat) : ByteArray := s.extract 0 n
def dropB (s : ByteArray) (n : Nat) : ByteArray := s.extract n s.size
theorem takeB_data (s : ByteArray) (n : Nat) : (takeB s n).data.toList = s.data.toList.take n := by simp [takeB]
theorem dropB_data (s : ByteArray) (n : Nat) : (dropB s n).data.toList = s.data.toList.drop n := by
  rw [dropB, Lib.extract_to_end]
def cutV (s : ByteArray) (i : Int) : Value :=
  if 0 ≤ i then .tuple #[.string (takeB s i.toNat), .string (dropB s (i.toNat + 1)), .bool true] else .tuple #[.string s, .string ⟨#[]⟩, .bool false]

set_option maxHeartbeats 1000000 in
theorem lcut_any (s : ByteArray) (c : UInt8) (w : World) (hs : s.size ≤ maxLen) :
    Calls Tryz.prog 153 #[.string s, .string ⟨#[c]⟩] w fun e w' => e = .returned (cutV s (Lib.indexByte s.data.toList c)) ∧ Below w.heap.size w w' := by
  unfold maxLen at hs
  have hi := indexByte_bd s.data.toList c
  rw [len_data] at hi
  have hc := Tryz.stringslite_Index_one s c
  generalize Lib.indexByte s.data.toList c = i at hc hi ⊢
  have HC := hide hc
  clear hc
  by_cases h0 : 0 ≤ i
  · obtain ⟨n, rfl⟩ := Int.eq_ofNat_of_zero_le h0
    obtain ⟨_, h2⟩ := hi
    have h3 : n + 1 ≤ s.size := by omega
    go_enter Tryz.func153, Tryz.ntmps153
    go_wp2_with (go_at_call 177; refine (HC.out _).mono ?_; rintro e w1 ⟨rfl, rfl⟩)
    go_quiet (fail)
    go_wp2
    go_ret3
    refine ⟨?_, below_draws _ _ _⟩
    simp [cutV, takeB, dropB]
  · have hg : decide (0 ≤ i) = false := by simp; omega
    go_enter Tryz.func153, Tryz.ntmps153
    go_wp2_with (go_at_call 177; refine (HC.out _).mono ?_; rintro e w1 ⟨rfl, rfl⟩)
    go_ret3
    refine ⟨?_, Below.refl _ _⟩
    simp [cutV, h0]

set_option maxHeartbeats 1000000 in
theorem cut_any (s : ByteArray) (c : UInt8) (w : World) (hs : s.size ≤ maxLen) :
    Calls Tryz.prog 132 #[.string s, .string ⟨#[c]⟩] w fun e w' => e = .returned (cutV s (Lib.indexByte s.data.toList c)) ∧ Below w.heap.size w w' := by
  have hc := fun w => lcut_any s c w hs
  unfold cutV at hc ⊢
  by_cases h0 : 0 ≤ Lib.indexByte s.data.toList c
  all_goals
    simp only [h0, if_true, if_false] at hc ⊢
    have HC := hide hc
    clear hc h0
    go_enter Tryz.func132, Tryz.ntmps132
    go_wp2_with (go_at_call 153; refine (HC.out _).mono ?_; rintro e w1 ⟨rfl, hb⟩)
    go_ret3
    exact ⟨rfl, hb⟩
end Go.Proofs.YtighpalbodhfeaaGreatDoor

/-
  What package row's splitFields returns of a text of two numbers and a rest; nothing that was there is changed.
-/
namespace Go.Proofs.YtighpalbodhfeaaGreatDoor
open Go.RowKit Go.Joins

set_option maxHeartbeats 1000000 in
/-- the parts being what strings.Cut answers, and the numbers what strconv.Atoi does -/
theorem split_of (s f b g r : ByteArray) (c1 c2 : Bool) (x y : Int) (w : World) (hs : s.size ≤ maxLen) (hb : b.size ≤ maxLen)
    (h1 : cutV s (Lib.indexByte s.data.toList 32) = .tuple #[.string f, .string b, .bool c1]) (h2 : cutV b (Lib.indexByte b.data.toList 32) = .tuple #[.string g, .string r, .bool c2])
    (hx : ∀ w', Below w.heap.size w w' → Calls Tryz.prog 122 #[.string f] w' fun e w'' => (∃ ev, e = .returned (.tuple #[.int .i64 x, ev])) ∧ Below w'.heap.size w' w'')
    (hy : ∀ w', Below w.heap.size w w' → Calls Tryz.prog 122 #[.string g] w' fun e w'' => (∃ ev, e = .returned (.tuple #[.int .i64 y, ev])) ∧ Below w'.heap.size w' w'') :
    Calls Tryz.prog 106 #[.string s] w fun e w' => e = .returned (.tuple #[.int .i64 x, .int .i64 y, .string r]) ∧ Below w.heap.size w w' := by
  have k1 := fun w => cut_any s 32 w hs
  have k2 := fun w => cut_any b 32 w hb
  rw [h1] at k1
  rw [h2] at k2
  have K1 := hide k1
  have K2 := hide k2
  have HX := hide hx
  have HY := hide hy
  have hB := Below.refl w.heap.size w
  clear k1 k2 hx hy h1 h2
  go_enter Tryz.func106, Tryz.ntmps106
  go_wp2_with fail
  refine (K1.out _).mono ?_
  rintro e w1 ⟨rfl, hb1⟩
  replace hB := below_on hB (Nat.le_refl _) hb1
  go_wp2_with fail
  refine (K2.out _).mono ?_
  rintro e w2 ⟨rfl, hb2⟩
  replace hB := below_on hB (Nat.le_refl _) hb2
  go_wp2_with fail
  refine (HX.out _ hB).mono ?_
  rintro e w3 ⟨⟨ev, rfl⟩, hb3⟩
  replace hB := below_on hB (Nat.le_refl _) hb3
  go_wp2_with fail
  refine (HY.out _ hB).mono ?_
  rintro e w4 ⟨⟨ev', rfl⟩, hb4⟩
  replace hB := below_on hB (Nat.le_refl _) hb4
  go_wp2
  go_ret3
  exact ⟨rfl, hB⟩

def tailB (b : Nat) (r : ByteArray) : ByteArray := decB b ++ ⟨#[32]⟩ ++ r
theorem tailB_l (b : Nat) (r : ByteArray) : (tailB b r).data.toList = Lib.decDigits b ++ 32 :: r.data.toList := by simp [tailB, ByteArray.data_append, decB_l]
theorem cut_join (a b : Nat) (r : ByteArray) : cutV (joinB a b r) (Lib.indexByte (joinB a b r).data.toList 32) = .tuple #[.string (decB a), .string (tailB b r), .bool true] := by
  rw [join_index1, cutV, if_pos (by omega), Int.toNat_natCast]
  have e1 : takeB (joinB a b r) (decB a).size = decB a := data_inj (by rw [takeB_data, joinB_l, Lib.size_eq, decB_l]; simp)
  have e2 : dropB (joinB a b r) ((decB a).size + 1) = tailB b r := data_inj (by rw [dropB_data, joinB_l, tailB_l, Lib.size_eq, decB_l, List.drop_append]; simp)
  rw [e1, e2]
theorem cut_tail (b : Nat) (r : ByteArray) : cutV (tailB b r) (Lib.indexByte (tailB b r).data.toList 32) = .tuple #[.string (decB b), .string r, .bool true] := by
  have i : Lib.indexByte (tailB b r).data.toList 32 = (decB b).size := by
    rw [tailB_l, index_no (fun c hc => dig_ne (dec_dig b c hc) 32 (by decide)), Lib.size_eq, decB_l]
  rw [i, cutV, if_pos (by omega), Int.toNat_natCast]
  have e1 : takeB (tailB b r) (decB b).size = decB b := data_inj (by rw [takeB_data, tailB_l, Lib.size_eq, decB_l]; simp)
  have e2 : dropB (tailB b r) ((decB b).size + 1) = r := data_inj (by rw [dropB_data, tailB_l, Lib.size_eq, decB_l, List.drop_append]; simp)
  rw [e1, e2]
theorem join_size (a b : Nat) (r : ByteArray) (ha : a ≤ 9999999) (hb : b ≤ 9999999) : (joinB a b r).size ≤ r.size + 16 ∧ (tailB b r).size ≤ r.size + 8 := by
  have ea := len_dec_lt a ha
  have eb := len_dec_lt b hb
  rw [Lib.size_eq, Lib.size_eq, Lib.size_eq, joinB_l, tailB_l]
  simp only [List.length_append, List.length_cons]
  omega
end Go.Proofs.YtighpalbodhfeaaGreatDoor
