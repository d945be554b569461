/-
  What strings.Cut returns at a separator of one byte, for every text; it changes nothing but the count of draws.
-/
import Derived.Test.YtpbhcjkllfonhaaGreatStr
import Derived.Test.YtpbhcjkllfonhaaGreatChgFind
import Derived.Test.YtpbhcjkllfonhaaGreatShelfS
namespace Go.Proofs.YtpbhcjkllfonhaaGreat
open Go.RowKit Go.Joins

theorem indexByte_bd (l : List UInt8) (c : UInt8) : -1 ≤ Lib.indexByte l c ∧ Lib.indexByte l c < l.length := by
  induction l with
  | nil => simp [Lib.indexByte]
  | cons b l ih =>
    simp only [Lib.indexByte, List.length_cons]
    split
    · omega
    · split <;> omega

def takeB (s : ByteArray) (n : Nat) : ByteArray := s.extract 0 n
def dropB (s : ByteArray) (n : Nat) : ByteArray := s.extract n s.size
theorem takeB_data (s : ByteArray) (n : Nat) : (takeB s n).data.toList = s.data.toList.take n := by simp [takeB]
theorem dropB_data (s : ByteArray) (n : Nat) : (dropB s n).data.toList = s.data.toList.drop n := by
  rw [dropB, Lib.extract_to_end]
def cutV (s : ByteArray) (i : Int) : Value :=
  if 0 ≤ i then .tuple #[.string (takeB s i.toNat), .string (dropB s (i.toNat + 1)), .bool true] else .tuple #[.string s, .string ⟨#[]⟩, .bool false]

set_option maxHeartbeats 1000000 in
theorem lcut_any (s : ByteArray) (c : UInt8) (w : World) (hs : s.size ≤ maxLen) :
    Calls Tryz.prog 88 #[.string s, .string ⟨#[c]⟩] w fun e w' => e = .returned (cutV s (Lib.indexByte s.data.toList c)) ∧ Below w.heap.size w w' := by
  unfold maxLen at hs
  have hi := indexByte_bd s.data.toList c
  rw [len_data] at hi
  have hc := Tryz.stringslite_Index_one s c
  generalize Lib.indexByte s.data.toList c = i at hc hi ⊢
  have HC := hide hc
  clear hc
  by_cases h0 : 0 ≤ i
  · obtain ⟨n, rfl⟩ := Int.eq_ofNat_of_zero_le h0
    obtain ⟨_, h2⟩ := hi
    have h3 : n + 1 ≤ s.size := by omega
    go_enter Tryz.func88, Tryz.ntmps88
    go_wp2_with (go_at_call 103; refine (HC.out _).mono ?_; rintro e w1 ⟨rfl, rfl⟩)
    go_quiet (fail)
    go_wp2
    go_ret3
    refine ⟨?_, below_draws _ _ _⟩
    simp [cutV, takeB, dropB]
  · have hg : decide (0 ≤ i) = false := by simp; omega
    go_enter Tryz.func88, Tryz.ntmps88
    go_wp2_with (go_at_call 103; refine (HC.out _).mono ?_; rintro e w1 ⟨rfl, rfl⟩)
    go_ret3
    refine ⟨?_, Below.refl _ _⟩
    simp [cutV, h0]

set_option maxHeartbeats 1000000 in
theorem cut_any (s : ByteArray) (c : UInt8) (w : World) (hs : s.size ≤ maxLen) :
    Calls Tryz.prog 72 #[.string s, .string ⟨#[c]⟩] w fun e w' => e = .returned (cutV s (Lib.indexByte s.data.toList c)) ∧ Below w.heap.size w w' := by
  have hc := fun w => lcut_any s c w hs
  unfold cutV at hc ⊢
  by_cases h0 : 0 ≤ Lib.indexByte s.data.toList c
  all_goals
    simp only [h0, if_true, if_false] at hc ⊢
    have HC := hide hc
    clear hc h0
    go_enter Tryz.func72, Tryz.ntmps72
    go_wp2_with (go_at_call 88; refine (HC.out _).mono ?_; rintro e w1 ⟨rfl, hb⟩)
    go_ret3
    exact ⟨rfl, hb⟩
end Go.Proofs.YtpbhcjkllfonhaaGreat

/-
  What package row's Check returns: no error at a key of a row, else the error 3; for every text; nothing that was there is changed.
-/
namespace Go.Proofs.YtpbhcjkllfonhaaGreat
open Go.RowKit Go.Joins

/-- an error of package api, by its number; 0: none -/
def errV (n : Nat) : Value := if n = 0 then .nilIface else .iface 77 (.int .i64 n)

theorem back (l : List UInt8) : (⟨l.toArray⟩ : ByteArray).data.toList = l := by simp

set_option maxHeartbeats 1000000 in
theorem isNamed_any (k head : ByteArray) (w : World) :
    Calls Tryz.prog 58 #[.string k, .string head] w fun e w' => e = .returned (.bool (namedL k.data.toList head.data.toList)) ∧ w' = w := by
  obtain ⟨r, hr⟩ : ∃ r : ByteArray, r = ⟨(Lib.trimPrefix k.data.toList head.data.toList).toArray⟩ := ⟨_, rfl⟩
  have hrd : Lib.trimPrefix k.data.toList head.data.toList = r.data.toList := by rw [hr, back]
  have hc : ∀ w, Calls Tryz.prog 70 #[.string k, .string head] w fun e w' => e = .returned (.tuple #[.string r, .bool (Lib.hasPrefix k.data.toList head.data.toList)]) ∧ w' = w := by
    rw [hr]; exact Tryz.strings_CutPrefix k head
  have hn := name_any r
  unfold namedL
  rw [hrd]
  clear hrd hr
  generalize nameL r.data.toList = y at hn ⊢
  generalize Lib.hasPrefix k.data.toList head.data.toList = x at hc ⊢
  have HC := hide hc
  have HN := hide hn
  clear hc hn
  cases x
  all_goals
    go_enter Tryz.func58, Tryz.ntmps58
    go_wp2_with (first | (go_at_call 70; refine (HC.out _).mono ?_; rintro e w1 ⟨rfl, rfl⟩) | (go_at_call 71; refine (HN.out _).mono ?_; rintro e w1 ⟨rfl, rfl⟩))
    go_ret
    exact ⟨rfl, rfl⟩

set_option maxHeartbeats 1000000 in
theorem isMessage_any (k : ByteArray) (w : World) (hk : k.size ≤ maxLen) :
    Calls Tryz.prog 59 #[.string k] w fun e w' => e = .returned (.bool (messageL k.data.toList)) ∧ Below w.heap.size w w' := by
  obtain ⟨r, hr⟩ : ∃ r : ByteArray, r = ⟨(Lib.trimPrefix k.data.toList [109, 47]).toArray⟩ := ⟨_, rfl⟩
  have hrd : Lib.trimPrefix k.data.toList [109, 47] = r.data.toList := by rw [hr, back]
  have hc : ∀ w, Calls Tryz.prog 70 #[.string k, .string ⟨#[109, 47]⟩] w fun e w' => e = .returned (.tuple #[.string r, .bool (Lib.hasPrefix k.data.toList [109, 47])]) ∧ w' = w := by
    rw [hr]; exact Tryz.strings_CutPrefix k ⟨#[109, 47]⟩
  have hsz : r.size ≤ maxLen := by
    rw [Lib.size_eq, ← hrd]
    rw [Lib.size_eq] at hk
    unfold Lib.trimPrefix
    split
    · rw [List.length_drop]; omega
    · exact hk
  have hcut := fun w => cut_any r 47 w hsz
  unfold messageL
  rw [hrd]
  clear hrd hr hsz
  generalize Lib.indexByte r.data.toList 47 = i at hcut ⊢
  have hn := name_any (takeB r i.toNat)
  have hx := isNumber_any (dropB r (i.toNat + 1))
  rw [takeB_data] at hn
  rw [dropB_data] at hx
  unfold messageOf
  unfold cutV at hcut
  generalize takeB r i.toNat = x at hn hcut
  generalize dropB r (i.toNat + 1) = y at hx hcut
  generalize nameL (r.data.toList.take i.toNat) = nx at hn ⊢
  generalize sixL (r.data.toList.drop (i.toNat + 1)) = ny at hx ⊢
  generalize Lib.hasPrefix k.data.toList [109, 47] = p at hc ⊢
  have HB := Below.refl w.heap.size w
  have HC := hide hc
  have HN := hide hn
  have HX := hide hx
  clear hc hn hx
  cases p
  · have HT := hide hcut
    clear hcut
    go_enter Tryz.func59, Tryz.ntmps59
    go_wp2_with (go_at_call 70; refine (HC.out _).mono ?_; rintro e w1 ⟨rfl, rfl⟩)
    go_ret
    exact ⟨rfl, HB⟩
  · by_cases h0 : 0 ≤ i
    all_goals
      simp only [h0, if_true, if_false, decide_true, decide_false, Bool.true_and, Bool.false_and] at hcut ⊢
      have HT := hide hcut
      clear hcut h0
      try cases nx
      all_goals
        go_enter Tryz.func59, Tryz.ntmps59
        go_wp2_with (first
          | (go_at_call 70; refine (HC.out _).mono ?_; rintro e w1 ⟨rfl, rfl⟩)
          | (go_at_call 72; refine (HT.out _).mono ?_; rintro e w1 ⟨rfl, hb⟩; replace HB := below_on HB (Nat.le_refl _) hb; clear hb)
          | (go_at_call 71; refine (HN.out _).mono ?_; rintro e w1 ⟨rfl, rfl⟩)
          | (go_at_call 73; refine (HX.out _).mono ?_; rintro e w1 ⟨rfl, rfl⟩))
        go_ret
        exact ⟨rfl, HB⟩

set_option maxHeartbeats 1000000 in
theorem check_any (k : ByteArray) (w : World) (hk : k.size ≤ maxLen) :
    Calls Tryz.prog 41 #[.string k] w fun e w' => e = .returned (errV (if keyL k.data.toList then 0 else 3)) ∧ Below w.heap.size w w' := by
  have h1 := isNamed_any k ⟨#[116, 47]⟩
  have h2 := isNamed_any k ⟨#[113, 47]⟩
  have h3 := fun w => isMessage_any k w hk
  have e1 : (⟨#[116, 47]⟩ : ByteArray).data.toList = [116, 47] := rfl
  have e2 : (⟨#[113, 47]⟩ : ByteArray).data.toList = [113, 47] := rfl
  rw [e1] at h1
  rw [e2] at h2
  clear e1 e2
  unfold keyL
  generalize namedL k.data.toList [116, 47] = x at h1 ⊢
  generalize namedL k.data.toList [113, 47] = y at h2 ⊢
  generalize messageL k.data.toList = z at h3 ⊢
  have HB := Below.refl w.heap.size w
  have H1 := hide h1
  have H2 := hide h2
  have H3 := hide h3
  clear h1 h2 h3
  cases x <;> cases y <;> cases z
  all_goals
    go_enter Tryz.func41, Tryz.ntmps41
    go_wp2_with (first
      | (go_at_call_of 58 (Value.string ⟨#[116, 47]⟩); refine (H1.out _).mono ?_; rintro e w1 ⟨rfl, rfl⟩)
      | (go_at_call_of 58 (Value.string ⟨#[113, 47]⟩); refine (H2.out _).mono ?_; rintro e w1 ⟨rfl, rfl⟩)
      | (go_at_call 59; refine (H3.out _).mono ?_; rintro e w1 ⟨rfl, hb⟩; replace HB := below_on HB (Nat.le_refl _) hb; clear hb))
    go_ret
    exact ⟨rfl, HB⟩
end Go.Proofs.YtpbhcjkllfonhaaGreat
