/-
  What package row's Check returns: no error at a key of a row, else the error 3; for every text; nothing that was there is changed.
-/
import Derived.Test.YtkfpfbkdalbjoaaGreatRowName
import Derived.Test.YtkfpfbkdalbjoaaGreatErrV
import Derived.Test.YtkfpfbkdalbjoaaGreatCutWalk
namespace Go.Proofs.YtkfpfbkdalbjoaaGreat
open Go.RowKit Go.Joins

theorem back (l : List UInt8) : (⟨l.toArray⟩ : ByteArray).data.toList = l := by simp

set_option maxHeartbeats 1000000 in
theorem isNamed_any (k head : ByteArray) (w : World) :
    Calls Tryz.prog 82 #[.string k, .string head] w fun e w' => e = .returned (.bool (namedL k.data.toList head.data.toList)) ∧ w' = w := by
  obtain ⟨r, hr⟩ : ∃ r : ByteArray, r = ⟨(Lib.trimPrefix k.data.toList head.data.toList).toArray⟩ := ⟨_, rfl⟩
  have hrd : Lib.trimPrefix k.data.toList head.data.toList = r.data.toList := by rw [hr, back]
  have hc : ∀ w, Calls Tryz.prog 54 #[.string k, .string head] w fun e w' => e = .returned (.tuple #[.string r, .bool (Lib.hasPrefix k.data.toList head.data.toList)]) ∧ w' = w := by
    rw [hr]; exact Tryz.strings_CutPrefix k head
  have hn := name_any r
  unfold namedL
  rw [hrd]
  clear hrd hr
  generalize nameL r.data.toList = y at hn ⊢
  generalize Lib.hasPrefix k.data.toList head.data.toList = x at hc ⊢
  have HC := hide hc
  have HN := hide hn
  clear hc hn
  cases x
  all_goals
    go_enter Tryz.func82, Tryz.ntmps82
    go_wp2_with (first | (go_at_call 54; refine (HC.out _).mono ?_; rintro e w1 ⟨rfl, rfl⟩) | (go_at_call 88; refine (HN.out _).mono ?_; rintro e w1 ⟨rfl, rfl⟩))
    go_ret
    exact ⟨rfl, rfl⟩

set_option maxHeartbeats 1000000 in
theorem isMessage_any (k : ByteArray) (w : World) (hk : k.size ≤ maxLen) :
    Calls Tryz.prog 83 #[.string k] w fun e w' => e = .returned (.bool (messageL k.data.toList)) ∧ Below w.heap.size w w' := by
  obtain ⟨r, hr⟩ : ∃ r : ByteArray, r = ⟨(Lib.trimPrefix k.data.toList [109, 47]).toArray⟩ := ⟨_, rfl⟩
  have hrd : Lib.trimPrefix k.data.toList [109, 47] = r.data.toList := by rw [hr, back]
  have hc : ∀ w, Calls Tryz.prog 54 #[.string k, .string ⟨#[109, 47]⟩] w fun e w' => e = .returned (.tuple #[.string r, .bool (Lib.hasPrefix k.data.toList [109, 47])]) ∧ w' = w := by
    rw [hr]; exact Tryz.strings_CutPrefix k ⟨#[109, 47]⟩
  have hsz : r.size ≤ maxLen := by
    rw [Lib.size_eq, ← hrd]
    rw [Lib.size_eq] at hk
    unfold Lib.trimPrefix
    split
    · rw [List.length_drop]; omega
    · exact hk
  have hcut := fun w => cut_any r 47 w hsz
  unfold messageL
  rw [hrd]
  clear hrd hr hsz
  generalize Lib.indexByte r.data.toList 47 = i at hcut ⊢
  have hn := name_any (takeB r i.toNat)
  have hx := isNumber_any (dropB r (i.toNat + 1))
  rw [takeB_data] at hn
  rw [dropB_data] at hx
  unfold messageOf
  unfold cutV at hcut
  generalize takeB r i.toNat = x at hn hcut
  generalize dropB r (i.toNat + 1) = y at hx hcut
  generalize nameL (r.data.toList.take i.toNat) = nx at hn ⊢
  generalize sixL (r.data.toList.drop (i.toNat + 1)) = ny at hx ⊢
  generalize Lib.hasPrefix k.data.toList [109, 47] = p at hc ⊢
  have HB := Below.refl w.heap.size w
  have HC := hide hc
  have HN := hide hn
  have HX := hide hx
  clear hc hn hx
  cases p
  · have HT := hide hcut
    clear hcut
    go_enter Tryz.func83, Tryz.ntmps83
    go_wp2_with (go_at_call 54; refine (HC.out _).mono ?_; rintro e w1 ⟨rfl, rfl⟩)
    go_ret
    exact ⟨rfl, HB⟩
  · by_cases h0 : 0 ≤ i
    all_goals
      simp only [h0, if_true, if_false, decide_true, decide_false, Bool.true_and, Bool.false_and] at hcut ⊢
      have HT := hide hcut
      clear hcut h0
      try cases nx
      all_goals
        go_enter Tryz.func83, Tryz.ntmps83
        go_wp2_with (first
          | (go_at_call 54; refine (HC.out _).mono ?_; rintro e w1 ⟨rfl, rfl⟩)
          | (go_at_call 89; refine (HT.out _).mono ?_; rintro e w1 ⟨rfl, hb⟩; replace HB := below_on HB (Nat.le_refl _) hb; clear hb)
          | (go_at_call 88; refine (HN.out _).mono ?_; rintro e w1 ⟨rfl, rfl⟩)
          | (go_at_call 90; refine (HX.out _).mono ?_; rintro e w1 ⟨rfl, rfl⟩))
        go_ret
        exact ⟨rfl, HB⟩

set_option maxHeartbeats 1000000 in
theorem check_any (k : ByteArray) (w : World) (hk : k.size ≤ maxLen) :
    Calls Tryz.prog 66 #[.string k] w fun e w' => e = .returned (errV (if keyL k.data.toList then 0 else 3)) ∧ Below w.heap.size w w' := by
  have h1 := isNamed_any k ⟨#[116, 47]⟩
  have h2 := isNamed_any k ⟨#[113, 47]⟩
  have h3 := fun w => isMessage_any k w hk
  have e1 : (⟨#[116, 47]⟩ : ByteArray).data.toList = [116, 47] := rfl
  have e2 : (⟨#[113, 47]⟩ : ByteArray).data.toList = [113, 47] := rfl
  rw [e1] at h1
  rw [e2] at h2
  clear e1 e2
  unfold keyL
  generalize namedL k.data.toList [116, 47] = x at h1 ⊢
  generalize namedL k.data.toList [113, 47] = y at h2 ⊢
  generalize messageL k.data.toList = z at h3 ⊢
  have HB := Below.refl w.heap.size w
  have H1 := hide h1
  have H2 := hide h2
  have H3 := hide h3
  clear h1 h2 h3
  cases x <;> cases y <;> cases z
  all_goals
    go_enter Tryz.func66, Tryz.ntmps66
    go_wp2_with (first
      | (go_at_call_of 82 (Value.string ⟨#[116, 47]⟩); refine (H1.out _).mono ?_; rintro e w1 ⟨rfl, rfl⟩)
      | (go_at_call_of 82 (Value.string ⟨#[113, 47]⟩); refine (H2.out _).mono ?_; rintro e w1 ⟨rfl, rfl⟩)
      | (go_at_call 83; refine (H3.out _).mono ?_; rintro e w1 ⟨rfl, hb⟩; replace HB := below_on HB (Nat.le_refl _) hb; clear hb))
    go_ret
    exact ⟨rfl, HB⟩
end Go.Proofs.YtkfpfbkdalbjoaaGreat
