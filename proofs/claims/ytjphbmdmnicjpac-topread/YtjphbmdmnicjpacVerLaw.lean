/-
  What haywaintop.lightDeeds and haywainref.SameRows return. They change nothing that was there.
-/
import Derived.Test.YtjphbmdmnicjpacVerPast
namespace Go.Proofs.Ytjphbmdmnicjpac
open Go.RowKit Go.Joins

def lightDeeds (ds : List Dd) (most : Nat) : Bool := decide (ds.length ≤ most) && ds.all fun d => lightChgs d.chs 14
set_option maxHeartbeats 1000000 in
theorem lightDeeds_some (ds : List Dd) (b off cap most : Nat) (w : World) (hd : deedsAt w b off ds) (hm : most ≤ 1000) :
    Calls Try.prog 12 #[.slice (some ⟨b, off, none⟩) ds.length cap, .int .i64 most] w fun e w' => e = .returned (.bool (lightDeeds ds most)) ∧ w' = w := by
  have HD := hide hd
  clear hd
  by_cases hlm : ds.length ≤ most
  · have hlm' : ¬ ((most : Int) < (ds.length : Int)) := by omega
    go_enter Try.func12, Try.ntmps12
    go_wp2
    go_loopw [5] (fun i wr => ∃ k : Nat, k ≤ ds.length ∧ i = .int .i64 k ∧ wr = w ∧ ∀ j (h : j < ds.length), j < k → lightChgs ds[j].chs 14 = true) (fun i _ => ds.length - (intOf i).toNat)
    case atStart => exact ⟨0, Nat.zero_le _, rfl, rfl, by simp⟩
    case round =>
      obtain ⟨k, hk, rfl, rfl, hz⟩ := hrel
      have HZ := hide hz
      clear hz
      by_cases hlt : k < ds.length
      · have hlt' : (k : Int) < (ds.length : Int) := by omega
        have c0 := (HD.out k hlt).1
        have HH := hide (HD.out k hlt).2
        cases hb : lightChgs ds[k].chs 14 with
        | true =>
          have HB := hide hb
          clear hb
          go_wp2_with (go_at_call 53; refine (light_held ds[k].chs 14 ds[k].cap ds[k].ao _ HH.out (by omega)).mono ?_; rintro e w1 ⟨rfl, rfl⟩; rw [HB.out])
          refine ⟨⟨k + 1, by omega, by go_num, trivial, fun j h1 h2 => ?_⟩, by simp [intOf]; omega⟩
          rcases Nat.lt_or_ge j k with h | h
          · exact HZ.out j h1 h
          · have e : j = k := by omega
            subst e; exact HB.out
        | false =>
          have HB := hide hb
          clear hb
          go_wp2_with (go_at_call 53; refine (light_held ds[k].chs 14 ds[k].cap ds[k].ao _ HH.out (by omega)).mono ?_; rintro e w1 ⟨rfl, rfl⟩; rw [HB.out])
          go_ret
          refine ⟨?_, rfl⟩
          have : lightDeeds ds most = false := by
            unfold lightDeeds
            rw [Bool.and_eq_false_iff]
            right
            rw [List.all_eq_false]
            exact ⟨_, List.getElem_mem hlt, by rw [HB.out]; simp⟩
          rw [this]; rfl
      · have ek : k = ds.length := by omega
        subst ek
        have hlt' : ¬ (ds.length : Int) < (ds.length : Int) := by omega
        go_wp2
        go_ret
        refine ⟨?_, rfl⟩
        have : lightDeeds ds most = true := by
          unfold lightDeeds
          rw [Bool.and_eq_true]
          refine ⟨by simpa using hlm, ?_⟩
          rw [List.all_eq_true]
          intro d hd
          obtain ⟨j, hj, rfl⟩ := List.getElem_of_mem hd
          exact HZ.out j hj hj
        rw [this]; rfl
  · have hlm' : (most : Int) < (ds.length : Int) := by omega
    have e : lightDeeds ds most = false := by unfold lightDeeds; simp [hlm]
    rw [e]
    go_enter Try.func12, Try.ntmps12
    go_wp2
    go_ret
    exact ⟨rfl, rfl⟩
set_option maxHeartbeats 1000000 in
theorem lightDeeds_nil (ao : Option Addr) (cap most : Nat) (w : World) : Calls Try.prog 12 #[.slice ao 0 cap, .int .i64 most] w fun e w' => e = .returned (.bool true) ∧ w' = w := by
  have hlm' : ¬ ((most : Int) < ((0 : Nat) : Int)) := by omega
  have hlm2 : ¬ ((most : Int) < 0) := by omega
  go_enter Try.func12, Try.ntmps12
  go_wp2
  go_loopw [5] (fun i wr => i = .int .i64 0 ∧ wr = w) (fun _ _ => 0)
  case atStart => exact ⟨rfl, rfl⟩
  case round =>
    obtain ⟨rfl, rfl⟩ := hrel
    go_wp2
    go_ret
    exact ⟨rfl, rfl⟩
theorem lightDeeds_any (ds : List Dd) (ao : Option Addr) (cap most : Nat) (w : World) (hd : heldDs w ao ds) (hm : most ≤ 1000) :
    Calls Try.prog 12 #[.slice ao ds.length cap, .int .i64 most] w fun e w' => e = .returned (.bool (lightDeeds ds most)) ∧ w' = w := by
  rcases hd with rfl | ⟨b, off, rfl, h⟩
  · exact lightDeeds_nil ao cap most w
  · exact lightDeeds_some ds b off cap most w h hm
theorem light_ds {ds : List Dd} (h : lightDeeds ds 12 = true) : lightDs ds := by
  unfold lightDeeds at h
  rw [Bool.and_eq_true, List.all_eq_true] at h
  obtain ⟨h1, h2⟩ := h
  have h1' : ds.length ≤ 12 := by simpa using h1
  refine ⟨by omega, fun d hd => ?_⟩
  have h3 := h2 d hd
  unfold lightChgs at h3
  rw [Bool.and_eq_true, List.all_eq_true] at h3
  refine ⟨by have : d.chs.length ≤ 14 := by simpa using h3.1
             omega, fun c hc => ?_⟩
  have h4 := h3.2 c hc
  unfold lightChg at h4
  simp at h4
  omega
/-- rows of one's own, as they lie -/
theorem ownP_held {w : World} {B : Nat} {v : Value} {F : List (ByteArray × ByteArray)} (h : ownP w B v F) : ∃ ao cap, v = .slice ao F.length cap ∧ heldSp w ao F := by
  rcases own_form h with ⟨hv, h0⟩ | ⟨g, cap, hv, _, hl, hc, hm⟩
  · have e : F = [] := List.length_eq_zero_iff.1 h0
    subst e
    exact ⟨none, 0, hv, .inl rfl⟩
  · refine ⟨_, cap, hv, .inr ⟨g, 0, rfl, fun i hi => ?_⟩⟩
    unfold ownP at h
    rw [hv] at h
    have h0 := (own_get cellP_len h i 0 hi (by omega)).1
    have h1 := (own_get cellP_len h i 1 hi (by omega)).1
    rw [show 0 + i * 2 = i * 2 + 0 by omega]
    exact ⟨h0, by rw [show i * 2 + 0 + 1 = i * 2 + 1 by omega]; exact h1⟩
theorem ownP_has {w : World} {B : Nat} {la : Option Addr} {lc : Nat} {F : List (ByteArray × ByteArray)} (h : ownP w B (.slice la F.length lc) F) : heldSp w la F ∧ F.length ≤ 9223372036854775807 := by
  refine ⟨?_, ?_⟩
  · obtain ⟨ao, cap, e, hh⟩ := ownP_held h
    cases e
    exact hh
  · rcases own_form h with ⟨_, h0⟩ | ⟨g, cap, hv, _, hl, hc, hm⟩
    · omega
    · unfold maxLen at hm; omega
set_option maxHeartbeats 1000000 in
theorem sameRows_some (l : List (ByteArray × ByteArray)) (b off cap b2 off2 cap2 : Nat) (w : World) (hl : spansAt w b off l) (hl2 : spansAt w b2 off2 l) (hn : l.length ≤ 9223372036854775807) :
    Calls Try.prog 16 #[.slice (some ⟨b, off, none⟩) l.length cap, .slice (some ⟨b2, off2, none⟩) l.length cap2] w fun e w' => e = .returned (.bool true) ∧ Below w.heap.size w w' := by
  go_enter Try.func16, Try.ntmps16
  go_wp2
  go_loopw [5] (fun i wr => ∃ k : Nat, k ≤ l.length ∧ i = .int .i64 k ∧ Below w.heap.size w wr) (fun i _ => l.length - (intOf i).toNat)
  case atStart => exact ⟨0, Nat.zero_le _, rfl, Below.refl _ _⟩
  case round =>
    obtain ⟨k, hk, rfl, hB⟩ := hrel
    by_cases hlt : k < l.length
    · obtain ⟨c0, c1⟩ := spansAt_on hB hl k hlt
      obtain ⟨d0, d1⟩ := spansAt_on hB hl2 k hlt
      go_wp2
      go_quiet (fail)
      go_wp2
      go_roundw
      case rel => exact ⟨k + 1, by omega, by go_num, hB.trans (below_draws _ _ _)⟩
      case measure => simp [intOf]; omega
    · go_wp2
      go_ret
      exact ⟨rfl, hB⟩
set_option maxHeartbeats 1000000 in
theorem sameRows_nil (ao ao2 : Option Addr) (cap cap2 : Nat) (w : World) :
    Calls Try.prog 16 #[.slice ao 0 cap, .slice ao2 0 cap2] w fun e w' => e = .returned (.bool true) ∧ Below w.heap.size w w' := by
  go_enter Try.func16, Try.ntmps16
  go_wp2
  go_loopw [5] (fun i wr => i = .int .i64 0 ∧ wr = w) (fun _ _ => 0)
  case atStart => exact ⟨rfl, rfl⟩
  case round =>
    obtain ⟨rfl, rfl⟩ := hrel
    go_wp2
    go_ret
    exact ⟨rfl, Below.refl _ _⟩
theorem sameRows_held (l : List (ByteArray × ByteArray)) (ao ao2 : Option Addr) (cap cap2 : Nat) (w : World) (hl : heldSp w ao l) (hl2 : heldSp w ao2 l) (hn : l.length ≤ 9223372036854775807) :
    Calls Try.prog 16 #[.slice ao l.length cap, .slice ao2 l.length cap2] w fun e w' => e = .returned (.bool true) ∧ Below w.heap.size w w' := by
  rcases hl with rfl | ⟨b, off, rfl, h⟩
  · exact sameRows_nil _ _ _ _ _
  · rcases hl2 with rfl | ⟨b2, off2, rfl, h2⟩
    · exact sameRows_nil _ _ _ _ _
    · exact sameRows_some l b off cap b2 off2 cap2 w h h2 hn
end Go.Proofs.Ytjphbmdmnicjpac
