/-
  What haywainref.SameChanges returns of the same changes at two places. It changes nothing.
-/
import Derived.Test.YtkfpfbkdalbjoaaChgMem
namespace Go.Proofs.Ytkfpfbkdalbjoaa
open Go.RowKit Go.Joins

set_option maxHeartbeats 1000000 in
theorem sameChgs (l : List Chg) (b off cap b2 off2 cap2 : Nat) (w : World) (hl : chgsAt w b off l) (hl2 : chgsAt w b2 off2 l) (hn : l.length ≤ 1000) :
    Calls Try.prog 53 #[.slice (some ⟨b, off, none⟩) l.length cap, .slice (some ⟨b2, off2, none⟩) l.length cap2] w fun e w' => e = .returned (.bool true) ∧ Below w.heap.size w w' := by
  go_enter Try.func53, Try.ntmps53
  go_wp2
  go_loopw [5] (fun i wr => ∃ k : Nat, k ≤ l.length ∧ i = .int .i64 k ∧ Below w.heap.size w wr) (fun i _ => l.length - (intOf i).toNat)
  case atStart => exact ⟨0, Nat.zero_le _, rfl, Below.refl _ _⟩
  case round =>
    obtain ⟨k, hk, rfl, hB⟩ := hrel
    by_cases hlt : k < l.length
    · obtain ⟨c0, c1, c2⟩ := chgsAt_on hB hl k hlt
      obtain ⟨d0, d1, d2⟩ := chgsAt_on hB hl2 k hlt
      go_wp2
      go_quiet (fail)
      go_wp2
      go_roundw
      case rel => exact ⟨k + 1, by omega, by go_num, hB.trans (below_draws _ _ _)⟩
      case measure => simp [intOf]; omega
    · go_wp2
      go_ret
      exact ⟨rfl, hB⟩
end Go.Proofs.Ytkfpfbkdalbjoaa

/-
  What haywainref.SameChanges returns of the same changes, also of none. It changes nothing.
-/
namespace Go.Proofs.Ytkfpfbkdalbjoaa
open Go.RowKit Go.Joins

set_option maxHeartbeats 1000000 in
theorem sameChgs_nil (ao ao2 : Option Addr) (cap cap2 : Nat) (w : World) :
    Calls Try.prog 53 #[.slice ao 0 cap, .slice ao2 0 cap2] w fun e w' => e = .returned (.bool true) ∧ Below w.heap.size w w' := by
  go_enter Try.func53, Try.ntmps53
  go_wp2
  refine wp_loop_rounds 1 ?_
  rw [rounds_succ]
  go_wp2
  go_ret
  exact ⟨rfl, Below.refl _ _⟩
theorem sameChgs_held (l : List Chg) (ao ao2 : Option Addr) (cap cap2 : Nat) (w : World) (hl : heldCh w ao l) (hl2 : heldCh w ao2 l) (hn : l.length ≤ 1000) :
    Calls Try.prog 53 #[.slice ao l.length cap, .slice ao2 l.length cap2] w fun e w' => e = .returned (.bool true) ∧ Below w.heap.size w w' := by
  rcases hl with rfl | ⟨b, off, rfl, h⟩
  · exact sameChgs_nil _ _ _ _ _
  · rcases hl2 with rfl | ⟨b2, off2, rfl, h2⟩
    · exact sameChgs_nil _ _ _ _ _
    · exact sameChgs l b off cap b2 off2 cap2 w h h2 hn
end Go.Proofs.Ytkfpfbkdalbjoaa

/-
  What haywainref.SameDeeds returns. It changes nothing.
-/
namespace Go.Proofs.Ytkfpfbkdalbjoaa
open Go.RowKit Go.Joins
attribute [local go_sem ↓] Go.wp_at_zero Go.wp_at_succ

set_option maxHeartbeats 1000000 in
theorem sameDs_len (n m : Nat) (ao ao2 : Option Addr) (cap cap2 : Nat) (w : World) (h : n ≠ m) :
    Calls Try.prog 27 #[.slice ao n cap, .slice ao2 m cap2] w fun e w' => e = .returned (.bool false) ∧ w' = w := by
  have h' : ¬ (n : Int) = (m : Int) := by omega
  go_enter Try.func27, Try.ntmps27
  go_wp2
  go_ret
  exact ⟨rfl, rfl⟩
set_option maxRecDepth 8000 in
set_option maxHeartbeats 2000000 in
theorem sameDs_eq (l l2 : List Dd) (ao ao2 : Option Addr) (cap cap2 : Nat) (w : World) (hl : heldDs w ao l) (hl2 : heldDs w ao2 l2) (he : l.map (·.chs) = l2.map (·.chs)) (hn : ∀ d ∈ l, d.chs.length ≤ 1000) (hll : l.length ≤ 1000) :
    Calls Try.prog 27 #[.slice ao l.length cap, .slice ao2 l2.length cap2] w fun e w' => e = .returned (.bool true) ∧ Below w.heap.size w w' := by
  have hlen : l2.length = l.length := by have := congrArg List.length he; simpa using this.symm
  have HE : Hid (∀ i (h : i < l.length) (h2 : i < l2.length), l[i].chs = l2[i].chs) := fun i h h2 => by
    have e := congrArg (fun x : List (List Chg) => x[i]?) he
    simp only [List.getElem?_map, List.getElem?_eq_getElem h, List.getElem?_eq_getElem h2, Option.map_some, Option.some.injEq] at e
    exact e
  have HL := hide hl
  have HL2 := hide hl2
  have HN := hide hn
  have HLEN := hide hlen
  clear he hl hl2 hn
  rw [hlen]
  clear hlen
  go_enter Try.func27, Try.ntmps27
  go_wp2
  go_loopw [5] (fun i wr => ∃ k : Nat, k ≤ l.length ∧ i = .int .i64 k ∧ Below w.heap.size w wr) (fun i _ => l.length - (intOf i).toNat)
  case atStart => exact ⟨0, Nat.zero_le _, rfl, Below.refl _ _⟩
  case round =>
    obtain ⟨k, hk, rfl, hB⟩ := hrel
    by_cases hlt : k < l.length
    · have hlt' : (k : Int) < (l.length : Int) := by omega
      have hk0 : (0 : Int) ≤ (k : Int) := by omega
      have hlt2 : k < l2.length := by rw [HLEN.out]; exact hlt
      rcases HL.out with e | ⟨b, off, e, h1⟩
      · rw [e] at hlt; simp at hlt
      subst e
      rcases HL2.out with e | ⟨b2, off2, e, h2⟩
      · rw [e] at hlt2; simp at hlt2
      subst e
      obtain ⟨c1, q1⟩ := h1 k hlt
      obtain ⟨c2, q2⟩ := h2 k hlt2
      rw [← HE.out k hlt hlt2] at c2 q2
      have hnk := HN.out _ (List.getElem_mem hlt)
      replace c1 := cell_on hB c1
      replace c2 := cell_on hB c2
      have HS := hide (sameChgs_held l[k].chs l[k].ao l2[k].ao l[k].cap l2[k].cap wr.drew (heldCh_on hB.drew q1) (heldCh_on hB.drew q2) hnk)
      have HBR := hide hB
      have HK1 : Hid (k + 1 ≤ l.length) := hlt
      have HK2 : Hid (l.length - (k + 1) < l.length - k) := hide (by omega)
      clear h1 h2 q1 q2 hB
      generalize l[k] = x at *
      generalize l2[k] = y at *
      clear hlt2 HE HN HL HL2 HLEN
      go_wp2
      go_region_held3 (fun w' => w'.cell? ⟨b, off + k, none⟩ = some (.slice x.ao x.chs.length x.cap) ∧ w'.cell? ⟨b2, off2 + k, none⟩ = some (.slice y.ao x.chs.length y.cap)) (first | exact ⟨c1, c2⟩ | exact HC2.out)
        ((go_at_call 53; refine HS.out.mono ?_; rintro e w7 ⟨rfl, hb7⟩; have HC2 : Hid (w7.cell? ⟨b, off + k, none⟩ = some (.slice x.ao x.chs.length x.cap) ∧ w7.cell? ⟨b2, off2 + k, none⟩ = some (.slice y.ao x.chs.length y.cap)) := ⟨cell_on hb7 c1, cell_on hb7 c2⟩; have HB7 := hide (below_on HBR.out.drew (Nat.le_refl _) hb7); clear hb7))
      go_wp2
      exact ⟨⟨k + 1, HK1.out, by go_num, HB7.out⟩, by simp [intOf]; exact HK2.out⟩
    · have hlt' : ¬ (k : Int) < (l.length : Int) := by omega
      have HBR := hide hB
      clear hB
      go_wp2
      go_ret
      exact ⟨rfl, HBR.out⟩
end Go.Proofs.Ytkfpfbkdalbjoaa
