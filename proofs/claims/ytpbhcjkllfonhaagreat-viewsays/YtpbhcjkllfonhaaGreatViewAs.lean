/-
  What haywainref.SameChanges and haywainref.SameSpans return of the same lists at two places, View.Since of a view, and haywainlaw.asView of a view and the document's own that are alike: true.
-/
import Derived.Test.YtpbhcjkllfonhaaGreatRefView
import Derived.Test.YtpbhcjkllfonhaaGreatChgSame
namespace Go.Proofs.YtpbhcjkllfonhaaGreat
open Go.RowKit Go.Joins Go.Shelf Go.WideShapes
attribute [local go_sem ↓] Go.wp_at_zero Go.wp_at_succ

set_option maxHeartbeats 1000000 in
theorem sameChgs_nil (ao ao2 : Option Addr) (cap cap2 : Nat) (w : World) :
    Calls Tryz.prog 46 #[.slice ao 0 cap, .slice ao2 0 cap2] w fun e w' => e = .returned (.bool true) ∧ Below w.heap.size w w' := by
  go_enter Tryz.func46, Tryz.ntmps46
  go_wp2
  refine wp_loop_rounds 1 ?_
  rw [rounds_succ]
  go_wp2
  go_ret
  exact ⟨rfl, Below.refl _ _⟩
theorem sameChgs_held (l : List Chg) (ao ao2 : Option Addr) (cap cap2 : Nat) (w : World) (hl : heldCh w ao l) (hl2 : heldCh w ao2 l) (hn : l.length ≤ 1000) :
    Calls Tryz.prog 46 #[.slice ao l.length cap, .slice ao2 l.length cap2] w fun e w' => e = .returned (.bool true) ∧ Below w.heap.size w w' := by
  rcases hl with rfl | ⟨b, off, rfl, h⟩
  · exact sameChgs_nil _ _ _ _ _
  · rcases hl2 with rfl | ⟨b2, off2, rfl, h2⟩
    · exact sameChgs_nil _ _ _ _ _
    · exact sameChgs l b off cap b2 off2 cap2 w h h2 hn
set_option maxHeartbeats 1000000 in
theorem sameSpans_some (l : List (ByteArray × ByteArray)) (b off cap b2 off2 cap2 : Nat) (w : World) (hl : spansAt w b off l) (hl2 : spansAt w b2 off2 l) (hn : l.length ≤ 1000) :
    Calls Tryz.prog 47 #[.slice (some ⟨b, off, none⟩) l.length cap, .slice (some ⟨b2, off2, none⟩) l.length cap2] w fun e w' => e = .returned (.bool true) ∧ Below w.heap.size w w' := by
  go_enter Tryz.func47, Tryz.ntmps47
  go_wp2
  go_loopw [5] (fun i wr => ∃ k : Nat, k ≤ l.length ∧ i = .int .i64 k ∧ Below w.heap.size w wr) (fun i _ => l.length - (intOf i).toNat)
  case atStart => exact ⟨0, Nat.zero_le _, rfl, Below.refl _ _⟩
  case round =>
    obtain ⟨k, hk, rfl, hB⟩ := hrel
    by_cases hlt : k < l.length
    · obtain ⟨c0, c1⟩ := spansAt_on hB hl k hlt
      obtain ⟨d0, d1⟩ := spansAt_on hB hl2 k hlt
      go_wp2
      go_quiet (fail)
      go_wp2
      go_roundw
      case rel => exact ⟨k + 1, by omega, by go_num, hB.trans (below_draws _ _ _)⟩
      case measure => simp [intOf]; omega
    · go_wp2
      go_ret
      exact ⟨rfl, hB⟩
set_option maxHeartbeats 1000000 in
theorem sameSpans_nil (ao ao2 : Option Addr) (cap cap2 : Nat) (w : World) :
    Calls Tryz.prog 47 #[.slice ao 0 cap, .slice ao2 0 cap2] w fun e w' => e = .returned (.bool true) ∧ Below w.heap.size w w' := by
  go_enter Tryz.func47, Tryz.ntmps47
  go_wp2
  refine wp_loop_rounds 1 ?_
  rw [rounds_succ]
  go_wp2
  go_ret
  exact ⟨rfl, Below.refl _ _⟩
theorem sameSpans_held (l : List (ByteArray × ByteArray)) (ao ao2 : Option Addr) (cap cap2 : Nat) (w : World) (hl : heldSp w ao l) (hl2 : heldSp w ao2 l) (hn : l.length ≤ 1000) :
    Calls Tryz.prog 47 #[.slice ao l.length cap, .slice ao2 l.length cap2] w fun e w' => e = .returned (.bool true) ∧ Below w.heap.size w w' := by
  rcases hl with rfl | ⟨b, off, rfl, h⟩
  · exact sameSpans_nil _ _ _ _ _
  · rcases hl2 with rfl | ⟨b2, off2, rfl, h2⟩
    · exact sameSpans_nil _ _ _ _ _
    · exact sameSpans_some l b off cap b2 off2 cap2 w h h2 hn
theorem ownCh_has {w : World} {B : Nat} {v : Value} {l : List Chg} (h : ownCh w B v l) : ∃ ao cap, v = .slice ao l.length cap ∧ heldCh w ao l ∧ ∀ k, atB ao k → B ≤ k := by
  rcases own_form h with ⟨rfl, h0⟩ | ⟨g, cap, rfl, hg, _⟩
  · have e : l = [] := List.length_eq_zero_iff.1 h0
    subst e
    exact ⟨none, 0, rfl, .inl rfl, fun k e => by obtain ⟨_, e⟩ := e; cases e⟩
  · refine ⟨_, cap, rfl, .inr ⟨g, 0, rfl, chgs_of_cells l 0 fun j u hj => ?_⟩, fun k e => by obtain ⟨_, e⟩ := e; cases e; exact hg⟩
    have := World.ownsRow.cells h (g := g) rfl j u hj
    rwa [add_plain] at this
set_option maxHeartbeats 400000 in
theorem pv_since {B wb : Nat} {S : Nat → Prop} {P : Rws} {since : Int} {chs : List Chg} {rds : Rws} (w : World) (h : PV w B wb S P since chs rds) :
    Calls Tryz.prog 22 #[.pointer (some ⟨wb, 0, none⟩)] w fun e w' => e = .returned (.int .i64 since) ∧ w' = w := by
  obtain ⟨B0, vb, mb, n, now, D, g, R, cv, rv, h1, h2, rfl, h4, h5, h6, h7, h8, h9⟩ := h
  have c := h2.c1
  go_enter Tryz.func22, Tryz.ntmps22
  go_wp2
  go_ret
  exact ⟨rfl, rfl⟩
set_option maxRecDepth 4000 in
set_option maxHeartbeats 4000000 in
theorem asView_any {B wb rb : Nat} {S G : Nat → Prop} {P : Rws} {since : Int} {chs : List Chg} {rds : Rws} (w : World) (h : PV w B wb S P since chs rds) (hr : RW w rb G P since chs rds) :
    Calls Tryz.prog 20 #[.pointer (some ⟨wb, 0, none⟩), .pointer (some ⟨rb, 0, none⟩)] w fun e w' => e = .returned (.bool true) ∧ Below w.heap.size w w' := by
  have HV := hide h
  have ok := h.ok
  have hcn := ok.cn
  have hrn := ok.rn
  obtain ⟨ra, rc, ca, cc, sa, sc, hx, _⟩ := hr
  have HX := hide hx
  have c1 := hx.c1
  have c2 := hx.c2
  have c3 := hx.c3
  clear h hx ok
  go_enter Tryz.func20, Tryz.ntmps20
  go_wp2
  go_region_held3 (fun w' => w'.cell? ⟨rb, 1, none⟩ = some (.int .i64 since) ∧ w'.cell? ⟨rb, 2, none⟩ = some (.slice ca chs.length cc) ∧ w'.cell? ⟨rb, 3, none⟩ = some (.slice sa rds.length sc))
    (first
      | go_keep
      | exact ⟨cell_on HB6.out c1, cell_on HB6.out c2, cell_on HB6.out c3⟩
      | exact ⟨cell_on HB5.out c1, cell_on HB5.out c2, cell_on HB5.out c3⟩
      | exact ⟨cell_on HB4.out c1, cell_on HB4.out c2, cell_on HB4.out c3⟩
      | exact ⟨cell_on HB3.out c1, cell_on HB3.out c2, cell_on HB3.out c3⟩
      | exact ⟨cell_on HB2.out c1, cell_on HB2.out c2, cell_on HB2.out c3⟩)
    (first
      | (go_at_call 27; refine (pv_changes _ (HV.out.on (Below.refl _ _).drew)).mono ?_; rintro e w2 ⟨v2, rfl, ho2, hb2⟩; have HB2 := hide (below_on (Below.refl _ w).drew (Nat.le_refl _) hb2); obtain ⟨va, vc, rfl, hh2, _⟩ := ownCh_has ho2; clear ho2 hb2)
      | (go_at_call 46; refine (sameChgs_held chs va ca vc cc _ hh2 (heldCh_on HB2.out HX.out.hC) (by omega)).mono ?_; rintro e w3 ⟨rfl, hb3⟩; have HB3 := hide (below_on HB2.out (Nat.le_refl _) hb3); clear hb3)
      | (go_at_call 21; refine (pv_reads _ (HV.out.on HB3.out)).mono ?_; rintro e w4 ⟨v4, rfl, ho4, hb4⟩; have HB4 := hide (below_on HB3.out (Nat.le_refl _) hb4); obtain ⟨ua, uc, rfl, hh4, _⟩ := ownSp_held ho4; clear ho4 hb4)
      | (go_at_call 47; refine (sameSpans_held rds ua sa uc sc _ hh4 (heldSp_on HB4.out HX.out.hR) (by omega)).mono ?_; rintro e w5 ⟨rfl, hb5⟩; have HB5 := hide (below_on HB4.out (Nat.le_refl _) hb5); clear hb5)
      | (go_at_call 22; refine (pv_since _ (HV.out.on HB5.out)).mono ?_; rintro e w6 ⟨rfl, rfl⟩; have HB6 := hide HB5.out)
      | fail)
  all_goals
    go_wp2
    go_ret
    exact ⟨rfl, HB6.out⟩
end Go.Proofs.YtpbhcjkllfonhaaGreat
