/-
  What View.Put and View.Get of haywainref make of the document's view, and return.
-/
import Derived.Test.YtpbhcjkllfonhaaGreatRefNote
import Derived.Test.YtpbhcjkllfonhaaGreatViewAs
import Derived.Test.YtpbhcjkllfonhaaGreatRefHas
namespace Go.Proofs.YtpbhcjkllfonhaaGreat
open Go.RowKit Go.Joins Go.Shelf Go.WideShapes
attribute [local go_sem ↓] Go.wp_at_zero Go.wp_at_succ

theorem rput_held (l : List Chg) (ao : Option Addr) (cap : Nat) (c : Chg) (w : World) (hl : heldCh w ao l) (hr : rises l) (hn : l.length ≤ 1000) :
    Calls Tryz.prog 30 #[.slice ao l.length cap, .agg #[.string c.key, .string c.val, .bool c.gone]] w fun e w' => ∃ v, e = .returned v ∧ ownCh w' w.heap.size v (insL l c) ∧ Below w.heap.size w w' := by
  rcases hl with rfl | ⟨b, off, rfl, h⟩
  · exact rput_bare ao cap c w
  · refine (rput_any l b off cap c w h hn).mono ?_
    rintro e w' ⟨v, rfl, ho, hb⟩
    rw [put_fold c l [] hr, List.nil_append] at ho
    exact ⟨v, rfl, ho, hb⟩
set_option maxRecDepth 4000 in
set_option maxHeartbeats 4000000 in
theorem rvput_any (c : Chg) {B rb : Nat} {G : Nat → Prop} {P : Rws} {since : Int} {chs : List Chg} {rds : Rws} (w : World) (h : RW w rb G P since chs rds) (hB : B ≤ w.heap.size) (hrb : B ≤ rb) (hn : chs.length ≤ 12) (hr : rises chs) (hk : c.key.size ≤ 1000) :
    Calls Tryz.prog 12 #[.pointer (some ⟨rb, 0, none⟩), .agg #[.string c.key, .string c.val, .bool c.gone]] w fun e w' => e = .returned (.int .i64 (alterF chs c : Nat)) ∧ ActR w w' B rb G P since (alterL chs c) rds := by
  have HW := hide h
  obtain ⟨ra, rc, ca, cc, sa, sc, h1, rfl, h2, h3, h4⟩ := h
  have HX := hide h1
  have H2 := hide h2
  have H4 := hide h4
  have hB0 := below_alloc1 w (Obj.cells #[Value.string c.key, Value.string c.val, Value.bool c.gone] 46)
  have a0 : (w.alloc (Obj.cells #[Value.string c.key, Value.string c.val, Value.bool c.gone] 46)).cell? ⟨w.heap.size, 0, none⟩ = some (.string c.key) := cell_new _ _ _ 0
  have a1 : (w.alloc (Obj.cells #[Value.string c.key, Value.string c.val, Value.bool c.gone] 46)).cell? ⟨w.heap.size, 1, none⟩ = some (.string c.val) := cell_new _ _ _ 1
  have a2 : (w.alloc (Obj.cells #[Value.string c.key, Value.string c.val, Value.bool c.gone] 46)).cell? ⟨w.heap.size, 2, none⟩ = some (.bool c.gone) := cell_new _ _ _ 2
  have c2 := cell_on hB0 h1.c2
  have hwb := h1.lt (k := rb) (.inl rfl)
  have HB0 := hide hB0
  have HPT := fun W (hb : Below w.heap.size w W) => hide (rput_held chs ca cc c W (heldCh_on hb h1.hC) hr (by omega))
  clear h1 h2 h3 h4 hB0
  by_cases hf : chgFault c = 0
  · have HF := hide hf
    have hlen := ins_length chs c
    have hae : alterF chs c = if 12 < (insL chs c).length then 2 else 0 := if_pos hf
    clear hf
    by_cases h12 : 12 < (insL chs c).length
    · have h12' : (12 : Int) < ((insL chs c).length : Int) := by omega
      rw [if_pos h12] at hae
      have HAE := hide hae
      have HAL : Hid (alterL chs c = chs) := by unfold Hid alterL; rw [hae]; rfl
      clear hae
      go_enter Tryz.func12, Tryz.ntmps12
      go_wp2_with (first
        | (go_at_call 29; refine (rfault_any c _ hk).mono ?_; rintro e w1 ⟨rfl, hb1⟩; rw [HF.out]; have HB1 := hide (below_on HB0.out (Nat.le_refl _) hb1); replace a0 := cell_on hb1 a0; replace a1 := cell_on hb1 a1; replace a2 := cell_on hb1 a2; replace c2 := cell_on hb1 c2; clear hb1))
      go_region_held3 (fun w' => w'.cell? ⟨w.heap.size, 0, none⟩ = some (.string c.key) ∧ w'.cell? ⟨w.heap.size, 1, none⟩ = some (.string c.val) ∧ w'.cell? ⟨w.heap.size, 2, none⟩ = some (.bool c.gone) ∧ w'.cell? ⟨rb, 2, none⟩ = some (.slice ca chs.length cc))
        (first | go_keep | exact ⟨cell_on hb2 a0, cell_on hb2 a1, cell_on hb2 a2, cell_on hb2 c2⟩) (first | (go_at_call 30; refine (HPT _ HB1.out.drew).out.mono ?_; rintro e w2 ⟨v, rfl, ho, hb2'⟩; have hb2 := below_on (Below.refl _ w1).drew (Nat.le_refl _) hb2'; clear hb2'; dsimp only) | fail)
      all_goals
        obtain ⟨va, vc, hv, _, _⟩ := ownCh_has ho
        subst hv
        have HB2 := hide (below_on HB1.out (Nat.le_refl _) hb2)
        clear ho hb2
        go_wp2
        go_ret
        exact ⟨by rw [HAE.out]; rfl, by rw [HAL.out]; exact act_same HW.out hB HB2.out⟩
    · have h12' : ¬ (12 : Int) < ((insL chs c).length : Int) := by omega
      rw [if_neg h12] at hae
      have HAE := hide hae
      have HAL : Hid (alterL chs c = insL chs c) := by unfold Hid alterL; rw [hae]; rfl
      clear hae
      go_enter Tryz.func12, Tryz.ntmps12
      go_wp2_with (first
        | (go_at_call 29; refine (rfault_any c _ hk).mono ?_; rintro e w1 ⟨rfl, hb1⟩; rw [HF.out]; have HB1 := hide (below_on HB0.out (Nat.le_refl _) hb1); replace a0 := cell_on hb1 a0; replace a1 := cell_on hb1 a1; replace a2 := cell_on hb1 a2; replace c2 := cell_on hb1 c2; clear hb1))
      go_region_held3 (fun w' => w'.cell? ⟨w.heap.size, 0, none⟩ = some (.string c.key) ∧ w'.cell? ⟨w.heap.size, 1, none⟩ = some (.string c.val) ∧ w'.cell? ⟨w.heap.size, 2, none⟩ = some (.bool c.gone) ∧ w'.cell? ⟨rb, 2, none⟩ = some (.slice ca chs.length cc))
        (first | go_keep | exact ⟨cell_on hb2 a0, cell_on hb2 a1, cell_on hb2 a2, cell_on hb2 c2⟩) (first | (go_at_call 30; refine (HPT _ HB1.out.drew).out.mono ?_; rintro e w2 ⟨v, rfl, ho, hb2'⟩; have hb2 := below_on (Below.refl _ w1).drew (Nat.le_refl _) hb2'; clear hb2'; dsimp only) | fail)
      all_goals
        obtain ⟨va, vc, hv, hh, hlo⟩ := ownCh_has ho
        subst hv
        have HB2 := hide (below_on HB1.out (Nat.le_refl _) hb2)
        have hs1 := HB1.out.size
        have HA := hide (act_setC HX.out H2.out H4.out hB hrb HB2.out (cc' := vc) hh (fun k e _ => by have := hlo k e; simp at this; omega))
        have k2 := cell_on hb2 c2
        have f2 := frozen_on HB2.out hwb (HX.out.soft 2)
        clear ho hb2 hh hlo
        go_wp2
        go_ret
        exact ⟨by rw [HAE.out]; rfl, by rw [HAL.out]; exact HA.out⟩
  · have hae : alterF chs c = chgFault c := if_neg hf
    have HAE := hide hae
    have HAL : Hid (alterL chs c = chs) := by unfold Hid alterL; rw [hae, if_neg hf]
    have hf1 : (0 : Int) < (chgFault c : Int) := by omega
    have HFC := fun W => hide (rfault_any c W hk)
    clear hae hf
    generalize chgFault c = f at *
    go_enter Tryz.func12, Tryz.ntmps12
    go_wp2_with (first
      | (go_at_call 29; refine (HFC _).out.mono ?_; rintro e w1 ⟨rfl, hb1⟩; have HB1 := hide (below_on HB0.out (Nat.le_refl _) hb1); clear hb1))
    go_ret
    exact ⟨by rw [HAE.out]; rfl, by rw [HAL.out]; exact act_same HW.out hB HB1.out⟩
end Go.Proofs.YtpbhcjkllfonhaaGreat
