/-
  What haywainlaw.views returns: true.
-/
import Derived.Test.YtpbhcjkllfonhaaGreatViewSaysI
import Derived.Test.YtpbhcjkllfonhaaGreatSame1
namespace Go.Proofs.YtpbhcjkllfonhaaGreat
open Go.RowKit Go.Joins Go.Shelf
attribute [local go_sem ↓] Go.wp_at_zero Go.wp_at_succ

def vwR : Rws := [(⟨#[116, 47, 97]⟩, ⟨#[120]⟩)]
def vwC : Chg := ⟨⟨#[116, 47, 97]⟩, ⟨#[121]⟩, false⟩
theorem vw_fault : alterF [] vwC = 0 := by decide +kernel
theorem vw_list : alterL [] vwC = [vwC] := by unfold alterL; rw [vw_fault]; rfl
theorem vw_get : getP [vwC] [] vwR ⟨#[116, 47, 97]⟩ = (⟨#[121]⟩, true, 0) := by decide +kernel
theorem vw_reads : getL [vwC] [] ⟨#[116, 47, 97]⟩ = [] := by decide +kernel
theorem vw_small : ∀ r ∈ vwR, r.1.size ≤ 60 := by decide +kernel
theorem vw_small2 : ∀ r ∈ vwR, r.1.size ≤ 1000000 := by decide +kernel
theorem vw_rise : riseP vwR := List.pairwise_singleton _ _
set_option maxRecDepth 4000 in
set_option maxHeartbeats 2000000 in
theorem views_any (w : World) : Calls Tryz.prog 4 #[] w fun e w' => e = .returned (.bool true) ∧ Below w.heap.size w w' := by
  have HB0 := hide (below_alloc1 w (Obj.cells #[Value.string ⟨#[116, 47, 97]⟩, Value.string ⟨#[120]⟩] 63))
  have HT : Hid (heldSp (w.alloc (Obj.cells #[Value.string ⟨#[116, 47, 97]⟩, Value.string ⟨#[120]⟩] 63)) (some ⟨w.heap.size, 0, none⟩) vwR) := .inr ⟨_, 0, rfl, fun i hi => by
    have e : i = 0 := by have : i < 1 := hi; omega
    subst e
    exact ⟨cell_new _ _ _ 0, cell_new _ _ _ 1⟩⟩
  go_enter Tryz.func4, Tryz.ntmps4
  go_wp2_with fail
  generalize (w.alloc (Obj.cells #[Value.string ⟨#[116, 47, 97]⟩, Value.string ⟨#[120]⟩] 63)) = W0 at *
  refine (new_any vwR _ 1 _ HT.out (by decide) vw_small2).mono ?_
  rintro e w1 ⟨vb, rfl, hb1, mb, D, g, hv⟩
  have HV1 := hide hv
  have HB1 := hide (below_on HB0.out (Nat.le_refl _) hb1)
  have hs1 := hb1.size
  have hs0 := HB0.out.size
  clear hv hb1
  go_wp2_with fail
  refine (view_new _ HV1.out).mono ?_
  rintro e w2 ⟨wb, rfl, hw2, hb2⟩
  obtain ⟨S, hp, _⟩ := pv_make HV1.out hw2 hb2 hs1 vw_rise (by decide) vw_small
  have HP := hide hp
  have HB2 := hide (below_on HB1.out (Nat.le_refl _) hb2)
  have hs2 := hb2.size
  clear hw2 hb2 hp
  go_wp2_with (first
    | (go_at_call 11; refine (pv_put ⟨#[116, 47, 97]⟩ ⟨#[121]⟩ _ HP.out (by decide) (fun _ => by decide)).mono ?_; rintro e w3 ⟨rfl, S3, hp3, hs3⟩; have HP3 : Hid (PV w3 w1.heap.size wb S3 vwR 0 [vwC] []) := hide (vw_list ▸ hp3); rw [show alterF [] ⟨⟨#[116, 47, 97]⟩, ⟨#[121]⟩, false⟩ = 0 from vw_fault]; have HB3 := hide (HB2.out.trans (hs3.bel.mono (by omega))); clear hp3 hs3)
    | (go_at_call 18; refine (pv_get ⟨#[116, 47, 97]⟩ _ HP3.out (by decide)).mono ?_; rintro e w4 ⟨rfl, S4, hp4, hs4⟩; rw [vw_reads] at hp4; rw [vw_get]; have HP4 := hide hp4; have HB4 := hide (HB3.out.trans (hs4.bel.mono (by omega))); clear hp4 hs4)
    | (go_at_call 10; refine (same_nil 0 _).mono ?_; rintro e w5 ⟨rfl, rfl⟩)
    | (go_at_call 21; refine (pv_reads _ HP4.out).mono ?_; rintro e w6 ⟨v6, rfl, ho6, hb6⟩; obtain ⟨ao6, cap6, rfl, _, _⟩ := ownSp_held ho6; have HP6 := hide (HP4.out.on hb6); have HB6 := hide (below_on HB4.out (Nat.le_refl _) hb6); clear ho6 hb6)
    | (go_at_call 22; refine (pv_since _ HP6.out).mono ?_; rintro e w7 ⟨rfl, rfl⟩))
  go_ret
  exact ⟨rfl, HB6.out⟩
end Go.Proofs.YtpbhcjkllfonhaaGreat
