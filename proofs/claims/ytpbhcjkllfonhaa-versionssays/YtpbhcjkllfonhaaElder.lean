/-
  What haywainlaw.elder returns: true.
-/
import Derived.Test.YtpbhcjkllfonhaaVerDeeds
import Derived.Test.YtpbhcjkllfonhaaVerRead
import Derived.Test.YtpbhcjkllfonhaaSame1
namespace Go.Proofs.Ytpbhcjkllfonhaa
open Go.RowKit Go.Joins
attribute [local go_sem ↓] Go.wp_at_zero Go.wp_at_succ

def eldR : List (ByteArray × ByteArray) := [(⟨#[116, 47, 97]⟩, ⟨#[120]⟩)]
def eldC : List Chg := [⟨⟨#[116, 47, 97]⟩, ⟨#[]⟩, true⟩]
theorem eld_fault : deedFault eldC = 0 := by decide +kernel
theorem eld_read : behindV (applyR (initR eldR) (0 + 1) eldC ⟨#[116, 47, 97]⟩) 0 = (⟨#[120]⟩, true) := by decide +kernel
theorem eld_small : ∀ r ∈ eldR, r.1.size ≤ 1000000 := by decide +kernel
theorem eld_smallC : ∀ c ∈ eldC, c.key.size ≤ 1000000 := by decide +kernel
set_option maxRecDepth 4000 in
set_option maxHeartbeats 800000 in
theorem elder_any (w : World) : Calls Try.prog 4 #[] w fun e w' => e = .returned (.bool true) ∧ Below w.heap.size w w' := by
  have HB0 := hide (below_alloc1 w (Obj.cells #[Value.string ⟨#[116, 47, 97]⟩, Value.string ⟨#[120]⟩] 54))
  have HT : Hid (heldSp (w.alloc (Obj.cells #[Value.string ⟨#[116, 47, 97]⟩, Value.string ⟨#[120]⟩] 54)) (some ⟨w.heap.size, 0, none⟩) eldR) := .inr ⟨_, 0, rfl, fun i hi => by
    have e : i = 0 := by have : i < 1 := hi; omega
    subst e
    exact ⟨cell_new _ _ _ 0, cell_new _ _ _ 1⟩⟩
  go_enter Try.func4, Try.ntmps4
  go_wp2_with fail
  generalize (w.alloc (Obj.cells #[Value.string ⟨#[116, 47, 97]⟩, Value.string ⟨#[120]⟩] 54)) = W0 at *
  refine (new_any eldR _ 1 _ HT.out (by decide) eld_small).mono ?_
  rintro e w1 ⟨vb, rfl, hb1, mb, D, g, hv⟩
  have HV1 := hide hv
  have HB1 := hide (below_on HB0.out (Nat.le_refl _) hb1)
  have hs1 := hb1.size
  clear hv hb1
  go_wp2_with fail
  have hbC := below_alloc1 w1 (Obj.cells #[Value.string ⟨#[116, 47, 97]⟩, Value.string ⟨#[]⟩, Value.bool true] 56)
  have HC : Hid (heldCh (w1.alloc (Obj.cells #[Value.string ⟨#[116, 47, 97]⟩, Value.string ⟨#[]⟩, Value.bool true] 56)) (some ⟨w1.heap.size, 0, none⟩) eldC) := .inr ⟨_, 0, rfl, fun i hi => by
    have e : i = 0 := by have : i < 1 := hi; omega
    subst e
    exact ⟨cell_new _ _ _ 0, cell_new _ _ _ 1, cell_new _ _ _ 2⟩⟩
  have HV2 := hide (HV1.out.on hbC)
  have HB2 := hide (below_on HB1.out (Nat.le_refl _) hbC)
  have hs2 := hbC.size
  have hfar : ¬ inVS vb mb g w1.heap.size := fun h => by have := HV1.out.lt h; omega
  generalize (w1.alloc (Obj.cells #[Value.string ⟨#[116, 47, 97]⟩, Value.string ⟨#[]⟩, Value.bool true] 56)) = W2 at *
  refine (commit_good eldC _ 1 _ HV2.out (by omega) HC.out (by decide) eld_smallC (fun _ b off e => by cases e; exact hfar) (by omega) (by omega) (by decide) (fun key => by have := initR_len eldR key; have : eldR.length = 1 := rfl; omega) eld_fault).mono ?_
  rintro e w3 ⟨rfl, D3, g3, hv3, hb3, _⟩
  have HV3 := hide hv3
  have HB3 := hide (HB2.out.trans (hb3.mono (Nat.le_trans (by have := HB0.out.size; omega) (Nat.le_refl _))))
  clear hv3 hb3
  go_wp2_with (first
    | (go_at_call 14; refine (read_any ⟨#[116, 47, 97]⟩ 0 _ HV3.out (by decide) (by have := applyR_len (0 + 1) ⟨#[116, 47, 97]⟩ eldC (initR eldR); have h2 := initR_len eldR ⟨#[116, 47, 97]⟩; have h3 : eldR.length = 1 := rfl; have h4 : eldC.length = 1 := rfl; omega)).mono ?_; rintro e w4 ⟨rfl, hb4⟩; rw [eld_read]; have HB4 := hide (below_on HB3.out (Nat.le_refl _) hb4); clear hb4)
    | (go_at_call 11; refine (same_nil 0 _).mono ?_; rintro e w5 ⟨rfl, rfl⟩))
  go_ret
  exact ⟨rfl, HB4.out⟩
end Go.Proofs.Ytpbhcjkllfonhaa
