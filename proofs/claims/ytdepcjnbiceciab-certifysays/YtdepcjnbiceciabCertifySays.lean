/-
  PROVED: for all lists of acts (nil, empty or not), haywainlaw.CertifySays returns true, and its argument reads afterwards as it read before (the statement CertifySaysSaid; no condition besides the row's own).
-/
import Derived.Test.YtdepcjnbiceciabCertSaysWalk
import Derived.Test.YtdepcjnbiceciabOpenActs
namespace Go.Proofs.Ytdepcjnbiceciab
open Go.ChangeShapes Go.WideShapes Go.ChangeAt Go.RowKit Go.Joins

set_option maxRecDepth 8000 in
set_option maxHeartbeats 2000000 in
theorem certSays_heavy (acts : List ActL) (ao : Option Addr) (cap : Nat) (w : World) (hl : heldAc w ao acts) (h : lightActs acts 40 = false) :
    Calls Try.prog 6 #[.slice ao acts.length cap] w fun e w' => e = .returned (.bool true) ∧ Below w.heap.size w w' := by
  have HL := hide hl
  have HX := hide h
  clear hl h
  go_enter Try.func6, Try.ntmps6
  go_wp2_with fail
  refine (clears_any _).mono ?_
  rintro e w1 ⟨rfl, hB⟩
  go_wp2_with fail
  refine (lightAc_held acts 40 _ _ _ (heldAc_on hB HL.out) (by omega)).mono ?_
  rintro e w5 ⟨rfl, rfl⟩
  rw [HX.out]
  go_wp2
  go_ret
  exact ⟨rfl, hB⟩
theorem certSays_walk (acts : List ActL) (ao : Option Addr) (cap : Nat) (w : World) (hl : heldAc w ao acts) :
    Calls Try.prog 6 #[.slice ao acts.length cap] w fun e w' => e = .returned (.bool true) ∧ Below w.heap.size w w' := by
  cases h : lightActs acts 40 with
  | false => exact certSays_heavy acts ao cap w hl h
  | true => exact certSays_light acts ao cap w hl h

set_option maxRecDepth 100000 in
theorem certifySays_lifted (os : Os) (started : os.Started) (H : Type) (enc : TypeId × Value → H) :
    ReturnsInHanded {} Try.checked os 6 .any (Rows.certifySaysSpec.pre6 enc Try.prog Try.f6 Rows.certifySaysRow.domain false) (Rows.certifySaysSpec.post enc Try.prog Try.f6 false true false false) := by
  refine returnsInHanded_of_change (C := Try.checked) Try.own started (by kernel_rfl) Try.func6
    (ChangeSpec.witness6 (enc := enc) (C := Try.checked) false ⟨#[], #[.slice none 0 0], []⟩ 8 (by kernel_rfl) (by kernel_rfl) (by kernel_rfl) (by kernel_rfl)) ?_
  intro W base args ds gs before hval0 hW _ _
  have hval : ∀ (j : Nat) t v, Try.f6.params[j]? = some t → args[j]? = some v → Value.okWide Try.prog W .any base t v := hval0
  have hW' := hW
  obtain ⟨p, q, hA0, hV, rfl, _, _⟩ := hW
  have hA : DataW.TrodAll enc Try.prog W 0 (fun _ => true) true Try.f6.params.toList args.toList ds p := hA0
  rw [Try.params6] at hA hval
  obtain ⟨v0, d0, rfl, rfl, h0⟩ := trodAll_one hA
  obtain ⟨rfl, rfl⟩ := trodVars_none hV
  obtain ⟨ao, cap, acts, rfl, hac⟩ := open_actsArg (hval 0 49 v0 rfl rfl) h0
  refine (certSays_walk acts ao cap W hac).mono fun e W' ⟨he, hb⟩ => ?_
  subst he
  exact ⟨_, rfl, law_post Try.laidOut (by kernel_rfl) Try.underlying4 rfl (by rw [Try.params6]; decide +kernel) hW' rfl hb⟩

theorem certifySays_holds : Rows.CertifySaysSaid :=
  OpenClaim.holds_of_wide 6 Try.f6 rfl rfl rfl rfl rfl rfl rfl ⟨rfl, rfl, rfl, rfl, rfl⟩ rfl rfl rfl rfl rfl (by kernel_rfl) Try.func6 (by kernel_rfl)
    (of_decide_eq_true (by kernel_rfl)) (by unfold Func.isWrapper; first | (rw [if_pos (by decide +kernel)]; kernel_rfl) | (rw [if_neg (by decide +kernel)]; exact ⟨rfl, rfl⟩))
    (fun os started H enc _ => certifySays_lifted os started H enc)
#print axioms certifySays_holds
end Go.Proofs.Ytdepcjnbiceciab
