/-
  PROVED: for all lists of acts, all lists of spans a and b (nil, empty or not) and all numbers since, haywaintop.TopClear returns true, and its arguments read afterwards as they read before (the statement TopClearSaid; no condition besides the row's own).
-/
import Derived.Test.YtdepcjnbiceciacTopClearLight
import Derived.Test.YtdepcjnbiceciacOpenActs
namespace Go.Proofs.Ytdepcjnbiceciac
open Go.ChangeShapes Go.WideShapes Go.ChangeAt Go.RowKit Go.Joins

theorem topClear_walk (acts : List ActL) (ao : Option Addr) (cap : Nat) (a : List (ByteArray × ByteArray)) (aa : Option Addr) (ac : Nat) (b : List (ByteArray × ByteArray)) (ba : Option Addr) (bc : Nat) (since : Int) (w : World)
    (hl : heldAc w ao acts) (ha : heldSp w aa a) (hb : heldSp w ba b) (na : a.length ≤ maxLen) (nb : b.length ≤ maxLen) (hna : aa = none → ac = 0 ∧ a = []) (hnb : ba = none → bc = 0 ∧ b = []) :
    Calls Try.prog 4 #[.slice ao acts.length cap, .slice aa a.length ac, .slice ba b.length bc, .int .i64 since] w fun e w' => e = .returned (.bool true) ∧ Below w.heap.size w w' := by
  cases h : lightActs acts 30 with
  | false => exact topClear_heavy acts ao cap a aa ac b ba bc since w hl ha hb na nb (.inl h)
  | true =>
    cases h' : lightSpans a with
    | false => exact topClear_heavy acts ao cap a aa ac b ba bc since w hl ha hb na nb (.inr ⟨h, .inl h'⟩)
    | true =>
      cases h'' : lightSpans b with
      | false => exact topClear_heavy acts ao cap a aa ac b ba bc since w hl ha hb na nb (.inr ⟨h, .inr ⟨h', h''⟩⟩)
      | true => exact topClear_light acts ao cap a aa ac b ba bc since w hl ha hb na nb hna hnb h h' h''

set_option maxRecDepth 100000 in
theorem topClear_lifted (os : Os) (started : os.Started) (H : Type) (enc : TypeId × Value → H) :
    ReturnsInHanded {} Try.checked os 4 .any (Rows.topClearSpec.pre6 enc Try.prog Try.f4 Rows.topClearRow.domain false) (Rows.topClearSpec.post enc Try.prog Try.f4 false true false false) := by
  refine returnsInHanded_of_change (C := Try.checked) Try.own started (by kernel_rfl) Try.func4
    (ChangeSpec.witness6 (enc := enc) (C := Try.checked) false ⟨#[], #[.slice none 0 0, .slice none 0 0, .slice none 0 0, .int .i64 0], []⟩ 8 (by kernel_rfl) (by kernel_rfl) (by kernel_rfl) (by kernel_rfl)) ?_
  intro W base args ds gs before hval0 hW _ _
  have hval : ∀ (j : Nat) t v, Try.f4.params[j]? = some t → args[j]? = some v → Value.okWide Try.prog W .any base t v := hval0
  have hW' := hW
  obtain ⟨p, q, hA0, hV, rfl, _, _⟩ := hW
  have hA : DataW.TrodAll enc Try.prog W 0 (fun _ => true) true Try.f4.params.toList args.toList ds p := hA0
  rw [Try.params4] at hA hval
  obtain ⟨v0, v1, v2, v3, d0, d1, d2, d3, p0, p1, p2, p3, rfl, rfl, rfl, h0, h1, h2, h3⟩ := trodAll_four hA
  obtain ⟨rfl, rfl⟩ := trodVars_none hV
  obtain ⟨ao, cap, acts, rfl, hac⟩ := open_actsArg (hval 0 41 v0 rfl rfl) h0
  obtain ⟨aa, ac, a, rfl, hsa, na, hna⟩ := open_spansArg (hval 1 42 v1 rfl rfl) h1
  obtain ⟨ba, bc, b, rfl, hsb, nb, hnb⟩ := open_spansArg (hval 2 42 v2 rfl rfl) h2
  obtain ⟨n, rfl, rfl, rfl, _⟩ := open_int Try.underlying3 (hval 3 3 v3 rfl rfl) h3
  refine (topClear_walk acts ao cap a aa ac b ba bc n W hac hsa hsb na nb hna hnb).mono fun e W' ⟨he, hb⟩ => ?_
  subst he
  exact ⟨_, rfl, law_post Try.laidOut (by kernel_rfl) Try.underlying4 rfl (by rw [Try.params4]; decide +kernel) hW' rfl hb⟩

theorem topClear_holds : Rows.TopClearSaid :=
  OpenClaim.holds_of_wide 4 Try.f4 rfl rfl rfl rfl rfl rfl rfl ⟨rfl, rfl, rfl, rfl, rfl⟩ rfl rfl rfl rfl rfl (by kernel_rfl) Try.func4 (by kernel_rfl)
    (of_decide_eq_true (by kernel_rfl)) (by unfold Func.isWrapper; first | (rw [if_pos (by decide +kernel)]; kernel_rfl) | (rw [if_neg (by decide +kernel)]; exact ⟨rfl, rfl⟩))
    (fun os started H enc _ => topClear_lifted os started H enc)
#print axioms topClear_holds
end Go.Proofs.Ytdepcjnbiceciac
