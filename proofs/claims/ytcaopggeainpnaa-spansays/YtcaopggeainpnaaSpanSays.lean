/-
  PROVED: for all spans a and b, all lists of spans l (nil, empty or not) and all texts key, haywainlaw.SpanSays returns true, and its arguments read afterwards as they read before (the statement SpanSaysSaid; no condition besides the row's own).
-/
import Derived.Test.YtcaopggeainpnaaSpanSaysWalk
import Derived.Test.YtcaopggeainpnaaOpenSpans
namespace Go.Proofs.Ytcaopggeainpnaa
open Go.ChangeShapes Go.WideShapes Go.ChangeAt Go.RowKit Go.Joins
open Go.ChangeMaps (open_string shut_string)

theorem Try.cellsSpan : Try.prog.cellsOf 23 = 2 := by kernel_rfl

theorem spanSays_walk (af a_t bf bt key : ByteArray) (v : Value) (w : World)
    (hv : (∃ ao cap, v = .slice ao 0 cap) ∨ ∃ (b off cap : Nat) (l : List (ByteArray × ByteArray)), v = .slice (some ⟨b, off, none⟩) l.length cap ∧ spansAt w b off l ∧ l.length ≤ maxLen) :
    Calls Try.prog 3 #[.agg #[.string af, .string a_t], .agg #[.string bf, .string bt], v, .string key] w fun e w' => e = .returned (.bool true) ∧ Below w.heap.size w w' := by
  rcases hv with ⟨ao, cap, rfl⟩ | ⟨b, off, cap, l, rfl, hl, hn⟩
  · cases h1 : lightSpans [(af, a_t), (bf, bt)] with
    | false => exact spanSays_nil_heavy af a_t bf bt key ao cap w (Or.inl h1)
    | true =>
      by_cases h3 : key.size ≤ 60
      · exact spanSays_nil_light af a_t bf bt key ao cap w h1 h3
      · exact spanSays_nil_heavy af a_t bf bt key ao cap w (Or.inr ⟨h1, by omega⟩)
  · have hn' : l.length ≤ 9223372036854775807 := by unfold maxLen at hn; omega
    cases h1 : lightSpans [(af, a_t), (bf, bt)] with
    | false => exact spanSays_some_heavy af a_t bf bt key l b off cap w hl hn' (Or.inl h1)
    | true =>
      cases h2 : lightSpans l with
      | false => exact spanSays_some_heavy af a_t bf bt key l b off cap w hl hn' (Or.inr ⟨h1, Or.inl h2⟩)
      | true =>
        by_cases h3 : key.size ≤ 60
        · exact spanSays_some_light af a_t bf bt key l b off cap w hl hn' h1 h2 h3
        · exact spanSays_some_heavy af a_t bf bt key l b off cap w hl hn' (Or.inr ⟨h1, Or.inr ⟨h2, by omega⟩⟩)

set_option maxRecDepth 100000 in
theorem spanSays_lifted (os : Os) (started : os.Started) (H : Type) (enc : TypeId × Value → H) :
    ReturnsInHanded {} Try.checked os 3 .any (Rows.spanSaysSpec.pre6 enc Try.prog Try.f3 Rows.spanSaysRow.domain false) (Rows.spanSaysSpec.post enc Try.prog Try.f3 false true false false) := by
  refine returnsInHanded_of_change (C := Try.checked) Try.own started (by kernel_rfl) Try.func3
    (ChangeSpec.witness6 (enc := enc) (C := Try.checked) false ⟨#[], #[.agg #[.string ByteArray.empty, .string ByteArray.empty], .agg #[.string ByteArray.empty, .string ByteArray.empty], .slice none 0 0, .string ByteArray.empty], []⟩ 8 (by kernel_rfl) (by kernel_rfl) (by kernel_rfl) (by kernel_rfl)) ?_
  intro W base args ds gs before hval0 hW _ _
  have hval : ∀ (j : Nat) t v, Try.f3.params[j]? = some t → args[j]? = some v → Value.okWide Try.prog W .any base t v := hval0
  have hW' := hW
  obtain ⟨p, q, hA0, hV, rfl, _, _⟩ := hW
  have hA : DataW.TrodAll enc Try.prog W 0 (fun _ => true) true Try.f3.params.toList args.toList ds p := hA0
  rw [Try.params3] at hA hval
  obtain ⟨v0, v1, v2, v3, d0, d1, d2, d3, p0, p1, p2, p3, rfl, rfl, rfl, h0, h1, h2, h3⟩ := trodAll_four hA
  obtain ⟨rfl, rfl⟩ := trodVars_none hV
  obtain ⟨c0, c1, y0, y1, m, rfl, rfl, rfl, hy0, hy1⟩ := open_agg2 Try.underlying23 (by kernel_rfl) Try.cellsSpan (hval 0 23 v0 rfl rfl) h0
  obtain ⟨c2, c3, y2, y3, m', rfl, rfl, rfl, hy2, hy3⟩ := open_agg2 Try.underlying23 (by kernel_rfl) Try.cellsSpan (hval 1 23 v1 rfl rfl) h1
  obtain ⟨af, e0, rfl, _⟩ := DataW.trod_string Try.underlying9 hy0
  obtain ⟨a_t, e1, rfl, _⟩ := DataW.trod_string Try.underlying9 hy1
  obtain ⟨bf, e2, rfl, _⟩ := DataW.trod_string Try.underlying9 hy2
  obtain ⟨bt, e3, rfl, _⟩ := DataW.trod_string Try.underlying9 hy3
  obtain ⟨key, rfl, rfl, rfl, _⟩ := open_string Try.underlying9 (hval 3 9 v3 rfl rfl) h3
  have hsl := open_spans (hval 2 24 v2 rfl rfl) h2
  simp at e0 e1 e2 e3
  subst e0 e1 e2 e3
  refine (spanSays_walk af a_t bf bt key v2 W hsl).mono fun e W' ⟨he, hb⟩ => ?_
  subst he
  exact ⟨_, rfl, law_post Try.laidOut (by kernel_rfl) Try.underlying4 rfl (by rw [Try.params3]; decide +kernel) hW' rfl hb⟩

theorem spanSays_holds : Rows.SpanSaysSaid :=
  OpenClaim.holds_of_wide 3 Try.f3 rfl rfl rfl rfl rfl rfl rfl ⟨rfl, rfl, rfl, rfl, rfl⟩ rfl rfl rfl rfl rfl (by kernel_rfl) Try.func3 (by kernel_rfl)
    (of_decide_eq_true (by kernel_rfl)) (by unfold Func.isWrapper; first | (rw [if_pos (by decide +kernel)]; kernel_rfl) | (rw [if_neg (by decide +kernel)]; exact ⟨rfl, rfl⟩))
    (fun os started H enc _ => spanSays_lifted os started H enc)
#print axioms spanSays_holds
end Go.Proofs.Ytcaopggeainpnaa
