/-
  PROVED: for all lists of deeds and all lists of saves, haywaintop.TopSave returns true, and its arguments read afterwards as they read before (the statement TopSaveSaid; no condition besides the row's own).
-/
import Derived.Test.YtkfpfbkdalbjoaaTopCrashWalk
import Derived.Test.YtkfpfbkdalbjoaaOpenActs
namespace Go.Proofs.Ytkfpfbkdalbjoaa
open Go.ChangeShapes Go.WideShapes Go.ChangeAt Go.RowKit Go.Joins Go.Deep
open Go.ChangeMaps (open_string shut_string)

set_option maxRecDepth 100000 in
theorem open_boolsArg {H : Type} {enc : TypeId × Value → H} {W : World} {base : Nat} {v : Value} {d : DataW H} {p : List MemPlace}
    (hv : Value.okWide Try.prog W .any base 69 v) (h : DataW.Trod enc Try.prog W 0 (fun _ => true) true 69 v d p) :
    ∃ (ao : Option Addr) (cap : Nat) (l : List Bool), v = .slice ao l.length cap ∧ boolsAt W ao l ∧ l.length ≤ 9223372036854775807 := by
  obtain ⟨a0, len, cap, rfl⟩ := okWide_slice Try.underlying69 hv
  obtain ⟨fuel, hf⟩ := h
  have hf' : DataW.trod enc Try.prog W 0 (fun _ => true) true fuel 69 [.slice a0 len cap] = some (d, p) := by simpa [Value.cells] using hf
  rcases open_slice1 Try.underlying69 (show Try.prog.cellsOf 4 = 1 by kernel_rfl) hf' with ⟨hcs, _⟩ | ⟨a, len', cap', m, n, V, D, Pl, hcs, _, hl, hm, hmm, _, hx⟩
  · simp at hcs
    obtain ⟨rfl, rfl, rfl⟩ := hcs
    exact ⟨none, 0, [], rfl, .inl rfl, Nat.zero_le _⟩
  · simp at hcs
    obtain ⟨rfl, rfl, rfl⟩ := hcs
    simp only [if_true] at hmm
    subst hmm
    by_cases h0 : len = 0
    · subst h0
      exact ⟨_, _, [], rfl, .inl rfl, Nat.zero_le _⟩
    · obtain ⟨b, off, spot⟩ := a
      have hspot : spot = none := by
        have e0 := (hx 0 (by omega)).1
        simpa [Addr.add] using World.cell?_spot e0
      subst hspot
      obtain ⟨B, hB⟩ := choose_lt (α := Bool) (p := fun i b => V i = .bool b) (n := m) (fun i hi => by
        obtain ⟨b, h1, _⟩ := DataW.trod_bool Try.underlying4 (hx i hi).2
        exact ⟨b, by simpa using h1⟩)
      refine ⟨_, m, (List.range len).map B, by simp, .inr ⟨b, off, rfl, fun i hi => ?_⟩, ?_⟩
      · have hi' : i < len := by simpa using hi
        have e := (hx i (by omega)).1
        rw [Go.WideShapes.add_plain] at e
        rw [e, hB i (by omega)]
        simp
      · have : maxLen ≤ 9223372036854775807 := by decide
        simp
        omega

set_option maxRecDepth 100000 in
theorem topSave_lifted (os : Os) (started : os.Started) (H : Type) (enc : TypeId × Value → H) :
    ReturnsInHanded {} Try.checked os 6 .any (Rows.topSaveSpec.pre6 enc Try.prog Try.f6 Rows.topSaveRow.domain false) (Rows.topSaveSpec.post enc Try.prog Try.f6 false true false false) := by
  refine returnsInHanded_of_change (C := Try.checked) Try.own started (by kernel_rfl) Try.func6
    (ChangeSpec.witness6 (enc := enc) (C := Try.checked) false ⟨#[], #[.slice none 0 0, .slice none 0 0], []⟩ 8 (by kernel_rfl) (by kernel_rfl) (by kernel_rfl) (by kernel_rfl)) ?_
  intro W base args ds gs before hval0 hW _ _
  have hval : ∀ (j : Nat) t v, Try.f6.params[j]? = some t → args[j]? = some v → Value.okWide Try.prog W .any base t v := hval0
  have hW' := hW
  obtain ⟨p, q, hA0, hV, rfl, _, _⟩ := hW
  have hA : DataW.TrodAll enc Try.prog W 0 (fun _ => true) true Try.f6.params.toList args.toList ds p := hA0
  rw [Try.params6] at hA hval
  obtain ⟨args⟩ := args
  change DataW.TrodAll enc Try.prog W 0 (fun _ => true) true _ args ds p at hA
  obtain ⟨v0, vs0, d0, ds0, p0, q0, rfl, rfl, rfl, h0, hA⟩ := trodAll_cons hA
  obtain ⟨v1, vs1, d1, ds1, p1, q1, rfl, rfl, rfl, h1, hA⟩ := trodAll_cons hA
  obtain ⟨rfl, rfl, rfl⟩ := trodAll_nil hA
  obtain ⟨rfl, rfl⟩ := trodVars_none hV
  obtain ⟨a1, c1, l1, rfl, hl1⟩ := open_deedsArg (hval 0 55 v0 rfl rfl) h0
  obtain ⟨a2, c2, l2, rfl, hl2, hm2⟩ := open_boolsArg (hval 1 69 v1 rfl rfl) h1
  refine (topSave_walk l1 a1 c1 l2 a2 c2 W hl1 hl2 hm2).mono fun e W' ⟨he, hb⟩ => ?_
  subst he
  exact ⟨_, rfl, law_post Try.laidOut (by kernel_rfl) Try.underlying4 rfl (by rw [Try.params6]; decide +kernel) hW' rfl hb⟩

theorem topSave_holds : Rows.TopSaveSaid :=
  OpenClaim.holds_of_wide 6 Try.f6 rfl rfl rfl rfl rfl rfl rfl ⟨rfl, rfl, rfl, rfl, rfl⟩ rfl rfl rfl rfl rfl (by kernel_rfl) Try.func6 (by kernel_rfl)
    (of_decide_eq_true (by kernel_rfl)) (by unfold Func.isWrapper; first | (rw [if_pos (by decide +kernel)]; kernel_rfl) | (rw [if_neg (by decide +kernel)]; exact ⟨rfl, rfl⟩))
    (fun os started H enc _ => topSave_lifted os started H enc)
#print axioms topSave_holds
end Go.Proofs.Ytkfpfbkdalbjoaa
