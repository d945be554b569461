/-
  PROVED: for all lists of changes l (nil, empty or not) and all changes a and b, haywaintop.TopChange returns true, and its arguments read afterwards as they read before (the statement TopChangeSaid; no condition besides the row's own).
-/
import Derived.Test.YtcaopggeainpnabTopChangeLight
import Derived.Test.YtcaopggeainpnabOpenChgs
namespace Go.Proofs.Ytcaopggeainpnab
open Go.ChangeShapes Go.WideShapes Go.ChangeAt Go.RowKit Go.Joins

theorem Try.cellsChange : Try.prog.cellsOf 35 = 3 := by kernel_rfl
theorem topChange_walk (l : List Chg) (a b : Chg) (cap : Nat) (ao : Option Addr) (w : World) (hl : heldCh w ao l) :
    Calls Try.prog 4 #[.slice ao l.length cap, .agg #[.string a.key, .string a.val, .bool a.gone], .agg #[.string b.key, .string b.val, .bool b.gone]] w fun e w' => e = .returned (.bool true) ∧ Below w.heap.size w w' := by
  cases h1 : lightChgs l 30 with
  | false => exact topChange_heavy l a b cap ao w hl (.inl h1)
  | true =>
    cases h2 : lightChgs [a, b] 2 with
    | false => exact topChange_heavy l a b cap ao w hl (.inr ⟨h1, h2⟩)
    | true => exact topChange_light l a b cap ao w hl h1 h2 _ rfl

set_option maxRecDepth 100000 in
theorem topChange_lifted (os : Os) (started : os.Started) (H : Type) (enc : TypeId × Value → H) :
    ReturnsInHanded {} Try.checked os 4 .any (Rows.topChangeSpec.pre6 enc Try.prog Try.f4 Rows.topChangeRow.domain false) (Rows.topChangeSpec.post enc Try.prog Try.f4 false true false false) := by
  refine returnsInHanded_of_change (C := Try.checked) Try.own started (by kernel_rfl) Try.func4
    (ChangeSpec.witness6 (enc := enc) (C := Try.checked) false ⟨#[], #[.slice none 0 0, .agg #[.string ByteArray.empty, .string ByteArray.empty, .bool false], .agg #[.string ByteArray.empty, .string ByteArray.empty, .bool false]], []⟩ 8 (by kernel_rfl) (by kernel_rfl) (by kernel_rfl) (by kernel_rfl)) ?_
  intro W base args ds gs before hval0 hW _ _
  have hval : ∀ (j : Nat) t v, Try.f4.params[j]? = some t → args[j]? = some v → Value.okWide Try.prog W .any base t v := hval0
  have hW' := hW
  obtain ⟨p, q, hA0, hV, rfl, _, _⟩ := hW
  have hA : DataW.TrodAll enc Try.prog W 0 (fun _ => true) true Try.f4.params.toList args.toList ds p := hA0
  rw [Try.params4] at hA hval
  obtain ⟨v0, v1, v2, d0, d1, d2, p0, p1, p2, rfl, rfl, rfl, h0, h1, h2⟩ := trodAll_three hA
  obtain ⟨rfl, rfl⟩ := trodVars_none hV
  obtain ⟨ao, cap, l, rfl, hl⟩ := open_chgs (hval 0 33 v0 rfl rfl) h0
  obtain ⟨c0, c1, c2, y0, y1, y2, m, rfl, rfl, rfl, hy0, hy1, hy2⟩ := open_agg3 Try.underlying35 (by kernel_rfl) Try.cellsChange (hval 1 35 v1 rfl rfl) h1
  obtain ⟨c3, c4, c5, y3, y4, y5, m', rfl, rfl, rfl, hy3, hy4, hy5⟩ := open_agg3 Try.underlying35 (by kernel_rfl) Try.cellsChange (hval 2 35 v2 rfl rfl) h2
  obtain ⟨ak, e0, rfl, _⟩ := DataW.trod_string Try.underlying9 hy0
  obtain ⟨av, e1, rfl, _⟩ := DataW.trod_string Try.underlying9 hy1
  obtain ⟨ag, e2, rfl⟩ := DataW.trod_bool Try.underlying4 hy2
  obtain ⟨bk, e3, rfl, _⟩ := DataW.trod_string Try.underlying9 hy3
  obtain ⟨bv, e4, rfl, _⟩ := DataW.trod_string Try.underlying9 hy4
  obtain ⟨bg, e5, rfl⟩ := DataW.trod_bool Try.underlying4 hy5
  simp at e0 e1 e2 e3 e4 e5
  subst e0 e1 e2 e3 e4 e5
  refine (topChange_walk l ⟨ak, av, ag⟩ ⟨bk, bv, bg⟩ cap ao W hl).mono fun e W' ⟨he, hb⟩ => ?_
  subst he
  exact ⟨_, rfl, law_post Try.laidOut (by kernel_rfl) Try.underlying4 rfl (by rw [Try.params4]; decide +kernel) hW' rfl hb⟩

theorem topChange_holds : Rows.TopChangeSaid :=
  OpenClaim.holds_of_wide 4 Try.f4 rfl rfl rfl rfl rfl rfl rfl ⟨rfl, rfl, rfl, rfl, rfl⟩ rfl rfl rfl rfl rfl (by kernel_rfl) Try.func4 (by kernel_rfl)
    (of_decide_eq_true (by kernel_rfl)) (by unfold Func.isWrapper; first | (rw [if_pos (by decide +kernel)]; kernel_rfl) | (rw [if_neg (by decide +kernel)]; exact ⟨rfl, rfl⟩))
    (fun os started H enc _ => topChange_lifted os started H enc)
#print axioms topChange_holds
end Go.Proofs.Ytcaopggeainpnab
