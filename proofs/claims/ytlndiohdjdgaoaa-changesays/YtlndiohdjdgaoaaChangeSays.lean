/-
  PROVED: for all lists of changes l (nil, empty or not), all changes c and all texts s, haywainlaw.ChangeSays returns true, and its arguments read afterwards as they read before (the statement ChangeSaysSaid; no condition besides the row's own).
-/
import Derived.Test.YtlndiohdjdgaoaaChangeSaysWalk
import Derived.Test.YtlndiohdjdgaoaaOpenChgs
namespace Go.Proofs.Ytlndiohdjdgaoaa
open Go.ChangeShapes Go.WideShapes Go.ChangeAt Go.RowKit Go.Joins

theorem Try.cellsChange : Try.prog.cellsOf 36 = 3 := by kernel_rfl
theorem changeSays_walk (l : List Chg) (c : Chg) (s : ByteArray) (cap : Nat) (ao : Option Addr) (w : World) (hl : argCh w ao cap l) :
    Calls Try.prog 4 #[.slice ao l.length cap, .agg #[.string c.key, .string c.val, .bool c.gone], .string s] w fun e w' => e = .returned (.bool true) ∧ Below w.heap.size w w' := by
  have hh := argCh_held hl
  cases h1 : lightChgs l 30 with
  | false => exact changeSays_heavy l c s cap ao w hh (.inl h1)
  | true =>
    cases h2 : lightChgs [c] 1 with
    | false => exact changeSays_heavy l c s cap ao w hh (.inr (.inl ⟨h1, h2⟩))
    | true =>
      by_cases h3 : 300 < s.size
      · exact changeSays_heavy l c s cap ao w hh (.inr (.inr ⟨h1, h2, h3⟩))
      · have hn : l.length ≤ 30 := by simp only [lightChgs, Bool.and_eq_true, decide_eq_true_eq] at h1; exact h1.1
        rcases hl with ⟨rfl, rfl, rfl⟩ | ⟨a, rfl, rfl, rfl⟩ | ⟨b, off, rfl, hcap, hmax, hc⟩
        · refine changeSays_light [] c ⟨⟨#[]⟩, ⟨#[]⟩, false⟩ false s 0 none w hh h1 h2 (by omega)
            (fun w' _ => (rising_bare none 0 w').mono fun e w'' h => ⟨⟨true, h.1, fun _ => List.Pairwise.nil⟩, h.2⟩)
            (fun w' _ _ => find_bare none 0 c.key w') (fun _ => .inr ⟨rfl, rfl, fun i hi => by simp at hi⟩)
            (fun w' _ => (put_nil c w').mono ?_) (fun w' _ _ => (rput_bare none 0 c w').mono ?_)
          all_goals
            rintro e w'' ⟨u, rfl, ho, hb⟩
            exact ⟨u, rfl, row_of_own ho (Nat.zero_lt_succ _), hb⟩
        · refine changeSays_light [] c ⟨⟨#[]⟩, ⟨#[]⟩, false⟩ false s 0 (some a) w hh h1 h2 (by omega)
            (fun w' _ => (rising_bare (some a) 0 w').mono fun e w'' h => ⟨⟨true, h.1, fun _ => List.Pairwise.nil⟩, h.2⟩)
            (fun w' _ _ => find_bare (some a) 0 c.key w') (fun _ => .inr ⟨rfl, rfl, fun i hi => by simp at hi⟩)
            (fun w' _ => (put_bare a c w').mono ?_) (fun w' _ _ => (rput_bare (some a) 0 c w').mono ?_)
          all_goals
            rintro e w'' ⟨u, rfl, ho, hb⟩
            exact ⟨u, rfl, row_of_own ho (Nat.zero_lt_succ _), hb⟩
        · have hR : ∀ w', Below w.heap.size w w' → Calls Try.prog 26 #[.slice (some ⟨b, off, none⟩) l.length cap] w' fun e w'' => (∃ y, e = .returned (.bool y) ∧ (y = true → rises l)) ∧ Below w'.heap.size w' w'' :=
            fun w' hb => rising_any l b off cap w' (chgsAt_on hb hc) (by omega)
          have hP : ∀ w', Below w.heap.size w w' → Calls Try.prog 29 #[.slice (some ⟨b, off, none⟩) l.length cap, .agg #[.string c.key, .string c.val, .bool c.gone]] w' fun e w'' => ∃ u, e = .returned u ∧ rowCh w'' u (insL l c) ∧ Below w'.heap.size w' w'' := by
            intro w' hb
            refine (put_some l b off cap c w' (chgsAt_on hb hc) hcap hmax (by omega)).mono ?_
            rintro e w'' ⟨u, rfl, ho, hb'⟩
            rw [putL_ins] at ho
            exact ⟨u, rfl, row_of_own ho (ins_some l c), hb'⟩
          have hQ : ∀ w', rises l → Below w.heap.size w w' → Calls Try.prog 30 #[.slice (some ⟨b, off, none⟩) l.length cap, .agg #[.string c.key, .string c.val, .bool c.gone]] w' fun e w'' => ∃ u, e = .returned u ∧ rowCh w'' u (insL l c) ∧ Below w'.heap.size w' w'' := by
            intro w' hr hb
            refine (rput_any l b off cap c w' (chgsAt_on hb hc) (by omega)).mono ?_
            rintro e w'' ⟨u, rfl, ho, hb'⟩
            rw [put_fold c l [] hr, List.nil_append] at ho
            exact ⟨u, rfl, row_of_own ho (ins_some l c), hb'⟩
          by_cases hex : ∃ i, ∃ hi : i < l.length, l[i].key = c.key
          · obtain ⟨i, hi, hik⟩ := hex
            refine changeSays_light l c l[i] true s cap _ w hh h1 h2 (by omega) hR (fun w' hr hb => ?_) (fun _ => .inl ⟨rfl, i, hi, hik, rfl⟩) hP hQ
            obtain ⟨hp, hf⟩ := found_mem hr i hi c.key hik
            exact find_some l b off cap c.key w' (chgsAt_on hb hc) (by omega) i hp hf hi
          · have hno : ∀ i (hi : i < l.length), eqS l[i].key c.key = false := fun i hi => by
              cases e : eqS l[i].key c.key with
              | false => rfl
              | true => exact absurd ⟨i, hi, (eqS_iff _ _).1 e⟩ hex
            exact changeSays_light l c ⟨⟨#[]⟩, ⟨#[]⟩, false⟩ false s cap _ w hh h1 h2 (by omega) hR (fun w' _ hb => find_none l b off cap c.key w' (chgsAt_on hb hc) (by omega) (found_not hno)) (fun _ => .inr ⟨rfl, rfl, hno⟩) hP hQ

set_option maxRecDepth 100000 in
theorem changeSays_lifted (os : Os) (started : os.Started) (H : Type) (enc : TypeId × Value → H) :
    ReturnsInHanded {} Try.checked os 4 .any (Rows.changeSaysSpec.pre6 enc Try.prog Try.f4 Rows.changeSaysRow.domain false) (Rows.changeSaysSpec.post enc Try.prog Try.f4 false true false false) := by
  refine returnsInHanded_of_change (C := Try.checked) Try.own started (by kernel_rfl) Try.func4
    (ChangeSpec.witness6 (enc := enc) (C := Try.checked) false ⟨#[], #[.slice none 0 0, .agg #[.string ByteArray.empty, .string ByteArray.empty, .bool false], .string ByteArray.empty], []⟩ 8 (by kernel_rfl) (by kernel_rfl) (by kernel_rfl) (by kernel_rfl)) ?_
  intro W base args ds gs before hval0 hW _ _
  have hval : ∀ (j : Nat) t v, Try.f4.params[j]? = some t → args[j]? = some v → Value.okWide Try.prog W .any base t v := hval0
  have hW' := hW
  obtain ⟨p, q, hA0, hV, rfl, _, _⟩ := hW
  have hA : DataW.TrodAll enc Try.prog W 0 (fun _ => true) true Try.f4.params.toList args.toList ds p := hA0
  rw [Try.params4] at hA hval
  obtain ⟨v0, v1, v2, d0, d1, d2, p0, p1, p2, rfl, rfl, rfl, h0, h1, h2⟩ := trodAll_three hA
  obtain ⟨rfl, rfl⟩ := trodVars_none hV
  obtain ⟨ao, cap, l, rfl, hl⟩ := open_args (hval 0 34 v0 rfl rfl) h0
  obtain ⟨c0, c1, c2, y0, y1, y2, m, rfl, rfl, rfl, hy0, hy1, hy2⟩ := open_agg3 Try.underlying36 (by kernel_rfl) Try.cellsChange (hval 1 36 v1 rfl rfl) h1
  obtain ⟨s, rfl⟩ := okWide_string Try.underlying9 (hval 2 9 v2 rfl rfl)
  obtain ⟨ak, e0, rfl, _⟩ := DataW.trod_string Try.underlying9 hy0
  obtain ⟨av, e1, rfl, _⟩ := DataW.trod_string Try.underlying9 hy1
  obtain ⟨ag, e2, rfl⟩ := DataW.trod_bool Try.underlying4 hy2
  simp at e0 e1 e2
  subst e0 e1 e2
  refine (changeSays_walk l ⟨ak, av, ag⟩ s cap ao W hl).mono fun e W' ⟨he, hb⟩ => ?_
  subst he
  exact ⟨_, rfl, law_post Try.laidOut (by kernel_rfl) Try.underlying4 rfl (by rw [Try.params4]; decide +kernel) hW' rfl hb⟩

theorem changeSays_holds : Rows.ChangeSaysSaid :=
  OpenClaim.holds_of_wide 4 Try.f4 rfl rfl rfl rfl rfl rfl rfl ⟨rfl, rfl, rfl, rfl, rfl⟩ rfl rfl rfl rfl rfl (by kernel_rfl) Try.func4 (by kernel_rfl)
    (of_decide_eq_true (by kernel_rfl)) (by unfold Func.isWrapper; first | (rw [if_pos (by decide +kernel)]; kernel_rfl) | (rw [if_neg (by decide +kernel)]; exact ⟨rfl, rfl⟩))
    (fun os started H enc _ => changeSays_lifted os started H enc)
#print axioms changeSays_holds
end Go.Proofs.Ytlndiohdjdgaoaa
