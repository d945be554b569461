/-
  What haywainlaw.ChangeSays returns: true, of all changes and texts; nothing that was there is changed.
-/
import Derived.Test.YtlndiohdjdgaoaaChgBoth
import Derived.Test.YtlndiohdjdgaoaaChgMore
import Derived.Test.YtlndiohdjdgaoaaTopChangeRow
namespace Go.Proofs.Ytlndiohdjdgaoaa
open Go.RowKit Go.Joins

theorem chgsAt_single (w : World) (g : Nat) (a : Chg) (t : TypeId) (h : w.heap[g]? = some (.cells #[.string a.key, .string a.val, .bool a.gone] t)) : chgsAt w g 0 [a] := by
  intro i hi
  have e : i = 0 := by simp at hi; omega
  subst e
  simp [World.cell?, h]
theorem light_single (W : World) (a : Chg) :
    Calls Try.prog 18 #[.slice (some ⟨W.heap.size, 0, none⟩) 1 1, .int .i64 1] (W.alloc (.cells #[.string a.key, .string a.val, .bool a.gone] 36)) fun e w' => e = .returned (.bool (lightChgs [a] 1)) ∧ Below W.heap.size W w' :=
  (lightChgs_some [a] 1 W.heap.size 0 1 _ (chgsAt_single _ _ a 36 (Go.heap_alloc_new _ _)) (by omega)).mono fun _ _ h => ⟨h.1, by rw [h.2]; exact below_alloc1 _ _⟩

set_option maxHeartbeats 2000000 in
theorem changeSays_heavy (l : List Chg) (c : Chg) (s : ByteArray) (cap : Nat) (ao : Option Addr) (w : World) (hl : heldCh w ao l) (hh : lightChgs l 30 = false ∨ lightChgs l 30 = true ∧ lightChgs [c] 1 = false ∨ lightChgs l 30 = true ∧ lightChgs [c] 1 = true ∧ 300 < s.size) :
    Calls Try.prog 4 #[.slice ao l.length cap, .agg #[.string c.key, .string c.val, .bool c.gone], .string s] w fun e w' => e = .returned (.bool true) ∧ Below w.heap.size w w' := by
  have hB := below_alloc1 w (Obj.cells #[Value.string c.key, Value.string c.val, Value.bool c.gone] 36)
  have a0 : (w.alloc (Obj.cells #[Value.string c.key, Value.string c.val, Value.bool c.gone] 36)).cell? ⟨w.heap.size, 0, none⟩ = some (.string c.key) := by simp
  have a1 : (w.alloc (Obj.cells #[Value.string c.key, Value.string c.val, Value.bool c.gone] 36)).cell? ⟨w.heap.size, 1, none⟩ = some (.string c.val) := by simp
  have a2 : (w.alloc (Obj.cells #[Value.string c.key, Value.string c.val, Value.bool c.gone] 36)).cell? ⟨w.heap.size, 2, none⟩ = some (.bool c.gone) := by simp
  have HL := hide hl
  clear hl
  rcases hh with h | ⟨h, h'⟩ | ⟨h, h', h3⟩
  rotate_left 2
  have h3' : (300 : Int) < (s.size : Int) := by omega
  all_goals
    go_enter Try.func4, Try.ntmps4
    go_wp2_with (first
      | (go_at_call 17; refine (changes_any _).mono ?_; rintro e w1 ⟨rfl, hb⟩; replace hB := below_on hB (Nat.le_refl _) hb; replace a0 := cell_on hb a0; replace a1 := cell_on hb a1; replace a2 := cell_on hb a2; clear hb)
      | (go_at_call_of 18 (Value.slice ao l.length cap); refine (light_held l 30 cap ao _ (heldCh_on hB HL.out) (by omega)).mono ?_; rintro e w2 ⟨rfl, rfl⟩)
      | (go_at_call 18; refine (light_single _ c).mono ?_; rintro e w1 ⟨rfl, hb⟩; replace hB := below_on hB (Nat.le_refl _) hb; replace a0 := cell_on hb a0; replace a1 := cell_on hb a1; replace a2 := cell_on hb a2; clear hb))
    all_goals
      go_ret
      exact ⟨rfl, hB⟩

set_option maxHeartbeats 4000000 in
set_option maxRecDepth 4000 in
theorem changeSays_light (l : List Chg) (c Z : Chg) (is : Bool) (s : ByteArray) (cap : Nat) (ao : Option Addr) (w : World) (hl : heldCh w ao l) (h : lightChgs l 30 = true) (h' : lightChgs [c] 1 = true) (hs : s.size ≤ 300)
    (hR : ∀ w', Below w.heap.size w w' → Calls Try.prog 26 #[.slice ao l.length cap] w' fun e w'' => (∃ y, e = .returned (.bool y) ∧ (y = true → rises l)) ∧ Below w'.heap.size w' w'')
    (hF : ∀ w', rises l → Below w.heap.size w w' → Calls Try.prog 27 #[.slice ao l.length cap, .string c.key] w' fun e w'' => e = .returned (.tuple #[.agg #[.string Z.key, .string Z.val, .bool Z.gone], .bool is]) ∧ Below w'.heap.size w' w'')
    (hZ : rises l → (is = true ∧ ∃ i, ∃ hi : i < l.length, l[i].key = c.key ∧ Z = l[i]) ∨ (is = false ∧ Z = ⟨⟨#[]⟩, ⟨#[]⟩, false⟩ ∧ ∀ i (hi : i < l.length), eqS l[i].key c.key = false))
    (hP : ∀ w', Below w.heap.size w w' → Calls Try.prog 29 #[.slice ao l.length cap, .agg #[.string c.key, .string c.val, .bool c.gone]] w' fun e w'' => ∃ u, e = .returned u ∧ rowCh w'' u (insL l c) ∧ Below w'.heap.size w' w'')
    (hQ : ∀ w', rises l → Below w.heap.size w w' → Calls Try.prog 30 #[.slice ao l.length cap, .agg #[.string c.key, .string c.val, .bool c.gone]] w' fun e w'' => ∃ u, e = .returned u ∧ rowCh w'' u (insL l c) ∧ Below w'.heap.size w' w'') :
    Calls Try.prog 4 #[.slice ao l.length cap, .agg #[.string c.key, .string c.val, .bool c.gone], .string s] w fun e w' => e = .returned (.bool true) ∧ Below w.heap.size w w' := by
  have hB := below_alloc1 w (Obj.cells #[Value.string c.key, Value.string c.val, Value.bool c.gone] 36)
  have a0 : (w.alloc (Obj.cells #[Value.string c.key, Value.string c.val, Value.bool c.gone] 36)).cell? ⟨w.heap.size, 0, none⟩ = some (.string c.key) := by simp
  have a1 : (w.alloc (Obj.cells #[Value.string c.key, Value.string c.val, Value.bool c.gone] 36)).cell? ⟨w.heap.size, 1, none⟩ = some (.string c.val) := by simp
  have a2 : (w.alloc (Obj.cells #[Value.string c.key, Value.string c.val, Value.bool c.gone] 36)).cell? ⟨w.heap.size, 2, none⟩ = some (.bool c.gone) := by simp
  have hn : l.length ≤ 30 := by simp only [lightChgs, Bool.and_eq_true, decide_eq_true_eq] at h; exact h.1
  have hc : c.key.size ≤ 60 ∧ c.val.size ≤ 100 := by simp only [lightChgs, List.all_cons, lightChg, Bool.and_eq_true, decide_eq_true_eq] at h'; exact h'.2.1
  have hs' : ¬ (300 : Int) < (s.size : Int) := by omega
  obtain ⟨T, g, hT1, hT2⟩ := bytes_both c (by omega) (by omega)
  obtain ⟨X, g', hX1, hX2⟩ := parse_both s hs
  have HC1 := fun w' => hide (chg_check c w' (by unfold maxLen; omega))
  have HC2 := fun w' => hide (rfault_any c w' (by omega))
  generalize chgFault c = fc at HC1 HC2
  have HT1 := fun w' => hide (hT1 w')
  have HT2 := fun w' => hide (hT2 w')
  have HX1 := fun w' => hide (hX1 w')
  have HX2 := fun w' => hide (hX2 w')
  have HL := hide hl
  have HR := hide hR
  have HF := hide hF
  have HZ := hide hZ
  have HP := hide hP
  have HQ := hide hQ
  have hlen : (insL l c).length ≤ 1000 := Nat.le_trans (ins_length l c) (by omega)
  clear hl hR hF hZ hP hQ hT1 hT2 hX1 hX2
  go_enter Try.func4, Try.ntmps4
  go_wp2_with (first
    | (go_at_call 17; refine (changes_any _).mono ?_; rintro e w1 ⟨rfl, hb⟩; replace hB := below_on hB (Nat.le_refl _) hb; replace a0 := cell_on hb a0; replace a1 := cell_on hb a1; replace a2 := cell_on hb a2; clear hb)
    | (go_at_call_of 18 (Value.slice ao l.length cap); refine (light_held l 30 cap ao _ (heldCh_on hB HL.out) (by omega)).mono ?_; rintro e w2 ⟨rfl, rfl⟩)
    | (go_at_call 18; refine (light_single _ c).mono ?_; rintro e w1 ⟨rfl, hb⟩; replace hB := below_on hB (Nat.le_refl _) hb; replace a0 := cell_on hb a0; replace a1 := cell_on hb a1; replace a2 := cell_on hb a2; clear hb)
    | (go_at_call 19; refine ((HC2 _).out).mono ?_; rintro e w1 ⟨rfl, hb⟩; replace hB := below_on hB (Nat.le_refl _) hb; replace a0 := cell_on hb a0; replace a1 := cell_on hb a1; replace a2 := cell_on hb a2; clear hb)
    | (go_at_call 20; refine ((HT1 _).out).mono ?_; rintro e w1 ⟨rfl, hb⟩; replace hB := below_on hB (Nat.le_refl _) hb; replace a0 := cell_on hb a0; replace a1 := cell_on hb a1; replace a2 := cell_on hb a2; clear hb)
    | (go_at_call 21; refine ((HT2 _).out).mono ?_; rintro e w1 ⟨rfl, hb⟩; replace hB := below_on hB (Nat.le_refl _) hb; replace a0 := cell_on hb a0; replace a1 := cell_on hb a1; replace a2 := cell_on hb a2; clear hb)
    | (go_at_call 22; refine ((HX1 _).out).mono ?_; rintro e w1 ⟨rfl, hb⟩; replace hB := below_on hB (Nat.le_refl _) hb; replace a0 := cell_on hb a0; replace a1 := cell_on hb a1; replace a2 := cell_on hb a2; clear hb; have hb := below_alloc1 w1 (Obj.cells #[Value.string X.key, Value.string X.val, Value.bool X.gone] 36); replace hB := below_on hB (Nat.le_refl _) hb; replace a0 := cell_on hb a0; replace a1 := cell_on hb a1; replace a2 := cell_on hb a2; clear hb; have x0 : (w1.alloc (Obj.cells #[Value.string X.key, Value.string X.val, Value.bool X.gone] 36)).cell? ⟨w1.heap.size, 0, none⟩ = some (.string X.key) := cell_new _ _ _ 0; have x1 : (w1.alloc (Obj.cells #[Value.string X.key, Value.string X.val, Value.bool X.gone] 36)).cell? ⟨w1.heap.size, 1, none⟩ = some (.string X.val) := cell_new _ _ _ 1; have x2 : (w1.alloc (Obj.cells #[Value.string X.key, Value.string X.val, Value.bool X.gone] 36)).cell? ⟨w1.heap.size, 2, none⟩ = some (.bool X.gone) := cell_new _ _ _ 2)
    | (go_at_call 23; refine ((HX2 _).out).mono ?_; rintro e w3 ⟨rfl, hb⟩; replace hB := below_on hB (Nat.le_refl _) hb; replace a0 := cell_on hb a0; replace a1 := cell_on hb a1; replace a2 := cell_on hb a2; replace x0 := cell_on hb x0; replace x1 := cell_on hb x1; replace x2 := cell_on hb x2; clear hb; have hb := below_alloc1 w3 (Obj.cells #[Value.string X.key, Value.string X.val, Value.bool X.gone] 36); replace hB := below_on hB (Nat.le_refl _) hb; replace a0 := cell_on hb a0; replace a1 := cell_on hb a1; replace a2 := cell_on hb a2; replace x0 := cell_on hb x0; replace x1 := cell_on hb x1; replace x2 := cell_on hb x2; clear hb; have y0 : (w3.alloc (Obj.cells #[Value.string X.key, Value.string X.val, Value.bool X.gone] 36)).cell? ⟨w3.heap.size, 0, none⟩ = some (.string X.key) := cell_new _ _ _ 0; have y1 : (w3.alloc (Obj.cells #[Value.string X.key, Value.string X.val, Value.bool X.gone] 36)).cell? ⟨w3.heap.size, 1, none⟩ = some (.string X.val) := cell_new _ _ _ 1; have y2 : (w3.alloc (Obj.cells #[Value.string X.key, Value.string X.val, Value.bool X.gone] 36)).cell? ⟨w3.heap.size, 2, none⟩ = some (.bool X.gone) := cell_new _ _ _ 2)
    | (go_at_call 25; refine ((HC1 _).out).mono ?_; rintro e w1 ⟨rfl, hb⟩; replace hB := below_on hB (Nat.le_refl _) hb; replace a0 := cell_on hb a0; replace a1 := cell_on hb a1; replace a2 := cell_on hb a2; replace x0 := cell_on hb x0; replace x1 := cell_on hb x1; replace x2 := cell_on hb x2; replace y0 := cell_on hb y0; replace y1 := cell_on hb y1; replace y2 := cell_on hb y2; clear hb)
    | (go_at_call 24; refine (same_of _ _ _ rfl).mono ?_; rintro e w2 ⟨rfl, rfl⟩))
  refine (HR.out _ hB).mono ?_
  rintro e w5 ⟨⟨y, rfl, hy⟩, hb⟩
  replace hB := below_on hB (Nat.le_refl _) hb
  replace a0 := cell_on hb a0
  replace a1 := cell_on hb a1
  replace a2 := cell_on hb a2
  clear hb HR x0 x1 x2 y0 y1 y2
  cases y with
  | false =>
    go_wp2
    go_ret
    exact ⟨rfl, hB⟩
  | true =>
    have hr := hy rfl
    clear hy
    have HZ' := HZ.out hr
    clear HZ
    rcases HZ' with ⟨rfl, i, hi, hik, rfl⟩ | ⟨rfl, hZ0, hno⟩
    · have HK := hide hik
      clear hik
      rcases HL.out with rfl | ⟨b, off, rfl, hl⟩
      · simp at hi
      · go_wp2_with fail
        refine (HF.out _ hr hB).mono ?_
        rintro e w6 ⟨rfl, hb⟩
        replace hB := below_on hB (Nat.le_refl _) hb
        replace a0 := cell_on hb a0
        replace a1 := cell_on hb a1
        replace a2 := cell_on hb a2
        clear hb HF
        have hb := below_alloc1 w6 (Obj.cells #[Value.string l[i].key, Value.string l[i].val, Value.bool l[i].gone] 36)
        replace hB := below_on hB (Nat.le_refl _) hb
        replace a0 := cell_on hb a0
        replace a1 := cell_on hb a1
        replace a2 := cell_on hb a2
        clear hb
        have z0 : (w6.alloc (Obj.cells #[Value.string l[i].key, Value.string l[i].val, Value.bool l[i].gone] 36)).cell? ⟨w6.heap.size, 0, none⟩ = some (.string l[i].key) := cell_new _ _ _ 0
        have z1 : (w6.alloc (Obj.cells #[Value.string l[i].key, Value.string l[i].val, Value.bool l[i].gone] 36)).cell? ⟨w6.heap.size, 1, none⟩ = some (.string l[i].val) := cell_new _ _ _ 1
        have z2 : (w6.alloc (Obj.cells #[Value.string l[i].key, Value.string l[i].val, Value.bool l[i].gone] 36)).cell? ⟨w6.heap.size, 2, none⟩ = some (.bool l[i].gone) := cell_new _ _ _ 2
        go_wp2
        generalize hW : (w6.alloc (Obj.cells #[Value.string l[i].key, Value.string l[i].val, Value.bool l[i].gone] 36)) = W at *
        generalize w6.heap.size = zb at *
        clear hW
        go_loopw [20] (fun v wr => ∃ k : Nat, k ≤ i ∧ v = .int .i64 k ∧ Below W.heap.size W wr) (fun v _ => l.length - (intOf v).toNat)
        case atStart => exact ⟨0, Nat.zero_le _, rfl, Below.refl _ _⟩
        case round =>
          obtain ⟨k, hk, rfl, hb⟩ := hrel
          have HW := hide hb
          replace hB := below_on hB (Nat.le_refl _) hb
          replace a0 := cell_on hb a0
          replace a1 := cell_on hb a1
          replace a2 := cell_on hb a2
          replace z0 := cell_on hb z0
          replace z1 := cell_on hb z1
          replace z2 := cell_on hb z2
          clear hb
          have hkl : k < l.length := by omega
          have hkl' : (k : Int) < (l.length : Int) := by omega
          obtain ⟨c0, c1, c2⟩ := chgsAt_on hB hl k hkl
          by_cases e : k = i
          · subst e
            have q1 : l[k].key.toList = c.key.toList := by rw [HK.out]
            go_wp2
            go_quiet (fail)
            go_wp2
            go_region_held3 (fun w' => w'.cell? ⟨w.heap.size, 0, none⟩ = some (.string c.key) ∧ w'.cell? ⟨w.heap.size, 1, none⟩ = some (.string c.val) ∧ w'.cell? ⟨w.heap.size, 2, none⟩ = some (.bool c.gone) ∧ w'.cell? ⟨zb, 0, none⟩ = some (.string l[k].key) ∧ w'.cell? ⟨zb, 1, none⟩ = some (.string l[k].val) ∧ w'.cell? ⟨zb, 2, none⟩ = some (.bool l[k].gone) ∧ w'.cell? ⟨b, off + k * 3, none⟩ = some (.string l[k].key) ∧ w'.cell? ⟨b, off + k * 3 + 1, none⟩ = some (.string l[k].val) ∧ w'.cell? ⟨b, off + k * 3 + 2, none⟩ = some (.bool l[k].gone)) (first | exact ⟨a0, a1, a2, z0, z1, z2, c0, c1, c2⟩ | go_keep) (first | (go_at_call 28; refine (same_row (insL l c) _ _ _ h1 h2 (ins_some _ _) hlen).mono ?_; rintro e w5 ⟨rfl, hb⟩; replace hB := below_on hB (Nat.le_refl _) hb; replace a0 := cell_on hb a0; replace a1 := cell_on hb a1; replace a2 := cell_on hb a2; replace z0 := cell_on hb z0; replace z1 := cell_on hb z1; replace z2 := cell_on hb z2; replace c0 := cell_on hb c0; replace c1 := cell_on hb c1; replace c2 := cell_on hb c2; clear hb) | (go_at_call 30; refine (HQ.out _ hr hB).mono ?_; rintro e w4 ⟨u2, rfl, h2, hb⟩; replace hB := below_on hB (Nat.le_refl _) hb; replace a0 := cell_on hb a0; replace a1 := cell_on hb a1; replace a2 := cell_on hb a2; replace z0 := cell_on hb z0; replace z1 := cell_on hb z1; replace z2 := cell_on hb z2; replace c0 := cell_on hb c0; replace c1 := cell_on hb c1; replace c2 := cell_on hb c2; replace h1 := rowCh_on hb h1; clear hb; dsimp only) | (go_at_call 29; refine (HP.out _ (hB.trans (below_draws _ _ _))).mono ?_; rintro e w3 ⟨u1, rfl, h1, hb⟩; replace hb := below_on (below_draws _ wr _) (Nat.le_refl _) hb; replace hB := below_on hB (Nat.le_refl _) hb; replace a0 := cell_on hb a0; replace a1 := cell_on hb a1; replace a2 := cell_on hb a2; replace z0 := cell_on hb z0; replace z1 := cell_on hb z1; replace z2 := cell_on hb z2; replace c0 := cell_on hb c0; replace c1 := cell_on hb c1; replace c2 := cell_on hb c2; clear hb; dsimp only))
            go_wp2
            all_goals
              go_ret
              exact ⟨rfl, hB⟩
          · have q1 : (l[k].key.toList == c.key.toList) = false := by
              have := List.pairwise_iff_getElem.1 hr k i hkl hi (by omega)
              rw [HK.out] at this
              exact eqS_lt this
            go_wp2
            go_quiet (fail)
            go_wp2
            go_roundw
            case rel => exact ⟨k + 1, by omega, by go_num, by first | exact HW.out | exact HW.out.trans (below_draws _ _ _)⟩
            case measure => simp [intOf]; omega
    · subst hZ0
      have HN := hide hno
      clear hno
      go_wp2_with fail
      refine (HF.out _ hr hB).mono ?_
      rintro e w6 ⟨rfl, hb⟩
      replace hB := below_on hB (Nat.le_refl _) hb
      replace a0 := cell_on hb a0
      replace a1 := cell_on hb a1
      replace a2 := cell_on hb a2
      clear hb HF
      have hb := below_alloc1 w6 (Obj.cells #[Value.string ⟨#[]⟩, Value.string ⟨#[]⟩, Value.bool false] 36)
      replace hB := below_on hB (Nat.le_refl _) hb
      replace a0 := cell_on hb a0
      replace a1 := cell_on hb a1
      replace a2 := cell_on hb a2
      clear hb
      have z0 : (w6.alloc (Obj.cells #[Value.string ⟨#[]⟩, Value.string ⟨#[]⟩, Value.bool false] 36)).cell? ⟨w6.heap.size, 0, none⟩ = some (.string ⟨#[]⟩) := cell_new _ _ _ 0
      have z1 : (w6.alloc (Obj.cells #[Value.string ⟨#[]⟩, Value.string ⟨#[]⟩, Value.bool false] 36)).cell? ⟨w6.heap.size, 1, none⟩ = some (.string ⟨#[]⟩) := cell_new _ _ _ 1
      have z2 : (w6.alloc (Obj.cells #[Value.string ⟨#[]⟩, Value.string ⟨#[]⟩, Value.bool false] 36)).cell? ⟨w6.heap.size, 2, none⟩ = some (.bool false) := cell_new _ _ _ 2
      go_wp2
      generalize hW : (w6.alloc (Obj.cells #[Value.string ⟨#[]⟩, Value.string ⟨#[]⟩, Value.bool false] 36)) = W at *
      generalize w6.heap.size = zb at *
      clear hW
      go_loopw [20] (fun v wr => ∃ k : Nat, k ≤ l.length ∧ v = .int .i64 k ∧ Below W.heap.size W wr) (fun v _ => l.length - (intOf v).toNat)
      case atStart => exact ⟨0, Nat.zero_le _, rfl, Below.refl _ _⟩
      case round =>
        obtain ⟨k, hk, rfl, hb⟩ := hrel
        have HW := hide hb
        replace hB := below_on hB (Nat.le_refl _) hb
        replace a0 := cell_on hb a0
        replace a1 := cell_on hb a1
        replace a2 := cell_on hb a2
        replace z0 := cell_on hb z0
        replace z1 := cell_on hb z1
        replace z2 := cell_on hb z2
        clear hb
        by_cases hkl : k < l.length
        · rcases HL.out with rfl | ⟨b, off, rfl, hl⟩
          · simp at hkl
          · have hkl' : (k : Int) < (l.length : Int) := by omega
            obtain ⟨c0, c1, c2⟩ := chgsAt_on hB hl k hkl
            have q1 : (l[k].key.toList == c.key.toList) = false := HN.out k hkl
            go_wp2
            go_quiet (fail)
            go_wp2
            go_roundw
            case rel => exact ⟨k + 1, by omega, by go_num, by first | exact HW.out | exact HW.out.trans (below_draws _ _ _)⟩
            case measure => simp [intOf]; omega
        · go_wp2
          go_region_held3 (fun w' => w'.cell? ⟨w.heap.size, 0, none⟩ = some (.string c.key) ∧ w'.cell? ⟨w.heap.size, 1, none⟩ = some (.string c.val) ∧ w'.cell? ⟨w.heap.size, 2, none⟩ = some (.bool c.gone) ∧ w'.cell? ⟨zb, 0, none⟩ = some (.string ⟨#[]⟩) ∧ w'.cell? ⟨zb, 1, none⟩ = some (.string ⟨#[]⟩) ∧ w'.cell? ⟨zb, 2, none⟩ = some (.bool false)) (first | exact ⟨a0, a1, a2, z0, z1, z2⟩ | go_keep) (first | (go_at_call 28; refine (same_row (insL l c) _ _ _ h1 h2 (ins_some _ _) hlen).mono ?_; rintro e w5 ⟨rfl, hb⟩; replace hB := below_on hB (Nat.le_refl _) hb; replace a0 := cell_on hb a0; replace a1 := cell_on hb a1; replace a2 := cell_on hb a2; replace z0 := cell_on hb z0; replace z1 := cell_on hb z1; replace z2 := cell_on hb z2; clear hb) | (go_at_call 30; refine (HQ.out _ hr hB).mono ?_; rintro e w4 ⟨u2, rfl, h2, hb⟩; replace hB := below_on hB (Nat.le_refl _) hb; replace a0 := cell_on hb a0; replace a1 := cell_on hb a1; replace a2 := cell_on hb a2; replace z0 := cell_on hb z0; replace z1 := cell_on hb z1; replace z2 := cell_on hb z2; replace h1 := rowCh_on hb h1; clear hb; dsimp only) | (go_at_call 29; refine (HP.out _ (by first | exact hB.drew | exact hB)).mono ?_; rintro e w3 ⟨u1, rfl, h1, hb⟩; replace hb := below_on (Below.refl wr.heap.size wr).drew (Nat.le_refl _) hb; replace hB := below_on hB (Nat.le_refl _) hb; replace a0 := cell_on hb a0; replace a1 := cell_on hb a1; replace a2 := cell_on hb a2; replace z0 := cell_on hb z0; replace z1 := cell_on hb z1; replace z2 := cell_on hb z2; clear hb; dsimp only))
          go_wp2
          all_goals
            go_ret
            exact ⟨rfl, hB⟩
end Go.Proofs.Ytlndiohdjdgaoaa
