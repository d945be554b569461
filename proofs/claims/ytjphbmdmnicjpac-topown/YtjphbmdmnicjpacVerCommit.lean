/-
  What Versions.Commit makes of versions that lie in memory: of changes that may be, each row has one version more; of others nothing.
-/
import Derived.Test.YtjphbmdmnicjpacVerPut
import Derived.Test.YtjphbmdmnicjpacChgHeld
import Derived.Test.YtjphbmdmnicjpacChgCheck
import Derived.OwnWalk
import Derived.Deep.AppendLies
namespace Go.Proofs.Ytjphbmdmnicjpac
open Go.RowKit Go.Joins
attribute [local go_sem ↓] Go.wp_at_zero Go.wp_at_succ

/-- the fault of a deed's i-th change -/
def stepFault (l : List Chg) (i : Nat) : Nat := match l[i]? with
  | none => 0
  | some c => if chgFault c ≠ 0 then chgFault c else match i with
    | 0 => 0
    | j + 1 => match l[j]? with
      | some p => if leS c.key p.key then 3 else 0
      | none => 0
def deedFault (l : List Chg) : Nat := (((List.range l.length).map (stepFault l)).find? (· != 0)).getD 0
theorem deed_first {l : List Chg} {k : Nat} (hk : k < l.length) (h : ∀ i, i < k → stepFault l i = 0) (hf : stepFault l k ≠ 0) : deedFault l = stepFault l k := by
  unfold deedFault
  have : ((List.range l.length).map (stepFault l)).find? (· != 0) = some (stepFault l k) := by
    rw [List.find?_eq_some_iff_getElem]
    refine ⟨by simpa using hf, k, by simpa using hk, by simp, fun j hj => ?_⟩
    have := h j hj
    simp [this]
  rw [this]; rfl
theorem deed_none {l : List Chg} (h : ∀ i, i < l.length → stepFault l i = 0) : deedFault l = 0 := by
  unfold deedFault
  have : ((List.range l.length).map (stepFault l)).find? (· != 0) = none := by
    rw [List.find?_eq_none]
    intro x hx
    obtain ⟨i, hi, rfl⟩ := List.mem_map.1 hx
    simp [h i (List.mem_range.1 hi)]
  rw [this]; rfl
theorem step_chg {l : List Chg} {k : Nat} (hk : k < l.length) (h : chgFault l[k] ≠ 0) : stepFault l k = chgFault l[k] := by
  unfold stepFault
  rw [List.getElem?_eq_getElem hk]
  simp [h]
theorem step_zero {l : List Chg} (hk : 0 < l.length) (h : chgFault l[0] = 0) : stepFault l 0 = 0 := by
  unfold stepFault
  rw [List.getElem?_eq_getElem hk]
  simp [h]
theorem step_succ {l : List Chg} {j : Nat} (hk : j + 1 < l.length) (h : chgFault l[j + 1] = 0) : stepFault l (j + 1) = if leS l[j + 1].key l[j].key then 3 else 0 := by
  have h2 : l[j]? = some l[j] := List.getElem?_eq_getElem (by omega)
  simp [stepFault, hk, h, h2]

set_option maxHeartbeats 2000000 in
theorem vcheck_some (l : List Chg) (b off cap : Nat) (w : World) (hl : chgsAt w b off l) (hn : l.length ≤ 1000) (hk : ∀ c ∈ l, c.key.size ≤ 1000000) :
    Calls Try.prog 86 #[.slice (some ⟨b, off, none⟩) l.length cap] w fun e w' => e = .returned (errV (deedFault l)) ∧ Below w.heap.size w w' := by
  go_enter Try.func86, Try.ntmps86
  go_wp2
  go_loopw [8] (fun i wr => ∃ k : Nat, k ≤ l.length ∧ i = .int .i64 k ∧ (∀ i, i < k → stepFault l i = 0) ∧ Below w.heap.size w wr) (fun i _ => l.length - (intOf i).toNat)
  case atStart => exact ⟨0, Nat.zero_le _, rfl, by simp, Below.refl _ _⟩
  case round =>
    obtain ⟨k, hkl, rfl, hz, hB⟩ := hrel
    have HZ := hide hz
    clear hz
    by_cases hlt : k < l.length
    · obtain ⟨c0, c1, c2⟩ := chgsAt_on hB hl k hlt
      have hlt' : (k : Int) < (l.length : Int) := by omega
      have hks := hk _ (List.getElem_mem hlt)
      have hbA := below_alloc1 wr (Obj.cells #[Value.string l[k].key, Value.string l[k].val, Value.bool l[k].gone] 29)
      have x0 : (wr.alloc (Obj.cells #[Value.string l[k].key, Value.string l[k].val, Value.bool l[k].gone] 29)).cell? ⟨wr.heap.size, 0, none⟩ = some (.string l[k].key) := cell_new _ _ _ 0
      have x1 : (wr.alloc (Obj.cells #[Value.string l[k].key, Value.string l[k].val, Value.bool l[k].gone] 29)).cell? ⟨wr.heap.size, 1, none⟩ = some (.string l[k].val) := cell_new _ _ _ 1
      have x2 : (wr.alloc (Obj.cells #[Value.string l[k].key, Value.string l[k].val, Value.bool l[k].gone] 29)).cell? ⟨wr.heap.size, 2, none⟩ = some (.bool l[k].gone) := cell_new _ _ _ 2
      have hBA := below_on hB (Nat.le_refl _) hbA
      by_cases hf : chgFault l[k] = 0
      · have HC := fun w' => hide (chg_check l[k] w' (by unfold maxLen; omega))
        rw [hf] at HC
        by_cases h0 : k = 0
        · have HS : Hid (stepFault l k = 0) := by
            subst h0; exact step_zero hlt hf
          have hd : decide ((0 : Int) < (k : Int)) = false := by simp; omega
          have hd2 : decide (0 < k) = false := by simp; omega
          have H0 := hide h0
          clear h0
          go_wp2_with (go_at_call 100; refine ((HC _).out).mono ?_; rintro e w1 ⟨rfl, hb⟩; replace hBA := below_on hBA (Nat.le_refl _) hb; replace x0 := cell_on hb x0; simp only [errV])
          go_quiet (fail)
          go_wp2
          go_roundw
          case rel => exact ⟨k + 1, by omega, by go_num, fun i hi => by
            rcases Nat.lt_or_ge i k with h | h
            · exact HZ.out i h
            · have e : i = k := by omega
              rw [e]; exact HS.out, hBA.trans ((below_draws _ _ _).mono hBA.size)⟩
          case measure => simp [intOf]; omega
        · obtain ⟨j, hj⟩ : ∃ j, k = j + 1 := ⟨k - 1, by omega⟩
          have hjl : j < l.length := by omega
          have HS : Hid (stepFault l k = if leS l[k].key l[j].key then 3 else 0) := by
            subst hj; exact step_succ hlt hf
          obtain ⟨p0w, _, _⟩ := hl j hjl
          have hd : (0 : Int) < (k : Int) := by omega
          have k1 : (k : Int) - 1 = (j : Int) := by omega
          have k2 : (j : Int) < (l.length : Int) := by omega
          have k3 : IntKind.i64.wrap ((k : Int) - 1) = (j : Int) := by rw [k1, IntKind.wrap_i64]; omega
          have k4 : (0 : Int) ≤ (j : Int) := Int.natCast_nonneg _
          have hd2 : decide (0 < k) = true := by simp; omega
          have hd3 : decide ((0 : Int) < (k : Int)) = true := by simp; omega
          have HJ := hide hj
          clear hj h0
          cases hle : leS l[k].key l[j].key with
          | true =>
            have HL : Hid (stepFault l k = 3) := by unfold Hid; rw [HS.out, hle]; rfl
            have hle' : (Op.bytesLess l[k].key.toList l[j].key.toList || l[k].key.toList == l[j].key.toList) = true := hle
            clear hle
            go_wp2_with (go_at_call 100; refine ((HC _).out).mono ?_; rintro e w1 ⟨rfl, hb⟩; replace hBA := below_on hBA (Nat.le_refl _) hb; replace x0 := cell_on hb x0; have p0 := cell_on hBA p0w; simp only [errV])
            go_quiet (fail)
            go_wp2
            go_ret
            exact ⟨by rw [deed_first hlt HZ.out (by rw [HL.out]; omega), HL.out]; rfl, hBA.trans ((below_draws _ _ _).mono hBA.size)⟩
          | false =>
            have HL : Hid (stepFault l k = 0) := by unfold Hid; rw [HS.out, hle]; rfl
            have hle' : (Op.bytesLess l[k].key.toList l[j].key.toList || l[k].key.toList == l[j].key.toList) = false := hle
            clear hle
            go_wp2_with (go_at_call 100; refine ((HC _).out).mono ?_; rintro e w1 ⟨rfl, hb⟩; replace hBA := below_on hBA (Nat.le_refl _) hb; replace x0 := cell_on hb x0; have p0 := cell_on hBA p0w; simp only [errV])
            go_quiet (fail)
            go_wp2
            go_roundw
            case rel => exact ⟨k + 1, by omega, by go_num, fun i hi => by
              rcases Nat.lt_or_ge i k with h | h
              · exact HZ.out i h
              · have e : i = k := by omega
                rw [e]; exact HL.out, hBA.trans ((below_draws _ _ _).mono hBA.size)⟩
            case measure => simp [intOf]; omega
      · have HC := fun w' => hide (chg_check l[k] w' (by unfold maxLen; omega))
        have HD := hide (deed_first hlt HZ.out (by rw [step_chg hlt hf]; exact hf))
        have HS := hide (step_chg hlt hf)
        generalize hfe : chgFault l[k] = f at HC HS hf
        have HF := hide hf
        clear hfe hf
        go_wp2_with (go_at_call 100; refine ((HC _).out).mono ?_; rintro e w1 ⟨rfl, hb⟩; replace hBA := below_on hBA (Nat.le_refl _) hb; rw [errV, if_neg HF.out])
        go_ret
        exact ⟨by rw [HD.out, HS.out, errV, if_neg HF.out]; rfl, hBA⟩
    · go_wp2
      go_ret
      exact ⟨by rw [deed_none fun i hi => HZ.out i (by omega)]; rfl, hB⟩
end Go.Proofs.Ytjphbmdmnicjpac
