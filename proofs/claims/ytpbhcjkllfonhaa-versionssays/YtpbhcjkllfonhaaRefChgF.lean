/-
  What haywainref.ChangeFault returns: the same as package change's Check; it makes new memory alone.
-/
import Derived.Test.YtpbhcjkllfonhaaRefKeyW
import Derived.Test.YtpbhcjkllfonhaaRowCheck
import Derived.Test.YtpbhcjkllfonhaaVerCommit
namespace Go.Proofs.Ytpbhcjkllfonhaa
open Go.RowKit Go.Joins

theorem fault_of (c : Chg) : chgFault c = if faultK c.key.data.toList = 0 then (if c.gone && !c.val.toList.isEmpty then 3 else if 40 < c.val.size then 1 else 0) else 3 := by
  unfold chgFault faultK
  cases keyL c.key.data.toList <;> simp
set_option maxHeartbeats 2000000 in
theorem rfault_any (c : Chg) (w : World) (hk : c.key.size ≤ 1000) :
    Calls Try.prog 24 #[.agg #[.string c.key, .string c.val, .bool c.gone]] w fun e w' => e = .returned (.int .i64 (chgFault c)) ∧ Below w.heap.size w w' := by
  have HK := fun w' => hide (keyFault_any c.key w' hk)
  rw [fault_of]
  have h03 : faultK c.key.data.toList = 0 ∨ faultK c.key.data.toList = 3 := by unfold faultK; split <;> simp
  generalize faultK c.key.data.toList = f at *
  have hB := below_alloc1 w (Obj.cells #[Value.string c.key, Value.string c.val, Value.bool c.gone] 56)
  have a1 : (w.alloc (Obj.cells #[Value.string c.key, Value.string c.val, Value.bool c.gone] 56)).cell? ⟨w.heap.size, 1, none⟩ = some (.string c.val) := by simp
  have a2 : (w.alloc (Obj.cells #[Value.string c.key, Value.string c.val, Value.bool c.gone] 56)).cell? ⟨w.heap.size, 2, none⟩ = some (.bool c.gone) := by simp
  rcases h03 with rfl | rfl
  · generalize c.gone = g at *
    cases g
    all_goals
      by_cases h40 : 40 < c.val.size
      · have j40 : (40 : Int) < (c.val.size : Int) := by omega
        go_enter Try.func24, Try.ntmps24
        go_wp2_with (go_at_call 22; refine ((HK _).out).mono ?_; rintro e w1 ⟨rfl, rfl⟩)
        all_goals
          go_ret
          exact ⟨by simp_all, hB⟩
      · have j40 : ¬ (40 : Int) < (c.val.size : Int) := by omega
        go_enter Try.func24, Try.ntmps24
        go_wp2_with (go_at_call 22; refine ((HK _).out).mono ?_; rintro e w1 ⟨rfl, rfl⟩)
        all_goals
          go_ret
          exact ⟨by simp_all, hB⟩
  · go_enter Try.func24, Try.ntmps24
    go_wp2_with (go_at_call 22; refine ((HK _).out).mono ?_; rintro e w1 ⟨rfl, rfl⟩)
    go_ret
    exact ⟨rfl, hB⟩
end Go.Proofs.Ytpbhcjkllfonhaa

/-
  What haywainref.DeedFault returns of changes: the fault of the first one that has one (the same as versions.check's).
-/
namespace Go.Proofs.Ytpbhcjkllfonhaa
open Go.RowKit Go.Joins

set_option maxHeartbeats 2000000 in
theorem rdeed_some (l : List Chg) (b off cap : Nat) (w : World) (hl : chgsAt w b off l) (hn : l.length ≤ 1000) (hk : ∀ c ∈ l, c.key.size ≤ 1000) :
    Calls Try.prog 9 #[.slice (some ⟨b, off, none⟩) l.length cap] w fun e w' => e = .returned (.int .i64 (deedFault l)) ∧ Below w.heap.size w w' := by
  go_enter Try.func9, Try.ntmps9
  go_wp2
  go_loopw [3] (fun i wr => ∃ k : Nat, k ≤ l.length ∧ i = .int .i64 k ∧ (∀ i, i < k → stepFault l i = 0) ∧ Below w.heap.size w wr) (fun i _ => l.length - (intOf i).toNat)
  case atStart => exact ⟨0, Nat.zero_le _, rfl, by simp, Below.refl _ _⟩
  case round =>
    obtain ⟨k, hkl, rfl, hz, hB⟩ := hrel
    have HZ := hide hz
    clear hz
    by_cases hlt : k < l.length
    · obtain ⟨c0, c1, c2⟩ := chgsAt_on hB hl k hlt
      have hlt' : (k : Int) < (l.length : Int) := by omega
      have hks := hk _ (List.getElem_mem hlt)
      have HC := fun w' => hide (rfault_any l[k] w' hks)
      by_cases hf : chgFault l[k] = 0
      · rw [hf] at HC
        by_cases h0 : k = 0
        · have HS : Hid (stepFault l k = 0) := by
            subst h0; exact step_zero hlt hf
          have hd : decide ((0 : Int) < (k : Int)) = false := by simp; omega
          have hd2 : decide (0 < k) = false := by simp; omega
          have H0 := hide h0
          clear h0
          go_wp2_with (go_at_call 24; refine ((HC _).out).mono ?_; rintro e w1 ⟨rfl, hb⟩; replace hB := below_on hB (Nat.le_refl _) hb; replace c0 := cell_on hb c0)
          go_quiet (fail)
          go_wp2
          go_roundw
          case rel => exact ⟨k + 1, by omega, by go_num, fun i hi => by
            rcases Nat.lt_or_ge i k with h | h
            · exact HZ.out i h
            · have e : i = k := by omega
              rw [e]; exact HS.out, hB.trans ((below_draws _ _ _).mono hB.size)⟩
          case measure => simp [intOf]; omega
        · obtain ⟨j, hj⟩ : ∃ j, k = j + 1 := ⟨k - 1, by omega⟩
          have hjl : j < l.length := by omega
          have HS : Hid (stepFault l k = if leS l[k].key l[j].key then 3 else 0) := by
            subst hj; exact step_succ hlt hf
          obtain ⟨p0w, _, _⟩ := hl j hjl
          have hd : (0 : Int) < (k : Int) := by omega
          have k1 : (k : Int) - 1 = (j : Int) := by omega
          have k2 : (j : Int) < (l.length : Int) := by omega
          have k3 : IntKind.i64.wrap ((k : Int) - 1) = (j : Int) := by rw [k1, IntKind.wrap_i64]; omega
          have k4 : (0 : Int) ≤ (j : Int) := Int.natCast_nonneg _
          have hd2 : decide (0 < k) = true := by simp; omega
          have hd3 : decide ((0 : Int) < (k : Int)) = true := by simp; omega
          have HJ := hide hj
          clear hj h0
          cases hle : leS l[k].key l[j].key with
          | true =>
            have HL : Hid (deedFault l = 3) := by
              have e : stepFault l k = 3 := by rw [HS.out, hle]; rfl
              unfold Hid; rw [deed_first hlt HZ.out (by rw [e]; omega), e]
            have hle' : (Op.bytesLess l[k].key.toList l[j].key.toList || l[k].key.toList == l[j].key.toList) = true := hle
            clear hle
            go_wp2_with (go_at_call 24; refine ((HC _).out).mono ?_; rintro e w1 ⟨rfl, hb⟩; replace hB := below_on hB (Nat.le_refl _) hb; replace c0 := cell_on hb c0; have p0 := cell_on hB p0w)
            go_quiet (fail)
            go_wp2
            go_ret
            exact ⟨by rw [HL.out]; rfl, hB.trans ((below_draws _ _ _).mono hB.size)⟩
          | false =>
            have HL : Hid (stepFault l k = 0) := by unfold Hid; rw [HS.out, hle]; rfl
            have hle' : (Op.bytesLess l[k].key.toList l[j].key.toList || l[k].key.toList == l[j].key.toList) = false := hle
            clear hle
            go_wp2_with (go_at_call 24; refine ((HC _).out).mono ?_; rintro e w1 ⟨rfl, hb⟩; replace hB := below_on hB (Nat.le_refl _) hb; replace c0 := cell_on hb c0; have p0 := cell_on hB p0w)
            go_quiet (fail)
            go_wp2
            go_roundw
            case rel => exact ⟨k + 1, by omega, by go_num, fun i hi => by
              rcases Nat.lt_or_ge i k with h | h
              · exact HZ.out i h
              · have e : i = k := by omega
                rw [e]; exact HL.out, hB.trans ((below_draws _ _ _).mono hB.size)⟩
            case measure => simp [intOf]; omega
      · have HL : Hid (deedFault l = chgFault l[k]) := by
          unfold Hid; rw [deed_first hlt HZ.out (by rw [step_chg hlt hf]; exact hf), step_chg hlt hf]
        have hp : 0 < chgFault l[k] := by omega
        have hp' : (0 : Int) < (chgFault l[k] : Int) := by omega
        generalize chgFault l[k] = f at *
        go_wp2_with (go_at_call 24; refine ((HC _).out).mono ?_; rintro e w1 ⟨rfl, hb⟩; replace hB := below_on hB (Nat.le_refl _) hb)
        go_ret
        exact ⟨by rw [HL.out]; rfl, hB⟩
    · have ek : k = l.length := by omega
      subst ek
      have hlt' : ¬ (l.length : Int) < (l.length : Int) := by omega
      have HL : Hid (deedFault l = 0) := deed_none HZ.out
      go_wp2
      go_ret
      exact ⟨by rw [HL.out]; rfl, hB⟩
set_option maxHeartbeats 1000000 in
theorem rdeed_any (l : List Chg) (ao : Option Addr) (cap : Nat) (w : World) (hl : heldCh w ao l) (hn : l.length ≤ 1000) (hk : ∀ c ∈ l, c.key.size ≤ 1000) :
    Calls Try.prog 9 #[.slice ao l.length cap] w fun e w' => e = .returned (.int .i64 (deedFault l)) ∧ Below w.heap.size w w' := by
  rcases hl with rfl | ⟨b, off, rfl, h⟩
  · go_enter Try.func9, Try.ntmps9
    go_wp2
    go_loopw [3] (fun i wr => i = .int .i64 0 ∧ wr = w) (fun _ _ => 0)
    case atStart => exact ⟨rfl, rfl⟩
    case round =>
      obtain ⟨rfl, rfl⟩ := hrel
      go_wp2
      go_ret
      exact ⟨rfl, Below.refl _ _⟩
  · exact rdeed_some l b off cap w h hn hk
end Go.Proofs.Ytpbhcjkllfonhaa
