/-
  What haywainref.PutChange returns of an empty list.
-/
import Derived.Test.YtpbhcjkllfonhaaGreatDoorViewScan
import Derived.Test.YtpbhcjkllfonhaaGreatDoorRefRow
import Derived.Test.YtpbhcjkllfonhaaGreatDoorChgCheck
import Derived.Test.YtpbhcjkllfonhaaGreatDoorChgMem
namespace Go.Proofs.YtpbhcjkllfonhaaGreatDoor
open Go.RowKit Go.Joins

set_option maxHeartbeats 1000000 in
theorem rput_bare (ao : Option Addr) (cap : Nat) (c : Chg) (w : World) :
    Calls Tryz.prog 78 #[.slice ao 0 cap, .agg #[.string c.key, .string c.val, .bool c.gone]] w fun e w' => ∃ v, e = .returned v ∧ ownCh w' w.heap.size v [c] ∧ Below w.heap.size w w' := by
  obtain ⟨i0, hi0, hz0, hs0, hb0⟩ := chg_info
  have hB := below_alloc1 w (Obj.cells #[Value.string c.key, Value.string c.val, Value.bool c.gone] 95)
  have hown : ownCh (w.alloc (Obj.cells #[Value.string c.key, Value.string c.val, Value.bool c.gone] 95)) w.heap.size (.slice none 0 0) [] := World.ownsRow_nil _ _ _ _
  have a0 : (w.alloc (Obj.cells #[Value.string c.key, Value.string c.val, Value.bool c.gone] 95)).cell? ⟨w.heap.size, 0, none⟩ = some (.string c.key) := by simp
  have a1 : (w.alloc (Obj.cells #[Value.string c.key, Value.string c.val, Value.bool c.gone] 95)).cell? ⟨w.heap.size, 1, none⟩ = some (.string c.val) := by simp
  have a2 : (w.alloc (Obj.cells #[Value.string c.key, Value.string c.val, Value.bool c.gone] 95)).cell? ⟨w.heap.size, 2, none⟩ = some (.bool c.gone) := by simp
  go_enter Tryz.func78, Tryz.ntmps78
  go_wp2
  generalize (w.alloc (Obj.cells #[Value.string c.key, Value.string c.val, Value.bool c.gone] 95)) = W0 at *
  refine wp_loop_rounds 1 ?_
  rw [rounds_succ]
  go_wp2_with (at_builtin; refine wp_append1 rfl _ _ 32 rfl w.heap.size 95 i0 _ 3 40 Tryz.underlying32 hi0 hz0 hs0 hb0 rfl (by omega) _ (cellsC c) rfl (cellsC_one _) _ 0 (cellsL []) hown rfl rfl (by omega) (by omega) hB.size ?_; intro v1 w1 ho1 hb1; replace hB := hb1 w hB; replace hown : ownCh w1 w.heap.size v1 [c] := own_snoc (l := []) ho1; clear ho1 hb1)
  go_ret
  exact ⟨_, rfl, hown, hB⟩
end Go.Proofs.YtpbhcjkllfonhaaGreatDoor

/-
  What haywainref.ChangeFault returns: the same as package change's Check; it makes new memory alone.
-/
namespace Go.Proofs.YtpbhcjkllfonhaaGreatDoor
open Go.RowKit Go.Joins

theorem fault_of (c : Chg) : chgFault c = if faultK c.key.data.toList = 0 then (if c.gone && !c.val.toList.isEmpty then 3 else if 40 < c.val.size then 1 else 0) else 3 := by
  unfold chgFault faultK
  cases keyL c.key.data.toList <;> simp
set_option maxHeartbeats 2000000 in
theorem rfault_any (c : Chg) (w : World) (hk : c.key.size ≤ 1000) :
    Calls Tryz.prog 77 #[.agg #[.string c.key, .string c.val, .bool c.gone]] w fun e w' => e = .returned (.int .i64 (chgFault c)) ∧ Below w.heap.size w w' := by
  have HK := fun w' => hide (keyFault_any c.key w' hk)
  rw [fault_of]
  have h03 : faultK c.key.data.toList = 0 ∨ faultK c.key.data.toList = 3 := by unfold faultK; split <;> simp
  generalize faultK c.key.data.toList = f at *
  have hB := below_alloc1 w (Obj.cells #[Value.string c.key, Value.string c.val, Value.bool c.gone] 95)
  have a1 : (w.alloc (Obj.cells #[Value.string c.key, Value.string c.val, Value.bool c.gone] 95)).cell? ⟨w.heap.size, 1, none⟩ = some (.string c.val) := by simp
  have a2 : (w.alloc (Obj.cells #[Value.string c.key, Value.string c.val, Value.bool c.gone] 95)).cell? ⟨w.heap.size, 2, none⟩ = some (.bool c.gone) := by simp
  rcases h03 with rfl | rfl
  · generalize c.gone = g at *
    cases g
    all_goals
      by_cases h40 : 40 < c.val.size
      · have j40 : (40 : Int) < (c.val.size : Int) := by omega
        go_enter Tryz.func77, Tryz.ntmps77
        go_wp2_with (go_at_call 26; refine ((HK _).out).mono ?_; rintro e w1 ⟨rfl, rfl⟩)
        all_goals
          go_ret
          exact ⟨by simp_all, hB⟩
      · have j40 : ¬ (40 : Int) < (c.val.size : Int) := by omega
        go_enter Tryz.func77, Tryz.ntmps77
        go_wp2_with (go_at_call 26; refine ((HK _).out).mono ?_; rintro e w1 ⟨rfl, rfl⟩)
        all_goals
          go_ret
          exact ⟨by simp_all, hB⟩
  · go_enter Tryz.func77, Tryz.ntmps77
    go_wp2_with (go_at_call 26; refine ((HK _).out).mono ?_; rintro e w1 ⟨rfl, rfl⟩)
    go_ret
    exact ⟨rfl, hB⟩
end Go.Proofs.YtpbhcjkllfonhaaGreatDoor

/-
  What haywainlaw.LightChanges returns of changes that lie in memory. It changes nothing.
-/
namespace Go.Proofs.YtpbhcjkllfonhaaGreatDoor
open Go.RowKit Go.Joins

def lightChg (c : Chg) : Bool := decide (c.key.size ≤ 60) && decide (c.val.size ≤ 100)
def lightChgs (l : List Chg) (n : Nat) : Bool := decide (l.length ≤ n) && l.all lightChg
theorem lightc_take {l : List Chg} {k : Nat} (hk : k < l.length) (h : (l.take k).all lightChg = true) (h2 : lightChg l[k] = true) : (l.take (k + 1)).all lightChg = true := by
  rw [List.take_succ_eq_append_getElem hk, List.all_append, h]; simp [h2]
theorem lightc_not {l : List Chg} {k n : Nat} (hk : k < l.length) (h : lightChg l[k] = false) : lightChgs l n = false := by
  unfold lightChgs
  have : l.all lightChg = false := by
    rw [List.all_eq_false]; exact ⟨l[k], List.getElem_mem hk, by simp [h]⟩
  rw [this, Bool.and_false]

set_option maxHeartbeats 1000000 in
theorem lightChgs_some (l : List Chg) (n b off cap : Nat) (w : World) (hl : chgsAt w b off l) (hm : n ≤ 1000) :
    Calls Tryz.prog 24 #[.slice (some ⟨b, off, none⟩) l.length cap, .int .i64 n] w fun e w' => e = .returned (.bool (lightChgs l n)) ∧ w' = w := by
  by_cases h50 : l.length ≤ n
  · have hg : decide ((n : Int) < (l.length : Int)) = false := by simp; omega
    go_enter Tryz.func24, Tryz.ntmps24
    go_wp2
    go_loop [5] (fun i => ∃ k : Nat, k ≤ l.length ∧ i = .int .i64 k ∧ (l.take k).all lightChg = true) (fun i => l.length - (intOf i).toNat)
    case atStart => exact ⟨0, Nat.zero_le _, rfl, by simp⟩
    case round =>
      obtain ⟨k, hk, rfl, hall⟩ := hrel
      have HA : Hid ((l.take k).all lightChg = true) := hall
      clear hall
      by_cases hlt : k < l.length
      · obtain ⟨c0, c1, _⟩ := hl k hlt
        go_wp2
        · go_ret
          exact ⟨ret_bool (lightc_not hlt (by simp only [lightChg, Bool.and_eq_false_iff, decide_eq_false_iff_not]; omega)).symm, rfl⟩
        · go_round
          case rel => refine ⟨k + 1, by omega, by go_num, ?_⟩; exact List.all_eq_true.mp (lightc_take hlt HA.out (by simp only [lightChg, Bool.and_eq_true, decide_eq_true_eq]; omega))
          case measure => simp [intOf]; omega
        · go_ret
          exact ⟨ret_bool (lightc_not hlt (by simp only [lightChg, Bool.and_eq_false_iff, decide_eq_false_iff_not]; omega)).symm, rfl⟩
      · go_wp2
        go_ret
        refine ⟨ret_bool ?_, rfl⟩
        have e : l.take k = l := List.take_of_length_le (by omega)
        have := HA.out
        rw [e] at this
        simp [lightChgs, this, h50]
  · have hg : decide ((n : Int) < (l.length : Int)) = true := by simp; omega
    go_enter Tryz.func24, Tryz.ntmps24
    go_wp2
    go_ret
    exact ⟨ret_bool (by simp [lightChgs, h50]), rfl⟩
theorem lightChgs_nil (ao : Option Addr) (n cap : Nat) (w : World) :
    Calls Tryz.prog 24 #[.slice ao 0 cap, .int .i64 n] w fun e w' => e = .returned (.bool true) ∧ w' = w := by
  have hg : decide ((n : Int) < 0) = false := by simp
  go_enter Tryz.func24, Tryz.ntmps24
  go_wp2
  refine wp_loop_rounds 1 ?_
  rw [rounds_succ]
  go_wp2
  go_ret
  exact ⟨rfl, rfl⟩

end Go.Proofs.YtpbhcjkllfonhaaGreatDoor

/-
  Changes that a slice holds, as they came in; what haywainlaw.LightChanges returns of them.
-/
namespace Go.Proofs.YtpbhcjkllfonhaaGreatDoor
open Go.RowKit Go.Joins

/-- changes that a slice holds, or none -/
def heldCh (w : World) (ao : Option Addr) (l : List Chg) : Prop := l = [] ∨ ∃ b off, ao = some ⟨b, off, none⟩ ∧ chgsAt w b off l
theorem heldCh_on {w w' : World} {ao : Option Addr} {l : List Chg} (hb : Below w.heap.size w w') (h : heldCh w ao l) : heldCh w' ao l := by
  rcases h with h | ⟨b, off, h, k⟩
  · exact .inl h
  · exact .inr ⟨b, off, h, chgsAt_on hb k⟩
theorem light_held (l : List Chg) (n cap : Nat) (ao : Option Addr) (w : World) (hl : heldCh w ao l) (hm : n ≤ 1000) :
    Calls Tryz.prog 24 #[.slice ao l.length cap, .int .i64 n] w fun e w' => e = .returned (.bool (lightChgs l n)) ∧ w' = w := by
  rcases hl with rfl | ⟨b, off, rfl, h⟩
  · exact lightChgs_nil _ _ _ _
  · exact lightChgs_some l n b off cap w h hm
end Go.Proofs.YtpbhcjkllfonhaaGreatDoor
