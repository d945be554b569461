/-
  What haywainlaw.LightChanges returns of changes that lie in memory. It changes nothing.
-/
import Derived.Test.YtkfpfbkdalbjoaaChgMem
namespace Go.Proofs.Ytkfpfbkdalbjoaa
open Go.RowKit Go.Joins

def lightChg (c : Chg) : Bool := decide (c.key.size ≤ 60) && decide (c.val.size ≤ 100)
def lightChgs (l : List Chg) (n : Nat) : Bool := decide (l.length ≤ n) && l.all lightChg
theorem lightc_take {l : List Chg} {k : Nat} (hk : k < l.length) (h : (l.take k).all lightChg = true) (h2 : lightChg l[k] = true) : (l.take (k + 1)).all lightChg = true := by
  rw [List.take_succ_eq_append_getElem hk, List.all_append, h]; simp [h2]
theorem lightc_not {l : List Chg} {k n : Nat} (hk : k < l.length) (h : lightChg l[k] = false) : lightChgs l n = false := by
  unfold lightChgs
  have : l.all lightChg = false := by
    rw [List.all_eq_false]; exact ⟨l[k], List.getElem_mem hk, by simp [h]⟩
  rw [this, Bool.and_false]

set_option maxHeartbeats 1000000 in
theorem lightChgs_some (l : List Chg) (n b off cap : Nat) (w : World) (hl : chgsAt w b off l) (hm : n ≤ 1000) :
    Calls Try.prog 42 #[.slice (some ⟨b, off, none⟩) l.length cap, .int .i64 n] w fun e w' => e = .returned (.bool (lightChgs l n)) ∧ w' = w := by
  by_cases h50 : l.length ≤ n
  · have hg : decide ((n : Int) < (l.length : Int)) = false := by simp; omega
    go_enter Try.func42, Try.ntmps42
    go_wp2
    go_loop [5] (fun i => ∃ k : Nat, k ≤ l.length ∧ i = .int .i64 k ∧ (l.take k).all lightChg = true) (fun i => l.length - (intOf i).toNat)
    case atStart => exact ⟨0, Nat.zero_le _, rfl, by simp⟩
    case round =>
      obtain ⟨k, hk, rfl, hall⟩ := hrel
      have HA : Hid ((l.take k).all lightChg = true) := hall
      clear hall
      by_cases hlt : k < l.length
      · obtain ⟨c0, c1, _⟩ := hl k hlt
        go_wp2
        · go_ret
          exact ⟨ret_bool (lightc_not hlt (by simp only [lightChg, Bool.and_eq_false_iff, decide_eq_false_iff_not]; omega)).symm, rfl⟩
        · go_round
          case rel => refine ⟨k + 1, by omega, by go_num, ?_⟩; exact List.all_eq_true.mp (lightc_take hlt HA.out (by simp only [lightChg, Bool.and_eq_true, decide_eq_true_eq]; omega))
          case measure => simp [intOf]; omega
        · go_ret
          exact ⟨ret_bool (lightc_not hlt (by simp only [lightChg, Bool.and_eq_false_iff, decide_eq_false_iff_not]; omega)).symm, rfl⟩
      · go_wp2
        go_ret
        refine ⟨ret_bool ?_, rfl⟩
        have e : l.take k = l := List.take_of_length_le (by omega)
        have := HA.out
        rw [e] at this
        simp [lightChgs, this, h50]
  · have hg : decide ((n : Int) < (l.length : Int)) = true := by simp; omega
    go_enter Try.func42, Try.ntmps42
    go_wp2
    go_ret
    exact ⟨ret_bool (by simp [lightChgs, h50]), rfl⟩
theorem lightChgs_nil (ao : Option Addr) (n cap : Nat) (w : World) :
    Calls Try.prog 42 #[.slice ao 0 cap, .int .i64 n] w fun e w' => e = .returned (.bool true) ∧ w' = w := by
  have hg : decide ((n : Int) < 0) = false := by simp
  go_enter Try.func42, Try.ntmps42
  go_wp2
  refine wp_loop_rounds 1 ?_
  rw [rounds_succ]
  go_wp2
  go_ret
  exact ⟨rfl, rfl⟩

end Go.Proofs.Ytkfpfbkdalbjoaa
