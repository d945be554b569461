/-
  What haywainlaw.same returns of an error of package api and a number. It changes nothing.
-/
import Derived.Test.YtkfpfbkdalbjoaaBase
import Derived.Test.YtkfpfbkdalbjoaaChgMem
import Derived.Test.YtkfpfbkdalbjoaaErrV
namespace Go.Proofs.Ytkfpfbkdalbjoaa
open Go.RowKit Go.Joins

set_option maxHeartbeats 400000 in
theorem same_nil (f : Int) (w : World) :
    Calls Try.prog 12 #[.nilIface, .int .i64 f] w fun e w' => e = .returned (.bool (f == 0)) ∧ w' = w := by
  go_enter Try.func12, Try.ntmps12
  go_wp2
  go_ret
  exact ⟨rfl, rfl⟩
theorem assert_errno (v : Value) (W : World) : (Instr.typeAssert (.iface 82 v) 27 82 true).run Try.prog W = .ok (.tuple #[v, .bool true]) W := by kernel_rfl
theorem err_not_nil (u : TypeId) (v : Value) (W : World) : (binOp .eql 27 (.iface u v) .nilIface).run Try.prog W = .ok (.bool false) W := by kernel_rfl
theorem err_neq_nil (u : TypeId) (v : Value) (W : World) : (binOp .neq 27 (.iface u v) .nilIface).run Try.prog W = .ok (.bool true) W := by kernel_rfl
theorem nil_neq_nil (W : World) : (binOp .neq 27 .nilIface .nilIface).run Try.prog W = .ok (.bool false) W := by kernel_rfl
set_option maxHeartbeats 400000 in
theorem same_err (n f : Int) (w : World) (hf : 0 < f) :
    Calls Try.prog 12 #[.iface 82 (.int .i64 n), .int .i64 f] w fun e w' => e = .returned (.bool (n == f)) ∧ w' = w := by
  have h1 := assert_errno (.int .i64 n)
  have h2 := err_not_nil 82 (.int .i64 n)
  go_enter Try.func12, Try.ntmps12
  go_wp2
  all_goals
    go_ret
    exact ⟨rfl, rfl⟩
/-- an error of package api by its number, held against that number -/
theorem same_of (n : Nat) (v : Value) (w : World) (hv : v = if n = 0 then .nilIface else .iface 82 (.int .i64 n)) :
    Calls Try.prog 12 #[v, .int .i64 n] w fun e w' => e = .returned (.bool true) ∧ w' = w := by
  by_cases h : n = 0
  · subst h
    rw [if_pos rfl] at hv
    subst hv
    exact same_nil 0 w
  · rw [if_neg h] at hv
    subst hv
    refine (same_err n n w (by omega)).mono fun e w' ⟨he, hw⟩ => ⟨?_, hw⟩
    rw [he]; simp

end Go.Proofs.Ytkfpfbkdalbjoaa

/-
  What haywaintop.lightDeeds returns. It changes nothing that was there.
-/
namespace Go.Proofs.Ytkfpfbkdalbjoaa
open Go.RowKit Go.Joins

def lightDeeds (ds : List Dd) (most : Nat) : Bool := decide (ds.length ≤ most) && ds.all fun d => lightChgs d.chs 14
set_option maxHeartbeats 1000000 in
theorem lightDeeds_some (ds : List Dd) (b off cap most : Nat) (w : World) (hd : deedsAt w b off ds) (hm : most ≤ 1000) :
    Calls Try.prog 32 #[.slice (some ⟨b, off, none⟩) ds.length cap, .int .i64 most] w fun e w' => e = .returned (.bool (lightDeeds ds most)) ∧ w' = w := by
  have HD := hide hd
  clear hd
  by_cases hlm : ds.length ≤ most
  · have hlm' : ¬ ((most : Int) < (ds.length : Int)) := by omega
    go_enter Try.func32, Try.ntmps32
    go_wp2
    go_loopw [5] (fun i wr => ∃ k : Nat, k ≤ ds.length ∧ i = .int .i64 k ∧ wr = w ∧ ∀ j (h : j < ds.length), j < k → lightChgs ds[j].chs 14 = true) (fun i _ => ds.length - (intOf i).toNat)
    case atStart => exact ⟨0, Nat.zero_le _, rfl, rfl, by simp⟩
    case round =>
      obtain ⟨k, hk, rfl, rfl, hz⟩ := hrel
      have HZ := hide hz
      clear hz
      by_cases hlt : k < ds.length
      · have hlt' : (k : Int) < (ds.length : Int) := by omega
        have c0 := (HD.out k hlt).1
        have HH := hide (HD.out k hlt).2
        cases hb : lightChgs ds[k].chs 14 with
        | true =>
          have HB := hide hb
          clear hb
          go_wp2_with (go_at_call 42; refine (light_held ds[k].chs 14 ds[k].cap ds[k].ao _ HH.out (by omega)).mono ?_; rintro e w1 ⟨rfl, rfl⟩; rw [HB.out])
          refine ⟨⟨k + 1, by omega, by go_num, trivial, fun j h1 h2 => ?_⟩, by simp [intOf]; omega⟩
          rcases Nat.lt_or_ge j k with h | h
          · exact HZ.out j h1 h
          · have e : j = k := by omega
            subst e; exact HB.out
        | false =>
          have HB := hide hb
          clear hb
          go_wp2_with (go_at_call 42; refine (light_held ds[k].chs 14 ds[k].cap ds[k].ao _ HH.out (by omega)).mono ?_; rintro e w1 ⟨rfl, rfl⟩; rw [HB.out])
          go_ret
          refine ⟨?_, rfl⟩
          have : lightDeeds ds most = false := by
            unfold lightDeeds
            rw [Bool.and_eq_false_iff]
            right
            rw [List.all_eq_false]
            exact ⟨_, List.getElem_mem hlt, by rw [HB.out]; simp⟩
          rw [this]; rfl
      · have ek : k = ds.length := by omega
        subst ek
        have hlt' : ¬ (ds.length : Int) < (ds.length : Int) := by omega
        go_wp2
        go_ret
        refine ⟨?_, rfl⟩
        have : lightDeeds ds most = true := by
          unfold lightDeeds
          rw [Bool.and_eq_true]
          refine ⟨by simpa using hlm, ?_⟩
          rw [List.all_eq_true]
          intro d hd
          obtain ⟨j, hj, rfl⟩ := List.getElem_of_mem hd
          exact HZ.out j hj hj
        rw [this]; rfl
  · have hlm' : (most : Int) < (ds.length : Int) := by omega
    have e : lightDeeds ds most = false := by unfold lightDeeds; simp [hlm]
    rw [e]
    go_enter Try.func32, Try.ntmps32
    go_wp2
    go_ret
    exact ⟨rfl, rfl⟩
set_option maxHeartbeats 1000000 in
theorem lightDeeds_nil (ao : Option Addr) (cap most : Nat) (w : World) : Calls Try.prog 32 #[.slice ao 0 cap, .int .i64 most] w fun e w' => e = .returned (.bool true) ∧ w' = w := by
  have hlm' : ¬ ((most : Int) < ((0 : Nat) : Int)) := by omega
  have hlm2 : ¬ ((most : Int) < 0) := by omega
  go_enter Try.func32, Try.ntmps32
  go_wp2
  go_loopw [5] (fun i wr => i = .int .i64 0 ∧ wr = w) (fun _ _ => 0)
  case atStart => exact ⟨rfl, rfl⟩
  case round =>
    obtain ⟨rfl, rfl⟩ := hrel
    go_wp2
    go_ret
    exact ⟨rfl, rfl⟩
theorem lightDeeds_any (ds : List Dd) (ao : Option Addr) (cap most : Nat) (w : World) (hd : heldDs w ao ds) (hm : most ≤ 1000) :
    Calls Try.prog 32 #[.slice ao ds.length cap, .int .i64 most] w fun e w' => e = .returned (.bool (lightDeeds ds most)) ∧ w' = w := by
  rcases hd with rfl | ⟨b, off, rfl, h⟩
  · exact lightDeeds_nil ao cap most w
  · exact lightDeeds_some ds b off cap most w h hm
end Go.Proofs.Ytkfpfbkdalbjoaa

/-
  What haywaintop.number returns.
-/
namespace Go.Proofs.Ytkfpfbkdalbjoaa
open Go.RowKit Go.Joins
attribute [local go_sem ↓] Go.wp_at_zero Go.wp_at_succ

theorem nil_eql_nilN (W : World) : (binOp .eql 27 .nilIface .nilIface).run Try.prog W = .ok (.bool true) W := by kernel_rfl
set_option maxRecDepth 8000 in
set_option maxHeartbeats 1000000 in
theorem number_any (f : Nat) (w : World) : Calls Try.prog 33 #[errV f] w fun e w' => e = .returned (.int .i64 f) ∧ w' = w := by
  have n0 := nil_eql_nilN
  have n1 := err_not_nil 82
  by_cases h : f = 0
  · subst h
    rw [errD_nil]
    go_enter Try.func33, Try.ntmps33
    go_wp2
    go_ret
    exact ⟨rfl, rfl⟩
  · have h1 := assert_errno (.int .i64 f)
    rw [errD_pos h]
    go_enter Try.func33, Try.ntmps33
    go_wp2
    go_ret
    exact ⟨rfl, rfl⟩
end Go.Proofs.Ytkfpfbkdalbjoaa
