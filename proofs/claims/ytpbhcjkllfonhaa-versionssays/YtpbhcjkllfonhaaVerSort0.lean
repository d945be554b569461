/-
  What slices.SortFunc makes of no rows: nothing.
-/
import Derived.Test.YtpbhcjkllfonhaaVerSort
namespace Go.Proofs.Ytpbhcjkllfonhaa
open Go.RowKit Go.Joins

set_option maxHeartbeats 1000000 in
theorem ins_nil (f : Value) (W : World) : Calls Try.prog 45 #[.slice none 0 0, .int .i64 0, .int .i64 0, f] W fun e W' => e = .returned (.tuple #[]) ∧ Below W.heap.size W W' := by
  go_enter Try.func45, Try.ntmps45
  go_wp2
  go_loopw [8] (fun i wr => i = .int .i64 1 ∧ wr = W) (fun _ _ => 0)
  case atStart => exact ⟨rfl, rfl⟩
  case round =>
    obtain ⟨rfl, rfl⟩ := hrel
    go_wp2
    go_end0
    exact ⟨rfl, Below.refl _ _⟩
set_option maxHeartbeats 1000000 in
theorem pdq_nil (f : Value) (l : Int) (W : World) : Calls Try.prog 40 #[.slice none 0 0, .int .i64 0, .int .i64 0, .int .i64 l, f] W fun e W' => e = .returned (.tuple #[]) ∧ Below W.heap.size W W' := by
  go_enter Try.func40, Try.ntmps40
  go_wp2
  go_loopw [1, 2] (fun a b wr => a = .int .i64 0 ∧ b = .int .i64 0 ∧ wr = W) (fun _ _ _ => 0)
  case atStart => exact ⟨rfl, rfl, rfl⟩
  case round =>
    obtain ⟨rfl, rfl, rfl⟩ := hrel
    go_wp2_with (go_at_call 45; refine (ins_nil f _).mono ?_; rintro e w1 ⟨rfl, hb⟩)
    (try simp only [Exit.inBlock, Exit.then])
    refine bodyPost_ret (results_none rfl _ _ _) rfl ?_
    exact ⟨rfl, hb⟩
set_option maxHeartbeats 1000000 in
theorem sort_nil : SortNil := by
  intro W
  go_enter Try.func30, Try.ntmps30
  go_wp2_with (first
    | (go_at_call 41; refine (Try.bits_Len 0 W (by omega) (by omega)).mono ?_; rintro e w1 ⟨rfl, rfl⟩)
    | (go_at_call 40; refine (pdq_nil _ _ _).mono ?_; rintro e w2 ⟨rfl, hb⟩))
  go_end0
  exact ⟨rfl, hb⟩
end Go.Proofs.Ytpbhcjkllfonhaa
