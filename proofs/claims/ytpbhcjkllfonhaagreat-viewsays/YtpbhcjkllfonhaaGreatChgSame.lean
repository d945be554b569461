/-
  What haywainref.SameChanges returns of the same changes at two places. It changes nothing.
-/
import Derived.Test.YtpbhcjkllfonhaaGreatSpOn
namespace Go.Proofs.YtpbhcjkllfonhaaGreat
open Go.RowKit Go.Joins

set_option maxHeartbeats 1000000 in
theorem sameChgs (l : List Chg) (b off cap b2 off2 cap2 : Nat) (w : World) (hl : chgsAt w b off l) (hl2 : chgsAt w b2 off2 l) (hn : l.length ≤ 1000) :
    Calls Tryz.prog 46 #[.slice (some ⟨b, off, none⟩) l.length cap, .slice (some ⟨b2, off2, none⟩) l.length cap2] w fun e w' => e = .returned (.bool true) ∧ Below w.heap.size w w' := by
  go_enter Tryz.func46, Tryz.ntmps46
  go_wp2
  go_loopw [5] (fun i wr => ∃ k : Nat, k ≤ l.length ∧ i = .int .i64 k ∧ Below w.heap.size w wr) (fun i _ => l.length - (intOf i).toNat)
  case atStart => exact ⟨0, Nat.zero_le _, rfl, Below.refl _ _⟩
  case round =>
    obtain ⟨k, hk, rfl, hB⟩ := hrel
    by_cases hlt : k < l.length
    · obtain ⟨c0, c1, c2⟩ := chgsAt_on hB hl k hlt
      obtain ⟨d0, d1, d2⟩ := chgsAt_on hB hl2 k hlt
      go_wp2
      go_quiet (fail)
      go_wp2
      go_roundw
      case rel => exact ⟨k + 1, by omega, by go_num, hB.trans (below_draws _ _ _)⟩
      case measure => simp [intOf]; omega
    · go_wp2
      go_ret
      exact ⟨rfl, hB⟩
end Go.Proofs.YtpbhcjkllfonhaaGreat
