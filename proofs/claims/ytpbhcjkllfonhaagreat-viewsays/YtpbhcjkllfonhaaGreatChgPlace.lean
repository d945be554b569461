/-
  What change.place returns of changes that lie in memory; it changes nothing but the count of draws.
-/
import Derived.Test.YtpbhcjkllfonhaaGreatSpOn
namespace Go.Proofs.YtpbhcjkllfonhaaGreat
open Go.RowKit Go.Joins

set_option maxHeartbeats 1000000 in
theorem place_some (l : List Chg) (b off cap : Nat) (key : ByteArray) (w : World) (hl : chgsAt w b off l) (hn : l.length ≤ 9223372036854775806) :
    Calls Tryz.prog 60 #[.slice (some ⟨b, off, none⟩) l.length cap, .string key] w fun e w' => e = .returned (.tuple #[.int .i64 (placeL l key), .bool (foundL l key)]) ∧ Below w.heap.size w w' := by
  go_enter Tryz.func60, Tryz.ntmps60
  go_wp2
  go_loop [4] (fun i => ∃ k : Nat, k ≤ l.length ∧ i = .int .i64 k ∧ k ≤ placeL l key) (fun i => l.length - (intOf i).toNat)
  case atStart => exact ⟨0, Nat.zero_le _, rfl, Nat.zero_le _⟩
  case round =>
    obtain ⟨k, hk, rfl, hp⟩ := hrel
    by_cases hlt : k < l.length
    · obtain ⟨c0, _, _⟩ := hl k hlt
      have hlt' : (k : Int) < (l.length : Int) := by omega
      cases hc : ltS l[k].key key with
      | true =>
        have hc' : Op.bytesLess l[k].key.toList key.toList = true := hc
        have HP := hide (placeL_take hp hlt hc)
        clear hc
        go_wp2
        go_round
        case rel => exact ⟨k + 1, by omega, by go_num, HP.out⟩
        case measure => simp [intOf]; omega
      | false =>
        have hc' : Op.bytesLess l[k].key.toList key.toList = false := hc
        have HE := hide (placeL_eq hp (fun _ => hc))
        have HF := hide (show foundL l key = (l[k].key.toList == key.toList) by rw [foundL, HE.out, List.getElem?_eq_getElem hlt]; rfl)
        clear hc
        go_wp2
        go_quiet (fail)
        go_wp2
        go_ret2
        exact ⟨by rw [HE.out, HF.out]; rfl, below_draws _ _ _⟩
    · have HE := hide (placeL_eq hp (fun h => absurd h hlt))
      have HF := hide (show foundL l key = false by rw [foundL, HE.out, List.getElem?_eq_none (by omega)])
      have hd : decide ((k : Int) < (l.length : Int)) = false := by simp; omega
      go_wp2
      go_quiet (fail)
      go_wp2
      go_ret2
      exact ⟨by rw [HE.out, HF.out]; rfl, below_draws _ _ _⟩
set_option maxHeartbeats 1000000 in
theorem place_nil (ao : Option Addr) (cap : Nat) (key : ByteArray) (w : World) :
    Calls Tryz.prog 60 #[.slice ao 0 cap, .string key] w fun e w' => e = .returned (.tuple #[.int .i64 0, .bool false]) ∧ Below w.heap.size w w' := by
  go_enter Tryz.func60, Tryz.ntmps60
  go_wp2
  refine wp_loop_rounds 1 ?_
  rw [rounds_succ]
  go_wp2
  go_quiet (fail)
  go_wp2
  go_ret2
  exact ⟨rfl, below_draws _ _ _⟩
end Go.Proofs.YtpbhcjkllfonhaaGreat
