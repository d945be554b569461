/-
  What span.Both, lesserEnd, Point and All return, for every span and key, in whatever memory; nothing that was there is changed.
-/
import Derived.Test.YtpbhcjkllfonhaaGreatRows
import Derived.Test.YtpbhcjkllfonhaaGreatStr
import Derived.Deep.QuietTactic
import Derived.BigQuiet
import Derived.Deep.RegionHeld3
import Derived.Deep.DrawnRows
namespace Go.Proofs.YtpbhcjkllfonhaaGreat
open Go.RowKit Go.Joins
attribute [local go_sem ↓] Go.wp_at_zero Go.wp_at_succ

set_option maxHeartbeats 400000 in
theorem end_any (a b : ByteArray) (w : World) :
    Calls Tryz.prog 55 #[.string a, .string b] w fun e w' => e = .returned (.string (endS a b)) ∧ w' = w := by
  have hm := fun (w : World) (ts : Array TypeId) (t : TypeId) => Lib.run_min_strs (P := Tryz.prog) w ts t a b
  go_enter Tryz.func55, Tryz.ntmps55
  go_wp2
  all_goals
    go_ret
    refine ⟨?_, rfl⟩
    simp_all [endS, nilS]

set_option maxHeartbeats 400000 in
theorem point_any (k : ByteArray) (w : World) (hk : k.size ≤ 1000) :
    Calls Tryz.prog 43 #[.string k] w fun e w' => e = .returned (.agg #[.string k, .string (zeroS k)]) ∧ Below w.heap.size w w' := by
  go_enter Tryz.func43, Tryz.ntmps43
  go_wp2
  exact bodyPost_ret (v := .agg #[.string k, .string (k ++ ⟨#[0]⟩)]) (by simp [results, Tryz.results43, go_sem]) rfl ⟨rfl, below_alloc1 _ _⟩

set_option maxHeartbeats 1000000 in
theorem both_any (af a_t bf bt : ByteArray) (w : World) :
    Calls Tryz.prog 33 #[.agg #[.string af, .string a_t], .agg #[.string bf, .string bt]] w fun e w' => e = .returned (.agg #[.string (Lib.maxS af bf), .string (endS a_t bt)]) ∧ Below w.heap.size w w' := by
  have hm := fun (w : World) (ts : Array TypeId) (t : TypeId) => Lib.run_max_strs (P := Tryz.prog) w ts t af bf
  go_enter Tryz.func33, Tryz.ntmps33
  go_wp2
  go_region_held3 (fun w' => w'.cell? ⟨w.heap.size, 0, none⟩ = some (.string af) ∧ w'.cell? ⟨w.heap.size, 1, none⟩ = some (.string a_t) ∧ w'.cell? ⟨w.heap.size + 1, 0, none⟩ = some (.string bf) ∧ w'.cell? ⟨w.heap.size + 1, 1, none⟩ = some (.string bt)) (go_keep) (first | (go_at_call 55; refine (end_any _ _ _).mono ?_; rintro e w' ⟨rfl, rfl⟩))
  all_goals
    go_wp2
    exact bodyPost_ret (v := .agg #[.string (Lib.maxS af bf), .string (endS a_t bt)]) (by simp [results, Tryz.results33, go_sem]) rfl ⟨rfl, (below_alloc3 _ _ _ _).drew⟩
end Go.Proofs.YtpbhcjkllfonhaaGreat
