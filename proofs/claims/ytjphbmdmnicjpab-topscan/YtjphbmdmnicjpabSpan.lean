/-
  What each function of package span returns: contracts of the calls of span.Has, Empty, Both, Meet, lesserEnd, Point, All, for every span and key, in whatever memory; nothing that was there is changed.
-/
import Derived.Test.YtjphbmdmnicjpabRows
import Derived.Test.YtjphbmdmnicjpabStr
import Derived.Test.YtjphbmdmnicjpabBase
import Derived.Test.YtjphbmdmnicjpabSpanHas
import Derived.Deep.QuietTactic
import Derived.BigQuiet
import Derived.Deep.RegionHeld3
import Derived.Deep.DrawnRows
namespace Go.Proofs.Ytjphbmdmnicjpab
open Go.RowKit Go.Joins
attribute [local go_sem ↓] Go.wp_at_zero Go.wp_at_succ

set_option maxHeartbeats 400000 in
theorem empty_any (f t : ByteArray) (w : World) :
    Calls Try.prog 15 #[.agg #[.string f, .string t]] w fun e w' => e = .returned (.bool (emptyS f t)) ∧ Below w.heap.size w w' := by
  go_enter Try.func15, Try.ntmps15
  go_wp2
  all_goals
    go_ret
    refine ⟨?_, below_alloc1 _ _⟩
    simp_all [emptyS, leS, nilS]

set_option maxHeartbeats 400000 in
theorem end_any (a b : ByteArray) (w : World) :
    Calls Try.prog 48 #[.string a, .string b] w fun e w' => e = .returned (.string (endS a b)) ∧ w' = w := by
  have hm := fun (w : World) (ts : Array TypeId) (t : TypeId) => Lib.run_min_strs (P := Try.prog) w ts t a b
  go_enter Try.func48, Try.ntmps48
  go_wp2
  all_goals
    go_ret
    refine ⟨?_, rfl⟩
    simp_all [endS, nilS]

set_option maxHeartbeats 400000 in
theorem point_any (k : ByteArray) (w : World) (hk : k.size ≤ 1000) :
    Calls Try.prog 11 #[.string k] w fun e w' => e = .returned (.agg #[.string k, .string (zeroS k)]) ∧ Below w.heap.size w w' := by
  go_enter Try.func11, Try.ntmps11
  go_wp2
  exact bodyPost_ret (v := .agg #[.string k, .string (k ++ ⟨#[0]⟩)]) (by simp [results, Try.results11, go_sem]) rfl ⟨rfl, below_alloc1 _ _⟩

set_option maxHeartbeats 400000 in
theorem all_any (w : World) :
    Calls Try.prog 10 #[] w fun e w' => e = .returned (.agg #[.string ByteArray.empty, .string ByteArray.empty]) ∧ Below w.heap.size w w' := by
  go_enter Try.func10, Try.ntmps10
  go_wp2
  exact bodyPost_ret (v := .agg #[.string ⟨#[]⟩, .string ⟨#[]⟩]) (by simp [results, Try.results10, go_sem]) rfl ⟨rfl, below_alloc1 _ _⟩

set_option maxHeartbeats 1000000 in
theorem both_any (af a_t bf bt : ByteArray) (w : World) :
    Calls Try.prog 13 #[.agg #[.string af, .string a_t], .agg #[.string bf, .string bt]] w fun e w' => e = .returned (.agg #[.string (Lib.maxS af bf), .string (endS a_t bt)]) ∧ Below w.heap.size w w' := by
  have hm := fun (w : World) (ts : Array TypeId) (t : TypeId) => Lib.run_max_strs (P := Try.prog) w ts t af bf
  go_enter Try.func13, Try.ntmps13
  go_wp2
  go_region_held3 (fun w' => w'.cell? ⟨w.heap.size, 0, none⟩ = some (.string af) ∧ w'.cell? ⟨w.heap.size, 1, none⟩ = some (.string a_t) ∧ w'.cell? ⟨w.heap.size + 1, 0, none⟩ = some (.string bf) ∧ w'.cell? ⟨w.heap.size + 1, 1, none⟩ = some (.string bt)) (go_keep) (first | (go_at_call 48; refine (end_any _ _ _).mono ?_; rintro e w' ⟨rfl, rfl⟩))
  all_goals
    go_wp2
    exact bodyPost_ret (v := .agg #[.string (Lib.maxS af bf), .string (endS a_t bt)]) (by simp [results, Try.results13, go_sem]) rfl ⟨rfl, (below_alloc3 _ _ _ _).drew⟩

set_option maxHeartbeats 1000000 in
theorem meet_any (af a_t bf bt : ByteArray) (w : World) :
    Calls Try.prog 14 #[.agg #[.string af, .string a_t], .agg #[.string bf, .string bt]] w fun e w' => e = .returned (.bool (meetS af a_t bf bt)) ∧ Below w.heap.size w w' := by
  have hB : Below w.heap.size w ((w.alloc (Obj.cells #[Value.string af, Value.string a_t] 23)).alloc (Obj.cells #[Value.string bf, Value.string bt] 23)) := below_alloc2 _ _ _
  have a0 : ((w.alloc (Obj.cells #[Value.string af, Value.string a_t] 23)).alloc (Obj.cells #[Value.string bf, Value.string bt] 23)).cell? ⟨w.heap.size, 0, none⟩ = some (.string af) := by simp
  have a1 : ((w.alloc (Obj.cells #[Value.string af, Value.string a_t] 23)).alloc (Obj.cells #[Value.string bf, Value.string bt] 23)).cell? ⟨w.heap.size, 1, none⟩ = some (.string a_t) := by simp
  have b0 : ((w.alloc (Obj.cells #[Value.string af, Value.string a_t] 23)).alloc (Obj.cells #[Value.string bf, Value.string bt] 23)).cell? ⟨w.heap.size + 1, 0, none⟩ = some (.string bf) := by simp
  have b1 : ((w.alloc (Obj.cells #[Value.string af, Value.string a_t] 23)).alloc (Obj.cells #[Value.string bf, Value.string bt] 23)).cell? ⟨w.heap.size + 1, 1, none⟩ = some (.string bt) := by simp
  go_enter Try.func14, Try.ntmps14
  go_wp2_with (first
    | (go_at_call 15; refine (empty_any _ _ _).mono ?_; rintro e w1 ⟨rfl, hb⟩; replace hB := below_on hB (Nat.le_refl _) hb; replace a0 := cell_on hb a0; replace a1 := cell_on hb a1; replace b0 := cell_on hb b0; replace b1 := cell_on hb b1; clear hb)
    | (go_at_call 13; refine (both_any _ _ _ _ _).mono ?_; rintro e w1 ⟨rfl, hb⟩; replace hB := below_on hB (Nat.le_refl _) hb; replace a0 := cell_on hb a0; replace a1 := cell_on hb a1; replace b0 := cell_on hb b0; replace b1 := cell_on hb b1; clear hb))
  all_goals
    go_ret
    refine ⟨?_, hB⟩
    simp_all [meetS]
end Go.Proofs.Ytjphbmdmnicjpab
