/-
  What package row's QueueText and MessageText return, where the library's table of powers of ten holds what its text lays; nothing that was there is changed.
-/
import Derived.Test.YtlndiohdjdgaoaaDoorRowKeys
import Derived.Test.YtlndiohdjdgaoaaDoorRowName
namespace Go.Proofs.YtlndiohdjdgaoaaDoor
open Go.RowKit Go.Joins

set_option maxHeartbeats 400000 in
theorem within_yes (n lo hi : Int) (w : World) (h1 : lo ≤ n) (h2 : n ≤ hi) :
    Calls Tryd.prog 37 #[.int .i64 n, .int .i64 lo, .int .i64 hi] w fun e w' => e = .returned (.bool true) ∧ w' = w := by
  go_enter Tryd.func37, Tryd.ntmps37
  go_wp2
  go_ret
  exact ⟨rfl, rfl⟩
set_option maxHeartbeats 400000 in
theorem within_no (n lo hi : Int) (w : World) (h : n < lo ∨ hi < n) :
    Calls Tryd.prog 37 #[.int .i64 n, .int .i64 lo, .int .i64 hi] w fun e w' => e = .returned (.bool false) ∧ w' = w := by
  by_cases h1 : n < lo
  · go_enter Tryd.func37, Tryd.ntmps37
    go_wp2
    go_ret
    exact ⟨rfl, rfl⟩
  · have h2 : hi < n := by omega
    have h3 : lo ≤ n := by omega
    go_enter Tryd.func37, Tryd.ntmps37
    go_wp2
    go_ret
    exact ⟨ret_bool (by simp [h2]), rfl⟩

set_option maxHeartbeats 1000000 in
theorem join_any (a b : Nat) (r : ByteArray) (w : World) (ha : a ≤ 9999999) (hb : b ≤ 9999999) (hr : r.size ≤ 1000) (htab : Lib.TabIs Tryd.prog w "internal/strconv.uint64pow10" .u64 Lib.pow10Tab) :
    Calls Tryd.prog 38 #[.int .i64 a, .int .i64 b, .string r] w fun e w' => e = .returned (.string (joinB a b r)) ∧ Below w.heap.size w w' := by
  have ea : (decB a).size ≤ 7 := by rw [Lib.size_eq, decB_l]; exact len_dec_lt a ha
  have eb : (decB b).size ≤ 7 := by rw [Lib.size_eq, decB_l]; exact len_dec_lt b hb
  have HT := hide htab
  clear htab
  go_enter Tryd.func38, Tryd.ntmps38
  go_wp2_with fail
  refine (itoa_any a _ (by omega) HT.out).mono ?_
  rintro e w1 ⟨rfl, hb1⟩
  go_wp2_with fail
  refine (itoa_any b _ (by omega) (tab_on HT.out hb1)).mono ?_
  rintro e w2 ⟨rfl, hb2⟩
  go_wp2
  go_ret
  exact ⟨rfl, below_on hb1 (Nat.le_refl _) hb2⟩

set_option maxHeartbeats 2000000 in
theorem queueText_ok (n t : Nat) (d : ByteArray) (w : World) (hn : n ≤ 999999) (ht : 1 ≤ t) (ht' : t ≤ 9) (hd : d.toList.isEmpty = true ∨ (d.toList.isEmpty = false ∧ nameL d.data.toList = true)) (hs : d.size ≤ 1000) (htab : Lib.TabIs Tryd.prog w "internal/strconv.uint64pow10" .u64 Lib.pow10Tab) :
    Calls Tryd.prog 21 #[.agg #[.int .i64 n, .int .i64 t, .string d]] w fun e w' => e = .returned (.tuple #[.string (joinB n t d), .nilIface]) ∧ Below w.heap.size w w' := by
  have hB := below_alloc1 w (Obj.cells #[Value.int .i64 n, Value.int .i64 t, Value.string d] 32)
  have HT := hide (tab_on htab hB)
  clear htab
  rcases hd with hd | ⟨hd, hd'⟩
  all_goals
    go_enter Tryd.func21, Tryd.ntmps21
    go_wp2_with (first
      | (go_at_call 37; refine (within_yes _ _ _ _ ?_ ?_).mono ?_; omega; omega; rintro e w1 ⟨rfl, rfl⟩)
      | (go_at_call 11; refine (name_any _ _).mono ?_; rintro e w1 ⟨rfl, rfl⟩)
      | (go_at_call 38; refine (join_any _ _ _ _ (by omega) (by omega) (by omega) HT.out).mono ?_; rintro e w1 ⟨rfl, hb⟩; replace hB := below_on hB (Nat.le_refl _) hb; clear hb))
    go_ret2
    exact ⟨rfl, hB⟩

set_option maxHeartbeats 2000000 in
theorem queueText_bound (n t : Int) (d : ByteArray) (w : World) (h : (n < 0 ∨ 999999 < n) ∨ (0 ≤ n ∧ n ≤ 999999 ∧ (t < 1 ∨ 9 < t))) :
    Calls Tryd.prog 21 #[.agg #[.int .i64 n, .int .i64 t, .string d]] w fun e w' => e = .returned (.tuple #[.string ⟨#[]⟩, .iface 23 (.int .i64 1)]) ∧ Below w.heap.size w w' := by
  have hB := below_alloc1 w (Obj.cells #[Value.int .i64 n, Value.int .i64 t, Value.string d] 32)
  rcases h with h | ⟨h, h', h''⟩
  all_goals
    go_enter Tryd.func21, Tryd.ntmps21
    go_wp2_with (first
      | (go_at_call 37; refine (within_yes _ _ _ _ ?_ ?_).mono ?_; omega; omega; rintro e w1 ⟨rfl, rfl⟩)
      | (go_at_call 37; refine (within_no _ _ _ _ ?_).mono ?_; omega; rintro e w1 ⟨rfl, rfl⟩))
    go_ret2
    exact ⟨rfl, hB⟩

set_option maxHeartbeats 2000000 in
theorem queueText_shape (n t : Int) (d : ByteArray) (w : World) (hn : 0 ≤ n) (hn' : n ≤ 999999) (ht : 1 ≤ t) (ht' : t ≤ 9) (hd : d.toList.isEmpty = false) (hd' : nameL d.data.toList = false) :
    Calls Tryd.prog 21 #[.agg #[.int .i64 n, .int .i64 t, .string d]] w fun e w' => e = .returned (.tuple #[.string ⟨#[]⟩, .iface 23 (.int .i64 3)]) ∧ Below w.heap.size w w' := by
  have hB := below_alloc1 w (Obj.cells #[Value.int .i64 n, Value.int .i64 t, Value.string d] 32)
  all_goals
    go_enter Tryd.func21, Tryd.ntmps21
    go_wp2_with (first
      | (go_at_call 37; refine (within_yes _ _ _ _ ?_ ?_).mono ?_; omega; omega; rintro e w1 ⟨rfl, rfl⟩)
      | (go_at_call 11; refine (name_any _ _).mono ?_; rintro e w1 ⟨rfl, rfl⟩))
    go_ret2
    exact ⟨rfl, hB⟩

set_option maxHeartbeats 2000000 in
theorem messageText_ok (k : Int) (t u : Nat) (d : ByteArray) (w : World) (ht : t ≤ 9) (hu : u ≤ 2000000) (hs : d.size ≤ 28) (htab : Lib.TabIs Tryd.prog w "internal/strconv.uint64pow10" .u64 Lib.pow10Tab) :
    Calls Tryd.prog 25 #[.agg #[.int .i64 k, .int .i64 t, .int .i64 u, .string d]] w fun e w' => e = .returned (.tuple #[.string (joinB t u d), .nilIface]) ∧ Below w.heap.size w w' := by
  have hB := below_alloc1 w (Obj.cells #[Value.int .i64 k, Value.int .i64 t, Value.int .i64 u, Value.string d] 34)
  have HT := hide (tab_on htab hB)
  clear htab
  all_goals
    go_enter Tryd.func25, Tryd.ntmps25
    go_wp2_with (first
      | (go_at_call 37; refine (within_yes _ _ _ _ ?_ ?_).mono ?_; omega; omega; rintro e w1 ⟨rfl, rfl⟩)
      | (go_at_call 38; refine (join_any _ _ _ _ (by omega) (by omega) (by omega) HT.out).mono ?_; rintro e w1 ⟨rfl, hb⟩; replace hB := below_on hB (Nat.le_refl _) hb; clear hb))
    go_ret2
    exact ⟨rfl, hB⟩

set_option maxHeartbeats 2000000 in
theorem messageText_bound (k t u : Int) (d : ByteArray) (w : World) (h : (t < 0 ∨ 9 < t) ∨ (0 ≤ t ∧ t ≤ 9 ∧ ((u < 0 ∨ 2000000 < u) ∨ (0 ≤ u ∧ u ≤ 2000000 ∧ 28 < d.size)))) :
    Calls Tryd.prog 25 #[.agg #[.int .i64 k, .int .i64 t, .int .i64 u, .string d]] w fun e w' => e = .returned (.tuple #[.string ⟨#[]⟩, .iface 23 (.int .i64 1)]) ∧ Below w.heap.size w w' := by
  have hB := below_alloc1 w (Obj.cells #[Value.int .i64 k, Value.int .i64 t, Value.int .i64 u, Value.string d] 34)
  rcases h with h | ⟨h, h', h'' | ⟨h2, h3, h4⟩⟩
  all_goals
    go_enter Tryd.func25, Tryd.ntmps25
    go_wp2_with (first
      | (go_at_call 37; refine (within_yes _ _ _ _ ?_ ?_).mono ?_; omega; omega; rintro e w1 ⟨rfl, rfl⟩)
      | (go_at_call 37; refine (within_no _ _ _ _ ?_).mono ?_; omega; rintro e w1 ⟨rfl, rfl⟩))
    go_ret2
    exact ⟨rfl, hB⟩
end Go.Proofs.YtlndiohdjdgaoaaDoor
