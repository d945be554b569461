/-
  What the document's answers on rows return (haywainref.MessageKey, MessagesSpan, QueueText, MessageText): the same as package row's; they make new memory alone.
-/
import Derived.Test.YtlndiohdjdgaoaaDoorRefDec
import Derived.Test.YtlndiohdjdgaoaaDoorRefKey
namespace Go.Proofs.YtlndiohdjdgaoaaDoor
open Go.RowKit Go.Joins

set_option maxHeartbeats 1000000 in
theorem messagesSpan_any (s : ByteArray) (w : World) (hs : s.size ≤ 1000) :
    Calls Tryd.prog 18 #[.string s] w fun e w' => e = .returned (.agg #[.string (fromB s), .string (toB s)]) ∧ Below w.heap.size w w' := by
  go_enter Tryd.func18, Tryd.ntmps18
  go_wp2
  exact bodyPost_ret (v := .agg #[.string (⟨#[109, 47]⟩ ++ s ++ ⟨#[47]⟩), .string (⟨#[109, 47]⟩ ++ s ++ ⟨#[48]⟩)]) (by simp [results, Tryd.results18, go_sem]) rfl ⟨rfl, below_alloc1 _ _⟩
set_option maxHeartbeats 1000000 in
theorem messageKey_any (q : ByteArray) (n : Int) (w : World) (hq : q.size ≤ 1000) (h1 : n ≤ 9223372036854775807) :
    Calls Tryd.prog 16 #[.string q, .int .i64 n] w fun e w' => e = .returned (.string (msgB q ((max n 0).toNat % 1000000))) ∧ Below w.heap.size w w' := by
  have HE : Hid (max 0 n = (((max n 0).toNat : Nat) : Int)) := by show _ = _; omega
  have HD := fun w' => hide (six_any (max n 0).toNat w' (by omega))
  have h6 : (⟨(six ((max n 0).toNat % 1000000)).toArray⟩ : ByteArray).size = 6 := rfl
  unfold msgB
  generalize (⟨(six ((max n 0).toNat % 1000000)).toArray⟩ : ByteArray) = z at *
  go_enter Tryd.func16, Tryd.ntmps16
  go_wp2_with fail
  rw [HE.out]
  refine ((HD _).out).mono ?_
  rintro e w1 ⟨rfl, hb⟩
  go_wp2
  go_ret
  exact ⟨rfl, hb⟩

set_option maxHeartbeats 2000000 in
theorem rqueueText_ok (n t : Nat) (d : ByteArray) (hn : n ≤ 999999) (ht : 1 ≤ t) (ht' : t ≤ 9) (hd : d.toList.isEmpty = true ∨ (d.toList.isEmpty = false ∧ nameL d.data.toList = true)) (hs : d.size ≤ 1000) (w : World) :
    Calls Tryd.prog 22 #[.agg #[.int .i64 n, .int .i64 t, .string d]] w fun e w' => e = .returned (.tuple #[.string (joinB n t d), .int .i64 0]) ∧ Below w.heap.size w w' := by
  have hB := below_alloc1 w (Obj.cells #[Value.int .i64 n, Value.int .i64 t, Value.string d] 32)
  have ea : (decB n).size ≤ 7 := by rw [Lib.size_eq, decB_l]; exact len_dec_lt _ (by omega)
  have eb : (decB t).size ≤ 7 := by rw [Lib.size_eq, decB_l]; exact len_dec_lt _ (by omega)
  unfold joinB
  have HA := fun w' => hide (decimal_any n w' (by omega))
  have HC := fun w' => hide (decimal_any t w' (by omega))
  generalize decB n = A at *
  generalize decB t = D at *
  rcases hd with hd | ⟨hd, hd'⟩
  all_goals
    go_enter Tryd.func22, Tryd.ntmps22
    go_wp2_with (go_at_call 12; refine (nameMay_any _ _).mono ?_; rintro e w1 ⟨rfl, rfl⟩)
    have nS := OnW.some (w.alloc (Obj.cells #[Value.int .i64 n, Value.int .i64 t, Value.string d] 32))
    have n0 : ∀ z : OnW (w.alloc (Obj.cells #[Value.int .i64 n, Value.int .i64 t, Value.string d] 32)), z.w.cell? ⟨w.heap.size, 0, none⟩ = some (Value.int .i64 n) := fun z => z.cell (by simp)
    have n1 : ∀ z : OnW (w.alloc (Obj.cells #[Value.int .i64 n, Value.int .i64 t, Value.string d] 32)), z.w.cell? ⟨w.heap.size, 1, none⟩ = some (Value.int .i64 t) := fun z => z.cell (by simp)
    have n2 : ∀ z : OnW (w.alloc (Obj.cells #[Value.int .i64 n, Value.int .i64 t, Value.string d] 32)), z.w.cell? ⟨w.heap.size, 2, none⟩ = some (Value.string d) := fun z => z.cell (by simp)
    refine wp_region_on (by kernel_rfl) (by kernel_rfl) ?_
    repeat (go_big_quiet_step ((first
      | (go_at_call_of 39 (Value.int .i64 (n : Int)); exact on_call ((HA _).out))
      | (go_at_call_of 39 (Value.int .i64 (t : Int)); exact on_call ((HC _).out)))))
    refine wpQuiet_nil ?_
    intro w3 hw3
    replace hw3 := on_end hw3
    replace hB := below_on hB (Nat.le_refl _) hw3
    go_wp2
    go_ret2
    exact ⟨rfl, hB⟩

set_option maxHeartbeats 2000000 in
theorem rqueueText_bound (n t : Int) (d : ByteArray) (w : World) (h : (n < 0 ∨ 999999 < n) ∨ (0 ≤ n ∧ n ≤ 999999 ∧ (t < 1 ∨ 9 < t))) :
    Calls Tryd.prog 22 #[.agg #[.int .i64 n, .int .i64 t, .string d]] w fun e w' => e = .returned (.tuple #[.string ⟨#[]⟩, .int .i64 1]) ∧ Below w.heap.size w w' := by
  have hB := below_alloc1 w (Obj.cells #[Value.int .i64 n, Value.int .i64 t, Value.string d] 32)
  have h4 : n < 0 ∨ (0 ≤ n ∧ 999999 < n) ∨ (0 ≤ n ∧ n ≤ 999999 ∧ t < 1) ∨ (0 ≤ n ∧ n ≤ 999999 ∧ 1 ≤ t ∧ 9 < t) := by omega
  rcases h4 with h | ⟨h, h'⟩ | ⟨h, h', h2⟩ | ⟨h, h', h2, h3⟩
  all_goals
    go_enter Tryd.func22, Tryd.ntmps22
    go_wp2
    go_ret2
    exact ⟨rfl, hB⟩
set_option maxHeartbeats 2000000 in
theorem rqueueText_shape (n t : Int) (d : ByteArray) (w : World) (hn : 0 ≤ n) (hn' : n ≤ 999999) (ht : 1 ≤ t) (ht' : t ≤ 9) (hd : d.toList.isEmpty = false) (hd' : nameL d.data.toList = false) :
    Calls Tryd.prog 22 #[.agg #[.int .i64 n, .int .i64 t, .string d]] w fun e w' => e = .returned (.tuple #[.string ⟨#[]⟩, .int .i64 3]) ∧ Below w.heap.size w w' := by
  have hB := below_alloc1 w (Obj.cells #[Value.int .i64 n, Value.int .i64 t, Value.string d] 32)
  go_enter Tryd.func22, Tryd.ntmps22
  go_wp2_with (go_at_call 12; refine (nameMay_any _ _).mono ?_; rintro e w1 ⟨rfl, rfl⟩)
  go_ret2
  exact ⟨rfl, hB⟩

set_option maxHeartbeats 2000000 in
theorem rmessageText_ok (k : Int) (t u : Nat) (d : ByteArray) (ht : t ≤ 9) (hu : u ≤ 2000000) (hs : d.size ≤ 28) (w : World) :
    Calls Tryd.prog 26 #[.agg #[.int .i64 k, .int .i64 t, .int .i64 u, .string d]] w fun e w' => e = .returned (.tuple #[.string (joinB t u d), .int .i64 0]) ∧ Below w.heap.size w w' := by
  have hB := below_alloc1 w (Obj.cells #[Value.int .i64 k, Value.int .i64 t, Value.int .i64 u, Value.string d] 34)
  have ea : (decB t).size ≤ 7 := by rw [Lib.size_eq, decB_l]; exact len_dec_lt _ (by omega)
  have eb : (decB u).size ≤ 7 := by rw [Lib.size_eq, decB_l]; exact len_dec_lt _ (by omega)
  unfold joinB
  have HA := fun w' => hide (decimal_any t w' (by omega))
  have HC := fun w' => hide (decimal_any u w' (by omega))
  generalize decB t = A at *
  generalize decB u = D at *
  all_goals
    go_enter Tryd.func26, Tryd.ntmps26
    go_wp2_with (go_at_call 12; refine (nameMay_any _ _).mono ?_; rintro e w1 ⟨rfl, rfl⟩)
    have nS := OnW.some (w.alloc (Obj.cells #[Value.int .i64 k, Value.int .i64 t, Value.int .i64 u, Value.string d] 34))
    have n0 : ∀ z : OnW (w.alloc (Obj.cells #[Value.int .i64 k, Value.int .i64 t, Value.int .i64 u, Value.string d] 34)), z.w.cell? ⟨w.heap.size, 1, none⟩ = some (Value.int .i64 t) := fun z => z.cell (by simp)
    have n1 : ∀ z : OnW (w.alloc (Obj.cells #[Value.int .i64 k, Value.int .i64 t, Value.int .i64 u, Value.string d] 34)), z.w.cell? ⟨w.heap.size, 2, none⟩ = some (Value.int .i64 u) := fun z => z.cell (by simp)
    have n2 : ∀ z : OnW (w.alloc (Obj.cells #[Value.int .i64 k, Value.int .i64 t, Value.int .i64 u, Value.string d] 34)), z.w.cell? ⟨w.heap.size, 3, none⟩ = some (Value.string d) := fun z => z.cell (by simp)
    refine wp_region_on (by kernel_rfl) (by kernel_rfl) ?_
    repeat (go_big_quiet_step ((first
      | (go_at_call_of 39 (Value.int .i64 (t : Int)); exact on_call ((HA _).out))
      | (go_at_call_of 39 (Value.int .i64 (u : Int)); exact on_call ((HC _).out)))))
    refine wpQuiet_nil ?_
    intro w3 hw3
    replace hw3 := on_end hw3
    replace hB := below_on hB (Nat.le_refl _) hw3
    go_wp2
    go_ret2
    exact ⟨rfl, hB⟩

set_option maxHeartbeats 2000000 in
theorem rmessageText_bound (k t u : Int) (d : ByteArray) (w : World) (h : (t < 0 ∨ 9 < t) ∨ (0 ≤ t ∧ t ≤ 9 ∧ ((u < 0 ∨ 2000000 < u) ∨ (0 ≤ u ∧ u ≤ 2000000 ∧ 28 < d.size)))) :
    Calls Tryd.prog 26 #[.agg #[.int .i64 k, .int .i64 t, .int .i64 u, .string d]] w fun e w' => e = .returned (.tuple #[.string ⟨#[]⟩, .int .i64 1]) ∧ Below w.heap.size w w' := by
  have hB := below_alloc1 w (Obj.cells #[Value.int .i64 k, Value.int .i64 t, Value.int .i64 u, Value.string d] 34)
  have h4 : t < 0 ∨ (0 ≤ t ∧ 9 < t) ∨ (0 ≤ t ∧ t ≤ 9 ∧ u < 0) ∨ (0 ≤ t ∧ t ≤ 9 ∧ 0 ≤ u ∧ 2000000 < u) ∨ (0 ≤ t ∧ t ≤ 9 ∧ 0 ≤ u ∧ u ≤ 2000000 ∧ (28 : Int) < (d.size : Int)) := by omega
  rcases h4 with h | ⟨h, h'⟩ | ⟨h, h', h2⟩ | ⟨h, h', h2, h3⟩ | ⟨h, h', h2, h3, h4⟩
  all_goals
    go_enter Tryd.func26, Tryd.ntmps26
    go_wp2
    go_ret2
    exact ⟨rfl, hB⟩
end Go.Proofs.YtlndiohdjdgaoaaDoor
