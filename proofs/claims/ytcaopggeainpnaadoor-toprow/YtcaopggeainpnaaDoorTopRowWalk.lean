/-
  What haywaintop.TopRow returns: true, for all queues and messages, where the library's table of powers of ten holds what its text lays; nothing that was there is changed.
-/
import Derived.Test.YtcaopggeainpnaaDoorRowParse
namespace Go.Proofs.YtcaopggeainpnaaDoor
open Go.RowKit Go.Joins

theorem nil_eq_nil (W : World) : (binOp .eql 27 .nilIface .nilIface).run Tryd.prog W = .ok (.bool true) W := by kernel_rfl

theorem join_one (t u : Nat) (r : ByteArray) (ht : t ≤ 9) (hu : u ≤ 2000000) : (joinB t u r).size ≤ r.size + 10 := by
  have e : Lib.decDigits t = [UInt8.ofNat (48 + t)] := Lib.decDigits_one (by omega)
  have eu := len_dec_lt u (by omega)
  rw [Lib.size_eq, Lib.size_eq, joinB_l, e]
  simp only [List.length_append, List.length_cons, List.length_nil]
  omega

set_option maxHeartbeats 4000000 in
theorem topRow_heavy (x y k t u : Int) (d b : ByteArray) (w : World) (hh : 50 < d.size ∨ (d.size ≤ 50 ∧ 100 < b.size)) (htab : Lib.TabIs Tryd.prog w "internal/strconv.uint64pow10" .u64 Lib.pow10Tab) :
    Calls Tryd.prog 6 #[.agg #[.int .i64 x, .int .i64 y, .string d], .agg #[.int .i64 k, .int .i64 t, .int .i64 u, .string b]] w fun e w' => e = .returned (.bool true) ∧ Below w.heap.size w w' := by
  have hB : Below w.heap.size w ((w.alloc (Obj.cells #[Value.int .i64 x, Value.int .i64 y, Value.string d] 32)).alloc (Obj.cells #[Value.int .i64 k, Value.int .i64 t, Value.int .i64 u, Value.string b] 34)) := below_alloc2 _ _ _
  have a0 : ((w.alloc (Obj.cells #[Value.int .i64 x, Value.int .i64 y, Value.string d] 32)).alloc (Obj.cells #[Value.int .i64 k, Value.int .i64 t, Value.int .i64 u, Value.string b] 34)).cell? ⟨w.heap.size, 0, none⟩ = some (Value.int .i64 x) := by simp
  have a1 : ((w.alloc (Obj.cells #[Value.int .i64 x, Value.int .i64 y, Value.string d] 32)).alloc (Obj.cells #[Value.int .i64 k, Value.int .i64 t, Value.int .i64 u, Value.string b] 34)).cell? ⟨w.heap.size, 1, none⟩ = some (Value.int .i64 y) := by simp
  have a2 : ((w.alloc (Obj.cells #[Value.int .i64 x, Value.int .i64 y, Value.string d] 32)).alloc (Obj.cells #[Value.int .i64 k, Value.int .i64 t, Value.int .i64 u, Value.string b] 34)).cell? ⟨w.heap.size, 2, none⟩ = some (Value.string d) := by simp
  have b0 : ((w.alloc (Obj.cells #[Value.int .i64 x, Value.int .i64 y, Value.string d] 32)).alloc (Obj.cells #[Value.int .i64 k, Value.int .i64 t, Value.int .i64 u, Value.string b] 34)).cell? ⟨w.heap.size + 1, 0, none⟩ = some (Value.int .i64 k) := by simp
  have b1 : ((w.alloc (Obj.cells #[Value.int .i64 x, Value.int .i64 y, Value.string d] 32)).alloc (Obj.cells #[Value.int .i64 k, Value.int .i64 t, Value.int .i64 u, Value.string b] 34)).cell? ⟨w.heap.size + 1, 1, none⟩ = some (Value.int .i64 t) := by simp
  have b2 : ((w.alloc (Obj.cells #[Value.int .i64 x, Value.int .i64 y, Value.string d] 32)).alloc (Obj.cells #[Value.int .i64 k, Value.int .i64 t, Value.int .i64 u, Value.string b] 34)).cell? ⟨w.heap.size + 1, 2, none⟩ = some (Value.int .i64 u) := by simp
  have b3 : ((w.alloc (Obj.cells #[Value.int .i64 x, Value.int .i64 y, Value.string d] 32)).alloc (Obj.cells #[Value.int .i64 k, Value.int .i64 t, Value.int .i64 u, Value.string b] 34)).cell? ⟨w.heap.size + 1, 3, none⟩ = some (Value.string b) := by simp
  have HT := hide htab
  have n1 := nil_neq_nil
  have n2 := nil_eq_nil
  have n3 := err_not_nil 23
  have n4 := err_neq_nil 23
  have e0 : (⟨#[]⟩ : ByteArray).toList.isEmpty = true := by rw [Lib.toList_data]; rfl
  have e1 : (joinB 3 1 ⟨#[]⟩).size ≤ 40 := by have := (join_size 3 1 ⟨#[]⟩ (by omega) (by omega)).1; have : (⟨#[]⟩ : ByteArray).size = 0 := rfl; omega
  clear htab
  go_enter Tryd.func6, Tryd.ntmps6
  go_wp2_with fail
  refine (queueText_ok 3 1 ⟨#[]⟩ _ (by omega) (by omega) (by omega) (Or.inl e0) (by decide) (tab_on HT.out hB)).mono ?_
  rintro e w1 ⟨rfl, hb⟩
  replace hB := below_on hB (Nat.le_refl _) hb; replace a0 := cell_on hb a0; replace a1 := cell_on hb a1; replace a2 := cell_on hb a2; replace b0 := cell_on hb b0; replace b1 := cell_on hb b1; replace b2 := cell_on hb b2; replace b3 := cell_on hb b3
  clear hb
  rcases hh with h | ⟨h, h'⟩
  all_goals
    go_wp2
    go_ret
    exact ⟨rfl, hB⟩

set_option maxHeartbeats 4000000 in
theorem topRow_no_no (x y k t u : Int) (d b : ByteArray) (w : World) (hd : d.size ≤ 50) (hb0 : b.size ≤ 100) (c c' : Int) (hq0 : (∀ w', Calls Tryd.prog 21 #[.agg #[.int .i64 x, .int .i64 y, .string d]] w' fun e w'' => e = .returned (.tuple #[.string ⟨#[]⟩, .iface 23 (.int .i64 c)]) ∧ Below w'.heap.size w' w'')) (hm0 : (∀ w', Calls Tryd.prog 25 #[.agg #[.int .i64 k, .int .i64 t, .int .i64 u, .string b]] w' fun e w'' => e = .returned (.tuple #[.string ⟨#[]⟩, .iface 23 (.int .i64 c')]) ∧ Below w'.heap.size w' w'')) (htab : Lib.TabIs Tryd.prog w "internal/strconv.uint64pow10" .u64 Lib.pow10Tab) :
    Calls Tryd.prog 6 #[.agg #[.int .i64 x, .int .i64 y, .string d], .agg #[.int .i64 k, .int .i64 t, .int .i64 u, .string b]] w fun e w' => e = .returned (.bool true) ∧ Below w.heap.size w w' := by
  have hB : Below w.heap.size w ((w.alloc (Obj.cells #[Value.int .i64 x, Value.int .i64 y, Value.string d] 32)).alloc (Obj.cells #[Value.int .i64 k, Value.int .i64 t, Value.int .i64 u, Value.string b] 34)) := below_alloc2 _ _ _
  have a0 : ((w.alloc (Obj.cells #[Value.int .i64 x, Value.int .i64 y, Value.string d] 32)).alloc (Obj.cells #[Value.int .i64 k, Value.int .i64 t, Value.int .i64 u, Value.string b] 34)).cell? ⟨w.heap.size, 0, none⟩ = some (Value.int .i64 x) := by simp
  have a1 : ((w.alloc (Obj.cells #[Value.int .i64 x, Value.int .i64 y, Value.string d] 32)).alloc (Obj.cells #[Value.int .i64 k, Value.int .i64 t, Value.int .i64 u, Value.string b] 34)).cell? ⟨w.heap.size, 1, none⟩ = some (Value.int .i64 y) := by simp
  have a2 : ((w.alloc (Obj.cells #[Value.int .i64 x, Value.int .i64 y, Value.string d] 32)).alloc (Obj.cells #[Value.int .i64 k, Value.int .i64 t, Value.int .i64 u, Value.string b] 34)).cell? ⟨w.heap.size, 2, none⟩ = some (Value.string d) := by simp
  have b0 : ((w.alloc (Obj.cells #[Value.int .i64 x, Value.int .i64 y, Value.string d] 32)).alloc (Obj.cells #[Value.int .i64 k, Value.int .i64 t, Value.int .i64 u, Value.string b] 34)).cell? ⟨w.heap.size + 1, 0, none⟩ = some (Value.int .i64 k) := by simp
  have b1 : ((w.alloc (Obj.cells #[Value.int .i64 x, Value.int .i64 y, Value.string d] 32)).alloc (Obj.cells #[Value.int .i64 k, Value.int .i64 t, Value.int .i64 u, Value.string b] 34)).cell? ⟨w.heap.size + 1, 1, none⟩ = some (Value.int .i64 t) := by simp
  have b2 : ((w.alloc (Obj.cells #[Value.int .i64 x, Value.int .i64 y, Value.string d] 32)).alloc (Obj.cells #[Value.int .i64 k, Value.int .i64 t, Value.int .i64 u, Value.string b] 34)).cell? ⟨w.heap.size + 1, 2, none⟩ = some (Value.int .i64 u) := by simp
  have b3 : ((w.alloc (Obj.cells #[Value.int .i64 x, Value.int .i64 y, Value.string d] 32)).alloc (Obj.cells #[Value.int .i64 k, Value.int .i64 t, Value.int .i64 u, Value.string b] 34)).cell? ⟨w.heap.size + 1, 3, none⟩ = some (Value.string b) := by simp
  have HT := hide htab
  have n1 := nil_neq_nil
  have n2 := nil_eq_nil
  have n3 := err_not_nil 23
  have n4 := err_neq_nil 23
  have e0 : (⟨#[]⟩ : ByteArray).toList.isEmpty = true := by rw [Lib.toList_data]; rfl
  have e1 : (joinB 3 1 ⟨#[]⟩).size ≤ 40 := by have := (join_size 3 1 ⟨#[]⟩ (by omega) (by omega)).1; have : (⟨#[]⟩ : ByteArray).size = 0 := rfl; omega
  clear htab
  go_enter Tryd.func6, Tryd.ntmps6
  go_wp2_with fail
  refine (queueText_ok 3 1 ⟨#[]⟩ _ (by omega) (by omega) (by omega) (Or.inl e0) (by decide) (tab_on HT.out hB)).mono ?_
  rintro e w1 ⟨rfl, hb⟩
  replace hB := below_on hB (Nat.le_refl _) hb; replace a0 := cell_on hb a0; replace a1 := cell_on hb a1; replace a2 := cell_on hb a2; replace b0 := cell_on hb b0; replace b1 := cell_on hb b1; replace b2 := cell_on hb b2; replace b3 := cell_on hb b3
  clear hb
  have HQ := hide hq0
  have HM := hide hm0
  clear hq0 hm0
  go_wp2_with fail
  refine (HQ.out _).mono ?_
  rintro e w1 ⟨rfl, hb⟩
  replace hB := below_on hB (Nat.le_refl _) hb; replace a0 := cell_on hb a0; replace a1 := cell_on hb a1; replace a2 := cell_on hb a2; replace b0 := cell_on hb b0; replace b1 := cell_on hb b1; replace b2 := cell_on hb b2; replace b3 := cell_on hb b3
  clear hb
  go_wp2_with fail
  refine (HM.out _).mono ?_
  rintro e w1 ⟨rfl, hb⟩
  replace hB := below_on hB (Nat.le_refl _) hb; replace a0 := cell_on hb a0; replace a1 := cell_on hb a1; replace a2 := cell_on hb a2; replace b0 := cell_on hb b0; replace b1 := cell_on hb b1; replace b2 := cell_on hb b2; replace b3 := cell_on hb b3
  clear hb
  go_wp2
  go_ret
  exact ⟨rfl, hB⟩

set_option maxHeartbeats 4000000 in
theorem topRow_no_ok (x y k t u : Int) (d b : ByteArray) (w : World) (hd : d.size ≤ 50) (hb0 : b.size ≤ 100) (c : Int) (s : ByteArray) (hs : s.size ≤ 40) (hq0 : (∀ w', Calls Tryd.prog 21 #[.agg #[.int .i64 x, .int .i64 y, .string d]] w' fun e w'' => e = .returned (.tuple #[.string ⟨#[]⟩, .iface 23 (.int .i64 c)]) ∧ Below w'.heap.size w' w'')) (hm0 : (∀ w', Lib.TabIs Tryd.prog w' "internal/strconv.uint64pow10" .u64 Lib.pow10Tab → Calls Tryd.prog 25 #[.agg #[.int .i64 k, .int .i64 t, .int .i64 u, .string b]] w' fun e w'' => e = .returned (.tuple #[.string s, .nilIface]) ∧ Below w'.heap.size w' w'') ∧ (∀ w', Lib.TabIs Tryd.prog w' "internal/strconv.uint64pow10" .u64 Lib.pow10Tab → Calls Tryd.prog 27 #[.int .i64 k, .string s] w' fun e w'' => e = .returned (.tuple #[.agg #[.int .i64 k, .int .i64 t, .int .i64 u, .string b], .nilIface]) ∧ Below w'.heap.size w' w'')) (htab : Lib.TabIs Tryd.prog w "internal/strconv.uint64pow10" .u64 Lib.pow10Tab) :
    Calls Tryd.prog 6 #[.agg #[.int .i64 x, .int .i64 y, .string d], .agg #[.int .i64 k, .int .i64 t, .int .i64 u, .string b]] w fun e w' => e = .returned (.bool true) ∧ Below w.heap.size w w' := by
  have hB : Below w.heap.size w ((w.alloc (Obj.cells #[Value.int .i64 x, Value.int .i64 y, Value.string d] 32)).alloc (Obj.cells #[Value.int .i64 k, Value.int .i64 t, Value.int .i64 u, Value.string b] 34)) := below_alloc2 _ _ _
  have a0 : ((w.alloc (Obj.cells #[Value.int .i64 x, Value.int .i64 y, Value.string d] 32)).alloc (Obj.cells #[Value.int .i64 k, Value.int .i64 t, Value.int .i64 u, Value.string b] 34)).cell? ⟨w.heap.size, 0, none⟩ = some (Value.int .i64 x) := by simp
  have a1 : ((w.alloc (Obj.cells #[Value.int .i64 x, Value.int .i64 y, Value.string d] 32)).alloc (Obj.cells #[Value.int .i64 k, Value.int .i64 t, Value.int .i64 u, Value.string b] 34)).cell? ⟨w.heap.size, 1, none⟩ = some (Value.int .i64 y) := by simp
  have a2 : ((w.alloc (Obj.cells #[Value.int .i64 x, Value.int .i64 y, Value.string d] 32)).alloc (Obj.cells #[Value.int .i64 k, Value.int .i64 t, Value.int .i64 u, Value.string b] 34)).cell? ⟨w.heap.size, 2, none⟩ = some (Value.string d) := by simp
  have b0 : ((w.alloc (Obj.cells #[Value.int .i64 x, Value.int .i64 y, Value.string d] 32)).alloc (Obj.cells #[Value.int .i64 k, Value.int .i64 t, Value.int .i64 u, Value.string b] 34)).cell? ⟨w.heap.size + 1, 0, none⟩ = some (Value.int .i64 k) := by simp
  have b1 : ((w.alloc (Obj.cells #[Value.int .i64 x, Value.int .i64 y, Value.string d] 32)).alloc (Obj.cells #[Value.int .i64 k, Value.int .i64 t, Value.int .i64 u, Value.string b] 34)).cell? ⟨w.heap.size + 1, 1, none⟩ = some (Value.int .i64 t) := by simp
  have b2 : ((w.alloc (Obj.cells #[Value.int .i64 x, Value.int .i64 y, Value.string d] 32)).alloc (Obj.cells #[Value.int .i64 k, Value.int .i64 t, Value.int .i64 u, Value.string b] 34)).cell? ⟨w.heap.size + 1, 2, none⟩ = some (Value.int .i64 u) := by simp
  have b3 : ((w.alloc (Obj.cells #[Value.int .i64 x, Value.int .i64 y, Value.string d] 32)).alloc (Obj.cells #[Value.int .i64 k, Value.int .i64 t, Value.int .i64 u, Value.string b] 34)).cell? ⟨w.heap.size + 1, 3, none⟩ = some (Value.string b) := by simp
  have HT := hide htab
  have n1 := nil_neq_nil
  have n2 := nil_eq_nil
  have n3 := err_not_nil 23
  have n4 := err_neq_nil 23
  have e0 : (⟨#[]⟩ : ByteArray).toList.isEmpty = true := by rw [Lib.toList_data]; rfl
  have e1 : (joinB 3 1 ⟨#[]⟩).size ≤ 40 := by have := (join_size 3 1 ⟨#[]⟩ (by omega) (by omega)).1; have : (⟨#[]⟩ : ByteArray).size = 0 := rfl; omega
  clear htab
  go_enter Tryd.func6, Tryd.ntmps6
  go_wp2_with fail
  refine (queueText_ok 3 1 ⟨#[]⟩ _ (by omega) (by omega) (by omega) (Or.inl e0) (by decide) (tab_on HT.out hB)).mono ?_
  rintro e w1 ⟨rfl, hb⟩
  replace hB := below_on hB (Nat.le_refl _) hb; replace a0 := cell_on hb a0; replace a1 := cell_on hb a1; replace a2 := cell_on hb a2; replace b0 := cell_on hb b0; replace b1 := cell_on hb b1; replace b2 := cell_on hb b2; replace b3 := cell_on hb b3
  clear hb
  have HQ := hide hq0
  have HM := hide hm0.1
  have HR := hide hm0.2
  clear hq0 hm0
  go_wp2_with fail
  refine (HQ.out _).mono ?_
  rintro e w1 ⟨rfl, hb⟩
  replace hB := below_on hB (Nat.le_refl _) hb; replace a0 := cell_on hb a0; replace a1 := cell_on hb a1; replace a2 := cell_on hb a2; replace b0 := cell_on hb b0; replace b1 := cell_on hb b1; replace b2 := cell_on hb b2; replace b3 := cell_on hb b3
  clear hb
  go_wp2_with fail
  refine (HM.out _ (tab_on HT.out hB)).mono ?_
  rintro e w1 ⟨rfl, hb⟩
  replace hB := below_on hB (Nat.le_refl _) hb; replace a0 := cell_on hb a0; replace a1 := cell_on hb a1; replace a2 := cell_on hb a2; replace b0 := cell_on hb b0; replace b1 := cell_on hb b1; replace b2 := cell_on hb b2; replace b3 := cell_on hb b3
  clear hb
  go_wp2_with fail
  refine (HR.out _ (tab_on HT.out hB)).mono ?_
  rintro e w1 ⟨rfl, hb⟩
  replace hB := below_on hB (Nat.le_refl _) hb; replace a0 := cell_on hb a0; replace a1 := cell_on hb a1; replace a2 := cell_on hb a2; replace b0 := cell_on hb b0; replace b1 := cell_on hb b1; replace b2 := cell_on hb b2; replace b3 := cell_on hb b3
  clear hb
  have hb := below_alloc1 w1 (Obj.cells #[Value.int .i64 k, Value.int .i64 t, Value.int .i64 u, Value.string b] 34)
  replace hB := below_on hB (Nat.le_refl _) hb; replace a0 := cell_on hb a0; replace a1 := cell_on hb a1; replace a2 := cell_on hb a2; replace b0 := cell_on hb b0; replace b1 := cell_on hb b1; replace b2 := cell_on hb b2; replace b3 := cell_on hb b3
  clear hb
  have z0 : (w1.alloc (Obj.cells #[Value.int .i64 k, Value.int .i64 t, Value.int .i64 u, Value.string b] 34)).cell? ⟨w1.heap.size, 0, none⟩ = some (Value.int .i64 k) := by simp
  have z1 : (w1.alloc (Obj.cells #[Value.int .i64 k, Value.int .i64 t, Value.int .i64 u, Value.string b] 34)).cell? ⟨w1.heap.size, 1, none⟩ = some (Value.int .i64 t) := by simp
  have z2 : (w1.alloc (Obj.cells #[Value.int .i64 k, Value.int .i64 t, Value.int .i64 u, Value.string b] 34)).cell? ⟨w1.heap.size, 2, none⟩ = some (Value.int .i64 u) := by simp
  have z3 : (w1.alloc (Obj.cells #[Value.int .i64 k, Value.int .i64 t, Value.int .i64 u, Value.string b] 34)).cell? ⟨w1.heap.size, 3, none⟩ = some (Value.string b) := by simp
  go_wp2
  go_ret
  exact ⟨ret_bool (decide_eq_true (by omega)), hB⟩

set_option maxHeartbeats 4000000 in
theorem topRow_ok_no (x y k t u : Int) (d b : ByteArray) (w : World) (hd : d.size ≤ 50) (hb0 : b.size ≤ 100) (c : Int) (s : ByteArray) (hs : s.size ≤ 40) (hq0 : (∀ w', Lib.TabIs Tryd.prog w' "internal/strconv.uint64pow10" .u64 Lib.pow10Tab → Calls Tryd.prog 21 #[.agg #[.int .i64 x, .int .i64 y, .string d]] w' fun e w'' => e = .returned (.tuple #[.string s, .nilIface]) ∧ Below w'.heap.size w' w'') ∧ (∀ w', Lib.TabIs Tryd.prog w' "internal/strconv.uint64pow10" .u64 Lib.pow10Tab → Calls Tryd.prog 23 #[.string s] w' fun e w'' => e = .returned (.tuple #[.agg #[.int .i64 x, .int .i64 y, .string d], .nilIface]) ∧ Below w'.heap.size w' w'')) (hm0 : (∀ w', Calls Tryd.prog 25 #[.agg #[.int .i64 k, .int .i64 t, .int .i64 u, .string b]] w' fun e w'' => e = .returned (.tuple #[.string ⟨#[]⟩, .iface 23 (.int .i64 c)]) ∧ Below w'.heap.size w' w'')) (htab : Lib.TabIs Tryd.prog w "internal/strconv.uint64pow10" .u64 Lib.pow10Tab) :
    Calls Tryd.prog 6 #[.agg #[.int .i64 x, .int .i64 y, .string d], .agg #[.int .i64 k, .int .i64 t, .int .i64 u, .string b]] w fun e w' => e = .returned (.bool true) ∧ Below w.heap.size w w' := by
  have hB : Below w.heap.size w ((w.alloc (Obj.cells #[Value.int .i64 x, Value.int .i64 y, Value.string d] 32)).alloc (Obj.cells #[Value.int .i64 k, Value.int .i64 t, Value.int .i64 u, Value.string b] 34)) := below_alloc2 _ _ _
  have a0 : ((w.alloc (Obj.cells #[Value.int .i64 x, Value.int .i64 y, Value.string d] 32)).alloc (Obj.cells #[Value.int .i64 k, Value.int .i64 t, Value.int .i64 u, Value.string b] 34)).cell? ⟨w.heap.size, 0, none⟩ = some (Value.int .i64 x) := by simp
  have a1 : ((w.alloc (Obj.cells #[Value.int .i64 x, Value.int .i64 y, Value.string d] 32)).alloc (Obj.cells #[Value.int .i64 k, Value.int .i64 t, Value.int .i64 u, Value.string b] 34)).cell? ⟨w.heap.size, 1, none⟩ = some (Value.int .i64 y) := by simp
  have a2 : ((w.alloc (Obj.cells #[Value.int .i64 x, Value.int .i64 y, Value.string d] 32)).alloc (Obj.cells #[Value.int .i64 k, Value.int .i64 t, Value.int .i64 u, Value.string b] 34)).cell? ⟨w.heap.size, 2, none⟩ = some (Value.string d) := by simp
  have b0 : ((w.alloc (Obj.cells #[Value.int .i64 x, Value.int .i64 y, Value.string d] 32)).alloc (Obj.cells #[Value.int .i64 k, Value.int .i64 t, Value.int .i64 u, Value.string b] 34)).cell? ⟨w.heap.size + 1, 0, none⟩ = some (Value.int .i64 k) := by simp
  have b1 : ((w.alloc (Obj.cells #[Value.int .i64 x, Value.int .i64 y, Value.string d] 32)).alloc (Obj.cells #[Value.int .i64 k, Value.int .i64 t, Value.int .i64 u, Value.string b] 34)).cell? ⟨w.heap.size + 1, 1, none⟩ = some (Value.int .i64 t) := by simp
  have b2 : ((w.alloc (Obj.cells #[Value.int .i64 x, Value.int .i64 y, Value.string d] 32)).alloc (Obj.cells #[Value.int .i64 k, Value.int .i64 t, Value.int .i64 u, Value.string b] 34)).cell? ⟨w.heap.size + 1, 2, none⟩ = some (Value.int .i64 u) := by simp
  have b3 : ((w.alloc (Obj.cells #[Value.int .i64 x, Value.int .i64 y, Value.string d] 32)).alloc (Obj.cells #[Value.int .i64 k, Value.int .i64 t, Value.int .i64 u, Value.string b] 34)).cell? ⟨w.heap.size + 1, 3, none⟩ = some (Value.string b) := by simp
  have HT := hide htab
  have n1 := nil_neq_nil
  have n2 := nil_eq_nil
  have n3 := err_not_nil 23
  have n4 := err_neq_nil 23
  have e0 : (⟨#[]⟩ : ByteArray).toList.isEmpty = true := by rw [Lib.toList_data]; rfl
  have e1 : (joinB 3 1 ⟨#[]⟩).size ≤ 40 := by have := (join_size 3 1 ⟨#[]⟩ (by omega) (by omega)).1; have : (⟨#[]⟩ : ByteArray).size = 0 := rfl; omega
  clear htab
  go_enter Tryd.func6, Tryd.ntmps6
  go_wp2_with fail
  refine (queueText_ok 3 1 ⟨#[]⟩ _ (by omega) (by omega) (by omega) (Or.inl e0) (by decide) (tab_on HT.out hB)).mono ?_
  rintro e w1 ⟨rfl, hb⟩
  replace hB := below_on hB (Nat.le_refl _) hb; replace a0 := cell_on hb a0; replace a1 := cell_on hb a1; replace a2 := cell_on hb a2; replace b0 := cell_on hb b0; replace b1 := cell_on hb b1; replace b2 := cell_on hb b2; replace b3 := cell_on hb b3
  clear hb
  have HQ := hide hq0.1
  have HP := hide hq0.2
  have HM := hide hm0
  clear hq0 hm0
  go_wp2_with fail
  refine (HQ.out _ (tab_on HT.out hB)).mono ?_
  rintro e w1 ⟨rfl, hb⟩
  replace hB := below_on hB (Nat.le_refl _) hb; replace a0 := cell_on hb a0; replace a1 := cell_on hb a1; replace a2 := cell_on hb a2; replace b0 := cell_on hb b0; replace b1 := cell_on hb b1; replace b2 := cell_on hb b2; replace b3 := cell_on hb b3
  clear hb
  go_wp2_with fail
  refine (HP.out _ (tab_on HT.out hB)).mono ?_
  rintro e w1 ⟨rfl, hb⟩
  replace hB := below_on hB (Nat.le_refl _) hb; replace a0 := cell_on hb a0; replace a1 := cell_on hb a1; replace a2 := cell_on hb a2; replace b0 := cell_on hb b0; replace b1 := cell_on hb b1; replace b2 := cell_on hb b2; replace b3 := cell_on hb b3
  clear hb
  have hb := below_alloc1 w1 (Obj.cells #[Value.int .i64 x, Value.int .i64 y, Value.string d] 32)
  replace hB := below_on hB (Nat.le_refl _) hb; replace a0 := cell_on hb a0; replace a1 := cell_on hb a1; replace a2 := cell_on hb a2; replace b0 := cell_on hb b0; replace b1 := cell_on hb b1; replace b2 := cell_on hb b2; replace b3 := cell_on hb b3
  clear hb
  have q0 : (w1.alloc (Obj.cells #[Value.int .i64 x, Value.int .i64 y, Value.string d] 32)).cell? ⟨w1.heap.size, 0, none⟩ = some (Value.int .i64 x) := by simp
  have q1 : (w1.alloc (Obj.cells #[Value.int .i64 x, Value.int .i64 y, Value.string d] 32)).cell? ⟨w1.heap.size, 1, none⟩ = some (Value.int .i64 y) := by simp
  have q2 : (w1.alloc (Obj.cells #[Value.int .i64 x, Value.int .i64 y, Value.string d] 32)).cell? ⟨w1.heap.size, 2, none⟩ = some (Value.string d) := by simp
  go_wp2_with fail
  refine (HM.out _).mono ?_
  rintro e w1 ⟨rfl, hb⟩
  replace hB := below_on hB (Nat.le_refl _) hb; replace a0 := cell_on hb a0; replace a1 := cell_on hb a1; replace a2 := cell_on hb a2; replace b0 := cell_on hb b0; replace b1 := cell_on hb b1; replace b2 := cell_on hb b2; replace b3 := cell_on hb b3
  clear hb
  go_wp2
  go_ret
  exact ⟨rfl, hB⟩

set_option maxHeartbeats 4000000 in
theorem topRow_ok_ok (x y k t u : Int) (d b : ByteArray) (w : World) (hd : d.size ≤ 50) (hb0 : b.size ≤ 100) (s s' : ByteArray) (hs : s.size ≤ 40) (hs' : s'.size ≤ 40) (hq0 : (∀ w', Lib.TabIs Tryd.prog w' "internal/strconv.uint64pow10" .u64 Lib.pow10Tab → Calls Tryd.prog 21 #[.agg #[.int .i64 x, .int .i64 y, .string d]] w' fun e w'' => e = .returned (.tuple #[.string s, .nilIface]) ∧ Below w'.heap.size w' w'') ∧ (∀ w', Lib.TabIs Tryd.prog w' "internal/strconv.uint64pow10" .u64 Lib.pow10Tab → Calls Tryd.prog 23 #[.string s] w' fun e w'' => e = .returned (.tuple #[.agg #[.int .i64 x, .int .i64 y, .string d], .nilIface]) ∧ Below w'.heap.size w' w'')) (hm0 : (∀ w', Lib.TabIs Tryd.prog w' "internal/strconv.uint64pow10" .u64 Lib.pow10Tab → Calls Tryd.prog 25 #[.agg #[.int .i64 k, .int .i64 t, .int .i64 u, .string b]] w' fun e w'' => e = .returned (.tuple #[.string s', .nilIface]) ∧ Below w'.heap.size w' w'') ∧ (∀ w', Lib.TabIs Tryd.prog w' "internal/strconv.uint64pow10" .u64 Lib.pow10Tab → Calls Tryd.prog 27 #[.int .i64 k, .string s'] w' fun e w'' => e = .returned (.tuple #[.agg #[.int .i64 k, .int .i64 t, .int .i64 u, .string b], .nilIface]) ∧ Below w'.heap.size w' w'')) (htab : Lib.TabIs Tryd.prog w "internal/strconv.uint64pow10" .u64 Lib.pow10Tab) :
    Calls Tryd.prog 6 #[.agg #[.int .i64 x, .int .i64 y, .string d], .agg #[.int .i64 k, .int .i64 t, .int .i64 u, .string b]] w fun e w' => e = .returned (.bool true) ∧ Below w.heap.size w w' := by
  have hB : Below w.heap.size w ((w.alloc (Obj.cells #[Value.int .i64 x, Value.int .i64 y, Value.string d] 32)).alloc (Obj.cells #[Value.int .i64 k, Value.int .i64 t, Value.int .i64 u, Value.string b] 34)) := below_alloc2 _ _ _
  have a0 : ((w.alloc (Obj.cells #[Value.int .i64 x, Value.int .i64 y, Value.string d] 32)).alloc (Obj.cells #[Value.int .i64 k, Value.int .i64 t, Value.int .i64 u, Value.string b] 34)).cell? ⟨w.heap.size, 0, none⟩ = some (Value.int .i64 x) := by simp
  have a1 : ((w.alloc (Obj.cells #[Value.int .i64 x, Value.int .i64 y, Value.string d] 32)).alloc (Obj.cells #[Value.int .i64 k, Value.int .i64 t, Value.int .i64 u, Value.string b] 34)).cell? ⟨w.heap.size, 1, none⟩ = some (Value.int .i64 y) := by simp
  have a2 : ((w.alloc (Obj.cells #[Value.int .i64 x, Value.int .i64 y, Value.string d] 32)).alloc (Obj.cells #[Value.int .i64 k, Value.int .i64 t, Value.int .i64 u, Value.string b] 34)).cell? ⟨w.heap.size, 2, none⟩ = some (Value.string d) := by simp
  have b0 : ((w.alloc (Obj.cells #[Value.int .i64 x, Value.int .i64 y, Value.string d] 32)).alloc (Obj.cells #[Value.int .i64 k, Value.int .i64 t, Value.int .i64 u, Value.string b] 34)).cell? ⟨w.heap.size + 1, 0, none⟩ = some (Value.int .i64 k) := by simp
  have b1 : ((w.alloc (Obj.cells #[Value.int .i64 x, Value.int .i64 y, Value.string d] 32)).alloc (Obj.cells #[Value.int .i64 k, Value.int .i64 t, Value.int .i64 u, Value.string b] 34)).cell? ⟨w.heap.size + 1, 1, none⟩ = some (Value.int .i64 t) := by simp
  have b2 : ((w.alloc (Obj.cells #[Value.int .i64 x, Value.int .i64 y, Value.string d] 32)).alloc (Obj.cells #[Value.int .i64 k, Value.int .i64 t, Value.int .i64 u, Value.string b] 34)).cell? ⟨w.heap.size + 1, 2, none⟩ = some (Value.int .i64 u) := by simp
  have b3 : ((w.alloc (Obj.cells #[Value.int .i64 x, Value.int .i64 y, Value.string d] 32)).alloc (Obj.cells #[Value.int .i64 k, Value.int .i64 t, Value.int .i64 u, Value.string b] 34)).cell? ⟨w.heap.size + 1, 3, none⟩ = some (Value.string b) := by simp
  have HT := hide htab
  have n1 := nil_neq_nil
  have n2 := nil_eq_nil
  have n3 := err_not_nil 23
  have n4 := err_neq_nil 23
  have e0 : (⟨#[]⟩ : ByteArray).toList.isEmpty = true := by rw [Lib.toList_data]; rfl
  have e1 : (joinB 3 1 ⟨#[]⟩).size ≤ 40 := by have := (join_size 3 1 ⟨#[]⟩ (by omega) (by omega)).1; have : (⟨#[]⟩ : ByteArray).size = 0 := rfl; omega
  clear htab
  go_enter Tryd.func6, Tryd.ntmps6
  go_wp2_with fail
  refine (queueText_ok 3 1 ⟨#[]⟩ _ (by omega) (by omega) (by omega) (Or.inl e0) (by decide) (tab_on HT.out hB)).mono ?_
  rintro e w1 ⟨rfl, hb⟩
  replace hB := below_on hB (Nat.le_refl _) hb; replace a0 := cell_on hb a0; replace a1 := cell_on hb a1; replace a2 := cell_on hb a2; replace b0 := cell_on hb b0; replace b1 := cell_on hb b1; replace b2 := cell_on hb b2; replace b3 := cell_on hb b3
  clear hb
  have HQ := hide hq0.1
  have HP := hide hq0.2
  have HM := hide hm0.1
  have HR := hide hm0.2
  clear hq0 hm0
  go_wp2_with fail
  refine (HQ.out _ (tab_on HT.out hB)).mono ?_
  rintro e w1 ⟨rfl, hb⟩
  replace hB := below_on hB (Nat.le_refl _) hb; replace a0 := cell_on hb a0; replace a1 := cell_on hb a1; replace a2 := cell_on hb a2; replace b0 := cell_on hb b0; replace b1 := cell_on hb b1; replace b2 := cell_on hb b2; replace b3 := cell_on hb b3
  clear hb
  go_wp2_with fail
  refine (HP.out _ (tab_on HT.out hB)).mono ?_
  rintro e w1 ⟨rfl, hb⟩
  replace hB := below_on hB (Nat.le_refl _) hb; replace a0 := cell_on hb a0; replace a1 := cell_on hb a1; replace a2 := cell_on hb a2; replace b0 := cell_on hb b0; replace b1 := cell_on hb b1; replace b2 := cell_on hb b2; replace b3 := cell_on hb b3
  clear hb
  have hb := below_alloc1 w1 (Obj.cells #[Value.int .i64 x, Value.int .i64 y, Value.string d] 32)
  replace hB := below_on hB (Nat.le_refl _) hb; replace a0 := cell_on hb a0; replace a1 := cell_on hb a1; replace a2 := cell_on hb a2; replace b0 := cell_on hb b0; replace b1 := cell_on hb b1; replace b2 := cell_on hb b2; replace b3 := cell_on hb b3
  clear hb
  have q0 : (w1.alloc (Obj.cells #[Value.int .i64 x, Value.int .i64 y, Value.string d] 32)).cell? ⟨w1.heap.size, 0, none⟩ = some (Value.int .i64 x) := by simp
  have q1 : (w1.alloc (Obj.cells #[Value.int .i64 x, Value.int .i64 y, Value.string d] 32)).cell? ⟨w1.heap.size, 1, none⟩ = some (Value.int .i64 y) := by simp
  have q2 : (w1.alloc (Obj.cells #[Value.int .i64 x, Value.int .i64 y, Value.string d] 32)).cell? ⟨w1.heap.size, 2, none⟩ = some (Value.string d) := by simp
  go_wp2_with fail
  refine (HM.out _ (tab_on HT.out hB)).mono ?_
  rintro e w1 ⟨rfl, hb⟩
  replace hB := below_on hB (Nat.le_refl _) hb; replace a0 := cell_on hb a0; replace a1 := cell_on hb a1; replace a2 := cell_on hb a2; replace b0 := cell_on hb b0; replace b1 := cell_on hb b1; replace b2 := cell_on hb b2; replace b3 := cell_on hb b3
  clear hb
  go_wp2_with fail
  refine (HR.out _ (tab_on HT.out hB)).mono ?_
  rintro e w1 ⟨rfl, hb⟩
  replace hB := below_on hB (Nat.le_refl _) hb; replace a0 := cell_on hb a0; replace a1 := cell_on hb a1; replace a2 := cell_on hb a2; replace b0 := cell_on hb b0; replace b1 := cell_on hb b1; replace b2 := cell_on hb b2; replace b3 := cell_on hb b3
  clear hb
  have hb := below_alloc1 w1 (Obj.cells #[Value.int .i64 k, Value.int .i64 t, Value.int .i64 u, Value.string b] 34)
  replace hB := below_on hB (Nat.le_refl _) hb; replace a0 := cell_on hb a0; replace a1 := cell_on hb a1; replace a2 := cell_on hb a2; replace b0 := cell_on hb b0; replace b1 := cell_on hb b1; replace b2 := cell_on hb b2; replace b3 := cell_on hb b3
  clear hb
  have z0 : (w1.alloc (Obj.cells #[Value.int .i64 k, Value.int .i64 t, Value.int .i64 u, Value.string b] 34)).cell? ⟨w1.heap.size, 0, none⟩ = some (Value.int .i64 k) := by simp
  have z1 : (w1.alloc (Obj.cells #[Value.int .i64 k, Value.int .i64 t, Value.int .i64 u, Value.string b] 34)).cell? ⟨w1.heap.size, 1, none⟩ = some (Value.int .i64 t) := by simp
  have z2 : (w1.alloc (Obj.cells #[Value.int .i64 k, Value.int .i64 t, Value.int .i64 u, Value.string b] 34)).cell? ⟨w1.heap.size, 2, none⟩ = some (Value.int .i64 u) := by simp
  have z3 : (w1.alloc (Obj.cells #[Value.int .i64 k, Value.int .i64 t, Value.int .i64 u, Value.string b] 34)).cell? ⟨w1.heap.size, 3, none⟩ = some (Value.string b) := by simp
  go_wp2
  go_ret
  exact ⟨ret_bool (decide_eq_true (by omega)), hB⟩

theorem topRow_walk (x y k t u : Int) (d b : ByteArray) (w : World) (htab : Lib.TabIs Tryd.prog w "internal/strconv.uint64pow10" .u64 Lib.pow10Tab) :
    Calls Tryd.prog 6 #[.agg #[.int .i64 x, .int .i64 y, .string d], .agg #[.int .i64 k, .int .i64 t, .int .i64 u, .string b]] w fun e w' => e = .returned (.bool true) ∧ Below w.heap.size w w' := by
  by_cases h1 : d.size ≤ 50
  · by_cases h2 : b.size ≤ 100
    · have hm : (∃ s : ByteArray, s.size ≤ 40 ∧ (∀ w', Lib.TabIs Tryd.prog w' "internal/strconv.uint64pow10" .u64 Lib.pow10Tab → Calls Tryd.prog 25 #[.agg #[.int .i64 k, .int .i64 t, .int .i64 u, .string b]] w' fun e w'' => e = .returned (.tuple #[.string s, .nilIface]) ∧ Below w'.heap.size w' w'') ∧ (∀ w', Lib.TabIs Tryd.prog w' "internal/strconv.uint64pow10" .u64 Lib.pow10Tab → Calls Tryd.prog 27 #[.int .i64 k, .string s] w' fun e w'' => e = .returned (.tuple #[.agg #[.int .i64 k, .int .i64 t, .int .i64 u, .string b], .nilIface]) ∧ Below w'.heap.size w' w'')) ∨ (∃ c : Int, (∀ w', Calls Tryd.prog 25 #[.agg #[.int .i64 k, .int .i64 t, .int .i64 u, .string b]] w' fun e w'' => e = .returned (.tuple #[.string ⟨#[]⟩, .iface 23 (.int .i64 c)]) ∧ Below w'.heap.size w' w'')) := by
        by_cases g : (0 ≤ t ∧ t ≤ 9) ∧ (0 ≤ u ∧ u ≤ 2000000) ∧ b.size ≤ 28
        · obtain ⟨⟨g1, g2⟩, ⟨g3, g4⟩, g5⟩ := g
          obtain ⟨t', rfl⟩ := Int.eq_ofNat_of_zero_le g1
          obtain ⟨u', rfl⟩ := Int.eq_ofNat_of_zero_le g3
          have hsz := join_one t' u' b (by omega) (by omega)
          exact Or.inl ⟨joinB t' u' b, by omega, fun w' h => messageText_ok k t' u' b w' (by omega) (by omega) g5 h, fun w' h => parseMessage_join k t' u' b w' (by omega) (by omega) g5 h⟩
        · exact Or.inr ⟨1, fun w' => messageText_bound k t u b w' (by omega)⟩
      have hq : (∃ s : ByteArray, s.size ≤ 40 ∧ (∀ w', Lib.TabIs Tryd.prog w' "internal/strconv.uint64pow10" .u64 Lib.pow10Tab → Calls Tryd.prog 21 #[.agg #[.int .i64 x, .int .i64 y, .string d]] w' fun e w'' => e = .returned (.tuple #[.string s, .nilIface]) ∧ Below w'.heap.size w' w'') ∧ (∀ w', Lib.TabIs Tryd.prog w' "internal/strconv.uint64pow10" .u64 Lib.pow10Tab → Calls Tryd.prog 23 #[.string s] w' fun e w'' => e = .returned (.tuple #[.agg #[.int .i64 x, .int .i64 y, .string d], .nilIface]) ∧ Below w'.heap.size w' w'')) ∨ (∃ c : Int, (∀ w', Calls Tryd.prog 21 #[.agg #[.int .i64 x, .int .i64 y, .string d]] w' fun e w'' => e = .returned (.tuple #[.string ⟨#[]⟩, .iface 23 (.int .i64 c)]) ∧ Below w'.heap.size w' w'')) := by
        by_cases g : (0 ≤ x ∧ x ≤ 999999) ∧ (1 ≤ y ∧ y ≤ 9)
        · obtain ⟨⟨g1, g2⟩, ⟨g3, g4⟩⟩ := g
          cases e : d.toList.isEmpty with
          | true =>
            obtain ⟨x', rfl⟩ := Int.eq_ofNat_of_zero_le g1
            obtain ⟨y', rfl⟩ := Int.eq_ofNat_of_zero_le (show 0 ≤ y by omega)
            have hsz := (join_size x' y' d (by omega) (by omega)).1
            have hz : d.size = 0 := by rw [Lib.size_eq, ← Lib.toList_data, List.isEmpty_iff.1 e]; rfl
            exact Or.inl ⟨joinB x' y' d, by omega, fun w' h => queueText_ok x' y' d w' (by omega) (by omega) (by omega) (Or.inl e) (by omega) h, fun w' h => parseQueue_join x' y' d w' (by omega) (by omega) (by omega) (Or.inl e) (by omega) h⟩
          | false =>
            cases e' : nameL d.data.toList with
            | true =>
              obtain ⟨x', rfl⟩ := Int.eq_ofNat_of_zero_le g1
              obtain ⟨y', rfl⟩ := Int.eq_ofNat_of_zero_le (show 0 ≤ y by omega)
              have hsz := (join_size x' y' d (by omega) (by omega)).1
              have hz := name_size e'
              exact Or.inl ⟨joinB x' y' d, by omega, fun w' h => queueText_ok x' y' d w' (by omega) (by omega) (by omega) (Or.inr ⟨e, e'⟩) (by omega) h, fun w' h => parseQueue_join x' y' d w' (by omega) (by omega) (by omega) (Or.inr ⟨e, e'⟩) (by omega) h⟩
            | false => exact Or.inr ⟨3, fun w' => queueText_shape x y d w' g1 g2 g3 g4 e e'⟩
        · exact Or.inr ⟨1, fun w' => queueText_bound x y d w' (by omega)⟩
      rcases hq with ⟨s, hs, q⟩ | ⟨c, q⟩
      · rcases hm with ⟨s', hs', m⟩ | ⟨c', m⟩
        · exact topRow_ok_ok x y k t u d b w h1 h2 s s' hs hs' q m htab
        · exact topRow_ok_no x y k t u d b w h1 h2 c' s hs q m htab
      · rcases hm with ⟨s', hs', m⟩ | ⟨c', m⟩
        · exact topRow_no_ok x y k t u d b w h1 h2 c s' hs' q m htab
        · exact topRow_no_no x y k t u d b w h1 h2 c c' q m htab
    · exact topRow_heavy x y k t u d b w (Or.inr ⟨h1, by omega⟩) htab
  · exact topRow_heavy x y k t u d b w (Or.inl (by omega)) htab
end Go.Proofs.YtcaopggeainpnaaDoor
