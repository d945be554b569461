/-
  What package row's ParseQueue and ParseMessage return of a text that QueueText, or MessageText, has made; nothing that was there is changed.
-/
import Derived.Test.YtlndiohdjdgaoaaDoorRowSplit
import Derived.Test.YtlndiohdjdgaoaaDoorShelfA
import Derived.Test.YtlndiohdjdgaoaaDoorSame
namespace Go.Proofs.YtlndiohdjdgaoaaDoor
open Go.RowKit Go.Joins

theorem atoi_any (n : Nat) (w : World) (hn : n ≤ 9999999) :
    Calls Tryd.prog 53 #[.string (decB n)] w fun e w' => (∃ ev, e = .returned (.tuple #[.int .i64 n, ev])) ∧ Below w.heap.size w w' :=
  (Tryd.strconv_Atoi (decB n) n (by rw [Lib.size_eq, decB_l]; have := len_dec_lt n hn; omega) (by rw [decB_l]; exact atoi_dec n) w).mono fun e w' ⟨he, t, hw⟩ =>
    ⟨⟨_, he⟩, by rw [hw]; exact below_bytesWorld _ w 5 t (Nat.le_refl _)⟩
theorem split_join (a b : Nat) (r : ByteArray) (w : World) (ha : a ≤ 9999999) (hb : b ≤ 9999999) (hr : r.size ≤ 1000) :
    Calls Tryd.prog 40 #[.string (joinB a b r)] w fun e w' => e = .returned (.tuple #[.int .i64 a, .int .i64 b, .string r]) ∧ Below w.heap.size w w' :=
  have hs := join_size a b r ha hb
  split_of (joinB a b r) (decB a) (tailB b r) (decB b) r true true a b w (by unfold maxLen; omega) (by unfold maxLen; omega) (cut_join a b r) (cut_tail b r)
    (fun w' _ => atoi_any a w' ha) (fun w' _ => atoi_any b w' hb)

set_option maxHeartbeats 2000000 in
theorem parseQueue_join (n t : Nat) (d : ByteArray) (w : World) (hn : n ≤ 999999) (ht : 1 ≤ t) (ht' : t ≤ 9) (hd : d.toList.isEmpty = true ∨ (d.toList.isEmpty = false ∧ nameL d.data.toList = true)) (hs : d.size ≤ 1000) (htab : Lib.TabIs Tryd.prog w "internal/strconv.uint64pow10" .u64 Lib.pow10Tab) :
    Calls Tryd.prog 23 #[.string (joinB n t d)] w fun e w' => e = .returned (.tuple #[.agg #[.int .i64 n, .int .i64 t, .string d], .nilIface]) ∧ Below w.heap.size w w' := by
  have k1 := fun w => split_join n t d w (by omega) (by omega) hs
  have k2 := fun w => queueText_ok n t d w hn ht ht' hd hs
  have K1 := hide k1
  have K2 := hide k2
  have HT := hide htab
  have n1 := nil_neq_nil
  clear k1 k2 htab hd
  generalize joinB n t d = s at *
  have hB := below_alloc1 w (Obj.cells #[Value.int .i64 0, Value.int .i64 0, Value.string ⟨#[]⟩] 32)
  have fz := frozen_new w #[Value.int .i64 0, Value.int .i64 0, Value.string ⟨#[]⟩] 32
  have r0 : (w.alloc (Obj.cells #[Value.int .i64 0, Value.int .i64 0, Value.string ⟨#[]⟩] 32)).cell? ⟨w.heap.size, 0, none⟩ = some (Value.int .i64 0) := by simp
  have r1 : (w.alloc (Obj.cells #[Value.int .i64 0, Value.int .i64 0, Value.string ⟨#[]⟩] 32)).cell? ⟨w.heap.size, 1, none⟩ = some (Value.int .i64 0) := by simp
  have r2 : (w.alloc (Obj.cells #[Value.int .i64 0, Value.int .i64 0, Value.string ⟨#[]⟩] 32)).cell? ⟨w.heap.size, 2, none⟩ = some (Value.string ⟨#[]⟩) := by simp
  have hlt : w.heap.size < (w.alloc (Obj.cells #[Value.int .i64 0, Value.int .i64 0, Value.string ⟨#[]⟩] 32)).heap.size := by simp
  go_enter Tryd.func23, Tryd.ntmps23
  go_wp2_with fail
  refine (K1.out _).mono ?_
  rintro e w1 ⟨rfl, hb1⟩
  replace hB := below_on hB (Nat.le_refl _) hb1
  replace fz := fun j => frozen_on hb1 hlt (fz j)
  replace r0 := cell_on hb1 r0
  replace r1 := cell_on hb1 r1
  replace r2 := cell_on hb1 r2
  replace hlt := Nat.lt_of_lt_of_le hlt hb1.size
  have hb2 := below_alloc1 w1 (Obj.cells #[Value.int .i64 n, Value.int .i64 t, Value.string d] 32)
  replace hB := below_on hB (Nat.le_refl _) hb2
  replace fz := fun j => frozen_on hb2 hlt (fz j)
  replace r0 := cell_on hb2 r0
  replace r1 := cell_on hb2 r1
  replace r2 := cell_on hb2 r2
  have q0 : (w1.alloc (Obj.cells #[Value.int .i64 n, Value.int .i64 t, Value.string d] 32)).cell? ⟨w1.heap.size, 0, none⟩ = some (Value.int .i64 n) := by simp
  have q1 : (w1.alloc (Obj.cells #[Value.int .i64 n, Value.int .i64 t, Value.string d] 32)).cell? ⟨w1.heap.size, 1, none⟩ = some (Value.int .i64 t) := by simp
  have q2 : (w1.alloc (Obj.cells #[Value.int .i64 n, Value.int .i64 t, Value.string d] 32)).cell? ⟨w1.heap.size, 2, none⟩ = some (Value.string d) := by simp
  replace hlt := Nat.lt_of_lt_of_le hlt hb2.size
  go_wp2_with fail
  refine (K2.out _ (tab_on HT.out hB)).mono ?_
  rintro e w2 ⟨rfl, hb3⟩
  replace hB := below_on hB (Nat.le_refl _) hb3
  replace fz := fun j => frozen_on hb3 hlt (fz j)
  replace r0 := cell_on hb3 r0
  replace r1 := cell_on hb3 r1
  replace r2 := cell_on hb3 r2
  replace q0 := cell_on hb3 q0
  replace q1 := cell_on hb3 q1
  replace q2 := cell_on hb3 q2
  clear hb1 hb2 hb3 hlt
  go_wp2
  exact bodyPost_ret (v := .tuple #[.agg #[.int .i64 n, .int .i64 t, .string d], .nilIface]) (by simp [results, Tryd.results23, go_sem, r0, r1, r2]) rfl ⟨rfl, (((hB.setCell (Nat.le_refl _) _).setCell (Nat.le_refl _) _).setCell (Nat.le_refl _) _)⟩

set_option maxHeartbeats 2000000 in
theorem parseMessage_join (k : Int) (t u : Nat) (d : ByteArray) (w : World) (ht : t ≤ 9) (hu : u ≤ 2000000) (hs : d.size ≤ 28) (htab : Lib.TabIs Tryd.prog w "internal/strconv.uint64pow10" .u64 Lib.pow10Tab) :
    Calls Tryd.prog 27 #[.int .i64 k, .string (joinB t u d)] w fun e w' => e = .returned (.tuple #[.agg #[.int .i64 k, .int .i64 t, .int .i64 u, .string d], .nilIface]) ∧ Below w.heap.size w w' := by
  have k1 := fun w => split_join t u d w (by omega) (by omega) (by omega)
  have k2 := fun w => messageText_ok k t u d w ht hu hs
  have K1 := hide k1
  have K2 := hide k2
  have HT := hide htab
  have n1 := nil_neq_nil
  clear k1 k2 htab
  generalize joinB t u d = s at *
  have hB := below_alloc1 w (Obj.cells #[Value.int .i64 0, Value.int .i64 0, Value.int .i64 0, Value.string ⟨#[]⟩] 34)
  have fz := frozen_new w #[Value.int .i64 0, Value.int .i64 0, Value.int .i64 0, Value.string ⟨#[]⟩] 34
  have r0 : (w.alloc (Obj.cells #[Value.int .i64 0, Value.int .i64 0, Value.int .i64 0, Value.string ⟨#[]⟩] 34)).cell? ⟨w.heap.size, 0, none⟩ = some (Value.int .i64 0) := by simp
  have r1 : (w.alloc (Obj.cells #[Value.int .i64 0, Value.int .i64 0, Value.int .i64 0, Value.string ⟨#[]⟩] 34)).cell? ⟨w.heap.size, 1, none⟩ = some (Value.int .i64 0) := by simp
  have r2 : (w.alloc (Obj.cells #[Value.int .i64 0, Value.int .i64 0, Value.int .i64 0, Value.string ⟨#[]⟩] 34)).cell? ⟨w.heap.size, 2, none⟩ = some (Value.int .i64 0) := by simp
  have r3 : (w.alloc (Obj.cells #[Value.int .i64 0, Value.int .i64 0, Value.int .i64 0, Value.string ⟨#[]⟩] 34)).cell? ⟨w.heap.size, 3, none⟩ = some (Value.string ⟨#[]⟩) := by simp
  have hlt : w.heap.size < (w.alloc (Obj.cells #[Value.int .i64 0, Value.int .i64 0, Value.int .i64 0, Value.string ⟨#[]⟩] 34)).heap.size := by simp
  go_enter Tryd.func27, Tryd.ntmps27
  go_wp2_with fail
  refine (K1.out _).mono ?_
  rintro e w1 ⟨rfl, hb1⟩
  replace hB := below_on hB (Nat.le_refl _) hb1
  replace fz := fun j => frozen_on hb1 hlt (fz j)
  replace r0 := cell_on hb1 r0
  replace r1 := cell_on hb1 r1
  replace r2 := cell_on hb1 r2
  replace r3 := cell_on hb1 r3
  replace hlt := Nat.lt_of_lt_of_le hlt hb1.size
  have hb2 := below_alloc1 w1 (Obj.cells #[Value.int .i64 k, Value.int .i64 t, Value.int .i64 u, Value.string d] 34)
  replace hB := below_on hB (Nat.le_refl _) hb2
  replace fz := fun j => frozen_on hb2 hlt (fz j)
  replace r0 := cell_on hb2 r0
  replace r1 := cell_on hb2 r1
  replace r2 := cell_on hb2 r2
  replace r3 := cell_on hb2 r3
  have q0 : (w1.alloc (Obj.cells #[Value.int .i64 k, Value.int .i64 t, Value.int .i64 u, Value.string d] 34)).cell? ⟨w1.heap.size, 0, none⟩ = some (Value.int .i64 k) := by simp
  have q1 : (w1.alloc (Obj.cells #[Value.int .i64 k, Value.int .i64 t, Value.int .i64 u, Value.string d] 34)).cell? ⟨w1.heap.size, 1, none⟩ = some (Value.int .i64 t) := by simp
  have q2 : (w1.alloc (Obj.cells #[Value.int .i64 k, Value.int .i64 t, Value.int .i64 u, Value.string d] 34)).cell? ⟨w1.heap.size, 2, none⟩ = some (Value.int .i64 u) := by simp
  have q3 : (w1.alloc (Obj.cells #[Value.int .i64 k, Value.int .i64 t, Value.int .i64 u, Value.string d] 34)).cell? ⟨w1.heap.size, 3, none⟩ = some (Value.string d) := by simp
  replace hlt := Nat.lt_of_lt_of_le hlt hb2.size
  go_wp2_with fail
  refine (K2.out _ (tab_on HT.out hB)).mono ?_
  rintro e w2 ⟨rfl, hb3⟩
  replace hB := below_on hB (Nat.le_refl _) hb3
  replace fz := fun j => frozen_on hb3 hlt (fz j)
  replace r0 := cell_on hb3 r0
  replace r1 := cell_on hb3 r1
  replace r2 := cell_on hb3 r2
  replace r3 := cell_on hb3 r3
  replace q0 := cell_on hb3 q0
  replace q1 := cell_on hb3 q1
  replace q2 := cell_on hb3 q2
  replace q3 := cell_on hb3 q3
  clear hb1 hb2 hb3 hlt
  go_wp2
  exact bodyPost_ret (v := .tuple #[.agg #[.int .i64 k, .int .i64 t, .int .i64 u, .string d], .nilIface]) (by simp [results, Tryd.results27, go_sem, r0, r1, r2, r3]) rfl ⟨rfl, ((((hB.setCell (Nat.le_refl _) _).setCell (Nat.le_refl _) _).setCell (Nat.le_refl _) _).setCell (Nat.le_refl _) _)⟩
end Go.Proofs.YtlndiohdjdgaoaaDoor
