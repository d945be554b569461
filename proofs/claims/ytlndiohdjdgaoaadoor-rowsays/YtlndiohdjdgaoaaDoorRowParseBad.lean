/-
  What package row's ParseQueue and ParseMessage return of texts that are none; nothing that was there is changed.
-/
import Derived.Test.YtlndiohdjdgaoaaDoorRowErr
import Derived.Test.YtlndiohdjdgaoaaDoorRowParse
namespace Go.Proofs.YtlndiohdjdgaoaaDoor
open Go.RowKit Go.Joins

set_option maxHeartbeats 2000000 in
theorem parseQueue_err (s : ByteArray) (x y : Int) (r : ByteArray) (c : Int) (w : World) (hL : Laid w)
    (k1 : ∀ w', Laid w' → Calls Tryd.prog 40 #[.string s] w' fun e w'' => e = .returned (.tuple #[.int .i64 x, .int .i64 y, .string r]) ∧ Below w'.heap.size w' w'')
    (k2 : ∀ w', Laid w' → Calls Tryd.prog 21 #[.agg #[.int .i64 x, .int .i64 y, .string r]] w' fun e w'' => e = .returned (.tuple #[.string ⟨#[]⟩, .iface 23 (.int .i64 c)]) ∧ Below w'.heap.size w' w'') :
    Calls Tryd.prog 23 #[.string s] w fun e w' => e = .returned (.tuple #[.agg #[.int .i64 0, .int .i64 0, .string ⟨#[]⟩], .iface 23 (.int .i64 4)]) ∧ Below w.heap.size w w' := by
  have K1 := hide k1
  have K2 := hide k2
  have HT := hide hL
  have n1 := err_neq_nil 23
  clear k1 k2 hL
  have hB := below_alloc1 w (Obj.cells #[Value.int .i64 0, Value.int .i64 0, Value.string ⟨#[]⟩] 32)
  have fz := frozen_new w #[Value.int .i64 0, Value.int .i64 0, Value.string ⟨#[]⟩] 32
  have r0 : (w.alloc (Obj.cells #[Value.int .i64 0, Value.int .i64 0, Value.string ⟨#[]⟩] 32)).cell? ⟨w.heap.size, 0, none⟩ = some (Value.int .i64 0) := by simp
  have r1 : (w.alloc (Obj.cells #[Value.int .i64 0, Value.int .i64 0, Value.string ⟨#[]⟩] 32)).cell? ⟨w.heap.size, 1, none⟩ = some (Value.int .i64 0) := by simp
  have r2 : (w.alloc (Obj.cells #[Value.int .i64 0, Value.int .i64 0, Value.string ⟨#[]⟩] 32)).cell? ⟨w.heap.size, 2, none⟩ = some (Value.string ⟨#[]⟩) := by simp
  have hlt : w.heap.size < (w.alloc (Obj.cells #[Value.int .i64 0, Value.int .i64 0, Value.string ⟨#[]⟩] 32)).heap.size := by simp
  go_enter Tryd.func23, Tryd.ntmps23
  go_wp2_with fail
  refine (K1.out _ (laid_on HT.out hB)).mono ?_
  rintro e w1 ⟨rfl, hb1⟩
  replace hB := below_on hB (Nat.le_refl _) hb1
  replace fz := fun j => frozen_on hb1 hlt (fz j)
  replace r0 := cell_on hb1 r0
  replace r1 := cell_on hb1 r1
  replace r2 := cell_on hb1 r2
  replace hlt := Nat.lt_of_lt_of_le hlt hb1.size
  have hb2 := below_alloc1 w1 (Obj.cells #[Value.int .i64 x, Value.int .i64 y, Value.string r] 32)
  replace hB := below_on hB (Nat.le_refl _) hb2
  replace fz := fun j => frozen_on hb2 hlt (fz j)
  replace r0 := cell_on hb2 r0
  replace r1 := cell_on hb2 r1
  replace r2 := cell_on hb2 r2
  have q0 : (w1.alloc (Obj.cells #[Value.int .i64 x, Value.int .i64 y, Value.string r] 32)).cell? ⟨w1.heap.size, 0, none⟩ = some (Value.int .i64 x) := by simp
  have q1 : (w1.alloc (Obj.cells #[Value.int .i64 x, Value.int .i64 y, Value.string r] 32)).cell? ⟨w1.heap.size, 1, none⟩ = some (Value.int .i64 y) := by simp
  have q2 : (w1.alloc (Obj.cells #[Value.int .i64 x, Value.int .i64 y, Value.string r] 32)).cell? ⟨w1.heap.size, 2, none⟩ = some (Value.string r) := by simp
  replace hlt := Nat.lt_of_lt_of_le hlt hb2.size
  go_wp2_with fail
  refine (K2.out _ (laid_on HT.out hB)).mono ?_
  rintro e w2 ⟨rfl, hb3⟩
  replace hB := below_on hB (Nat.le_refl _) hb3
  replace fz := fun j => frozen_on hb3 hlt (fz j)
  replace r0 := cell_on hb3 r0
  replace r1 := cell_on hb3 r1
  replace r2 := cell_on hb3 r2
  replace q0 := cell_on hb3 q0
  replace q1 := cell_on hb3 q1
  replace q2 := cell_on hb3 q2
  clear hb1 hb2 hb3 hlt
  go_wp2
  exact bodyPost_ret (v := .tuple #[.agg #[.int .i64 0, .int .i64 0, .string ⟨#[]⟩], .iface 23 (.int .i64 4)]) (by simp [results, Tryd.results23, go_sem, r0, r1, r2]) rfl ⟨rfl, (((hB.setCell (Nat.le_refl _) _).setCell (Nat.le_refl _) _).setCell (Nat.le_refl _) _)⟩
set_option maxHeartbeats 2000000 in
theorem parseQueue_ne (s : ByteArray) (x y : Int) (r : ByteArray) (T : ByteArray) (hne : ¬ T.toList = s.toList) (w : World) (hL : Laid w)
    (k1 : ∀ w', Laid w' → Calls Tryd.prog 40 #[.string s] w' fun e w'' => e = .returned (.tuple #[.int .i64 x, .int .i64 y, .string r]) ∧ Below w'.heap.size w' w'')
    (k2 : ∀ w', Laid w' → Calls Tryd.prog 21 #[.agg #[.int .i64 x, .int .i64 y, .string r]] w' fun e w'' => e = .returned (.tuple #[.string T, .nilIface]) ∧ Below w'.heap.size w' w'') :
    Calls Tryd.prog 23 #[.string s] w fun e w' => e = .returned (.tuple #[.agg #[.int .i64 0, .int .i64 0, .string ⟨#[]⟩], .iface 23 (.int .i64 4)]) ∧ Below w.heap.size w w' := by
  have K1 := hide k1
  have K2 := hide k2
  have HT := hide hL
  have n1 := nil_neq_nil
  have hn2 : (T.toList == s.toList) = false := beq_eq_false_iff_ne.2 hne
  have hn3 : (T.toList != s.toList) = true := bne_iff_ne.2 hne
  clear k1 k2 hL
  have hB := below_alloc1 w (Obj.cells #[Value.int .i64 0, Value.int .i64 0, Value.string ⟨#[]⟩] 32)
  have fz := frozen_new w #[Value.int .i64 0, Value.int .i64 0, Value.string ⟨#[]⟩] 32
  have r0 : (w.alloc (Obj.cells #[Value.int .i64 0, Value.int .i64 0, Value.string ⟨#[]⟩] 32)).cell? ⟨w.heap.size, 0, none⟩ = some (Value.int .i64 0) := by simp
  have r1 : (w.alloc (Obj.cells #[Value.int .i64 0, Value.int .i64 0, Value.string ⟨#[]⟩] 32)).cell? ⟨w.heap.size, 1, none⟩ = some (Value.int .i64 0) := by simp
  have r2 : (w.alloc (Obj.cells #[Value.int .i64 0, Value.int .i64 0, Value.string ⟨#[]⟩] 32)).cell? ⟨w.heap.size, 2, none⟩ = some (Value.string ⟨#[]⟩) := by simp
  have hlt : w.heap.size < (w.alloc (Obj.cells #[Value.int .i64 0, Value.int .i64 0, Value.string ⟨#[]⟩] 32)).heap.size := by simp
  go_enter Tryd.func23, Tryd.ntmps23
  go_wp2_with fail
  refine (K1.out _ (laid_on HT.out hB)).mono ?_
  rintro e w1 ⟨rfl, hb1⟩
  replace hB := below_on hB (Nat.le_refl _) hb1
  replace fz := fun j => frozen_on hb1 hlt (fz j)
  replace r0 := cell_on hb1 r0
  replace r1 := cell_on hb1 r1
  replace r2 := cell_on hb1 r2
  replace hlt := Nat.lt_of_lt_of_le hlt hb1.size
  have hb2 := below_alloc1 w1 (Obj.cells #[Value.int .i64 x, Value.int .i64 y, Value.string r] 32)
  replace hB := below_on hB (Nat.le_refl _) hb2
  replace fz := fun j => frozen_on hb2 hlt (fz j)
  replace r0 := cell_on hb2 r0
  replace r1 := cell_on hb2 r1
  replace r2 := cell_on hb2 r2
  have q0 : (w1.alloc (Obj.cells #[Value.int .i64 x, Value.int .i64 y, Value.string r] 32)).cell? ⟨w1.heap.size, 0, none⟩ = some (Value.int .i64 x) := by simp
  have q1 : (w1.alloc (Obj.cells #[Value.int .i64 x, Value.int .i64 y, Value.string r] 32)).cell? ⟨w1.heap.size, 1, none⟩ = some (Value.int .i64 y) := by simp
  have q2 : (w1.alloc (Obj.cells #[Value.int .i64 x, Value.int .i64 y, Value.string r] 32)).cell? ⟨w1.heap.size, 2, none⟩ = some (Value.string r) := by simp
  replace hlt := Nat.lt_of_lt_of_le hlt hb2.size
  go_wp2_with fail
  refine (K2.out _ (laid_on HT.out hB)).mono ?_
  rintro e w2 ⟨rfl, hb3⟩
  replace hB := below_on hB (Nat.le_refl _) hb3
  replace fz := fun j => frozen_on hb3 hlt (fz j)
  replace r0 := cell_on hb3 r0
  replace r1 := cell_on hb3 r1
  replace r2 := cell_on hb3 r2
  replace q0 := cell_on hb3 q0
  replace q1 := cell_on hb3 q1
  replace q2 := cell_on hb3 q2
  clear hb1 hb2 hb3 hlt
  go_wp2
  exact bodyPost_ret (v := .tuple #[.agg #[.int .i64 0, .int .i64 0, .string ⟨#[]⟩], .iface 23 (.int .i64 4)]) (by simp [results, Tryd.results23, go_sem, r0, r1, r2]) rfl ⟨rfl, (((hB.setCell (Nat.le_refl _) _).setCell (Nat.le_refl _) _).setCell (Nat.le_refl _) _)⟩
set_option maxHeartbeats 2000000 in
theorem parseMessage_err (s : ByteArray) (k : Int) (x y : Int) (r : ByteArray) (c : Int) (w : World) (hL : Laid w)
    (k1 : ∀ w', Laid w' → Calls Tryd.prog 40 #[.string s] w' fun e w'' => e = .returned (.tuple #[.int .i64 x, .int .i64 y, .string r]) ∧ Below w'.heap.size w' w'')
    (k2 : ∀ w', Laid w' → Calls Tryd.prog 25 #[.agg #[.int .i64 k, .int .i64 x, .int .i64 y, .string r]] w' fun e w'' => e = .returned (.tuple #[.string ⟨#[]⟩, .iface 23 (.int .i64 c)]) ∧ Below w'.heap.size w' w'') :
    Calls Tryd.prog 27 #[.int .i64 k, .string s] w fun e w' => e = .returned (.tuple #[.agg #[.int .i64 0, .int .i64 0, .int .i64 0, .string ⟨#[]⟩], .iface 23 (.int .i64 4)]) ∧ Below w.heap.size w w' := by
  have K1 := hide k1
  have K2 := hide k2
  have HT := hide hL
  have n1 := err_neq_nil 23
  clear k1 k2 hL
  have hB := below_alloc1 w (Obj.cells #[Value.int .i64 0, Value.int .i64 0, Value.int .i64 0, Value.string ⟨#[]⟩] 34)
  have fz := frozen_new w #[Value.int .i64 0, Value.int .i64 0, Value.int .i64 0, Value.string ⟨#[]⟩] 34
  have r0 : (w.alloc (Obj.cells #[Value.int .i64 0, Value.int .i64 0, Value.int .i64 0, Value.string ⟨#[]⟩] 34)).cell? ⟨w.heap.size, 0, none⟩ = some (Value.int .i64 0) := by simp
  have r1 : (w.alloc (Obj.cells #[Value.int .i64 0, Value.int .i64 0, Value.int .i64 0, Value.string ⟨#[]⟩] 34)).cell? ⟨w.heap.size, 1, none⟩ = some (Value.int .i64 0) := by simp
  have r2 : (w.alloc (Obj.cells #[Value.int .i64 0, Value.int .i64 0, Value.int .i64 0, Value.string ⟨#[]⟩] 34)).cell? ⟨w.heap.size, 2, none⟩ = some (Value.int .i64 0) := by simp
  have r3 : (w.alloc (Obj.cells #[Value.int .i64 0, Value.int .i64 0, Value.int .i64 0, Value.string ⟨#[]⟩] 34)).cell? ⟨w.heap.size, 3, none⟩ = some (Value.string ⟨#[]⟩) := by simp
  have hlt : w.heap.size < (w.alloc (Obj.cells #[Value.int .i64 0, Value.int .i64 0, Value.int .i64 0, Value.string ⟨#[]⟩] 34)).heap.size := by simp
  go_enter Tryd.func27, Tryd.ntmps27
  go_wp2_with fail
  refine (K1.out _ (laid_on HT.out hB)).mono ?_
  rintro e w1 ⟨rfl, hb1⟩
  replace hB := below_on hB (Nat.le_refl _) hb1
  replace fz := fun j => frozen_on hb1 hlt (fz j)
  replace r0 := cell_on hb1 r0
  replace r1 := cell_on hb1 r1
  replace r2 := cell_on hb1 r2
  replace r3 := cell_on hb1 r3
  replace hlt := Nat.lt_of_lt_of_le hlt hb1.size
  have hb2 := below_alloc1 w1 (Obj.cells #[Value.int .i64 k, Value.int .i64 x, Value.int .i64 y, Value.string r] 34)
  replace hB := below_on hB (Nat.le_refl _) hb2
  replace fz := fun j => frozen_on hb2 hlt (fz j)
  replace r0 := cell_on hb2 r0
  replace r1 := cell_on hb2 r1
  replace r2 := cell_on hb2 r2
  replace r3 := cell_on hb2 r3
  have q0 : (w1.alloc (Obj.cells #[Value.int .i64 k, Value.int .i64 x, Value.int .i64 y, Value.string r] 34)).cell? ⟨w1.heap.size, 0, none⟩ = some (Value.int .i64 k) := by simp
  have q1 : (w1.alloc (Obj.cells #[Value.int .i64 k, Value.int .i64 x, Value.int .i64 y, Value.string r] 34)).cell? ⟨w1.heap.size, 1, none⟩ = some (Value.int .i64 x) := by simp
  have q2 : (w1.alloc (Obj.cells #[Value.int .i64 k, Value.int .i64 x, Value.int .i64 y, Value.string r] 34)).cell? ⟨w1.heap.size, 2, none⟩ = some (Value.int .i64 y) := by simp
  have q3 : (w1.alloc (Obj.cells #[Value.int .i64 k, Value.int .i64 x, Value.int .i64 y, Value.string r] 34)).cell? ⟨w1.heap.size, 3, none⟩ = some (Value.string r) := by simp
  replace hlt := Nat.lt_of_lt_of_le hlt hb2.size
  go_wp2_with fail
  refine (K2.out _ (laid_on HT.out hB)).mono ?_
  rintro e w2 ⟨rfl, hb3⟩
  replace hB := below_on hB (Nat.le_refl _) hb3
  replace fz := fun j => frozen_on hb3 hlt (fz j)
  replace r0 := cell_on hb3 r0
  replace r1 := cell_on hb3 r1
  replace r2 := cell_on hb3 r2
  replace r3 := cell_on hb3 r3
  replace q0 := cell_on hb3 q0
  replace q1 := cell_on hb3 q1
  replace q2 := cell_on hb3 q2
  replace q3 := cell_on hb3 q3
  clear hb1 hb2 hb3 hlt
  go_wp2
  exact bodyPost_ret (v := .tuple #[.agg #[.int .i64 0, .int .i64 0, .int .i64 0, .string ⟨#[]⟩], .iface 23 (.int .i64 4)]) (by simp [results, Tryd.results27, go_sem, r0, r1, r2, r3]) rfl ⟨rfl, ((((hB.setCell (Nat.le_refl _) _).setCell (Nat.le_refl _) _).setCell (Nat.le_refl _) _).setCell (Nat.le_refl _) _)⟩
set_option maxHeartbeats 2000000 in
theorem parseMessage_ne (s : ByteArray) (k : Int) (x y : Int) (r : ByteArray) (T : ByteArray) (hne : ¬ T.toList = s.toList) (w : World) (hL : Laid w)
    (k1 : ∀ w', Laid w' → Calls Tryd.prog 40 #[.string s] w' fun e w'' => e = .returned (.tuple #[.int .i64 x, .int .i64 y, .string r]) ∧ Below w'.heap.size w' w'')
    (k2 : ∀ w', Laid w' → Calls Tryd.prog 25 #[.agg #[.int .i64 k, .int .i64 x, .int .i64 y, .string r]] w' fun e w'' => e = .returned (.tuple #[.string T, .nilIface]) ∧ Below w'.heap.size w' w'') :
    Calls Tryd.prog 27 #[.int .i64 k, .string s] w fun e w' => e = .returned (.tuple #[.agg #[.int .i64 0, .int .i64 0, .int .i64 0, .string ⟨#[]⟩], .iface 23 (.int .i64 4)]) ∧ Below w.heap.size w w' := by
  have K1 := hide k1
  have K2 := hide k2
  have HT := hide hL
  have n1 := nil_neq_nil
  have hn2 : (T.toList == s.toList) = false := beq_eq_false_iff_ne.2 hne
  have hn3 : (T.toList != s.toList) = true := bne_iff_ne.2 hne
  clear k1 k2 hL
  have hB := below_alloc1 w (Obj.cells #[Value.int .i64 0, Value.int .i64 0, Value.int .i64 0, Value.string ⟨#[]⟩] 34)
  have fz := frozen_new w #[Value.int .i64 0, Value.int .i64 0, Value.int .i64 0, Value.string ⟨#[]⟩] 34
  have r0 : (w.alloc (Obj.cells #[Value.int .i64 0, Value.int .i64 0, Value.int .i64 0, Value.string ⟨#[]⟩] 34)).cell? ⟨w.heap.size, 0, none⟩ = some (Value.int .i64 0) := by simp
  have r1 : (w.alloc (Obj.cells #[Value.int .i64 0, Value.int .i64 0, Value.int .i64 0, Value.string ⟨#[]⟩] 34)).cell? ⟨w.heap.size, 1, none⟩ = some (Value.int .i64 0) := by simp
  have r2 : (w.alloc (Obj.cells #[Value.int .i64 0, Value.int .i64 0, Value.int .i64 0, Value.string ⟨#[]⟩] 34)).cell? ⟨w.heap.size, 2, none⟩ = some (Value.int .i64 0) := by simp
  have r3 : (w.alloc (Obj.cells #[Value.int .i64 0, Value.int .i64 0, Value.int .i64 0, Value.string ⟨#[]⟩] 34)).cell? ⟨w.heap.size, 3, none⟩ = some (Value.string ⟨#[]⟩) := by simp
  have hlt : w.heap.size < (w.alloc (Obj.cells #[Value.int .i64 0, Value.int .i64 0, Value.int .i64 0, Value.string ⟨#[]⟩] 34)).heap.size := by simp
  go_enter Tryd.func27, Tryd.ntmps27
  go_wp2_with fail
  refine (K1.out _ (laid_on HT.out hB)).mono ?_
  rintro e w1 ⟨rfl, hb1⟩
  replace hB := below_on hB (Nat.le_refl _) hb1
  replace fz := fun j => frozen_on hb1 hlt (fz j)
  replace r0 := cell_on hb1 r0
  replace r1 := cell_on hb1 r1
  replace r2 := cell_on hb1 r2
  replace r3 := cell_on hb1 r3
  replace hlt := Nat.lt_of_lt_of_le hlt hb1.size
  have hb2 := below_alloc1 w1 (Obj.cells #[Value.int .i64 k, Value.int .i64 x, Value.int .i64 y, Value.string r] 34)
  replace hB := below_on hB (Nat.le_refl _) hb2
  replace fz := fun j => frozen_on hb2 hlt (fz j)
  replace r0 := cell_on hb2 r0
  replace r1 := cell_on hb2 r1
  replace r2 := cell_on hb2 r2
  replace r3 := cell_on hb2 r3
  have q0 : (w1.alloc (Obj.cells #[Value.int .i64 k, Value.int .i64 x, Value.int .i64 y, Value.string r] 34)).cell? ⟨w1.heap.size, 0, none⟩ = some (Value.int .i64 k) := by simp
  have q1 : (w1.alloc (Obj.cells #[Value.int .i64 k, Value.int .i64 x, Value.int .i64 y, Value.string r] 34)).cell? ⟨w1.heap.size, 1, none⟩ = some (Value.int .i64 x) := by simp
  have q2 : (w1.alloc (Obj.cells #[Value.int .i64 k, Value.int .i64 x, Value.int .i64 y, Value.string r] 34)).cell? ⟨w1.heap.size, 2, none⟩ = some (Value.int .i64 y) := by simp
  have q3 : (w1.alloc (Obj.cells #[Value.int .i64 k, Value.int .i64 x, Value.int .i64 y, Value.string r] 34)).cell? ⟨w1.heap.size, 3, none⟩ = some (Value.string r) := by simp
  replace hlt := Nat.lt_of_lt_of_le hlt hb2.size
  go_wp2_with fail
  refine (K2.out _ (laid_on HT.out hB)).mono ?_
  rintro e w2 ⟨rfl, hb3⟩
  replace hB := below_on hB (Nat.le_refl _) hb3
  replace fz := fun j => frozen_on hb3 hlt (fz j)
  replace r0 := cell_on hb3 r0
  replace r1 := cell_on hb3 r1
  replace r2 := cell_on hb3 r2
  replace r3 := cell_on hb3 r3
  replace q0 := cell_on hb3 q0
  replace q1 := cell_on hb3 q1
  replace q2 := cell_on hb3 q2
  replace q3 := cell_on hb3 q3
  clear hb1 hb2 hb3 hlt
  go_wp2
  exact bodyPost_ret (v := .tuple #[.agg #[.int .i64 0, .int .i64 0, .int .i64 0, .string ⟨#[]⟩], .iface 23 (.int .i64 4)]) (by simp [results, Tryd.results27, go_sem, r0, r1, r2, r3]) rfl ⟨rfl, ((((hB.setCell (Nat.le_refl _) _).setCell (Nat.le_refl _) _).setCell (Nat.le_refl _) _).setCell (Nat.le_refl _) _)⟩
end Go.Proofs.YtlndiohdjdgaoaaDoor
