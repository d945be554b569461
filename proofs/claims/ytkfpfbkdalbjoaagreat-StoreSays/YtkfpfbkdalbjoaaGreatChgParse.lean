/-
  What change.split and change.Parse return of every text.
-/
import Derived.Test.YtkfpfbkdalbjoaaGreatChgCheck
namespace Go.Proofs.YtkfpfbkdalbjoaaGreat
open Go.RowKit Go.Joins

theorem wrap_small {n : Int} (h0 : 0 ≤ n) (h1 : n ≤ 100000) : wrap64 n = n := by unfold wrap64; omega

set_option maxHeartbeats 4000000 in
theorem split_some (s : ByteArray) (w : World) (h2 : 2 ≤ s.size) (hs : s.size ≤ 1000) (x y : Nat) (hx : s[0].toNat = x) (hy : s[1].toNat = y) (h1 : x ≤ 1) (hl : 2 + y ≤ s.size) :
    Calls Tryz.prog 91 #[.string s] w fun e w' => e = .returned (.tuple #[.agg #[.string (s.extract 2 (2 + y)), .string (s.extract (2 + y) s.size), .bool (decide (x = 1))], .bool true]) ∧ Below w.heap.size w w' := by
  have hB := below_alloc1 w (Obj.cells #[Value.string ⟨#[]⟩, Value.string ⟨#[]⟩, Value.bool false] 54)
  have fz := frozen_new w #[Value.string ⟨#[]⟩, Value.string ⟨#[]⟩, Value.bool false] 54
  have w1 : wrap64 (y : Int) = y := wrap_small (by omega) (by omega)
  have w2 : wrap64 (2 + (y : Int)) = 2 + y := wrap_small (by omega) (by omega)
  have d1 : decide ((s.size : Int) < 2) = false := by simp; omega
  have d2 : decide ((1 : Int) < (x : Int)) = false := by simp; omega
  have d3 : decide ((s.size : Int) < 2 + (y : Int)) = false := by simp; omega
  have g1 : 1 < (s.size : Int) := by omega
  have g0 : 0 < s.size := by omega
  have i1 : (0 : Int) ≤ 2 + (y : Int) := by omega
  have i2 : 2 + (y : Int) ≤ (s.size : Int) := by omega
  have i3 : (2 : Int) ≤ 2 + (y : Int) := by omega
  go_enter Tryz.func91, Tryz.ntmps91
  go_wp2
  go_region_held3 (fun _ => True) (trivial) (fail)
  go_wp2
  refine bodyPost_ret (v := .tuple #[.agg #[.string (s.extract 2 (2 + y)), .string (s.extract (2 + y) s.size), .bool ((x : Int) == 1)], .bool true]) (by simp [results, Tryz.results91, go_sem]; rw [show (2 + (y : Int)).toNat = 2 + y by omega]; exact ⟨rfl, rfl⟩) rfl ⟨?_, (below_alloc1 w _).drew⟩
  have hx1 : x = 0 ∨ x = 1 := by omega
  rcases hx1 with e | e <;> rw [e] <;> rfl

set_option maxHeartbeats 4000000 in
theorem parse_some (s : ByteArray) (c : Chg) (w : World) (hk : c.key.size ≤ maxLen) (hf : chgFault c = 0)
    (HS : ∀ w', Calls Tryz.prog 91 #[.string s] w' fun e w'' => e = .returned (.tuple #[.agg #[.string c.key, .string c.val, .bool c.gone], .bool true]) ∧ Below w'.heap.size w' w'') :
    Calls Tryz.prog 86 #[.string s] w fun e w' => e = .returned (.tuple #[.agg #[.string c.key, .string c.val, .bool c.gone], .nilIface]) ∧ Below w.heap.size w w' := by
  have HK := fun w' => hide (chg_check c w' hk)
  rw [hf] at HK
  replace HS := fun w' => hide (HS w')
  go_enter Tryz.func86, Tryz.ntmps86
  have hB := below_alloc1 w (Obj.cells #[Value.string ⟨#[]⟩, Value.string ⟨#[]⟩, Value.bool false] 54)
  have fz := frozen_new w #[Value.string ⟨#[]⟩, Value.string ⟨#[]⟩, Value.bool false] 54
  have h0 : w.heap.size < (w.alloc (Obj.cells #[Value.string ⟨#[]⟩, Value.string ⟨#[]⟩, Value.bool false] 54)).heap.size := by simp
  have r0 : (w.alloc (Obj.cells #[Value.string ⟨#[]⟩, Value.string ⟨#[]⟩, Value.bool false] 54)).cell? ⟨w.heap.size, 0, none⟩ = some (.string ⟨#[]⟩) := by simp
  have r1 : (w.alloc (Obj.cells #[Value.string ⟨#[]⟩, Value.string ⟨#[]⟩, Value.bool false] 54)).cell? ⟨w.heap.size, 1, none⟩ = some (.string ⟨#[]⟩) := by simp
  have r2 : (w.alloc (Obj.cells #[Value.string ⟨#[]⟩, Value.string ⟨#[]⟩, Value.bool false] 54)).cell? ⟨w.heap.size, 2, none⟩ = some (.bool false) := by simp
  go_wp2_with fail
  refine ((HS _).out).mono ?_
  rintro e w1 ⟨rfl, hb⟩
  replace hB := below_on hB (Nat.le_refl _) hb
  replace fz := fun j => frozen_on hb h0 (fz j)
  replace r0 := cell_on hb r0
  replace r1 := cell_on hb r1
  replace r2 := cell_on hb r2
  replace h0 := Nat.lt_of_lt_of_le h0 hb.size
  clear hb
  have hX := below_alloc1 w1 (Obj.cells #[Value.string c.key, Value.string c.val, Value.bool c.gone] 54)
  have h3 : w1.heap.size < (w1.alloc (Obj.cells #[Value.string c.key, Value.string c.val, Value.bool c.gone] 54)).heap.size := by simp
  have q0 : (w1.alloc (Obj.cells #[Value.string c.key, Value.string c.val, Value.bool c.gone] 54)).cell? ⟨w1.heap.size, 0, none⟩ = some (.string c.key) := by simp
  have q1 : (w1.alloc (Obj.cells #[Value.string c.key, Value.string c.val, Value.bool c.gone] 54)).cell? ⟨w1.heap.size, 1, none⟩ = some (.string c.val) := by simp
  have q2 : (w1.alloc (Obj.cells #[Value.string c.key, Value.string c.val, Value.bool c.gone] 54)).cell? ⟨w1.heap.size, 2, none⟩ = some (.bool c.gone) := by simp
  go_wp2_with fail
  refine ((HK _).out).mono ?_
  rintro e w2 ⟨rfl, hb⟩
  replace hX := below_on hX (Nat.le_refl _) hb
  replace hB := below_on hB (Nat.le_refl _) hX
  replace fz := fun j => frozen_on hX h0 (fz j)
  replace r0 := cell_on hX r0
  replace r1 := cell_on hX r1
  replace r2 := cell_on hX r2
  replace q0 := cell_on hb q0
  replace q1 := cell_on hb q1
  replace q2 := cell_on hb q2
  clear hb hX HS HK h3
  simp only [errV, if_true]
  go_wp2
  exact bodyPost_ret (v := .tuple #[.agg #[.string c.key, .string c.val, .bool c.gone], .nilIface]) (by simp [results, Tryz.results86, go_sem, r0, r1, r2]) rfl ⟨rfl, ((hB.setCell (Nat.le_refl _) _).setCell (Nat.le_refl _) _).setCell (Nat.le_refl _) _⟩
end Go.Proofs.YtkfpfbkdalbjoaaGreat

/-
  What change.split and change.Parse return of texts that are none of a change.
-/
namespace Go.Proofs.YtkfpfbkdalbjoaaGreat
open Go.RowKit Go.Joins

def badSplit : Value := .tuple #[.agg #[.string ⟨#[]⟩, .string ⟨#[]⟩, .bool false], .bool false]
set_option maxHeartbeats 2000000 in
theorem split_short (s : ByteArray) (w : World) (h2 : s.size < 2) :
    Calls Tryz.prog 91 #[.string s] w fun e w' => e = .returned badSplit ∧ Below w.heap.size w w' := by
  have d1 : decide ((s.size : Int) < 2) = true := by simp; omega
  go_enter Tryz.func91, Tryz.ntmps91
  go_wp2
  exact bodyPost_ret (v := badSplit) (by simp [badSplit, results, Tryz.results91, go_sem]) rfl ⟨rfl, below_alloc1 w _⟩

set_option maxHeartbeats 2000000 in
theorem split_mark (s : ByteArray) (w : World) (h2 : 2 ≤ s.size) (x : Nat) (hx : s[0].toNat = x) (h1 : 1 < x) :
    Calls Tryz.prog 91 #[.string s] w fun e w' => e = .returned badSplit ∧ Below w.heap.size w w' := by
  have d1 : decide ((s.size : Int) < 2) = false := by simp; omega
  have d2 : decide ((1 : Int) < (x : Int)) = true := by simp; omega
  have g0 : 0 < s.size := by omega
  go_enter Tryz.func91, Tryz.ntmps91
  go_wp2
  exact bodyPost_ret (v := badSplit) (by simp [badSplit, results, Tryz.results91, go_sem]) rfl ⟨rfl, below_alloc1 w _⟩

set_option maxHeartbeats 2000000 in
theorem split_cut (s : ByteArray) (w : World) (h2 : 2 ≤ s.size) (x y : Nat) (hx : s[0].toNat = x) (hy : s[1].toNat = y) (h1 : x ≤ 1) (hl : s.size < 2 + y) (hy' : y ≤ 255) :
    Calls Tryz.prog 91 #[.string s] w fun e w' => e = .returned badSplit ∧ Below w.heap.size w w' := by
  have w1 : wrap64 (y : Int) = y := wrap_small (by omega) (by omega)
  have w2 : wrap64 (2 + (y : Int)) = 2 + y := wrap_small (by omega) (by omega)
  have d1 : decide ((s.size : Int) < 2) = false := by simp; omega
  have d2 : decide ((1 : Int) < (x : Int)) = false := by simp; omega
  have d3 : decide ((s.size : Int) < 2 + (y : Int)) = true := by simp; omega
  have g1 : 1 < (s.size : Int) := by omega
  have g0 : 0 < s.size := by omega
  go_enter Tryz.func91, Tryz.ntmps91
  go_wp2
  exact bodyPost_ret (v := badSplit) (by simp [badSplit, results, Tryz.results91, go_sem]) rfl ⟨rfl, below_alloc1 w _⟩
def badParse : Value := .tuple #[.agg #[.string ⟨#[]⟩, .string ⟨#[]⟩, .bool false], errV 4]
set_option maxHeartbeats 2000000 in
theorem parse_bad (s : ByteArray) (w : World)
    (HS : ∀ w', Calls Tryz.prog 91 #[.string s] w' fun e w'' => e = .returned badSplit ∧ Below w'.heap.size w' w'') :
    Calls Tryz.prog 86 #[.string s] w fun e w' => e = .returned badParse ∧ Below w.heap.size w w' := by
  unfold badSplit at HS
  replace HS := fun w' => hide (HS w')
  have hB := below_alloc1 w (Obj.cells #[Value.string ⟨#[]⟩, Value.string ⟨#[]⟩, Value.bool false] 54)
  have fz := frozen_new w #[Value.string ⟨#[]⟩, Value.string ⟨#[]⟩, Value.bool false] 54
  have h0 : w.heap.size < (w.alloc (Obj.cells #[Value.string ⟨#[]⟩, Value.string ⟨#[]⟩, Value.bool false] 54)).heap.size := by simp
  have r0 : (w.alloc (Obj.cells #[Value.string ⟨#[]⟩, Value.string ⟨#[]⟩, Value.bool false] 54)).cell? ⟨w.heap.size, 0, none⟩ = some (.string ⟨#[]⟩) := by simp
  have r1 : (w.alloc (Obj.cells #[Value.string ⟨#[]⟩, Value.string ⟨#[]⟩, Value.bool false] 54)).cell? ⟨w.heap.size, 1, none⟩ = some (.string ⟨#[]⟩) := by simp
  have r2 : (w.alloc (Obj.cells #[Value.string ⟨#[]⟩, Value.string ⟨#[]⟩, Value.bool false] 54)).cell? ⟨w.heap.size, 2, none⟩ = some (.bool false) := by simp
  go_enter Tryz.func86, Tryz.ntmps86
  go_wp2_with fail
  refine ((HS _).out).mono ?_
  rintro e w1 ⟨rfl, hb⟩
  replace hB := below_on hB (Nat.le_refl _) hb
  replace fz := fun j => frozen_on hb h0 (fz j)
  replace r0 := cell_on hb r0
  replace r1 := cell_on hb r1
  replace r2 := cell_on hb r2
  replace h0 := Nat.lt_of_lt_of_le h0 hb.size
  clear hb
  have s0 : (((w1.setCell ⟨w.heap.size, 0, none⟩ (.string ⟨#[]⟩)).setCell ⟨w.heap.size, 1, none⟩ (.string ⟨#[]⟩)).setCell ⟨w.heap.size, 2, none⟩ (.bool false)).cell? ⟨w.heap.size, 0, none⟩ = some (.string ⟨#[]⟩) := by simp [go_sem, r0]
  have s1 : (((w1.setCell ⟨w.heap.size, 0, none⟩ (.string ⟨#[]⟩)).setCell ⟨w.heap.size, 1, none⟩ (.string ⟨#[]⟩)).setCell ⟨w.heap.size, 2, none⟩ (.bool false)).cell? ⟨w.heap.size, 1, none⟩ = some (.string ⟨#[]⟩) := by simp [go_sem, r1]
  have s2 : (((w1.setCell ⟨w.heap.size, 0, none⟩ (.string ⟨#[]⟩)).setCell ⟨w.heap.size, 1, none⟩ (.string ⟨#[]⟩)).setCell ⟨w.heap.size, 2, none⟩ (.bool false)).cell? ⟨w.heap.size, 2, none⟩ = some (.bool false) := by simp [go_sem, r2]
  have hS := ((hB.setCell (p := ⟨w.heap.size, 0, none⟩) (Nat.le_refl _) (.string ⟨#[]⟩)).setCell (p := ⟨w.heap.size, 1, none⟩) (Nat.le_refl _) (.string ⟨#[]⟩)).setCell (p := ⟨w.heap.size, 2, none⟩) (Nat.le_refl _) (.bool false)
  go_wp2
  generalize (((w1.setCell ⟨w.heap.size, 0, none⟩ (.string ⟨#[]⟩)).setCell ⟨w.heap.size, 1, none⟩ (.string ⟨#[]⟩)).setCell ⟨w.heap.size, 2, none⟩ (.bool false)) = Y at *
  have hX := below_alloc1 Y (Obj.cells #[Value.string ⟨#[]⟩, Value.string ⟨#[]⟩, Value.bool false] 54)
  have k0 := cell_on hX s0
  have k1 := cell_on hX s1
  have k2 := cell_on hX s2
  exact bodyPost_ret (v := badParse) (by simp [badParse, errV, results, Tryz.results86, go_sem, k0, k1, k2]) rfl ⟨rfl, below_on hS (Nat.le_refl _) hX⟩

set_option maxHeartbeats 4000000 in
theorem parse_refused (s : ByteArray) (c : Chg) (w : World) (hk : c.key.size ≤ maxLen) (fa : Nat) (hf : chgFault c = fa) (hfa : fa ≠ 0)
    (HS : ∀ w', Calls Tryz.prog 91 #[.string s] w' fun e w'' => e = .returned (.tuple #[.agg #[.string c.key, .string c.val, .bool c.gone], .bool true]) ∧ Below w'.heap.size w' w'') :
    Calls Tryz.prog 86 #[.string s] w fun e w' => e = .returned badParse ∧ Below w.heap.size w w' := by
  have HK := fun w' => hide (chg_check c w' hk)
  rw [hf] at HK
  replace HS := fun w' => hide (HS w')
  go_enter Tryz.func86, Tryz.ntmps86
  have hB := below_alloc1 w (Obj.cells #[Value.string ⟨#[]⟩, Value.string ⟨#[]⟩, Value.bool false] 54)
  have fz := frozen_new w #[Value.string ⟨#[]⟩, Value.string ⟨#[]⟩, Value.bool false] 54
  have h0 : w.heap.size < (w.alloc (Obj.cells #[Value.string ⟨#[]⟩, Value.string ⟨#[]⟩, Value.bool false] 54)).heap.size := by simp
  have r0 : (w.alloc (Obj.cells #[Value.string ⟨#[]⟩, Value.string ⟨#[]⟩, Value.bool false] 54)).cell? ⟨w.heap.size, 0, none⟩ = some (.string ⟨#[]⟩) := by simp
  have r1 : (w.alloc (Obj.cells #[Value.string ⟨#[]⟩, Value.string ⟨#[]⟩, Value.bool false] 54)).cell? ⟨w.heap.size, 1, none⟩ = some (.string ⟨#[]⟩) := by simp
  have r2 : (w.alloc (Obj.cells #[Value.string ⟨#[]⟩, Value.string ⟨#[]⟩, Value.bool false] 54)).cell? ⟨w.heap.size, 2, none⟩ = some (.bool false) := by simp
  go_wp2_with fail
  refine ((HS _).out).mono ?_
  rintro e w1 ⟨rfl, hb⟩
  replace hB := below_on hB (Nat.le_refl _) hb
  replace fz := fun j => frozen_on hb h0 (fz j)
  replace r0 := cell_on hb r0
  replace r1 := cell_on hb r1
  replace r2 := cell_on hb r2
  replace h0 := Nat.lt_of_lt_of_le h0 hb.size
  clear hb
  have hX := below_alloc1 w1 (Obj.cells #[Value.string c.key, Value.string c.val, Value.bool c.gone] 54)
  have h3 : w1.heap.size < (w1.alloc (Obj.cells #[Value.string c.key, Value.string c.val, Value.bool c.gone] 54)).heap.size := by simp
  have q0 : (w1.alloc (Obj.cells #[Value.string c.key, Value.string c.val, Value.bool c.gone] 54)).cell? ⟨w1.heap.size, 0, none⟩ = some (.string c.key) := by simp
  have q1 : (w1.alloc (Obj.cells #[Value.string c.key, Value.string c.val, Value.bool c.gone] 54)).cell? ⟨w1.heap.size, 1, none⟩ = some (.string c.val) := by simp
  have q2 : (w1.alloc (Obj.cells #[Value.string c.key, Value.string c.val, Value.bool c.gone] 54)).cell? ⟨w1.heap.size, 2, none⟩ = some (.bool c.gone) := by simp
  go_wp2_with fail
  refine ((HK _).out).mono ?_
  rintro e w2 ⟨rfl, hb⟩
  replace hX := below_on hX (Nat.le_refl _) hb
  replace hB := below_on hB (Nat.le_refl _) hX
  replace fz := fun j => frozen_on hX h0 (fz j)
  replace r0 := cell_on hX r0
  replace r1 := cell_on hX r1
  replace r2 := cell_on hX r2
  replace q0 := cell_on hb q0
  replace q1 := cell_on hb q1
  replace q2 := cell_on hb q2
  clear hb hX HS HK h3
  simp only [errV, if_neg hfa]
  go_wp2
  exact bodyPost_ret (v := badParse) (by simp [badParse, errV, results, Tryz.results86, go_sem, r0, r1, r2]) rfl ⟨rfl, ((hB.setCell (Nat.le_refl _) _).setCell (Nat.le_refl _) _).setCell (Nat.le_refl _) _⟩
end Go.Proofs.YtkfpfbkdalbjoaaGreat
