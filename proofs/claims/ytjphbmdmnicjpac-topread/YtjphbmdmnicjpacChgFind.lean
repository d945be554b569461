/-
  What change.Find returns where there is none.
-/
import Derived.Test.YtjphbmdmnicjpacChgPut
namespace Go.Proofs.Ytjphbmdmnicjpac
open Go.RowKit Go.Joins

set_option maxHeartbeats 1000000 in
theorem find_none (l : List Chg) (b off cap : Nat) (key : ByteArray) (w : World) (hl : chgsAt w b off l) (hn : l.length ≤ 1000) (hf : foundL l key = false) :
    Calls Try.prog 69 #[.slice (some ⟨b, off, none⟩) l.length cap, .string key] w fun e w' =>
      e = .returned (.tuple #[.agg #[.string ⟨#[]⟩, .string ⟨#[]⟩, .bool false], .bool false]) ∧ Below w.heap.size w w' := by
  have hB := below_alloc1 w (Obj.cells #[Value.string ⟨#[]⟩, Value.string ⟨#[]⟩, Value.bool false] 29)
  have fz := frozen_new w #[Value.string ⟨#[]⟩, Value.string ⟨#[]⟩, Value.bool false] 29
  have r0 : (w.alloc (Obj.cells #[Value.string ⟨#[]⟩, Value.string ⟨#[]⟩, Value.bool false] 29)).cell? ⟨w.heap.size, 0, none⟩ = some (.string ⟨#[]⟩) := by simp
  have r1 : (w.alloc (Obj.cells #[Value.string ⟨#[]⟩, Value.string ⟨#[]⟩, Value.bool false] 29)).cell? ⟨w.heap.size, 1, none⟩ = some (.string ⟨#[]⟩) := by simp
  have r2 : (w.alloc (Obj.cells #[Value.string ⟨#[]⟩, Value.string ⟨#[]⟩, Value.bool false] 29)).cell? ⟨w.heap.size, 2, none⟩ = some (.bool false) := by simp
  have h0 : w.heap.size < (w.alloc (Obj.cells #[Value.string ⟨#[]⟩, Value.string ⟨#[]⟩, Value.bool false] 29)).heap.size := by simp
  have HP := fun w' (h : Below w.heap.size w w') => hide (place_some l b off cap key w' (chgsAt_on h hl) (by omega))
  rw [hf] at HP
  clear hf
  generalize placeL l key = p at HP
  go_enter Try.func69, Try.ntmps69
  go_wp2_with fail
  refine ((HP _ hB).out).mono ?_
  rintro e w1 ⟨rfl, hb⟩
  replace hB := below_on hB (Nat.le_refl _) hb
  replace fz := fun j => frozen_on hb h0 (fz j)
  replace r0 := cell_on hb r0
  replace r1 := cell_on hb r1
  replace r2 := cell_on hb r2
  clear hb h0
  go_wp2
  exact bodyPost_ret (v := .tuple #[.agg #[.string ⟨#[]⟩, .string ⟨#[]⟩, .bool false], .bool false]) (by simp [results, Try.results69, go_sem, r0, r1, r2]) rfl ⟨rfl, ((hB.setCell (Nat.le_refl _) _).setCell (Nat.le_refl _) _).setCell (Nat.le_refl _) _⟩

set_option maxHeartbeats 1000000 in
theorem find_bare (ao : Option Addr) (cap : Nat) (key : ByteArray) (w : World) :
    Calls Try.prog 69 #[.slice ao 0 cap, .string key] w fun e w' =>
      e = .returned (.tuple #[.agg #[.string ⟨#[]⟩, .string ⟨#[]⟩, .bool false], .bool false]) ∧ Below w.heap.size w w' := by
  have hB := below_alloc1 w (Obj.cells #[Value.string ⟨#[]⟩, Value.string ⟨#[]⟩, Value.bool false] 29)
  have fz := frozen_new w #[Value.string ⟨#[]⟩, Value.string ⟨#[]⟩, Value.bool false] 29
  have r0 : (w.alloc (Obj.cells #[Value.string ⟨#[]⟩, Value.string ⟨#[]⟩, Value.bool false] 29)).cell? ⟨w.heap.size, 0, none⟩ = some (.string ⟨#[]⟩) := by simp
  have r1 : (w.alloc (Obj.cells #[Value.string ⟨#[]⟩, Value.string ⟨#[]⟩, Value.bool false] 29)).cell? ⟨w.heap.size, 1, none⟩ = some (.string ⟨#[]⟩) := by simp
  have r2 : (w.alloc (Obj.cells #[Value.string ⟨#[]⟩, Value.string ⟨#[]⟩, Value.bool false] 29)).cell? ⟨w.heap.size, 2, none⟩ = some (.bool false) := by simp
  have h0 : w.heap.size < (w.alloc (Obj.cells #[Value.string ⟨#[]⟩, Value.string ⟨#[]⟩, Value.bool false] 29)).heap.size := by simp
  have HP := fun w' (_ : True) => hide (place_nil ao cap key w')
  go_enter Try.func69, Try.ntmps69
  go_wp2_with fail
  refine ((HP _ trivial).out).mono ?_
  rintro e w1 ⟨rfl, hb⟩
  replace hB := below_on hB (Nat.le_refl _) hb
  replace fz := fun j => frozen_on hb h0 (fz j)
  replace r0 := cell_on hb r0
  replace r1 := cell_on hb r1
  replace r2 := cell_on hb r2
  clear hb h0
  go_wp2
  exact bodyPost_ret (v := .tuple #[.agg #[.string ⟨#[]⟩, .string ⟨#[]⟩, .bool false], .bool false]) (by simp [results, Try.results69, go_sem, r0, r1, r2]) rfl ⟨rfl, ((hB.setCell (Nat.le_refl _) _).setCell (Nat.le_refl _) _).setCell (Nat.le_refl _) _⟩
end Go.Proofs.Ytjphbmdmnicjpac
