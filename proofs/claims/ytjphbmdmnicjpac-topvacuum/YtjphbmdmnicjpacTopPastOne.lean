/-
  The closed fact of haywaintop.TopPast: a deed of one change, as it lies in memory, and what is read behind it.
-/
import Derived.Test.YtjphbmdmnicjpacVerGood
import Derived.Test.YtjphbmdmnicjpacVerSort0
import Derived.Test.YtjphbmdmnicjpacVerRead
namespace Go.Proofs.Ytjphbmdmnicjpac
open Go.RowKit Go.Joins

def oneC : Chg := ⟨⟨#[116, 47, 97]⟩, ⟨#[120]⟩, false⟩
theorem one_fault : deedFault [oneC] = 0 := by decide +kernel
theorem one_steps (ao : Option Addr) (cap : Nat) : stepsR (0, initR []) [⟨ao, cap, [oneC]⟩] = (1, applyR (initR []) 1 [oneC]) := by
  show stepR (0, initR []) [oneC] = _
  unfold stepR
  rw [if_pos one_fault]
  rfl
theorem one_read : behindV (applyR (initR []) 1 [oneC] ⟨#[116, 47, 97]⟩) 1 = (⟨#[120]⟩, true) := by decide +kernel

theorem one_light {ao : Option Addr} {cap : Nat} : lightDs [⟨ao, cap, [oneC]⟩] := ⟨by simp, fun d hd => by
  have e : d = ⟨ao, cap, [oneC]⟩ := by simpa using hd
  subst e
  exact ⟨by simp, fun c hc => by
    have e : c = oneC := by simpa using hc
    subst e
    decide +kernel⟩⟩
theorem one_world (w : World) (s : ByteArray × ByteArray) : Below w.heap.size w (((w.alloc (Obj.cells #[Value.string s.1, Value.string s.2] 37)).alloc (Obj.cells #[Value.string ⟨#[116, 47, 97]⟩, Value.string ⟨#[120]⟩, Value.bool false] 29)).alloc (Obj.cells #[Value.slice (some ⟨w.heap.size + 1, 0, none⟩) 1 1] 30)) ∧ (((w.alloc (Obj.cells #[Value.string s.1, Value.string s.2] 37)).alloc (Obj.cells #[Value.string ⟨#[116, 47, 97]⟩, Value.string ⟨#[120]⟩, Value.bool false] 29)).alloc (Obj.cells #[Value.slice (some ⟨w.heap.size + 1, 0, none⟩) 1 1] 30)).cell? ⟨w.heap.size, 0, none⟩ = some (.string s.1) ∧ (((w.alloc (Obj.cells #[Value.string s.1, Value.string s.2] 37)).alloc (Obj.cells #[Value.string ⟨#[116, 47, 97]⟩, Value.string ⟨#[120]⟩, Value.bool false] 29)).alloc (Obj.cells #[Value.slice (some ⟨w.heap.size + 1, 0, none⟩) 1 1] 30)).cell? ⟨w.heap.size, 1, none⟩ = some (.string s.2) ∧ heldDs (((w.alloc (Obj.cells #[Value.string s.1, Value.string s.2] 37)).alloc (Obj.cells #[Value.string ⟨#[116, 47, 97]⟩, Value.string ⟨#[120]⟩, Value.bool false] 29)).alloc (Obj.cells #[Value.slice (some ⟨w.heap.size + 1, 0, none⟩) 1 1] 30)) (some ⟨w.heap.size + 2, 0, none⟩) [⟨some ⟨w.heap.size + 1, 0, none⟩, 1, [oneC]⟩] := by
  have b1 := below_alloc1 w (Obj.cells #[Value.string s.1, Value.string s.2] 37)
  have s0 : (w.alloc (Obj.cells #[Value.string s.1, Value.string s.2] 37)).cell? ⟨w.heap.size, 0, none⟩ = some (.string s.1) := cell_new _ _ _ 0
  have s1 : (w.alloc (Obj.cells #[Value.string s.1, Value.string s.2] 37)).cell? ⟨w.heap.size, 1, none⟩ = some (.string s.2) := cell_new _ _ _ 1
  have e1 : (w.alloc (Obj.cells #[Value.string s.1, Value.string s.2] 37)).heap.size = w.heap.size + 1 := by simp
  generalize w.alloc (Obj.cells #[Value.string s.1, Value.string s.2] 37) = W1 at *
  have b2 := below_alloc1 W1 (Obj.cells #[Value.string ⟨#[116, 47, 97]⟩, Value.string ⟨#[120]⟩, Value.bool false] 29)
  have c0 : (W1.alloc (Obj.cells #[Value.string ⟨#[116, 47, 97]⟩, Value.string ⟨#[120]⟩, Value.bool false] 29)).cell? ⟨W1.heap.size, 0, none⟩ = some (.string ⟨#[116, 47, 97]⟩) := cell_new _ _ _ 0
  have c1 : (W1.alloc (Obj.cells #[Value.string ⟨#[116, 47, 97]⟩, Value.string ⟨#[120]⟩, Value.bool false] 29)).cell? ⟨W1.heap.size, 1, none⟩ = some (.string ⟨#[120]⟩) := cell_new _ _ _ 1
  have c2 : (W1.alloc (Obj.cells #[Value.string ⟨#[116, 47, 97]⟩, Value.string ⟨#[120]⟩, Value.bool false] 29)).cell? ⟨W1.heap.size, 2, none⟩ = some (.bool false) := cell_new _ _ _ 2
  have e2 : (W1.alloc (Obj.cells #[Value.string ⟨#[116, 47, 97]⟩, Value.string ⟨#[120]⟩, Value.bool false] 29)).heap.size = w.heap.size + 2 := by simp [e1]
  generalize W1.alloc (Obj.cells #[Value.string ⟨#[116, 47, 97]⟩, Value.string ⟨#[120]⟩, Value.bool false] 29) = W2 at *
  have b3 := below_alloc1 W2 (Obj.cells #[Value.slice (some ⟨w.heap.size + 1, 0, none⟩) 1 1] 30)
  have d0 : (W2.alloc (Obj.cells #[Value.slice (some ⟨w.heap.size + 1, 0, none⟩) 1 1] 30)).cell? ⟨W2.heap.size, 0, none⟩ = some (.slice (some ⟨w.heap.size + 1, 0, none⟩) 1 1) := cell_new _ _ _ 0
  rw [e1] at c0 c1 c2
  rw [e2] at d0
  refine ⟨below_on (below_on b1 (Nat.le_refl _) b2) (Nat.le_refl _) b3, cell_on b3 (cell_on b2 s0), cell_on b3 (cell_on b2 s1), .inr ⟨_, _, rfl, fun i hi => ?_⟩⟩
  have e : i = 0 := by simpa using hi
  subst e
  refine ⟨d0, .inr ⟨_, _, rfl, fun j hj => ?_⟩⟩
  have e : j = 0 := by simpa using hj
  subst e
  exact ⟨cell_on b3 c0, cell_on b3 c1, cell_on b3 c2⟩

end Go.Proofs.Ytjphbmdmnicjpac
