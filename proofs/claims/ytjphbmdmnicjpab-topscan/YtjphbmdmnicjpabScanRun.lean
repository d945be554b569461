/-
  While the closure of haywaintop.TopScan counts keys, one behind the other: what holds between two calls of it.
-/
import Derived.Test.YtjphbmdmnicjpabScanCount
namespace Go.Proofs.Ytjphbmdmnicjpab
open Go.RowKit Go.Joins

structure CR (w wr : World) (bv bk be bs bm vb eb : Nat) (at_ : Int) (s : ByteArray × ByteArray) (B mb nv : Nat) (now : Int) (D : DataW Value) (g : ByteArray → Value) (R : ByteArray → List Ver) (K : List ByteArray) : Prop where
  ct : ∃ De, CT wr bv bk be bs bm vb eb K.length at_ s (manyL (seenP R at_ s) K) De K
  vs : VS wr B vb mb now nv D g R
  bel : Below w.heap.size w wr
  apart : ∀ j, inVS vb mb g j → j ≠ bm ∧ j ≠ eb
  lom : w.heap.size ≤ bm
  loe : w.heap.size ≤ eb
theorem CR.count {w wr : World} {bv bk be bs bm vb eb : Nat} {at_ : Int} {s : ByteArray × ByteArray} {B mb nv : Nat} {now : Int} {D : DataW Value} {g : ByteArray → Value} {R : ByteArray → List Ver} {K : List ByteArray} (h : CR w wr bv bk be bs bm vb eb at_ s B mb nv now D g R K) (key : ByteArray)
    (hk : key.size ≤ maxLen) (hR : (R key).length ≤ 1000000) (hK : K.length ≤ 1000000) :
    Calls Try.prog 47 #[.string key, .pointer (some ⟨bv, 0, none⟩), .pointer (some ⟨bk, 0, none⟩), .pointer (some ⟨be, 0, none⟩), .pointer (some ⟨bs, 0, none⟩), .pointer (some ⟨bm, 0, none⟩)] wr fun e w' =>
      e = .returned (.tuple #[]) ∧ CR w w' bv bk be bs bm vb eb at_ s B mb nv now D g R (K ++ [key]) := by
  obtain ⟨De, hc⟩ := h.ct
  have hm := many_le (seenP R at_ s) K
  refine (count_any key wr h.vs hc hk hR hK (by omega) h.lom h.loe h.bel.size).mono ?_
  rintro e w' ⟨rfl, De', hc', hb', hf'⟩
  refine ⟨rfl, ⟨De', ?_⟩, h.vs.kept fun j hj => hf' j (h.vs.lt hj) (h.apart j hj).1 (h.apart j hj).2, h.bel.trans hb', h.apart, h.lom, h.loe⟩
  rw [List.length_append, many_snoc]
  exact hc'
/-- at first -/
theorem CR.start {w wr : World} {bv bk bs vb : Nat} {at_ : Int} {s : ByteArray × ByteArray} {B mb nv : Nat} {now : Int} {D : DataW Value} {g : ByteArray → Value} {R : ByteArray → List Ver} (hv : VS wr B vb mb now nv D g R) (hb : Below w.heap.size w wr)
    (tv : wr.cell? ⟨bv, 0, none⟩ = some (.pointer (some ⟨vb, 0, none⟩))) (tk : wr.cell? ⟨bk, 0, none⟩ = some (.int .i64 at_)) (t0 : wr.cell? ⟨bs, 0, none⟩ = some (.string s.1)) (t1 : wr.cell? ⟨bs, 1, none⟩ = some (.string s.2)) :
    CR w (((wr.alloc (Obj.cells #[Value.int .i64 0] 3)).alloc (Obj.map #[] 0)).alloc (Obj.cells #[Value.map (some (wr.heap.size + 1))] 88)) bv bk (wr.heap.size + 1 + 1) bs wr.heap.size vb (wr.heap.size + 1) at_ s B mb nv now D g R [] := by
  have b1 := below_alloc1 wr (Obj.cells #[Value.int .i64 0] 3)
  have m1 : (wr.alloc (Obj.cells #[Value.int .i64 0] 3)).cell? ⟨wr.heap.size, 0, none⟩ = some (.int .i64 0) := cell_new _ _ _ 0
  have f1 : (wr.alloc (Obj.cells #[Value.int .i64 0] 3)).frozen? ⟨wr.heap.size, 0, none⟩ = false := frozen_new _ _ _ 0
  have e1 : (wr.alloc (Obj.cells #[Value.int .i64 0] 3)).heap.size = wr.heap.size + 1 := by simp
  have b3 : Below wr.heap.size wr (((wr.alloc (Obj.cells #[Value.int .i64 0] 3)).alloc (Obj.map #[] 0)).alloc (Obj.cells #[Value.map (some (wr.heap.size + 1))] 88)) := below_alloc3 _ _ _ _
  generalize hX : wr.alloc (Obj.cells #[Value.int .i64 0] 3) = X at *
  have b2 := below_alloc2 X (Obj.map #[] 0) (Obj.cells #[Value.map (some (wr.heap.size + 1))] 88)
  have h2 : (X.alloc (Obj.map #[] 0)).heap[wr.heap.size + 1]? = some (.map #[] 0) := by rw [← e1]; exact Go.heap_alloc_new X _
  have e2 : (X.alloc (Obj.map #[] 0)).heap.size = wr.heap.size + 1 + 1 := by rw [World.size_alloc, e1]
  have h3 : ((X.alloc (Obj.map #[] 0)).alloc (Obj.cells #[Value.map (some (wr.heap.size + 1))] 88)).heap[wr.heap.size + 1]? = some (.map #[] 0) := (Below.heap_alloc _ _ _ (by omega)).trans h2
  have c3 : ((X.alloc (Obj.map #[] 0)).alloc (Obj.cells #[Value.map (some (wr.heap.size + 1))] 88)).cell? ⟨wr.heap.size + 1 + 1, 0, none⟩ = some (.map (some (wr.heap.size + 1))) := by rw [← e2]; exact cell_new _ _ _ 0
  have lv := World.block_lt_of_cell? _ _ tv
  have lk := World.block_lt_of_cell? _ _ tk
  have ls := World.block_lt_of_cell? _ _ t0
  simp only at lv lk ls
  refine ⟨⟨.map [], ⟨cell_on b3 tv, cell_on b3 tk, c3, cell_on b3 t0, cell_on b3 t1, cell_on b2 m1, frozen_on b2 (by show wr.heap.size < X.heap.size; omega) f1, ?_, fun key _ => by rw [Maps.atKey_of_not_has rfl]; simp, fun b hb => ?_, by omega⟩⟩, hv.on b3, below_on hb (Nat.le_refl _) b3, fun j hj => ?_, hb.size, by have := hb.size; omega⟩
  · obtain ⟨es, clock, hb, r⟩ := World.ownsMap_made wr Try.prog 9 RV
    rw [Go.heap_alloc_new] at hb
    cases hb
    exact ⟨_, _, h3, r⟩
  · rcases hb with rfl | rfl | rfl | rfl <;> omega
  · have := hv.lt hj
    omega
end Go.Proofs.Ytjphbmdmnicjpab
