/-
  A block that is known whole: what a store of many cells, copy and clear make of it. Nothing of the program is named here.
-/
import Derived.Test.YtkfpfbkdalbjoaaDskMem
import Derived.Laws.CopyOwn
import Derived.Lib.SliceRun
namespace Go.Proofs.Ytkfpfbkdalbjoaa
open Go.RowKit Go.Joins

theorem splice_zero {α : Type} (L : List α) (o : Nat) : splice L o [] = L := by simp [splice]
theorem splice_cons {α : Type} (L : List α) (o : Nat) (v : α) (vs : List α) (h : o < L.length) : splice (L.set o v) (o + 1) vs = splice L o (v :: vs) := by
  unfold splice
  have h1 : (L.set o v).take (o + 1) = L.take o ++ [v] := by
    rw [List.take_set]
    rw [List.take_succ_eq_append_getElem h, List.set_append_right _ _ (by rw [List.length_take]; omega), show o - (L.take o).length = 0 by simp; omega]
    rfl
  have h2 : (L.set o v).drop (o + 1 + vs.length) = L.drop (o + (v :: vs).length) := by
    rw [List.drop_set, if_pos (by omega), List.length_cons]; congr 1; omega
  rw [h1, h2]; simp
theorem splice_get {α : Type} (L : List α) (o : Nat) (cs : List α) (h : o + cs.length ≤ L.length) (j : Nat) : (splice L o cs)[j]? = if j < o then L[j]? else if j < o + cs.length then cs[j - o]? else L[j]? := by
  unfold splice
  by_cases h1 : j < o
  · rw [if_pos h1, List.getElem?_append_left (by rw [List.length_take]; omega), List.getElem?_take_of_lt h1]
  · rw [if_neg h1, List.getElem?_append_right (by rw [List.length_take]; omega)]
    have e : j - (L.take o).length = j - o := by rw [List.length_take]; omega
    rw [e]
    by_cases h2 : j < o + cs.length
    · rw [if_pos h2, List.getElem?_append_left (by omega)]
    · rw [if_neg h2, List.getElem?_append_right (by omega), List.getElem?_drop]; congr 1; omega
/-- one thing of a row is laid anew -/
theorem dflat_set {α : Type} {f : α → List Value} {z : Nat} {l : List α} (h : ∀ x ∈ l, (f x).length = z) (i : Nat) (hi : i < l.length) (x : α) (hx : (f x).length = z) : splice (l.flatMap f) (i * z) (f x) = (l.set i x).flatMap f := by
  induction l generalizing i with
  | nil => cases hi
  | cons y l ih =>
    have hy := h y (List.mem_cons_self ..)
    cases i with
    | zero =>
      unfold splice
      rw [List.set_cons_zero, List.flatMap_cons, List.flatMap_cons, Nat.zero_mul, List.take_zero, List.nil_append, Nat.zero_add, hx, ← hy, List.drop_left]
    | succ i =>
      have e := ih (fun a ha => h a (List.mem_cons_of_mem _ ha)) i (by simpa using hi)
      rw [List.set_cons_succ, List.flatMap_cons, List.flatMap_cons, ← e]
      unfold splice
      have e2 : (i + 1) * z = (f y).length + i * z := by rw [hy, Nat.succ_mul]; omega
      rw [e2, List.take_append_of_le_length_add, Nat.add_assoc, List.drop_append_of_le_length_add]
      rw [List.append_assoc]
where
  List.take_append_of_le_length_add {α : Type} {a b : List α} {n : Nat} : (a ++ b).take (a.length + n) = a ++ b.take n := by rw [List.take_append, List.take_of_length_le (by omega), show a.length + n - a.length = n by omega]
  List.drop_append_of_le_length_add {α : Type} {a b : List α} {n : Nat} : (a ++ b).drop (a.length + n) = b.drop n := by rw [List.drop_append, List.drop_of_length_le (by omega), show a.length + n - a.length = n by omega, List.nil_append]
theorem heap_setCells (g : Nat) (t : TypeId) (fr : Nat × Nat) : ∀ (vs : List Value) (o : Nat) (w : World) (cur : List Value), w.heap[g]? = some (.cells cur.toArray t fr) → o + vs.length ≤ cur.length → (w.setCells g o vs).heap[g]? = some (.cells (splice cur o vs).toArray t fr)
  | [], o, w, cur, h, _ => by rw [splice_zero]; exact h
  | v :: vs, o, w, cur, h, hl => by
    have hl' : o + (vs.length + 1) ≤ cur.length := hl
    rw [World.setCells, ← splice_cons cur o v vs (by omega)]
    refine heap_setCells g t fr vs (o + 1) _ (cur.set o v) ?_ (by rw [List.length_set]; omega)
    rw [setCell_eq_setRow w g o cur.toArray t fr v h, setRow_heap w g cur.toArray _ t fr h]
    congr 2
    apply Array.ext'
    simp
theorem setCells_setRow (g : Nat) (t : TypeId) (fr : Nat × Nat) : ∀ (vs : List Value) (o : Nat) (w : World) (cur : List Value), w.heap[g]? = some (.cells cur.toArray t fr) → o + vs.length ≤ cur.length → w.setCells g o vs = w.setRow g (splice cur o vs).toArray
  | [], o, w, cur, h, _ => by rw [splice_zero, setRow_self w g cur.toArray t fr h]; rfl
  | v :: vs, o, w, cur, h, hl => by
    have hl' : o + (vs.length + 1) ≤ cur.length := hl
    have e : w.setCell ⟨g, o, none⟩ v = w.setRow g (cur.set o v).toArray := by
      rw [setCell_eq_setRow w g o cur.toArray t fr v h]
      congr 1
      apply Array.ext'
      simp
    rw [World.setCells, ← splice_cons cur o v vs (by omega), e, setCells_setRow g t fr vs (o + 1) _ (cur.set o v) (setRow_heap w g cur.toArray _ t fr h) (by rw [List.length_set]; omega), setRow_setRow]
theorem there_of_block {w : World} {g : Nat} {cur : List Value} {t : TypeId} (h : w.heap[g]? = some (.cells cur.toArray t (0, 0))) {o n : Nat} (hl : o + n ≤ cur.length) : w.there g o n := fun j hj => by
  refine ⟨?_, by simp [World.frozen?, h]⟩
  rw [cell_of_row w g (o + j) cur.toArray t (0, 0) h]
  simp; omega
theorem rangeAt_block {w : World} {g : Nat} {cur : List Value} {t : TypeId} {fr : Nat × Nat} (h : w.heap[g]? = some (.cells cur.toArray t fr)) {o : Nat} {cs : List Value} (hc : ∀ j, j < cs.length → cur[o + j]? = cs[j]?) : w.rangeAt g o cs := fun j v hv => by
  have hj : j < cs.length := (List.getElem?_eq_some_iff.1 hv).1
  rw [cell_of_row w g (o + j) cur.toArray t fr h, List.getElem?_toArray, hc j hj, hv]
/-- copy into a block that is known whole -/
theorem run_copy_any {P : Program} (w : World) (dT sT ty elem : TypeId) (size g o dLen dCap m : Nat) (src : Value) (cur : List Value) (t : TypeId) (cs : List Value) (hu : P.underlying dT = some (.slice elem)) (hs : (P.info? elem).map (·.size) = some size)
    (hg : w.heap[g]? = some (.cells cur.toArray t (0, 0))) (hm : (Builtin.lenOf src).run P w = .ok m w) (hf : (Builtin.firstCells size (Nat.min m dLen) src).run P w = .ok cs.toArray w) (hfit : o + cs.length ≤ cur.length) (h1 : ∀ v ∈ cs, v.oneCell' = true) :
    (Builtin.copy_ #[dT, sT] ty #[.slice (some ⟨g, o, none⟩) dLen dCap, src]).run P w = .ok (goInt (Nat.min m dLen)) (w.setCells g o cs) := by
  have hst := run_storeCells_at P g o t cs 0 cur.toArray w hg (by simpa using hfit) h1
  have e : w.setRow g (cur.toArray.toList.take (o + 0) ++ cs ++ cur.toArray.toList.drop (o + 0 + cs.length)).toArray = w.setCells g o cs := by
    rw [setCells_setRow g t (0, 0) cs o w cur hg hfit]
    simp [splice]
  rw [e] at hst
  cases hq : P.info? elem with
  | none => simp [hq] at hs
  | some i =>
    have hi : i.size = size := by simpa [hq] using hs
    simp [Builtin.copy_, run_underlying hu, hm, hf, hst, hq, hi, typeInfo, sizeOf]
/-- a store of a whole variable that was just made -/
theorem store_new {P : Program} (w : World) (C : Array Value) (t : TypeId) (vs : List Value) (h : vs.length = C.size) (h1 : ∀ v ∈ vs, v.oneCell' = true) : (storeCells ⟨w.heap.size, 0, none⟩ vs).run P (w.alloc (.cells C t)) = .ok () (w.alloc (.cells vs.toArray t)) := by
  have hst := run_storeCells_at P w.heap.size 0 t vs 0 C (w.alloc (.cells C t)) (Go.heap_alloc_new w _) (by omega) h1
  have e : (w.alloc (.cells C t)).setRow w.heap.size (C.toList.take (0 + 0) ++ vs ++ C.toList.drop (0 + 0 + vs.length)).toArray = w.alloc (.cells vs.toArray t) := by
    have e1 : C.toList.take (0 + 0) ++ vs ++ C.toList.drop (0 + 0 + vs.length) = vs := by
      rw [List.take_zero, List.nil_append, List.drop_of_length_le (by simp; omega), List.append_nil]
    rw [e1]
    unfold World.setRow World.alloc
    cases w with
    | mk heap tape drawn os output =>
      congr 1
      apply Array.ext
      · simp
      · intro k h1 h2
        simp only [Array.getElem_modify, Array.getElem_push]
        split
        · rename_i hk; subst hk; simp
        · rename_i hk
          have hlt : k < heap.size := by simp at h2; omega
          rw [dif_pos hlt, dif_pos hlt]
  rw [e] at hst
  exact hst
/-- clear of a part of a block that is known whole -/
theorem run_clear_any {P : Program} (w : World) (t e ty : TypeId) (z : Value) (ht : P.underlying t = some (.slice e)) (hv : ∀ w, (zeroValue e).run P w = .ok z w) (h1 : ∀ v ∈ z.cells, v.oneCell' = true) (g o n c : Nat) (cur : List Value) (t' : TypeId)
    (hg : w.heap[g]? = some (.cells cur.toArray t' (0, 0))) (hfit : o + n * z.cells.size ≤ cur.length) :
    (Builtin.clear_ #[t] ty #[.slice (some ⟨g, o, none⟩) n c]).run P w = .ok (.tuple #[]) (w.setCells g o (Builtin.zeroCells z.cells n).toList) := by
  have hz1 : ∀ v ∈ (Builtin.zeroCells z.cells n).toList, v.oneCell' = true := by
    intro v hv'
    unfold Builtin.zeroCells at hv'
    simp only [Array.toList_map, List.mem_map] at hv'
    obtain ⟨i, hi, rfl⟩ := hv'
    have hi' : i < n * z.cells.size := by simpa using hi
    have hp : 0 < z.cells.size := by
      rcases Nat.eq_zero_or_pos z.cells.size with e | e
      · rw [e] at hi'; omega
      · exact e
    have hm : i % z.cells.size < z.cells.size := Nat.mod_lt _ hp
    rw [getElem!_pos z.cells _ hm]
    exact h1 _ (by simp)
  have hst := run_storeCells_at P g o t' (Builtin.zeroCells z.cells n).toList 0 cur.toArray w hg (by simpa [Builtin.zeroCells] using hfit) hz1
  have e2 : w.setRow g (cur.toArray.toList.take (o + 0) ++ (Builtin.zeroCells z.cells n).toList ++ cur.toArray.toList.drop (o + 0 + (Builtin.zeroCells z.cells n).toList.length)).toArray = w.setCells g o (Builtin.zeroCells z.cells n).toList := by
    rw [setCells_setRow g t' (0, 0) _ o w cur hg (by simpa [Builtin.zeroCells] using hfit)]
    simp [splice]
  rw [e2] at hst
  cases n with
  | zero =>
    have : (Builtin.zeroCells z.cells 0).toList = [] := by simp [Builtin.zeroCells]
    rw [this]
    simp [Builtin.clear_, run_underlying ht]
    rfl
  | succ m => simp [Builtin.clear_, run_underlying ht, hv, hst]
end Go.Proofs.Ytkfpfbkdalbjoaa
