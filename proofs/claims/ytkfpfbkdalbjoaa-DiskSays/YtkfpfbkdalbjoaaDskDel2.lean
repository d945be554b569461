/-
  What slices.DeleteFunc makes of a row of writes, by the closure of Disk.note: those of one bit are struck.
-/
import Derived.Test.YtkfpfbkdalbjoaaDskDel
import Derived.Test.YtkfpfbkdalbjoaaDskRow
namespace Go.Proofs.Ytkfpfbkdalbjoaa
open Go.RowKit Go.Joins
attribute [local go_sem ↓] Go.wp_at_zero Go.wp_at_succ

def offW (q : Int) (l : List Wr) : List Wr := l.filter fun x => !(x.1 == q)
theorem offW_take {q : Int} {l : List Wr} {k : Nat} (hk : k < l.length) : offW q (l.take (k + 1)) = offW q (l.take k) ++ if (l[k].1 == q) then [] else [l[k]] := by
  unfold offW
  rw [List.take_succ_eq_append_getElem hk, List.filter_append]
  cases h : (l[k].1 == q) <;> simp [h]
theorem offW_none {q : Int} {l : List Wr} (h : idxW q l = none) : offW q l = l := by
  induction l with
  | nil => rfl
  | cons x l ih =>
    unfold idxW at h
    cases e : (x.1 == q) with
    | true => rw [e] at h; simp at h
    | false =>
      rw [e] at h
      have h' : idxW q l = none := by simpa using h
      show List.filter _ (x :: l) = x :: l
      rw [List.filter_cons, e]
      have := ih h'
      unfold offW at this
      simp [this]
theorem idxW_some {q : Int} : ∀ {l : List Wr} {k : Nat}, idxW q l = some k → ∃ hk : k < l.length, (l[k].1 == q) = true ∧ offW q (l.take k) = l.take k
  | [], _, h => by cases h
  | x :: l, k, h => by
    unfold idxW at h
    cases e : (x.1 == q) with
    | true =>
      rw [e] at h
      have h' : 0 = k := by simpa using h
      subst h'
      exact ⟨by simp, e, rfl⟩
    | false =>
      rw [e] at h
      cases hk : idxW q l with
      | none => rw [hk] at h; simp at h
      | some j =>
        rw [hk] at h
        have h' : j + 1 = k := by simpa using h
        subst h'
        obtain ⟨a, b, c⟩ := idxW_some hk
        refine ⟨by simpa using a, b, ?_⟩
        unfold offW at c ⊢
        rw [List.take_succ_cons, List.filter_cons, e, c]
        rfl
theorem offW_length (q : Int) (l : List Wr) : (offW q l).length ≤ l.length := List.length_filter_le _ _
theorem ownW_set {w : World} {B g cap : Nat} {L : List Wr} (h : ownW w B (.slice (some ⟨g, 0, none⟩) L.length cap) L) (i : Nat) (hi : i < L.length) (x : Wr) (hx : x.2.size = 96) : ownW (w.setCells g (i * 97) (cellW x)) B (.slice (some ⟨g, 0, none⟩) L.length cap) (L.set i x) := by
  obtain ⟨⟨hlen, h2⟩, hs⟩ := h
  have hs' : ∀ y ∈ L.set i x, y.2.size = 96 := fun y hy => (List.mem_or_eq_of_mem_set hy).elim (hs y) (fun e => by rw [e]; exact hx)
  rcases h2 with ⟨e, _⟩ | ⟨g', cap', cur, e, hB, hg, h3, h4, h5, h6⟩
  · cases e
  · cases e
    refine ⟨⟨by rw [dflat_length (z := 97) (fun y hy => cellW_length (hs' y hy))], .inr ⟨g, cap, (splice cur.toList (i * 97) (cellW x)).toArray, by rw [List.length_set], hB, ?_, by rw [List.length_set]; exact h3, h4, ?_, ?_⟩⟩, hs'⟩
    · refine heap_setCells g _ (0, 0) _ _ w cur.toList (by simpa using hg) ?_
      rw [cellW_length hx, Array.length_toList, h5]; omega
    · rw [List.size_toArray, length_splice _ _ _ (by rw [cellW_length hx, Array.length_toList, h5]; omega), Array.length_toList, h5]
    · rw [List.length_set]
      have hc : ∀ y ∈ L, (cellW y).length = 97 := fun y hy => cellW_length (hs y hy)
      rw [← dflat_set hc i hi x (cellW_length hx), ← h6]
      apply List.ext_getElem?
      intro j
      have hb : i * 97 + (cellW x).length ≤ cur.toList.length := by rw [cellW_length hx, Array.length_toList, h5]; omega
      have hb2 : i * 97 + (cellW x).length ≤ (cur.toList.take (L.length * 97)).length := by rw [h6, dflat_length hc, cellW_length hx]; omega
      rw [splice_get _ _ _ hb2, List.getElem?_take]
      by_cases hj : j < L.length * 97
      · rw [if_pos hj, splice_get _ _ _ hb, List.getElem?_take, if_pos hj]
      · rw [if_neg hj, List.getElem?_take, if_neg hj, if_neg (by omega), if_neg (by rw [cellW_length hx]; omega)]
theorem ownW_cut {w : World} {B g cap : Nat} {L R : List Wr} (h : ownW w B (.slice (some ⟨g, 0, none⟩) L.length cap) L) (hR : L.take R.length = R) : ownW w B (.slice (some ⟨g, 0, none⟩) R.length cap) R := by
  obtain ⟨⟨hlen, h2⟩, hs⟩ := h
  have hRL : R.length ≤ L.length := by have := congrArg List.length hR; rw [List.length_take] at this; omega
  have hs' : ∀ y ∈ R, y.2.size = 96 := fun y hy => hs y (List.mem_of_mem_take (by rw [hR]; exact hy))
  rcases h2 with ⟨e, _⟩ | ⟨g', cap', cur, e, hB, hg, h3, h4, h5, h6⟩
  · cases e
  · cases e
    refine ⟨⟨dflat_length (z := 97) fun y hy => cellW_length (hs' y hy), .inr ⟨g, cap, cur, rfl, hB, hg, by omega, h4, h5, ?_⟩⟩, hs'⟩
    have e1 : cur.toList.take (R.length * 97) = (L.flatMap cellW).take (R.length * 97) := by rw [← h6, List.take_take]; congr 1; omega
    rw [e1]
    conv => lhs; rw [← List.take_append_drop R.length L, hR, List.flatMap_append]
    rw [List.take_append_of_le_length (by rw [dflat_length (z := 97) fun y hy => cellW_length (hs' y hy)]; omega), List.take_of_length_le (by rw [dflat_length (z := 97) fun y hy => cellW_length (hs' y hy)]; omega)]
theorem ownW_past {w : World} {B g cap : Nat} {R : List Wr} (h : ownW w B (.slice (some ⟨g, 0, none⟩) R.length cap) R) (zs : List Value) (hz : R.length * 97 + zs.length ≤ cap * 97) : ownW (w.setCells g (R.length * 97) zs) B (.slice (some ⟨g, 0, none⟩) R.length cap) R := by
  obtain ⟨⟨hlen, h2⟩, hs⟩ := h
  rcases h2 with ⟨e, _⟩ | ⟨g', cap', cur, e, hB, hg, h3, h4, h5, h6⟩
  · cases e
  · cases e
    have hcl : cur.toList.length = cap * 97 := (Array.length_toList ..).trans h5
    have hb : R.length * 97 + zs.length ≤ cur.toList.length := by rw [hcl]; exact hz
    refine ⟨⟨hlen, .inr ⟨g, cap, (splice cur.toList (R.length * 97) zs).toArray, rfl, hB, heap_setCells g _ (0, 0) _ _ w cur.toList (by simpa using hg) hb, h3, h4, ?_, ?_⟩⟩, hs⟩
    · rw [List.size_toArray, length_splice _ _ _ hb, Array.length_toList, h5]
    · rw [← h6]
      unfold splice
      rw [List.take_append_of_le_length (by rw [List.length_take, hcl]; omega), List.take_take]
      congr 1
      omega
theorem ownW_there {w : World} {B g cap : Nat} {L : List Wr} (h : ownW w B (.slice (some ⟨g, 0, none⟩) L.length cap) L) {i : Nat} (hi : i < L.length) : w.there g (i * 97) 97 := by
  rcases h.1.2 with ⟨e, _⟩ | ⟨g', cap', cur, e, hB, hg, h3, h4, h5, h6⟩
  · cases e
  · cases e
    exact there_of_block (cur := cur.toList) (by simpa using hg) (by rw [Array.length_toList, h5]; omega)
theorem ownW_block {w : World} {B g cap : Nat} {L : List Wr} (h : ownW w B (.slice (some ⟨g, 0, none⟩) L.length cap) L) : ∃ cur : List Value, w.heap[g]? = some (.cells cur.toArray 98 (0, 0)) ∧ cur.length = cap * 97 := by
  rcases h.1.2 with ⟨e, _⟩ | ⟨g', cap', cur, e, hB, hg, h3, h4, h5, h6⟩
  · cases e
  · cases e
    exact ⟨cur.toList, by simpa using hg, by rw [Array.length_toList, h5]⟩
theorem ownW_kept {w w' : World} {B : Nat} {v : Value} {l : List Wr} (h : ownW w B v l) (hk : ∀ k, v.ownBlock = some k → w'.heap[k]? = w.heap[k]?) : ownW w' B v l := by
  refine ⟨⟨h.1.1, ?_⟩, h.2⟩
  rcases h.1.2 with e | ⟨g, cap, cur, rfl, hB, hg, h3⟩
  · exact .inl e
  · exact .inr ⟨g, cap, cur, rfl, hB, (hk g rfl).trans hg, h3⟩
theorem below_setCells {B g : Nat} {a : World} (hb : B ≤ g) : ∀ (vs : List Value) (o : Nat) (w : World), Below B a w → Below B a (w.setCells g o vs)
  | [], _, _, h => h
  | v :: vs, o, _, h => below_setCells hb vs (o + 1) _ (h.setCell (p := ⟨g, o, none⟩) hb v)
theorem heap_setCells_other (g : Nat) : ∀ (vs : List Value) (o : Nat) (w : World) {k : Nat}, k ≠ g → (w.setCells g o vs).heap[k]? = w.heap[k]?
  | [], _, _, _, _ => rfl
  | _ :: vs, o, _, _, h => (heap_setCells_other g vs (o + 1) _ h).trans (Below.heap_setCell _ _ _ _ h)
/-- what a call leaves of a row of writes: that row alone is another one -/
structure DelAt (w w' : World) (B g : Nat) (v : Value) (l : List Wr) : Prop where
  own : ownW w' B v l
  bel : Below B w w'
  far : ∀ k, k ≠ g → k < w.heap.size → w'.heap[k]? = w.heap[k]?
theorem zero_write : ∃ z : Value, (∀ w, (zeroValue 98).run Try.prog w = .ok z w) ∧ z.cells.size = 97 ∧ ∀ v ∈ z.cells, v.oneCell' = true := by
  have h : (Try.prog.info? 98).bind (fun i => i.zero.map fun z => (z.cells.size, z.cells.all (·.oneCell'))) = some (97, true) := by kernel_rfl
  cases hi : Try.prog.info? 98 with
  | none => rw [hi] at h; cases h
  | some i =>
    rw [hi] at h
    cases hz : i.zero with
    | none => simp [hz] at h
    | some z =>
      simp only [Option.bind_some, hz, Option.map_some, Option.some.injEq, Prod.mk.injEq] at h
      exact ⟨z, fun w => by simp [zeroValue, typeInfo, hi, hz], h.1, fun v hv => Array.all_eq_true_iff_forall_mem.1 h.2 v hv⟩
end Go.Proofs.Ytkfpfbkdalbjoaa
