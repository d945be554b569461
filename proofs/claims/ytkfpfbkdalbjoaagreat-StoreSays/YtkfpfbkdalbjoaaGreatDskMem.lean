/-
  Sectors and writes of a disk as they lie in memory: an array's cells, a row of writes.
-/
import Derived.Test.YtkfpfbkdalbjoaaGreatBase
import Derived.Deep.MidRow
import Derived.Laws.IdiomStrings
import Derived.OwnWalk
import Derived.Laws.CopyOwn
import Derived.Lib.SliceRun
namespace Go.Proofs.YtkfpfbkdalbjoaaGreat
open Go.RowKit Go.Joins

def secV (d : ByteArray) : List Value := d.data.toList.map fun b => .int .u8 b.toNat
abbrev Wr := Int × ByteArray
def cellW (x : Wr) : List Value := .int .i64 x.1 :: secV x.2
theorem secV_length (d : ByteArray) : (secV d).length = d.size := by unfold secV; rw [List.length_map, Array.length_toList]; rfl
theorem secV_one (d : ByteArray) : ∀ v ∈ secV d, v.oneCell' = true := fun v hv => by
  obtain ⟨b, _, rfl⟩ := List.mem_map.1 hv; rfl
theorem cellW_length {x : Wr} (h : x.2.size = 96) : (cellW x).length = 97 := by unfold cellW; rw [List.length_cons, secV_length, h]
theorem cellW_one (x : Wr) : ∀ v ∈ cellW x, v.oneCell' = true := fun v hv => by
  rcases List.mem_cons.1 hv with rfl | hv
  · rfl
  · exact secV_one _ v hv
/-- the cells of a row of things that have so many cells each -/
theorem dflat_get {α : Type} {f : α → List Value} {z : Nat} {l : List α} (h : ∀ x ∈ l, (f x).length = z) : ∀ (i c : Nat) (hi : i < l.length), c < z → (l.flatMap f)[i * z + c]? = (f l[i])[c]? := by
  induction l with
  | nil => intro i c hi; cases hi
  | cons x l ih =>
    intro i c hi hc
    have hx := h x (List.mem_cons_self ..)
    cases i with
    | zero => rw [List.flatMap_cons, Nat.zero_mul, Nat.zero_add, List.getElem?_append_left (by omega)]; rfl
    | succ i =>
      have e : (i + 1) * z = i * z + z := Nat.succ_mul i z
      rw [List.flatMap_cons, List.getElem?_append_right (by omega), show (i + 1) * z + c - (f x).length = i * z + c by omega, ih (fun y hy => h y (List.mem_cons_of_mem _ hy)) i c (by simpa using hi) hc]
      rfl
theorem dflat_length {α : Type} {f : α → List Value} {z : Nat} {l : List α} (h : ∀ x ∈ l, (f x).length = z) : (l.flatMap f).length = l.length * z := by
  induction l with
  | nil => simp
  | cons x l ih =>
    rw [List.flatMap_cons, List.length_append, h x (List.mem_cons_self ..), ih (fun y hy => h y (List.mem_cons_of_mem _ hy)), List.length_cons, Nat.succ_mul]; omega
def ownW (w : World) (B : Nat) (v : Value) (l : List Wr) : Prop := w.ownsRow B 151 97 v l.length (l.flatMap cellW) ∧ ∀ x ∈ l, x.2.size = 96
theorem write_size : (Tryz.prog.info? 151).map (·.size) = some 97 := by kernel_rfl
theorem sector_size : (Tryz.prog.info? 118).map (·.size) = some 96 := by kernel_rfl
theorem ownW_range {w : World} {B g n cap : Nat} {l : List Wr} (h : ownW w B (.slice (some ⟨g, 0, none⟩) n cap) l) {i : Nat} (hi : i < l.length) : w.rangeAt g (i * 97) (cellW l[i]) := fun j v hv => by
  have hj : j < (cellW l[i]).length := (List.getElem?_eq_some_iff.1 hv).1
  rw [cellW_length (h.2 _ (List.getElem_mem hi))] at hj
  have e := World.ownsRow.cells h.1 (g := g) rfl (i * 97 + j) v ((dflat_get (fun x hx => cellW_length (h.2 x hx)) i j hi hj).trans hv)
  rw [Go.Addr.add_mid, Nat.zero_add] at e
  exact e
theorem rangeAt_on {W w1 : World} {b o : Nat} {cs : List Value} (hb : Below W.heap.size W w1) (h : W.rangeAt b o cs) : w1.rangeAt b o cs := fun j v hv => cell_on hb (h j v hv)
/-- a write's load out of its row -/
theorem load_write {w : World} {g o : Nat} {x : Wr} (h : w.rangeAt g o (cellW x)) (hx : x.2.size = 96) : (Instr.loadAt 151 (.pointer (some ⟨g, o, none⟩))).run Tryz.prog w = .ok (.agg (cellW x).toArray) w :=
  run_loadAt_mid w g o _ _ _ h Tryz.underlying151 rfl (by rw [cellW_length hx]; exact write_size)
theorem load_sector {w : World} {g o : Nat} {d : ByteArray} (h : w.rangeAt g o (secV d)) (hx : d.size = 96) : (Instr.loadAt 118 (.pointer (some ⟨g, o, none⟩))).run Tryz.prog w = .ok (.agg (secV d).toArray) w :=
  run_loadAt_mid w g o _ _ _ h Tryz.underlying118 rfl (by rw [secV_length, hx]; exact sector_size)
end Go.Proofs.YtkfpfbkdalbjoaaGreat

/-
  What slices.IndexFunc and slices.DeleteFunc make of a row of writes, by the closure of Disk.note: those of one bit are struck.
-/
namespace Go.Proofs.YtkfpfbkdalbjoaaGreat
open Go.RowKit Go.Joins
attribute [local go_sem ↓] Go.wp_at_zero Go.wp_at_succ

set_option maxRecDepth 100000 in
set_option maxHeartbeats 400000 in
theorem hit_any (pb : Nat) (q : Int) (x : Wr) (w : World) (hq : w.cell? ⟨pb, 0, none⟩ = some (.int .i64 q)) :
    Calls Tryz.prog 81 #[.agg (cellW x).toArray, .pointer (some ⟨pb, 0, none⟩)] w fun e w' => e = .returned (.bool (x.1 == q)) ∧ Below w.heap.size w w' := by
  have hpb : pb < w.heap.size := World.block_lt_of_cell? _ _ hq
  have h0 : (cellW x)[0]? = some (.int .i64 x.1) := rfl
  generalize cellW x = cs at *
  generalize x.1 = b at *
  go_enter Tryz.func81, Tryz.ntmps81
  go_wp2
  go_ret
  exact ⟨rfl, (Below.refl _ _).alloc (Nat.le_refl _) _⟩
/-- the place of the first write of a bit, from a place on -/
def idxW (q : Int) : List Wr → Option Nat
  | [] => none
  | x :: l => if x.1 == q then some 0 else (idxW q l).map (· + 1)
def idxN (q : Int) (l : List Wr) : Int := match idxW q l with | some i => i | none => -1
theorem idxW_take {q : Int} : ∀ {l : List Wr} {k : Nat}, (∀ i (h : i < l.length), i < k → (l[i].1 == q) = false) → ∀ (hk : k < l.length), (l[k].1 == q) = true → idxW q l = some k
  | [], _, _, hk, _ => by cases hk
  | x :: l, 0, _, _, e => by unfold idxW; rw [show (x.1 == q) = true from e]; rfl
  | x :: l, k + 1, h, hk, e => by
    unfold idxW
    rw [show (x.1 == q) = false from h 0 (by simp) (by omega), idxW_take (k := k) (fun i hi hl => h (i + 1) (by simpa using hi) (by omega)) (by simpa using hk) e]
    rfl
theorem idxW_none {q : Int} : ∀ {l : List Wr}, (∀ i (h : i < l.length), (l[i].1 == q) = false) → idxW q l = none
  | [], _ => rfl
  | x :: l, h => by
    unfold idxW
    rw [show (x.1 == q) = false from h 0 (by simp), idxW_none (fun i hi => h (i + 1) (by simpa using hi))]
    rfl
set_option maxRecDepth 100000 in
set_option maxHeartbeats 1000000 in
theorem idxF_any (pb : Nat) (q : Int) (g cap : Nat) (l : List Wr) (B : Nat) (w : World) (hq : w.cell? ⟨pb, 0, none⟩ = some (.int .i64 q)) (h : ownW w B (.slice (some ⟨g, 0, none⟩) l.length cap) l) (hl : l.length ≤ 1000) :
    Calls Tryz.prog 87 #[.slice (some ⟨g, 0, none⟩) l.length cap, .func (.func 81) #[] #[.pointer (some ⟨pb, 0, none⟩)]] w fun e w' => e = .returned (.int .i64 (idxN q l)) ∧ Below w.heap.size w w' := by
  have H := hide h
  have HQ := hide hq
  clear h hq
  go_enter Tryz.func87, Tryz.ntmps87
  go_wp2
  go_loopw [8] (fun i wr => ∃ k : Nat, k ≤ l.length ∧ i = .int .i64 (k : Int) ∧ (∀ j (h : j < l.length), j < k → (l[j].1 == q) = false) ∧ Below w.heap.size w wr) (fun i _ => l.length - (intOf i).toNat)
  case atStart => exact ⟨0, Nat.zero_le _, rfl, fun j _ hj => by omega, Below.refl _ _⟩
  case round =>
    obtain ⟨k, hk, rfl, hno, hB⟩ := hrel
    have HNO := hide hno
    clear hno
    by_cases hlt : k < l.length
    · have hlt' : (k : Int) < (l.length : Int) := by omega
      have HLD := hide (rangeAt_on hB (ownW_range H.out hlt))
      have HLS := hide (H.out.2 _ (List.getElem_mem hlt))
      have HH := fun W hW => hide (hit_any pb q l[k] W hW)
      have HE : ∀ b, (l[k].1 == q) = b → Hid ((l[k].1 == q) = b) := fun _ h => h
      generalize hx : l[k] = x at *
      have HX := hide hx
      clear hx
      cases hb : (x.1 == q) with
      | true =>
        have HR : Hid (idxN q l = k) := by
          unfold idxN
          rw [idxW_take HNO.out hlt (by rw [HX.out]; exact hb)]
          rfl
        go_wp2_with (first
          | (go_at_call 81; refine (HH _ (cell_on hB HQ.out)).out.mono ?_; rintro e w1 ⟨rfl, hb1⟩)
          | (refine wpList_load_mid (by rfl) 151 _ (by rfl) g (k * 97) (by rfl) (cellW x) _ HLD.out Tryz.underlying151 (by rfl) (by rw [cellW_length HLS.out]; exact write_size) ?_))
        go_ret
        exact ⟨ret_int HR.out.symm, below_on hB (Nat.le_refl _) hb1⟩
      | false =>
        go_wp2_with (first
          | (go_at_call 81; refine (HH _ (cell_on hB HQ.out)).out.mono ?_; rintro e w1 ⟨rfl, hb1⟩)
          | (refine wpList_load_mid (by rfl) 151 _ (by rfl) g (k * 97) (by rfl) (cellW x) _ HLD.out Tryz.underlying151 (by rfl) (by rw [cellW_length HLS.out]; exact write_size) ?_))
        exact ⟨⟨k + 1, by omega, by go_num, fun j h hj => by
          by_cases e : j = k
          · subst e; rw [HX.out]; exact hb
          · exact HNO.out j h (by omega), below_on hB (Nat.le_refl _) hb1⟩, by simp [intOf]; omega⟩
    · have ek : k = l.length := by omega
      subst ek
      have HR : Hid (idxN q l = -1) := by
        unfold idxN
        rw [idxW_none fun i hi => HNO.out i hi hi]; rfl
      have lk : ¬ (l.length : Int) < (l.length : Int) := by omega
      go_wp2
      go_ret
      exact ⟨ret_int HR.out.symm, hB⟩
end Go.Proofs.YtkfpfbkdalbjoaaGreat

/-
  A block that is known whole: what a store of many cells, copy and clear make of it. Nothing of the program is named here.
-/
namespace Go.Proofs.YtkfpfbkdalbjoaaGreat
open Go.RowKit Go.Joins

theorem splice_zero {α : Type} (L : List α) (o : Nat) : splice L o [] = L := by simp [splice]
theorem splice_cons {α : Type} (L : List α) (o : Nat) (v : α) (vs : List α) (h : o < L.length) : splice (L.set o v) (o + 1) vs = splice L o (v :: vs) := by
  unfold splice
  have h1 : (L.set o v).take (o + 1) = L.take o ++ [v] := by
    rw [List.take_set]
    rw [List.take_succ_eq_append_getElem h, List.set_append_right _ _ (by rw [List.length_take]; omega), show o - (L.take o).length = 0 by simp; omega]
    rfl
  have h2 : (L.set o v).drop (o + 1 + vs.length) = L.drop (o + (v :: vs).length) := by
    rw [List.drop_set, if_pos (by omega), List.length_cons]; congr 1; omega
  rw [h1, h2]; simp
theorem splice_get {α : Type} (L : List α) (o : Nat) (cs : List α) (h : o + cs.length ≤ L.length) (j : Nat) : (splice L o cs)[j]? = if j < o then L[j]? else if j < o + cs.length then cs[j - o]? else L[j]? := by
  unfold splice
  by_cases h1 : j < o
  · rw [if_pos h1, List.getElem?_append_left (by rw [List.length_take]; omega), List.getElem?_take_of_lt h1]
  · rw [if_neg h1, List.getElem?_append_right (by rw [List.length_take]; omega)]
    have e : j - (L.take o).length = j - o := by rw [List.length_take]; omega
    rw [e]
    by_cases h2 : j < o + cs.length
    · rw [if_pos h2, List.getElem?_append_left (by omega)]
    · rw [if_neg h2, List.getElem?_append_right (by omega), List.getElem?_drop]; congr 1; omega
/-- one thing of a row is laid anew -/
theorem dflat_set {α : Type} {f : α → List Value} {z : Nat} {l : List α} (h : ∀ x ∈ l, (f x).length = z) (i : Nat) (hi : i < l.length) (x : α) (hx : (f x).length = z) : splice (l.flatMap f) (i * z) (f x) = (l.set i x).flatMap f := by
  induction l generalizing i with
  | nil => cases hi
  | cons y l ih =>
    have hy := h y (List.mem_cons_self ..)
    cases i with
    | zero =>
      unfold splice
      rw [List.set_cons_zero, List.flatMap_cons, List.flatMap_cons, Nat.zero_mul, List.take_zero, List.nil_append, Nat.zero_add, hx, ← hy, List.drop_left]
    | succ i =>
      have e := ih (fun a ha => h a (List.mem_cons_of_mem _ ha)) i (by simpa using hi)
      rw [List.set_cons_succ, List.flatMap_cons, List.flatMap_cons, ← e]
      unfold splice
      have e2 : (i + 1) * z = (f y).length + i * z := by rw [hy, Nat.succ_mul]; omega
      rw [e2, List.take_append_of_le_length_add, Nat.add_assoc, List.drop_append_of_le_length_add]
      rw [List.append_assoc]
where
  List.take_append_of_le_length_add {α : Type} {a b : List α} {n : Nat} : (a ++ b).take (a.length + n) = a ++ b.take n := by rw [List.take_append, List.take_of_length_le (by omega), show a.length + n - a.length = n by omega]
  List.drop_append_of_le_length_add {α : Type} {a b : List α} {n : Nat} : (a ++ b).drop (a.length + n) = b.drop n := by rw [List.drop_append, List.drop_of_length_le (by omega), show a.length + n - a.length = n by omega, List.nil_append]
theorem heap_setCells (g : Nat) (t : TypeId) (fr : Nat × Nat) : ∀ (vs : List Value) (o : Nat) (w : World) (cur : List Value), w.heap[g]? = some (.cells cur.toArray t fr) → o + vs.length ≤ cur.length → (w.setCells g o vs).heap[g]? = some (.cells (splice cur o vs).toArray t fr)
  | [], o, w, cur, h, _ => by rw [splice_zero]; exact h
  | v :: vs, o, w, cur, h, hl => by
    have hl' : o + (vs.length + 1) ≤ cur.length := hl
    rw [World.setCells, ← splice_cons cur o v vs (by omega)]
    refine heap_setCells g t fr vs (o + 1) _ (cur.set o v) ?_ (by rw [List.length_set]; omega)
    rw [setCell_eq_setRow w g o cur.toArray t fr v h, setRow_heap w g cur.toArray _ t fr h]
    congr 2
    apply Array.ext'
    simp
theorem setCells_setRow (g : Nat) (t : TypeId) (fr : Nat × Nat) : ∀ (vs : List Value) (o : Nat) (w : World) (cur : List Value), w.heap[g]? = some (.cells cur.toArray t fr) → o + vs.length ≤ cur.length → w.setCells g o vs = w.setRow g (splice cur o vs).toArray
  | [], o, w, cur, h, _ => by rw [splice_zero, setRow_self w g cur.toArray t fr h]; rfl
  | v :: vs, o, w, cur, h, hl => by
    have hl' : o + (vs.length + 1) ≤ cur.length := hl
    have e : w.setCell ⟨g, o, none⟩ v = w.setRow g (cur.set o v).toArray := by
      rw [setCell_eq_setRow w g o cur.toArray t fr v h]
      congr 1
      apply Array.ext'
      simp
    rw [World.setCells, ← splice_cons cur o v vs (by omega), e, setCells_setRow g t fr vs (o + 1) _ (cur.set o v) (setRow_heap w g cur.toArray _ t fr h) (by rw [List.length_set]; omega), setRow_setRow]
theorem there_of_block {w : World} {g : Nat} {cur : List Value} {t : TypeId} (h : w.heap[g]? = some (.cells cur.toArray t (0, 0))) {o n : Nat} (hl : o + n ≤ cur.length) : w.there g o n := fun j hj => by
  refine ⟨?_, by simp [World.frozen?, h]⟩
  rw [cell_of_row w g (o + j) cur.toArray t (0, 0) h]
  simp; omega
theorem rangeAt_block {w : World} {g : Nat} {cur : List Value} {t : TypeId} {fr : Nat × Nat} (h : w.heap[g]? = some (.cells cur.toArray t fr)) {o : Nat} {cs : List Value} (hc : ∀ j, j < cs.length → cur[o + j]? = cs[j]?) : w.rangeAt g o cs := fun j v hv => by
  have hj : j < cs.length := (List.getElem?_eq_some_iff.1 hv).1
  rw [cell_of_row w g (o + j) cur.toArray t fr h, List.getElem?_toArray, hc j hj, hv]
/-- copy into a block that is known whole -/
theorem run_copy_any {P : Program} (w : World) (dT sT ty elem : TypeId) (size g o dLen dCap m : Nat) (src : Value) (cur : List Value) (t : TypeId) (cs : List Value) (hu : P.underlying dT = some (.slice elem)) (hs : (P.info? elem).map (·.size) = some size)
    (hg : w.heap[g]? = some (.cells cur.toArray t (0, 0))) (hm : (Builtin.lenOf src).run P w = .ok m w) (hf : (Builtin.firstCells size (Nat.min m dLen) src).run P w = .ok cs.toArray w) (hfit : o + cs.length ≤ cur.length) (h1 : ∀ v ∈ cs, v.oneCell' = true) :
    (Builtin.copy_ #[dT, sT] ty #[.slice (some ⟨g, o, none⟩) dLen dCap, src]).run P w = .ok (goInt (Nat.min m dLen)) (w.setCells g o cs) := by
  have hst := run_storeCells_at P g o t cs 0 cur.toArray w hg (by simpa using hfit) h1
  have e : w.setRow g (cur.toArray.toList.take (o + 0) ++ cs ++ cur.toArray.toList.drop (o + 0 + cs.length)).toArray = w.setCells g o cs := by
    rw [setCells_setRow g t (0, 0) cs o w cur hg hfit]
    simp [splice]
  rw [e] at hst
  cases hq : P.info? elem with
  | none => simp [hq] at hs
  | some i =>
    have hi : i.size = size := by simpa [hq] using hs
    simp [Builtin.copy_, run_underlying hu, hm, hf, hst, hq, hi, typeInfo, sizeOf]
/-- a store of a whole variable that was just made -/
theorem store_new {P : Program} (w : World) (C : Array Value) (t : TypeId) (vs : List Value) (h : vs.length = C.size) (h1 : ∀ v ∈ vs, v.oneCell' = true) : (storeCells ⟨w.heap.size, 0, none⟩ vs).run P (w.alloc (.cells C t)) = .ok () (w.alloc (.cells vs.toArray t)) := by
  have hst := run_storeCells_at P w.heap.size 0 t vs 0 C (w.alloc (.cells C t)) (Go.heap_alloc_new w _) (by omega) h1
  have e : (w.alloc (.cells C t)).setRow w.heap.size (C.toList.take (0 + 0) ++ vs ++ C.toList.drop (0 + 0 + vs.length)).toArray = w.alloc (.cells vs.toArray t) := by
    have e1 : C.toList.take (0 + 0) ++ vs ++ C.toList.drop (0 + 0 + vs.length) = vs := by
      rw [List.take_zero, List.nil_append, List.drop_of_length_le (by simp; omega), List.append_nil]
    rw [e1]
    unfold World.setRow World.alloc
    cases w with
    | mk heap tape drawn os output =>
      congr 1
      apply Array.ext
      · simp
      · intro k h1 h2
        simp only [Array.getElem_modify, Array.getElem_push]
        split
        · rename_i hk; subst hk; simp
        · rename_i hk
          have hlt : k < heap.size := by simp at h2; omega
          rw [dif_pos hlt, dif_pos hlt]
  rw [e] at hst
  exact hst
/-- clear of a part of a block that is known whole -/
theorem run_clear_any {P : Program} (w : World) (t e ty : TypeId) (z : Value) (ht : P.underlying t = some (.slice e)) (hv : ∀ w, (zeroValue e).run P w = .ok z w) (h1 : ∀ v ∈ z.cells, v.oneCell' = true) (g o n c : Nat) (cur : List Value) (t' : TypeId)
    (hg : w.heap[g]? = some (.cells cur.toArray t' (0, 0))) (hfit : o + n * z.cells.size ≤ cur.length) :
    (Builtin.clear_ #[t] ty #[.slice (some ⟨g, o, none⟩) n c]).run P w = .ok (.tuple #[]) (w.setCells g o (Builtin.zeroCells z.cells n).toList) := by
  have hz1 : ∀ v ∈ (Builtin.zeroCells z.cells n).toList, v.oneCell' = true := by
    intro v hv'
    unfold Builtin.zeroCells at hv'
    simp only [Array.toList_map, List.mem_map] at hv'
    obtain ⟨i, hi, rfl⟩ := hv'
    have hi' : i < n * z.cells.size := by simpa using hi
    have hp : 0 < z.cells.size := by
      rcases Nat.eq_zero_or_pos z.cells.size with e | e
      · rw [e] at hi'; omega
      · exact e
    have hm : i % z.cells.size < z.cells.size := Nat.mod_lt _ hp
    rw [getElem!_pos z.cells _ hm]
    exact h1 _ (by simp)
  have hst := run_storeCells_at P g o t' (Builtin.zeroCells z.cells n).toList 0 cur.toArray w hg (by simpa [Builtin.zeroCells] using hfit) hz1
  have e2 : w.setRow g (cur.toArray.toList.take (o + 0) ++ (Builtin.zeroCells z.cells n).toList ++ cur.toArray.toList.drop (o + 0 + (Builtin.zeroCells z.cells n).toList.length)).toArray = w.setCells g o (Builtin.zeroCells z.cells n).toList := by
    rw [setCells_setRow g t' (0, 0) _ o w cur hg (by simpa [Builtin.zeroCells] using hfit)]
    simp [splice]
  rw [e2] at hst
  cases n with
  | zero =>
    have : (Builtin.zeroCells z.cells 0).toList = [] := by simp [Builtin.zeroCells]
    rw [this]
    simp [Builtin.clear_, run_underlying ht]
    rfl
  | succ m => simp [Builtin.clear_, run_underlying ht, hv, hst]
end Go.Proofs.YtkfpfbkdalbjoaaGreat

/-
  What slices.DeleteFunc makes of a row of writes, by the closure of Disk.note: those of one bit are struck.
-/
namespace Go.Proofs.YtkfpfbkdalbjoaaGreat
open Go.RowKit Go.Joins
attribute [local go_sem ↓] Go.wp_at_zero Go.wp_at_succ

def offW (q : Int) (l : List Wr) : List Wr := l.filter fun x => !(x.1 == q)
theorem offW_take {q : Int} {l : List Wr} {k : Nat} (hk : k < l.length) : offW q (l.take (k + 1)) = offW q (l.take k) ++ if (l[k].1 == q) then [] else [l[k]] := by
  unfold offW
  rw [List.take_succ_eq_append_getElem hk, List.filter_append]
  cases h : (l[k].1 == q) <;> simp [h]
theorem offW_none {q : Int} {l : List Wr} (h : idxW q l = none) : offW q l = l := by
  induction l with
  | nil => rfl
  | cons x l ih =>
    unfold idxW at h
    cases e : (x.1 == q) with
    | true => rw [e] at h; simp at h
    | false =>
      rw [e] at h
      have h' : idxW q l = none := by simpa using h
      show List.filter _ (x :: l) = x :: l
      rw [List.filter_cons, e]
      have := ih h'
      unfold offW at this
      simp [this]
theorem idxW_some {q : Int} : ∀ {l : List Wr} {k : Nat}, idxW q l = some k → ∃ hk : k < l.length, (l[k].1 == q) = true ∧ offW q (l.take k) = l.take k
  | [], _, h => by cases h
  | x :: l, k, h => by
    unfold idxW at h
    cases e : (x.1 == q) with
    | true =>
      rw [e] at h
      have h' : 0 = k := by simpa using h
      subst h'
      exact ⟨by simp, e, rfl⟩
    | false =>
      rw [e] at h
      cases hk : idxW q l with
      | none => rw [hk] at h; simp at h
      | some j =>
        rw [hk] at h
        have h' : j + 1 = k := by simpa using h
        subst h'
        obtain ⟨a, b, c⟩ := idxW_some hk
        refine ⟨by simpa using a, b, ?_⟩
        unfold offW at c ⊢
        rw [List.take_succ_cons, List.filter_cons, e, c]
        rfl
theorem offW_length (q : Int) (l : List Wr) : (offW q l).length ≤ l.length := List.length_filter_le _ _
theorem ownW_set {w : World} {B g cap : Nat} {L : List Wr} (h : ownW w B (.slice (some ⟨g, 0, none⟩) L.length cap) L) (i : Nat) (hi : i < L.length) (x : Wr) (hx : x.2.size = 96) : ownW (w.setCells g (i * 97) (cellW x)) B (.slice (some ⟨g, 0, none⟩) L.length cap) (L.set i x) := by
  obtain ⟨⟨hlen, h2⟩, hs⟩ := h
  have hs' : ∀ y ∈ L.set i x, y.2.size = 96 := fun y hy => (List.mem_or_eq_of_mem_set hy).elim (hs y) (fun e => by rw [e]; exact hx)
  rcases h2 with ⟨e, _⟩ | ⟨g', cap', cur, e, hB, hg, h3, h4, h5, h6⟩
  · cases e
  · cases e
    refine ⟨⟨by rw [dflat_length (z := 97) (fun y hy => cellW_length (hs' y hy))], .inr ⟨g, cap, (splice cur.toList (i * 97) (cellW x)).toArray, by rw [List.length_set], hB, ?_, by rw [List.length_set]; exact h3, h4, ?_, ?_⟩⟩, hs'⟩
    · refine heap_setCells g _ (0, 0) _ _ w cur.toList (by simpa using hg) ?_
      rw [cellW_length hx, Array.length_toList, h5]; omega
    · rw [List.size_toArray, length_splice _ _ _ (by rw [cellW_length hx, Array.length_toList, h5]; omega), Array.length_toList, h5]
    · rw [List.length_set]
      have hc : ∀ y ∈ L, (cellW y).length = 97 := fun y hy => cellW_length (hs y hy)
      rw [← dflat_set hc i hi x (cellW_length hx), ← h6]
      apply List.ext_getElem?
      intro j
      have hb : i * 97 + (cellW x).length ≤ cur.toList.length := by rw [cellW_length hx, Array.length_toList, h5]; omega
      have hb2 : i * 97 + (cellW x).length ≤ (cur.toList.take (L.length * 97)).length := by rw [h6, dflat_length hc, cellW_length hx]; omega
      rw [splice_get _ _ _ hb2, List.getElem?_take]
      by_cases hj : j < L.length * 97
      · rw [if_pos hj, splice_get _ _ _ hb, List.getElem?_take, if_pos hj]
      · rw [if_neg hj, List.getElem?_take, if_neg hj, if_neg (by omega), if_neg (by rw [cellW_length hx]; omega)]
theorem ownW_cut {w : World} {B g cap : Nat} {L R : List Wr} (h : ownW w B (.slice (some ⟨g, 0, none⟩) L.length cap) L) (hR : L.take R.length = R) : ownW w B (.slice (some ⟨g, 0, none⟩) R.length cap) R := by
  obtain ⟨⟨hlen, h2⟩, hs⟩ := h
  have hRL : R.length ≤ L.length := by have := congrArg List.length hR; rw [List.length_take] at this; omega
  have hs' : ∀ y ∈ R, y.2.size = 96 := fun y hy => hs y (List.mem_of_mem_take (by rw [hR]; exact hy))
  rcases h2 with ⟨e, _⟩ | ⟨g', cap', cur, e, hB, hg, h3, h4, h5, h6⟩
  · cases e
  · cases e
    refine ⟨⟨dflat_length (z := 97) fun y hy => cellW_length (hs' y hy), .inr ⟨g, cap, cur, rfl, hB, hg, by omega, h4, h5, ?_⟩⟩, hs'⟩
    have e1 : cur.toList.take (R.length * 97) = (L.flatMap cellW).take (R.length * 97) := by rw [← h6, List.take_take]; congr 1; omega
    rw [e1]
    conv => lhs; rw [← List.take_append_drop R.length L, hR, List.flatMap_append]
    rw [List.take_append_of_le_length (by rw [dflat_length (z := 97) fun y hy => cellW_length (hs' y hy)]; omega), List.take_of_length_le (by rw [dflat_length (z := 97) fun y hy => cellW_length (hs' y hy)]; omega)]
theorem ownW_past {w : World} {B g cap : Nat} {R : List Wr} (h : ownW w B (.slice (some ⟨g, 0, none⟩) R.length cap) R) (zs : List Value) (hz : R.length * 97 + zs.length ≤ cap * 97) : ownW (w.setCells g (R.length * 97) zs) B (.slice (some ⟨g, 0, none⟩) R.length cap) R := by
  obtain ⟨⟨hlen, h2⟩, hs⟩ := h
  rcases h2 with ⟨e, _⟩ | ⟨g', cap', cur, e, hB, hg, h3, h4, h5, h6⟩
  · cases e
  · cases e
    have hcl : cur.toList.length = cap * 97 := (Array.length_toList ..).trans h5
    have hb : R.length * 97 + zs.length ≤ cur.toList.length := by rw [hcl]; exact hz
    refine ⟨⟨hlen, .inr ⟨g, cap, (splice cur.toList (R.length * 97) zs).toArray, rfl, hB, heap_setCells g _ (0, 0) _ _ w cur.toList (by simpa using hg) hb, h3, h4, ?_, ?_⟩⟩, hs⟩
    · rw [List.size_toArray, length_splice _ _ _ hb, Array.length_toList, h5]
    · rw [← h6]
      unfold splice
      rw [List.take_append_of_le_length (by rw [List.length_take, hcl]; omega), List.take_take]
      congr 1
      omega
theorem ownW_there {w : World} {B g cap : Nat} {L : List Wr} (h : ownW w B (.slice (some ⟨g, 0, none⟩) L.length cap) L) {i : Nat} (hi : i < L.length) : w.there g (i * 97) 97 := by
  rcases h.1.2 with ⟨e, _⟩ | ⟨g', cap', cur, e, hB, hg, h3, h4, h5, h6⟩
  · cases e
  · cases e
    exact there_of_block (cur := cur.toList) (by simpa using hg) (by rw [Array.length_toList, h5]; omega)
theorem ownW_block {w : World} {B g cap : Nat} {L : List Wr} (h : ownW w B (.slice (some ⟨g, 0, none⟩) L.length cap) L) : ∃ cur : List Value, w.heap[g]? = some (.cells cur.toArray 151 (0, 0)) ∧ cur.length = cap * 97 := by
  rcases h.1.2 with ⟨e, _⟩ | ⟨g', cap', cur, e, hB, hg, h3, h4, h5, h6⟩
  · cases e
  · cases e
    exact ⟨cur.toList, by simpa using hg, by rw [Array.length_toList, h5]⟩
theorem ownW_kept {w w' : World} {B : Nat} {v : Value} {l : List Wr} (h : ownW w B v l) (hk : ∀ k, v.ownBlock = some k → w'.heap[k]? = w.heap[k]?) : ownW w' B v l := by
  refine ⟨⟨h.1.1, ?_⟩, h.2⟩
  rcases h.1.2 with e | ⟨g, cap, cur, rfl, hB, hg, h3⟩
  · exact .inl e
  · exact .inr ⟨g, cap, cur, rfl, hB, (hk g rfl).trans hg, h3⟩
theorem below_setCells {B g : Nat} {a : World} (hb : B ≤ g) : ∀ (vs : List Value) (o : Nat) (w : World), Below B a w → Below B a (w.setCells g o vs)
  | [], _, _, h => h
  | v :: vs, o, _, h => below_setCells hb vs (o + 1) _ (h.setCell (p := ⟨g, o, none⟩) hb v)
theorem heap_setCells_other (g : Nat) : ∀ (vs : List Value) (o : Nat) (w : World) {k : Nat}, k ≠ g → (w.setCells g o vs).heap[k]? = w.heap[k]?
  | [], _, _, _, _ => rfl
  | _ :: vs, o, _, _, h => (heap_setCells_other g vs (o + 1) _ h).trans (Below.heap_setCell _ _ _ _ h)
/-- what a call leaves of a row of writes: that row alone is another one -/
structure DelAt (w w' : World) (B g : Nat) (v : Value) (l : List Wr) : Prop where
  own : ownW w' B v l
  bel : Below B w w'
  far : ∀ k, k ≠ g → k < w.heap.size → w'.heap[k]? = w.heap[k]?
theorem zero_write : ∃ z : Value, (∀ w, (zeroValue 151).run Tryz.prog w = .ok z w) ∧ z.cells.size = 97 ∧ ∀ v ∈ z.cells, v.oneCell' = true := by
  have h : (Tryz.prog.info? 151).bind (fun i => i.zero.map fun z => (z.cells.size, z.cells.all (·.oneCell'))) = some (97, true) := by kernel_rfl
  cases hi : Tryz.prog.info? 151 with
  | none => rw [hi] at h; cases h
  | some i =>
    rw [hi] at h
    cases hz : i.zero with
    | none => simp [hz] at h
    | some z =>
      simp only [Option.bind_some, hz, Option.map_some, Option.some.injEq, Prod.mk.injEq] at h
      exact ⟨z, fun w => by simp [zeroValue, typeInfo, hi, hz], h.1, fun v hv => Array.all_eq_true_iff_forall_mem.1 h.2 v hv⟩
end Go.Proofs.YtkfpfbkdalbjoaaGreat
