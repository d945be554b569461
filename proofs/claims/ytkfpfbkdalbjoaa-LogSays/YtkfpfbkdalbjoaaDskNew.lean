/-
  What disk.New returns.
-/
import Derived.Test.YtkfpfbkdalbjoaaDskL
import Derived.OwnWalk
import Derived.Laws.MakeOwn
namespace Go.Proofs.Ytkfpfbkdalbjoaa
open Go.RowKit Go.Joins
attribute [local go_sem ↓] Go.wp_at_zero Go.wp_at_succ

set_option maxRecDepth 8000 in
set_option maxHeartbeats 2000000 in
theorem newDisk_bad (n : Int) (w : World) (h : n < 1 ∨ 200 < n) : Calls Try.prog 10 #[.int .i64 n] w fun e w' => e = .returned (.tuple #[.pointer none, errV 1]) ∧ w' = w := by
  rw [errD_pos (show (1 : Nat) ≠ 0 by decide)]
  by_cases h1 : n < 1
  · go_enter Try.func10, Try.ntmps10
    go_wp2
    go_ret2
    exact ⟨rfl, rfl⟩
  · have h2 : 200 < n := by omega
    go_enter Try.func10, Try.ntmps10
    go_wp2
    go_ret2
    exact ⟨rfl, rfl⟩
theorem zeros_flat (n : Nat) : ∀ m, m = n * 96 → (List.replicate n (zerosB 96)).flatMap secV = List.replicate m (Value.int .u8 0) := by
  induction n with
  | zero => intro m h; rw [h]; rfl
  | succ n ih =>
    intro m h
    rw [List.replicate_succ, List.flatMap_cons, ih (n * 96) rfl, h, Nat.succ_mul, Nat.add_comm, ← List.replicate_append_replicate]
    congr 1
theorem range_zero (Z : Array Value) (n : Nat) (v : Value) (hz : Z.toList = List.replicate Z.size v) : ((Array.range n).map (Z[· % Z.size]!)).toList = List.replicate n v ∨ Z.size = 0 := by
  by_cases h0 : Z.size = 0
  · exact .inr h0
  · refine .inl ?_
    apply List.ext_getElem
    · simp
    · intro i h1 h2
      have hm : i % Z.size < Z.size := Nat.mod_lt _ (by omega)
      simp only [Array.getElem_toList, Array.getElem_map, Array.getElem_range, List.getElem_replicate]
      rw [getElem!_pos Z _ hm, ← Array.getElem_toList]
      simp only [hz, List.getElem_replicate]
theorem sector_parts : ∃ i z, Try.prog.info? 91 = some i ∧ i.zero = some z ∧ i.size = 96 ∧ i.bytes = 96 ∧ z.cells.size = 96 ∧ z.cells.toList = List.replicate 96 (Value.int .u8 0) := by
  have h : (Try.prog.info? 91).bind (fun i => i.zero.map fun z => (z.cells.size, i.size, i.bytes, z.cells.toList)) = some (96, 96, 96, List.replicate 96 (Value.int .u8 0)) := by kernel_rfl
  cases hi : Try.prog.info? 91 with
  | none => rw [hi] at h; cases h
  | some i =>
    rw [hi] at h
    cases hz : i.zero with
    | none => simp [hz] at h
    | some z =>
      simp only [Option.bind_some, hz, Option.map_some, Option.some.injEq, Prod.mk.injEq] at h
      exact ⟨i, z, rfl, hz, h.2.1, h.2.2.1, h.1, h.2.2.2⟩
theorem make_sectors (n : Nat) (h1 : 1 ≤ n) (h2 : n ≤ 200) (w : World) : (Instr.makeSlice 83 (.int .i64 n) (.int .i64 n)).run Try.prog w = .ok (.slice (some ⟨w.heap.size, 0, none⟩) n n) (w.alloc (.cells ((List.replicate n (zerosB 96)).flatMap secV).toArray 91)) := by
  obtain ⟨i, z, hi, hz, hs, hb, hzs, hzl⟩ := sector_parts
  have hc : madeCells z.cells (n * 96) = ((List.replicate n (zerosB 96)).flatMap secV).toArray := by
    apply Array.ext'
    rw [zeros_flat n (n * 96) rfl]
    rcases range_zero z.cells (n * 96) (.int .u8 0) (by rw [hzs]; exact hzl) with e | e
    · exact e
    · omega
  have h := run_makeSlice (P := Try.prog) w 83 91 i z Try.underlying83 hi hz .i64 .i64 n n (by omega) (Int.le_refl _) (by rw [hs, Int.toNat_natCast]; omega) (by rw [hb]; omega) (by omega)
  rw [hs, Int.toNat_natCast, hc] at h
  exact h
theorem rows_parts : ∃ i, Try.prog.info? 96 = some i ∧ i.zero = some (.slice none 0 0) ∧ i.size = 1 ∧ i.bytes = 24 := by
  have h : (Try.prog.info? 96).map (fun i => (i.zero, i.size, i.bytes)) = some (some (.slice none 0 0), 1, 24) := by kernel_rfl
  cases hi : Try.prog.info? 96 with
  | none => rw [hi] at h; cases h
  | some i =>
    rw [hi] at h
    simp only [Option.map_some, Option.some.injEq, Prod.mk.injEq] at h
    exact ⟨i, rfl, h.1, h.2.1, h.2.2⟩
theorem make_rows (n : Nat) (h1 : 1 ≤ n) (h2 : n ≤ 200) (w : World) : (Instr.makeSlice 84 (.int .i64 n) (.int .i64 n)).run Try.prog w = .ok (.slice (some ⟨w.heap.size, 0, none⟩) n n) (w.alloc (.cells (List.replicate n (.slice none 0 0)).toArray 96)) := by
  obtain ⟨i, hi, hz, hs, hb⟩ := rows_parts
  have hc : madeCells (Value.slice none 0 0).cells (n * 1) = (List.replicate n (Value.slice none 0 0)).toArray := by
    apply Array.ext'
    rw [Nat.mul_one]
    rcases range_zero (Value.slice none 0 0).cells n (.slice none 0 0) rfl with e | e
    · exact e
    · cases e
  have h := run_makeSlice (P := Try.prog) w 84 96 i (.slice none 0 0) Try.underlying84 hi hz .i64 .i64 n n (by omega) (Int.le_refl _) (by rw [hs, Int.toNat_natCast]; omega) (by rw [hb]; omega) (by omega)
  rw [hs, Int.toNat_natCast, hc] at h
  exact h
/-- a disk that was just made -/
theorem newDK {w W : World} {n db nb kb lb : Nat} (h1 : 1 ≤ n) (h2 : n ≤ 200) (hd : W.heap[db]? = some (.cells #[.slice (some ⟨nb, 0, none⟩) n n, .slice (some ⟨kb, 0, none⟩) n n, .slice (some ⟨lb, 0, none⟩) n n, .int .i64 0, .int .i64 (-1), .bool false] 86 (0, 0)))
    (hn : W.heap[nb]? = some (.cells ((List.replicate n (zerosB 96)).flatMap secV).toArray 91 (0, 0))) (hk : W.heap[kb]? = some (.cells ((List.replicate n (zerosB 96)).flatMap secV).toArray 91 (0, 0))) (hl : W.heap[lb]? = some (.cells (List.replicate n (.slice none 0 0)).toArray 96 (0, 0)))
    (hap : db ≠ nb ∧ db ≠ kb ∧ db ≠ lb ∧ nb ≠ kb ∧ nb ≠ lb ∧ kb ≠ lb) (hlo : w.heap.size ≤ db ∧ w.heap.size ≤ nb ∧ w.heap.size ≤ kb ∧ w.heap.size ≤ lb) : ∃ S, DK W w.heap.size db S (initD n) := by
  have c : ∀ j, W.cell? ⟨db, j, none⟩ = (#[.slice (some ⟨nb, 0, none⟩) n n, .slice (some ⟨kb, 0, none⟩) n n, .slice (some ⟨lb, 0, none⟩) n n, .int .i64 0, .int .i64 (-1), .bool false] : Array Value)[j]? := fun j => cell_of_row W db j _ _ _ hd
  have z96 : ∀ s ∈ List.replicate n (zerosB 96), s.size = 96 := fun s hs => by rw [List.eq_of_mem_replicate hs]; exact zerosB_size 96
  refine ⟨_, nb, kb, lb, n, List.replicate n (.slice none 0 0), List.replicate n [], -1, ⟨c 0, c 1, c 2, c 3, c 4, c 5, fun j => by simp [World.frozen?, hd]⟩, ⟨hn, hk, hl, by simp [initD], by simp [initD], by simp, by simp, z96, z96, fun i _ _ => ?_, fun i j _ _ k e => ?_, fun i _ k e => ?_, hap, hlo, ⟨h1, h2⟩⟩, rfl, LooseOk.none n, fun x hx => (List.not_mem_nil hx).elim, fun _ => ⟨rfl, by decide, by decide⟩, ?_⟩
  · rw [List.getElem_replicate, List.getElem_replicate]; exact ⟨⟨rfl, .inl ⟨rfl, rfl⟩⟩, fun x hx => (List.not_mem_nil hx).elim⟩
  · rw [List.getElem_replicate] at e; cases e
  · rw [List.getElem_replicate] at e; cases e
  · have := (Array.getElem?_eq_some_iff.1 hd).1; omega
theorem chain4 (w : World) (A B C D : Obj) : ((((w.alloc A).alloc B).alloc C).alloc D).heap[w.heap.size]? = some A ∧ ((((w.alloc A).alloc B).alloc C).alloc D).heap[w.heap.size + 1]? = some B ∧ ((((w.alloc A).alloc B).alloc C).alloc D).heap[w.heap.size + 2]? = some C ∧ ((((w.alloc A).alloc B).alloc C).alloc D).heap[w.heap.size + 3]? = some D := by
  have e : ((((w.alloc A).alloc B).alloc C).alloc D).heap = (((w.heap.push A).push B).push C).push D := rfl
  rw [e]
  simp only [Array.getElem?_push, Array.size_push]
  refine ⟨?_, ?_, ?_, ?_⟩ <;> simp
  rw [if_neg (by omega), if_neg (by omega)]
theorem below4 (w : World) (A B C D : Obj) : Below w.heap.size w ((((w.alloc A).alloc B).alloc C).alloc D) :=
  below_on (below_on (below_on (below_alloc1 w A) (Nat.le_refl _) (below_alloc1 _ B)) (Nat.le_refl _) (below_alloc1 _ C)) (Nat.le_refl _) (below_alloc1 _ D)
def NewP (w w' : World) (n db : Nat) : Prop := (∃ S, DK w' w.heap.size db S (initD n)) ∧ Below w.heap.size w w'
set_option maxRecDepth 8000 in
set_option maxHeartbeats 2000000 in
theorem newDisk_good (n : Nat) (w : World) (h1 : 1 ≤ n) (h2 : n ≤ 200) : Calls Try.prog 10 #[.int .i64 n] w fun e w' => ∃ db, e = .returned (.tuple #[.pointer (some ⟨db, 0, none⟩), .nilIface]) ∧ NewP w w' n db := by
  have h1' : ¬ (n : Int) < 1 := by omega
  have h2' : ¬ 200 < (n : Int) := by omega
  have hm1 := make_sectors n h1 h2
  have hm2 := make_rows n h1 h2
  have H := fun (W : World) (db nb kb lb : Nat) => @newDK w W n db nb kb lb h1 h2
  have HN := hide H
  clear H
  generalize ((List.replicate n (zerosB 96)).flatMap secV).toArray = Z at *
  generalize (List.replicate n (Value.slice none 0 0)).toArray = Y at *
  go_enter Try.func10, Try.ntmps10
  go_wp2_with fail
  go_region_with (fail)
  all_goals
    go_wp2_with fail
    go_ret2
    first
      | (refine ⟨w.heap.size + 3, rfl, HN.out _ _ w.heap.size (w.heap.size + 1) (w.heap.size + 2) ?_ ?_ ?_ ?_ ?_ ?_, ?_⟩ <;> first | exact (chain4 w _ _ _ _).1 | exact (chain4 w _ _ _ _).2.1 | exact (chain4 w _ _ _ _).2.2.1 | exact (chain4 w _ _ _ _).2.2.2 | (refine ⟨?_, ?_, ?_, ?_, ?_, ?_⟩ <;> omega) | (refine ⟨?_, ?_, ?_, ?_⟩ <;> omega) | exact below4 w _ _ _ _ | exact (below4 w _ _ _ _).drew)
      | (refine ⟨w.heap.size + 3, rfl, HN.out _ _ w.heap.size (w.heap.size + 2) (w.heap.size + 1) ?_ ?_ ?_ ?_ ?_ ?_, ?_⟩ <;> first | exact (chain4 w _ _ _ _).1 | exact (chain4 w _ _ _ _).2.1 | exact (chain4 w _ _ _ _).2.2.1 | exact (chain4 w _ _ _ _).2.2.2 | (refine ⟨?_, ?_, ?_, ?_, ?_, ?_⟩ <;> omega) | (refine ⟨?_, ?_, ?_, ?_⟩ <;> omega) | exact below4 w _ _ _ _ | exact (below4 w _ _ _ _).drew)
      | (refine ⟨w.heap.size + 3, rfl, HN.out _ _ (w.heap.size + 1) w.heap.size (w.heap.size + 2) ?_ ?_ ?_ ?_ ?_ ?_, ?_⟩ <;> first | exact (chain4 w _ _ _ _).1 | exact (chain4 w _ _ _ _).2.1 | exact (chain4 w _ _ _ _).2.2.1 | exact (chain4 w _ _ _ _).2.2.2 | (refine ⟨?_, ?_, ?_, ?_, ?_, ?_⟩ <;> omega) | (refine ⟨?_, ?_, ?_, ?_⟩ <;> omega) | exact below4 w _ _ _ _ | exact (below4 w _ _ _ _).drew)
      | (refine ⟨w.heap.size + 3, rfl, HN.out _ _ (w.heap.size + 1) (w.heap.size + 2) w.heap.size ?_ ?_ ?_ ?_ ?_ ?_, ?_⟩ <;> first | exact (chain4 w _ _ _ _).1 | exact (chain4 w _ _ _ _).2.1 | exact (chain4 w _ _ _ _).2.2.1 | exact (chain4 w _ _ _ _).2.2.2 | (refine ⟨?_, ?_, ?_, ?_, ?_, ?_⟩ <;> omega) | (refine ⟨?_, ?_, ?_, ?_⟩ <;> omega) | exact below4 w _ _ _ _ | exact (below4 w _ _ _ _).drew)
      | (refine ⟨w.heap.size + 3, rfl, HN.out _ _ (w.heap.size + 2) w.heap.size (w.heap.size + 1) ?_ ?_ ?_ ?_ ?_ ?_, ?_⟩ <;> first | exact (chain4 w _ _ _ _).1 | exact (chain4 w _ _ _ _).2.1 | exact (chain4 w _ _ _ _).2.2.1 | exact (chain4 w _ _ _ _).2.2.2 | (refine ⟨?_, ?_, ?_, ?_, ?_, ?_⟩ <;> omega) | (refine ⟨?_, ?_, ?_, ?_⟩ <;> omega) | exact below4 w _ _ _ _ | exact (below4 w _ _ _ _).drew)
      | (refine ⟨w.heap.size + 3, rfl, HN.out _ _ (w.heap.size + 2) (w.heap.size + 1) w.heap.size ?_ ?_ ?_ ?_ ?_ ?_, ?_⟩ <;> first | exact (chain4 w _ _ _ _).1 | exact (chain4 w _ _ _ _).2.1 | exact (chain4 w _ _ _ _).2.2.1 | exact (chain4 w _ _ _ _).2.2.2 | (refine ⟨?_, ?_, ?_, ?_, ?_, ?_⟩ <;> omega) | (refine ⟨?_, ?_, ?_, ?_⟩ <;> omega) | exact below4 w _ _ _ _ | exact (below4 w _ _ _ _).drew)
end Go.Proofs.Ytkfpfbkdalbjoaa
