/-
  What disk.New returns.
-/
import Derived.Test.YtkfpfbkdalbjoaaGreatDskL
import Derived.OwnWalk
import Derived.Laws.MakeOwn
namespace Go.Proofs.YtkfpfbkdalbjoaaGreat
open Go.RowKit Go.Joins
attribute [local go_sem ↓] Go.wp_at_zero Go.wp_at_succ

set_option maxRecDepth 8000 in
set_option maxHeartbeats 2000000 in
theorem newDisk_bad (n : Int) (w : World) (h : n < 1 ∨ 200 < n) : Calls Tryz.prog 6 #[.int .i64 n] w fun e w' => e = .returned (.tuple #[.pointer none, errV 1]) ∧ w' = w := by
  rw [errD_pos (show (1 : Nat) ≠ 0 by decide)]
  by_cases h1 : n < 1
  · go_enter Tryz.func6, Tryz.ntmps6
    go_wp2
    go_ret2
    exact ⟨rfl, rfl⟩
  · have h2 : 200 < n := by omega
    go_enter Tryz.func6, Tryz.ntmps6
    go_wp2
    go_ret2
    exact ⟨rfl, rfl⟩
theorem zeros_flat (n : Nat) : ∀ m, m = n * 96 → (List.replicate n (zerosB 96)).flatMap secV = List.replicate m (Value.int .u8 0) := by
  induction n with
  | zero => intro m h; rw [h]; rfl
  | succ n ih =>
    intro m h
    rw [List.replicate_succ, List.flatMap_cons, ih (n * 96) rfl, h, Nat.succ_mul, Nat.add_comm, ← List.replicate_append_replicate]
    congr 1
theorem range_zero (Z : Array Value) (n : Nat) (v : Value) (hz : Z.toList = List.replicate Z.size v) : ((Array.range n).map (Z[· % Z.size]!)).toList = List.replicate n v ∨ Z.size = 0 := by
  by_cases h0 : Z.size = 0
  · exact .inr h0
  · refine .inl ?_
    apply List.ext_getElem
    · simp
    · intro i h1 h2
      have hm : i % Z.size < Z.size := Nat.mod_lt _ (by omega)
      simp only [Array.getElem_toList, Array.getElem_map, Array.getElem_range, List.getElem_replicate]
      rw [getElem!_pos Z _ hm, ← Array.getElem_toList]
      simp only [hz, List.getElem_replicate]
theorem sector_parts : ∃ i z, Tryz.prog.info? 118 = some i ∧ i.zero = some z ∧ i.size = 96 ∧ i.bytes = 96 ∧ z.cells.size = 96 ∧ z.cells.toList = List.replicate 96 (Value.int .u8 0) := by
  have h : (Tryz.prog.info? 118).bind (fun i => i.zero.map fun z => (z.cells.size, i.size, i.bytes, z.cells.toList)) = some (96, 96, 96, List.replicate 96 (Value.int .u8 0)) := by kernel_rfl
  cases hi : Tryz.prog.info? 118 with
  | none => rw [hi] at h; cases h
  | some i =>
    rw [hi] at h
    cases hz : i.zero with
    | none => simp [hz] at h
    | some z =>
      simp only [Option.bind_some, hz, Option.map_some, Option.some.injEq, Prod.mk.injEq] at h
      exact ⟨i, z, rfl, hz, h.2.1, h.2.2.1, h.1, h.2.2.2⟩
theorem make_sectors (n : Nat) (h1 : 1 ≤ n) (h2 : n ≤ 200) (w : World) : (Instr.makeSlice 58 (.int .i64 n) (.int .i64 n)).run Tryz.prog w = .ok (.slice (some ⟨w.heap.size, 0, none⟩) n n) (w.alloc (.cells ((List.replicate n (zerosB 96)).flatMap secV).toArray 118)) := by
  obtain ⟨i, z, hi, hz, hs, hb, hzs, hzl⟩ := sector_parts
  have hc : madeCells z.cells (n * 96) = ((List.replicate n (zerosB 96)).flatMap secV).toArray := by
    apply Array.ext'
    rw [zeros_flat n (n * 96) rfl]
    rcases range_zero z.cells (n * 96) (.int .u8 0) (by rw [hzs]; exact hzl) with e | e
    · exact e
    · omega
  have h := run_makeSlice (P := Tryz.prog) w 58 118 i z Tryz.underlying58 hi hz .i64 .i64 n n (by omega) (Int.le_refl _) (by rw [hs, Int.toNat_natCast]; omega) (by rw [hb]; omega) (by omega)
  rw [hs, Int.toNat_natCast, hc] at h
  exact h
theorem rows_parts : ∃ i, Tryz.prog.info? 152 = some i ∧ i.zero = some (.slice none 0 0) ∧ i.size = 1 ∧ i.bytes = 24 := by
  have h : (Tryz.prog.info? 152).map (fun i => (i.zero, i.size, i.bytes)) = some (some (.slice none 0 0), 1, 24) := by kernel_rfl
  cases hi : Tryz.prog.info? 152 with
  | none => rw [hi] at h; cases h
  | some i =>
    rw [hi] at h
    simp only [Option.map_some, Option.some.injEq, Prod.mk.injEq] at h
    exact ⟨i, rfl, h.1, h.2.1, h.2.2⟩
theorem make_rows (n : Nat) (h1 : 1 ≤ n) (h2 : n ≤ 200) (w : World) : (Instr.makeSlice 59 (.int .i64 n) (.int .i64 n)).run Tryz.prog w = .ok (.slice (some ⟨w.heap.size, 0, none⟩) n n) (w.alloc (.cells (List.replicate n (.slice none 0 0)).toArray 152)) := by
  obtain ⟨i, hi, hz, hs, hb⟩ := rows_parts
  have hc : madeCells (Value.slice none 0 0).cells (n * 1) = (List.replicate n (Value.slice none 0 0)).toArray := by
    apply Array.ext'
    rw [Nat.mul_one]
    rcases range_zero (Value.slice none 0 0).cells n (.slice none 0 0) rfl with e | e
    · exact e
    · cases e
  have h := run_makeSlice (P := Tryz.prog) w 59 152 i (.slice none 0 0) Tryz.underlying59 hi hz .i64 .i64 n n (by omega) (Int.le_refl _) (by rw [hs, Int.toNat_natCast]; omega) (by rw [hb]; omega) (by omega)
  rw [hs, Int.toNat_natCast, hc] at h
  exact h
/-- a disk that was just made -/
theorem newDK {w W : World} {n db nb kb lb : Nat} (h1 : 1 ≤ n) (h2 : n ≤ 200) (hd : W.heap[db]? = some (.cells #[.slice (some ⟨nb, 0, none⟩) n n, .slice (some ⟨kb, 0, none⟩) n n, .slice (some ⟨lb, 0, none⟩) n n, .int .i64 0, .int .i64 (-1), .bool false] 61 (0, 0)))
    (hn : W.heap[nb]? = some (.cells ((List.replicate n (zerosB 96)).flatMap secV).toArray 118 (0, 0))) (hk : W.heap[kb]? = some (.cells ((List.replicate n (zerosB 96)).flatMap secV).toArray 118 (0, 0))) (hl : W.heap[lb]? = some (.cells (List.replicate n (.slice none 0 0)).toArray 152 (0, 0)))
    (hap : db ≠ nb ∧ db ≠ kb ∧ db ≠ lb ∧ nb ≠ kb ∧ nb ≠ lb ∧ kb ≠ lb) (hlo : w.heap.size ≤ db ∧ w.heap.size ≤ nb ∧ w.heap.size ≤ kb ∧ w.heap.size ≤ lb) : ∃ S, DK W w.heap.size db S (initD n) := by
  have c : ∀ j, W.cell? ⟨db, j, none⟩ = (#[.slice (some ⟨nb, 0, none⟩) n n, .slice (some ⟨kb, 0, none⟩) n n, .slice (some ⟨lb, 0, none⟩) n n, .int .i64 0, .int .i64 (-1), .bool false] : Array Value)[j]? := fun j => cell_of_row W db j _ _ _ hd
  have z96 : ∀ s ∈ List.replicate n (zerosB 96), s.size = 96 := fun s hs => by rw [List.eq_of_mem_replicate hs]; exact zerosB_size 96
  refine ⟨_, nb, kb, lb, n, List.replicate n (.slice none 0 0), List.replicate n [], -1, ⟨c 0, c 1, c 2, c 3, c 4, c 5, fun j => by simp [World.frozen?, hd]⟩, ⟨hn, hk, hl, by simp [initD], by simp [initD], by simp, by simp, z96, z96, fun i _ _ => ?_, fun i j _ _ k e => ?_, fun i _ k e => ?_, hap, hlo, ⟨h1, h2⟩⟩, rfl, LooseOk.none n, fun x hx => (List.not_mem_nil hx).elim, fun _ => ⟨rfl, by decide, by decide⟩, ?_⟩
  · rw [List.getElem_replicate, List.getElem_replicate]; exact ⟨⟨rfl, .inl ⟨rfl, rfl⟩⟩, fun x hx => (List.not_mem_nil hx).elim⟩
  · rw [List.getElem_replicate] at e; cases e
  · rw [List.getElem_replicate] at e; cases e
  · have := (Array.getElem?_eq_some_iff.1 hd).1; omega
theorem chain4 (w : World) (A B C D : Obj) : ((((w.alloc A).alloc B).alloc C).alloc D).heap[w.heap.size]? = some A ∧ ((((w.alloc A).alloc B).alloc C).alloc D).heap[w.heap.size + 1]? = some B ∧ ((((w.alloc A).alloc B).alloc C).alloc D).heap[w.heap.size + 2]? = some C ∧ ((((w.alloc A).alloc B).alloc C).alloc D).heap[w.heap.size + 3]? = some D := by
  have e : ((((w.alloc A).alloc B).alloc C).alloc D).heap = (((w.heap.push A).push B).push C).push D := rfl
  rw [e]
  simp only [Array.getElem?_push, Array.size_push]
  refine ⟨?_, ?_, ?_, ?_⟩ <;> simp
  rw [if_neg (by omega), if_neg (by omega)]
theorem below4 (w : World) (A B C D : Obj) : Below w.heap.size w ((((w.alloc A).alloc B).alloc C).alloc D) :=
  below_on (below_on (below_on (below_alloc1 w A) (Nat.le_refl _) (below_alloc1 _ B)) (Nat.le_refl _) (below_alloc1 _ C)) (Nat.le_refl _) (below_alloc1 _ D)
def NewP (w w' : World) (n db : Nat) : Prop := (∃ S, DK w' w.heap.size db S (initD n)) ∧ Below w.heap.size w w'
set_option maxRecDepth 8000 in
set_option maxHeartbeats 2000000 in
theorem newDisk_good (n : Nat) (w : World) (h1 : 1 ≤ n) (h2 : n ≤ 200) : Calls Tryz.prog 6 #[.int .i64 n] w fun e w' => ∃ db, e = .returned (.tuple #[.pointer (some ⟨db, 0, none⟩), .nilIface]) ∧ NewP w w' n db := by
  have h1' : ¬ (n : Int) < 1 := by omega
  have h2' : ¬ 200 < (n : Int) := by omega
  have hm1 := make_sectors n h1 h2
  have hm2 := make_rows n h1 h2
  have H := fun (W : World) (db nb kb lb : Nat) => @newDK w W n db nb kb lb h1 h2
  have HN := hide H
  clear H
  generalize ((List.replicate n (zerosB 96)).flatMap secV).toArray = Z at *
  generalize (List.replicate n (Value.slice none 0 0)).toArray = Y at *
  go_enter Tryz.func6, Tryz.ntmps6
  go_wp2_with fail
  go_region_with (fail)
  all_goals
    go_wp2_with fail
    go_ret2
    first
      | (refine ⟨w.heap.size + 3, rfl, HN.out _ _ w.heap.size (w.heap.size + 1) (w.heap.size + 2) ?_ ?_ ?_ ?_ ?_ ?_, ?_⟩ <;> first | exact (chain4 w _ _ _ _).1 | exact (chain4 w _ _ _ _).2.1 | exact (chain4 w _ _ _ _).2.2.1 | exact (chain4 w _ _ _ _).2.2.2 | (refine ⟨?_, ?_, ?_, ?_, ?_, ?_⟩ <;> omega) | (refine ⟨?_, ?_, ?_, ?_⟩ <;> omega) | exact below4 w _ _ _ _ | exact (below4 w _ _ _ _).drew)
      | (refine ⟨w.heap.size + 3, rfl, HN.out _ _ w.heap.size (w.heap.size + 2) (w.heap.size + 1) ?_ ?_ ?_ ?_ ?_ ?_, ?_⟩ <;> first | exact (chain4 w _ _ _ _).1 | exact (chain4 w _ _ _ _).2.1 | exact (chain4 w _ _ _ _).2.2.1 | exact (chain4 w _ _ _ _).2.2.2 | (refine ⟨?_, ?_, ?_, ?_, ?_, ?_⟩ <;> omega) | (refine ⟨?_, ?_, ?_, ?_⟩ <;> omega) | exact below4 w _ _ _ _ | exact (below4 w _ _ _ _).drew)
      | (refine ⟨w.heap.size + 3, rfl, HN.out _ _ (w.heap.size + 1) w.heap.size (w.heap.size + 2) ?_ ?_ ?_ ?_ ?_ ?_, ?_⟩ <;> first | exact (chain4 w _ _ _ _).1 | exact (chain4 w _ _ _ _).2.1 | exact (chain4 w _ _ _ _).2.2.1 | exact (chain4 w _ _ _ _).2.2.2 | (refine ⟨?_, ?_, ?_, ?_, ?_, ?_⟩ <;> omega) | (refine ⟨?_, ?_, ?_, ?_⟩ <;> omega) | exact below4 w _ _ _ _ | exact (below4 w _ _ _ _).drew)
      | (refine ⟨w.heap.size + 3, rfl, HN.out _ _ (w.heap.size + 1) (w.heap.size + 2) w.heap.size ?_ ?_ ?_ ?_ ?_ ?_, ?_⟩ <;> first | exact (chain4 w _ _ _ _).1 | exact (chain4 w _ _ _ _).2.1 | exact (chain4 w _ _ _ _).2.2.1 | exact (chain4 w _ _ _ _).2.2.2 | (refine ⟨?_, ?_, ?_, ?_, ?_, ?_⟩ <;> omega) | (refine ⟨?_, ?_, ?_, ?_⟩ <;> omega) | exact below4 w _ _ _ _ | exact (below4 w _ _ _ _).drew)
      | (refine ⟨w.heap.size + 3, rfl, HN.out _ _ (w.heap.size + 2) w.heap.size (w.heap.size + 1) ?_ ?_ ?_ ?_ ?_ ?_, ?_⟩ <;> first | exact (chain4 w _ _ _ _).1 | exact (chain4 w _ _ _ _).2.1 | exact (chain4 w _ _ _ _).2.2.1 | exact (chain4 w _ _ _ _).2.2.2 | (refine ⟨?_, ?_, ?_, ?_, ?_, ?_⟩ <;> omega) | (refine ⟨?_, ?_, ?_, ?_⟩ <;> omega) | exact below4 w _ _ _ _ | exact (below4 w _ _ _ _).drew)
      | (refine ⟨w.heap.size + 3, rfl, HN.out _ _ (w.heap.size + 2) (w.heap.size + 1) w.heap.size ?_ ?_ ?_ ?_ ?_ ?_, ?_⟩ <;> first | exact (chain4 w _ _ _ _).1 | exact (chain4 w _ _ _ _).2.1 | exact (chain4 w _ _ _ _).2.2.1 | exact (chain4 w _ _ _ _).2.2.2 | (refine ⟨?_, ?_, ?_, ?_, ?_, ?_⟩ <;> omega) | (refine ⟨?_, ?_, ?_, ?_⟩ <;> omega) | exact below4 w _ _ _ _ | exact (below4 w _ _ _ _).drew)
end Go.Proofs.YtkfpfbkdalbjoaaGreat

/-
  What Disk.settle and Disk.Flush leave of a disk.
-/
namespace Go.Proofs.YtkfpfbkdalbjoaaGreat
open Go.RowKit Go.Joins
attribute [local go_sem ↓] Go.wp_at_zero Go.wp_at_succ

section
variable {B db : Nat} {S : Nat → Prop} {s : DSt}
theorem zero_rows : ∀ w, (zeroValue 152).run Tryz.prog w = .ok (.slice none 0 0) w := by
  have h : (Tryz.prog.info? 152).bind (fun i => i.zero) = some (.slice none 0 0) := by kernel_rfl
  intro w
  cases hi : Tryz.prog.info? 152 with
  | none => rw [hi] at h; cases h
  | some i =>
    rw [hi] at h
    have hz : i.zero = some (.slice none 0 0) := h
    simp [zeroValue, typeInfo, hi, hz]
theorem nils_cells (n : Nat) : (Builtin.zeroCells (Value.slice none 0 0).cells n).toList = List.replicate n (.slice none 0 0) := by
  have e : (Value.slice none 0 0).cells = #[.slice none 0 0] := rfl
  rw [e]
  simp only [Builtin.zeroCells, Array.toList_map]
  apply List.ext_getElem
  · simp
  · intro i h1 h2
    simp [Nat.mod_one]
theorem splice_all {α : Type} (L cs : List α) (h : cs.length = L.length) : splice L 0 cs = cs := by
  unfold splice; rw [List.take_zero, List.nil_append, Nat.zero_add, h, List.drop_length, List.append_nil]
/-- nothing is left that isn't kept -/
theorem DK.settled {w : World} {nb kb lb n : Nat} {lv : List Value} {loose : List (List Wr)} {L next : Int} (h1 : DHd w db nb kb lb n next L s.down) (h2 : DBy w B db nb kb lb n lv s.now s.kept loose) (hS : S = inD db nb kb lb lv) (h6 : s.down = false → leftOk L s.left) (h7 : B ≤ w.heap.size) :
    ActD w ((w.setCells lb 0 (List.replicate n (.slice none 0 0))).setCell ⟨db, 3, none⟩ (.int .i64 0)) B db S { s with wait := [] } := by
  have hlb := h2.lo.2.2.2
  have hap := h2.ap
  have hlt : db < w.heap.size := h1.lt
  have k1 : ∀ k, k ≠ lb → (w.setCells lb 0 (List.replicate n (.slice none 0 0))).heap[k]? = w.heap[k]? := fun k hk => heap_setCells_other lb _ _ _ hk
  have hl1 : (w.setCells lb 0 (List.replicate n (.slice none 0 0))).heap[lb]? = some (.cells (List.replicate n (.slice none 0 0)).toArray 152 (0, 0)) := by
    rw [heap_setCells lb _ (0, 0) _ 0 w lv h2.hl (by rw [List.length_replicate, h2.nl]; omega), splice_all _ _ (by rw [List.length_replicate, h2.nl])]
  have hd1 : DHd (w.setCells lb 0 (List.replicate n (.slice none 0 0))) db nb kb lb n next L s.down := h1.kept (k1 db hap.2.2.1)
  have hb1 : DBy (w.setCells lb 0 (List.replicate n (.slice none 0 0))) B db nb kb lb n (List.replicate n (.slice none 0 0)) s.now s.kept (List.replicate n []) :=
    { hn := (k1 nb hap.2.2.2.2.1).trans h2.hn
      hk := (k1 kb hap.2.2.2.2.2).trans h2.hk
      hl := hl1
      nn := h2.nn, nk := h2.nk, nl := by simp, no := by simp, sn := h2.sn, sk := h2.sk
      own := fun i _ _ => by rw [List.getElem_replicate, List.getElem_replicate]; exact ⟨⟨rfl, .inl ⟨rfl, rfl⟩⟩, fun x hx => (List.not_mem_nil hx).elim⟩
      dis := fun i j _ _ k e => by rw [List.getElem_replicate] at e; cases e
      apo := fun i _ k e => by rw [List.getElem_replicate] at e; cases e
      ap := h2.ap, lo := h2.lo, n1 := h2.n1 }
  refine ⟨inD db nb kb lb (List.replicate n (.slice none 0 0)), ⟨nb, kb, lb, n, _, _, L, hd1.next' 0, hb1.head _ _, rfl, LooseOk.none n, fun x hx => (List.not_mem_nil hx).elim, h6, ?_⟩, ⟨(below_setCells hlb _ _ _ (Below.refl _ _)).setCell (p := ⟨db, 3, none⟩) h2.lo.1 _, fun k hk hn => ⟨?_, ?_⟩⟩⟩
  · have := (below_setCells (B := B) (a := w) hlb (List.replicate n (.slice none 0 0)) 0 w (Below.refl _ _)).size
    simp; omega
  · rw [hS] at hn
    rw [Below.heap_setCell _ _ _ _ (fun e => hn (.inl e))]
    exact k1 k fun e => hn (.inr (.inr (.inr (.inl e))))
  · rw [hS] at hn
    rintro (e | e | e | e | ⟨i, hi, e⟩)
    · exact hn (.inl e)
    · exact hn (.inr (.inl e))
    · exact hn (.inr (.inr (.inl e)))
    · exact hn (.inr (.inr (.inr (.inl e))))
    · rw [List.getElem_replicate] at e; cases e
set_option maxRecDepth 8000 in
set_option maxHeartbeats 1000000 in
theorem dsettle_any (w : World) (h : DK w B db S s) : Calls Tryz.prog 63 #[.pointer (some ⟨db, 0, none⟩)] w fun e w' => e = .returned (.tuple #[]) ∧ ActD w w' B db S { s with wait := [] } := by
  obtain ⟨nb, kb, lb, n, lv, loose, L, h1, h2, hS, h4, h5, h6, h7⟩ := h
  have HE := hide (DK.settled h1 h2 hS h6 h7)
  have hcl := run_clear_any (P := Tryz.prog) w 59 152 0 (.slice none 0 0) Tryz.underlying59 zero_rows (fun v hv => by have e : (Value.slice none 0 0).cells = #[.slice none 0 0] := rfl; rw [e] at hv; simp at hv; rw [hv]; rfl) lb 0 n n lv _ h2.hl (by show 0 + n * 1 ≤ _; rw [h2.nl]; omega)
  rw [nils_cells] at hcl
  have c2 := h1.c2
  have k1 : (w.setCells lb 0 (List.replicate n (.slice none 0 0))).heap[db]? = w.heap[db]? := heap_setCells_other lb _ _ _ h2.ap.2.2.1
  have c3 := (World.cell?_of_block (a := ⟨db, 3, none⟩) k1).trans h1.c3
  have f3 := (World.frozen?_of_block (a := ⟨db, 3, none⟩) k1).trans (h1.soft 3)
  have hn := h2.n1
  have hn1 : n ≠ 0 := by omega
  clear h1 h2 h4 h5 h6 hS k1
  generalize List.replicate n (Value.slice none 0 0) = zs at *
  go_enter Tryz.func63, Tryz.ntmps63
  go_wp2
  go_end0
  exact ⟨rfl, HE.out⟩
/-- all is kept as it is now -/
theorem DK.keep {w : World} {nb kb lb n : Nat} {lv : List Value} {loose : List (List Wr)} {L next : Int} (h1 : DHd w db nb kb lb n next L s.down) (h2 : DBy w B db nb kb lb n lv s.now s.kept loose) (l : List ByteArray) (hl : l.length = n) (hs : ∀ x ∈ l, x.size = 96) :
    DHd (w.setCells kb 0 (l.flatMap secV)) db nb kb lb n next L s.down ∧ DBy (w.setCells kb 0 (l.flatMap secV)) B db nb kb lb n lv s.now l loose ∧ StepV w (w.setCells kb 0 (l.flatMap secV)) B (inD db nb kb lb lv) (inD db nb kb lb lv) := by
  have hap := h2.ap
  have hfl : (l.flatMap secV).length = n * 96 := by rw [dflat_length (z := 96) fun x hx => (secV_length x).trans (hs x hx), hl]
  have hkl : (s.kept.flatMap secV).length = n * 96 := by rw [dflat_length (z := 96) fun x hx => (secV_length x).trans (h2.sk x hx), h2.nk]
  have k1 : ∀ k, k ≠ kb → (w.setCells kb 0 (l.flatMap secV)).heap[k]? = w.heap[k]? := fun k hk => heap_setCells_other kb _ _ _ hk
  refine ⟨h1.kept (k1 db hap.2.1), { h2 with hn := (k1 nb hap.2.2.2.1).trans h2.hn, hk := ?_, hl := (k1 lb hap.2.2.2.2.2.symm).trans h2.hl, nk := hl, sk := hs, own := fun i hi h' => ownW_kept (h2.own i hi h') fun k e => k1 k (h2.apo i hi k e).2.2.1 }, ⟨below_setCells h2.lo.2.2.1 _ _ _ (Below.refl _ _), fun k _ hn => ⟨k1 k fun e => hn (.inr (.inr (.inl e))), hn⟩⟩⟩
  rw [heap_setCells kb _ (0, 0) _ 0 w _ h2.hk (by rw [hfl, hkl]; omega), splice_all _ _ (by rw [hfl, hkl])]
set_option maxRecDepth 8000 in
set_option maxHeartbeats 1000000 in
theorem dflush_any (w : World) (h : DK w B db S s) : Calls Tryz.prog 45 #[.pointer (some ⟨db, 0, none⟩)] w fun e w' => e = .returned (errV (dstepF s)) ∧ ActD w w' B db S (flushD s) := by
  have HS := hide (dstep_any w h)
  unfold flushD
  have HN : Hid ((dstepD s).now = s.now) := by unfold dstepD; split; rfl; split <;> rfl
  clear h
  generalize dstepD s = s1 at *
  generalize dstepF s = f at *
  by_cases hf : f = 0
  · subst hf
    rw [if_pos rfl, errD_nil]
    rw [errD_nil] at HS
    go_enter Tryz.func45, Tryz.ntmps45
    go_wp2_with (go_at_call 62; refine HS.out.mono ?_; rintro e w1 ⟨rfl, ha⟩; obtain ⟨S1, hk1, hs1⟩ := ha)
    obtain ⟨nb, kb, lb, n, lv, loose, L, h1, h2, hS, h4, h5, h6, h7⟩ := hk1
    have hcp := run_copy_any (P := Tryz.prog) w1.drew 58 58 3 118 96 kb 0 n n n (.slice (some ⟨nb, 0, none⟩) n n) (s1.kept.flatMap secV) 118 (s1.now.flatMap secV) Tryz.underlying58 sector_size (show w1.drew.heap[kb]? = _ from h2.hk) rfl
      (by
        have hl := run_loadCells_list (P := Tryz.prog) w1.drew ⟨nb, 0, none⟩ (s1.now.flatMap secV) (fun j v hv => by
          rw [Go.Addr.add_mid, cell_of_row w1.drew nb (0 + j) _ _ _ (show w1.drew.heap[nb]? = _ from h2.hn), List.getElem?_toArray, Nat.zero_add]; exact hv)
        rw [dflat_length (z := 96) fun x hx => (secV_length x).trans (h2.sn x hx), h2.nn] at hl
        simp only [Builtin.firstCells, Nat.min_self]
        exact hl)
      (by rw [dflat_length (z := 96) fun x hx => (secV_length x).trans (h2.sn x hx), h2.nn, dflat_length (z := 96) fun x hx => (secV_length x).trans (h2.sk x hx), h2.nk]; omega)
      (fun v hv => by obtain ⟨x, _, hx⟩ := List.mem_flatMap.1 hv; exact secV_one x v hx)
    have c0 := h1.c0
    have c1 := h1.c1
    have hd0 := (show w1.drew.heap[kb]? = _ from h2.hk)
    have HK : Hid (ActD w1 (w1.drew.setCells kb 0 (s1.now.flatMap secV)) B db S1 { s1 with kept := s1.now }) := by
      obtain ⟨k1, k2, k3⟩ := DK.keep (h1.kept (w' := w1.drew) rfl) (h2.kept (w' := w1.drew) fun _ _ _ => rfl) s1.now h2.nn h2.sn
      refine ⟨S1, ⟨nb, kb, lb, n, lv, loose, L, k1, k2, hS, h4, h5, h6, ?_⟩, (StepV.on h7 (Below.refl _ w1).drew).trans (by rw [hS]; exact k3)⟩
      have := k3.bel.size
      simp at this
      omega
    have k9 : (w1.drew.setCells kb 0 (s1.now.flatMap secV)).heap[db]? = w1.heap[db]? := heap_setCells_other kb _ _ w1.drew h2.ap.2.1
    have HC : Hid ((w1.drew.setCells kb 0 (s1.now.flatMap secV)).cell? ⟨db, 0, none⟩ = some (.slice (some ⟨nb, 0, none⟩) n n) ∧ (w1.drew.setCells kb 0 (s1.now.flatMap secV)).cell? ⟨db, 1, none⟩ = some (.slice (some ⟨kb, 0, none⟩) n n)) := ⟨(World.cell?_of_block (a := ⟨db, 0, none⟩) k9).trans c0, (World.cell?_of_block (a := ⟨db, 1, none⟩) k9).trans c1⟩
    have hmn : Nat.min n n = n := Nat.min_self n
    clear hd0 k9 h1 h2 h4 h5 h6 hS
    generalize s1.now.flatMap secV = cs at *
    go_region_held3 (fun w' => w'.cell? ⟨db, 0, none⟩ = some (.slice (some ⟨nb, 0, none⟩) n n) ∧ w'.cell? ⟨db, 1, none⟩ = some (.slice (some ⟨kb, 0, none⟩) n n)) (first | go_keep | exact HC.out) (fail)
    obtain ⟨S2, hk2, hs2⟩ := HK.out
    have HT := hide (dsettle_any _ hk2)
    have HS2 := hide (hs1.trans hs2)
    clear hk2 hs2 HK HC hcp
    go_wp2_with (go_at_call 63; refine HT.out.mono ?_; rintro e w3 ⟨rfl, ha⟩)
    go_ret
    rw [← HN.out]
    exact ⟨rfl, ActD.after HS2.out ha⟩
  · have hf' := errD_pos hf
    rw [if_neg hf, hf']
    rw [hf'] at HS
    go_enter Tryz.func45, Tryz.ntmps45
    go_wp2_with (go_at_call 62; refine HS.out.mono ?_; rintro e w1 ⟨rfl, ha⟩)
    go_ret
    exact ⟨rfl, ha⟩
end
end Go.Proofs.YtkfpfbkdalbjoaaGreat
