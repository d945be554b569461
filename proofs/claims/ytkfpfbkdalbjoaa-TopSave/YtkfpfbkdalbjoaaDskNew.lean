/-
  What disk.New returns.
-/
import Derived.Test.YtkfpfbkdalbjoaaDskL
import Derived.OwnWalk
import Derived.Laws.MakeOwn
import Derived.Test.YtkfpfbkdalbjoaaDskWrite
namespace Go.Proofs.Ytkfpfbkdalbjoaa
open Go.RowKit Go.Joins
attribute [local go_sem ↓] Go.wp_at_zero Go.wp_at_succ

set_option maxRecDepth 8000 in
set_option maxHeartbeats 2000000 in
theorem newDisk_bad (n : Int) (w : World) (h : n < 1 ∨ 200 < n) : Calls Try.prog 10 #[.int .i64 n] w fun e w' => e = .returned (.tuple #[.pointer none, errV 1]) ∧ w' = w := by
  rw [errD_pos (show (1 : Nat) ≠ 0 by decide)]
  by_cases h1 : n < 1
  · go_enter Try.func10, Try.ntmps10
    go_wp2
    go_ret2
    exact ⟨rfl, rfl⟩
  · have h2 : 200 < n := by omega
    go_enter Try.func10, Try.ntmps10
    go_wp2
    go_ret2
    exact ⟨rfl, rfl⟩
theorem zeros_flat (n : Nat) : ∀ m, m = n * 96 → (List.replicate n (zerosB 96)).flatMap secV = List.replicate m (Value.int .u8 0) := by
  induction n with
  | zero => intro m h; rw [h]; rfl
  | succ n ih =>
    intro m h
    rw [List.replicate_succ, List.flatMap_cons, ih (n * 96) rfl, h, Nat.succ_mul, Nat.add_comm, ← List.replicate_append_replicate]
    congr 1
theorem range_zero (Z : Array Value) (n : Nat) (v : Value) (hz : Z.toList = List.replicate Z.size v) : ((Array.range n).map (Z[· % Z.size]!)).toList = List.replicate n v ∨ Z.size = 0 := by
  by_cases h0 : Z.size = 0
  · exact .inr h0
  · refine .inl ?_
    apply List.ext_getElem
    · simp
    · intro i h1 h2
      have hm : i % Z.size < Z.size := Nat.mod_lt _ (by omega)
      simp only [Array.getElem_toList, Array.getElem_map, Array.getElem_range, List.getElem_replicate]
      rw [getElem!_pos Z _ hm, ← Array.getElem_toList]
      simp only [hz, List.getElem_replicate]
theorem sector_parts : ∃ i z, Try.prog.info? 91 = some i ∧ i.zero = some z ∧ i.size = 96 ∧ i.bytes = 96 ∧ z.cells.size = 96 ∧ z.cells.toList = List.replicate 96 (Value.int .u8 0) := by
  have h : (Try.prog.info? 91).bind (fun i => i.zero.map fun z => (z.cells.size, i.size, i.bytes, z.cells.toList)) = some (96, 96, 96, List.replicate 96 (Value.int .u8 0)) := by kernel_rfl
  cases hi : Try.prog.info? 91 with
  | none => rw [hi] at h; cases h
  | some i =>
    rw [hi] at h
    cases hz : i.zero with
    | none => simp [hz] at h
    | some z =>
      simp only [Option.bind_some, hz, Option.map_some, Option.some.injEq, Prod.mk.injEq] at h
      exact ⟨i, z, rfl, hz, h.2.1, h.2.2.1, h.1, h.2.2.2⟩
theorem make_sectors (n : Nat) (h1 : 1 ≤ n) (h2 : n ≤ 200) (w : World) : (Instr.makeSlice 83 (.int .i64 n) (.int .i64 n)).run Try.prog w = .ok (.slice (some ⟨w.heap.size, 0, none⟩) n n) (w.alloc (.cells ((List.replicate n (zerosB 96)).flatMap secV).toArray 91)) := by
  obtain ⟨i, z, hi, hz, hs, hb, hzs, hzl⟩ := sector_parts
  have hc : madeCells z.cells (n * 96) = ((List.replicate n (zerosB 96)).flatMap secV).toArray := by
    apply Array.ext'
    rw [zeros_flat n (n * 96) rfl]
    rcases range_zero z.cells (n * 96) (.int .u8 0) (by rw [hzs]; exact hzl) with e | e
    · exact e
    · omega
  have h := run_makeSlice (P := Try.prog) w 83 91 i z Try.underlying83 hi hz .i64 .i64 n n (by omega) (Int.le_refl _) (by rw [hs, Int.toNat_natCast]; omega) (by rw [hb]; omega) (by omega)
  rw [hs, Int.toNat_natCast, hc] at h
  exact h
theorem rows_parts : ∃ i, Try.prog.info? 96 = some i ∧ i.zero = some (.slice none 0 0) ∧ i.size = 1 ∧ i.bytes = 24 := by
  have h : (Try.prog.info? 96).map (fun i => (i.zero, i.size, i.bytes)) = some (some (.slice none 0 0), 1, 24) := by kernel_rfl
  cases hi : Try.prog.info? 96 with
  | none => rw [hi] at h; cases h
  | some i =>
    rw [hi] at h
    simp only [Option.map_some, Option.some.injEq, Prod.mk.injEq] at h
    exact ⟨i, rfl, h.1, h.2.1, h.2.2⟩
theorem make_rows (n : Nat) (h1 : 1 ≤ n) (h2 : n ≤ 200) (w : World) : (Instr.makeSlice 84 (.int .i64 n) (.int .i64 n)).run Try.prog w = .ok (.slice (some ⟨w.heap.size, 0, none⟩) n n) (w.alloc (.cells (List.replicate n (.slice none 0 0)).toArray 96)) := by
  obtain ⟨i, hi, hz, hs, hb⟩ := rows_parts
  have hc : madeCells (Value.slice none 0 0).cells (n * 1) = (List.replicate n (Value.slice none 0 0)).toArray := by
    apply Array.ext'
    rw [Nat.mul_one]
    rcases range_zero (Value.slice none 0 0).cells n (.slice none 0 0) rfl with e | e
    · exact e
    · cases e
  have h := run_makeSlice (P := Try.prog) w 84 96 i (.slice none 0 0) Try.underlying84 hi hz .i64 .i64 n n (by omega) (Int.le_refl _) (by rw [hs, Int.toNat_natCast]; omega) (by rw [hb]; omega) (by omega)
  rw [hs, Int.toNat_natCast, hc] at h
  exact h
/-- a disk that was just made -/
theorem newDK {w W : World} {n db nb kb lb : Nat} (h1 : 1 ≤ n) (h2 : n ≤ 200) (hd : W.heap[db]? = some (.cells #[.slice (some ⟨nb, 0, none⟩) n n, .slice (some ⟨kb, 0, none⟩) n n, .slice (some ⟨lb, 0, none⟩) n n, .int .i64 0, .int .i64 (-1), .bool false] 86 (0, 0)))
    (hn : W.heap[nb]? = some (.cells ((List.replicate n (zerosB 96)).flatMap secV).toArray 91 (0, 0))) (hk : W.heap[kb]? = some (.cells ((List.replicate n (zerosB 96)).flatMap secV).toArray 91 (0, 0))) (hl : W.heap[lb]? = some (.cells (List.replicate n (.slice none 0 0)).toArray 96 (0, 0)))
    (hap : db ≠ nb ∧ db ≠ kb ∧ db ≠ lb ∧ nb ≠ kb ∧ nb ≠ lb ∧ kb ≠ lb) (hlo : w.heap.size ≤ db ∧ w.heap.size ≤ nb ∧ w.heap.size ≤ kb ∧ w.heap.size ≤ lb) : ∃ S, DK W w.heap.size db S (initD n) := by
  have c : ∀ j, W.cell? ⟨db, j, none⟩ = (#[.slice (some ⟨nb, 0, none⟩) n n, .slice (some ⟨kb, 0, none⟩) n n, .slice (some ⟨lb, 0, none⟩) n n, .int .i64 0, .int .i64 (-1), .bool false] : Array Value)[j]? := fun j => cell_of_row W db j _ _ _ hd
  have z96 : ∀ s ∈ List.replicate n (zerosB 96), s.size = 96 := fun s hs => by rw [List.eq_of_mem_replicate hs]; exact zerosB_size 96
  refine ⟨_, nb, kb, lb, n, List.replicate n (.slice none 0 0), List.replicate n [], -1, ⟨c 0, c 1, c 2, c 3, c 4, c 5, fun j => by simp [World.frozen?, hd]⟩, ⟨hn, hk, hl, by simp [initD], by simp [initD], by simp, by simp, z96, z96, fun i _ _ => ?_, fun i j _ _ k e => ?_, fun i _ k e => ?_, hap, hlo, ⟨h1, h2⟩⟩, rfl, LooseOk.none n, fun x hx => (List.not_mem_nil hx).elim, fun _ => ⟨rfl, by decide, by decide⟩, ?_⟩
  · rw [List.getElem_replicate, List.getElem_replicate]; exact ⟨⟨rfl, .inl ⟨rfl, rfl⟩⟩, fun x hx => (List.not_mem_nil hx).elim⟩
  · rw [List.getElem_replicate] at e; cases e
  · rw [List.getElem_replicate] at e; cases e
  · have := (Array.getElem?_eq_some_iff.1 hd).1; omega
theorem chain4 (w : World) (A B C D : Obj) : ((((w.alloc A).alloc B).alloc C).alloc D).heap[w.heap.size]? = some A ∧ ((((w.alloc A).alloc B).alloc C).alloc D).heap[w.heap.size + 1]? = some B ∧ ((((w.alloc A).alloc B).alloc C).alloc D).heap[w.heap.size + 2]? = some C ∧ ((((w.alloc A).alloc B).alloc C).alloc D).heap[w.heap.size + 3]? = some D := by
  have e : ((((w.alloc A).alloc B).alloc C).alloc D).heap = (((w.heap.push A).push B).push C).push D := rfl
  rw [e]
  simp only [Array.getElem?_push, Array.size_push]
  refine ⟨?_, ?_, ?_, ?_⟩ <;> simp
  rw [if_neg (by omega), if_neg (by omega)]
theorem below4 (w : World) (A B C D : Obj) : Below w.heap.size w ((((w.alloc A).alloc B).alloc C).alloc D) :=
  below_on (below_on (below_on (below_alloc1 w A) (Nat.le_refl _) (below_alloc1 _ B)) (Nat.le_refl _) (below_alloc1 _ C)) (Nat.le_refl _) (below_alloc1 _ D)
def NewP (w w' : World) (n db : Nat) : Prop := (∃ S, DK w' w.heap.size db S (initD n)) ∧ Below w.heap.size w w'
set_option maxRecDepth 8000 in
set_option maxHeartbeats 2000000 in
theorem newDisk_good (n : Nat) (w : World) (h1 : 1 ≤ n) (h2 : n ≤ 200) : Calls Try.prog 10 #[.int .i64 n] w fun e w' => ∃ db, e = .returned (.tuple #[.pointer (some ⟨db, 0, none⟩), .nilIface]) ∧ NewP w w' n db := by
  have h1' : ¬ (n : Int) < 1 := by omega
  have h2' : ¬ 200 < (n : Int) := by omega
  have hm1 := make_sectors n h1 h2
  have hm2 := make_rows n h1 h2
  have H := fun (W : World) (db nb kb lb : Nat) => @newDK w W n db nb kb lb h1 h2
  have HN := hide H
  clear H
  generalize ((List.replicate n (zerosB 96)).flatMap secV).toArray = Z at *
  generalize (List.replicate n (Value.slice none 0 0)).toArray = Y at *
  go_enter Try.func10, Try.ntmps10
  go_wp2_with fail
  go_region_with (fail)
  all_goals
    go_wp2_with fail
    go_ret2
    first
      | (refine ⟨w.heap.size + 3, rfl, HN.out _ _ w.heap.size (w.heap.size + 1) (w.heap.size + 2) ?_ ?_ ?_ ?_ ?_ ?_, ?_⟩ <;> first | exact (chain4 w _ _ _ _).1 | exact (chain4 w _ _ _ _).2.1 | exact (chain4 w _ _ _ _).2.2.1 | exact (chain4 w _ _ _ _).2.2.2 | (refine ⟨?_, ?_, ?_, ?_, ?_, ?_⟩ <;> omega) | (refine ⟨?_, ?_, ?_, ?_⟩ <;> omega) | exact below4 w _ _ _ _ | exact (below4 w _ _ _ _).drew)
      | (refine ⟨w.heap.size + 3, rfl, HN.out _ _ w.heap.size (w.heap.size + 2) (w.heap.size + 1) ?_ ?_ ?_ ?_ ?_ ?_, ?_⟩ <;> first | exact (chain4 w _ _ _ _).1 | exact (chain4 w _ _ _ _).2.1 | exact (chain4 w _ _ _ _).2.2.1 | exact (chain4 w _ _ _ _).2.2.2 | (refine ⟨?_, ?_, ?_, ?_, ?_, ?_⟩ <;> omega) | (refine ⟨?_, ?_, ?_, ?_⟩ <;> omega) | exact below4 w _ _ _ _ | exact (below4 w _ _ _ _).drew)
      | (refine ⟨w.heap.size + 3, rfl, HN.out _ _ (w.heap.size + 1) w.heap.size (w.heap.size + 2) ?_ ?_ ?_ ?_ ?_ ?_, ?_⟩ <;> first | exact (chain4 w _ _ _ _).1 | exact (chain4 w _ _ _ _).2.1 | exact (chain4 w _ _ _ _).2.2.1 | exact (chain4 w _ _ _ _).2.2.2 | (refine ⟨?_, ?_, ?_, ?_, ?_, ?_⟩ <;> omega) | (refine ⟨?_, ?_, ?_, ?_⟩ <;> omega) | exact below4 w _ _ _ _ | exact (below4 w _ _ _ _).drew)
      | (refine ⟨w.heap.size + 3, rfl, HN.out _ _ (w.heap.size + 1) (w.heap.size + 2) w.heap.size ?_ ?_ ?_ ?_ ?_ ?_, ?_⟩ <;> first | exact (chain4 w _ _ _ _).1 | exact (chain4 w _ _ _ _).2.1 | exact (chain4 w _ _ _ _).2.2.1 | exact (chain4 w _ _ _ _).2.2.2 | (refine ⟨?_, ?_, ?_, ?_, ?_, ?_⟩ <;> omega) | (refine ⟨?_, ?_, ?_, ?_⟩ <;> omega) | exact below4 w _ _ _ _ | exact (below4 w _ _ _ _).drew)
      | (refine ⟨w.heap.size + 3, rfl, HN.out _ _ (w.heap.size + 2) w.heap.size (w.heap.size + 1) ?_ ?_ ?_ ?_ ?_ ?_, ?_⟩ <;> first | exact (chain4 w _ _ _ _).1 | exact (chain4 w _ _ _ _).2.1 | exact (chain4 w _ _ _ _).2.2.1 | exact (chain4 w _ _ _ _).2.2.2 | (refine ⟨?_, ?_, ?_, ?_, ?_, ?_⟩ <;> omega) | (refine ⟨?_, ?_, ?_, ?_⟩ <;> omega) | exact below4 w _ _ _ _ | exact (below4 w _ _ _ _).drew)
      | (refine ⟨w.heap.size + 3, rfl, HN.out _ _ (w.heap.size + 2) (w.heap.size + 1) w.heap.size ?_ ?_ ?_ ?_ ?_ ?_, ?_⟩ <;> first | exact (chain4 w _ _ _ _).1 | exact (chain4 w _ _ _ _).2.1 | exact (chain4 w _ _ _ _).2.2.1 | exact (chain4 w _ _ _ _).2.2.2 | (refine ⟨?_, ?_, ?_, ?_, ?_, ?_⟩ <;> omega) | (refine ⟨?_, ?_, ?_, ?_⟩ <;> omega) | exact below4 w _ _ _ _ | exact (below4 w _ _ _ _).drew)
end Go.Proofs.Ytkfpfbkdalbjoaa

/-
  What Disk.settle and Disk.Flush leave of a disk.
-/
namespace Go.Proofs.Ytkfpfbkdalbjoaa
open Go.RowKit Go.Joins
attribute [local go_sem ↓] Go.wp_at_zero Go.wp_at_succ

section
variable {B db : Nat} {S : Nat → Prop} {s : DSt}
theorem zero_rows : ∀ w, (zeroValue 96).run Try.prog w = .ok (.slice none 0 0) w := by
  have h : (Try.prog.info? 96).bind (fun i => i.zero) = some (.slice none 0 0) := by kernel_rfl
  intro w
  cases hi : Try.prog.info? 96 with
  | none => rw [hi] at h; cases h
  | some i =>
    rw [hi] at h
    have hz : i.zero = some (.slice none 0 0) := h
    simp [zeroValue, typeInfo, hi, hz]
theorem nils_cells (n : Nat) : (Builtin.zeroCells (Value.slice none 0 0).cells n).toList = List.replicate n (.slice none 0 0) := by
  have e : (Value.slice none 0 0).cells = #[.slice none 0 0] := rfl
  rw [e]
  simp only [Builtin.zeroCells, Array.toList_map]
  apply List.ext_getElem
  · simp
  · intro i h1 h2
    simp [Nat.mod_one]
theorem splice_all {α : Type} (L cs : List α) (h : cs.length = L.length) : splice L 0 cs = cs := by
  unfold splice; rw [List.take_zero, List.nil_append, Nat.zero_add, h, List.drop_length, List.append_nil]
/-- nothing is left that isn't kept -/
theorem DK.settled {w : World} {nb kb lb n : Nat} {lv : List Value} {loose : List (List Wr)} {L next : Int} (h1 : DHd w db nb kb lb n next L s.down) (h2 : DBy w B db nb kb lb n lv s.now s.kept loose) (hS : S = inD db nb kb lb lv) (h6 : s.down = false → leftOk L s.left) (h7 : B ≤ w.heap.size) :
    ActD w ((w.setCells lb 0 (List.replicate n (.slice none 0 0))).setCell ⟨db, 3, none⟩ (.int .i64 0)) B db S { s with wait := [] } := by
  have hlb := h2.lo.2.2.2
  have hap := h2.ap
  have hlt : db < w.heap.size := h1.lt
  have k1 : ∀ k, k ≠ lb → (w.setCells lb 0 (List.replicate n (.slice none 0 0))).heap[k]? = w.heap[k]? := fun k hk => heap_setCells_other lb _ _ _ hk
  have hl1 : (w.setCells lb 0 (List.replicate n (.slice none 0 0))).heap[lb]? = some (.cells (List.replicate n (.slice none 0 0)).toArray 96 (0, 0)) := by
    rw [heap_setCells lb _ (0, 0) _ 0 w lv h2.hl (by rw [List.length_replicate, h2.nl]; omega), splice_all _ _ (by rw [List.length_replicate, h2.nl])]
  have hd1 : DHd (w.setCells lb 0 (List.replicate n (.slice none 0 0))) db nb kb lb n next L s.down := h1.kept (k1 db hap.2.2.1)
  have hb1 : DBy (w.setCells lb 0 (List.replicate n (.slice none 0 0))) B db nb kb lb n (List.replicate n (.slice none 0 0)) s.now s.kept (List.replicate n []) :=
    { hn := (k1 nb hap.2.2.2.2.1).trans h2.hn
      hk := (k1 kb hap.2.2.2.2.2).trans h2.hk
      hl := hl1
      nn := h2.nn, nk := h2.nk, nl := by simp, no := by simp, sn := h2.sn, sk := h2.sk
      own := fun i _ _ => by rw [List.getElem_replicate, List.getElem_replicate]; exact ⟨⟨rfl, .inl ⟨rfl, rfl⟩⟩, fun x hx => (List.not_mem_nil hx).elim⟩
      dis := fun i j _ _ k e => by rw [List.getElem_replicate] at e; cases e
      apo := fun i _ k e => by rw [List.getElem_replicate] at e; cases e
      ap := h2.ap, lo := h2.lo, n1 := h2.n1 }
  refine ⟨inD db nb kb lb (List.replicate n (.slice none 0 0)), ⟨nb, kb, lb, n, _, _, L, hd1.next' 0, hb1.head _ _, rfl, LooseOk.none n, fun x hx => (List.not_mem_nil hx).elim, h6, ?_⟩, ⟨(below_setCells hlb _ _ _ (Below.refl _ _)).setCell (p := ⟨db, 3, none⟩) h2.lo.1 _, fun k hk hn => ⟨?_, ?_⟩⟩⟩
  · have := (below_setCells (B := B) (a := w) hlb (List.replicate n (.slice none 0 0)) 0 w (Below.refl _ _)).size
    simp; omega
  · rw [hS] at hn
    rw [Below.heap_setCell _ _ _ _ (fun e => hn (.inl e))]
    exact k1 k fun e => hn (.inr (.inr (.inr (.inl e))))
  · rw [hS] at hn
    rintro (e | e | e | e | ⟨i, hi, e⟩)
    · exact hn (.inl e)
    · exact hn (.inr (.inl e))
    · exact hn (.inr (.inr (.inl e)))
    · exact hn (.inr (.inr (.inr (.inl e))))
    · rw [List.getElem_replicate] at e; cases e
set_option maxRecDepth 8000 in
set_option maxHeartbeats 1000000 in
theorem dsettle_any (w : World) (h : DK w B db S s) : Calls Try.prog 49 #[.pointer (some ⟨db, 0, none⟩)] w fun e w' => e = .returned (.tuple #[]) ∧ ActD w w' B db S { s with wait := [] } := by
  obtain ⟨nb, kb, lb, n, lv, loose, L, h1, h2, hS, h4, h5, h6, h7⟩ := h
  have HE := hide (DK.settled h1 h2 hS h6 h7)
  have hcl := run_clear_any (P := Try.prog) w 84 96 0 (.slice none 0 0) Try.underlying84 zero_rows (fun v hv => by have e : (Value.slice none 0 0).cells = #[.slice none 0 0] := rfl; rw [e] at hv; simp at hv; rw [hv]; rfl) lb 0 n n lv _ h2.hl (by show 0 + n * 1 ≤ _; rw [h2.nl]; omega)
  rw [nils_cells] at hcl
  have c2 := h1.c2
  have k1 : (w.setCells lb 0 (List.replicate n (.slice none 0 0))).heap[db]? = w.heap[db]? := heap_setCells_other lb _ _ _ h2.ap.2.2.1
  have c3 := (World.cell?_of_block (a := ⟨db, 3, none⟩) k1).trans h1.c3
  have f3 := (World.frozen?_of_block (a := ⟨db, 3, none⟩) k1).trans (h1.soft 3)
  have hn := h2.n1
  have hn1 : n ≠ 0 := by omega
  clear h1 h2 h4 h5 h6 hS k1
  generalize List.replicate n (Value.slice none 0 0) = zs at *
  go_enter Try.func49, Try.ntmps49
  go_wp2
  go_end0
  exact ⟨rfl, HE.out⟩
/-- all is kept as it is now -/
theorem DK.keep {w : World} {nb kb lb n : Nat} {lv : List Value} {loose : List (List Wr)} {L next : Int} (h1 : DHd w db nb kb lb n next L s.down) (h2 : DBy w B db nb kb lb n lv s.now s.kept loose) (l : List ByteArray) (hl : l.length = n) (hs : ∀ x ∈ l, x.size = 96) :
    DHd (w.setCells kb 0 (l.flatMap secV)) db nb kb lb n next L s.down ∧ DBy (w.setCells kb 0 (l.flatMap secV)) B db nb kb lb n lv s.now l loose ∧ StepV w (w.setCells kb 0 (l.flatMap secV)) B (inD db nb kb lb lv) (inD db nb kb lb lv) := by
  have hap := h2.ap
  have hfl : (l.flatMap secV).length = n * 96 := by rw [dflat_length (z := 96) fun x hx => (secV_length x).trans (hs x hx), hl]
  have hkl : (s.kept.flatMap secV).length = n * 96 := by rw [dflat_length (z := 96) fun x hx => (secV_length x).trans (h2.sk x hx), h2.nk]
  have k1 : ∀ k, k ≠ kb → (w.setCells kb 0 (l.flatMap secV)).heap[k]? = w.heap[k]? := fun k hk => heap_setCells_other kb _ _ _ hk
  refine ⟨h1.kept (k1 db hap.2.1), { h2 with hn := (k1 nb hap.2.2.2.1).trans h2.hn, hk := ?_, hl := (k1 lb hap.2.2.2.2.2.symm).trans h2.hl, nk := hl, sk := hs, own := fun i hi h' => ownW_kept (h2.own i hi h') fun k e => k1 k (h2.apo i hi k e).2.2.1 }, ⟨below_setCells h2.lo.2.2.1 _ _ _ (Below.refl _ _), fun k _ hn => ⟨k1 k fun e => hn (.inr (.inr (.inl e))), hn⟩⟩⟩
  rw [heap_setCells kb _ (0, 0) _ 0 w _ h2.hk (by rw [hfl, hkl]; omega), splice_all _ _ (by rw [hfl, hkl])]
set_option maxRecDepth 8000 in
set_option maxHeartbeats 1000000 in
theorem dflush_any (w : World) (h : DK w B db S s) : Calls Try.prog 18 #[.pointer (some ⟨db, 0, none⟩)] w fun e w' => e = .returned (errV (dstepF s)) ∧ ActD w w' B db S (flushD s) := by
  have HS := hide (dstep_any w h)
  unfold flushD
  have HN : Hid ((dstepD s).now = s.now) := by unfold dstepD; split; rfl; split <;> rfl
  clear h
  generalize dstepD s = s1 at *
  generalize dstepF s = f at *
  by_cases hf : f = 0
  · subst hf
    rw [if_pos rfl, errD_nil]
    rw [errD_nil] at HS
    go_enter Try.func18, Try.ntmps18
    go_wp2_with (go_at_call 46; refine HS.out.mono ?_; rintro e w1 ⟨rfl, ha⟩; obtain ⟨S1, hk1, hs1⟩ := ha)
    obtain ⟨nb, kb, lb, n, lv, loose, L, h1, h2, hS, h4, h5, h6, h7⟩ := hk1
    have hcp := run_copy_any (P := Try.prog) w1.drew 83 83 3 91 96 kb 0 n n n (.slice (some ⟨nb, 0, none⟩) n n) (s1.kept.flatMap secV) 91 (s1.now.flatMap secV) Try.underlying83 sector_size (show w1.drew.heap[kb]? = _ from h2.hk) rfl
      (by
        have hl := run_loadCells_list (P := Try.prog) w1.drew ⟨nb, 0, none⟩ (s1.now.flatMap secV) (fun j v hv => by
          rw [Go.Addr.add_mid, cell_of_row w1.drew nb (0 + j) _ _ _ (show w1.drew.heap[nb]? = _ from h2.hn), List.getElem?_toArray, Nat.zero_add]; exact hv)
        rw [dflat_length (z := 96) fun x hx => (secV_length x).trans (h2.sn x hx), h2.nn] at hl
        simp only [Builtin.firstCells, Nat.min_self]
        exact hl)
      (by rw [dflat_length (z := 96) fun x hx => (secV_length x).trans (h2.sn x hx), h2.nn, dflat_length (z := 96) fun x hx => (secV_length x).trans (h2.sk x hx), h2.nk]; omega)
      (fun v hv => by obtain ⟨x, _, hx⟩ := List.mem_flatMap.1 hv; exact secV_one x v hx)
    have c0 := h1.c0
    have c1 := h1.c1
    have hd0 := (show w1.drew.heap[kb]? = _ from h2.hk)
    have HK : Hid (ActD w1 (w1.drew.setCells kb 0 (s1.now.flatMap secV)) B db S1 { s1 with kept := s1.now }) := by
      obtain ⟨k1, k2, k3⟩ := DK.keep (h1.kept (w' := w1.drew) rfl) (h2.kept (w' := w1.drew) fun _ _ _ => rfl) s1.now h2.nn h2.sn
      refine ⟨S1, ⟨nb, kb, lb, n, lv, loose, L, k1, k2, hS, h4, h5, h6, ?_⟩, (StepV.on h7 (Below.refl _ w1).drew).trans (by rw [hS]; exact k3)⟩
      have := k3.bel.size
      simp at this
      omega
    have k9 : (w1.drew.setCells kb 0 (s1.now.flatMap secV)).heap[db]? = w1.heap[db]? := heap_setCells_other kb _ _ w1.drew h2.ap.2.1
    have HC : Hid ((w1.drew.setCells kb 0 (s1.now.flatMap secV)).cell? ⟨db, 0, none⟩ = some (.slice (some ⟨nb, 0, none⟩) n n) ∧ (w1.drew.setCells kb 0 (s1.now.flatMap secV)).cell? ⟨db, 1, none⟩ = some (.slice (some ⟨kb, 0, none⟩) n n)) := ⟨(World.cell?_of_block (a := ⟨db, 0, none⟩) k9).trans c0, (World.cell?_of_block (a := ⟨db, 1, none⟩) k9).trans c1⟩
    have hmn : Nat.min n n = n := Nat.min_self n
    clear hd0 k9 h1 h2 h4 h5 h6 hS
    generalize s1.now.flatMap secV = cs at *
    go_region_held3 (fun w' => w'.cell? ⟨db, 0, none⟩ = some (.slice (some ⟨nb, 0, none⟩) n n) ∧ w'.cell? ⟨db, 1, none⟩ = some (.slice (some ⟨kb, 0, none⟩) n n)) (first | go_keep | exact HC.out) (fail)
    obtain ⟨S2, hk2, hs2⟩ := HK.out
    have HT := hide (dsettle_any _ hk2)
    have HS2 := hide (hs1.trans hs2)
    clear hk2 hs2 HK HC hcp
    go_wp2_with (go_at_call 49; refine HT.out.mono ?_; rintro e w3 ⟨rfl, ha⟩)
    go_ret
    rw [← HN.out]
    exact ⟨rfl, ActD.after HS2.out ha⟩
  · have hf' := errD_pos hf
    rw [if_neg hf, hf']
    rw [hf'] at HS
    go_enter Try.func18, Try.ntmps18
    go_wp2_with (go_at_call 46; refine HS.out.mono ?_; rintro e w1 ⟨rfl, ha⟩)
    go_ret
    exact ⟨rfl, ha⟩
end
end Go.Proofs.Ytkfpfbkdalbjoaa

/-
  What Disk.Restart leaves of a disk.
-/
namespace Go.Proofs.Ytkfpfbkdalbjoaa
open Go.RowKit Go.Joins
attribute [local go_sem ↓] Go.wp_at_zero Go.wp_at_succ

section
variable {B db : Nat} {S : Nat → Prop} {s : DSt}
/-- what is kept when so many sectors have been gone over, and so many writes of the next one -/
structure MidK (k : Int) (loose : List (List Wr)) (K : List ByteArray) (i j : Nat) (K' : List ByteArray) : Prop where
  len : K'.length = K.length
  big : ∀ x ∈ K', x.size = 96
  at_ : ∀ m (h : m < K.length) (h' : m < loose.length), K'[m]? = some (if m < i then lastW k loose[m] K[m] else if m = i then lastW k (loose[m].take j) K[m] else K[m])
theorem MidK.start {k : Int} {loose : List (List Wr)} {K : List ByteArray} (hb : ∀ x ∈ K, x.size = 96) : MidK k loose K 0 0 K := ⟨rfl, hb, fun m h h' => by
  rw [List.getElem?_eq_getElem h, if_neg (by omega)]
  split
  · rfl
  · rfl⟩
theorem MidK.next {k : Int} {loose : List (List Wr)} {K K' : List ByteArray} {i j : Nat} (h : MidK k loose K i j K') (hi : i < loose.length) (hj : loose[i].length ≤ j) : MidK k loose K (i + 1) 0 K' := ⟨h.len, h.big, fun m hm h' => by
  rw [h.at_ m hm h']
  congr 1
  by_cases e : m < i
  · rw [if_pos e, if_pos (by omega)]
  · rw [if_neg e]
    by_cases e2 : m = i
    · subst e2
      rw [if_pos rfl, if_pos (by omega), List.take_of_length_le hj]
    · rw [if_neg e2, if_neg (by omega)]
      split
      · rfl
      · rfl⟩
theorem lastW_take {k : Int} {l : List Wr} {j : Nat} (hj : j < l.length) (d : ByteArray) : lastW k (l.take (j + 1)) d = if keepB k l[j].1.toNat then l[j].2 else lastW k (l.take j) d := by
  rw [List.take_succ_eq_append_getElem hj, lastW_snoc]
theorem MidK.skip {k : Int} {loose : List (List Wr)} {K K' : List ByteArray} {i j : Nat} (h : MidK k loose K i j K') (hi : i < loose.length) (hj : j < loose[i].length) (hb : keepB k loose[i][j].1.toNat = false) : MidK k loose K i (j + 1) K' := ⟨h.len, h.big, fun m hm h' => by
  rw [h.at_ m hm h']
  congr 1
  by_cases e : m < i
  · rw [if_pos e, if_pos e]
  · rw [if_neg e, if_neg e]
    by_cases e2 : m = i
    · subst e2
      rw [if_pos rfl, if_pos rfl, lastW_take hj, hb]; rfl
    · rw [if_neg e2, if_neg e2]⟩
theorem MidK.set {k : Int} {loose : List (List Wr)} {K K' : List ByteArray} {i j : Nat} (h : MidK k loose K i j K') (hi : i < loose.length) (hj : j < loose[i].length) (hb : keepB k loose[i][j].1.toNat = true) (hz : loose[i][j].2.size = 96) : MidK k loose K i (j + 1) (K'.set i loose[i][j].2) := ⟨by rw [List.length_set]; exact h.len, fun x hx => (List.mem_or_eq_of_mem_set hx).elim (h.big x) (fun e => by rw [e]; exact hz), fun m hm h' => by
  by_cases e2 : m = i
  · subst e2
    rw [List.getElem?_set_self (by rw [h.len]; exact hm), if_neg (by omega), if_pos rfl, lastW_take hj, hb]; rfl
  · rw [List.getElem?_set_ne (Ne.symm e2), h.at_ m hm h']
    congr 1
    by_cases e : m < i
    · rw [if_pos e, if_pos e]
    · rw [if_neg e, if_neg e, if_neg e2, if_neg e2]⟩
theorem MidK.done {k : Int} {n : Nat} {wait : List (Nat × ByteArray)} {loose : List (List Wr)} {K K' : List ByteArray} {j : Nat} (h : MidK k loose K n j K') (ho : LooseOk n wait loose) (hK : K.length = n) : K' = keepL k 0 wait K := by
  apply List.ext_getElem?
  intro m
  rw [keepL_get]
  by_cases hm : m < K.length
  · rw [h.at_ m hm (by rw [ho.len, ← hK]; exact hm), if_pos (by omega), List.getElem?_eq_getElem hm, ho.same m (by rw [ho.len, ← hK]; exact hm)]; rfl
  · rw [List.getElem?_eq_none (by rw [h.len]; omega), List.getElem?_eq_none (by omega)]; rfl
/-- a sector that is kept is laid anew -/
theorem DBy.keptSet {w : World} {nb kb lb n a : Nat} {lv : List Value} {now kpt : List ByteArray} {loose : List (List Wr)} {next L : Int} {down : Bool} {d : ByteArray} (h1 : DHd w db nb kb lb n next L down) (h2 : DBy w B db nb kb lb n lv now kpt loose) (ha : a < kpt.length) (hd : d.size = 96) :
    w.there kb (a * 96) 96 ∧ DHd (w.setCells kb (a * 96) (secV d)) db nb kb lb n next L down ∧ DBy (w.setCells kb (a * 96) (secV d)) B db nb kb lb n lv now (kpt.set a d) loose ∧ StepV w (w.setCells kb (a * 96) (secV d)) B (inD db nb kb lb lv) (inD db nb kb lb lv) ∧ (w.setCells kb (a * 96) (secV d)).heap[db]? = w.heap[db]? := by
  have hl : (secV d).length = 96 := (secV_length d).trans hd
  have hfl : (kpt.flatMap secV).length = kpt.length * 96 := dflat_length (z := 96) fun x hx => (secV_length x).trans (h2.sk x hx)
  have hap := h2.ap
  have k1 : ∀ k, k ≠ kb → (w.setCells kb (a * 96) (secV d)).heap[k]? = w.heap[k]? := fun k hk => heap_setCells_other kb _ _ _ hk
  have hb : a * 96 + (secV d).length ≤ (kpt.flatMap secV).length := by rw [hl, hfl]; omega
  refine ⟨there_of_block h2.hk (by rw [hfl]; omega), h1.kept (k1 db hap.2.1), { h2 with hn := (k1 nb hap.2.2.2.1).trans h2.hn, hk := ?_, hl := (k1 lb hap.2.2.2.2.2.symm).trans h2.hl, nk := by rw [List.length_set]; exact h2.nk, sk := fun x hx => (List.mem_or_eq_of_mem_set hx).elim (h2.sk x) (fun e => by rw [e]; exact hd), own := fun i hi h' => ownW_kept (h2.own i hi h') fun k e => k1 k (h2.apo i hi k e).2.2.1 }, ⟨below_setCells h2.lo.2.2.1 _ _ _ (Below.refl _ _), fun k _ hn => ⟨k1 k fun e => hn (.inr (.inr (.inl e))), hn⟩⟩, k1 db hap.2.1⟩
  rw [heap_setCells kb _ (0, 0) _ _ w _ h2.hk hb, dflat_set (z := 96) (fun x hx => (secV_length x).trans (h2.sk x hx)) a ha d hl]
/-- all is read as it is kept -/
theorem DBy.nowAll {w : World} {nb kb lb n : Nat} {lv : List Value} {now kpt : List ByteArray} {loose : List (List Wr)} {next L : Int} {down : Bool} (h1 : DHd w db nb kb lb n next L down) (h2 : DBy w B db nb kb lb n lv now kpt loose) (l : List ByteArray) (hl : l.length = n) (hs : ∀ x ∈ l, x.size = 96) :
    DHd (w.setCells nb 0 (l.flatMap secV)) db nb kb lb n next L down ∧ DBy (w.setCells nb 0 (l.flatMap secV)) B db nb kb lb n lv l kpt loose ∧ StepV w (w.setCells nb 0 (l.flatMap secV)) B (inD db nb kb lb lv) (inD db nb kb lb lv) ∧ (w.setCells nb 0 (l.flatMap secV)).heap[db]? = w.heap[db]? := by
  have hap := h2.ap
  have hfl : (l.flatMap secV).length = n * 96 := by rw [dflat_length (z := 96) fun x hx => (secV_length x).trans (hs x hx), hl]
  have hkl : (now.flatMap secV).length = n * 96 := by rw [dflat_length (z := 96) fun x hx => (secV_length x).trans (h2.sn x hx), h2.nn]
  have k1 : ∀ k, k ≠ nb → (w.setCells nb 0 (l.flatMap secV)).heap[k]? = w.heap[k]? := fun k hk => heap_setCells_other nb _ _ _ hk
  refine ⟨h1.kept (k1 db hap.1), { h2 with hn := ?_, hk := (k1 kb hap.2.2.2.1.symm).trans h2.hk, hl := (k1 lb hap.2.2.2.2.1.symm).trans h2.hl, nn := hl, sn := hs, own := fun i hi h' => ownW_kept (h2.own i hi h') fun k e => k1 k (h2.apo i hi k e).2.1 }, ⟨below_setCells h2.lo.2.1 _ _ _ (Below.refl _ _), fun k _ hn => ⟨k1 k fun e => hn (.inr (.inl e)), hn⟩⟩, k1 db hap.1⟩
  rw [heap_setCells nb _ (0, 0) _ 0 w _ h2.hn (by rw [hfl, hkl]; omega), splice_all _ _ (by rw [hfl, hkl])]
theorem DBy.on {w w' : World} {nb kb lb n : Nat} {lv : List Value} {now kpt : List ByteArray} {loose : List (List Wr)} {next L : Int} {down : Bool} (h1 : DHd w db nb kb lb n next L down) (h2 : DBy w B db nb kb lb n lv now kpt loose) (hb : Below w.heap.size w w') : DHd w' db nb kb lb n next L down ∧ DBy w' B db nb kb lb n lv now kpt loose :=
  ⟨h1.kept (hb.block db h1.lt), h2.kept fun k _ hk => hb.block k (h2.lt h1.lt hk)⟩
structure RstI (w wr : World) (B db nb kb lb n : Nat) (lv : List Value) (loose : List (List Wr)) (s : DSt) (k L : Int) (i j : Nat) : Prop where
  h1 : DHd wr db nb kb lb n ((s.wait.length % 64 : Nat) : Int) L s.down
  ex : ∃ K', MidK k loose s.kept i j K' ∧ DBy wr B db nb kb lb n lv s.now K' loose
  st : StepV w wr B (inD db nb kb lb lv) (inD db nb kb lb lv)
  lo : B ≤ wr.heap.size
set_option maxRecDepth 8000 in
set_option maxHeartbeats 8000000 in
theorem drestart_any (k : Int) (w : World) (h : DK w B db S s) : Calls Try.prog 21 #[.pointer (some ⟨db, 0, none⟩), .int .u64 k] w fun e w' => e = .returned (.tuple #[]) ∧ ActD w w' B db S (restartD s k) := by
  obtain ⟨nb, kb, lb, n, lv, loose, L, h1, h2, hS, h4, h5, h6, h7⟩ := h
  subst hS
  have c2 := h1.c2
  have hn := h2.n1
  have HI0 : Hid (RstI w w B db nb kb lb n lv loose s k L 0 0) := ⟨h1, ⟨_, .start h2.sk, h2⟩, .refl h7, h7⟩
  have H4 := hide h4
  have H5 := hide h5
  have H6 := hide h6
  have HKN := hide h2.nk
  have HNL := hide h2.nl
  have HNO := hide h2.no
  clear h1 h2 h4 h5 h6
  go_enter Try.func21, Try.ntmps21
  go_wp2
  go_loopw [13] (fun iv wr => ∃ i : Nat, i ≤ n ∧ iv = .int .i64 (i : Int) ∧ RstI w wr B db nb kb lb n lv loose s k L i 0) (fun iv _ => n - (intOf iv).toNat)
  case atStart => exact ⟨0, Nat.zero_le _, rfl, HI0.out⟩
  case round =>
    obtain ⟨i, hi, rfl, hI⟩ := hrel
    by_cases hlt : i < n
    · have hlt' : (i : Int) < (n : Int) := by omega
      obtain ⟨h1, ⟨K', hm, h2⟩, h3, h3l⟩ := hI
      have hil : i < lv.length := by rw [HNL.out]; exact hlt
      have hio : i < loose.length := by rw [HNO.out]; exact hlt
      have cl : wr.cell? ⟨lb, i, none⟩ = some lv[i] := by rw [cell_of_row wr lb i _ _ _ h2.hl, List.getElem?_toArray]; exact List.getElem?_eq_getElem hil
      have how := h2.own i hil hio
      obtain ⟨ao, m, cap, hv⟩ : ∃ ao m cap, lv[i] = .slice ao m cap := by
        rcases how.1.2 with ⟨e, _⟩ | ⟨g, cap, cur, e, _⟩
        · exact ⟨_, _, _, e⟩
        · exact ⟨_, _, _, e⟩
      rw [hv] at cl how
      have hsh := H4.out.short hio
      have hml : m = loose[i].length := by
        rcases how.1.2 with ⟨e, e2⟩ | ⟨g', cap', cur', e, _⟩
        · cases e; exact e2.symm
        · cases e; rfl
      have HM := hide hml
      have HV := hide hv
      have HI1 : Hid (RstI w wr B db nb kb lb n lv loose s k L i 0) := ⟨h1, ⟨K', hm, h2⟩, h3, h3l⟩
      have hm64 : m ≤ 64 := by omega
      clear h1 h2 h3 h3l hm how hml hv hsh
      go_wp2
      go_loopw [20] (fun jv wr => ∃ j : Nat, j ≤ m ∧ jv = .int .i64 (j : Int) ∧ RstI w wr B db nb kb lb n lv loose s k L i j) (fun jv _ => m - (intOf jv).toNat)
      case atStart => exact ⟨0, Nat.zero_le _, rfl, HI1.out⟩
      case round =>
        obtain ⟨j, hj, rfl, h1, ⟨K', hm, h2⟩, h3, h3l⟩ := hrel
        by_cases hlt2 : j < m
        · have hlt2' : (j : Int) < (m : Int) := by omega
          have hjl : j < loose[i].length := by rw [← HM.out]; exact hlt2
          have how := h2.own i hil hio
          rw [HV.out] at how
          obtain ⟨g, hg⟩ : ∃ g, ao = some ⟨g, 0, none⟩ := by
            rcases how.1.2 with ⟨e, e2⟩ | ⟨g', cap', cur', e, _⟩
            · rw [e2] at hjl; omega
            · cases e; exact ⟨_, rfl⟩
          subst hg
          have hra := ownW_range how hjl
          have hsx := how.2 _ (List.getElem_mem hjl)
          have hbx := (H4.out.bits i hio).1 _ (List.getElem_mem hjl)
          have HMS := hide (fun hb => hm.set hio hjl hb hsx)
          have HMK := hide (fun hb => hm.skip hio hjl hb)
          have hiK : i < K'.length := by rw [hm.len, HKN.out]; exact hlt
          obtain ⟨g1, g2⟩ := DBy.on h1 h2 (below_alloc1 wr (.cells (cellW loose[i][j]).toArray 98))
          obtain ⟨q1, q2⟩ := DBy.on g1 g2 (Below.refl _ (wr.alloc (.cells (cellW loose[i][j]).toArray 98))).drew
          have HSA := hide (h3.trans (StepV.on (S := inD db nb kb lb lv) h3l (below_alloc1 wr (.cells (cellW loose[i][j]).toArray 98))))
          have HSB := hide (HSA.out.trans (StepV.on (S := inD db nb kb lb lv) (w := wr.alloc (.cells (cellW loose[i][j]).toArray 98)) (by simp; omega) (Below.refl _ _).drew))
          have HKS := hide (DBy.keptSet q1 q2 hiK hsx)
          have HG1 := hide g1
          have HG2 := hide g2
          have hkbl : kb < wr.heap.size := h2.lt h1.lt (.inr (.inr (.inl rfl)))
          have c1 := q1.c1
          generalize hxe : loose[i][j] = x at *
          have HRA := hide hra
          have hb0 := hbx.1
          have hb1 := hbx.2.1
          have hcl : (cellW x).length = 97 := cellW_length hsx
          have hz : (Try.zeroCells98).size = 97 := by kernel_rfl
          have hst := store_new (P := Try.prog) wr Try.zeroCells98 98 (cellW x) (by rw [hcl, hz]) (cellW_one x)
          have c00 : (wr.alloc (.cells (cellW x).toArray 98)).cell? ⟨wr.heap.size, 0, none⟩ = some (.int .i64 x.1) := by rw [cell_new]; rfl
          have hrd : (wr.alloc (.cells (cellW x).toArray 98)).drew.rangeAt wr.heap.size 1 (secV x.2) := (World.rangeAt_drew _ _ _ _).2 (rangeAt_block (Go.heap_alloc_new wr _) fun j _ => by rw [Nat.add_comm]; rfl)
          have HXE := hide hxe
          clear hz hra hbx how h1 h2 h3 hm g1 g2 q1 q2 hxe hiK
          cases hkb : keepB k x.1.toNat with
          | true =>
            have hkb' : (Go.bits .and .u64 (k / 2 ^ x.1.toNat) 1 == 1) = true := hkb
            have HMS' := hide (HMS.out hkb)
            clear hkb HMS HMK
            go_wp2_with (first
              | (refine wpList_load_mid (by rfl) 98 _ (by rfl) g (j * 97) (by rfl) (cellW x) _ HRA.out Try.underlying98 (by rfl) (by rw [cellW_length hsx]; exact write_size) ?_)
              | fail)
            obtain ⟨hth, r1, r2, r3, r4⟩ := HKS.out
            have HR1 := hide r1
            have HR2 := hide r2
            have HR3 := hide (HSB.out.trans r3)
            have HC4 : Hid (((wr.alloc (.cells (cellW x).toArray 98)).drew.setCells kb (i * 96) (secV x.2)).cell? ⟨db, 1, none⟩ = some (.slice (some ⟨kb, 0, none⟩) n n)) := (World.cell?_of_block (a := ⟨db, 1, none⟩) r4).trans c1
            have HT4 := hide (World.there_setCells hth kb (i * 96) (secV x.2))
            have HR4 := hide (World.rangeAt_setCells_apart hrd kb (i * 96) (secV x.2) (.inl (by omega)))
            have hu := Try.underlying91
            have hcs : (secV x.2).length = 96 := (secV_length _).trans hsx
            have hi2 : (Try.prog.info? 91).map (·.size) = some (secV x.2).length := by rw [hcs]; exact sector_size
            have h1c := secV_one x.2
            have hia0 : (0 : Int) ≤ (i : Int) := by omega
            clear r1 r2 r3 r4 hst c00
            go_region_held3 (fun w' => w'.cell? ⟨db, 1, none⟩ = some (.slice (some ⟨kb, 0, none⟩) n n) ∧ w'.rangeAt wr.heap.size 1 (secV x.2) ∧ w'.there kb (i * 96) 96) (first | exact ⟨HC4.out, HR4.out, HT4.out⟩ | exact ⟨c1, hrd, hth⟩) (fail)
            clear hrd hth c1 hi2 hu h1c
            have HLO : Hid (B ≤ ((wr.alloc (.cells (cellW x).toArray 98)).drew.setCells kb (i * 96) (secV x.2)).heap.size) := hide (by have := HR3.out.bel.size; omega)
            generalize (wr.alloc (.cells (cellW x).toArray 98)).drew.setCells kb (i * 96) (secV x.2) = W4 at *
            go_wp2
            exact ⟨⟨j + 1, by omega, by go_num, HR1.out, ⟨_, HMS'.out, HR2.out⟩, HR3.out, HLO.out⟩, by simp [intOf]; omega⟩
          | false =>
            have hkb' : (Go.bits .and .u64 (k / 2 ^ x.1.toNat) 1 == 1) = false := hkb
            have HMK' := hide (HMK.out hkb)
            clear hkb HMS HMK
            go_wp2_with (first
              | (refine wpList_load_mid (by rfl) 98 _ (by rfl) g (j * 97) (by rfl) (cellW x) _ HRA.out Try.underlying98 (by rfl) (by rw [cellW_length hsx]; exact write_size) ?_)
              | fail)
            exact ⟨⟨j + 1, by omega, by go_num, HG1.out, ⟨_, HMK'.out, HG2.out⟩, HSA.out, by simp; omega⟩, by simp [intOf]; omega⟩
        · have ej : j = m := by omega
          subst ej
          have hlt2' : ¬ (j : Int) < (j : Int) := by omega
          have HI2 : Hid (RstI w wr B db nb kb lb n lv loose s k L (i + 1) 0) := ⟨h1, ⟨K', hm.next hio (by rw [← HM.out]; exact Nat.le_refl _), h2⟩, h3, h3l⟩
          clear h1 h2 h3 hm
          go_wp2
          exact ⟨⟨i + 1, by omega, by go_num, HI2.out⟩, by simp [intOf]; omega⟩
    · have ei : i = n := by omega
      subst ei
      have hlt' : ¬ (i : Int) < (i : Int) := by omega
      obtain ⟨h1, ⟨K', hm, h2⟩, h3, h3l⟩ := hI
      have hKe := hm.done H4.out HKN.out
      obtain ⟨q1, q2⟩ := DBy.on h1 h2 (Below.refl _ wr).drew
      obtain ⟨r1, r2, r3, r4⟩ := DBy.nowAll q1 q2 K' h2.nk h2.sk
      have hcp := run_copy_any (P := Try.prog) wr.drew 83 83 3 91 96 nb 0 i i i (.slice (some ⟨kb, 0, none⟩) i i) (s.now.flatMap secV) 91 (K'.flatMap secV) Try.underlying83 sector_size q2.hn rfl
        (by
          have hl := run_loadCells_list (P := Try.prog) wr.drew ⟨kb, 0, none⟩ (K'.flatMap secV) (fun j v hv => by
            rw [Go.Addr.add_mid, cell_of_row wr.drew kb (0 + j) _ _ _ q2.hk, List.getElem?_toArray, Nat.zero_add]; exact hv)
          rw [dflat_length (z := 96) fun x hx => (secV_length x).trans (h2.sk x hx), h2.nk] at hl
          simp only [Builtin.firstCells, Nat.min_self]
          exact hl)
        (by rw [dflat_length (z := 96) fun x hx => (secV_length x).trans (h2.sk x hx), h2.nk, dflat_length (z := 96) fun x hx => (secV_length x).trans (h2.sn x hx), h2.nn]; omega)
        (fun v hv => by obtain ⟨x, _, hx⟩ := List.mem_flatMap.1 hv; exact secV_one x v hx)
      have c0 := q1.c0
      have c1 := q1.c1
      have HSW := hide ((h3.trans (StepV.on (S := inD db nb kb lb lv) h3l (Below.refl _ wr).drew)).trans r3)
      have HC : Hid ((wr.drew.setCells nb 0 (K'.flatMap secV)).cell? ⟨db, 0, none⟩ = some (.slice (some ⟨nb, 0, none⟩) i i) ∧ (wr.drew.setCells nb 0 (K'.flatMap secV)).cell? ⟨db, 1, none⟩ = some (.slice (some ⟨kb, 0, none⟩) i i)) := ⟨(World.cell?_of_block (a := ⟨db, 0, none⟩) r4).trans c0, (World.cell?_of_block (a := ⟨db, 1, none⟩) r4).trans c1⟩
      have HDK : Hid (DK (wr.drew.setCells nb 0 (K'.flatMap secV)) B db (inD db nb kb lb lv) ⟨K', K', s.wait, s.left, s.down⟩) :=
        ⟨nb, kb, lb, i, lv, loose, L, r1, r2, rfl, H4.out, H5.out, H6.out, by have := HSW.out.bel.size; omega⟩
      have hmn : Nat.min i i = i := Nat.min_self i
      have HKE := hide hKe
      clear h1 h2 h3 hm hKe q1 q2 r1 r2 r3 r4
      generalize hfm : K'.flatMap secV = cs at *
      clear hfm
      go_wp2_with fail
      go_region_held3 (fun w' => w'.cell? ⟨db, 0, none⟩ = some (.slice (some ⟨nb, 0, none⟩) i i) ∧ w'.cell? ⟨db, 1, none⟩ = some (.slice (some ⟨kb, 0, none⟩) i i)) (first | go_keep | exact HC.out) (fail)
      have HT := hide (dsettle_any _ HDK.out)
      clear HDK HC hcp c0 c1
      generalize wr.drew.setCells nb 0 cs = W4 at *
      go_wp2_with fail
      refine HT.out.mono ?_
      rintro e w3 ⟨rfl, S3, hk3, hs3⟩
      have HS3 := hide (HSW.out.trans hs3)
      have HS3b := hide hk3.db_in
      obtain ⟨nb', kb', lb', n', lv', loose', L', g1, g2, hS', g4, g5, g6, g7⟩ := hk3
      have c5 := g1.c5
      have c4 := g1.c4
      have f5 := g1.soft 5
      have f4 := g1.soft 4
      have HE : Hid (ActD w3 ((w3.setCell ⟨db, 5, none⟩ (.bool false)).setCell ⟨db, 4, none⟩ (.int .i64 (-1))) B db S3 ⟨K', K', [], -1, false⟩) :=
        ⟨S3, ⟨nb', kb', lb', n', lv', loose', -1, (g1.down' false).left' (-1), (g2.head 5 _).head 4 _, hS', g4, g5, fun _ => ⟨rfl, by decide, by decide⟩, by simpa using g7⟩, (stepV_head HS3b.out g2.lo.1 5 _).trans (stepV_head HS3b.out g2.lo.1 4 _)⟩
      clear g1 g2 g4 g5 g6 hS' hs3
      go_wp2
      go_end0
      refine ⟨rfl, ?_⟩
      unfold restartD
      rw [← HKE.out]
      exact ActD.after HS3.out HE.out
end
end Go.Proofs.Ytkfpfbkdalbjoaa
