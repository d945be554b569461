/-
  A write made of a bit and a sector, and a row of one write: what the model's build and buildSlice make.
-/
import Derived.Test.YtkfpfbkdalbjoaaDskAt
import Derived.Great.FillDense
import Derived.Great.BuildSlice
namespace Go.Proofs.Ytkfpfbkdalbjoaa
open Go.RowKit Go.Joins

theorem fill_at (off : Nat) (vs : List Value) (C : Array Value) (h : off + vs.length ≤ C.size) : (vs.toArray.zipIdx.foldl (fun cs (x : Value × Nat) => cs.setIfInBounds (off + x.2) x.1) C) = (splice C.toList off vs).toArray := by
  have e : vs.toArray.zipIdx.foldl (fun cs (x : Value × Nat) => cs.setIfInBounds (off + x.2) x.1) C = (vs.zipIdx 0).foldl (fun cs (x : Value × Nat) => cs.setIfInBounds (off + x.2) x.1) C := by
    rw [← Array.foldl_toList]; simp
  rw [e]
  obtain ⟨h1, h2⟩ := Go.Great.foldl_set off vs 0 C
  apply Array.ext'
  apply List.ext_getElem?
  intro k
  rw [Array.getElem?_toList, h2 k]
  show _ = (splice C.toList off vs)[k]?
  have hC : C.toList.length = C.size := Array.length_toList ..
  rw [splice_get _ _ _ (by rw [hC]; exact h), Nat.add_zero]
  by_cases h3 : k < off
  · rw [if_neg (by omega), if_pos h3, Array.getElem?_toList]
  · rw [if_neg h3]
    by_cases h4 : k < off + vs.length
    · rw [if_pos ⟨by omega, h4, by omega⟩, if_pos h4]
    · rw [if_neg (by omega), if_neg h4, Array.getElem?_toList]
theorem int_size : (Try.prog.info? 3).map (·.size) = some 1 := by kernel_rfl
theorem run_sizeOf {P : Program} {t : TypeId} {n : Nat} (h : (P.info? t).map (·.size) = some n) (w : World) : (sizeOf t).run P w = .ok n w := by
  cases hi : P.info? t with
  | none => rw [hi] at h; cases h
  | some i => rw [hi] at h; have : i.size = n := by simpa using h
              simp [sizeOf, typeInfo, hi, this]
theorem build_write (q : Int) (d : ByteArray) (hd : d.size = 96) (w : World) : (Instr.build 98 #[(0, .int .i64 q), (1, .agg (secV d).toArray)]).run Try.prog w = .ok (.agg (cellW (q, d)).toArray) w := by
  obtain ⟨z, hz1, hz2, _⟩ := zero_write
  have hl : (secV d).length = 96 := (secV_length d).trans hd
  have hC : z.cells.toList.length = 97 := (Array.length_toList ..).trans hz2
  have e1 : (#[Value.int .i64 q].zipIdx.foldl (fun cs (x : Value × Nat) => cs.setIfInBounds (0 + x.2) x.1) z.cells) = (splice z.cells.toList 0 [Value.int .i64 q]).toArray := fill_at 0 [.int .i64 q] z.cells (by rw [hz2]; show 0 + 1 ≤ 97; decide)
  have hs1 : (splice z.cells.toList 0 [Value.int .i64 q]).length = 97 := by rw [length_splice _ _ _ (by rw [hC]; show 0 + 1 ≤ 97; decide), hC]
  have e2 := fill_at 1 (secV d) (splice z.cells.toList 0 [Value.int .i64 q]).toArray (by rw [List.size_toArray, hs1, hl]; decide)
  have e3 : splice (splice z.cells.toList 0 [Value.int .i64 q]) 1 (secV d) = cellW (q, d) := by
    cases hz : z.cells.toList with
    | nil => rw [hz] at hC; cases hC
    | cons a l =>
      rw [hz] at hC
      have hl2 : l.length = 96 := by simpa using hC
      unfold splice
      simp only [List.take_zero, List.nil_append, List.length_singleton, Nat.zero_add, List.drop_succ_cons, List.drop_zero, List.cons_append, List.take_succ_cons]
      rw [hl, show 1 + 96 = 96 + 1 from rfl, List.drop_succ_cons, List.drop_of_length_le (by omega), List.append_nil]
      rfl
  have f1 : Instr.fill (fun x => ([(0, 1), (1, 96)] : List (Nat × Nat))[x]?) z.cells [(0, .int .i64 q), (1, .agg (secV d).toArray)] = some (cellW (q, d)).toArray := by
    unfold Instr.fill
    rw [show ([(0, 1), (1, 96)] : List (Nat × Nat))[0]? = some (0, 1) from rfl]
    dsimp only
    rw [show (Value.int .i64 q).cells = #[.int .i64 q] from rfl, if_neg (by rw [hz2]; simp), e1]
    unfold Instr.fill
    rw [show ([(0, 1), (1, 96)] : List (Nat × Nat))[1]? = some (1, 96) from rfl]
    dsimp only
    rw [show (Value.agg (secV d).toArray).cells = (secV d).toArray from rfl, if_neg (by rw [List.size_toArray, hl, List.size_toArray, hs1]; decide), e2]
    unfold Instr.fill
    rw [e3]
  have s1 := run_sizeOf int_size
  have s2 := run_sizeOf sector_size
  simp only [Instr.build, Sem.run_bind, hz1, Result.andThen_ok, run_underlying Try.underlying98]
  simp [s1, s2, f1]
theorem write_parts : ∃ i z, Try.prog.info? 98 = some i ∧ i.zero = some z ∧ i.size = 97 ∧ i.bytes = 104 ∧ z.cells.size = 97 := by
  have h : (Try.prog.info? 98).bind (fun i => i.zero.map fun z => (z.cells.size, i.size, i.bytes)) = some (97, 97, 104) := by kernel_rfl
  cases hi : Try.prog.info? 98 with
  | none => rw [hi] at h; cases h
  | some i =>
    rw [hi] at h
    cases hz : i.zero with
    | none => simp [hz] at h
    | some z =>
      simp only [Option.bind_some, hz, Option.map_some, Option.some.injEq, Prod.mk.injEq] at h
      exact ⟨i, z, rfl, hz, h.2.1, h.2.2, h.1⟩
theorem splice_at_zero {L cs : List Value} (h : cs.length = L.length) : splice L (0 * 97) cs = cs := by
  unfold splice; rw [Nat.zero_mul, List.take_zero, List.nil_append, Nat.zero_add, h, List.drop_length, List.append_nil]
theorem row_one (x : Wr) (hx : x.2.size = 96) (w : World) : (Instr.buildSlice 96 1 #[(0, .agg (cellW x).toArray)]).run Try.prog w = .ok (.slice (some ⟨w.heap.size, 0, none⟩) 1 1) (w.alloc (.cells (cellW x).toArray 98)) := by
  obtain ⟨i, z, hi, hz, hs, _, _⟩ := write_parts
  refine run_buildSlice w _ _ 1 _ _ i z Try.underlying96 hi hz (by rw [hs]; omega) (by rw [hs]; omega) ?_
  have hl := cellW_length hx
  have hC : ((Array.range (1 * i.size)).map (z.cells[· % z.cells.size]!)).size = 97 := by rw [Array.size_map, Array.size_range, hs]
  generalize (Array.range (1 * i.size)).map (z.cells[· % z.cells.size]!) = C at *
  show Instr.fill _ C [(0, .agg (cellW x).toArray)] = _
  unfold Instr.fill
  dsimp only
  rw [hs, show (Value.agg (cellW x).toArray).cells = (cellW x).toArray from rfl, if_neg (by rw [List.size_toArray, hl, hC]; decide)]
  unfold Instr.fill
  have e := fill_at (0 * 97) (cellW x) C (by rw [hl, hC]; decide)
  rw [e]
  rw [Option.some.injEq]
  refine congrArg List.toArray ?_
  have hCl : C.toList.length = 97 := (Array.length_toList ..).trans hC
  exact splice_at_zero (by rw [hl, hCl])
theorem fold_write (C : Array Value) (hC : C.size = 97) (q : Int) (d : ByteArray) (hd : d.size = 96) : List.foldl (fun cs (x : Value × Nat) => cs.setIfInBounds (1 + x.2) x.1) (C.setIfInBounds 0 (Value.int .i64 q)) (secV d).zipIdx = (cellW (q, d)).toArray := by
  obtain ⟨h1, h2⟩ := Go.Great.foldl_set 1 (secV d) 0 (C.setIfInBounds 0 (Value.int .i64 q))
  have hl : (secV d).length = 96 := (secV_length d).trans hd
  apply Array.ext'
  apply List.ext_getElem?
  intro k
  rw [Array.getElem?_toList, h2 k, Array.size_setIfInBounds, hC]
  show _ = (cellW (q, d))[k]?
  unfold cellW
  cases k with
  | zero => rw [if_neg (by omega)]; simp [hC]
  | succ k =>
    rw [List.getElem?_cons_succ]
    by_cases h : k < 96
    · rw [if_pos ⟨by omega, by omega, by omega⟩]; congr 1
    · rw [if_neg (by omega), Array.getElem?_eq_none (by rw [Array.size_setIfInBounds, hC]; omega), List.getElem?_eq_none (by rw [hl]; omega)]
end Go.Proofs.Ytkfpfbkdalbjoaa
