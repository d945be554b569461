/-
  A write made of a bit and a sector, and a row of one write: what the model's build and buildSlice make.
-/
import Derived.Test.YtkfpfbkdalbjoaaGreatDskL
import Derived.Great.FillDense
import Derived.Great.BuildSlice
import Derived.Test.YtkfpfbkdalbjoaaGreatDskMem
import Derived.Test.YtkfpfbkdalbjoaaGreatBase
import Derived.Deep.MidRow
namespace Go.Proofs.YtkfpfbkdalbjoaaGreat
open Go.RowKit Go.Joins

theorem fill_at (off : Nat) (vs : List Value) (C : Array Value) (h : off + vs.length ≤ C.size) : (vs.toArray.zipIdx.foldl (fun cs (x : Value × Nat) => cs.setIfInBounds (off + x.2) x.1) C) = (splice C.toList off vs).toArray := by
  have e : vs.toArray.zipIdx.foldl (fun cs (x : Value × Nat) => cs.setIfInBounds (off + x.2) x.1) C = (vs.zipIdx 0).foldl (fun cs (x : Value × Nat) => cs.setIfInBounds (off + x.2) x.1) C := by
    rw [← Array.foldl_toList]; simp
  rw [e]
  obtain ⟨h1, h2⟩ := Go.Great.foldl_set off vs 0 C
  apply Array.ext'
  apply List.ext_getElem?
  intro k
  rw [Array.getElem?_toList, h2 k]
  show _ = (splice C.toList off vs)[k]?
  have hC : C.toList.length = C.size := Array.length_toList ..
  rw [splice_get _ _ _ (by rw [hC]; exact h), Nat.add_zero]
  by_cases h3 : k < off
  · rw [if_neg (by omega), if_pos h3, Array.getElem?_toList]
  · rw [if_neg h3]
    by_cases h4 : k < off + vs.length
    · rw [if_pos ⟨by omega, h4, by omega⟩, if_pos h4]
    · rw [if_neg (by omega), if_neg h4, Array.getElem?_toList]
theorem int_size : (Tryz.prog.info? 3).map (·.size) = some 1 := by kernel_rfl
theorem run_sizeOf {P : Program} {t : TypeId} {n : Nat} (h : (P.info? t).map (·.size) = some n) (w : World) : (sizeOf t).run P w = .ok n w := by
  cases hi : P.info? t with
  | none => rw [hi] at h; cases h
  | some i => rw [hi] at h; have : i.size = n := by simpa using h
              simp [sizeOf, typeInfo, hi, this]
theorem build_write (q : Int) (d : ByteArray) (hd : d.size = 96) (w : World) : (Instr.build 151 #[(0, .int .i64 q), (1, .agg (secV d).toArray)]).run Tryz.prog w = .ok (.agg (cellW (q, d)).toArray) w := by
  obtain ⟨z, hz1, hz2, _⟩ := zero_write
  have hl : (secV d).length = 96 := (secV_length d).trans hd
  have hC : z.cells.toList.length = 97 := (Array.length_toList ..).trans hz2
  have e1 : (#[Value.int .i64 q].zipIdx.foldl (fun cs (x : Value × Nat) => cs.setIfInBounds (0 + x.2) x.1) z.cells) = (splice z.cells.toList 0 [Value.int .i64 q]).toArray := fill_at 0 [.int .i64 q] z.cells (by rw [hz2]; show 0 + 1 ≤ 97; decide)
  have hs1 : (splice z.cells.toList 0 [Value.int .i64 q]).length = 97 := by rw [length_splice _ _ _ (by rw [hC]; show 0 + 1 ≤ 97; decide), hC]
  have e2 := fill_at 1 (secV d) (splice z.cells.toList 0 [Value.int .i64 q]).toArray (by rw [List.size_toArray, hs1, hl]; decide)
  have e3 : splice (splice z.cells.toList 0 [Value.int .i64 q]) 1 (secV d) = cellW (q, d) := by
    cases hz : z.cells.toList with
    | nil => rw [hz] at hC; cases hC
    | cons a l =>
      rw [hz] at hC
      have hl2 : l.length = 96 := by simpa using hC
      unfold splice
      simp only [List.take_zero, List.nil_append, List.length_singleton, Nat.zero_add, List.drop_succ_cons, List.drop_zero, List.cons_append, List.take_succ_cons]
      rw [hl, show 1 + 96 = 96 + 1 from rfl, List.drop_succ_cons, List.drop_of_length_le (by omega), List.append_nil]
      rfl
  have f1 : Instr.fill (fun x => ([(0, 1), (1, 96)] : List (Nat × Nat))[x]?) z.cells [(0, .int .i64 q), (1, .agg (secV d).toArray)] = some (cellW (q, d)).toArray := by
    unfold Instr.fill
    rw [show ([(0, 1), (1, 96)] : List (Nat × Nat))[0]? = some (0, 1) from rfl]
    dsimp only
    rw [show (Value.int .i64 q).cells = #[.int .i64 q] from rfl, if_neg (by rw [hz2]; simp), e1]
    unfold Instr.fill
    rw [show ([(0, 1), (1, 96)] : List (Nat × Nat))[1]? = some (1, 96) from rfl]
    dsimp only
    rw [show (Value.agg (secV d).toArray).cells = (secV d).toArray from rfl, if_neg (by rw [List.size_toArray, hl, List.size_toArray, hs1]; decide), e2]
    unfold Instr.fill
    rw [e3]
  have s1 := run_sizeOf int_size
  have s2 := run_sizeOf sector_size
  simp only [Instr.build, Sem.run_bind, hz1, Result.andThen_ok, run_underlying Tryz.underlying151]
  simp [s1, s2, f1]
theorem write_parts : ∃ i z, Tryz.prog.info? 151 = some i ∧ i.zero = some z ∧ i.size = 97 ∧ i.bytes = 104 ∧ z.cells.size = 97 := by
  have h : (Tryz.prog.info? 151).bind (fun i => i.zero.map fun z => (z.cells.size, i.size, i.bytes)) = some (97, 97, 104) := by kernel_rfl
  cases hi : Tryz.prog.info? 151 with
  | none => rw [hi] at h; cases h
  | some i =>
    rw [hi] at h
    cases hz : i.zero with
    | none => simp [hz] at h
    | some z =>
      simp only [Option.bind_some, hz, Option.map_some, Option.some.injEq, Prod.mk.injEq] at h
      exact ⟨i, z, rfl, hz, h.2.1, h.2.2, h.1⟩
theorem splice_at_zero {L cs : List Value} (h : cs.length = L.length) : splice L (0 * 97) cs = cs := by
  unfold splice; rw [Nat.zero_mul, List.take_zero, List.nil_append, Nat.zero_add, h, List.drop_length, List.append_nil]
theorem row_one (x : Wr) (hx : x.2.size = 96) (w : World) : (Instr.buildSlice 152 1 #[(0, .agg (cellW x).toArray)]).run Tryz.prog w = .ok (.slice (some ⟨w.heap.size, 0, none⟩) 1 1) (w.alloc (.cells (cellW x).toArray 151)) := by
  obtain ⟨i, z, hi, hz, hs, _, _⟩ := write_parts
  refine run_buildSlice w _ _ 1 _ _ i z Tryz.underlying152 hi hz (by rw [hs]; omega) (by rw [hs]; omega) ?_
  have hl := cellW_length hx
  have hC : ((Array.range (1 * i.size)).map (z.cells[· % z.cells.size]!)).size = 97 := by rw [Array.size_map, Array.size_range, hs]
  generalize (Array.range (1 * i.size)).map (z.cells[· % z.cells.size]!) = C at *
  show Instr.fill _ C [(0, .agg (cellW x).toArray)] = _
  unfold Instr.fill
  dsimp only
  rw [hs, show (Value.agg (cellW x).toArray).cells = (cellW x).toArray from rfl, if_neg (by rw [List.size_toArray, hl, hC]; decide)]
  unfold Instr.fill
  have e := fill_at (0 * 97) (cellW x) C (by rw [hl, hC]; decide)
  rw [e]
  rw [Option.some.injEq]
  refine congrArg List.toArray ?_
  have hCl : C.toList.length = 97 := (Array.length_toList ..).trans hC
  exact splice_at_zero (by rw [hl, hCl])
theorem fold_write (C : Array Value) (hC : C.size = 97) (q : Int) (d : ByteArray) (hd : d.size = 96) : List.foldl (fun cs (x : Value × Nat) => cs.setIfInBounds (1 + x.2) x.1) (C.setIfInBounds 0 (Value.int .i64 q)) (secV d).zipIdx = (cellW (q, d)).toArray := by
  obtain ⟨h1, h2⟩ := Go.Great.foldl_set 1 (secV d) 0 (C.setIfInBounds 0 (Value.int .i64 q))
  have hl : (secV d).length = 96 := (secV_length d).trans hd
  apply Array.ext'
  apply List.ext_getElem?
  intro k
  rw [Array.getElem?_toList, h2 k, Array.size_setIfInBounds, hC]
  show _ = (cellW (q, d))[k]?
  unfold cellW
  cases k with
  | zero => rw [if_neg (by omega)]; simp [hC]
  | succ k =>
    rw [List.getElem?_cons_succ]
    by_cases h : k < 96
    · rw [if_pos ⟨by omega, by omega, by omega⟩]; congr 1
    · rw [if_neg (by omega), Array.getElem?_eq_none (by rw [Array.size_setIfInBounds, hC]; omega), List.getElem?_eq_none (by rw [hl]; omega)]
end Go.Proofs.YtkfpfbkdalbjoaaGreat

/-
  What slices.DeleteFunc makes of a row of writes (the walk).
-/
namespace Go.Proofs.YtkfpfbkdalbjoaaGreat
open Go.RowKit Go.Joins
attribute [local go_sem ↓] Go.wp_at_zero Go.wp_at_succ

set_option maxRecDepth 100000 in
set_option maxHeartbeats 2000000 in
theorem delF_some (pb : Nat) (q : Int) (g cap : Nat) (l : List Wr) (B : Nat) (w : World) (hq : w.cell? ⟨pb, 0, none⟩ = some (.int .i64 q)) (h : ownW w B (.slice (some ⟨g, 0, none⟩) l.length cap) l) (hpg : pb ≠ g) (hl : l.length ≤ 1000) (hB : B ≤ w.heap.size) :
    Calls Tryz.prog 80 #[.slice (some ⟨g, 0, none⟩) l.length cap, .func (.func 81) #[] #[.pointer (some ⟨pb, 0, none⟩)]] w fun e w' => e = .returned (.slice (some ⟨g, 0, none⟩) (offW q l).length cap) ∧ DelAt w w' B g (.slice (some ⟨g, 0, none⟩) (offW q l).length cap) (offW q l) := by
  have HI := hide (idxF_any pb q g cap l B w hq h hl)
  have H := hide h
  have HQ := hide hq
  have hpb : pb < w.heap.size := World.block_lt_of_cell? _ _ hq
  have hgl : g < w.heap.size := by
    rcases h.1.2 with ⟨e, _⟩ | ⟨g', cap', cur, e, _, hg, _⟩
    · cases e
    · cases e; exact (Array.getElem?_eq_some_iff.1 hg).1
  have hBg : B ≤ g := (World.ownsRow.lt h.1 g rfl).1
  have hcap : l.length ≤ cap ∧ cap ≤ 9223372036854775807 := by
    rcases h.1.2 with ⟨e, _⟩ | ⟨g', cap', cur, e, _, hg, h1, h2, _⟩
    · cases e
    · cases e; unfold maxLen at h2; exact ⟨h1, by omega⟩
  obtain ⟨hc1, hc2⟩ := hcap
  clear h hq
  cases hix : idxW q l with
  | none =>
    have HR := hide (offW_none hix)
    have hin : idxN q l = -1 := by unfold idxN; rw [hix]
    rw [hin] at HI
    rw [HR.out]
    clear hix hin
    go_enter Tryz.func80, Tryz.ntmps80
    go_wp2_with (go_at_call 87; refine HI.out.mono ?_; rintro e w1 ⟨rfl, hb1⟩)
    go_ret
    exact ⟨rfl, ⟨ownW_kept H.out fun k e => by cases e; exact hb1.block g hgl, hb1.mono hB, fun k _ hk => hb1.block k hk⟩⟩
  | some i0 =>
    obtain ⟨hi0, hh, ht⟩ := idxW_some hix
    have hin : idxN q l = (i0 : Int) := by unfold idxN; rw [hix]
    rw [hin] at HI
    have HT := hide ht
    have HHit := hide hh
    clear hix hin ht hh
    have hne : ((i0 : Int) == -1) = false := beq_eq_false_iff_ne.2 (by omega)
    go_enter Tryz.func80, Tryz.ntmps80
    go_wp2_with (go_at_call 87; refine HI.out.mono ?_; rintro e w1 ⟨rfl, hb1⟩)
    go_loopw [5, 6] (fun iv jv wr => ∃ (j : Nat) (L : List Wr), j ≤ l.length ∧ (offW q (l.take j)).length < j ∧ iv = .int .i64 ((offW q (l.take j)).length : Int) ∧ jv = .int .i64 (j : Int) ∧ L.length = l.length ∧ L.take (offW q (l.take j)).length = offW q (l.take j) ∧ (∀ m, j ≤ m → L[m]? = l[m]?) ∧ DelAt w wr B g (.slice (some ⟨g, 0, none⟩) l.length cap) L) (fun _ jv _ => l.length - (intOf jv).toNat)
    case atStart =>
      have e1 : offW q (l.take (i0 + 1)) = l.take i0 := by rw [offW_take hi0, HHit.out, HT.out]; simp
      refine ⟨i0 + 1, l, by omega, by rw [e1, List.length_take]; omega, ?_, by go_num, rfl, ?_, fun _ _ => rfl, ⟨ownW_kept H.out fun k e => by cases e; exact hb1.block g hgl, hb1.mono hB, fun k _ hk => hb1.block k hk⟩⟩
      · rw [e1, List.length_take, Nat.min_eq_left (by omega)]
      · rw [e1, List.length_take, Nat.min_eq_left (by omega)]
    case round =>
      obtain ⟨j, L, hj, hij, rfl, rfl, hLl, hLt, hLd, hD⟩ := hrel
      have HD := hide hD
      have HLT := hide hLt
      have HLD := hide hLd
      have HLL := hide hLl
      clear hD hLt hLd hLl
      by_cases hlt : j < l.length
      · have hlt' : (j : Int) < (l.length : Int) := by omega
        have hown : ownW wr B (.slice (some ⟨g, 0, none⟩) L.length cap) L := by rw [HLL.out]; exact HD.out.own
        have hjL : j < L.length := by rw [HLL.out]; exact hlt
        have hx : L[j] = l[j] := by
          have := HLD.out j (Nat.le_refl _)
          rw [List.getElem?_eq_getElem hjL, List.getElem?_eq_getElem hlt] at this
          exact Option.some.inj this
        have hra := ownW_range hown hjL
        rw [hx] at hra
        have HRA := hide hra
        have hsx : l[j].2.size = 96 := by rw [← hx]; exact hown.2 _ (List.getElem_mem hjL)
        have HSX := hide hsx
        have HOT := hide (offW_take (q := q) hlt)
        generalize hxe : l[j] = x at *
        have HXE := hide hxe
        have HOWN := hide hown
        have HLX := hide hx
        clear hxe hown hx hra hsx
        generalize hie : (offW q (List.take j l)).length = i at *
        have HIE := hide hie
        clear hie
        have hcl : (cellW x).length = 97 := cellW_length HSX.out
        have hz : (Tryz.zeroCells151).size = 97 := by kernel_rfl
        have hst := store_new (P := Tryz.prog) wr Tryz.zeroCells151 151 (cellW x) (by rw [hcl, hz]) (cellW_one x)
        clear hz
        have HNL : Hid ((wr.alloc (.cells (cellW x).toArray 151)).rangeAt wr.heap.size 0 (cellW x)) := rangeAt_block (Go.heap_alloc_new wr _) (fun j _ => by rw [Nat.zero_add])
        have hsz : w.heap.size ≤ wr.heap.size := HD.out.bel.size
        have hqx : (wr.alloc (.cells (cellW x).toArray 151)).cell? ⟨pb, 0, none⟩ = some (.int .i64 q) := by
          rw [World.cell?_alloc_lt _ _ _ (show pb < wr.heap.size by omega), World.cell?_of_block (HD.out.far pb hpg hpb)]
          exact HQ.out
        have HH := fun (W : World) hW => hide (hit_any pb q x W hW)
        have HQX := hide hqx
        clear hqx
        have hlw : ∀ w2 : World, Below (wr.alloc (.cells (cellW x).toArray 151)).heap.size (wr.alloc (.cells (cellW x).toArray 151)) w2 → w2.rangeAt wr.heap.size 0 (cellW x) := fun w2 hb => rangeAt_on hb HNL.out
        have HLW := hide hlw
        have HDX : Hid (∀ w2 : World, Below (wr.alloc (.cells (cellW x).toArray 151)).heap.size (wr.alloc (.cells (cellW x).toArray 151)) w2 → DelAt w w2 B g (.slice (some ⟨g, 0, none⟩) l.length cap) L) := fun w2 hb => by
          have hb' := below_on (below_alloc1 wr (.cells (cellW x).toArray 151)) (Nat.le_refl _) hb
          exact ⟨ownW_kept HD.out.own fun k e => by cases e; exact hb'.block g (by omega), HD.out.bel.trans (hb'.mono (by omega)), fun k h1 h2 => (hb'.block k (by omega)).trans (HD.out.far k h1 h2)⟩
        clear hlw
        cases hbq : (x.1 == q) with
        | true =>
          go_wp2_with (first
            | (refine wpList_load_mid (by rfl) 151 _ (by rfl) g (j * 97) (by rfl) (cellW x) _ HRA.out Tryz.underlying151 (by rfl) (by rw [cellW_length HSX.out]; exact write_size) ?_)
            | (refine wpList_load_mid (by rfl) 151 _ (by rfl) wr.heap.size 0 (by rfl) (cellW x) _ HNL.out Tryz.underlying151 (by rfl) (by rw [cellW_length HSX.out]; exact write_size) ?_)
            | (go_at_call 81; refine (HH _ HQX.out).out.mono ?_; rintro e w2 ⟨rfl, hb2⟩)
            | fail)
          have e1 : offW q (l.take (j + 1)) = offW q (l.take j) := by rw [HOT.out, hbq]; simp
          refine ⟨⟨j + 1, L, by omega, by rw [e1, HIE.out]; omega, by rw [e1, HIE.out], by go_num, HLL.out, by rw [e1, HIE.out]; exact HLT.out, fun m hm => HLD.out m (by omega), HDX.out _ hb2⟩, by simp [intOf]; omega⟩
        | false =>
          have hib : (i : Int) < (l.length : Int) := by omega
          go_wp2_with (first
            | (refine wpList_load_mid (by rfl) 151 _ (by rfl) g (j * 97) (by rfl) (cellW x) _ HRA.out Tryz.underlying151 (by rfl) (by rw [cellW_length HSX.out]; exact write_size) ?_)
            | (refine wpList_load_mid (by rfl) 151 _ (by rfl) wr.heap.size 0 (by rfl) (cellW x) _ HNL.out Tryz.underlying151 (by rfl) (by rw [cellW_length HSX.out]; exact write_size) ?_)
            | (refine wpList_load_mid (by rfl) 151 _ (by rfl) wr.heap.size 0 (by rfl) (cellW x) _ (HLW.out _ hb2) Tryz.underlying151 (by rfl) (by rw [cellW_length HSX.out]; exact write_size) ?_)
            | (go_at_call 81; refine (HH _ HQX.out).out.mono ?_; rintro e w2 ⟨rfl, hb2⟩)
            | (refine wpList_store_mid (by rfl) 151 _ _ (by rfl) g (i * 97) (cellW x).toArray (by rfl) (by rfl) (by rw [List.size_toArray, cellW_length HSX.out]; exact (ownW_there (by rw [HLL.out]; exact (HDX.out _ hb2).own) (by rw [HLL.out]; omega))) (by rw [List.size_toArray, cellW_length HSX.out]; exact write_size) (all_oneCell_toArray (cellW_one x)) ?_)
            | fail)
          have e1 : offW q (l.take (j + 1)) = offW q (l.take j) ++ [x] := by rw [HOT.out, hbq]; rfl
          have e2 : (offW q (l.take (j + 1))).length = i + 1 := by rw [e1, List.length_append, HIE.out]; rfl
          have hD2 := HDX.out _ hb2
          have hiL : i < L.length := by rw [HLL.out]; omega
          refine ⟨⟨j + 1, L.set i x, by omega, by rw [e2]; omega, by rw [e2]; go_num, by go_num, by rw [List.length_set]; exact HLL.out, ?_, fun m hm => ?_, ⟨?_, below_setCells hBg _ _ _ hD2.bel, fun k h1 h2 => (heap_setCells_other g _ _ _ h1).trans (hD2.far k h1 h2)⟩⟩, by simp [intOf]; omega⟩
          · rw [e2, e1, List.take_set, List.take_succ_eq_append_getElem hiL, HLT.out, List.set_append_right _ _ (by rw [HIE.out]; exact Nat.le_refl _), HIE.out, Nat.sub_self]; rfl
          · rw [List.getElem?_set_ne (by omega)]; exact HLD.out m (by omega)
          · have := ownW_set (by rw [HLL.out]; exact hD2.own) i hiL x HSX.out
            rw [HLL.out] at this
            exact this
      · have ej : j = l.length := by omega
        subst ej
        have hlt' : ¬ (l.length : Int) < (l.length : Int) := by omega
        rw [List.take_length] at *
        have hown : ownW wr B (.slice (some ⟨g, 0, none⟩) L.length cap) L := by rw [HLL.out]; exact HD.out.own
        have hR := ownW_cut hown HLT.out
        obtain ⟨cur, hcur, hcl⟩ := ownW_block hown
        obtain ⟨z, hz1, hz2, hz3⟩ := zero_write
        have hrun := fun ty => run_clear_any (P := Tryz.prog) wr 152 151 ty z Tryz.underlying152 hz1 hz3 g ((offW q l).length * 97) (l.length - (offW q l).length) (cap - (offW q l).length) cur _ hcur (by rw [hz2, hcl, ← Nat.add_mul]; exact Nat.mul_le_mul_right _ (by omega))
        have HP := hide (ownW_past hR (Builtin.zeroCells z.cells (l.length - (offW q l).length)).toList (by simp only [Builtin.zeroCells, Array.length_toList, Array.size_map, Array.size_range, hz2]; rw [← Nat.add_mul]; exact Nat.mul_le_mul_right _ (by omega)))
        generalize (Builtin.zeroCells z.cells (l.length - (offW q l).length)).toList = zs at *
        have HHR := hide hrun
        clear hrun hz1 hz2 hz3 hR hown hcur hcl
        generalize hRe : offW q l = R at *
        have HRE := hide hRe
        clear hRe
        have hr0 := HHR.out 0
        go_wp2
        go_ret
        rw [HRE.out]
        exact ⟨rfl, ⟨HP.out, below_setCells hBg _ _ _ HD.out.bel, fun k h1 h2 => (heap_setCells_other g _ _ _ h1).trans (HD.out.far k h1 h2)⟩⟩
set_option maxRecDepth 100000 in
set_option maxHeartbeats 400000 in
theorem delF_nil (pb : Nat) (w : World) :
    Calls Tryz.prog 80 #[.slice none 0 0, .func (.func 81) #[] #[.pointer (some ⟨pb, 0, none⟩)]] w fun e w' => e = .returned (.slice none 0 0) ∧ w' = w := by
  have HI : Calls Tryz.prog 87 #[.slice none 0 0, .func (.func 81) #[] #[.pointer (some ⟨pb, 0, none⟩)]] w fun e w' => e = .returned (.int .i64 (-1)) ∧ w' = w := by
    go_enter Tryz.func87, Tryz.ntmps87
    go_wp2
    refine wp_loop_rounds 1 ?_
    rw [rounds_succ]
    go_wp2
    go_ret
    exact ⟨rfl, rfl⟩
  go_enter Tryz.func80, Tryz.ntmps80
  go_wp2_with (go_at_call 87; refine HI.mono ?_; rintro e w1 ⟨rfl, rfl⟩)
  go_ret
  exact ⟨rfl, rfl⟩
/-- what is left of a row of writes, whatever it was -/
structure DelV (w w' : World) (B : Nat) (v v' : Value) (l : List Wr) : Prop where
  own : ownW w' B v' l
  bel : Below B w w'
  far : ∀ k, v.ownBlock ≠ some k → k < w.heap.size → w'.heap[k]? = w.heap[k]?
  same : v'.ownBlock = v.ownBlock
theorem del_any (pb : Nat) (q : Int) (v : Value) (l : List Wr) (B : Nat) (w : World) (hq : w.cell? ⟨pb, 0, none⟩ = some (.int .i64 q)) (h : ownW w B v l) (hpg : v.ownBlock ≠ some pb) (hl : l.length ≤ 1000) (hB : B ≤ w.heap.size) :
    Calls Tryz.prog 80 #[v, .func (.func 81) #[] #[.pointer (some ⟨pb, 0, none⟩)]] w fun e w' => ∃ ao n cap, e = .returned (.slice ao n cap) ∧ DelV w w' B v (.slice ao n cap) (offW q l) := by
  rcases h.1.2 with ⟨e, e2⟩ | ⟨g, cap, cur, e, _⟩
  · subst e
    have hl0 : l = [] := List.eq_nil_of_length_eq_zero e2
    subst hl0
    exact (delF_nil pb w).mono fun e w' ⟨he, hw⟩ => ⟨none, 0, 0, he, by subst hw; exact ⟨h, Below.refl _ _, fun _ _ _ => rfl, rfl⟩⟩
  · subst e
    exact (delF_some pb q g cap l B w hq h (fun e => hpg (by rw [e]; rfl)) hl hB).mono fun e w' ⟨he, hD⟩ => ⟨_, _, _, he, ⟨hD.own, hD.bel, fun k hk hlt => hD.far k (fun e => hk (by rw [e]; rfl)) hlt, rfl⟩⟩
end Go.Proofs.YtkfpfbkdalbjoaaGreat

/-
  A load or a store of many cells at a step of a region that draws its order, by the equation of its run.
-/
namespace Go.Proofs.YtkfpfbkdalbjoaaGreat
open Go.RowKit Go.Joins
section
variable {P : Program} {w w' : World} {ops : Array Oper} {o : Oper} {a : Act} {K : Act → World → Prop} {Q : Exit → Act → World → Prop} {E : Prop}
theorem wp_load_run (ty : TypeId) (x : Operand) (ho : o.op = .load ty x) (p v : Value) (hx : a.eval x = p) (hrun : (Instr.loadAt ty p).run P w = .ok v w) (h : K (a.put o.dst v) w) : o.wp P a w K Q := by
  unfold Oper.wp execOp
  simp only [ho, hx, Sem.run_bind, hrun, Result.andThen_ok]
  exact h
theorem wp_store_run (ty : TypeId) (x y : Operand) (ho : o.op = .store ty x y) (p v : Value) (hx : a.eval x = p) (hy : a.eval y = v) (hrun : (Instr.storeAt ty p v).run P w = .ok () w') (h : K (a.put o.dst undef) w') : o.wp P a w K Q := by
  unfold Oper.wp execOp
  simp only [ho, hx, hy, Sem.run_bind, hrun, Result.andThen_ok]
  exact h
theorem step_load_run (hgd : o.guard = none) (ty : TypeId) (x : Operand) (ho : o.op = .load ty x) (p v : Value) (hx : a.eval x = p) (hrun : (Instr.loadAt ty p).run P w = .ok v w) (h : K (a.put o.dst v) w) :
    if Region.wanted o (yielded ops a.tmps) = true then Oper.wp P o a w K Q else E := by
  have hw : Region.wanted o (yielded ops a.tmps) = true := by simp [Region.wanted, hgd]
  rw [if_pos hw]
  exact wp_load_run ty x ho p v hx hrun h
theorem step_store_run (hgd : o.guard = none) (ty : TypeId) (x y : Operand) (ho : o.op = .store ty x y) (p v : Value) (hx : a.eval x = p) (hy : a.eval y = v) (hrun : (Instr.storeAt ty p v).run P w = .ok () w') (h : K (a.put o.dst undef) w') :
    if Region.wanted o (yielded ops a.tmps) = true then Oper.wp P o a w K Q else E := by
  have hw : Region.wanted o (yielded ops a.tmps) = true := by simp [Region.wanted, hgd]
  rw [if_pos hw]
  exact wp_store_run ty x y ho p v hx hy hrun h
theorem step_buildSlice_run (hgd : o.guard = none) (t : TypeId) (n : Nat) (ps : Array (Nat × Operand)) (ho : o.op = .buildSlice t n ps) (qs : Array (Nat × Value)) (hq : (ps.map fun x => (x.1, a.eval x.2)) = qs) (v : Value) (hrun : (Instr.buildSlice t n qs).run P w = .ok v w') (h : K (a.put o.dst v) w') :
    if Region.wanted o (yielded ops a.tmps) = true then Oper.wp P o a w K Q else E := by
  have hw : Region.wanted o (yielded ops a.tmps) = true := by simp [Region.wanted, hgd]
  rw [if_pos hw]
  unfold Oper.wp execOp
  simp only [ho, hq, Sem.run_bind, hrun, Result.andThen_ok]
  exact h
end
end Go.Proofs.YtkfpfbkdalbjoaaGreat
