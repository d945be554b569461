/-
  What slices.DeleteFunc makes of a row of writes (the walk).
-/
import Derived.Test.YtkfpfbkdalbjoaaDskDel2
namespace Go.Proofs.Ytkfpfbkdalbjoaa
open Go.RowKit Go.Joins
attribute [local go_sem ↓] Go.wp_at_zero Go.wp_at_succ

set_option maxRecDepth 100000 in
set_option maxHeartbeats 2000000 in
theorem delF_some (pb : Nat) (q : Int) (g cap : Nat) (l : List Wr) (B : Nat) (w : World) (hq : w.cell? ⟨pb, 0, none⟩ = some (.int .i64 q)) (h : ownW w B (.slice (some ⟨g, 0, none⟩) l.length cap) l) (hpg : pb ≠ g) (hl : l.length ≤ 1000) (hB : B ≤ w.heap.size) :
    Calls Try.prog 66 #[.slice (some ⟨g, 0, none⟩) l.length cap, .func (.func 67) #[] #[.pointer (some ⟨pb, 0, none⟩)]] w fun e w' => e = .returned (.slice (some ⟨g, 0, none⟩) (offW q l).length cap) ∧ DelAt w w' B g (.slice (some ⟨g, 0, none⟩) (offW q l).length cap) (offW q l) := by
  have HI := hide (idxF_any pb q g cap l B w hq h hl)
  have H := hide h
  have HQ := hide hq
  have hpb : pb < w.heap.size := World.block_lt_of_cell? _ _ hq
  have hgl : g < w.heap.size := by
    rcases h.1.2 with ⟨e, _⟩ | ⟨g', cap', cur, e, _, hg, _⟩
    · cases e
    · cases e; exact (Array.getElem?_eq_some_iff.1 hg).1
  have hBg : B ≤ g := (World.ownsRow.lt h.1 g rfl).1
  have hcap : l.length ≤ cap ∧ cap ≤ 9223372036854775807 := by
    rcases h.1.2 with ⟨e, _⟩ | ⟨g', cap', cur, e, _, hg, h1, h2, _⟩
    · cases e
    · cases e; unfold maxLen at h2; exact ⟨h1, by omega⟩
  obtain ⟨hc1, hc2⟩ := hcap
  clear h hq
  cases hix : idxW q l with
  | none =>
    have HR := hide (offW_none hix)
    have hin : idxN q l = -1 := by unfold idxN; rw [hix]
    rw [hin] at HI
    rw [HR.out]
    clear hix hin
    go_enter Try.func66, Try.ntmps66
    go_wp2_with (go_at_call 93; refine HI.out.mono ?_; rintro e w1 ⟨rfl, hb1⟩)
    go_ret
    exact ⟨rfl, ⟨ownW_kept H.out fun k e => by cases e; exact hb1.block g hgl, hb1.mono hB, fun k _ hk => hb1.block k hk⟩⟩
  | some i0 =>
    obtain ⟨hi0, hh, ht⟩ := idxW_some hix
    have hin : idxN q l = (i0 : Int) := by unfold idxN; rw [hix]
    rw [hin] at HI
    have HT := hide ht
    have HHit := hide hh
    clear hix hin ht hh
    have hne : ((i0 : Int) == -1) = false := beq_eq_false_iff_ne.2 (by omega)
    go_enter Try.func66, Try.ntmps66
    go_wp2_with (go_at_call 93; refine HI.out.mono ?_; rintro e w1 ⟨rfl, hb1⟩)
    go_loopw [5, 6] (fun iv jv wr => ∃ (j : Nat) (L : List Wr), j ≤ l.length ∧ (offW q (l.take j)).length < j ∧ iv = .int .i64 ((offW q (l.take j)).length : Int) ∧ jv = .int .i64 (j : Int) ∧ L.length = l.length ∧ L.take (offW q (l.take j)).length = offW q (l.take j) ∧ (∀ m, j ≤ m → L[m]? = l[m]?) ∧ DelAt w wr B g (.slice (some ⟨g, 0, none⟩) l.length cap) L) (fun _ jv _ => l.length - (intOf jv).toNat)
    case atStart =>
      have e1 : offW q (l.take (i0 + 1)) = l.take i0 := by rw [offW_take hi0, HHit.out, HT.out]; simp
      refine ⟨i0 + 1, l, by omega, by rw [e1, List.length_take]; omega, ?_, by go_num, rfl, ?_, fun _ _ => rfl, ⟨ownW_kept H.out fun k e => by cases e; exact hb1.block g hgl, hb1.mono hB, fun k _ hk => hb1.block k hk⟩⟩
      · rw [e1, List.length_take, Nat.min_eq_left (by omega)]
      · rw [e1, List.length_take, Nat.min_eq_left (by omega)]
    case round =>
      obtain ⟨j, L, hj, hij, rfl, rfl, hLl, hLt, hLd, hD⟩ := hrel
      have HD := hide hD
      have HLT := hide hLt
      have HLD := hide hLd
      have HLL := hide hLl
      clear hD hLt hLd hLl
      by_cases hlt : j < l.length
      · have hlt' : (j : Int) < (l.length : Int) := by omega
        have hown : ownW wr B (.slice (some ⟨g, 0, none⟩) L.length cap) L := by rw [HLL.out]; exact HD.out.own
        have hjL : j < L.length := by rw [HLL.out]; exact hlt
        have hx : L[j] = l[j] := by
          have := HLD.out j (Nat.le_refl _)
          rw [List.getElem?_eq_getElem hjL, List.getElem?_eq_getElem hlt] at this
          exact Option.some.inj this
        have hra := ownW_range hown hjL
        rw [hx] at hra
        have HRA := hide hra
        have hsx : l[j].2.size = 96 := by rw [← hx]; exact hown.2 _ (List.getElem_mem hjL)
        have HSX := hide hsx
        have HOT := hide (offW_take (q := q) hlt)
        generalize hxe : l[j] = x at *
        have HXE := hide hxe
        have HOWN := hide hown
        have HLX := hide hx
        clear hxe hown hx hra hsx
        generalize hie : (offW q (List.take j l)).length = i at *
        have HIE := hide hie
        clear hie
        have hcl : (cellW x).length = 97 := cellW_length HSX.out
        have hz : (Try.zeroCells98).size = 97 := by kernel_rfl
        have hst := store_new (P := Try.prog) wr Try.zeroCells98 98 (cellW x) (by rw [hcl, hz]) (cellW_one x)
        clear hz
        have HNL : Hid ((wr.alloc (.cells (cellW x).toArray 98)).rangeAt wr.heap.size 0 (cellW x)) := rangeAt_block (Go.heap_alloc_new wr _) (fun j _ => by rw [Nat.zero_add])
        have hsz : w.heap.size ≤ wr.heap.size := HD.out.bel.size
        have hqx : (wr.alloc (.cells (cellW x).toArray 98)).cell? ⟨pb, 0, none⟩ = some (.int .i64 q) := by
          rw [World.cell?_alloc_lt _ _ _ (show pb < wr.heap.size by omega), World.cell?_of_block (HD.out.far pb hpg hpb)]
          exact HQ.out
        have HH := fun (W : World) hW => hide (hit_any pb q x W hW)
        have HQX := hide hqx
        clear hqx
        have hlw : ∀ w2 : World, Below (wr.alloc (.cells (cellW x).toArray 98)).heap.size (wr.alloc (.cells (cellW x).toArray 98)) w2 → w2.rangeAt wr.heap.size 0 (cellW x) := fun w2 hb => rangeAt_on hb HNL.out
        have HLW := hide hlw
        have HDX : Hid (∀ w2 : World, Below (wr.alloc (.cells (cellW x).toArray 98)).heap.size (wr.alloc (.cells (cellW x).toArray 98)) w2 → DelAt w w2 B g (.slice (some ⟨g, 0, none⟩) l.length cap) L) := fun w2 hb => by
          have hb' := below_on (below_alloc1 wr (.cells (cellW x).toArray 98)) (Nat.le_refl _) hb
          exact ⟨ownW_kept HD.out.own fun k e => by cases e; exact hb'.block g (by omega), HD.out.bel.trans (hb'.mono (by omega)), fun k h1 h2 => (hb'.block k (by omega)).trans (HD.out.far k h1 h2)⟩
        clear hlw
        cases hbq : (x.1 == q) with
        | true =>
          go_wp2_with (first
            | (refine wpList_load_mid (by rfl) 98 _ (by rfl) g (j * 97) (by rfl) (cellW x) _ HRA.out Try.underlying98 (by rfl) (by rw [cellW_length HSX.out]; exact write_size) ?_)
            | (refine wpList_load_mid (by rfl) 98 _ (by rfl) wr.heap.size 0 (by rfl) (cellW x) _ HNL.out Try.underlying98 (by rfl) (by rw [cellW_length HSX.out]; exact write_size) ?_)
            | (go_at_call 67; refine (HH _ HQX.out).out.mono ?_; rintro e w2 ⟨rfl, hb2⟩)
            | fail)
          have e1 : offW q (l.take (j + 1)) = offW q (l.take j) := by rw [HOT.out, hbq]; simp
          refine ⟨⟨j + 1, L, by omega, by rw [e1, HIE.out]; omega, by rw [e1, HIE.out], by go_num, HLL.out, by rw [e1, HIE.out]; exact HLT.out, fun m hm => HLD.out m (by omega), HDX.out _ hb2⟩, by simp [intOf]; omega⟩
        | false =>
          have hib : (i : Int) < (l.length : Int) := by omega
          go_wp2_with (first
            | (refine wpList_load_mid (by rfl) 98 _ (by rfl) g (j * 97) (by rfl) (cellW x) _ HRA.out Try.underlying98 (by rfl) (by rw [cellW_length HSX.out]; exact write_size) ?_)
            | (refine wpList_load_mid (by rfl) 98 _ (by rfl) wr.heap.size 0 (by rfl) (cellW x) _ HNL.out Try.underlying98 (by rfl) (by rw [cellW_length HSX.out]; exact write_size) ?_)
            | (refine wpList_load_mid (by rfl) 98 _ (by rfl) wr.heap.size 0 (by rfl) (cellW x) _ (HLW.out _ hb2) Try.underlying98 (by rfl) (by rw [cellW_length HSX.out]; exact write_size) ?_)
            | (go_at_call 67; refine (HH _ HQX.out).out.mono ?_; rintro e w2 ⟨rfl, hb2⟩)
            | (refine wpList_store_mid (by rfl) 98 _ _ (by rfl) g (i * 97) (cellW x).toArray (by rfl) (by rfl) (by rw [List.size_toArray, cellW_length HSX.out]; exact (ownW_there (by rw [HLL.out]; exact (HDX.out _ hb2).own) (by rw [HLL.out]; omega))) (by rw [List.size_toArray, cellW_length HSX.out]; exact write_size) (all_oneCell_toArray (cellW_one x)) ?_)
            | fail)
          have e1 : offW q (l.take (j + 1)) = offW q (l.take j) ++ [x] := by rw [HOT.out, hbq]; rfl
          have e2 : (offW q (l.take (j + 1))).length = i + 1 := by rw [e1, List.length_append, HIE.out]; rfl
          have hD2 := HDX.out _ hb2
          have hiL : i < L.length := by rw [HLL.out]; omega
          refine ⟨⟨j + 1, L.set i x, by omega, by rw [e2]; omega, by rw [e2]; go_num, by go_num, by rw [List.length_set]; exact HLL.out, ?_, fun m hm => ?_, ⟨?_, below_setCells hBg _ _ _ hD2.bel, fun k h1 h2 => (heap_setCells_other g _ _ _ h1).trans (hD2.far k h1 h2)⟩⟩, by simp [intOf]; omega⟩
          · rw [e2, e1, List.take_set, List.take_succ_eq_append_getElem hiL, HLT.out, List.set_append_right _ _ (by rw [HIE.out]; exact Nat.le_refl _), HIE.out, Nat.sub_self]; rfl
          · rw [List.getElem?_set_ne (by omega)]; exact HLD.out m (by omega)
          · have := ownW_set (by rw [HLL.out]; exact hD2.own) i hiL x HSX.out
            rw [HLL.out] at this
            exact this
      · have ej : j = l.length := by omega
        subst ej
        have hlt' : ¬ (l.length : Int) < (l.length : Int) := by omega
        rw [List.take_length] at *
        have hown : ownW wr B (.slice (some ⟨g, 0, none⟩) L.length cap) L := by rw [HLL.out]; exact HD.out.own
        have hR := ownW_cut hown HLT.out
        obtain ⟨cur, hcur, hcl⟩ := ownW_block hown
        obtain ⟨z, hz1, hz2, hz3⟩ := zero_write
        have hrun := fun ty => run_clear_any (P := Try.prog) wr 96 98 ty z Try.underlying96 hz1 hz3 g ((offW q l).length * 97) (l.length - (offW q l).length) (cap - (offW q l).length) cur _ hcur (by rw [hz2, hcl, ← Nat.add_mul]; exact Nat.mul_le_mul_right _ (by omega))
        have HP := hide (ownW_past hR (Builtin.zeroCells z.cells (l.length - (offW q l).length)).toList (by simp only [Builtin.zeroCells, Array.length_toList, Array.size_map, Array.size_range, hz2]; rw [← Nat.add_mul]; exact Nat.mul_le_mul_right _ (by omega)))
        generalize (Builtin.zeroCells z.cells (l.length - (offW q l).length)).toList = zs at *
        have HHR := hide hrun
        clear hrun hz1 hz2 hz3 hR hown hcur hcl
        generalize hRe : offW q l = R at *
        have HRE := hide hRe
        clear hRe
        have hr0 := HHR.out 0
        go_wp2
        go_ret
        rw [HRE.out]
        exact ⟨rfl, ⟨HP.out, below_setCells hBg _ _ _ HD.out.bel, fun k h1 h2 => (heap_setCells_other g _ _ _ h1).trans (HD.out.far k h1 h2)⟩⟩
set_option maxRecDepth 100000 in
set_option maxHeartbeats 400000 in
theorem delF_nil (pb : Nat) (w : World) :
    Calls Try.prog 66 #[.slice none 0 0, .func (.func 67) #[] #[.pointer (some ⟨pb, 0, none⟩)]] w fun e w' => e = .returned (.slice none 0 0) ∧ w' = w := by
  have HI : Calls Try.prog 93 #[.slice none 0 0, .func (.func 67) #[] #[.pointer (some ⟨pb, 0, none⟩)]] w fun e w' => e = .returned (.int .i64 (-1)) ∧ w' = w := by
    go_enter Try.func93, Try.ntmps93
    go_wp2
    refine wp_loop_rounds 1 ?_
    rw [rounds_succ]
    go_wp2
    go_ret
    exact ⟨rfl, rfl⟩
  go_enter Try.func66, Try.ntmps66
  go_wp2_with (go_at_call 93; refine HI.mono ?_; rintro e w1 ⟨rfl, rfl⟩)
  go_ret
  exact ⟨rfl, rfl⟩
/-- what is left of a row of writes, whatever it was -/
structure DelV (w w' : World) (B : Nat) (v v' : Value) (l : List Wr) : Prop where
  own : ownW w' B v' l
  bel : Below B w w'
  far : ∀ k, v.ownBlock ≠ some k → k < w.heap.size → w'.heap[k]? = w.heap[k]?
  same : v'.ownBlock = v.ownBlock
theorem del_any (pb : Nat) (q : Int) (v : Value) (l : List Wr) (B : Nat) (w : World) (hq : w.cell? ⟨pb, 0, none⟩ = some (.int .i64 q)) (h : ownW w B v l) (hpg : v.ownBlock ≠ some pb) (hl : l.length ≤ 1000) (hB : B ≤ w.heap.size) :
    Calls Try.prog 66 #[v, .func (.func 67) #[] #[.pointer (some ⟨pb, 0, none⟩)]] w fun e w' => ∃ ao n cap, e = .returned (.slice ao n cap) ∧ DelV w w' B v (.slice ao n cap) (offW q l) := by
  rcases h.1.2 with ⟨e, e2⟩ | ⟨g, cap, cur, e, _⟩
  · subst e
    have hl0 : l = [] := List.eq_nil_of_length_eq_zero e2
    subst hl0
    exact (delF_nil pb w).mono fun e w' ⟨he, hw⟩ => ⟨none, 0, 0, he, by subst hw; exact ⟨h, Below.refl _ _, fun _ _ _ => rfl, rfl⟩⟩
  · subst e
    exact (delF_some pb q g cap l B w hq h (fun e => hpg (by rw [e]; rfl)) hl hB).mono fun e w' ⟨he, hD⟩ => ⟨_, _, _, he, ⟨hD.own, hD.bel, fun k hk hlt => hD.far k (fun e => hk (by rw [e]; rfl)) hlt, rfl⟩⟩
end Go.Proofs.Ytkfpfbkdalbjoaa
