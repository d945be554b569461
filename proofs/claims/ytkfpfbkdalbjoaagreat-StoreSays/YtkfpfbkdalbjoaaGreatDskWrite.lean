/-
  What Disk.Write leaves of a disk.
-/
import Derived.Test.YtkfpfbkdalbjoaaGreatDskNote
namespace Go.Proofs.YtkfpfbkdalbjoaaGreat
open Go.RowKit Go.Joins
attribute [local go_sem ↓] Go.wp_at_zero Go.wp_at_succ

theorem setRow_new (w : World) (C D : Array Value) (t : TypeId) : (w.alloc (.cells C t)).setRow w.heap.size D = w.alloc (.cells D t) := by
  unfold World.setRow World.alloc
  cases w with
  | mk heap tape drawn os output =>
    congr 1
    apply Array.ext
    · simp
    · intro k h1 h2
      simp only [Array.getElem_modify, Array.getElem_push]
      split
      · rename_i hk; subst hk; simp
      · rename_i hk
        have hlt : k < heap.size := by simp at h2; omega
        rw [dif_pos hlt, dif_pos hlt]
section
variable {B db : Nat} {S : Nat → Prop} {s : DSt}
theorem zero_sector : (Tryz.zeroCells118).toList = List.replicate 96 (.int .u8 0) := by kernel_rfl
theorem byte_size : (Tryz.prog.info? 5).map (·.size) = some 1 := by kernel_rfl
theorem secV_pad (d : ByteArray) : splice (List.replicate 96 (Value.int .u8 0)) 0 (secV d) = secV (dpadB d) := by
  have hl := secV_length d
  unfold splice
  rw [List.take_zero, List.nil_append, Nat.zero_add, hl, List.drop_replicate]
  unfold secV dpadB
  simp only [List.map_append, List.map_replicate]
  rfl
/-- a text is copied into a sector that was just made -/
theorem copy_sector (d : ByteArray) (hd : d.size ≤ 96) (w : World) : (Builtin.copy_ #[89, 9] 3 #[.slice (some ⟨w.heap.size, 0, none⟩) 96 96, .string d]).run Tryz.prog (w.alloc (.cells Tryz.zeroCells118 118)) = .ok (goInt d.size) (w.alloc (.cells (secV (dpadB d)).toArray 118)) := by
  have hz := zero_sector
  have hC : w.alloc (.cells Tryz.zeroCells118 118) = w.alloc (.cells (List.replicate 96 (Value.int .u8 0)).toArray 118) := by rw [← hz]
  rw [hC]
  have hg := Go.heap_alloc_new w (.cells (List.replicate 96 (Value.int .u8 0)).toArray 118)
  have hmin : Nat.min d.size 96 = d.size := Nat.min_eq_left hd
  have h := run_copy_any (P := Tryz.prog) (w.alloc (.cells (List.replicate 96 (Value.int .u8 0)).toArray 118)) 89 9 3 5 1 w.heap.size 0 96 96 d.size (.string d) (List.replicate 96 (Value.int .u8 0)) 118 (secV d) Tryz.underlying89 byte_size hg rfl
    (by
      rw [hmin]
      simp only [Builtin.firstCells]
      rw [Sem.run_pure]
      congr 1
      apply Array.ext'
      unfold secV
      simp)
    (by rw [secV_length, List.length_replicate]; omega) (secV_one d)
  rw [h, hmin, setCells_setRow w.heap.size _ (0, 0) _ 0 _ (List.replicate 96 (Value.int .u8 0)) hg (by rw [secV_length, List.length_replicate]; omega), secV_pad d, setRow_new]
theorem dstepD_now (s : DSt) : (dstepD s).now = s.now := by unfold dstepD; split; rfl; split <;> rfl
/-- a sector as it is read is laid anew -/
theorem DK.laid {w : World} (h : DK w B db S s) {a : Nat} (ha : a < s.now.length) {d : ByteArray} (hd : d.size = 96) : ∃ nb kb lb n lv loose L, DHd w db nb kb lb n ((s.wait.length % 64 : Nat) : Int) L s.down ∧ DBy w B db nb kb lb n lv s.now s.kept loose ∧ w.there nb (a * 96) 96 ∧ ActD w (w.setCells nb (a * 96) (secV d)) B db S { s with now := s.now.set a d } ∧ (w.setCells nb (a * 96) (secV d)).heap[db]? = w.heap[db]? ∧ (∀ k, k ≠ nb → (w.setCells nb (a * 96) (secV d)).heap[k]? = w.heap[k]?) ∧ S nb := by
  obtain ⟨nb, kb, lb, n, lv, loose, L, h1, h2, hS, h4, h5, h6, h7⟩ := h
  have hl : (secV d).length = 96 := (secV_length d).trans hd
  have hfl : (s.now.flatMap secV).length = s.now.length * 96 := dflat_length (z := 96) fun x hx => (secV_length x).trans (h2.sn x hx)
  have hap := h2.ap
  have k1 : ∀ k, k ≠ nb → (w.setCells nb (a * 96) (secV d)).heap[k]? = w.heap[k]? := fun k hk => heap_setCells_other nb _ _ _ hk
  have hb : a * 96 + (secV d).length ≤ (s.now.flatMap secV).length := by rw [hl, hfl]; omega
  have hbel : Below B w (w.setCells nb (a * 96) (secV d)) := below_setCells h2.lo.2.1 _ _ _ (Below.refl _ _)
  refine ⟨nb, kb, lb, n, lv, loose, L, h1, h2, there_of_block h2.hn (by rw [hfl]; omega), ⟨S, ⟨nb, kb, lb, n, lv, loose, L, h1.kept (k1 db hap.1), { h2 with hn := ?_, hk := (k1 kb hap.2.2.2.1.symm).trans h2.hk, hl := (k1 lb hap.2.2.2.2.1.symm).trans h2.hl, nn := by rw [List.length_set]; exact h2.nn, sn := fun x hx => (List.mem_or_eq_of_mem_set hx).elim (h2.sn x) (fun e => by rw [e]; exact hd), own := fun i hi h' => ownW_kept (h2.own i hi h') fun k e => k1 k (h2.apo i hi k e).2.1 }, hS, h4, h5, h6, Nat.le_trans h7 hbel.size⟩, ⟨hbel, fun k _ hn => ⟨k1 k fun e => hn (by rw [hS]; exact .inr (.inl e)), hn⟩⟩⟩, k1 db hap.1, k1, by rw [hS]; exact .inr (.inl rfl)⟩
  rw [heap_setCells nb _ (0, 0) _ _ w _ h2.hn hb, dflat_set (z := 96) (fun x hx => (secV_length x).trans (h2.sn x hx)) a ha d hl]
set_option maxRecDepth 8000 in
set_option maxHeartbeats 2000000 in
theorem dwrite_any (at_ : Int) (d : ByteArray) (w : World) (h : DK w B db S s) : Calls Tryz.prog 47 #[.pointer (some ⟨db, 0, none⟩), .int .i64 at_, .string d] w fun e w' => e = .returned (errV (dwriteF s at_ d)) ∧ ActD w w' B db S (dwriteD s at_ d) := by
  have HH := hide (dhas_any at_ w h)
  have HST := hide (dstep_any w h)
  have HW := hide h
  have hn := h.many
  have hls : (d.size : Int) ≤ 9223372036854775807 ∨ True := .inr trivial
  unfold dwriteF dwriteD
  by_cases hr : at_ < 0 ∨ (s.now.length : Int) ≤ at_ ∨ 96 < d.size
  · rw [if_pos hr, if_pos hr, errD_pos (show (1 : Nat) ≠ 0 by decide)]
    by_cases hq : at_ < 0 ∨ (s.now.length : Int) ≤ at_
    · have hb : hasD s at_ = false := by unfold hasD; simp; omega
      rw [hb] at HH
      clear HST hls
      go_enter Tryz.func47, Tryz.ntmps47
      go_wp2_with (go_at_call 53; refine HH.out.mono ?_; rintro e w1 ⟨rfl, rfl⟩)
      go_ret
      exact ⟨rfl, HW.out.stay (Below.refl _ _)⟩
    · have hb : hasD s at_ = true := by unfold hasD; simp; omega
      rw [hb] at HH
      have h96 : (96 : Int) < (d.size : Int) := by omega
      clear HST hls
      go_enter Tryz.func47, Tryz.ntmps47
      go_wp2_with (go_at_call 53; refine HH.out.mono ?_; rintro e w1 ⟨rfl, rfl⟩)
      go_ret
      exact ⟨rfl, HW.out.stay (Below.refl _ _)⟩
  · rw [if_neg hr, if_neg hr]
    have hb : hasD s at_ = true := by unfold hasD; simp; omega
    rw [hb] at HH
    have h96 : ¬ (96 : Int) < (d.size : Int) := by omega
    have hd96 : d.size ≤ 96 := by omega
    obtain ⟨a, rfl⟩ := Int.eq_ofNat_of_zero_le (show 0 ≤ at_ by omega)
    rw [Int.toNat_natCast]
    have ha : a < s.now.length := by omega
    have hNW := dstepD_now s
    have ha1 : a < (dstepD s).now.length := by rw [hNW]; exact ha
    have HNL := hide hNW
    clear hNW hls
    generalize dstepD s = s1 at *
    generalize dstepF s = f at *
    by_cases hf : f = 0
    · subst hf
      rw [if_pos rfl, errD_nil]
      rw [errD_nil] at HST
      have hps := dpadB_size hd96
      go_enter Tryz.func47, Tryz.ntmps47
      go_wp2_with (first
        | (go_at_call 53; refine HH.out.mono ?_; rintro e w1 ⟨rfl, rfl⟩)
        | (go_at_call 62; refine HST.out.mono ?_; rintro e w2 ⟨rfl, ha2⟩; obtain ⟨S2, hk2, hs2⟩ := ha2; have HK2 := hide hk2; have HS2 := hide hs2; have hcp := copy_sector d hd96 w2; clear hk2 hs2))
      have hk3 := HK2.out.on (below_alloc1 w2 (.cells (secV (dpadB d)).toArray 118)).drew
      have hs3 : StepV _ (w2.alloc (.cells (secV (dpadB d)).toArray 118)).drew B S S2 := HS2.out.trans (.on HK2.out.lo (below_alloc1 w2 (.cells (secV (dpadB d)).toArray 118)).drew)
      obtain ⟨nb, kb, lb, n, lv, loose, L, g1, g2, hth, hact, hdb, hoth, hSn⟩ := hk3.laid ha1 hps
      have hnb : nb < w2.heap.size := HK2.out.lt hSn
      have hra : (w2.alloc (.cells (secV (dpadB d)).toArray 118)).rangeAt w2.heap.size 0 (secV (dpadB d)) := rangeAt_block (Go.heap_alloc_new w2 _) (fun j _ => by rw [Nat.zero_add])
      have hrd := (World.rangeAt_drew _ _ _ _).2 hra
      have hr4 : ((w2.alloc (.cells (secV (dpadB d)).toArray 118)).drew.setCells nb (a * 96) (secV (dpadB d))).rangeAt w2.heap.size 0 (secV (dpadB d)) := World.rangeAt_setCells_apart hrd _ _ _ (.inl (by omega))
      have c0 := g1.c0
      have HC4 : Hid (((w2.alloc (.cells (secV (dpadB d)).toArray 118)).drew.setCells nb (a * 96) (secV (dpadB d))).cell? ⟨db, 0, none⟩ = some (.slice (some ⟨nb, 0, none⟩) n n)) := (World.cell?_of_block (a := ⟨db, 0, none⟩) hdb).trans c0
      have HT4 := hide (World.there_setCells hth nb (a * 96) (secV (dpadB d)))
      have HR4 := hide hr4
      have HA4 := hide hact
      have HS3 := hide hs3
      have hu := Tryz.underlying118
      have hcs : (secV (dpadB d)).length = 96 := (secV_length _).trans hps
      have hi : (Tryz.prog.info? 118).map (·.size) = some (secV (dpadB d)).length := by rw [hcs]; exact sector_size
      have h1c := secV_one (dpadB d)
      have hn2 : n = s1.now.length := g2.nn.symm
      have hla : (a : Int) < (n : Int) := by omega
      have hla0 : (0 : Int) ≤ (a : Int) := by omega
      have HPS := hide hps
      clear hcp hact hdb hoth hSn g1 g2 hr4 hk3 hs3 hra HK2 HS2 hn2
      go_region_held3 (fun w' => w'.cell? ⟨db, 0, none⟩ = some (.slice (some ⟨nb, 0, none⟩) n n) ∧ w'.rangeAt w2.heap.size 0 (secV (dpadB d)) ∧ w'.there nb (a * 96) 96) (first | exact ⟨HC4.out, HR4.out, HT4.out⟩ | exact ⟨c0, hrd, hth⟩) (fail)
      clear hrd hth c0 hi hu
      obtain ⟨S4, hk4, hs4⟩ := HA4.out
      have HS4 := hide (HS3.out.trans hs4)
      have HNT := hide (dnote_any a (dpadB d) _ hk4 (by rw [List.length_set]; exact ha1) HPS.out)
      clear hk4 hs4 HA4 HC4 HT4
      generalize (w2.alloc (.cells (secV (dpadB d)).toArray 118)).drew.setCells nb (a * 96) (secV (dpadB d)) = W4 at *
      go_wp2_with (first
        | (refine wpList_load_mid (by rfl) 118 _ (by rfl) w2.heap.size 0 (by rfl) (secV (dpadB d)) _ HR4.out Tryz.underlying118 (by rfl) (by rw [hcs]; exact sector_size) ?_)
        | (go_at_call 65; refine HNT.out.mono ?_; rintro e w5 ⟨rfl, ha5⟩))
      go_ret
      exact ⟨rfl, ActD.after HS4.out ha5⟩
    · have hf' := errD_pos hf
      rw [if_neg hf, hf']
      rw [hf'] at HST
      go_enter Tryz.func47, Tryz.ntmps47
      go_wp2_with (first
        | (go_at_call 53; refine HH.out.mono ?_; rintro e w1 ⟨rfl, rfl⟩)
        | (go_at_call 62; refine HST.out.mono ?_; rintro e w2 ⟨rfl, ha2⟩))
      go_ret
      exact ⟨rfl, ha2⟩
end
end Go.Proofs.YtkfpfbkdalbjoaaGreat
