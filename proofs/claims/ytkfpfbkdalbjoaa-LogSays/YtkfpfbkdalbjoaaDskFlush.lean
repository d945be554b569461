/-
  What Disk.settle and Disk.Flush leave of a disk.
-/
import Derived.Test.YtkfpfbkdalbjoaaDskL
namespace Go.Proofs.Ytkfpfbkdalbjoaa
open Go.RowKit Go.Joins
attribute [local go_sem ↓] Go.wp_at_zero Go.wp_at_succ

section
variable {B db : Nat} {S : Nat → Prop} {s : DSt}
theorem zero_rows : ∀ w, (zeroValue 96).run Try.prog w = .ok (.slice none 0 0) w := by
  have h : (Try.prog.info? 96).bind (fun i => i.zero) = some (.slice none 0 0) := by kernel_rfl
  intro w
  cases hi : Try.prog.info? 96 with
  | none => rw [hi] at h; cases h
  | some i =>
    rw [hi] at h
    have hz : i.zero = some (.slice none 0 0) := h
    simp [zeroValue, typeInfo, hi, hz]
theorem nils_cells (n : Nat) : (Builtin.zeroCells (Value.slice none 0 0).cells n).toList = List.replicate n (.slice none 0 0) := by
  have e : (Value.slice none 0 0).cells = #[.slice none 0 0] := rfl
  rw [e]
  simp only [Builtin.zeroCells, Array.toList_map]
  apply List.ext_getElem
  · simp
  · intro i h1 h2
    simp [Nat.mod_one]
theorem splice_all {α : Type} (L cs : List α) (h : cs.length = L.length) : splice L 0 cs = cs := by
  unfold splice; rw [List.take_zero, List.nil_append, Nat.zero_add, h, List.drop_length, List.append_nil]
/-- nothing is left that isn't kept -/
theorem DK.settled {w : World} {nb kb lb n : Nat} {lv : List Value} {loose : List (List Wr)} {L next : Int} (h1 : DHd w db nb kb lb n next L s.down) (h2 : DBy w B db nb kb lb n lv s.now s.kept loose) (hS : S = inD db nb kb lb lv) (h6 : s.down = false → leftOk L s.left) (h7 : B ≤ w.heap.size) :
    ActD w ((w.setCells lb 0 (List.replicate n (.slice none 0 0))).setCell ⟨db, 3, none⟩ (.int .i64 0)) B db S { s with wait := [] } := by
  have hlb := h2.lo.2.2.2
  have hap := h2.ap
  have hlt : db < w.heap.size := h1.lt
  have k1 : ∀ k, k ≠ lb → (w.setCells lb 0 (List.replicate n (.slice none 0 0))).heap[k]? = w.heap[k]? := fun k hk => heap_setCells_other lb _ _ _ hk
  have hl1 : (w.setCells lb 0 (List.replicate n (.slice none 0 0))).heap[lb]? = some (.cells (List.replicate n (.slice none 0 0)).toArray 96 (0, 0)) := by
    rw [heap_setCells lb _ (0, 0) _ 0 w lv h2.hl (by rw [List.length_replicate, h2.nl]; omega), splice_all _ _ (by rw [List.length_replicate, h2.nl])]
  have hd1 : DHd (w.setCells lb 0 (List.replicate n (.slice none 0 0))) db nb kb lb n next L s.down := h1.kept (k1 db hap.2.2.1)
  have hb1 : DBy (w.setCells lb 0 (List.replicate n (.slice none 0 0))) B db nb kb lb n (List.replicate n (.slice none 0 0)) s.now s.kept (List.replicate n []) :=
    { hn := (k1 nb hap.2.2.2.2.1).trans h2.hn
      hk := (k1 kb hap.2.2.2.2.2).trans h2.hk
      hl := hl1
      nn := h2.nn, nk := h2.nk, nl := by simp, no := by simp, sn := h2.sn, sk := h2.sk
      own := fun i _ _ => by rw [List.getElem_replicate, List.getElem_replicate]; exact ⟨⟨rfl, .inl ⟨rfl, rfl⟩⟩, fun x hx => (List.not_mem_nil hx).elim⟩
      dis := fun i j _ _ k e => by rw [List.getElem_replicate] at e; cases e
      apo := fun i _ k e => by rw [List.getElem_replicate] at e; cases e
      ap := h2.ap, lo := h2.lo, n1 := h2.n1 }
  refine ⟨inD db nb kb lb (List.replicate n (.slice none 0 0)), ⟨nb, kb, lb, n, _, _, L, hd1.next' 0, hb1.head _ _, rfl, LooseOk.none n, fun x hx => (List.not_mem_nil hx).elim, h6, ?_⟩, ⟨(below_setCells hlb _ _ _ (Below.refl _ _)).setCell (p := ⟨db, 3, none⟩) h2.lo.1 _, fun k hk hn => ⟨?_, ?_⟩⟩⟩
  · have := (below_setCells (B := B) (a := w) hlb (List.replicate n (.slice none 0 0)) 0 w (Below.refl _ _)).size
    simp; omega
  · rw [hS] at hn
    rw [Below.heap_setCell _ _ _ _ (fun e => hn (.inl e))]
    exact k1 k fun e => hn (.inr (.inr (.inr (.inl e))))
  · rw [hS] at hn
    rintro (e | e | e | e | ⟨i, hi, e⟩)
    · exact hn (.inl e)
    · exact hn (.inr (.inl e))
    · exact hn (.inr (.inr (.inl e)))
    · exact hn (.inr (.inr (.inr (.inl e))))
    · rw [List.getElem_replicate] at e; cases e
set_option maxRecDepth 8000 in
set_option maxHeartbeats 1000000 in
theorem dsettle_any (w : World) (h : DK w B db S s) : Calls Try.prog 49 #[.pointer (some ⟨db, 0, none⟩)] w fun e w' => e = .returned (.tuple #[]) ∧ ActD w w' B db S { s with wait := [] } := by
  obtain ⟨nb, kb, lb, n, lv, loose, L, h1, h2, hS, h4, h5, h6, h7⟩ := h
  have HE := hide (DK.settled h1 h2 hS h6 h7)
  have hcl := run_clear_any (P := Try.prog) w 84 96 0 (.slice none 0 0) Try.underlying84 zero_rows (fun v hv => by have e : (Value.slice none 0 0).cells = #[.slice none 0 0] := rfl; rw [e] at hv; simp at hv; rw [hv]; rfl) lb 0 n n lv _ h2.hl (by show 0 + n * 1 ≤ _; rw [h2.nl]; omega)
  rw [nils_cells] at hcl
  have c2 := h1.c2
  have k1 : (w.setCells lb 0 (List.replicate n (.slice none 0 0))).heap[db]? = w.heap[db]? := heap_setCells_other lb _ _ _ h2.ap.2.2.1
  have c3 := (World.cell?_of_block (a := ⟨db, 3, none⟩) k1).trans h1.c3
  have f3 := (World.frozen?_of_block (a := ⟨db, 3, none⟩) k1).trans (h1.soft 3)
  have hn := h2.n1
  have hn1 : n ≠ 0 := by omega
  clear h1 h2 h4 h5 h6 hS k1
  generalize List.replicate n (Value.slice none 0 0) = zs at *
  go_enter Try.func49, Try.ntmps49
  go_wp2
  go_end0
  exact ⟨rfl, HE.out⟩
/-- all is kept as it is now -/
theorem DK.keep {w : World} {nb kb lb n : Nat} {lv : List Value} {loose : List (List Wr)} {L next : Int} (h1 : DHd w db nb kb lb n next L s.down) (h2 : DBy w B db nb kb lb n lv s.now s.kept loose) (l : List ByteArray) (hl : l.length = n) (hs : ∀ x ∈ l, x.size = 96) :
    DHd (w.setCells kb 0 (l.flatMap secV)) db nb kb lb n next L s.down ∧ DBy (w.setCells kb 0 (l.flatMap secV)) B db nb kb lb n lv s.now l loose ∧ StepV w (w.setCells kb 0 (l.flatMap secV)) B (inD db nb kb lb lv) (inD db nb kb lb lv) := by
  have hap := h2.ap
  have hfl : (l.flatMap secV).length = n * 96 := by rw [dflat_length (z := 96) fun x hx => (secV_length x).trans (hs x hx), hl]
  have hkl : (s.kept.flatMap secV).length = n * 96 := by rw [dflat_length (z := 96) fun x hx => (secV_length x).trans (h2.sk x hx), h2.nk]
  have k1 : ∀ k, k ≠ kb → (w.setCells kb 0 (l.flatMap secV)).heap[k]? = w.heap[k]? := fun k hk => heap_setCells_other kb _ _ _ hk
  refine ⟨h1.kept (k1 db hap.2.1), { h2 with hn := (k1 nb hap.2.2.2.1).trans h2.hn, hk := ?_, hl := (k1 lb hap.2.2.2.2.2.symm).trans h2.hl, nk := hl, sk := hs, own := fun i hi h' => ownW_kept (h2.own i hi h') fun k e => k1 k (h2.apo i hi k e).2.2.1 }, ⟨below_setCells h2.lo.2.2.1 _ _ _ (Below.refl _ _), fun k _ hn => ⟨k1 k fun e => hn (.inr (.inr (.inl e))), hn⟩⟩⟩
  rw [heap_setCells kb _ (0, 0) _ 0 w _ h2.hk (by rw [hfl, hkl]; omega), splice_all _ _ (by rw [hfl, hkl])]
set_option maxRecDepth 8000 in
set_option maxHeartbeats 1000000 in
theorem dflush_any (w : World) (h : DK w B db S s) : Calls Try.prog 18 #[.pointer (some ⟨db, 0, none⟩)] w fun e w' => e = .returned (errV (dstepF s)) ∧ ActD w w' B db S (flushD s) := by
  have HS := hide (dstep_any w h)
  unfold flushD
  have HN : Hid ((dstepD s).now = s.now) := by unfold dstepD; split; rfl; split <;> rfl
  clear h
  generalize dstepD s = s1 at *
  generalize dstepF s = f at *
  by_cases hf : f = 0
  · subst hf
    rw [if_pos rfl, errD_nil]
    rw [errD_nil] at HS
    go_enter Try.func18, Try.ntmps18
    go_wp2_with (go_at_call 46; refine HS.out.mono ?_; rintro e w1 ⟨rfl, ha⟩; obtain ⟨S1, hk1, hs1⟩ := ha)
    obtain ⟨nb, kb, lb, n, lv, loose, L, h1, h2, hS, h4, h5, h6, h7⟩ := hk1
    have hcp := run_copy_any (P := Try.prog) w1.drew 83 83 3 91 96 kb 0 n n n (.slice (some ⟨nb, 0, none⟩) n n) (s1.kept.flatMap secV) 91 (s1.now.flatMap secV) Try.underlying83 sector_size (show w1.drew.heap[kb]? = _ from h2.hk) rfl
      (by
        have hl := run_loadCells_list (P := Try.prog) w1.drew ⟨nb, 0, none⟩ (s1.now.flatMap secV) (fun j v hv => by
          rw [Go.Addr.add_mid, cell_of_row w1.drew nb (0 + j) _ _ _ (show w1.drew.heap[nb]? = _ from h2.hn), List.getElem?_toArray, Nat.zero_add]; exact hv)
        rw [dflat_length (z := 96) fun x hx => (secV_length x).trans (h2.sn x hx), h2.nn] at hl
        simp only [Builtin.firstCells, Nat.min_self]
        exact hl)
      (by rw [dflat_length (z := 96) fun x hx => (secV_length x).trans (h2.sn x hx), h2.nn, dflat_length (z := 96) fun x hx => (secV_length x).trans (h2.sk x hx), h2.nk]; omega)
      (fun v hv => by obtain ⟨x, _, hx⟩ := List.mem_flatMap.1 hv; exact secV_one x v hx)
    have c0 := h1.c0
    have c1 := h1.c1
    have hd0 := (show w1.drew.heap[kb]? = _ from h2.hk)
    have HK : Hid (ActD w1 (w1.drew.setCells kb 0 (s1.now.flatMap secV)) B db S1 { s1 with kept := s1.now }) := by
      obtain ⟨k1, k2, k3⟩ := DK.keep (h1.kept (w' := w1.drew) rfl) (h2.kept (w' := w1.drew) fun _ _ _ => rfl) s1.now h2.nn h2.sn
      refine ⟨S1, ⟨nb, kb, lb, n, lv, loose, L, k1, k2, hS, h4, h5, h6, ?_⟩, (StepV.on h7 (Below.refl _ w1).drew).trans (by rw [hS]; exact k3)⟩
      have := k3.bel.size
      simp at this
      omega
    have k9 : (w1.drew.setCells kb 0 (s1.now.flatMap secV)).heap[db]? = w1.heap[db]? := heap_setCells_other kb _ _ w1.drew h2.ap.2.1
    have HC : Hid ((w1.drew.setCells kb 0 (s1.now.flatMap secV)).cell? ⟨db, 0, none⟩ = some (.slice (some ⟨nb, 0, none⟩) n n) ∧ (w1.drew.setCells kb 0 (s1.now.flatMap secV)).cell? ⟨db, 1, none⟩ = some (.slice (some ⟨kb, 0, none⟩) n n)) := ⟨(World.cell?_of_block (a := ⟨db, 0, none⟩) k9).trans c0, (World.cell?_of_block (a := ⟨db, 1, none⟩) k9).trans c1⟩
    have hmn : Nat.min n n = n := Nat.min_self n
    clear hd0 k9 h1 h2 h4 h5 h6 hS
    generalize s1.now.flatMap secV = cs at *
    go_region_held3 (fun w' => w'.cell? ⟨db, 0, none⟩ = some (.slice (some ⟨nb, 0, none⟩) n n) ∧ w'.cell? ⟨db, 1, none⟩ = some (.slice (some ⟨kb, 0, none⟩) n n)) (first | go_keep | exact HC.out) (fail)
    obtain ⟨S2, hk2, hs2⟩ := HK.out
    have HT := hide (dsettle_any _ hk2)
    have HS2 := hide (hs1.trans hs2)
    clear hk2 hs2 HK HC hcp
    go_wp2_with (go_at_call 49; refine HT.out.mono ?_; rintro e w3 ⟨rfl, ha⟩)
    go_ret
    rw [← HN.out]
    exact ⟨rfl, ActD.after HS2.out ha⟩
  · have hf' := errD_pos hf
    rw [if_neg hf, hf']
    rw [hf'] at HS
    go_enter Try.func18, Try.ntmps18
    go_wp2_with (go_at_call 46; refine HS.out.mono ?_; rintro e w1 ⟨rfl, ha⟩)
    go_ret
    exact ⟨rfl, ha⟩
end
end Go.Proofs.Ytkfpfbkdalbjoaa
