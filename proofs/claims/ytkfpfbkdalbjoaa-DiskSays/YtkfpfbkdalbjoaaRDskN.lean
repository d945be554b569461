/-
  What the document's NewDisk returns.
-/
import Derived.Test.YtkfpfbkdalbjoaaRDskR2
import Derived.Deep.DeepCutAuto
namespace Go.Proofs.Ytkfpfbkdalbjoaa
open Go.RowKit Go.Joins
attribute [local go_sem ↓] Go.wp_at_zero Go.wp_at_succ

section
variable {w w5 : World} {B rb g cap5 : Nat} {s : DSt} {kv nv tv : Value} {F : Int} {d : ByteArray}
theorem RD.pushK (h1 : RD w B rb kv nv tv s F) (h7 : B ≤ w.heap.size) (ho : w5.ownsRow B 9 1 (.slice (some ⟨g, 0, none⟩) (s.kept.length + 1) cap5) (s.kept.length + 1) (s.kept.map strV ++ [.string d])) (hgrow : World.grownBy (w.alloc (.cells #[.string d] 9)) w5 kv.ownBlock) (hat : kv.ownBlock = some g ∨ g = w.heap.size + 1) :
    RD (w5.setCell ⟨rb, 0, none⟩ (.slice (some ⟨g, 0, none⟩) (s.kept.length + 1) cap5)) B rb (.slice (some ⟨g, 0, none⟩) (s.kept.length + 1) cap5) nv tv { s with kept := s.kept ++ [d] } F ∧ Below B w (w5.setCell ⟨rb, 0, none⟩ (.slice (some ⟨g, 0, none⟩) (s.kept.length + 1) cap5)) := by
  have hza : (w.alloc (.cells #[.string d] 9)).heap.size = w.heap.size + 1 := by simp
  have ltr : rb < w.heap.size := h1.lt (.inl rfl)
  have f5 : ∀ k, k < w.heap.size → kv.ownBlock ≠ some k → w5.heap[k]? = w.heap[k]? := fun k hk hn => by
    rw [hgrow.block k (by rw [hza]; omega) (Ne.symm hn), (below_alloc1 w _).block k hk]
  have hkr : kv.ownBlock ≠ some rb := fun e => (h1.ap.1 rb e).1 rfl
  have e5 := f5 rb ltr hkr
  have hgr : g ≠ rb := by
    rcases hat with e | e
    · exact fun e2 => hkr (e2 ▸ e)
    · omega
  have hgl : ∀ k, k < w.heap.size → kv.ownBlock ≠ some k → g ≠ k := fun k hk hn => by
    rcases hat with e | e
    · exact fun e2 => hn (e2 ▸ e)
    · omega
  have k6 : ∀ k, k ≠ rb → (w5.setCell ⟨rb, 0, none⟩ (.slice (some ⟨g, 0, none⟩) (s.kept.length + 1) cap5)).heap[k]? = w5.heap[k]? := fun k hk => Below.heap_setCell _ _ _ _ hk
  have c : ∀ j v, w.cell? ⟨rb, j, none⟩ = some v → w5.cell? ⟨rb, j, none⟩ = some v := fun j v hv => (World.cell?_of_block (a := ⟨rb, j, none⟩) e5).trans hv
  have nk : ∀ k, nv.ownBlock = some k → kv.ownBlock ≠ some k := fun k e e2 => (h1.ap.1 k e2).2.1 e
  have tk : ∀ k, tv.ownBlock = some k → kv.ownBlock ≠ some k := fun k e e2 => (h1.ap.1 k e2).2.2 e
  refine ⟨⟨World.cell?_setCell_same _ _ _ (c 0 _ h1.c0), (World.cell?_setCell_other _ _ _ _ (by simp)).trans (c 1 _ h1.c1), (World.cell?_setCell_other _ _ _ _ (by simp)).trans (c 2 _ h1.c2), (World.cell?_setCell_other _ _ _ _ (by simp)).trans (c 3 _ h1.c3), (World.cell?_setCell_other _ _ _ _ (by simp)).trans (c 4 _ h1.c4), fun j => by rw [World.frozen?_setCell, World.frozen?_of_block (a := ⟨rb, j, none⟩) e5]; exact h1.soft j, ?_, ?_, ?_, ⟨fun k e => ?_, h1.ap.2.1, h1.ap.2.2⟩, h1.lo, h1.fu, h1.fl⟩, ?_⟩
  · have : ownS w5 B (.slice (some ⟨g, 0, none⟩) (s.kept.length + 1) cap5) (s.kept ++ [d]) := by
      unfold ownS
      rw [List.length_append, List.map_append]
      exact ho
    exact ownS_kept this fun k e => by cases e; exact k6 g hgr
  · exact ownS_kept h1.on fun k e => (k6 k (h1.ap.2.1 k e).1).trans (f5 k (h1.lt (.inr (.inr (.inl e)))) (nk k e))
  · exact ownT_kept h1.ot fun k e => (k6 k (h1.ap.2.2 k e)).trans (f5 k (h1.lt (.inr (.inr (.inr e)))) (tk k e))
  · have e : g = k := by cases e; rfl
    subst e
    exact ⟨hgr, fun e => hgl g (h1.lt (.inr (.inr (.inl e)))) (nk g e) rfl, fun e => hgl g (h1.lt (.inr (.inr (.inr e)))) (tk g e) rfl⟩
  · exact (((below_alloc1 w (.cells #[.string d] 9)).mono h7).grown hgrow (by rw [hza]; omega) (fun k hk => (World.ownsRow.lt h1.ok k hk).1)).setCell (p := ⟨rb, 0, none⟩) h1.lo _
theorem RD.pushN (h1 : RD w B rb kv nv tv s F) (h7 : B ≤ w.heap.size) (ho : w5.ownsRow B 9 1 (.slice (some ⟨g, 0, none⟩) (s.now.length + 1) cap5) (s.now.length + 1) (s.now.map strV ++ [.string d])) (hgrow : World.grownBy (w.alloc (.cells #[.string d] 9)) w5 nv.ownBlock) (hat : nv.ownBlock = some g ∨ g = w.heap.size + 1) :
    RD (w5.setCell ⟨rb, 1, none⟩ (.slice (some ⟨g, 0, none⟩) (s.now.length + 1) cap5)) B rb kv (.slice (some ⟨g, 0, none⟩) (s.now.length + 1) cap5) tv { s with now := s.now ++ [d] } F ∧ Below B w (w5.setCell ⟨rb, 1, none⟩ (.slice (some ⟨g, 0, none⟩) (s.now.length + 1) cap5)) := by
  have hza : (w.alloc (.cells #[.string d] 9)).heap.size = w.heap.size + 1 := by simp
  have ltr : rb < w.heap.size := h1.lt (.inl rfl)
  have f5 : ∀ k, k < w.heap.size → nv.ownBlock ≠ some k → w5.heap[k]? = w.heap[k]? := fun k hk hn => by
    rw [hgrow.block k (by rw [hza]; omega) (Ne.symm hn), (below_alloc1 w _).block k hk]
  have hkr : nv.ownBlock ≠ some rb := fun e => (h1.ap.2.1 rb e).1 rfl
  have e5 := f5 rb ltr hkr
  have hgr : g ≠ rb := by
    rcases hat with e | e
    · exact fun e2 => hkr (e2 ▸ e)
    · omega
  have hgl : ∀ k, k < w.heap.size → nv.ownBlock ≠ some k → g ≠ k := fun k hk hn => by
    rcases hat with e | e
    · exact fun e2 => hn (e2 ▸ e)
    · omega
  have k6 : ∀ k, k ≠ rb → (w5.setCell ⟨rb, 1, none⟩ (.slice (some ⟨g, 0, none⟩) (s.now.length + 1) cap5)).heap[k]? = w5.heap[k]? := fun k hk => Below.heap_setCell _ _ _ _ hk
  have c : ∀ j v, w.cell? ⟨rb, j, none⟩ = some v → w5.cell? ⟨rb, j, none⟩ = some v := fun j v hv => (World.cell?_of_block (a := ⟨rb, j, none⟩) e5).trans hv
  have nk : ∀ k, kv.ownBlock = some k → nv.ownBlock ≠ some k := fun k e => (h1.ap.1 k e).2.1
  have tk : ∀ k, tv.ownBlock = some k → nv.ownBlock ≠ some k := fun k e e2 => (h1.ap.2.1 k e2).2 e
  refine ⟨⟨(World.cell?_setCell_other _ _ _ _ (by simp)).trans (c 0 _ h1.c0), World.cell?_setCell_same _ _ _ (c 1 _ h1.c1), (World.cell?_setCell_other _ _ _ _ (by simp)).trans (c 2 _ h1.c2), (World.cell?_setCell_other _ _ _ _ (by simp)).trans (c 3 _ h1.c3), (World.cell?_setCell_other _ _ _ _ (by simp)).trans (c 4 _ h1.c4), fun j => by rw [World.frozen?_setCell, World.frozen?_of_block (a := ⟨rb, j, none⟩) e5]; exact h1.soft j, ?_, ?_, ?_, ⟨fun k e => ?_, fun k e => ?_, h1.ap.2.2⟩, h1.lo, h1.fu, h1.fl⟩, ?_⟩
  · exact ownS_kept h1.ok fun k e => (k6 k (h1.ap.1 k e).1).trans (f5 k (h1.lt (.inr (.inl e))) (nk k e))
  · have : ownS w5 B (.slice (some ⟨g, 0, none⟩) (s.now.length + 1) cap5) (s.now ++ [d]) := by
      unfold ownS
      rw [List.length_append, List.map_append]
      exact ho
    exact ownS_kept this fun k e => by cases e; exact k6 g hgr
  · exact ownT_kept h1.ot fun k e => (k6 k (h1.ap.2.2 k e)).trans (f5 k (h1.lt (.inr (.inr (.inr e)))) (tk k e))
  · obtain ⟨p1, p2, p3⟩ := h1.ap.1 k e
    exact ⟨p1, fun e2 => hgl k (h1.lt (.inr (.inl e))) p2 (by cases e2; rfl), p3⟩
  · have e : g = k := by cases e; rfl
    subst e
    exact ⟨hgr, fun e => hgl g (h1.lt (.inr (.inr (.inr e)))) (tk g e) rfl⟩
  · exact (((below_alloc1 w (.cells #[.string d] 9)).mono h7).grown hgrow (by rw [hza]; omega) (fun k hk => (World.ownsRow.lt h1.on k hk).1)).setCell (p := ⟨rb, 1, none⟩) h1.lo _
/-- while it is made -/
def mkD (a b : Nat) : DSt := ⟨List.replicate a (zerosB 96), List.replicate b (zerosB 96), [], -1, false⟩
structure NDI (w wr : World) (rb : Nat) (a b : Nat) : Prop where
  ex : ∃ kv nv, RD wr w.heap.size rb kv nv (.slice none 0 0) (mkD a b) (-1)
  bel : Below w.heap.size w wr
theorem NDI.on {w wr w' : World} {rb a b : Nat} (h : NDI w wr rb a b) (hb : Below wr.heap.size wr w') : NDI w w' rb a b := by
  obtain ⟨kv, nv, h1⟩ := h.ex
  exact ⟨⟨kv, nv, h1.kept fun k hk => hb.block k (h1.lt hk)⟩, below_on h.bel (Nat.le_refl _) hb⟩
theorem snoc_rep (n : Nat) (d : ByteArray) : List.replicate n d ++ [d] = List.replicate (n + 1) d := by rw [List.replicate_succ']
def NewRAt (w w' : World) (rb n : Nat) : Prop := (∃ S, RK w' w.heap.size rb S (initD n)) ∧ Below w.heap.size w w'
set_option maxRecDepth 8000 in
set_option maxHeartbeats 4000000 in
theorem newR_good (n : Nat) (w : World) (h1 : 1 ≤ n) (h2 : n ≤ 200) : Calls Try.prog 11 #[.int .i64 (n : Int)] w fun e w' => ∃ rb, e = .returned (.tuple #[.pointer (some ⟨rb, 0, none⟩), .int .i64 0]) ∧ NewRAt w w' rb n := by
  have hg1 : ¬ (n : Int) < 1 := by omega
  have hg2 : ¬ (200 : Int) < (n : Int) := by omega
  obtain ⟨i0, z0, hi0, hz0, hi2, hi24, hzc⟩ := text_parts
  go_enter Try.func11, Try.ntmps11
  go_wp2
  have HN0 : Hid (NDI w (w.alloc (.cells #[.slice none 0 0, .slice none 0 0, .slice none 0 0, .int .i64 (-1), .bool false] 51)) w.heap.size 0 0) := by
    refine ⟨⟨.slice none 0 0, .slice none 0 0, ⟨?_, ?_, ?_, ?_, ?_, fun j => frozen_new _ _ _ j, ownS_nil, ownS_nil, ownT_nil, ⟨nofun, nofun, nofun⟩, Nat.le_refl _, fun _ => rfl, by omega⟩⟩, below_alloc1 _ _⟩
    all_goals (rw [cell_new]; rfl)
  generalize hrb : w.heap.size = rb at *
  have HRB := hide hrb
  clear hrb
  go_loopw [5] (fun iv wr => ∃ k : Nat, k ≤ n ∧ iv = .int .i64 (k : Int) ∧ NDI w wr rb k k) (fun iv _ => n - (intOf iv).toNat)
  case atStart => exact ⟨0, Nat.zero_le _, rfl, HN0.out⟩
  case round =>
    obtain ⟨k, hk, rfl, hI⟩ := hrel
    clear HN0
    by_cases hlt : k < n
    · have hlt' : (k : Int) < (n : Int) := by omega
      have hk0 : (0 : Int) ≤ (k : Int) := by omega
      go_wp2
      go_cut [] (fun wx => NDI w wx rb k (k + 1))
      case first =>
        obtain ⟨kv, nv, hrd⟩ := hI.ex
        have c0 := hrd.c0
        have f0 := hrd.soft 0
        have HRD := hide hrd
        have HI := hide hI
        have hrl : rb < wr.heap.size := hrd.lt (.inl rfl)
        have hsz := hI.bel.size
        clear hrd hI
        have HNW : Hid (∀ (W : World) (j : Nat) (u : Value), [Value.string (zerosB 96)][j]? = some u → (W.alloc (Obj.cells #[Value.string (zerosB 96)] 9)).cell? ((⟨W.heap.size, 0, none⟩ : Addr).add j) = some u) := fun W =>
          World.news_of_block (cs := #[.string (zerosB 96)]) (t := 9) (fr := (0, 0)) (heap_alloc_new W _)
        have HLK : Hid ((mkD k k).kept.length = k) := List.length_replicate
        have HOK : Hid (∀ W, Below wr.heap.size wr W → W.ownsRow w.heap.size 9 1 kv k ((mkD k k).kept.map strV)) := fun W hb => by
          have h3 : ownS W w.heap.size kv (mkD k k).kept := ownS_kept HRD.out.ok fun j e => hb.block j (HRD.out.lt (.inr (.inl e)))
          unfold ownS at h3
          rwa [HLK.out] at h3
        go_region_law (first
          | (go_simp; go_at_call 44; refine (noughts_any 96 (by omega) _).mono ?_; rintro e w2 ⟨rfl, hb2'⟩; have hb2 : Below wr.heap.size wr w2 := below_on (Below.refl _ _).drew (Nat.le_refl _) hb2'; have d0 := cell_on hb2 HRD.out.c0; have g0 := frozen_on hb2 hrl (HRD.out.soft 0); have hs2 := hb2.size; have hr2 : rb < w2.heap.size := (by omega); have d1 := cell_on (below_alloc1 w2 (.cells #[.string (zerosB 96)] 9)) d0; have HB2 := hide hb2; clear hb2' hb2)
          | (refine step_append_lies _ (by rfl) _ _ _ (by rfl) w.heap.size 9 i0 _ 1 16 Try.underlying48 hi0 hz0 hi2 hi24 hzc (by omega) kv _ _ (by rfl) ((HOK.out w2 HB2.out).alloc _) ⟨w2.heap.size, 0, none⟩ 1 1 [.string (zerosB 96)] (by rfl) (by rfl) (HNW.out w2) (by simp [Value.oneCell']) (by omega) (by unfold maxLen; omega) (by omega) (by simp; omega) (w2.heap.size + 1) (by simp) ?_; intro g5 cap5 w5 ho5 hgr5 hat5 hlt5; have e5 : w5.heap[rb]? = w2.heap[rb]? := (hgr5.block rb (by simp; omega) (fun e => (HRD.out.ap.1 rb e.symm).1 rfl)).trans ((below_alloc1 w2 _).block rb (by omega)); have d5 := (World.cell?_of_block (a := ⟨rb, 0, none⟩) e5).trans d0; have g5' := (World.frozen?_of_block (a := ⟨rb, 0, none⟩) e5).trans g0))
        all_goals
          have hrd2 := HRD.out.kept (w' := w2) (fun j hj => HB2.out.block j (HRD.out.lt hj))
          have hq := hrd2.pushK (d := zerosB 96) (by have := HI.out.bel.size; omega) (by rw [HLK.out]; exact ho5) hgr5 hat5
          rw [HLK.out] at hq
          obtain ⟨hq1, hq2⟩ := hq
          have hnd : NDI w _ rb k (k + 1) := ⟨⟨_, _, by rw [show mkD k (k + 1) = { mkD k k with kept := (mkD k k).kept ++ [zerosB 96] } by unfold mkD; simp only [snoc_rep]]; exact hq1⟩, (below_on HI.out.bel (Nat.le_refl _) HB2.out).trans hq2⟩
          have HND := hide hnd
          clear hnd hq1 hq2 hrd2 e5 d5 g5' ho5 hgr5 hat5 hlt5
        all_goals (go_wp2_with fail; go_meet; exact HND.out)
      case rest =>
        have hI := hcut
        clear hcut
        go_wp2
        obtain ⟨kv, nv, hrd⟩ := hI.ex
        have c0 := hrd.c1
        have f0 := hrd.soft 1
        have HRD := hide hrd
        have HI := hide hI
        have hrl : rb < wc.heap.size := hrd.lt (.inl rfl)
        have hsz := hI.bel.size
        clear hrd hI
        have HNW : Hid (∀ (W : World) (j : Nat) (u : Value), [Value.string (zerosB 96)][j]? = some u → (W.alloc (Obj.cells #[Value.string (zerosB 96)] 9)).cell? ((⟨W.heap.size, 0, none⟩ : Addr).add j) = some u) := fun W =>
          World.news_of_block (cs := #[.string (zerosB 96)]) (t := 9) (fr := (0, 0)) (heap_alloc_new W _)
        have HLK : Hid ((mkD k (k + 1)).now.length = k) := List.length_replicate
        have HOK : Hid (∀ W, Below wc.heap.size wc W → W.ownsRow w.heap.size 9 1 nv k ((mkD k (k + 1)).now.map strV)) := fun W hb => by
          have h3 : ownS W w.heap.size nv (mkD k (k + 1)).now := ownS_kept HRD.out.on fun j e => hb.block j (HRD.out.lt (.inr (.inr (.inl e))))
          unfold ownS at h3
          rwa [HLK.out] at h3
        go_region_law (first
          | (go_simp; go_at_call 44; refine (noughts_any 96 (by omega) _).mono ?_; rintro e w2 ⟨rfl, hb2'⟩; have hb2 : Below wc.heap.size wc w2 := below_on (Below.refl _ _).drew (Nat.le_refl _) hb2'; have d0 := cell_on hb2 HRD.out.c1; have g0 := frozen_on hb2 hrl (HRD.out.soft 1); have hs2 := hb2.size; have hr2 : rb < w2.heap.size := (by omega); have d1 := cell_on (below_alloc1 w2 (.cells #[.string (zerosB 96)] 9)) d0; have HB2 := hide hb2; clear hb2' hb2)
          | (refine step_append_lies _ (by rfl) _ _ _ (by rfl) w.heap.size 9 i0 _ 1 16 Try.underlying48 hi0 hz0 hi2 hi24 hzc (by omega) nv _ _ (by rfl) ((HOK.out w2 HB2.out).alloc _) ⟨w2.heap.size, 0, none⟩ 1 1 [.string (zerosB 96)] (by rfl) (by rfl) (HNW.out w2) (by simp [Value.oneCell']) (by omega) (by unfold maxLen; omega) (by omega) (by simp; omega) (w2.heap.size + 1) (by simp) ?_; intro g5 cap5 w5 ho5 hgr5 hat5 hlt5; have e5 : w5.heap[rb]? = w2.heap[rb]? := (hgr5.block rb (by simp; omega) (fun e => (HRD.out.ap.2.1 rb e.symm).1 rfl)).trans ((below_alloc1 w2 _).block rb (by omega)); have d5 := (World.cell?_of_block (a := ⟨rb, 1, none⟩) e5).trans d0; have g5' := (World.frozen?_of_block (a := ⟨rb, 1, none⟩) e5).trans g0))
        all_goals
          have hrd2 := HRD.out.kept (w' := w2) (fun j hj => HB2.out.block j (HRD.out.lt hj))
          have hq := hrd2.pushN (d := zerosB 96) (by have := HI.out.bel.size; omega) (by rw [HLK.out]; exact ho5) hgr5 hat5
          rw [HLK.out] at hq
          obtain ⟨hq1, hq2⟩ := hq
          have hnd : NDI w _ rb (k + 1) (k + 1) := ⟨⟨_, _, by rw [show mkD (k + 1) (k + 1) = { mkD k (k + 1) with now := (mkD k (k + 1)).now ++ [zerosB 96] } by unfold mkD; simp only [snoc_rep]]; exact hq1⟩, (below_on HI.out.bel (Nat.le_refl _) HB2.out).trans hq2⟩
          have HND := hide hnd
          clear hnd hq1 hq2 hrd2 e5 d5 g5' ho5 hgr5 hat5 hlt5
          go_wp2
          exact ⟨⟨k + 1, by omega, by go_num, HND.out⟩, by simp [intOf]; omega⟩
    · have ek : k = n := by omega
      subst ek
      have hlt' : ¬ (k : Int) < (k : Int) := by omega
      have HI := hide hI
      clear hI
      go_wp2
      go_ret2
      obtain ⟨kv, nv, hrd⟩ := HI.out.ex
      have hl : (initD k).now.length = k := List.length_replicate
      exact ⟨rb, rfl, ⟨_, ⟨kv, nv, _, -1, hrd, rfl, rfl, by rw [hl]; exact h1, by rw [hl]; exact h2, fun x hx => absurd hx List.not_mem_nil, HI.out.bel.size⟩⟩, HI.out.bel⟩
end
end Go.Proofs.Ytkfpfbkdalbjoaa
