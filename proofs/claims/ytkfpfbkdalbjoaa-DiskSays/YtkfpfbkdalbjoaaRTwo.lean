/-
  Two disks side by side: the program's and the document's; and an act beside them.
-/
import Derived.Test.YtkfpfbkdalbjoaaRDskN
import Derived.Test.YtkfpfbkdalbjoaaDskRestart
import Derived.Test.YtkfpfbkdalbjoaaActIn
import Derived.Test.YtkfpfbkdalbjoaaSame1
namespace Go.Proofs.Ytkfpfbkdalbjoaa
open Go.RowKit Go.Joins
attribute [local go_sem ↓] Go.wp_at_zero Go.wp_at_succ

theorem ownsRow_low {w : World} {B B' : Nat} {e : TypeId} {z : Nat} {v : Value} {n : Nat} {xs : List Value} (h : w.ownsRow B e z v n xs) (hB : B' ≤ B) : w.ownsRow B' e z v n xs := by
  refine ⟨h.1, ?_⟩
  rcases h.2 with e | ⟨g, cap, cur, rfl, h1, h2⟩
  · exact .inl e
  · exact .inr ⟨g, cap, cur, rfl, Nat.le_trans hB h1, h2⟩
theorem DK.lower {w : World} {B B' db : Nat} {S : Nat → Prop} {s : DSt} (h : DK w B db S s) (hB : B' ≤ B) : DK w B' db S s := by
  obtain ⟨nb, kb, lb, n, lv, loose, L, h1, h2, h3, h4, h5, h6, h7⟩ := h
  exact ⟨nb, kb, lb, n, lv, loose, L, h1, { h2 with own := fun i hi hi' => ⟨ownsRow_low (h2.own i hi hi').1 hB, (h2.own i hi hi').2⟩, lo := ⟨Nat.le_trans hB h2.lo.1, Nat.le_trans hB h2.lo.2.1, Nat.le_trans hB h2.lo.2.2.1, Nat.le_trans hB h2.lo.2.2.2⟩ }, h3, h4, h5, h6, Nat.le_trans hB h7⟩
theorem RK.lower {w : World} {B B' rb : Nat} {S : Nat → Prop} {s : DSt} (h : RK w B rb S s) (hB : B' ≤ B) : RK w B' rb S s := by
  obtain ⟨kv, nv, tv, F, h1, h2, h3, h4, h5, h6, h7⟩ := h
  exact ⟨kv, nv, tv, F, { h1 with ok := ownsRow_low h1.ok hB, on := ownsRow_low h1.on hB, ot := ownsRow_low h1.ot hB, lo := Nat.le_trans hB h1.lo }, h2, h3, h4, h5, h6, Nat.le_trans hB h7⟩
structure Two (w wr : World) (db rb : Nat) (s t : DSt) : Prop where
  ex : ∃ S S', DK wr w.heap.size db S s ∧ RK wr w.heap.size rb S' t ∧ ∀ k, S k → ¬ S' k
  bel : Below w.heap.size w wr
structure TwoA (w wr : World) (db rb : Nat) (s t : DSt) (ab : Nat) (x : ActL) : Prop where
  ex : ∃ S S', DK wr w.heap.size db S s ∧ RK wr w.heap.size rb S' t ∧ (∀ k, S k → ¬ S' k) ∧ ¬ S ab ∧ ¬ S' ab
  bel : Below w.heap.size w wr
  act : ActIn wr ab x
section
variable {w wr w' : World} {db rb ab : Nat} {s t s' t' : DSt} {x : ActL}
theorem Two.on (h : Two w wr db rb s t) (hb : Below wr.heap.size wr w') : Two w w' db rb s t := by
  obtain ⟨S, S', h1, h2, h3⟩ := h.ex
  exact ⟨⟨S, S', h1.on hb, h2.on hb, h3⟩, below_on h.bel (Nat.le_refl _) hb⟩
theorem TwoA.on (h : TwoA w wr db rb s t ab x) (hb : Below wr.heap.size wr w') : TwoA w w' db rb s t ab x := by
  obtain ⟨S, S', h1, h2, h3, h4, h5⟩ := h.ex
  exact ⟨⟨S, S', h1.on hb, h2.on hb, h3, h4, h5⟩, below_on h.bel (Nat.le_refl _) hb, h.act.on hb⟩
theorem TwoA.two (h : TwoA w wr db rb s t ab x) : Two w wr db rb s t := by
  obtain ⟨S, S', h1, h2, h3, h4, h5⟩ := h.ex
  exact ⟨⟨S, S', h1, h2, h3⟩, h.bel⟩
theorem Two.with (h : Two w wr db rb s t) (x : ActL) : TwoA w (wr.alloc (Obj.cells #[Value.string x.kind, Value.int .i64 x.a, Value.int .i64 x.b, Value.int .i64 x.c, Value.int .u64 x.k, Value.string x.s, Value.string x.t, Value.slice x.ca x.chs.length x.cc, Value.slice x.sa x.sps.length x.sc] 39)) db rb s t wr.heap.size x := by
  obtain ⟨S, S', h1, h2, h3⟩ := h.ex
  have hb := below_alloc1 wr (Obj.cells #[Value.string x.kind, Value.int .i64 x.a, Value.int .i64 x.b, Value.int .i64 x.c, Value.int .u64 x.k, Value.string x.s, Value.string x.t, Value.slice x.ca x.chs.length x.cc, Value.slice x.sa x.sps.length x.sc] 39)
  exact ⟨⟨S, S', h1.on hb, h2.on hb, h3, fun e => by have := h1.lt e; omega, fun e => by have := h2.lt e; omega⟩, below_on h.bel (Nat.le_refl _) hb, .new wr x⟩
theorem TwoA.getD (h : TwoA w wr db rb s t ab x) : ∃ S, DK wr w.heap.size db S s ∧ ∀ w' s', ActD wr w' w.heap.size db S s' → TwoA w w' db rb s' t ab x := by
  obtain ⟨S, S', h1, h2, h3, h4, h5⟩ := h.ex
  refine ⟨S, h1, fun w' s' ⟨S2, hk, hs⟩ => ⟨⟨S2, S', hk, ?_, ?_, ?_, h5⟩, h.bel.trans hs.bel, ?_⟩⟩
  · exact h2.kept hs.bel.size fun k hk => (hs.far k (h2.lt hk) fun e => h3 k e hk).1
  · exact fun k e e' => (hs.far k (h2.lt e') fun e2 => h3 k e2 e').2 e
  · exact (hs.far ab h.act.lt h4).2
  · exact h.act.kept (hs.far ab h.act.lt h4).1
theorem TwoA.getR (h : TwoA w wr db rb s t ab x) : ∃ S, RK wr w.heap.size rb S t ∧ ∀ w' t', ActK wr w' w.heap.size rb S t' → TwoA w w' db rb s t' ab x := by
  obtain ⟨S, S', h1, h2, h3, h4, h5⟩ := h.ex
  refine ⟨S', h2, fun w' s' ⟨S2, hk, hs⟩ => ⟨⟨S, S2, ?_, hk, ?_, h4, ?_⟩, h.bel.trans hs.bel, ?_⟩⟩
  · exact h1.kept hs.bel.size fun k hk => (hs.far k (h1.lt hk) fun e => h3 k hk e).1
  · exact fun k e => (hs.far k (h1.lt e) fun e2 => h3 k e e2).2
  · exact (hs.far ab h.act.lt h5).2
  · exact h.act.kept (hs.far ab h.act.lt h5).1
/-- the document's disk is armed -/
theorem RK.arm {B : Nat} {S : Nat → Prop} (h : RK w B rb S s) (n : Int) (hn : n ≤ 9223372036854775807) : ActK w (w.setCell ⟨rb, 3, none⟩ (.int .i64 (max n (-1)))) B rb S (armD s n) := by
  obtain ⟨kv, nv, tv, F, h1, rfl, h3, h4, h5, h6, h7⟩ := h
  refine ⟨_, ⟨kv, nv, tv, max n (-1), ⟨(World.cell?_setCell_other _ _ _ _ (by simp)).trans h1.c0, (World.cell?_setCell_other _ _ _ _ (by simp)).trans h1.c1, (World.cell?_setCell_other _ _ _ _ (by simp)).trans h1.c2, World.cell?_setCell_same _ _ _ h1.c3, (World.cell?_setCell_other _ _ _ _ (by simp)).trans h1.c4, fun j => by rw [World.frozen?_setCell]; exact h1.soft j, ownS_kept h1.ok fun k e => Below.heap_setCell _ _ _ _ (h1.ap.1 k e).1, ownS_kept h1.on fun k e => Below.heap_setCell _ _ _ _ (h1.ap.2.1 k e).1, ownT_kept h1.ot fun k e => Below.heap_setCell _ _ _ _ (h1.ap.2.2 k e), h1.ap, h1.lo, fun _ => rfl, by omega⟩, rfl, h3, h4, h5, h6, by simpa using h7⟩, ?_⟩
  exact stepV_cell (.inl rfl) h1.lo 3 _
end
set_option maxHeartbeats 1000000 in
theorem newR_bad (n : Int) (w : World) (h : n < 1 ∨ 200 < n) : Calls Try.prog 11 #[.int .i64 n] w fun e w' => e = .returned (.tuple #[.pointer none, .int .i64 1]) ∧ w' = w := by
  by_cases h0 : n < 1
  · go_enter Try.func11, Try.ntmps11
    go_wp2
    go_ret2
    exact ⟨rfl, rfl⟩
  · have h1 : 200 < n := by omega
    go_enter Try.func11, Try.ntmps11
    go_wp2
    go_ret2
    exact ⟨rfl, rfl⟩
/-- plain: what a closed fact reads -/
theorem spins_plain : dwriteF (initD 3) 1 ⟨#[120, 121]⟩ = 0 ∧ dstepF (dwriteD (initD 3) 1 ⟨#[120, 121]⟩) = 0 ∧ dreadF (restartD (flushD (dwriteD (initD 3) 1 ⟨#[120, 121]⟩)) 0) 1 = 0 ∧ dreadD (restartD (flushD (dwriteD (initD 3) 1 ⟨#[120, 121]⟩)) 0) 1 = dpadB ⟨#[120, 121]⟩ ∧ (restartD (flushD (dwriteD (initD 3) 1 ⟨#[120, 121]⟩)) 0).now.length = 3 := by
  have e1 : dwriteD (initD 3) 1 ⟨#[120, 121]⟩ = laidD (initD 3) 1 (dpadB ⟨#[120, 121]⟩) := rfl
  rw [e1]
  have e2 : flushD (laidD (initD 3) 1 (dpadB ⟨#[120, 121]⟩)) = { laidD (initD 3) 1 (dpadB ⟨#[120, 121]⟩) with kept := (laidD (initD 3) 1 (dpadB ⟨#[120, 121]⟩)).now, wait := [] } := rfl
  rw [e2]
  exact ⟨rfl, rfl, rfl, rfl, rfl⟩
set_option maxRecDepth 8000 in
set_option maxHeartbeats 4000000 in
theorem spins_any (w : World) : Calls Try.prog 8 #[] w fun e w' => e = .returned (.bool true) ∧ Below w.heap.size w w' := by
  obtain ⟨p1, p2, p3, p4, p5⟩ := spins_plain
  generalize hs1 : dwriteD (initD 3) 1 ⟨#[120, 121]⟩ = s1 at *
  generalize hs2 : flushD s1 = s2 at *
  generalize hs3 : restartD s2 0 = s3 at *
  have P1 := hide p1
  have P2 := hide p2
  have P3 := hide p3
  have P4 := hide p4
  have P5 := hide p5
  have S1 := hide hs1
  have S2 := hide hs2
  have S3 := hide hs3
  clear p1 p2 p3 p4 p5 hs1 hs2 hs3
  have hz : (dpadB ⟨#[120, 121]⟩).size = 96 := dpadB_size (by decide)
  have hx : ((dpadB ⟨#[120, 121]⟩).extract 0 2).toList = [120, 121] := by decide +kernel
  generalize dpadB ⟨#[120, 121]⟩ = dd at *
  go_enter Try.func8, Try.ntmps8
  go_wp2_with (first
    | (go_at_call 10; refine (newDisk_good 3 _ (by decide) (by decide)).mono ?_; rintro e w1 ⟨db, rfl, hn1⟩; obtain ⟨⟨S1', hk1⟩, hb1⟩ := hn1; have HB1 := hide hb1; have HWR := hide (dwrite_any 1 ⟨#[120, 121]⟩ _ hk1); rw [S1.out, P1.out, errD_nil] at HWR; clear hk1 hb1)
    | (go_at_call 14; refine HWR.out.mono ?_; rintro e w2 ⟨rfl, ha2⟩; obtain ⟨SS2, hk2, hs2⟩ := ha2; have HB2 := hide (HB1.out.trans hs2.bel); have HFL := hide (dflush_any _ hk2); rw [S2.out, P2.out, errD_nil] at HFL; clear hk2 hs2)
    | (go_at_call 18; refine HFL.out.mono ?_; rintro e w3 ⟨rfl, ha3⟩; obtain ⟨SS3, hk3, hs3⟩ := ha3; have HB3 := hide (HB2.out.trans hs3.bel); have HRS := hide (drestart_any 0 _ hk3); rw [S3.out] at HRS; clear hk3 hs3)
    | (go_at_call 21; refine HRS.out.mono ?_; rintro e w4 ⟨rfl, ha4⟩; obtain ⟨SS4, hk4, hs4⟩ := ha4; have HB4 := hide (HB3.out.trans hs4.bel); have HRD := hide (dread_any 1 _ hk4); rw [P3.out, P4.out, errD_nil] at HRD; have HSC := hide (dsectors_any _ hk4); rw [P5.out] at HSC; clear hk4 hs4)
    | (go_at_call 16; refine HRD.out.mono ?_; rintro e w5 ⟨rfl, rfl⟩)
    | (go_at_call 12; refine (same_nil 0 _).mono ?_; rintro e w6 ⟨rfl, rfl⟩)
    | (go_at_call 13; refine HSC.out.mono ?_; rintro e w7 ⟨rfl, rfl⟩))
  go_ret
  exact ⟨rfl, HB4.out⟩
end Go.Proofs.Ytkfpfbkdalbjoaa
