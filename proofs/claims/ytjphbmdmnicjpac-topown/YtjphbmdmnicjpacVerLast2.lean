/-
  What versions.last returns of versions that lie in memory. Nothing that was there is changed.
-/
import Derived.Test.YtjphbmdmnicjpacVerLast
namespace Go.Proofs.Ytjphbmdmnicjpac
open Go.RowKit Go.Joins Go.Shelf
attribute [local go_sem] Oper.semAt_some

/-- none of those that have come is up to the deed -/
def aheadV (n : Int) (pre : List (Nat × Ver)) : Prop := ∀ y ∈ pre, n < y.2.deed
theorem cell_nl (W : World) (v : Value) (t : TypeId) : (W.alloc (.cells #[v] t)).cell? ⟨W.heap.size, 0, none⟩ = some v ∧ (W.alloc (.cells #[v] t)).frozen? ⟨W.heap.size, 0, none⟩ = false := ⟨cell_new W #[v] t 0, frozen_new W #[v] t 0⟩
theorem cell_al {W : World} {a : Addr} {v : Value} (o : Obj) (h : W.cell? a = some v) : (W.alloc o).cell? a = some v := cell_on (below_alloc1 _ _) h
theorem frozen_al {W : World} {a : Addr} {v : Value} (o : Obj) (h : W.cell? a = some v) (hf : W.frozen? a = false) : (W.alloc o).frozen? a = false := frozen_on (below_alloc1 _ _) (World.block_lt_of_cell? _ _ h) hf

set_option maxRecDepth 100000 in
set_option maxHeartbeats 4000000 in
theorem last_in (F : Fence) (m : Nat) (hL : F.fn 89) (hBk : F.fn 113) (hB1 : F.fn 137) (hro : F.round = none) (hm : 3 ≤ m) (ao : Option Addr) (cap : Nat) (vs : List Ver) (n : Int) (w : World) (hlen : vs.length ≤ 1000000) (hI : versIn w.heap.size w ao cap vs) :
    CallsIn F m Try.prog 89 #[.slice ao vs.length cap, .int .i64 n] w fun e W' => e = .returned (.int .i64 (lastP vs n)) ∧ Below w.heap.size w W' := by
  have h1 : 1 ≤ m := by omega
  refine callsIn_of_wp_marks Try.func89 rfl hL ?_ hro
  simp only [Try.ntmps89, List.size_toArray, List.length_cons, List.length_nil, Nat.reduceAdd, Nat.reduceSub, Array.replicate_succ, Array.replicate_zero, List.push_toArray, List.append_toArray, List.nil_append, List.cons_append]
  gi_wp2_with (gi_at_call 113; refine (back_in F (m - 1) hBk hro _ _ _ _).mono ?_; rintro e w' ⟨rfl, rfl⟩)
  have c0 := cell_nl w (.int .i64 n) 3
  have c1 := cell_nl (w.alloc (.cells #[.int .i64 n] 3)) (.int .i64 0) 3
  have c2 := cell_nl ((w.alloc (.cells #[.int .i64 n] 3)).alloc (.cells #[.int .i64 0] 3)) (.slice ao vs.length cap) 100
  simp only [World.size_alloc] at c1 c2
  have hB0 : Below w.heap.size w (((w.alloc (.cells #[.int .i64 n] 3)).alloc (.cells #[.int .i64 0] 3)).alloc (.cells #[.slice ao vs.length cap] 100)) := (((Below.refl _ w).alloc (Nat.le_refl _) _).alloc (by simp) _).alloc (by simp; omega) _
  have hI2 : versIn (w.heap.size + 3) (((w.alloc (.cells #[.int .i64 n] 3)).alloc (.cells #[.int .i64 0] 3)).alloc (.cells #[.slice ao vs.length cap] 100)) ao cap vs := by
    rcases hI.below hB0 with h | ⟨b, e, hb, h⟩
    · exact .inl h
    · exact .inr ⟨b, e, by omega, h⟩
  refine wpIn_rangeFunc_ownH hro h1 (gf := 137) (lb := #[.pointer (some ⟨w.heap.size + 1 + 1, 0, none⟩)]) rfl hB1 (enters_of Try.func137 (by kernel_rfl) rfl)
    (back_stops F (m - 1) hB1 hro (by omega) (w.heap.size + 1 + 1) (w.heap.size + 3) ao cap vs hlen _ (by omega) (by simp) c2.1 hI2) belowK_t (belowK_b (by simp)) (Below.refl _ _) (fun _ => rfl)
    (fun pre W => (aheadV n pre ∧ W.cell? ⟨w.heap.size + 1 + 1, 0, none⟩ = some (.slice ao vs.length cap) ∧ W.cell? ⟨w.heap.size, 0, none⟩ = some (.int .i64 n) ∧ W.cell? ⟨w.heap.size + 1, 0, none⟩ = some (.int .i64 0) ∧ W.frozen? ⟨w.heap.size + 1, 0, none⟩ = false) ∧ Below w.heap.size w W)
    (fun c pre W => (c = .ret ∧ (∃ pre' x, pre = pre' ++ [x] ∧ aheadV n pre' ∧ x.2.deed ≤ n ∧ W.cell? ⟨w.heap.size + 1, 0, none⟩ = some (.int .i64 (x.1 : Int)))) ∧ Below w.heap.size w W)
    (OwnFrom.and (Own.from (fun s A B row hs hg hr => ⟨hs.1, cell_kept hs.2.1 hg hr, cell_kept hs.2.2.1 hg hr, cell_kept hs.2.2.2.1 hg hr, (frozen_kept hs.2.2.2.1 hg hr).trans hs.2.2.2.2⟩) _) (ownFrom_below (Nat.le_refl _) (by simp; omega)))
    (fun c => OwnFrom.and (Own.from (fun s A B row hs hg hr => by obtain ⟨e, pre', x, h2, h3, h4, h5⟩ := hs; exact ⟨e, pre', x, h2, h3, h4, cell_kept h5 hg hr⟩) _) (ownFrom_below (Nat.le_refl _) (by simp; omega)))
    ⟨⟨by simp [aheadV], c2.1, cell_al _ (cell_al _ c0.1), cell_al _ c1.1, frozen_al _ c1.1 c1.2⟩, hB0⟩
    (fun x a' W => ∃ Bx, W.cell? ⟨Bx, 0, none⟩ = some (.int .i64 x.2.deed) ∧ a' = { tmps := #[.slice ao vs.length cap, .int .i64 n, undef, .pointer (some ⟨w.heap.size, 0, none⟩), .pointer (some ⟨w.heap.size + 1, 0, none⟩), .int .i64 (x.1 : Int), .pointer (some ⟨Bx, 0, none⟩), .slice ao vs.length cap, .func (.func 137) #[] #[.pointer (some ⟨w.heap.size + 1 + 1, 0, none⟩)], .int .i64 (x.1 : Int), verV x.2, undef, undef, undef, undef, undef], defers := [] })
    (fun x a' => Own.from (fun s A B row hs hg hr => by obtain ⟨Bx, hc, e⟩ := hs; exact ⟨Bx, cell_kept hc hg hr, e⟩) _) ?assign ?body ?done ?stop
  case assign =>
    rintro l pre x W K ⟨⟨hp, hcs, hcn, hcr, hfr⟩, hB⟩ hK
    obtain ⟨xi, xv⟩ := x
    dsimp only [verV] at hK ⊢
    gi_wp2
    exact hK _ _ ((KeepsOthers.alloc _ _).from _) ((Below.refl _ W).alloc (by have h3 : w.heap.size + 1 + 1 < W.heap.size := World.block_lt_of_cell? _ _ hcs; omega) _) ⟨⟨hp, cell_al _ hcs, cell_al _ hcn, cell_al _ hcr, frozen_al _ hcr hfr⟩, hB.alloc hB.size _⟩ ⟨W.heap.size, cell_new W _ _ 0, rfl⟩
  case body =>
    rintro l pre x a' W hl ⟨r, hr⟩ ⟨⟨hp, hcs, hcn, hcr, hfr⟩, hB⟩ ⟨Bx, hbx, rfl⟩ hlt
    by_cases hx : x.2.deed ≤ n
    · gi_wp2
      exact ⟨(KeepsOthers.setCell _ _ _).from _, ⟨rfl, pre, x, rfl, hp, hx, World.cell?_setCell_same' _ _ _ (by rw [hcr]; rfl)⟩, hB.setCell (p := ⟨w.heap.size + 1, 0, none⟩) (by simp) _⟩
    · gi_wp2
      exact ⟨(KeepsOthers.refl _).from _, Below.refl _ _, ⟨fun y hy => (List.mem_append.1 hy).elim (hp y) (fun e => by simp at e; subst e; omega), hcs, hcn, hcr, hfr⟩, hB⟩
  case done =>
    rintro D ys W hD rfl ⟨⟨hne, _, _, hcr, hfr⟩, hB⟩ hK
    gi_wp2
    have hK' := (KeepsOthers.setCell W ⟨w.heap.size + 1, 0, none⟩ (.int .i64 (-1))).same D _ hK rfl
    refine ⟨by simp, .inl ⟨_, _, rfl, run_takeDeferred hK', ?_⟩⟩
    have hc5 := cell_kept (World.cell?_setCell_same' W ⟨w.heap.size + 1, 0, none⟩ (.int .i64 (-1)) (by rw [hcr]; rfl)) (grownBy_putObj' _ D (.deferred none)) (fun r e => by cases e; exact ⟨_, hK', rfl⟩)
    refine ⟨.int .i64 (-1), ?_, by rw [last_none hne], (hB.setCell (p := ⟨w.heap.size + 1, 0, none⟩) (by simp) _).trans (belowK_b (w := w) (Nat.le_refl _) _ D _ _ (by simp at hD; omega) hK' rfl rfl)⟩
    simp [results, Try.f89, go_sem, hc5]
  case stop =>
    rintro D c pre W hD ⟨k, hk, hpre⟩ ⟨⟨rfl, pre', x, e, hne, hx, hcr⟩, hB⟩ hK
    gi_wp2
    refine ⟨by simp, .inl ⟨_, _, rfl, run_takeDeferred hK, ?_⟩⟩
    have hc5 := cell_kept hcr (grownBy_putObj' _ D (.deferred none)) (fun r e => by cases e; exact ⟨_, hK, rfl⟩)
    refine ⟨.int .i64 (x.1 : Int), ?_, by rw [(last_some hk (e.symm.trans hpre) hne hx).1], hB.trans (belowK_b (w := w) (Nat.le_refl _) W D _ _ (by simp at hD; omega) hK rfl rfl)⟩
    simp [results, Try.f89, go_sem, hc5]
theorem last_any (ao : Option Addr) (cap : Nat) (vs : List Ver) (n : Int) (w : World) (hlen : vs.length ≤ 1000000) (hI : versIn w.heap.size w ao cap vs) :
    Calls Try.prog 89 #[.slice ao vs.length cap, .int .i64 n] w fun e W' => e = .returned (.int .i64 (lastP vs n)) ∧ Below w.heap.size w W' :=
  (callsIn_wide (n := 3)).1 (last_in Fence.wide 3 trivial trivial trivial rfl (Nat.le_refl _) ao cap vs n w hlen hI)
end Go.Proofs.Ytjphbmdmnicjpac
