/-
  What store.lay returns and leaves.
-/
import Derived.Test.YtkfpfbkdalbjoaaGreatStoText
import Derived.Test.YtkfpfbkdalbjoaaGreatStoParse
import Derived.Test.YtkfpfbkdalbjoaaGreatStoL
namespace Go.Proofs.YtkfpfbkdalbjoaaGreat
open Go.RowKit Go.Joins
attribute [local go_sem ↓] Go.wp_at_zero Go.wp_at_succ

theorem op_keep (o : DOp) (s : DSt) (j : Nat) (h : ∀ a d, o = .wr a d → a ≠ j) : (opD o s).now[j]? = s.now[j]? := by
  cases o with
  | wr a d =>
    have ha := h a d rfl
    show (dwriteD s a d).now[j]? = _
    unfold dwriteD
    split
    · rfl
    · split
      · show ((dstepD s).now.set _ _)[j]? = _
        rw [Int.toNat_natCast, List.getElem?_set_ne ha, (dstepD_len s).1]
      · rw [(dstepD_len s).1]
  | fl =>
    show (flushD s).now[j]? = _
    unfold flushD
    split
    · show (dstepD s).now[j]? = _; rw [(dstepD_len s).1]
    · rw [(dstepD_len s).1]
theorem run_keep (l : List DOp) (j : Nat) : ∀ s, (∀ o ∈ l, ∀ a d, o = .wr a d → a ≠ j) → (runD l s).2.now[j]? = s.now[j]? := by
  induction l with
  | nil => intro s _; rfl
  | cons o l ih =>
    intro s h
    show (if opF o s = 0 then runD l (opD o s) else (opF o s, opD o s)).2.now[j]? = _
    split
    · rw [ih _ fun o' h' => h o' (List.mem_cons_of_mem _ h')]; exact op_keep o s j (h o (List.mem_cons_self ..))
    · exact op_keep o s j (h o (List.mem_cons_self ..))
theorem step_up {s : DSt} (h : dstepF s = 0) : (dstepD s).down = false := by
  unfold dstepF at h
  cases hd : s.down with
  | true => rw [hd] at h; simp at h
  | false =>
    rw [hd] at h
    by_cases hl : s.left = 0
    · simp [hl] at h
    · unfold dstepD; simp [hd, hl]
theorem flush_up {s : DSt} (h : dstepF s = 0) : (flushD s).down = false := by
  unfold flushD
  rw [if_pos h]
  exact step_up h
theorem fresh_same {N M : List ByteArray} (h : N[50]? = M[50]?) : freshN N = freshN M := by unfold freshN; rw [h]
theorem size_zero {t : ByteArray} (h : t.size = 0) : t = ⟨#[]⟩ := by
  apply ByteArray.ext
  exact Array.size_eq_zero_iff.1 h
/-- a root as it is returned: of rows that were laid, it is theirs -/
def rootOk (rv : Value) (f area first size : Nat) : Prop := ∃ x y z : Int, rv = .agg #[.int .i64 x, .int .i64 y, .int .i64 z] ∧ (f = 0 → x = (area : Int) ∧ y = (first : Int) ∧ z = (size : Int))
/-- what laying comes to -/
def layR (area : Nat) (rows : List Chg) (s : DSt) : Nat × DSt := runD (layOps area (freshN s.now) rows) s
theorem layR_parts (area : Nat) (rows : List Chg) (s : DSt) : layR area rows s =
    if (runD (restFrom (areaN area) (piecesB (packB rows))) s).1 = 0 then
      if dstepF (runD (restFrom (areaN area) (piecesB (packB rows))) s).2 = 0 then
        if dwriteF (flushD (runD (restFrom (areaN area) (piecesB (packB rows))) s).2) 0 (rootOf area (freshN s.now) rows) = 0 then (dstepF (dwriteD (flushD (runD (restFrom (areaN area) (piecesB (packB rows))) s).2) 0 (rootOf area (freshN s.now) rows)), flushD (dwriteD (flushD (runD (restFrom (areaN area) (piecesB (packB rows))) s).2) 0 (rootOf area (freshN s.now) rows)))
        else (dwriteF (flushD (runD (restFrom (areaN area) (piecesB (packB rows))) s).2) 0 (rootOf area (freshN s.now) rows), dwriteD (flushD (runD (restFrom (areaN area) (piecesB (packB rows))) s).2) 0 (rootOf area (freshN s.now) rows))
      else (dstepF (runD (restFrom (areaN area) (piecesB (packB rows))) s).2, flushD (runD (restFrom (areaN area) (piecesB (packB rows))) s).2)
    else runD (restFrom (areaN area) (piecesB (packB rows))) s := by
  unfold layR layOps
  rw [runD_append]
  by_cases h1 : (runD (restFrom (areaN area) (piecesB (packB rows))) s).1 = 0
  · rw [if_pos h1, if_pos h1]
    generalize (runD (restFrom (areaN area) (piecesB (packB rows))) s).2 = s1
    rw [runD_append, runD_one]
    show (if dstepF s1 = 0 then _ else (dstepF s1, flushD s1)) = _
    by_cases h2 : dstepF s1 = 0
    · rw [if_pos h2, if_pos h2]
      show runD _ (flushD s1) = _
      generalize flushD s1 = s2
      rw [runD_append, runD_one]
      show (if dwriteF s2 0 (rootOf area (freshN s.now) rows) = 0 then runD _ (dwriteD s2 0 (rootOf area (freshN s.now) rows)) else (dwriteF s2 0 (rootOf area (freshN s.now) rows), dwriteD s2 0 (rootOf area (freshN s.now) rows))) = _
      by_cases h3 : dwriteF s2 0 (rootOf area (freshN s.now) rows) = 0
      · rw [if_pos h3, if_pos h3, List.append_nil, runD_one]
        rfl
      · rw [if_neg h3, if_neg h3]
    · rw [if_neg h2, if_neg h2]
  · rw [if_neg h1, if_neg h1]
end Go.Proofs.YtkfpfbkdalbjoaaGreat

/-
  What store.lay returns and leaves (the walk).
-/
namespace Go.Proofs.YtkfpfbkdalbjoaaGreat
open Go.RowKit Go.Joins
attribute [local go_sem ↓] Go.wp_at_zero Go.wp_at_succ

theorem keepO {W : World} {b b' : Nat} {x y z a0 a1 a2 : Value} (hne : b' ≠ b) (h : W.cell? ⟨b', 0, none⟩ = some a0 ∧ W.cell? ⟨b', 1, none⟩ = some a1 ∧ W.cell? ⟨b', 2, none⟩ = some a2) :
    (((W.setCell ⟨b, 0, none⟩ x).setCell ⟨b, 1, none⟩ y).setCell ⟨b, 2, none⟩ z).cell? ⟨b', 0, none⟩ = some a0 ∧ (((W.setCell ⟨b, 0, none⟩ x).setCell ⟨b, 1, none⟩ y).setCell ⟨b, 2, none⟩ z).cell? ⟨b', 1, none⟩ = some a1 ∧ (((W.setCell ⟨b, 0, none⟩ x).setCell ⟨b, 1, none⟩ y).setCell ⟨b, 2, none⟩ z).cell? ⟨b', 2, none⟩ = some a2 := by
  have hk : ∀ k, k ≠ b → (((W.setCell ⟨b, 0, none⟩ x).setCell ⟨b, 1, none⟩ y).setCell ⟨b, 2, none⟩ z).heap[k]? = W.heap[k]? := fun k hn => (Below.heap_setCell _ _ _ _ hn).trans ((Below.heap_setCell _ _ _ _ hn).trans (Below.heap_setCell _ _ _ _ hn))
  exact ⟨(World.cell?_of_block (a := ⟨b', 0, none⟩) (hk b' hne)).trans h.1, (World.cell?_of_block (a := ⟨b', 1, none⟩) (hk b' hne)).trans h.2.1, (World.cell?_of_block (a := ⟨b', 2, none⟩) (hk b' hne)).trans h.2.2⟩
section
variable {B db : Nat} {S : Nat → Prop} {s : DSt}
/-- while rows are laid: the disk, and the cells of the root that is returned -/
structure LyI (w W : World) (B db : Nat) (S S' : Nat → Prop) (s : DSt) : Prop where
  dk : DK W B db S' s
  n : ¬ S' w.heap.size
  st : StepV w W B S S'
  c0 : W.cell? ⟨w.heap.size, 0, none⟩ = some (.int .i64 0)
  c1 : W.cell? ⟨w.heap.size, 1, none⟩ = some (.int .i64 0)
  c2 : W.cell? ⟨w.heap.size, 2, none⟩ = some (.int .i64 0)
  f : ∀ j, W.frozen? ⟨w.heap.size, j, none⟩ = false
theorem LyI.lt {w W : World} {S' : Nat → Prop} (h : LyI w W B db S S' s) : w.heap.size < W.heap.size := World.block_lt_of_cell? _ _ h.c0
theorem LyI.on {w W W' : World} {S' : Nat → Prop} (h : LyI w W B db S S' s) (hb : Below W.heap.size W W') (hB : B ≤ w.heap.size) : LyI w W' B db S S' s := by
  have hl := h.lt
  exact ⟨h.dk.on hb, h.n, h.st.trans (.on (by omega) hb), cell_on hb h.c0, cell_on hb h.c1, cell_on hb h.c2, fun j => frozen_on hb hl (h.f j)⟩
theorem LyI.step {w W W' : World} {S' : Nat → Prop} {s' : DSt} (h : LyI w W B db S S' s) (hs : ActD W W' B db S' s') : ∃ S2, LyI w W' B db S S2 s' ∧ StepV W W' B S' S2 := by
  obtain ⟨S2, k1, k2⟩ := hs
  have f := k2.far w.heap.size h.lt h.n
  exact ⟨S2, ⟨k1, f.2, h.st.trans k2, (World.cell?_of_block (a := ⟨w.heap.size, 0, none⟩) f.1).trans h.c0, (World.cell?_of_block (a := ⟨w.heap.size, 1, none⟩) f.1).trans h.c1, (World.cell?_of_block (a := ⟨w.heap.size, 2, none⟩) f.1).trans h.c2, fun j => (World.frozen?_of_block (a := ⟨w.heap.size, j, none⟩) f.1).trans (h.f j)⟩, k2⟩
/-- the returned root's cells are laid -/
theorem LyI.set {w W : World} {S' : Nat → Prop} (h : LyI w W B db S S' s) (hB : B ≤ w.heap.size) (x y z : Value) : ActD w (((W.setCell ⟨w.heap.size, 0, none⟩ x).setCell ⟨w.heap.size, 1, none⟩ y).setCell ⟨w.heap.size, 2, none⟩ z) B db S s := by
  have hk : ∀ k, k ≠ w.heap.size → (((W.setCell ⟨w.heap.size, 0, none⟩ x).setCell ⟨w.heap.size, 1, none⟩ y).setCell ⟨w.heap.size, 2, none⟩ z).heap[k]? = W.heap[k]? := fun k hn => (Below.heap_setCell _ _ _ _ hn).trans ((Below.heap_setCell _ _ _ _ hn).trans (Below.heap_setCell _ _ _ _ hn))
  refine ⟨S', h.dk.kept (by simp) fun k e => hk k fun e2 => h.n (e2 ▸ e), ((h.st.bel.setCell (p := ⟨w.heap.size, 0, none⟩) hB x).setCell (p := ⟨w.heap.size, 1, none⟩) hB y).setCell (p := ⟨w.heap.size, 2, none⟩) hB z, fun j hj hn => ?_⟩
  obtain ⟨f1, f2⟩ := h.st.far j hj hn
  exact ⟨(hk j (by omega)).trans f1, f2⟩
set_option maxRecDepth 8000 in
set_option maxHeartbeats 8000000 in
theorem lay_any (area : Nat) (rows : List Chg) (ao : Option Addr) (cap : Nat) (w : World) (hk : DK w B db S s) (ha : area ≤ 1) (hn : 54 ≤ s.now.length) (hd : heldCh w ao rows) (hf : fineL rows) (hfew : rows.length ≤ 40) :
    Calls Tryz.prog 24 #[.pointer (some ⟨db, 0, none⟩), .int .i64 (area : Int), .slice ao rows.length cap] w fun e w' => ∃ rv, e = .returned (.tuple #[rv, errV (layR area rows s).1]) ∧ rootOk rv (layR area rows s).1 area (freshN s.now) (packB rows).size ∧ ActD w w' B db S (layR area rows s).2 := by
  have hps := pack_small hf hfew
  have hz : ∀ c ∈ rows, c.key.size ≤ 255 ∧ c.val.size ≤ 255 := fun c hc => by have := fault_key (hf.1 c hc).1; omega
  have hB := hk.lo
  have hB0 := below_alloc1 w (Obj.cells #[Value.int IntKind.i64 0, Value.int IntKind.i64 0, Value.int IntKind.i64 0] 64)
  have HPK := hide (pack_any rows ao cap _ (heldCh_on hB0 hd) (by omega) hz)
  have hly : LyI w (w.alloc (Obj.cells #[Value.int IntKind.i64 0, Value.int IntKind.i64 0, Value.int IntKind.i64 0] 64)) B db S S s := ⟨hk.on hB0, fun e => by have := hk.lt e; omega, .on hB hB0, cell_new _ _ _ 0, cell_new _ _ _ 1, cell_new _ _ _ 2, fun j => frozen_new _ _ _ j⟩
  have HLY := hide hly
  have hfr := fresh_small s.now
  rw [layR_parts]
  have hpk : ∀ (r : Nat × DSt), r = runD (restFrom (areaN area) (piecesB (packB rows))) s → r.2.now[50]? = s.now[50]? ∧ r.2.now.length = s.now.length := fun r e => by
    rw [e]
    refine ⟨run_keep _ 50 s fun o ho a d e => ?_, runD_len _ _⟩
    obtain ⟨q1, q2, _⟩ := rest_mem _ _ o ho a d e
    rw [pieces_len] at q2
    unfold areaN piecesN at *
    omega
  obtain ⟨r, hr⟩ : ∃ r, r = runD (restFrom (areaN area) (piecesB (packB rows))) s := ⟨_, rfl⟩
  have hr50 := hpk r hr
  have hSl : ∀ k, S k → k < w.heap.size := fun k e => hk.lt e
  have HLT : Hid (∀ W v, LyI w W B db S S s → W.ownsRow (w.heap.size + 1) 5 1 v (packB rows).size (Lib.strCells (packB rows)) → Calls Tryz.prog 44 #[.pointer (some ⟨db, 0, none⟩), .int .i64 (area : Int), v] W fun e w' => e = .returned (errV r.1) ∧ ∃ S', LyI w w' B db S S' r.2) := fun W v hl ho => by
    have go : ∀ ao' cap', v = .slice ao' (packB rows).size cap' → textIn ao' cap' (packB rows) → (0 < (packB rows).size → ¬ S (blkOf ao')) → (∀ j u, (Lib.strCells (packB rows))[j]? = some u → W.cell? ⟨blkOf ao', j, none⟩ = some u) → Calls Tryz.prog 44 #[.pointer (some ⟨db, 0, none⟩), .int .i64 (area : Int), v] W fun e w' => e = .returned (errV r.1) ∧ ∃ S', LyI w w' B db S S' r.2 := fun ao' cap' hv hti hbs hcs => by
      rw [hv, hr]
      refine (layText_any area (packB rows) ao' cap' W hl.dk ha (by omega) hti hbs hcs).mono ?_
      rintro e w' ⟨rfl, ha'⟩
      obtain ⟨S2, q, _⟩ := hl.step ha'
      exact ⟨rfl, S2, q⟩
    rcases ho.2 with ⟨e, e2⟩ | ⟨g, cap', cur, e, hb, hg, h1, h2, h3⟩
    · have et : packB rows = ⟨#[]⟩ := size_zero e2
      refine go none 0 (by rw [e, e2]) (.inl ⟨rfl, rfl, et⟩) (fun h => by omega) (fun j u h => ?_)
      rw [et] at h
      simp [Lib.strCells] at h
    · unfold maxLen at h2
      refine go _ cap' e (.inr ⟨g, rfl, h1, h2⟩) (fun _ e3 => by have := hSl _ e3; have e4 : blkOf (some ⟨g, 0, none⟩) = g := rfl; omega) (fun j u h => ?_)
      have := World.ownsRow.cells ho (g := g) (by rw [e]; rfl) j u h
      rw [Go.WideShapes.add_plain, Nat.zero_add] at this
      exact this
  clear hpk
  rw [← hr]
  have HRT := fun w' => hide (root_text area (freshN s.now) (packB rows).size ha (by omega) (by omega) w')
  have HRE : Hid (rootOf area (freshN s.now) rows = rootB area (freshN s.now) (packB rows).size) := rfl
  rw [HRE.out]
  clear HRE
  have hz0 : (w.alloc (Obj.cells #[Value.int IntKind.i64 0, Value.int IntKind.i64 0, Value.int IntKind.i64 0] 64)).heap.size = w.heap.size + 1 := by simp
  generalize hsz : (packB rows).size = size at *
  generalize rootB area (freshN s.now) size = rt at *
  have HR := hide hr
  have HR50 := hide hr50
  have HHK := hide hk
  clear hk hr hr50 hd hz hly
  go_enter Tryz.func24, Tryz.ntmps24
  go_wp2_with fail
  refine HPK.out.mono ?_
  rintro e w1 ⟨v1, rfl, ho1, hb1⟩
  rw [hsz, hz0] at ho1
  have HSZ := hide hsz
  clear hsz
  have hl1 := HLY.out.on hb1 hB
  obtain ⟨a1, c1, rfl⟩ : ∃ a1 c1, v1 = .slice a1 size c1 := by
    rcases ho1.2 with ⟨e, e2⟩ | ⟨g, cap', cur, e, _⟩
    · exact ⟨none, 0, by rw [e, e2]⟩
    · exact ⟨_, cap', e⟩
  have HC := hide (HLT.out _ _ hl1 ho1)
  clear hb1 ho1 hl1 hB0 HLY HPK hz0 HLT
  go_wp2_with fail
  refine HC.out.mono ?_
  rintro e w2 ⟨rfl, S2, hl2⟩
  clear HC
  have q0 := hl2.c0
  have q1 := hl2.c1
  have q2 := hl2.c2
  have qf := hl2.f
  have HL2 := hide hl2
  clear hl2
  by_cases h1 : r.1 = 0
  · rw [h1, errD_nil]
    have HH1 := hide h1
    clear h1
    clear q0 q1 q2 qf
    go_wp2_with fail
    refine (dflush_any _ HL2.out.dk).mono ?_
    rintro e w3 ⟨rfl, ha3⟩
    obtain ⟨S3, hl3, _⟩ := HL2.out.step ha3
    have HL3 := hide hl3
    have q0 := hl3.c0
    have q1 := hl3.c1
    have q2 := hl3.c2
    have qf := hl3.f
    clear ha3 hl3 HL2
    by_cases h2 : dstepF r.2 = 0
    · rw [h2, errD_nil]
      have hnow : (flushD r.2).now = r.2.now := by unfold flushD; rw [if_pos h2]; exact (dstepD_len _).1
      have hfn : freshN (flushD r.2).now = freshN s.now := by rw [hnow]; exact fresh_same HR50.out.1
      have hup := flush_up h2
      have HFR := hide (fresh_any w3 HL3.out.dk hup (by rw [hnow, HR50.out.2]; omega))
      rw [hfn] at HFR
      have HH2 := hide h2
      clear h2 hnow hfn hup q0 q1 q2 qf
      go_wp2_with fail
      refine HFR.out.mono ?_
      rintro e w4 ⟨rfl, hb4⟩
      have HL4 := hide (HL3.out.on hb4 hB)
      have hbA := below_alloc1 w4 (Obj.cells #[Value.int IntKind.i64 (area : Int), Value.int IntKind.i64 (freshN s.now : Int), Value.int IntKind.i64 (size : Int)] 64)
      have HL5 := hide (HL4.out.on hbA hB)
      have HNB : Hid (¬ S3 w4.heap.size ∧ w4.heap.size ≠ w.heap.size) := ⟨fun e => by have := HL4.out.dk.lt e; omega, by have := HL4.out.lt; omega⟩
      have g0 : (w4.alloc (Obj.cells #[Value.int IntKind.i64 (area : Int), Value.int IntKind.i64 (freshN s.now : Int), Value.int IntKind.i64 (size : Int)] 64)).cell? ⟨w4.heap.size, 0, none⟩ = some (.int .i64 (area : Int)) := cell_new _ _ _ 0
      have g1 : (w4.alloc (Obj.cells #[Value.int IntKind.i64 (area : Int), Value.int IntKind.i64 (freshN s.now : Int), Value.int IntKind.i64 (size : Int)] 64)).cell? ⟨w4.heap.size, 1, none⟩ = some (.int .i64 (freshN s.now : Int)) := cell_new _ _ _ 1
      have g2 : (w4.alloc (Obj.cells #[Value.int IntKind.i64 (area : Int), Value.int IntKind.i64 (freshN s.now : Int), Value.int IntKind.i64 (size : Int)] 64)).cell? ⟨w4.heap.size, 2, none⟩ = some (.int .i64 (size : Int)) := cell_new _ _ _ 2
      have HG := hide (And.intro g0 (And.intro g1 g2))
      have HZ4 : Hid (w4.heap.size < (w4.alloc (Obj.cells #[Value.int IntKind.i64 (area : Int), Value.int IntKind.i64 (freshN s.now : Int), Value.int IntKind.i64 (size : Int)] 64)).heap.size) := hide (by simp)
      clear hb4 hbA g0 g1 g2 HL3 HFR HL4
      go_wp2_with fail
      refine ((HRT _).out).mono ?_
      rintro e w5 ⟨rfl, hb5⟩
      have HL6 := hide (HL5.out.on hb5 hB)
      have HG5 : Hid (w5.cell? ⟨w4.heap.size, 0, none⟩ = some (.int .i64 (area : Int)) ∧ w5.cell? ⟨w4.heap.size, 1, none⟩ = some (.int .i64 (freshN s.now : Int)) ∧ w5.cell? ⟨w4.heap.size, 2, none⟩ = some (.int .i64 (size : Int)) ∧ w4.heap.size < w5.heap.size) := ⟨cell_on hb5 HG.out.1, cell_on hb5 HG.out.2.1, cell_on hb5 HG.out.2.2, Nat.lt_of_lt_of_le HZ4.out hb5.size⟩
      clear hb5 HG HZ4 HL5
      go_wp2_with fail
      refine (dwrite_any 0 rt _ HL6.out.dk).mono ?_
      rintro e w6 ⟨rfl, ha6⟩
      obtain ⟨S6, hl6, hs6⟩ := HL6.out.step ha6
      have f6 := hs6.far w4.heap.size HG5.out.2.2.2 HNB.out.1
      have g0 : w6.cell? ⟨w4.heap.size, 0, none⟩ = some (.int .i64 (area : Int)) := (World.cell?_of_block (a := ⟨w4.heap.size, 0, none⟩) f6.1).trans HG5.out.1
      have g1 : w6.cell? ⟨w4.heap.size, 1, none⟩ = some (.int .i64 (freshN s.now : Int)) := (World.cell?_of_block (a := ⟨w4.heap.size, 1, none⟩) f6.1).trans HG5.out.2.1
      have g2 : w6.cell? ⟨w4.heap.size, 2, none⟩ = some (.int .i64 (size : Int)) := (World.cell?_of_block (a := ⟨w4.heap.size, 2, none⟩) f6.1).trans HG5.out.2.2.1
      have HN6 := hide f6.2
      have HL7 := hide hl6
      have q0 := hl6.c0
      have q1 := hl6.c1
      have q2 := hl6.c2
      have qf := hl6.f
      have HZ6 : Hid (w4.heap.size < w6.heap.size) := World.block_lt_of_cell? _ _ g0
      clear ha6 hl6 hs6 f6 HL6 HG5
      generalize hs6e : dwriteD (flushD r.2) 0 rt = s6 at *
      have HE6 := hide hs6e
      clear hs6e
      by_cases h3 : dwriteF (flushD r.2) 0 rt = 0
      · rw [h3, errD_nil]
        have HH3 := hide h3
        clear h3
        have HFL : Hid (∀ W, LyI w W B db S S6 s6 → Calls Tryz.prog 45 #[.pointer (some ⟨db, 0, none⟩)] W fun e w' => e = .returned (errV (dstepF s6)) ∧ ActD W w' B db S6 (flushD s6)) := fun W h => dflush_any W h.dk
        have HLD := hide (HL7.out.on (Below.refl _ w6).drew hB)
        have hne := HNB.out.2
        go_wp2_with fail
        go_region_held3 (fun w' => w'.cell? ⟨w4.heap.size, 0, none⟩ = some (.int .i64 (area : Int)) ∧ w'.cell? ⟨w4.heap.size, 1, none⟩ = some (.int .i64 (freshN s.now : Int)) ∧ w'.cell? ⟨w4.heap.size, 2, none⟩ = some (.int .i64 (size : Int))) (first | go_keep | exact ⟨g0, g1, g2⟩ | exact HG7.out | exact keepO HNB.out.2 HG7.out) (first | (go_at_call 45; refine (HFL.out _ HLD.out).mono ?_; rintro e w7 ⟨rfl, ha7⟩; obtain ⟨S7, hl7, hs7⟩ := HLD.out.step ha7; have f7 := hs7.far w4.heap.size (by exact HZ6.out) HN6.out; have HG7 : Hid (w7.cell? ⟨w4.heap.size, 0, none⟩ = some (.int .i64 (area : Int)) ∧ w7.cell? ⟨w4.heap.size, 1, none⟩ = some (.int .i64 (freshN s.now : Int)) ∧ w7.cell? ⟨w4.heap.size, 2, none⟩ = some (.int .i64 (size : Int))) := ⟨(World.cell?_of_block (a := ⟨w4.heap.size, 0, none⟩) f7.1).trans g0, (World.cell?_of_block (a := ⟨w4.heap.size, 1, none⟩) f7.1).trans g1, (World.cell?_of_block (a := ⟨w4.heap.size, 2, none⟩) f7.1).trans g2⟩; have p0 := hl7.c0; have p1 := hl7.c1; have p2 := hl7.c2; have pf := hl7.f; have HL8 := hide hl7; clear ha7 hs7 f7 hl7))
        have hset := HL8.out.set hB (.int .i64 (area : Int)) (.int .i64 (freshN s.now : Int)) (.int .i64 (size : Int))
        obtain ⟨k0, k1, k2⟩ := keep3' (x := .int .i64 (area : Int)) (y := .int .i64 (freshN s.now : Int)) (z := .int .i64 (size : Int)) p0 p1 p2
        have HSET := hide hset
        clear hset g0 g1 g2 p0 p1 p2 q0 q1 q2
        go_wp2
        refine bodyPost_ret (v := .tuple #[.agg #[.int .i64 (area : Int), .int .i64 (freshN s.now : Int), .int .i64 (size : Int)], errV (dstepF s6)]) (by simp [results, Tryz.results24, go_sem, k0, k1, k2]) rfl ?_
        rw [HE6.out]
        exact ⟨_, rfl, ⟨_, _, _, rfl, fun _ => ⟨rfl, rfl, rfl⟩⟩, HSET.out⟩
      · rw [errD_pos h3]
        have HH3 := hide h3
        have HER : Hid (errV (dwriteF (flushD r.2) 0 rt) = .iface 57 (.int .i64 (dwriteF (flushD r.2) 0 rt))) := errD_pos h3
        have hset := HL7.out.set hB (.int .i64 0) (.int .i64 0) (.int .i64 0)
        obtain ⟨k0, k1, k2⟩ := keep3' (x := .int .i64 0) (y := .int .i64 0) (z := .int .i64 0) q0 q1 q2
        have HSET := hide hset
        clear h3 hset g0 g1 g2
        go_wp2
        refine bodyPost_ret (v := .tuple #[.agg #[.int .i64 0, .int .i64 0, .int .i64 0], .iface 57 (.int .i64 (dwriteF (flushD r.2) 0 rt))]) (by simp [results, Tryz.results24, go_sem, k0, k1, k2]) rfl ?_
        exact ⟨_, by rw [HER.out], ⟨0, 0, 0, rfl, fun e => absurd e HH3.out⟩, by rw [HE6.out]; exact HSET.out⟩
    · rw [errD_pos h2]
      have HH2 := hide h2
      have HER : Hid (errV (dstepF r.2) = .iface 57 (.int .i64 (dstepF r.2))) := errD_pos h2
      have hset := HL3.out.set hB (.int .i64 0) (.int .i64 0) (.int .i64 0)
      obtain ⟨k0, k1, k2⟩ := keep3' (x := .int .i64 0) (y := .int .i64 0) (z := .int .i64 0) q0 q1 q2
      have HSET := hide hset
      clear h2 hset
      go_wp2
      refine bodyPost_ret (v := .tuple #[.agg #[.int .i64 0, .int .i64 0, .int .i64 0], .iface 57 (.int .i64 (dstepF r.2))]) (by simp [results, Tryz.results24, go_sem, k0, k1, k2]) rfl ?_
      exact ⟨_, by rw [HER.out], ⟨0, 0, 0, rfl, fun e => absurd e HH2.out⟩, HSET.out⟩
  · rw [errD_pos h1]
    have HH1 := hide h1
    have HER : Hid (errV r.1 = .iface 57 (.int .i64 r.1)) := errD_pos h1
    have hset := HL2.out.set hB (.int .i64 0) (.int .i64 0) (.int .i64 0)
    obtain ⟨k0, k1, k2⟩ := keep3' (x := .int .i64 0) (y := .int .i64 0) (z := .int .i64 0) q0 q1 q2
    have HSET := hide hset
    clear h1 hset
    go_wp2
    refine bodyPost_ret (v := .tuple #[.agg #[.int .i64 0, .int .i64 0, .int .i64 0], .iface 57 (.int .i64 r.1)]) (by simp [results, Tryz.results24, go_sem, k0, k1, k2]) rfl ?_
    exact ⟨_, by rw [HER.out], ⟨0, 0, 0, rfl, fun e => absurd e HH1.out⟩, HSET.out⟩
end
end Go.Proofs.YtkfpfbkdalbjoaaGreat
