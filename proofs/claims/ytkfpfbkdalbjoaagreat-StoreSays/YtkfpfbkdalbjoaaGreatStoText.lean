/-
  What store.layText returns and leaves: a text on an area, a piece a sector.
-/
import Derived.Test.YtkfpfbkdalbjoaaGreatStoChunk
import Derived.Test.YtkfpfbkdalbjoaaGreatStoBld
namespace Go.Proofs.YtkfpfbkdalbjoaaGreat
open Go.RowKit Go.Joins Go.Shelf
attribute [local go_sem] Oper.semAt_some

theorem DK.cells {w : World} {B db : Nat} {S : Nat → Prop} {s : DSt} (h : DK w B db S s) {k : Nat} (hk : S k) : ∃ o : Obj, w.heap[k]? = some o ∧ o.isCells = true := by
  obtain ⟨nb, kb, lb, n, lv, loose, L, h1, h2, rfl, _⟩ := h
  rcases hk with rfl | rfl | rfl | rfl | ⟨i, hi, e⟩
  · exact cells_of_cell h1.c0
  · exact ⟨_, h2.hn, rfl⟩
  · exact ⟨_, h2.hk, rfl⟩
  · exact ⟨_, h2.hl, rfl⟩
  · have ho := (h2.own i hi (by rw [h2.no, ← h2.nl]; exact hi)).1
    rcases ho.2 with ⟨e2, _⟩ | ⟨g, cap, cur, e2, _, hg, _⟩
    · rw [e2] at e; cases e
    · rw [e2] at e
      have : g = k := by simpa [Value.ownBlock] using e
      subst this
      exact ⟨_, hg, rfl⟩
theorem DK.grown {w w' : World} {B db : Nat} {S : Nat → Prop} {s : DSt} {row : Option Nat} (h : DK w B db S s) (hg : w.grownBy w' row) (hr : ∀ r, row = some r → ∃ o : Obj, w.heap[r]? = some o ∧ o.isCells = false) : DK w' B db S s :=
  h.kept hg.size fun k hk => hg.block k (h.lt hk) fun e => by
    obtain ⟨o, h1, h2⟩ := h.cells hk
    obtain ⟨o', h3, h4⟩ := hr k e.symm
    rw [h1] at h3
    cases h3
    rw [h2] at h4
    cases h4
theorem keeps_step {w w' : World} {B db : Nat} {S S' : Nat → Prop} {s : DSt} (h : DK w B db S s) (hs : StepV w w' B S S') : KeepsOthers w w' :=
  ⟨hs.bel.size, fun k o hk ho => (hs.far k (Array.getElem?_eq_some_iff.1 hk).1 fun e => by
    obtain ⟨o', h1, h2⟩ := h.cells e
    rw [hk] at h1
    cases h1
    rw [h2] at ho
    cases ho).1.trans hk⟩
theorem piece_conv (W : World) (g : Nat) (t : ByteArray) (x : Nat) (hc : ∀ j u, (Lib.strCells t)[j]? = some u → W.cell? ⟨g, j, none⟩ = some u) : (convert 89 9 (pieceV g t x)).run Tryz.prog W = .ok (.string (pieceB t x)) W := by
  have hl : (pieceB t x).data.toList.length = min 96 (t.size - 96 * x) := by rw [data_len, piece_size]; omega
  have h := run_convert_bytes_back (P := Tryz.prog) W 89 9 5 ⟨g, 96 * x, none⟩ (min 96 (t.size - 96 * x)) (pieceB t x).data.toList Tryz.underlying89 Tryz.underlying5 Tryz.underlying9 (fun j hj => by
    rw [Go.Addr.add_mid]
    refine hc _ _ ?_
    unfold Lib.strCells
    have hd : (pieceB t x).data.toList = (t.data.toList.take (96 * x + 96)).drop (96 * x) := ext_data t _ _
    have hj2 : 96 * x + j < t.data.toList.length := by rw [data_len]; omega
    have he : (pieceB t x).data.toList[j] = t.data.toList[96 * x + j] := by
      simp only [hd]
      rw [List.getElem_drop, List.getElem_take]
    rw [List.getElem?_map, List.getElem?_eq_getElem hj2, he]
    rfl)
  rw [hl] at h
  exact h
theorem rest_append (l m : List ByteArray) : ∀ a, restFrom a (l ++ m) = restFrom a l ++ restFrom (a + l.length) m := by
  induction l with
  | nil => intro a; rfl
  | cons x l ih =>
    intro a
    show DOp.wr a x :: restFrom (a + 1) (l ++ m) = DOp.wr a x :: (restFrom (a + 1) l ++ restFrom (a + (l.length + 1)) m)
    rw [ih, show a + 1 + l.length = a + (l.length + 1) by omega]
/-- what has been laid of a text -/
def laidR (a : Nat) (t : ByteArray) (s : DSt) (pre : List Nat) : Nat × DSt := runD (restFrom a (pre.map (pieceB t))) s
theorem laid_snoc (a : Nat) (t : ByteArray) (s : DSt) (pre : List Nat) (x : Nat) (h : (laidR a t s pre).1 = 0) : laidR a t s (pre ++ [x]) = (dwriteF (laidR a t s pre).2 ((a + pre.length : Nat) : Int) (pieceB t x), dwriteD (laidR a t s pre).2 ((a + pre.length : Nat) : Int) (pieceB t x)) := by
  unfold laidR at h ⊢
  rw [List.map_append, rest_append, runD_append, if_pos h, List.length_map]
  exact runD_one _ _
theorem laid_stop {a : Nat} {t : ByteArray} {s : DSt} {k N : Nat} (hk : k ≤ N) (h : (laidR a t s (List.range k)).1 ≠ 0) : laidR a t s (List.range N) = laidR a t s (List.range k) := by
  obtain ⟨m, rfl⟩ : ∃ m, N = k + m := ⟨N - k, by omega⟩
  unfold laidR at h ⊢
  rw [List.range_add, List.map_append, rest_append, runD_append, if_neg h]
def inX (rb ab : Nat) (S : Nat → Prop) (k : Nat) : Prop := k = rb ∨ k = ab ∨ S k
/-- while a text is laid -/
structure LTX (wR W : World) (B db rb ab : Nat) (S : Nat → Prop) (s : DSt) : Prop where
  ex : ∃ S', DK W B db S' s ∧ ¬ S' rb ∧ ¬ S' ab ∧ StepV wR W B (inX rb ab S) (inX rb ab S')
theorem LTX.grown {wR W W' : World} {B db rb ab : Nat} {S : Nat → Prop} {s : DSt} {row : Option Nat} (h : LTX wR W B db rb ab S s) (hB : B ≤ wR.heap.size) (hg : W.grownBy W' row) (hr : ∀ r, row = some r → wR.heap.size ≤ r ∧ ∃ o : Obj, W.heap[r]? = some o ∧ o.isCells = false) : LTX wR W' B db rb ab S s := by
  obtain ⟨S', h1, h2, h3, h4⟩ := h
  refine ⟨S', h1.grown hg fun r e => (hr r e).2, h2, h3, h4.bel.grown hg (Nat.le_trans hB h4.bel.size) (fun k e => Nat.le_trans hB (hr k e).1), fun j hj hn => ?_⟩
  obtain ⟨f1, f2⟩ := h4.far j hj hn
  exact ⟨(hg.block j (Nat.lt_of_lt_of_le hj h4.bel.size) fun e => by have := (hr j e.symm).1; omega).trans f1, f2⟩
theorem cell_nlS (W : World) (v : Value) (t : TypeId) : (W.alloc (.cells #[v] t)).cell? ⟨W.heap.size, 0, none⟩ = some v ∧ (W.alloc (.cells #[v] t)).frozen? ⟨W.heap.size, 0, none⟩ = false := ⟨cell_new W #[v] t 0, frozen_new W #[v] t 0⟩
theorem cell_alS {W : World} {a : Addr} {v : Value} (o : Obj) (h : W.cell? a = some v ∧ W.frozen? a = false) : (W.alloc o).cell? a = some v ∧ (W.alloc o).frozen? a = false := ⟨cell_on (below_alloc1 _ _) h.1, frozen_on (below_alloc1 _ _) (World.block_lt_of_cell? _ _ h.1) h.2⟩
structure LTI (wR W : World) (B db rb ab : Nat) (S : Nat → Prop) (s : DSt) (a : Nat) (t : ByteArray) (pre : List Nat) : Prop where
  ok : (laidR a t s pre).1 = 0
  x : LTX wR W B db rb ab S (laidR a t s pre).2
  ca : W.cell? ⟨ab, 0, none⟩ = some (.int .i64 ((a + pre.length : Nat) : Int))
  fa : W.frozen? ⟨ab, 0, none⟩ = false
  cr : W.cell? ⟨rb, 0, none⟩ = some .nilIface
  fr : W.frozen? ⟨rb, 0, none⟩ = false
theorem LTI.grown {wR W W' : World} {B db rb ab : Nat} {S : Nat → Prop} {s : DSt} {a : Nat} {t : ByteArray} {pre : List Nat} {row : Option Nat} (h : LTI wR W B db rb ab S s a t pre) (hB : B ≤ wR.heap.size) (hg : W.grownBy W' row) (hr : ∀ r, row = some r → wR.heap.size ≤ r ∧ ∃ o : Obj, W.heap[r]? = some o ∧ o.isCells = false) : LTI wR W' B db rb ab S s a t pre :=
  ⟨h.ok, h.x.grown hB hg hr, cell_kept h.ca hg fun r e => (hr r e).2, (frozen_kept h.ca hg fun r e => (hr r e).2).trans h.fa, cell_kept h.cr hg fun r e => (hr r e).2, (frozen_kept h.cr hg fun r e => (hr r e).2).trans h.fr⟩
structure LTS (wR W : World) (B db rb ab : Nat) (S : Nat → Prop) (s : DSt) (a : Nat) (t : ByteArray) (pre : List Nat) : Prop where
  no : (laidR a t s pre).1 ≠ 0
  x : LTX wR W B db rb ab S (laidR a t s pre).2
  cr : W.cell? ⟨rb, 0, none⟩ = some (errV (laidR a t s pre).1)
theorem LTS.grown {wR W W' : World} {B db rb ab : Nat} {S : Nat → Prop} {s : DSt} {a : Nat} {t : ByteArray} {pre : List Nat} {row : Option Nat} (h : LTS wR W B db rb ab S s a t pre) (hB : B ≤ wR.heap.size) (hg : W.grownBy W' row) (hr : ∀ r, row = some r → wR.heap.size ≤ r ∧ ∃ o : Obj, W.heap[r]? = some o ∧ o.isCells = false) : LTS wR W' B db rb ab S s a t pre :=
  ⟨h.no, h.x.grown hB hg hr, cell_kept h.cr hg fun r e => (hr r e).2⟩
/-- a block of the world ahead that isn't among those is as it was -/
theorem LTX.far {wR W : World} {B db rb ab : Nat} {S : Nat → Prop} {s : DSt} (h : LTX wR W B db rb ab S s) {k : Nat} (hk : k < wR.heap.size) (h1 : k ≠ rb) (h2 : k ≠ ab) (h3 : ¬ S k) : W.heap[k]? = wR.heap[k]? := by
  obtain ⟨S', _, _, _, h4⟩ := h
  exact (h4.far k hk (fun e => e.elim h1 fun e => e.elim h2 h3)).1
theorem LTX.act {wR W : World} {B db rb ab : Nat} {S : Nat → Prop} {s : DSt} (h : LTX wR W B db rb ab S s) {w : World} (hw : Below w.heap.size w wR) (hB : B ≤ w.heap.size) (h1 : w.heap.size ≤ rb) (h2 : w.heap.size ≤ ab) : ActD w W B db S s := by
  obtain ⟨S', a, _, _, d⟩ := h
  refine ⟨S', a, (hw.mono hB).trans d.bel, fun j hj hn => ?_⟩
  obtain ⟨f1, f2⟩ := d.far j (Nat.lt_of_lt_of_le hj hw.size) (fun e => e.elim (fun e => by omega) fun e => e.elim (fun e => by omega) hn)
  exact ⟨f1.trans (hw.block j hj), fun e => f2 (.inr (.inr e))⟩
/-- a cell of one's own is laid anew -/
theorem LTX.setA {wR W : World} {B db rb ab : Nat} {S : Nat → Prop} {s : DSt} (h : LTX wR W B db rb ab S s) (hB : B ≤ ab) (v : Value) : LTX wR (W.setCell ⟨ab, 0, none⟩ v) B db rb ab S s := by
  obtain ⟨S', a, b, c, d⟩ := h
  refine ⟨S', a.kept (by simp) fun k e => Below.heap_setCell _ _ _ _ fun e2 => c (by have e3 : k = ab := e2; rw [← e3]; exact e), b, c, d.bel.setCell (p := ⟨ab, 0, none⟩) hB v, fun j hj hn => ?_⟩
  obtain ⟨f1, f2⟩ := d.far j hj hn
  exact ⟨(Below.heap_setCell _ _ _ _ fun e => hn (.inr (.inl e))).trans f1, f2⟩
theorem LTX.setR {wR W : World} {B db rb ab : Nat} {S : Nat → Prop} {s : DSt} (h : LTX wR W B db rb ab S s) (hB : B ≤ rb) (v : Value) : LTX wR (W.setCell ⟨rb, 0, none⟩ v) B db rb ab S s := by
  obtain ⟨S', a, b, c, d⟩ := h
  refine ⟨S', a.kept (by simp) fun k e => Below.heap_setCell _ _ _ _ fun e2 => b (by have e3 : k = rb := e2; rw [← e3]; exact e), b, c, d.bel.setCell (p := ⟨rb, 0, none⟩) hB v, fun j hj hn => ?_⟩
  obtain ⟨f1, f2⟩ := d.far j hj hn
  exact ⟨(Below.heap_setCell _ _ _ _ fun e => hn (.inl e)).trans f1, f2⟩
end Go.Proofs.YtkfpfbkdalbjoaaGreat

/-
  What store.layText returns and leaves (the walk).
-/
namespace Go.Proofs.YtkfpfbkdalbjoaaGreat
open Go.RowKit Go.Joins Go.Shelf
attribute [local go_sem] Oper.semAt_some

section
variable {B db : Nat} {S : Nat → Prop} {s : DSt}
set_option maxRecDepth 100000 in
set_option maxHeartbeats 4000000 in
theorem layText_any (area : Nat) (t : ByteArray) (ao : Option Addr) (cap : Nat) (w : World) (hk : DK w B db S s) (ha : area ≤ 1) (ht : t.size ≤ 2304) (hI : textIn ao cap t) (hbS : 0 < t.size → ¬ S (blkOf ao)) (hcs : ∀ j u, (Lib.strCells t)[j]? = some u → w.cell? ⟨blkOf ao, j, none⟩ = some u) :
    Calls Tryz.prog 44 #[.pointer (some ⟨db, 0, none⟩), .int .i64 (area : Int), .slice ao t.size cap] w fun e w' => e = .returned (errV (runD (restFrom (areaN area) (piecesB t)) s).1) ∧ ActD w w' B db S (runD (restFrom (areaN area) (piecesB t)) s).2 := by
  obtain ⟨F, hFw⟩ : ∃ F, F = Fence.wide := ⟨_, rfl⟩
  refine (callsIn_wide (n := 3)).1 ?_
  rw [← hFw]
  have hro : F.round = none := by rw [hFw]; rfl
  have lift : ∀ {m : Nat} {f : FuncId} {args : Array Value} {v : World} {R : Ending → World → Prop}, Calls Tryz.prog f args v R → CallsIn F m Tryz.prog f args v R := fun h => by rw [hFw]; exact callsIn_wide.2 h
  have f1 : F.fn 44 := by rw [hFw]; trivial
  have f2 : F.fn 33 := by rw [hFw]; trivial
  have f3 : F.fn 61 := by rw [hFw]; trivial
  have f4 : F.fn 79 := by rw [hFw]; trivial
  have f5 : F.fn 47 := by rw [hFw]; trivial
  clear hFw
  refine callsIn_of_wp_marks Tryz.func44 rfl f1 ?_ hro
  simp only [Tryz.ntmps44, List.size_toArray, List.length_cons, List.length_nil, Nat.reduceAdd, Nat.reduceSub, Array.replicate_succ, Array.replicate_zero, List.push_toArray, List.append_toArray, List.nil_append, List.cons_append]
  gi_wp2_with (first
    | (gi_at_call 33; refine (lift (sectorOf_any area ha _)).mono ?_; rintro e w' ⟨rfl, rfl⟩)
    | (gi_at_call 61; refine (chunk_in F 2 f3 hro _ _ _ _).mono ?_; rintro e w' ⟨rfl, rfl⟩))
  have z0 : (((((w.alloc (Obj.cells #[Value.pointer (some ⟨db, 0, none⟩)] 25)).alloc (Obj.cells #[Value.nilIface] 27)).alloc (Obj.cells #[Value.int IntKind.i64 ((areaN area : Nat) : Int)] 3)).alloc (Obj.cells #[Value.slice ao t.size cap] 89)).alloc (Obj.cells #[Value.int IntKind.i64 96] 3)).heap.size = w.heap.size + 1 + 1 + 1 + 1 + 1 := by simp
  have hwR : Below w.heap.size w (((((w.alloc (Obj.cells #[Value.pointer (some ⟨db, 0, none⟩)] 25)).alloc (Obj.cells #[Value.nilIface] 27)).alloc (Obj.cells #[Value.int IntKind.i64 ((areaN area : Nat) : Int)] 3)).alloc (Obj.cells #[Value.slice ao t.size cap] 89)).alloc (Obj.cells #[Value.int IntKind.i64 96] 3)) := (((((Below.refl _ w).alloc (Nat.le_refl _) _).alloc (by simp) _).alloc (by simp; omega) _).alloc (by simp; omega) _).alloc (by simp; omega) _
  have y0 := cell_nlS w (Value.pointer (some ⟨db, 0, none⟩)) 25
  have y1 := cell_nlS (w.alloc (Obj.cells #[Value.pointer (some ⟨db, 0, none⟩)] 25)) Value.nilIface 27
  have y2 := cell_nlS ((w.alloc (Obj.cells #[Value.pointer (some ⟨db, 0, none⟩)] 25)).alloc (Obj.cells #[Value.nilIface] 27)) (Value.int IntKind.i64 ((areaN area : Nat) : Int)) 3
  have y3 := cell_nlS (((w.alloc (Obj.cells #[Value.pointer (some ⟨db, 0, none⟩)] 25)).alloc (Obj.cells #[Value.nilIface] 27)).alloc (Obj.cells #[Value.int IntKind.i64 ((areaN area : Nat) : Int)] 3)) (Value.slice ao t.size cap) 89
  have y4 := cell_nlS ((((w.alloc (Obj.cells #[Value.pointer (some ⟨db, 0, none⟩)] 25)).alloc (Obj.cells #[Value.nilIface] 27)).alloc (Obj.cells #[Value.int IntKind.i64 ((areaN area : Nat) : Int)] 3)).alloc (Obj.cells #[Value.slice ao t.size cap] 89)) (Value.int IntKind.i64 96) 3
  simp only [World.size_alloc] at y1 y2 y3 y4
  replace y0 := cell_alS (Obj.cells #[Value.int IntKind.i64 96] 3) (cell_alS (Obj.cells #[Value.slice ao t.size cap] 89) (cell_alS (Obj.cells #[Value.int IntKind.i64 ((areaN area : Nat) : Int)] 3) (cell_alS (Obj.cells #[Value.nilIface] 27) y0)))
  replace y1 := cell_alS (Obj.cells #[Value.int IntKind.i64 96] 3) (cell_alS (Obj.cells #[Value.slice ao t.size cap] 89) (cell_alS (Obj.cells #[Value.int IntKind.i64 ((areaN area : Nat) : Int)] 3) y1))
  replace y2 := cell_alS (Obj.cells #[Value.int IntKind.i64 96] 3) (cell_alS (Obj.cells #[Value.slice ao t.size cap] 89) y2)
  replace y3 := cell_alS (Obj.cells #[Value.int IntKind.i64 96] 3) y3
  obtain ⟨d0, _⟩ := y0
  obtain ⟨d1, e1⟩ := y1
  obtain ⟨d2, e2⟩ := y2
  obtain ⟨d3, _⟩ := y3
  obtain ⟨d4, _⟩ := y4
  generalize (((((w.alloc (Obj.cells #[Value.pointer (some ⟨db, 0, none⟩)] 25)).alloc (Obj.cells #[Value.nilIface] 27)).alloc (Obj.cells #[Value.int IntKind.i64 ((areaN area : Nat) : Int)] 3)).alloc (Obj.cells #[Value.slice ao t.size cap] 89)).alloc (Obj.cells #[Value.int IntKind.i64 96] 3)) = wR at *
  have hB := hk.lo
  have hX0 : LTX wR wR B db (w.heap.size + 1) (w.heap.size + 1 + 1) S s := ⟨S, hk.on hwR, fun e => by have := hk.lt e; omega, fun e => by have := hk.lt e; omega, StepV.refl (by omega)⟩
  have hnS : ∀ k, w.heap.size ≤ k → ¬ S k := fun k h e => by have := hk.lt e; omega
  have hcw : ∀ j u, (Lib.strCells t)[j]? = some u → wR.cell? ⟨blkOf ao, j, none⟩ = some u := fun j u h => cell_on hwR (hcs j u h)
  have HAR : Hid (areaN area + 24 ≤ 50 ∧ 1 ≤ areaN area) := hide (by unfold areaN; omega)
  have HPN : Hid (piecesN t.size ≤ 24) := hide (by unfold piecesN; omega)
  have HHK := hide hk
  have HBL : Hid (∀ j u, (Lib.strCells t)[j]? = some u → blkOf ao < w.heap.size ∧ ¬ S (blkOf ao)) := fun j u h => ⟨World.block_lt_of_cell? _ _ (hcs j u h), hbS (by have := (List.getElem?_eq_some_iff.1 h).1; rw [Lib.strCells_length] at this; omega)⟩
  clear hk hcs hbS
  have HN0 : Hid (((areaN area : Nat) : Int) = ((areaN area + ([] : List Nat).length : Nat) : Int)) := rfl
  refine wpIn_rangeFunc_ownH hro (by decide) (gf := 79) (lb := #[.pointer (some ⟨w.heap.size + 1 + 1 + 1, 0, none⟩), .pointer (some ⟨w.heap.size + 1 + 1 + 1 + 1, 0, none⟩)]) rfl f4 (enters_of Tryz.func79 (by kernel_rfl) rfl)
    (chunk_stops F 2 f4 hro (by decide) (w.heap.size + 1 + 1 + 1) (w.heap.size + 1 + 1 + 1 + 1) ao cap t (by omega) wR (by omega) (by omega) d3 d4 hI) (fun h k => keepK.trans h k) (fun W l o o' hl h1 _ _ => ⟨World.putObj_heap_other (by omega), World.putObj_heap_other (by omega)⟩) (Below.refl _ _) (fun _ => rfl)
    (fun pre W => LTI wR W B db (w.heap.size + 1) (w.heap.size + 1 + 1) S s (areaN area) t pre)
    (fun c pre W => c = .ret ∧ LTS wR W B db (w.heap.size + 1) (w.heap.size + 1 + 1) S s (areaN area) t pre)
    (fun p W W' row hs hg hr => hs.grown (by omega) hg hr) (fun c p W W' row hs hg hr => ⟨hs.1, hs.2.grown (by omega) hg hr⟩)
    ⟨rfl, hX0, by rw [← HN0.out]; exact d2, e2, d1, e1⟩
    (fun x a' W => a' = { tmps := #[.pointer (some ⟨db, 0, none⟩), .int .i64 (area : Int), .slice ao t.size cap, .pointer (some ⟨w.heap.size, 0, none⟩), undef, undef, .pointer (some ⟨w.heap.size + 1, 0, none⟩), .pointer (some ⟨w.heap.size + 1 + 1, 0, none⟩), pieceV (blkOf ao) t x, undef, .int .i64 (area : Int), .int .i64 ((areaN area : Nat) : Int), .slice ao t.size cap, .func (.func 79) #[] #[.pointer (some ⟨w.heap.size + 1 + 1 + 1, 0, none⟩), .pointer (some ⟨w.heap.size + 1 + 1 + 1 + 1, 0, none⟩)], pieceV (blkOf ao) t x, undef, undef, undef, undef, undef, undef, undef, undef, undef, undef], defers := [] })
    (fun x a' p W W' row hs hg hr => hs) ?assign ?body ?done ?stop
  case assign =>
    rintro l pre x W K hL hK
    gi_wp2
    exact hK _ _ (KeepsFrom.refl _ _) (keepK.refl _ _ _) hL rfl
  case body =>
    rintro l pre x a' W hl ⟨r, hr⟩ hL rfl hlt
    have cd : W.cell? ⟨w.heap.size, 0, none⟩ = some (.pointer (some ⟨db, 0, none⟩)) := (World.cell?_of_block (a := ⟨w.heap.size, 0, none⟩) (hL.x.far (k := w.heap.size) (by omega) (by omega) (by omega) (hnS _ (by omega)))).trans d0
    have hcv := piece_conv W (blkOf ao) t x (fun j u h => (World.cell?_of_block (a := ⟨blkOf ao, j, none⟩) (hL.x.far (k := blkOf ao) (by have := (HBL.out j u h).1; omega) (by have := (HBL.out j u h).1; omega) (by have := (HBL.out j u h).1; omega) (HBL.out j u h).2)).trans (hcw j u h))
    have ca := hL.ca
    have hsn := laid_snoc (areaN area) t s pre x hL.ok
    obtain ⟨S', hk', hr1, ha1, hst⟩ := hL.x.ex
    have HWR := hide (dwrite_any ((areaN area + pre.length : Nat) : Int) (pieceB t x) W hk')
    have hai : ((areaN area + pre.length : Nat) : Int) ≤ 100 := by have := HAR.out; have := HPN.out; omega
    have hai0 : (0 : Int) ≤ ((areaN area + pre.length : Nat) : Int) := by omega
    have HAI : Hid (((areaN area + pre.length : Nat) : Int) + 1 = ((areaN area + (pre ++ [x]).length : Nat) : Int)) := hide (by rw [List.length_append]; simp; omega)
    have HL := hide hL
    have HST := hide hst
    have HK' := hide hk'
    have HSN := hide hsn
    have HCR := hide (And.intro hL.cr (And.intro hL.fr hL.fa))
    clear hL hst hk' hsn
    generalize areaN area + pre.length = at0 at *
    generalize pieceB t x = pc at *
    generalize pieceV (blkOf ao) t x = pv at *
    generalize dwriteF (laidR (areaN area) t s pre).2 (at0 : Int) pc = f at *
    generalize dwriteD (laidR (areaN area) t s pre).2 (at0 : Int) pc = s2 at *
    have HX2 : Hid (∀ W2, ActD W W2 B db S' s2 → LTX wR W2 B db (w.heap.size + 1) (w.heap.size + 1 + 1) S s2 ∧ KeepsFrom wR.heap.size W W2 ∧ keepK (w.heap.size + 1 + 1 + 1) (w.heap.size + 1 + 1 + 1 + 1) W W2 ∧ W2.cell? ⟨w.heap.size + 1 + 1, 0, none⟩ = some (.int .i64 (at0 : Int)) ∧ W2.frozen? ⟨w.heap.size + 1 + 1, 0, none⟩ = false ∧ W2.cell? ⟨w.heap.size + 1, 0, none⟩ = some .nilIface ∧ W2.frozen? ⟨w.heap.size + 1, 0, none⟩ = false) := fun W2 ⟨S2, hk2, hs2⟩ => by
      have hzW := HST.out.bel.size
      have fr := hs2.far (w.heap.size + 1) (by omega) hr1
      have fa := hs2.far (w.heap.size + 1 + 1) (by omega) ha1
      have fs := hs2.far (w.heap.size + 1 + 1 + 1) (by omega) (fun e => (HST.out.far (w.heap.size + 1 + 1 + 1) (by omega) (fun e => e.elim (fun e => by omega) fun e => e.elim (fun e => by omega) (hnS _ (by omega)))).2 (.inr (.inr e)))
      have fn := hs2.far (w.heap.size + 1 + 1 + 1 + 1) (by omega) (fun e => (HST.out.far (w.heap.size + 1 + 1 + 1 + 1) (by omega) (fun e => e.elim (fun e => by omega) fun e => e.elim (fun e => by omega) (hnS _ (by omega)))).2 (.inr (.inr e)))
      refine ⟨⟨S2, hk2, fr.2, fa.2, HST.out.bel.trans hs2.bel, fun j hj hn => ?_⟩, (keeps_step HK'.out hs2).from _, ⟨fs.1, fn.1⟩, (World.cell?_of_block (a := ⟨w.heap.size + 1 + 1, 0, none⟩) fa.1).trans ca, (World.frozen?_of_block (a := ⟨w.heap.size + 1 + 1, 0, none⟩) fa.1).trans HCR.out.2.2, (World.cell?_of_block (a := ⟨w.heap.size + 1, 0, none⟩) fr.1).trans HCR.out.1, (World.frozen?_of_block (a := ⟨w.heap.size + 1, 0, none⟩) fr.1).trans HCR.out.2.1⟩
      obtain ⟨g1, g2⟩ := HST.out.far j hj hn
      obtain ⟨g3, g4⟩ := hs2.far j (by omega) (fun e => g2 (.inr (.inr e)))
      exact ⟨g3.trans g1, fun e => e.elim (fun e => g2 (.inl e)) fun e => e.elim (fun e => g2 (.inr (.inl e))) g4⟩
    by_cases hf : f = 0
    · subst hf
      rw [errD_nil] at HWR
      gi_wp2_with (gi_at_call 47; refine (CallsIn.inRound l (lift HWR.out)).mono ?_; rintro e W2 ⟨rfl, ha2⟩; obtain ⟨x2, kf2, kp2, ca2, fa2, cr2, fr2⟩ := HX2.out W2 ha2; have HX := hide x2; have HKF := hide kf2; have HKP := hide kp2; have HCR2 := hide (And.intro cr2 fr2); clear x2 kf2 kp2 cr2 fr2 ha2)
      refine ⟨HKF.out.trans ((KeepsOthers.setCell _ _ _).from _), keepK.trans HKP.out ⟨Below.heap_setCell _ _ _ _ (by show w.heap.size + 1 + 1 + 1 ≠ w.heap.size + 1 + 1; omega), Below.heap_setCell _ _ _ _ (by show w.heap.size + 1 + 1 + 1 + 1 ≠ w.heap.size + 1 + 1; omega)⟩, ?_⟩
      refine ⟨by rw [HSN.out], by rw [HSN.out]; exact HX.out.setA (by omega) _, ?_, by rw [World.frozen?_setCell]; exact fa2, (World.cell?_setCell_other _ _ _ _ (by simp)).trans HCR2.out.1, by rw [World.frozen?_setCell]; exact HCR2.out.2⟩
      rw [← HAI.out]
      exact World.cell?_setCell_same _ _ _ ca2
    · rw [errD_pos hf] at HWR
      have HF := hide hf
      gi_wp2_with (gi_at_call 47; refine (CallsIn.inRound l (lift HWR.out)).mono ?_; rintro e W2 ⟨rfl, ha2⟩; obtain ⟨x2, kf2, kp2, ca2, fa2, cr2, fr2⟩ := HX2.out W2 ha2; have HX := hide x2; have HKF := hide kf2; have HKP := hide kp2; clear x2 kf2 kp2 ha2)
      refine ⟨HKF.out.trans ((KeepsOthers.setCell _ _ _).from _), rfl, by rw [HSN.out]; exact HF.out, by rw [HSN.out]; exact HX.out.setR (by omega) _, ?_⟩
      rw [HSN.out, errD_pos HF.out]
      exact World.cell?_setCell_same _ _ _ cr2
  case done =>
    rintro D ys W hD rfl hL hK
    have hr := hL.cr
    have hfz := hL.fr
    have HL := hide hL
    clear hL
    gi_wp2
    have hK' := (KeepsOthers.setCell W ⟨w.heap.size + 1, 0, none⟩ .nilIface).same D _ hK rfl
    refine ⟨by simp, .inl ⟨_, _, rfl, run_takeDeferred hK', ?_⟩⟩
    have hc5 := cell_kept (World.cell?_setCell_same W ⟨w.heap.size + 1, 0, none⟩ .nilIface hr) (grownBy_putObj' _ D (.deferred none)) (fun r e => by cases e; exact ⟨_, hK', rfl⟩)
    have hX5 := (HL.out.x.setR (by omega) .nilIface).grown (by omega) (grownBy_putObj' _ D (.deferred none)) (fun r e => by cases e; exact ⟨hD, _, hK', rfl⟩)
    have hlr : laidR (areaN area) t s (List.range (piecesN t.size)) = runD (restFrom (areaN area) (piecesB t)) s := rfl
    have hok := HL.out.ok
    rw [hlr] at hX5 hok
    refine ⟨.nilIface, ?_, by rw [hok]; rfl, hX5.act hwR hB (by omega) (by omega)⟩
    simp [results, Tryz.f44, go_sem, hc5]
  case stop =>
    rintro D c pre W hD ⟨k, hk, hpre⟩ ⟨rfl, hL⟩ hK
    gi_wp2
    refine ⟨by simp, .inl ⟨_, _, rfl, run_takeDeferred hK, ?_⟩⟩
    have hc5 := cell_kept hL.cr (grownBy_putObj' _ D (.deferred none)) (fun r e => by cases e; exact ⟨_, hK, rfl⟩)
    have hX5 := hL.x.grown (by omega) (grownBy_putObj' _ D (.deferred none)) (fun r e => by cases e; exact ⟨hD, _, hK, rfl⟩)
    have hno := hL.no
    subst hpre
    have hlr : runD (restFrom (areaN area) (piecesB t)) s = laidR (areaN area) t s (List.range k) := laid_stop (N := piecesN t.size) hk hno
    rw [← hlr] at hX5 hc5
    refine ⟨errV (runD (restFrom (areaN area) (piecesB t)) s).1, ?_, rfl, hX5.act hwR hB (by omega) (by omega)⟩
    simp [results, Tryz.f44, go_sem, hc5]
end
end Go.Proofs.YtkfpfbkdalbjoaaGreat
