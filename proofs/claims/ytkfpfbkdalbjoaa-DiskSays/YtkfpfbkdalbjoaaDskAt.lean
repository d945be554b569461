/-
  A disk as it lies in memory: its header, its sectors, the rows of writes that are not kept; what stays of it where other blocks are changed.
-/
import Derived.Test.YtkfpfbkdalbjoaaDskL
import Derived.Test.YtkfpfbkdalbjoaaStepV
import Derived.Test.YtkfpfbkdalbjoaaErrV
namespace Go.Proofs.Ytkfpfbkdalbjoaa
open Go.RowKit Go.Joins

/-- the header -/
structure DHd (w : World) (db nb kb lb n : Nat) (next left : Int) (down : Bool) : Prop where
  c0 : w.cell? ⟨db, 0, none⟩ = some (.slice (some ⟨nb, 0, none⟩) n n)
  c1 : w.cell? ⟨db, 1, none⟩ = some (.slice (some ⟨kb, 0, none⟩) n n)
  c2 : w.cell? ⟨db, 2, none⟩ = some (.slice (some ⟨lb, 0, none⟩) n n)
  c3 : w.cell? ⟨db, 3, none⟩ = some (.int .i64 next)
  c4 : w.cell? ⟨db, 4, none⟩ = some (.int .i64 left)
  c5 : w.cell? ⟨db, 5, none⟩ = some (.bool down)
  soft : ∀ j, w.frozen? ⟨db, j, none⟩ = false
/-- what lies behind it -/
structure DBy (w : World) (B db nb kb lb n : Nat) (lv : List Value) (now kept : List ByteArray) (loose : List (List Wr)) : Prop where
  hn : w.heap[nb]? = some (.cells (now.flatMap secV).toArray 91 (0, 0))
  hk : w.heap[kb]? = some (.cells (kept.flatMap secV).toArray 91 (0, 0))
  hl : w.heap[lb]? = some (.cells lv.toArray 96 (0, 0))
  nn : now.length = n
  nk : kept.length = n
  nl : lv.length = n
  no : loose.length = n
  sn : ∀ s ∈ now, s.size = 96
  sk : ∀ s ∈ kept, s.size = 96
  own : ∀ i (h : i < lv.length) (h' : i < loose.length), ownW w B lv[i] loose[i]
  dis : ∀ i j (hi : i < lv.length) (hj : j < lv.length) k, lv[i].ownBlock = some k → lv[j].ownBlock = some k → i = j
  apo : ∀ i (hi : i < lv.length) k, lv[i].ownBlock = some k → k ≠ db ∧ k ≠ nb ∧ k ≠ kb ∧ k ≠ lb
  ap : db ≠ nb ∧ db ≠ kb ∧ db ≠ lb ∧ nb ≠ kb ∧ nb ≠ lb ∧ kb ≠ lb
  lo : B ≤ db ∧ B ≤ nb ∧ B ≤ kb ∧ B ≤ lb
  n1 : 1 ≤ n ∧ n ≤ 200
def inD (db nb kb lb : Nat) (lv : List Value) (k : Nat) : Prop := k = db ∨ k = nb ∨ k = kb ∨ k = lb ∨ ∃ i, ∃ h : i < lv.length, lv[i].ownBlock = some k
/-- the steps that are left, as the program has them -/
def leftOk (L left : Int) : Prop := max L (-1) = left ∧ -9223372036854775808 ≤ L ∧ L ≤ 9223372036854775807
/-- a disk, and its blocks -/
def DK (w : World) (B db : Nat) (S : Nat → Prop) (s : DSt) : Prop :=
  ∃ (nb kb lb n : Nat) (lv : List Value) (loose : List (List Wr)) (L : Int), DHd w db nb kb lb n ((s.wait.length % 64 : Nat) : Int) L s.down ∧ DBy w B db nb kb lb n lv s.now s.kept loose ∧ S = inD db nb kb lb lv ∧ LooseOk n s.wait loose ∧ (∀ x ∈ s.wait, x.2.size = 96) ∧ (s.down = false → leftOk L s.left) ∧ B ≤ w.heap.size
def ActD (w w' : World) (B db : Nat) (S : Nat → Prop) (s : DSt) : Prop := ∃ S', DK w' B db S' s ∧ StepV w w' B S S'
section
variable {w w' : World} {B db nb kb lb n : Nat} {S S' : Nat → Prop} {s : DSt} {lv : List Value} {now kpt : List ByteArray} {loose : List (List Wr)} {next left : Int} {down : Bool}
theorem DHd.kept (h : DHd w db nb kb lb n next left down) (hk : w'.heap[db]? = w.heap[db]?) : DHd w' db nb kb lb n next left down :=
  ⟨(World.cell?_of_block hk).trans h.c0, (World.cell?_of_block hk).trans h.c1, (World.cell?_of_block hk).trans h.c2, (World.cell?_of_block hk).trans h.c3, (World.cell?_of_block hk).trans h.c4, (World.cell?_of_block hk).trans h.c5, fun j => (World.frozen?_of_block hk).trans (h.soft j)⟩
theorem DHd.lt (h : DHd w db nb kb lb n next left down) : db < w.heap.size := World.block_lt_of_cell? _ _ h.c0
theorem DBy.kept (h : DBy w B db nb kb lb n lv now kpt loose) (hk : ∀ k, k ≠ db → inD db nb kb lb lv k → w'.heap[k]? = w.heap[k]?) : DBy w' B db nb kb lb n lv now kpt loose :=
  { h with
    hn := (hk nb h.ap.1.symm (.inr (.inl rfl))).trans h.hn
    hk := (hk kb h.ap.2.1.symm (.inr (.inr (.inl rfl)))).trans h.hk
    hl := (hk lb h.ap.2.2.1.symm (.inr (.inr (.inr (.inl rfl))))).trans h.hl
    own := fun i hi h' => ownW_kept (h.own i hi h') fun k e => hk k (h.apo i hi k e).1 (.inr (.inr (.inr (.inr ⟨i, hi, e⟩)))) }
theorem DBy.lt (h : DBy w B db nb kb lb n lv now kpt loose) (hd : db < w.heap.size) {k : Nat} (hk : inD db nb kb lb lv k) : k < w.heap.size := by
  rcases hk with rfl | rfl | rfl | rfl | ⟨i, hi, e⟩
  · exact hd
  · exact (Array.getElem?_eq_some_iff.1 h.hn).1
  · exact (Array.getElem?_eq_some_iff.1 h.hk).1
  · exact (Array.getElem?_eq_some_iff.1 h.hl).1
  · exact (World.ownsRow.lt (h.own i hi (by rw [h.no, ← h.nl]; exact hi)).1 k e).2
theorem DK.lt (h : DK w B db S s) {k : Nat} (hk : S k) : k < w.heap.size := by
  obtain ⟨nb, kb, lb, n, lv, loose, L, h1, h2, rfl, _⟩ := h
  exact h2.lt h1.lt hk
theorem DK.db_in (h : DK w B db S s) : S db := by
  obtain ⟨nb, kb, lb, n, lv, loose, L, h1, h2, rfl, _⟩ := h
  exact .inl rfl
theorem DK.low (h : DK w B db S s) {k : Nat} (hk : S k) : B ≤ k := by
  obtain ⟨nb, kb, lb, n, lv, loose, L, h1, h2, rfl, _⟩ := h
  rcases hk with rfl | rfl | rfl | rfl | ⟨i, hi, e⟩
  · exact h2.lo.1
  · exact h2.lo.2.1
  · exact h2.lo.2.2.1
  · exact h2.lo.2.2.2
  · exact (World.ownsRow.lt (h2.own i hi (by rw [h2.no, ← h2.nl]; exact hi)).1 k e).1
theorem DK.kept (h : DK w B db S s) (hs : w.heap.size ≤ w'.heap.size) (hk : ∀ k, S k → w'.heap[k]? = w.heap[k]?) : DK w' B db S s := by
  obtain ⟨nb, kb, lb, n, lv, loose, L, h1, h2, rfl, h4, h5, h6, h7⟩ := h
  exact ⟨nb, kb, lb, n, lv, loose, L, h1.kept (hk db (.inl rfl)), h2.kept fun k _ e => hk k e, rfl, h4, h5, h6, Nat.le_trans h7 hs⟩
theorem DK.on (h : DK w B db S s) (hb : Below w.heap.size w w') : DK w' B db S s := h.kept hb.size fun k hk => hb.block k (h.lt hk)
theorem DK.lo (h : DK w B db S s) : B ≤ w.heap.size := by
  obtain ⟨nb, kb, lb, n, lv, loose, L, h1, h2, rfl, h4, h5, h6, h7⟩ := h
  exact h7
theorem DK.many (h : DK w B db S s) : 1 ≤ s.now.length ∧ s.now.length ≤ 200 ∧ s.kept.length = s.now.length := by
  obtain ⟨nb, kb, lb, n, lv, loose, L, h1, h2, rfl, h4, h5, h6, h7⟩ := h
  have := h2.nn; have := h2.nk; have := h2.n1
  omega
theorem DK.whole (h : DK w B db S s) : (∀ x ∈ s.now, x.size = 96) ∧ (∀ x ∈ s.kept, x.size = 96) ∧ ∀ x ∈ s.wait, x.1 < s.now.length ∧ x.2.size = 96 := by
  obtain ⟨nb, kb, lb, n, lv, loose, L, h1, h2, rfl, h4, h5, h6, h7⟩ := h
  exact ⟨h2.sn, h2.sk, fun x hx => ⟨by rw [h2.nn]; exact h4.at_ x hx, h5 x hx⟩⟩
theorem ActD.after {w1 w2 : World} {S1 : Nat → Prop} (hs : StepV w w1 B S S1) (ha : ActD w1 w2 B db S1 s) : ActD w w2 B db S s := by
  obtain ⟨S2, hq, h2⟩ := ha
  exact ⟨S2, hq, hs.trans h2⟩
theorem DK.stay (h : DK w B db S s) (hb : Below w.heap.size w w') : ActD w w' B db S s := ⟨S, h.on hb, .on h.lo hb⟩
theorem ActD.post {w1 : World} (ha : ActD w w1 B db S s) (hb : Below w1.heap.size w1 w') : ActD w w' B db S s := by
  obtain ⟨S', hp, hs⟩ := ha
  exact ⟨S', hp.on hb, hs.trans (.on hp.lo hb)⟩
/-- a cell of the header is laid anew -/
theorem stepV_head (hS : S db) (hB : B ≤ db) (j : Nat) (v : Value) : StepV w (w.setCell ⟨db, j, none⟩ v) B S S :=
  ⟨(Below.refl _ _).setCell (p := ⟨db, j, none⟩) hB v, fun _ _ hn => ⟨Below.heap_setCell _ _ _ _ (fun e => hn (e ▸ hS)), hn⟩⟩
theorem DHd.left' (h : DHd w db nb kb lb n next left down) (v : Int) : DHd (w.setCell ⟨db, 4, none⟩ (.int .i64 v)) db nb kb lb n next v down :=
  ⟨(World.cell?_setCell_other _ _ _ _ (by simp)).trans h.c0, (World.cell?_setCell_other _ _ _ _ (by simp)).trans h.c1, (World.cell?_setCell_other _ _ _ _ (by simp)).trans h.c2, (World.cell?_setCell_other _ _ _ _ (by simp)).trans h.c3, World.cell?_setCell_same _ _ _ h.c4, (World.cell?_setCell_other _ _ _ _ (by simp)).trans h.c5, fun j => by rw [World.frozen?_setCell]; exact h.soft j⟩
theorem DHd.down' (h : DHd w db nb kb lb n next left down) (v : Bool) : DHd (w.setCell ⟨db, 5, none⟩ (.bool v)) db nb kb lb n next left v :=
  ⟨(World.cell?_setCell_other _ _ _ _ (by simp)).trans h.c0, (World.cell?_setCell_other _ _ _ _ (by simp)).trans h.c1, (World.cell?_setCell_other _ _ _ _ (by simp)).trans h.c2, (World.cell?_setCell_other _ _ _ _ (by simp)).trans h.c3, (World.cell?_setCell_other _ _ _ _ (by simp)).trans h.c4, World.cell?_setCell_same _ _ _ h.c5, fun j => by rw [World.frozen?_setCell]; exact h.soft j⟩
theorem DHd.next' (h : DHd w db nb kb lb n next left down) (v : Int) : DHd (w.setCell ⟨db, 3, none⟩ (.int .i64 v)) db nb kb lb n v left down :=
  ⟨(World.cell?_setCell_other _ _ _ _ (by simp)).trans h.c0, (World.cell?_setCell_other _ _ _ _ (by simp)).trans h.c1, (World.cell?_setCell_other _ _ _ _ (by simp)).trans h.c2, World.cell?_setCell_same _ _ _ h.c3, (World.cell?_setCell_other _ _ _ _ (by simp)).trans h.c4, (World.cell?_setCell_other _ _ _ _ (by simp)).trans h.c5, fun j => by rw [World.frozen?_setCell]; exact h.soft j⟩
theorem DBy.head (h : DBy w B db nb kb lb n lv now kpt loose) (j : Nat) (v : Value) : DBy (w.setCell ⟨db, j, none⟩ v) B db nb kb lb n lv now kpt loose := h.kept fun _ hk _ => Below.heap_setCell _ _ _ _ hk
end
end Go.Proofs.Ytkfpfbkdalbjoaa
