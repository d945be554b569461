/-
  A view as it lies in memory: what it is a view of, since when, its changes and what it has read, each list a row of its own. Nothing of the program's functions is named here.
-/
import Derived.Test.YtjphbmdmnicjpacSpAppend
import Derived.Test.YtjphbmdmnicjpacChgList
import Derived.Test.YtjphbmdmnicjpacChgRise
import Derived.Test.YtjphbmdmnicjpacVerMem
namespace Go.Proofs.Ytjphbmdmnicjpac
open Go.RowKit Go.Joins

theorem own_shape {w : World} {B : Nat} {e : TypeId} {size : Nat} {v : Value} {n : Nat} {xs : List Value} (h : w.ownsRow B e size v n xs) : ∃ ao cap, v = .slice ao n cap := by
  rcases own_form h with ⟨hv, h0⟩ | ⟨g, cap, hv, _⟩
  · exact ⟨none, 0, by rw [h0]; exact hv⟩
  · exact ⟨_, cap, hv⟩
structure VW (w : World) (B wb vb : Nat) (since : Int) (cv rv : Value) (chs : List Chg) (rds : List (ByteArray × ByteArray)) : Prop where
  c0 : w.cell? ⟨wb, 0, none⟩ = some (.pointer (some ⟨vb, 0, none⟩))
  c1 : w.cell? ⟨wb, 1, none⟩ = some (.int .i64 since)
  c2 : w.cell? ⟨wb, 2, none⟩ = some cv
  c3 : w.cell? ⟨wb, 3, none⟩ = some rv
  soft : ∀ j, w.frozen? ⟨wb, j, none⟩ = false
  chs : ownCh w B cv chs
  rds : ownSp w B rv rds
  lo : B ≤ wb
  nc : cv.ownBlock ≠ some wb
  nr : rv.ownBlock ≠ some wb
  ap : apV cv rv
/-- a block of it -/
def inVW (wb : Nat) (cv rv : Value) (k : Nat) : Prop := k = wb ∨ cv.ownBlock = some k ∨ rv.ownBlock = some k
theorem VW.lt {w : World} {B wb vb : Nat} {since : Int} {cv rv : Value} {chs : List Chg} {rds : List (ByteArray × ByteArray)} (h : VW w B wb vb since cv rv chs rds) {k : Nat} (hk : inVW wb cv rv k) : k < w.heap.size := by
  rcases hk with rfl | e | e
  · exact World.block_lt_of_cell? _ _ h.c0
  · exact (World.ownsRow.lt h.chs k e).2
  · exact (World.ownsRow.lt h.rds k e).2
theorem VW.low {w : World} {B wb vb : Nat} {since : Int} {cv rv : Value} {chs : List Chg} {rds : List (ByteArray × ByteArray)} (h : VW w B wb vb since cv rv chs rds) {k : Nat} (hk : inVW wb cv rv k) : B ≤ k := by
  rcases hk with rfl | e | e
  · exact h.lo
  · exact (World.ownsRow.lt h.chs k e).1
  · exact (World.ownsRow.lt h.rds k e).1
theorem VW.kept {w w' : World} {B wb vb : Nat} {since : Int} {cv rv : Value} {chs : List Chg} {rds : List (ByteArray × ByteArray)} (h : VW w B wb vb since cv rv chs rds) (hk : ∀ k, inVW wb cv rv k → w'.heap[k]? = w.heap[k]?) : VW w' B wb vb since cv rv chs rds where
  c0 := (World.cell?_of_block (w := w) (hk wb (.inl rfl))).trans h.c0
  c1 := (World.cell?_of_block (w := w) (hk wb (.inl rfl))).trans h.c1
  c2 := (World.cell?_of_block (w := w) (hk wb (.inl rfl))).trans h.c2
  c3 := (World.cell?_of_block (w := w) (hk wb (.inl rfl))).trans h.c3
  soft := fun j => (World.frozen?_of_block (w := w) (hk wb (.inl rfl))).trans (h.soft j)
  chs := own_block h.chs fun k e => hk k (.inr (.inl e))
  rds := own_block h.rds fun k e => hk k (.inr (.inr e))
  lo := h.lo
  nc := h.nc
  nr := h.nr
  ap := h.ap
theorem VW.on {w w' : World} {B wb vb : Nat} {since : Int} {cv rv : Value} {chs : List Chg} {rds : List (ByteArray × ByteArray)} (h : VW w B wb vb since cv rv chs rds) (hb : Below w.heap.size w w') : VW w' B wb vb since cv rv chs rds := h.kept fun k hk => hb.block k (h.lt hk)
/-- other changes, of a row that is none of the others -/
theorem VW.setC {w : World} {B wb vb : Nat} {since : Int} {cv rv cv' : Value} {chs chs' : List Chg} {rds : List (ByteArray × ByteArray)} (h : VW w B wb vb since cv rv chs rds) (ho : ownCh w B cv' chs') (hf : ∀ k, cv'.ownBlock = some k → ¬ inVW wb cv rv k) :
    VW (w.setCell ⟨wb, 2, none⟩ cv') B wb vb since cv' rv chs' rds where
  c0 := (World.cell?_setCell_other _ _ _ _ (by simp)).trans h.c0
  c1 := (World.cell?_setCell_other _ _ _ _ (by simp)).trans h.c1
  c2 := World.cell?_setCell_same _ _ _ h.c2
  c3 := (World.cell?_setCell_other _ _ _ _ (by simp)).trans h.c3
  soft := fun j => by rw [World.frozen?_setCell]; exact h.soft j
  chs := own_block ho fun k e => Below.heap_setCell _ _ _ _ (fun e' => hf k e (.inl e'))
  rds := own_block h.rds fun k e => Below.heap_setCell _ _ _ _ (fun e' => h.nr (by rw [e, e']))
  lo := h.lo
  nc := fun e => hf wb e (.inl rfl)
  nr := h.nr
  ap := fun k e e' => hf k e (.inr (.inr e'))
/-- what is read told anew: its row has grown, or is another one -/
theorem VW.setR {w w3 : World} {B wb vb : Nat} {since : Int} {cv rv rv' : Value} {chs : List Chg} {rds rds' : List (ByteArray × ByteArray)} (h : VW w B wb vb since cv rv chs rds) (hg : w.grownBy w3 rv.ownBlock) (ho : ownSp w3 B rv' rds') (hf : ∀ k, rv'.ownBlock = some k → rv.ownBlock = some k ∨ w.heap.size ≤ k) :
    VW (w3.setCell ⟨wb, 3, none⟩ rv') B wb vb since cv rv' chs rds' := by
  have bw : w3.heap[wb]? = w.heap[wb]? := hg.block wb (h.lt (.inl rfl)) (Ne.symm h.nr)
  have nw : ∀ k, rv'.ownBlock = some k → k ≠ wb := fun k e e' => by
    rcases hf k e with e2 | e2
    · exact h.nr (by rw [e2, e'])
    · have := h.lt (k := wb) (.inl rfl); omega
  exact {
    c0 := (World.cell?_setCell_other _ _ _ _ (by simp)).trans ((World.cell?_of_block (w := w) bw).trans h.c0)
    c1 := (World.cell?_setCell_other _ _ _ _ (by simp)).trans ((World.cell?_of_block (w := w) bw).trans h.c1)
    c2 := (World.cell?_setCell_other _ _ _ _ (by simp)).trans ((World.cell?_of_block (w := w) bw).trans h.c2)
    c3 := World.cell?_setCell_same _ _ _ ((World.cell?_of_block (w := w) bw).trans h.c3)
    soft := fun j => by rw [World.frozen?_setCell]; exact (World.frozen?_of_block (w := w) bw).trans (h.soft j)
    chs := own_block h.chs fun k e => (Below.heap_setCell _ _ _ _ (fun e' => h.nc (by rw [e, e']))).trans (hg.block k (World.ownsRow.lt h.chs k e).2 (fun e' => h.ap k e e'.symm))
    rds := own_block ho fun k e => Below.heap_setCell _ _ _ _ (nw k e)
    lo := h.lo
    nc := h.nc
    nr := fun e => nw wb e rfl
    ap := fun k e e' => by
      rcases hf k e' with e2 | e2
      · exact h.ap k e e2
      · have := (World.ownsRow.lt h.chs k e).2; omega }
theorem VW.down {w : World} {B B' wb vb : Nat} {since : Int} {cv rv : Value} {chs : List Chg} {rds : List (ByteArray × ByteArray)} (h : VW w B wb vb since cv rv chs rds) (hB : B' ≤ B) : VW w B' wb vb since cv rv chs rds :=
  ⟨h.c0, h.c1, h.c2, h.c3, h.soft, ownCh_le h.chs hB, ownsRow_le h.rds hB, Nat.le_trans hB h.lo, h.nc, h.nr, h.ap⟩
/-- what is left alone: all that is none of its blocks -/
def farW (w w' : World) (wb : Nat) (cv rv cv' rv' : Value) : Prop := ∀ j, j < w.heap.size → ¬ inVW wb cv rv j → w'.heap[j]? = w.heap[j]? ∧ ¬ inVW wb cv' rv' j
theorem farW.refl (w : World) (wb : Nat) (cv rv : Value) : farW w w wb cv rv cv rv := fun _ _ h => ⟨rfl, h⟩
theorem farW.trans {w w1 w2 : World} {wb : Nat} {cv rv cv1 rv1 cv2 rv2 : Value} (h : farW w w1 wb cv rv cv1 rv1) (hs : w.heap.size ≤ w1.heap.size) (h' : farW w1 w2 wb cv1 rv1 cv2 rv2) : farW w w2 wb cv rv cv2 rv2 := fun j hj hn => by
  obtain ⟨a, b⟩ := h j hj hn
  obtain ⟨c, d⟩ := h' j (Nat.lt_of_lt_of_le hj hs) b
  exact ⟨c.trans a, d⟩
theorem farW.on {w w' : World} {wb : Nat} {cv rv : Value} (hb : Below w.heap.size w w') : farW w w' wb cv rv cv rv := fun j hj hn => ⟨hb.block j hj, hn⟩
theorem farW.setC {w : World} {wb : Nat} {cv rv cv' : Value} {n : Nat} (hf : ∀ k, cv'.ownBlock = some k → n ≤ k) {u : Value} : ∀ j, j < n → ¬ inVW wb cv rv j → (w.setCell ⟨wb, 2, none⟩ u).heap[j]? = w.heap[j]? ∧ ¬ inVW wb cv' rv j := fun j hj hn => by
  refine ⟨Below.heap_setCell _ _ _ _ (fun e => hn (.inl e)), ?_⟩
  rintro (e | e | e)
  · exact hn (.inl e)
  · have := hf j e; omega
  · exact hn (.inr (.inr e))
theorem VS_farW {w w' : World} {B vb mb n wb : Nat} {now : Int} {D : DataW Value} {g : ByteArray → Value} {R : ByteArray → List Ver} {cv rv cv' rv' : Value} (h : VS w B vb mb now n D g R) (hf : farW w w' wb cv rv cv' rv') (ha : ∀ k, inVS vb mb g k → ¬ inVW wb cv rv k) : VS w' B vb mb now n D g R ∧ ∀ k, inVS vb mb g k → ¬ inVW wb cv' rv' k :=
  ⟨h.kept fun k hk => (hf k (h.lt hk) (ha k hk)).1, fun k hk => (hf k (h.lt hk) (ha k hk)).2⟩
theorem VW_farW {w w' : World} {B vb wb ob : Nat} {since : Int} {chs : List Chg} {rds : List (ByteArray × ByteArray)} {co ro cv rv cv' rv' : Value} (h : VW w B ob vb since co ro chs rds) (hf : farW w w' wb cv rv cv' rv') (ha : ∀ k, inVW ob co ro k → ¬ inVW wb cv rv k) : VW w' B ob vb since co ro chs rds ∧ ∀ k, inVW ob co ro k → ¬ inVW wb cv' rv' k :=
  ⟨h.kept fun k hk => (hf k (h.lt hk) (ha k hk)).1, fun k hk => (hf k (h.lt hk) (ha k hk)).2⟩
end Go.Proofs.Ytjphbmdmnicjpac
