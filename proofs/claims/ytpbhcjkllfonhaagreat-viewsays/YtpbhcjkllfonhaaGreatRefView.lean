/-
  The document's own view as it lies in memory, and what its acts make of it: View.note, View.Put of haywainref.
-/
import Derived.Test.YtpbhcjkllfonhaaGreatViewPV
import Derived.Test.YtpbhcjkllfonhaaGreatRefPut
import Derived.Test.YtpbhcjkllfonhaaGreatRefKeyM
import Derived.Test.YtpbhcjkllfonhaaGreatChgLight
import Derived.Test.YtpbhcjkllfonhaaGreatSpOn
import Derived.Deep.Upon
namespace Go.Proofs.YtpbhcjkllfonhaaGreat
open Go.RowKit Go.Joins Go.Shelf Go.WideShapes
attribute [local go_sem ↓] Go.wp_at_zero Go.wp_at_succ

def atB (ao : Option Addr) (k : Nat) : Prop := ∃ off, ao = some ⟨k, off, none⟩
structure RWx (w : World) (rb : Nat) (ra : Option Addr) (rc : Nat) (ca : Option Addr) (cc : Nat) (sa : Option Addr) (sc : Nat) (P : Rws) (since : Int) (chs : List Chg) (rds : Rws) : Prop where
  c0 : w.cell? ⟨rb, 0, none⟩ = some (.slice ra P.length rc)
  c1 : w.cell? ⟨rb, 1, none⟩ = some (.int .i64 since)
  c2 : w.cell? ⟨rb, 2, none⟩ = some (.slice ca chs.length cc)
  c3 : w.cell? ⟨rb, 3, none⟩ = some (.slice sa rds.length sc)
  soft : ∀ j, w.frozen? ⟨rb, j, none⟩ = false
  hP : heldSp w ra P
  nP : ra = none → rc = 0 ∧ P = []
  hC : heldCh w ca chs
  hR : heldSp w sa rds
def inRW (rb : Nat) (ra ca sa : Option Addr) (P : Rws) (chs : List Chg) (rds : Rws) (k : Nat) : Prop := k = rb ∨ (P ≠ [] ∧ atB ra k) ∨ (chs ≠ [] ∧ atB ca k) ∨ (rds ≠ [] ∧ atB sa k)
theorem heldCh_lt {w : World} {ao : Option Addr} {l : List Chg} (h : heldCh w ao l) (hne : l ≠ []) {k : Nat} (e : atB ao k) : k < w.heap.size := by
  obtain ⟨off, rfl⟩ := e
  rcases h with e' | ⟨b', off', e', hs⟩
  · exact absurd e' hne
  · cases e'
    exact World.block_lt_of_cell? _ _ (hs 0 (List.length_pos_iff.2 hne)).1
theorem heldSp_lt {w : World} {ao : Option Addr} {l : Rws} (h : heldSp w ao l) (hne : l ≠ []) {k : Nat} (e : atB ao k) : k < w.heap.size := by
  obtain ⟨off, rfl⟩ := e
  rcases h with e' | ⟨b', off', e', hs⟩
  · exact absurd e' hne
  · cases e'
    exact World.block_lt_of_cell? _ _ (hs 0 (List.length_pos_iff.2 hne)).1
theorem heldCh_kept {w w' : World} {ao : Option Addr} {l : List Chg} (h : heldCh w ao l) (hk : l ≠ [] → ∀ k, atB ao k → w'.heap[k]? = w.heap[k]?) : heldCh w' ao l := by
  rcases h with h | ⟨b, off, rfl, h⟩
  · exact .inl h
  · by_cases h0 : l = []
    · exact .inl h0
    · have e := hk h0 b ⟨off, rfl⟩
      exact .inr ⟨b, off, rfl, fun i hi => ⟨(World.cell?_of_block (w := w) e).trans (h i hi).1, (World.cell?_of_block (w := w) e).trans (h i hi).2.1, (World.cell?_of_block (w := w) e).trans (h i hi).2.2⟩⟩
theorem heldSp_kept {w w' : World} {ao : Option Addr} {l : Rws} (h : heldSp w ao l) (hk : l ≠ [] → ∀ k, atB ao k → w'.heap[k]? = w.heap[k]?) : heldSp w' ao l := by
  rcases h with h | ⟨b, off, rfl, h⟩
  · exact .inl h
  · by_cases h0 : l = []
    · exact .inl h0
    · have e := hk h0 b ⟨off, rfl⟩
      exact .inr ⟨b, off, rfl, fun i hi => ⟨(World.cell?_of_block (w := w) e).trans (h i hi).1, (World.cell?_of_block (w := w) e).trans (h i hi).2⟩⟩
theorem RWx.lt {w : World} {rb : Nat} {ra ca sa : Option Addr} {rc cc sc : Nat} {P : Rws} {since : Int} {chs : List Chg} {rds : Rws} (h : RWx w rb ra rc ca cc sa sc P since chs rds) {k : Nat} (hk : inRW rb ra ca sa P chs rds k) : k < w.heap.size := by
  rcases hk with rfl | ⟨hne, e⟩ | ⟨hne, e⟩ | ⟨hne, e⟩
  · exact World.block_lt_of_cell? _ _ h.c0
  · exact heldSp_lt h.hP hne e
  · exact heldCh_lt h.hC hne e
  · exact heldSp_lt h.hR hne e
theorem RWx.kept {w w' : World} {rb : Nat} {ra ca sa : Option Addr} {rc cc sc : Nat} {P : Rws} {since : Int} {chs : List Chg} {rds : Rws} (h : RWx w rb ra rc ca cc sa sc P since chs rds) (hk : ∀ k, inRW rb ra ca sa P chs rds k → w'.heap[k]? = w.heap[k]?) : RWx w' rb ra rc ca cc sa sc P since chs rds where
  c0 := (World.cell?_of_block (w := w) (hk rb (.inl rfl))).trans h.c0
  c1 := (World.cell?_of_block (w := w) (hk rb (.inl rfl))).trans h.c1
  c2 := (World.cell?_of_block (w := w) (hk rb (.inl rfl))).trans h.c2
  c3 := (World.cell?_of_block (w := w) (hk rb (.inl rfl))).trans h.c3
  soft := fun j => (World.frozen?_of_block (w := w) (hk rb (.inl rfl))).trans (h.soft j)
  hP := heldSp_kept h.hP fun hne k e => hk k (.inr (.inl ⟨hne, e⟩))
  nP := h.nP
  hC := heldCh_kept h.hC fun hne k e => hk k (.inr (.inr (.inl ⟨hne, e⟩)))
  hR := heldSp_kept h.hR fun hne k e => hk k (.inr (.inr (.inr ⟨hne, e⟩)))
/-- the document's view; G: its blocks and those of its lists -/
def RW (w : World) (rb : Nat) (G : Nat → Prop) (P : Rws) (since : Int) (chs : List Chg) (rds : Rws) : Prop := ∃ ra rc ca cc sa sc, RWx w rb ra rc ca cc sa sc P since chs rds ∧ (G = inRW rb ra ca sa P chs rds) ∧ (∀ k, atB ra k → P ≠ [] → k ≠ rb) ∧ (∀ k, atB ca k → chs ≠ [] → k ≠ rb) ∧ (∀ k, atB sa k → rds ≠ [] → k ≠ rb)
theorem RW.kept {w w' : World} {rb : Nat} {G : Nat → Prop} {P : Rws} {since : Int} {chs : List Chg} {rds : Rws} (h : RW w rb G P since chs rds) (hk : ∀ k, G k → w'.heap[k]? = w.heap[k]?) : RW w' rb G P since chs rds := by
  obtain ⟨ra, rc, ca, cc, sa, sc, h1, rfl, h2, h3, h4⟩ := h
  exact ⟨ra, rc, ca, cc, sa, sc, h1.kept hk, rfl, h2, h3, h4⟩
theorem RW.lt {w : World} {rb : Nat} {G : Nat → Prop} {P : Rws} {since : Int} {chs : List Chg} {rds : Rws} (h : RW w rb G P since chs rds) {k : Nat} (hk : G k) : k < w.heap.size := by
  obtain ⟨ra, rc, ca, cc, sa, sc, h1, rfl, h2, h3, h4⟩ := h
  exact h1.lt hk
theorem RW.on {w w' : World} {rb : Nat} {G : Nat → Prop} {P : Rws} {since : Int} {chs : List Chg} {rds : Rws} (h : RW w rb G P since chs rds) (hb : Below w.heap.size w w') : RW w' rb G P since chs rds := h.kept fun k hk => hb.block k (h.lt hk)
/-- all but its own block is left alone -/
structure StepR (w w' : World) (B rb : Nat) (G G' : Nat → Prop) : Prop where
  bel : Below B w w'
  far : ∀ j, j < w.heap.size → j ≠ rb → w'.heap[j]? = w.heap[j]?
  out : ∀ j, j < w.heap.size → ¬ G j → ¬ G' j
theorem StepR.trans {w w1 w2 : World} {B rb : Nat} {G G1 G2 : Nat → Prop} (h : StepR w w1 B rb G G1) (h' : StepR w1 w2 B rb G1 G2) : StepR w w2 B rb G G2 :=
  ⟨h.bel.trans h'.bel, fun j hj hn => (h'.far j (Nat.lt_of_lt_of_le hj h.bel.size) hn).trans (h.far j hj hn), fun j hj hn => h'.out j (Nat.lt_of_lt_of_le hj h.bel.size) (h.out j hj hn)⟩
theorem StepR.on {w w' : World} {B rb : Nat} {G : Nat → Prop} (hB : B ≤ w.heap.size) (hb : Below w.heap.size w w') : StepR w w' B rb G G := ⟨hb.mono hB, fun j hj _ => hb.block j hj, fun _ _ h => h⟩
/-- behind an act of the document's view -/
def ActR (w w' : World) (B rb : Nat) (G : Nat → Prop) (P : Rws) (since : Int) (chs : List Chg) (rds : Rws) : Prop := ∃ G', RW w' rb G' P since chs rds ∧ StepR w w' B rb G G'
theorem act_same {w w' : World} {B rb : Nat} {G : Nat → Prop} {P : Rws} {since : Int} {chs : List Chg} {rds : Rws} (h : RW w rb G P since chs rds) (hB : B ≤ w.heap.size) (hb : Below w.heap.size w w') : ActR w w' B rb G P since chs rds := ⟨G, h.on hb, .on hB hb⟩
/-- other changes, that lie in new memory or where they lay -/
theorem act_setC {w w1 : World} {B rb : Nat} {ra ca sa : Option Addr} {rc cc sc : Nat} {P : Rws} {since : Int} {chs : List Chg} {rds : Rws} (h : RWx w rb ra rc ca cc sa sc P since chs rds) (h2 : ∀ k, atB ra k → P ≠ [] → k ≠ rb) (h4 : ∀ k, atB sa k → rds ≠ [] → k ≠ rb) (hB : B ≤ w.heap.size) (hrb : B ≤ rb) (hb : Below w.heap.size w w1)
    {ca' : Option Addr} {cc' : Nat} {chs' : List Chg} (hh : heldCh w1 ca' chs') (hn : ∀ k, atB ca' k → chs' ≠ [] → w.heap.size ≤ k) : ActR w (w1.setCell ⟨rb, 2, none⟩ (.slice ca' chs'.length cc')) B rb (inRW rb ra ca sa P chs rds) P since chs' rds := by
  have h1 := h.kept (w' := w1) fun k hk => hb.block k (h.lt hk)
  have hlt := h.lt (k := rb) (.inl rfl)
  have hs : ∀ k, k ≠ rb → (w1.setCell ⟨rb, 2, none⟩ (.slice ca' chs'.length cc')).heap[k]? = w1.heap[k]? := fun k hk => Below.heap_setCell _ _ _ _ hk
  refine ⟨inRW rb ra ca' sa P chs' rds, ⟨ra, rc, ca', cc', sa, sc, ?_, rfl, h2, fun k e hne => by have := hn k e hne; omega, h4⟩, (hb.mono hB).setCell (p := ⟨rb, 2, none⟩) hrb _, fun j hj hnj => (hs j hnj).trans (hb.block j hj), fun j hj hnj => ?_⟩
  · exact {
      c0 := (World.cell?_setCell_other _ _ _ _ (by simp)).trans h1.c0
      c1 := (World.cell?_setCell_other _ _ _ _ (by simp)).trans h1.c1
      c2 := World.cell?_setCell_same _ _ _ h1.c2
      c3 := (World.cell?_setCell_other _ _ _ _ (by simp)).trans h1.c3
      soft := fun j => by rw [World.frozen?_setCell]; exact h1.soft j
      hP := heldSp_kept h1.hP fun hne k e => hs k (h2 k e hne)
      nP := h.nP
      hC := heldCh_kept hh fun hne k e => hs k (by have := hn k e hne; omega)
      hR := heldSp_kept h1.hR fun hne k e => hs k (h4 k e hne) }
  · rintro (e | e | ⟨hne, e⟩ | e)
    · exact hnj (.inl e)
    · exact hnj (.inr (.inl e))
    · have := hn j e hne; omega
    · exact hnj (.inr (.inr (.inr e)))
theorem act_setR {w w1 : World} {B rb : Nat} {ra ca sa : Option Addr} {rc cc sc : Nat} {P : Rws} {since : Int} {chs : List Chg} {rds : Rws} (h : RWx w rb ra rc ca cc sa sc P since chs rds) (h2 : ∀ k, atB ra k → P ≠ [] → k ≠ rb) (h3 : ∀ k, atB ca k → chs ≠ [] → k ≠ rb) (hB : B ≤ w.heap.size) (hrb : B ≤ rb) (hb : Below w.heap.size w w1)
    {sa' : Option Addr} {sc' : Nat} {rds' : Rws} (hh : heldSp w1 sa' rds') (hn : ∀ k, atB sa' k → rds' ≠ [] → w.heap.size ≤ k) : ActR w (w1.setCell ⟨rb, 3, none⟩ (.slice sa' rds'.length sc')) B rb (inRW rb ra ca sa P chs rds) P since chs rds' := by
  have h1 := h.kept (w' := w1) fun k hk => hb.block k (h.lt hk)
  have hlt := h.lt (k := rb) (.inl rfl)
  have hs : ∀ k, k ≠ rb → (w1.setCell ⟨rb, 3, none⟩ (.slice sa' rds'.length sc')).heap[k]? = w1.heap[k]? := fun k hk => Below.heap_setCell _ _ _ _ hk
  refine ⟨inRW rb ra ca sa' P chs rds', ⟨ra, rc, ca, cc, sa', sc', ?_, rfl, h2, h3, fun k e hne => by have := hn k e hne; omega⟩, (hb.mono hB).setCell (p := ⟨rb, 3, none⟩) hrb _, fun j hj hnj => (hs j hnj).trans (hb.block j hj), fun j hj hnj => ?_⟩
  · exact {
      c0 := (World.cell?_setCell_other _ _ _ _ (by simp)).trans h1.c0
      c1 := (World.cell?_setCell_other _ _ _ _ (by simp)).trans h1.c1
      c2 := (World.cell?_setCell_other _ _ _ _ (by simp)).trans h1.c2
      c3 := World.cell?_setCell_same _ _ _ h1.c3
      soft := fun j => by rw [World.frozen?_setCell]; exact h1.soft j
      hP := heldSp_kept h1.hP fun hne k e => hs k (h2 k e hne)
      nP := h.nP
      hC := heldCh_kept h1.hC fun hne k e => hs k (h3 k e hne)
      hR := heldSp_kept hh fun hne k e => hs k (by have := hn k e hne; omega) }
  · rintro (e | e | e | ⟨hne, e⟩)
    · exact hnj (.inl e)
    · exact hnj (.inr (.inl e))
    · exact hnj (.inr (.inr (.inl e)))
    · have := hn j e hne; omega
end Go.Proofs.YtpbhcjkllfonhaaGreat
