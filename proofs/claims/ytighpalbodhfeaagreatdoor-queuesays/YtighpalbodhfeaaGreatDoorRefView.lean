/-
  The document's own view as it lies in memory, and what its acts make of it: View.note, View.Put of haywainref.
-/
import Derived.Test.YtighpalbodhfeaaGreatDoorViewScan
import Derived.Test.YtighpalbodhfeaaGreatDoorRefPut0
import Derived.Test.YtighpalbodhfeaaGreatDoorSpOn
import Derived.Deep.Upon
import Derived.Test.YtighpalbodhfeaaGreatDoorChgMem
namespace Go.Proofs.YtighpalbodhfeaaGreatDoor
open Go.RowKit Go.Joins Go.Shelf Go.WideShapes
attribute [local go_sem ↓] Go.wp_at_zero Go.wp_at_succ

def atB (ao : Option Addr) (k : Nat) : Prop := ∃ off, ao = some ⟨k, off, none⟩
structure RWx (w : World) (rb : Nat) (ra : Option Addr) (rc : Nat) (ca : Option Addr) (cc : Nat) (sa : Option Addr) (sc : Nat) (P : Rws) (since : Int) (chs : List Chg) (rds : Rws) : Prop where
  c0 : w.cell? ⟨rb, 0, none⟩ = some (.slice ra P.length rc)
  c1 : w.cell? ⟨rb, 1, none⟩ = some (.int .i64 since)
  c2 : w.cell? ⟨rb, 2, none⟩ = some (.slice ca chs.length cc)
  c3 : w.cell? ⟨rb, 3, none⟩ = some (.slice sa rds.length sc)
  soft : ∀ j, w.frozen? ⟨rb, j, none⟩ = false
  hP : heldSp w ra P
  nP : ra = none → rc = 0 ∧ P = []
  hC : heldCh w ca chs
  hR : heldSp w sa rds
def inRW (rb : Nat) (ra ca sa : Option Addr) (P : Rws) (chs : List Chg) (rds : Rws) (k : Nat) : Prop := k = rb ∨ (P ≠ [] ∧ atB ra k) ∨ (chs ≠ [] ∧ atB ca k) ∨ (rds ≠ [] ∧ atB sa k)
theorem heldCh_lt {w : World} {ao : Option Addr} {l : List Chg} (h : heldCh w ao l) (hne : l ≠ []) {k : Nat} (e : atB ao k) : k < w.heap.size := by
  obtain ⟨off, rfl⟩ := e
  rcases h with e' | ⟨b', off', e', hs⟩
  · exact absurd e' hne
  · cases e'
    exact World.block_lt_of_cell? _ _ (hs 0 (List.length_pos_iff.2 hne)).1
theorem heldSp_lt {w : World} {ao : Option Addr} {l : Rws} (h : heldSp w ao l) (hne : l ≠ []) {k : Nat} (e : atB ao k) : k < w.heap.size := by
  obtain ⟨off, rfl⟩ := e
  rcases h with e' | ⟨b', off', e', hs⟩
  · exact absurd e' hne
  · cases e'
    exact World.block_lt_of_cell? _ _ (hs 0 (List.length_pos_iff.2 hne)).1
theorem heldCh_kept {w w' : World} {ao : Option Addr} {l : List Chg} (h : heldCh w ao l) (hk : l ≠ [] → ∀ k, atB ao k → w'.heap[k]? = w.heap[k]?) : heldCh w' ao l := by
  rcases h with h | ⟨b, off, rfl, h⟩
  · exact .inl h
  · by_cases h0 : l = []
    · exact .inl h0
    · have e := hk h0 b ⟨off, rfl⟩
      exact .inr ⟨b, off, rfl, fun i hi => ⟨(World.cell?_of_block (w := w) e).trans (h i hi).1, (World.cell?_of_block (w := w) e).trans (h i hi).2.1, (World.cell?_of_block (w := w) e).trans (h i hi).2.2⟩⟩
theorem heldSp_kept {w w' : World} {ao : Option Addr} {l : Rws} (h : heldSp w ao l) (hk : l ≠ [] → ∀ k, atB ao k → w'.heap[k]? = w.heap[k]?) : heldSp w' ao l := by
  rcases h with h | ⟨b, off, rfl, h⟩
  · exact .inl h
  · by_cases h0 : l = []
    · exact .inl h0
    · have e := hk h0 b ⟨off, rfl⟩
      exact .inr ⟨b, off, rfl, fun i hi => ⟨(World.cell?_of_block (w := w) e).trans (h i hi).1, (World.cell?_of_block (w := w) e).trans (h i hi).2⟩⟩
theorem RWx.lt {w : World} {rb : Nat} {ra ca sa : Option Addr} {rc cc sc : Nat} {P : Rws} {since : Int} {chs : List Chg} {rds : Rws} (h : RWx w rb ra rc ca cc sa sc P since chs rds) {k : Nat} (hk : inRW rb ra ca sa P chs rds k) : k < w.heap.size := by
  rcases hk with rfl | ⟨hne, e⟩ | ⟨hne, e⟩ | ⟨hne, e⟩
  · exact World.block_lt_of_cell? _ _ h.c0
  · exact heldSp_lt h.hP hne e
  · exact heldCh_lt h.hC hne e
  · exact heldSp_lt h.hR hne e
theorem RWx.kept {w w' : World} {rb : Nat} {ra ca sa : Option Addr} {rc cc sc : Nat} {P : Rws} {since : Int} {chs : List Chg} {rds : Rws} (h : RWx w rb ra rc ca cc sa sc P since chs rds) (hk : ∀ k, inRW rb ra ca sa P chs rds k → w'.heap[k]? = w.heap[k]?) : RWx w' rb ra rc ca cc sa sc P since chs rds where
  c0 := (World.cell?_of_block (w := w) (hk rb (.inl rfl))).trans h.c0
  c1 := (World.cell?_of_block (w := w) (hk rb (.inl rfl))).trans h.c1
  c2 := (World.cell?_of_block (w := w) (hk rb (.inl rfl))).trans h.c2
  c3 := (World.cell?_of_block (w := w) (hk rb (.inl rfl))).trans h.c3
  soft := fun j => (World.frozen?_of_block (w := w) (hk rb (.inl rfl))).trans (h.soft j)
  hP := heldSp_kept h.hP fun hne k e => hk k (.inr (.inl ⟨hne, e⟩))
  nP := h.nP
  hC := heldCh_kept h.hC fun hne k e => hk k (.inr (.inr (.inl ⟨hne, e⟩)))
  hR := heldSp_kept h.hR fun hne k e => hk k (.inr (.inr (.inr ⟨hne, e⟩)))
/-- the document's view; G: its blocks and those of its lists -/
def RW (w : World) (rb : Nat) (G : Nat → Prop) (P : Rws) (since : Int) (chs : List Chg) (rds : Rws) : Prop := ∃ ra rc ca cc sa sc, RWx w rb ra rc ca cc sa sc P since chs rds ∧ (G = inRW rb ra ca sa P chs rds) ∧ (∀ k, atB ra k → P ≠ [] → k ≠ rb) ∧ (∀ k, atB ca k → chs ≠ [] → k ≠ rb) ∧ (∀ k, atB sa k → rds ≠ [] → k ≠ rb)
theorem RW.kept {w w' : World} {rb : Nat} {G : Nat → Prop} {P : Rws} {since : Int} {chs : List Chg} {rds : Rws} (h : RW w rb G P since chs rds) (hk : ∀ k, G k → w'.heap[k]? = w.heap[k]?) : RW w' rb G P since chs rds := by
  obtain ⟨ra, rc, ca, cc, sa, sc, h1, rfl, h2, h3, h4⟩ := h
  exact ⟨ra, rc, ca, cc, sa, sc, h1.kept hk, rfl, h2, h3, h4⟩
theorem RW.lt {w : World} {rb : Nat} {G : Nat → Prop} {P : Rws} {since : Int} {chs : List Chg} {rds : Rws} (h : RW w rb G P since chs rds) {k : Nat} (hk : G k) : k < w.heap.size := by
  obtain ⟨ra, rc, ca, cc, sa, sc, h1, rfl, h2, h3, h4⟩ := h
  exact h1.lt hk
theorem RW.on {w w' : World} {rb : Nat} {G : Nat → Prop} {P : Rws} {since : Int} {chs : List Chg} {rds : Rws} (h : RW w rb G P since chs rds) (hb : Below w.heap.size w w') : RW w' rb G P since chs rds := h.kept fun k hk => hb.block k (h.lt hk)
/-- all but its own block is left alone -/
structure StepR (w w' : World) (B rb : Nat) (G G' : Nat → Prop) : Prop where
  bel : Below B w w'
  far : ∀ j, j < w.heap.size → j ≠ rb → w'.heap[j]? = w.heap[j]?
  out : ∀ j, j < w.heap.size → ¬ G j → ¬ G' j
theorem StepR.trans {w w1 w2 : World} {B rb : Nat} {G G1 G2 : Nat → Prop} (h : StepR w w1 B rb G G1) (h' : StepR w1 w2 B rb G1 G2) : StepR w w2 B rb G G2 :=
  ⟨h.bel.trans h'.bel, fun j hj hn => (h'.far j (Nat.lt_of_lt_of_le hj h.bel.size) hn).trans (h.far j hj hn), fun j hj hn => h'.out j (Nat.lt_of_lt_of_le hj h.bel.size) (h.out j hj hn)⟩
theorem StepR.on {w w' : World} {B rb : Nat} {G : Nat → Prop} (hB : B ≤ w.heap.size) (hb : Below w.heap.size w w') : StepR w w' B rb G G := ⟨hb.mono hB, fun j hj _ => hb.block j hj, fun _ _ h => h⟩
/-- behind an act of the document's view -/
def ActR (w w' : World) (B rb : Nat) (G : Nat → Prop) (P : Rws) (since : Int) (chs : List Chg) (rds : Rws) : Prop := ∃ G', RW w' rb G' P since chs rds ∧ StepR w w' B rb G G'
theorem act_same {w w' : World} {B rb : Nat} {G : Nat → Prop} {P : Rws} {since : Int} {chs : List Chg} {rds : Rws} (h : RW w rb G P since chs rds) (hB : B ≤ w.heap.size) (hb : Below w.heap.size w w') : ActR w w' B rb G P since chs rds := ⟨G, h.on hb, .on hB hb⟩
/-- other changes, that lie in new memory or where they lay -/
theorem act_setC {w w1 : World} {B rb : Nat} {ra ca sa : Option Addr} {rc cc sc : Nat} {P : Rws} {since : Int} {chs : List Chg} {rds : Rws} (h : RWx w rb ra rc ca cc sa sc P since chs rds) (h2 : ∀ k, atB ra k → P ≠ [] → k ≠ rb) (h4 : ∀ k, atB sa k → rds ≠ [] → k ≠ rb) (hB : B ≤ w.heap.size) (hrb : B ≤ rb) (hb : Below w.heap.size w w1)
    {ca' : Option Addr} {cc' : Nat} {chs' : List Chg} (hh : heldCh w1 ca' chs') (hn : ∀ k, atB ca' k → chs' ≠ [] → w.heap.size ≤ k) : ActR w (w1.setCell ⟨rb, 2, none⟩ (.slice ca' chs'.length cc')) B rb (inRW rb ra ca sa P chs rds) P since chs' rds := by
  have h1 := h.kept (w' := w1) fun k hk => hb.block k (h.lt hk)
  have hlt := h.lt (k := rb) (.inl rfl)
  have hs : ∀ k, k ≠ rb → (w1.setCell ⟨rb, 2, none⟩ (.slice ca' chs'.length cc')).heap[k]? = w1.heap[k]? := fun k hk => Below.heap_setCell _ _ _ _ hk
  refine ⟨inRW rb ra ca' sa P chs' rds, ⟨ra, rc, ca', cc', sa, sc, ?_, rfl, h2, fun k e hne => by have := hn k e hne; omega, h4⟩, (hb.mono hB).setCell (p := ⟨rb, 2, none⟩) hrb _, fun j hj hnj => (hs j hnj).trans (hb.block j hj), fun j hj hnj => ?_⟩
  · exact {
      c0 := (World.cell?_setCell_other _ _ _ _ (by simp)).trans h1.c0
      c1 := (World.cell?_setCell_other _ _ _ _ (by simp)).trans h1.c1
      c2 := World.cell?_setCell_same _ _ _ h1.c2
      c3 := (World.cell?_setCell_other _ _ _ _ (by simp)).trans h1.c3
      soft := fun j => by rw [World.frozen?_setCell]; exact h1.soft j
      hP := heldSp_kept h1.hP fun hne k e => hs k (h2 k e hne)
      nP := h.nP
      hC := heldCh_kept hh fun hne k e => hs k (by have := hn k e hne; omega)
      hR := heldSp_kept h1.hR fun hne k e => hs k (h4 k e hne) }
  · rintro (e | e | ⟨hne, e⟩ | e)
    · exact hnj (.inl e)
    · exact hnj (.inr (.inl e))
    · have := hn j e hne; omega
    · exact hnj (.inr (.inr (.inr e)))
theorem act_setR {w w1 : World} {B rb : Nat} {ra ca sa : Option Addr} {rc cc sc : Nat} {P : Rws} {since : Int} {chs : List Chg} {rds : Rws} (h : RWx w rb ra rc ca cc sa sc P since chs rds) (h2 : ∀ k, atB ra k → P ≠ [] → k ≠ rb) (h3 : ∀ k, atB ca k → chs ≠ [] → k ≠ rb) (hB : B ≤ w.heap.size) (hrb : B ≤ rb) (hb : Below w.heap.size w w1)
    {sa' : Option Addr} {sc' : Nat} {rds' : Rws} (hh : heldSp w1 sa' rds') (hn : ∀ k, atB sa' k → rds' ≠ [] → w.heap.size ≤ k) : ActR w (w1.setCell ⟨rb, 3, none⟩ (.slice sa' rds'.length sc')) B rb (inRW rb ra ca sa P chs rds) P since chs rds' := by
  have h1 := h.kept (w' := w1) fun k hk => hb.block k (h.lt hk)
  have hlt := h.lt (k := rb) (.inl rfl)
  have hs : ∀ k, k ≠ rb → (w1.setCell ⟨rb, 3, none⟩ (.slice sa' rds'.length sc')).heap[k]? = w1.heap[k]? := fun k hk => Below.heap_setCell _ _ _ _ hk
  refine ⟨inRW rb ra ca sa' P chs rds', ⟨ra, rc, ca, cc, sa', sc', ?_, rfl, h2, h3, fun k e hne => by have := hn k e hne; omega⟩, (hb.mono hB).setCell (p := ⟨rb, 3, none⟩) hrb _, fun j hj hnj => (hs j hnj).trans (hb.block j hj), fun j hj hnj => ?_⟩
  · exact {
      c0 := (World.cell?_setCell_other _ _ _ _ (by simp)).trans h1.c0
      c1 := (World.cell?_setCell_other _ _ _ _ (by simp)).trans h1.c1
      c2 := (World.cell?_setCell_other _ _ _ _ (by simp)).trans h1.c2
      c3 := World.cell?_setCell_same _ _ _ h1.c3
      soft := fun j => by rw [World.frozen?_setCell]; exact h1.soft j
      hP := heldSp_kept h1.hP fun hne k e => hs k (h2 k e hne)
      nP := h.nP
      hC := heldCh_kept h1.hC fun hne k e => hs k (h3 k e hne)
      hR := heldSp_kept hh fun hne k e => hs k (by have := hn k e hne; omega) }
  · rintro (e | e | e | ⟨hne, e⟩)
    · exact hnj (.inl e)
    · exact hnj (.inr (.inl e))
    · exact hnj (.inr (.inr (.inl e)))
    · have := hn j e hne; omega
end Go.Proofs.YtighpalbodhfeaaGreatDoor

/-
  What View.note of haywainref makes of the document's view: a span more that was read, if it isn't there, and if there aren't too many.
-/
namespace Go.Proofs.YtighpalbodhfeaaGreatDoor
open Go.RowKit Go.Joins Go.Shelf Go.WideShapes
attribute [local go_sem ↓] Go.wp_at_zero Go.wp_at_succ

theorem hasSp_hit {l : Rws} {s : ByteArray × ByteArray} {k : Nat} (hk : k < l.length) (h1 : eqS l[k].1 s.1 = true) (h2 : eqS l[k].2 s.2 = true) : hasSp l s = true := by
  have e : l[k] = s := Prod.ext ((eqS_iff _ _).1 h1) ((eqS_iff _ _).1 h2)
  unfold hasSp
  rw [List.any_eq_true]
  exact ⟨l[k], List.getElem_mem hk, by rw [e]; exact (eqSp_iff _ _).2 rfl⟩
theorem hasSp_miss {l : Rws} {s : ByteArray × ByteArray} (h : ∀ i (hi : i < l.length), ¬ (eqS l[i].1 s.1 = true ∧ eqS l[i].2 s.2 = true)) : hasSp l s = false := by
  unfold hasSp
  rw [List.any_eq_false]
  intro x hx e
  obtain ⟨i, hi, rfl⟩ := List.getElem_of_mem hx
  have := (eqSp_iff _ _).1 e
  exact h i hi (by rw [← this]; exact ⟨(eqS_iff _ _).2 rfl, (eqS_iff _ _).2 rfl⟩)
theorem sp_nothing (W : World) (ty : TypeId) (sa : Option Addr) (sc : Nat) : (Builtin.append_ #[33, 33] ty #[.slice none 0 0, .slice sa 0 sc]).run Tryz.prog W = .ok (.slice none 0 0) W := by
  obtain ⟨i0, hi0, hz0, hz1, hz2⟩ := info_parts span_info
  cases sa <;> simp [Builtin.append_, run_underlying Tryz.underlying33, sizeOf, typeInfo, hi0, Builtin.lenOf, Builtin.firstCells, loadCells, loadCellsFrom]
/-- one more, appended in memory of one's own, and stored -/
theorem note_push {w w2 : World} {B rb g2 c2 : Nat} {ra ca sa : Option Addr} {rc cc sc : Nat} {P : Rws} {since : Int} {chs : List Chg} {rds : Rws} {s : ByteArray × ByteArray} (h : RWx w rb ra rc ca cc sa sc P since chs rds) (h2 : ∀ k, atB ra k → P ≠ [] → k ≠ rb) (h3 : ∀ k, atB ca k → chs ≠ [] → k ≠ rb) (hB : B ≤ w.heap.size) (hrb : B ≤ rb) (hb : Below w.heap.size w w2)
    (ho : w2.ownsRow w.heap.size 91 2 (.slice (some ⟨g2, 0, none⟩) (rds.length + 1) c2) (rds.length + 1) (rds.flatMap cellS ++ [.string s.1, .string s.2])) :
    ActR w (w2.setCell ⟨rb, 3, none⟩ (.slice (some ⟨g2, 0, none⟩) (rds.length + 1) c2)) B rb (inRW rb ra ca sa P chs rds) P since chs (rds ++ [s]) := by
  have ho' : ownSp w2 w.heap.size (.slice (some ⟨g2, 0, none⟩) (rds ++ [s]).length c2) (rds ++ [s]) := by
    unfold ownSp
    rw [List.length_append, List.flatMap_append]
    exact ho
  obtain ⟨ao, cap, e, hh, _⟩ := ownSp_held ho'
  cases e
  have := act_setR h h2 h3 hB hrb hb (sc' := c2) hh (fun k e _ => by
    obtain ⟨off, e⟩ := e
    cases e
    exact (World.ownsRow.lt ho g2 rfl).1)
  rw [List.length_append, List.length_singleton] at this
  exact this
theorem sp_news {W : World} {b off : Nat} {l : Rws} (h : spansAt W b off l) : ∀ j u, (l.flatMap cellS)[j]? = some u → W.cell? ((⟨b, off, none⟩ : Addr).add j) = some u := by
  intro j u hj
  have hjl := (List.getElem?_eq_some_iff.1 hj).1
  rw [flat_len cellS 2 cellS_len] at hjl
  have hq : j / 2 < l.length := by omega
  have ej : j = j / 2 * 2 + j % 2 := by omega
  have hg := flat_get cellS 2 cellS_len l (j / 2) (j % 2) hq (by omega)
  rw [← ej, hj] at hg
  obtain ⟨c0, c1⟩ := h (j / 2) hq
  rw [Addr.add_lit]
  rcases Nat.mod_two_eq_zero_or_one j with e | e
  · rw [e] at hg
    simp [cellS] at hg
    have e2 : off + j = off + j / 2 * 2 := by omega
    rw [e2, c0, hg]
  · rw [e] at hg
    simp [cellS] at hg
    have e2 : off + j = off + j / 2 * 2 + 1 := by omega
    rw [e2, c1, hg]
set_option maxRecDepth 4000 in
set_option maxHeartbeats 4000000 in
theorem rnote_any (s : ByteArray × ByteArray) {B rb : Nat} {G : Nat → Prop} {P : Rws} {since : Int} {chs : List Chg} {rds : Rws} (w : World) (h : RW w rb G P since chs rds) (hB : B ≤ w.heap.size) (hrb : B ≤ rb) (hn : rds.length ≤ 40) :
    Calls Tryz.prog 76 #[.pointer (some ⟨rb, 0, none⟩), .agg #[.string s.1, .string s.2]] w fun e w' => e = .returned (.int .i64 (readF rds s : Nat)) ∧ ActR w w' B rb G P since chs (readL rds s) := by
  have HW := hide h
  obtain ⟨ra, rc, ca, cc, sa, sc, h1, rfl, h2, h3, h4⟩ := h
  have HX := hide h1
  have H2 := hide h2
  have H3 := hide h3
  have hB0 := below_alloc1 w (Obj.cells #[Value.string s.1, Value.string s.2] 91)
  have a0 : (w.alloc (Obj.cells #[Value.string s.1, Value.string s.2] 91)).cell? ⟨w.heap.size, 0, none⟩ = some (.string s.1) := cell_new _ _ _ 0
  have a1 : (w.alloc (Obj.cells #[Value.string s.1, Value.string s.2] 91)).cell? ⟨w.heap.size, 1, none⟩ = some (.string s.2) := cell_new _ _ _ 1
  have c3 := cell_on hB0 h1.c3
  have f3 := frozen_on hB0 (h1.lt (.inl rfl)) (h1.soft 3)
  have hlt := h1.lt (k := rb) (.inl rfl)
  have HR := hide (heldSp_on hB0 h1.hR)
  have HB0 := hide hB0
  clear h1 h2 h3 h4 hB0
  go_enter Tryz.func76, Tryz.ntmps76
  go_wp2
  generalize hW0 : (w.alloc (Obj.cells #[Value.string s.1, Value.string s.2] 91)) = W0 at *
  have hz : w.heap.size < W0.heap.size := by rw [← hW0]; simp
  clear hW0
  go_loopw [5] (fun i wr => ∃ k : Nat, k ≤ rds.length ∧ i = .int .i64 k ∧ (∀ i (hi : i < rds.length), i < k → ¬ (eqS rds[i].1 s.1 = true ∧ eqS rds[i].2 s.2 = true)) ∧ Below W0.heap.size W0 wr) (fun i _ => rds.length - (intOf i).toNat)
  case atStart => exact ⟨0, Nat.zero_le _, rfl, fun i _ h => absurd h (Nat.not_lt_zero _), Below.refl _ _⟩
  case round =>
    obtain ⟨k, hk, rfl, hno, hBr⟩ := hrel
    have HNO := hide hno
    clear hno
    have b0 := cell_on hBr a0
    have b1 := cell_on hBr a1
    have b3 := cell_on hBr c3
    have g3 := frozen_on hBr (show rb < W0.heap.size by omega) f3
    have HBr := hide (below_on HB0.out (Nat.le_refl _) hBr)
    have HBr0 := hide hBr
    by_cases hlk : k < rds.length
    · have hlk' : (k : Int) < (rds.length : Int) := by omega
      have hk0 : (0 : Int) ≤ (k : Int) := Int.natCast_nonneg _
      rcases HR.out with e | ⟨b, off, esa, hsp⟩
      · rw [e] at hlk; simp at hlk
      subst esa
      obtain ⟨d0, d1⟩ := spansAt_on hBr hsp k hlk
      obtain ⟨p1, hp1⟩ : ∃ p, (rds[k].1.toList == s.1.toList) = p := ⟨_, rfl⟩
      obtain ⟨p2, hp2⟩ : ∃ p, (rds[k].2.toList == s.2.toList) = p := ⟨_, rfl⟩
      have HP1 : Hid (eqS rds[k].1 s.1 = p1) := hp1
      have HP2 : Hid (eqS rds[k].2 s.2 = p2) := hp2
      clear hsp a0 a1 c3 f3
      by_cases hpp : p1 = true ∧ p2 = true
      · obtain ⟨rfl, rfl⟩ := hpp
        have HH := hide (hasSp_hit hlk HP1.out HP2.out)
        go_wp2
        go_quiet (fail)
        go_wp2
        go_ret
        refine ⟨?_, ?_⟩
        · unfold readF; rw [HH.out]; rfl
        · unfold readL; rw [HH.out]; exact act_same HW.out hB (HBr.out.trans (below_draws _ _ _))
      · have hno2 : ∀ i (hi : i < rds.length), i < k + 1 → ¬ (eqS rds[i].1 s.1 = true ∧ eqS rds[i].2 s.2 = true) := fun i hi hik => by
          rcases Nat.eq_or_lt_of_le (Nat.le_of_lt_succ hik) with e | e
          · subst e; rw [HP1.out, HP2.out]; exact hpp
          · exact HNO.out i hi e
        have HN2 := hide hno2
        clear hno2
        cases p1 <;> cases p2
        case true.true => exact absurd ⟨rfl, rfl⟩ hpp
        all_goals
          go_wp2
          go_quiet (fail)
          go_wp2
          exact ⟨⟨k + 1, by omega, by go_num, HN2.out, hBr.trans (below_draws _ _ _)⟩, by simp [intOf]; omega⟩
    · have ek : k = rds.length := by omega
      subst ek
      have hlk' : ¬ (rds.length : Int) < (rds.length : Int) := by omega
      have HH : Hid (hasSp rds s = false) := hasSp_miss fun i hi => HNO.out i hi hi
      by_cases h40 : rds.length = 40
      · have h40' : (rds.length : Int) = 40 := by omega
        go_wp2
        go_ret
        refine ⟨?_, ?_⟩
        · unfold readF; rw [HH.out, if_pos (show 40 ≤ rds.length by omega)]; rfl
        · unfold readL; rw [HH.out, if_pos (show 40 ≤ rds.length by omega)]; exact act_same HW.out hB HBr.out
      · have h40' : ¬ (rds.length : Int) = 40 := by omega
        have h41 : ¬ 40 ≤ rds.length := by omega
        have HRF : Hid (readF rds s = 0) := by unfold Hid readF; rw [HH.out, if_neg h41]; rfl
        have HRL : Hid (readL rds s = rds ++ [s]) := by unfold Hid readL; rw [HH.out, if_neg h41]; rfl
        have hsr := HBr.out.size
        have hrl : rb < wr.heap.size := by omega
        obtain ⟨i0, hi0, hz0, hz1, hz2⟩ := info_parts span_info
        have HNW : Hid (∀ (W : World) (j : Nat) (u : Value), [Value.string s.1, Value.string s.2][j]? = some u → (W.alloc (Obj.cells #[Value.string s.1, Value.string s.2] 91)).cell? ((⟨W.heap.size, 0, none⟩ : Addr).add j) = some u) := fun W =>
          World.news_of_block (cs := #[.string s.1, .string s.2]) (t := 91) (fr := (0, 0)) (heap_alloc_new W _)
        clear hBr a0 a1 c3 f3
        by_cases h0 : rds = []
        · subst h0
          rcases sa with _ | sa
          all_goals
            go_wp2
            go_region_law (first
              | (refine step_append_lies _ (by rfl) _ _ _ (by rfl) w.heap.size 91 i0 _ 2 32 Tryz.underlying33 hi0 hz0 hz1 hz2 rfl (by omega) (.slice none 0 0) 0 [] (by rfl) (World.ownsRow_nil _ _ _ _) ⟨wr.heap.size, 0, none⟩ 1 1 [.string s.1, .string s.2] (by rfl) (by rfl) (HNW.out wr) (by simp [Value.oneCell']) (by omega) (by unfold maxLen; omega) (by omega) (by simp; omega) (wr.heap.size + 1) (by simp) ?_; intro g2 c2 w2 ho2 hg2 hat2 hlt2; have hbw2 : Below wr.heap.size wr w2 := ((below_alloc1 wr (Obj.cells #[Value.string s.1, Value.string s.2] 91)).drew).grown hg2 (by simp) (fun k e => by cases e); have k3 := cell_on hbw2 b3; have k2 := frozen_on hbw2 hrl g3)
              | fail)
            all_goals
              have HRP := hide (note_push HX.out H2.out H3.out hB hrb (below_on HBr.out (Nat.le_refl _) hbw2) ho2)
              clear k3 k2 ho2 hg2 hat2 hlt2 b0 b1 b3 g3 hbw2
              go_wp2
              go_ret
              exact ⟨by rw [HRF.out]; rfl, by rw [HRL.out]; exact HRP.out⟩
        · rcases HR.out with e | ⟨b, off, esa, hsp⟩
          · exact absurd e h0
          subst esa
          have hpos : 0 < rds.length := List.length_pos_iff.2 h0
          have HN1 : Hid (∀ W, Below wr.heap.size wr W → ∀ j u, (rds.flatMap cellS)[j]? = some u → W.cell? ((⟨b, off, none⟩ : Addr).add j) = some u) := fun W hb => sp_news (spansAt_on hb (spansAt_on HBr0.out hsp))
          clear hsp
          go_wp2
          go_region_law (first
            | (refine step_append_lies _ (by rfl) _ _ _ (by rfl) w.heap.size 91 i0 _ 2 32 Tryz.underlying33 hi0 hz0 hz1 hz2 rfl (by omega) (.slice none 0 0) 0 [] (by rfl) (World.ownsRow_nil _ _ _ _) ⟨b, off, none⟩ rds.length sc (rds.flatMap cellS) (by rfl) (flat_len cellS 2 cellS_len rds) (HN1.out _ (by first | exact (Below.refl _ _).drew | exact (below_alloc1 _ _).drew)) (cellS_one rds) hpos (by unfold maxLen; omega) (by omega) (by simp; omega) _ rfl ?_; intro g1 c1 w1 ho1 hg1 hat1 hlt1; simp only [Nat.zero_add, List.nil_append] at ho1; have hbw1 : Below wr.heap.size wr w1 := by first | exact ((Below.refl _ wr).drew).grown hg1 (by simp) (fun k e => by cases e) | exact ((below_alloc1 wr (Obj.cells #[Value.string s.1, Value.string s.2] 91)).drew).grown hg1 (by simp) (fun k e => by cases e)
               have hge1 : wr.heap.size ≤ g1 := hat1.elim (fun e => by cases e) (fun e => by rw [e]; simp)
               replace b0 := cell_on hbw1 b0; replace b1 := cell_on hbw1 b1)
            | (refine step_append_lies _ (by rfl) _ _ _ (by rfl) w.heap.size 91 i0 _ 2 32 Tryz.underlying33 hi0 hz0 hz1 hz2 rfl (by omega) (.slice (some ⟨g1, 0, none⟩) rds.length c1) _ _ (by rfl) (ho1.alloc _) ⟨w1.heap.size, 0, none⟩ 1 1 [.string s.1, .string s.2] (by rfl) (by rfl) (HNW.out w1) (by simp [Value.oneCell']) (by omega) (by unfold maxLen; omega) (by omega) (by have := hbw1.size; simp; omega) _ rfl ?_; intro g2 c2 w2 ho2 hg2 hat2 hlt2; have hbw2 : Below wr.heap.size wr w2 := (below_on hbw1 (Nat.le_refl _) (below_alloc1 w1 (Obj.cells #[Value.string s.1, Value.string s.2] 91))).grown hg2 (by have := hbw1.size; simp; omega) (fun k e => by simp [Value.ownBlock] at e; omega); have k3 := cell_on hbw2 b3; have k2 := frozen_on hbw2 hrl g3)
            | (refine step_append_lies _ (by rfl) _ _ _ (by rfl) w.heap.size 91 i0 _ 2 32 Tryz.underlying33 hi0 hz0 hz1 hz2 rfl (by omega) (.slice (some ⟨g1, 0, none⟩) rds.length c1) _ _ (by rfl) ho1 ⟨wr.heap.size, 0, none⟩ 1 1 [.string s.1, .string s.2] (by rfl) (by rfl) (fun j u hj => hg1.cell (HNW.out wr j u hj) (by simp [Value.ownBlock])) (by simp [Value.oneCell']) (by omega) (by unfold maxLen; omega) (by omega) (by have := hbw1.size; omega) _ rfl ?_; intro g2 c2 w2 ho2 hg2 hat2 hlt2; have hbw2 : Below wr.heap.size wr w2 := hbw1.grown hg2 hbw1.size (fun k e => by simp [Value.ownBlock] at e; omega); have k3 := cell_on hbw2 b3; have k2 := frozen_on hbw2 hrl g3)
            | fail)
          all_goals
            have HRP := hide (note_push HX.out H2.out H3.out hB hrb (below_on HBr.out (Nat.le_refl _) hbw2) ho2)
            clear k3 k2 ho2 hg2 hat2 hlt2 b0 b1 b3 g3 hbw2
            go_wp2
            go_ret
            exact ⟨by rw [HRF.out]; rfl, by rw [HRL.out]; exact HRP.out⟩
end Go.Proofs.YtighpalbodhfeaaGreatDoor

/-
  What haywainref.SameChanges returns of the same changes at two places. It changes nothing.
-/
namespace Go.Proofs.YtighpalbodhfeaaGreatDoor
open Go.RowKit Go.Joins

set_option maxHeartbeats 1000000 in
theorem sameChgs (l : List Chg) (b off cap b2 off2 cap2 : Nat) (w : World) (hl : chgsAt w b off l) (hl2 : chgsAt w b2 off2 l) (hn : l.length ≤ 1000) :
    Calls Tryz.prog 39 #[.slice (some ⟨b, off, none⟩) l.length cap, .slice (some ⟨b2, off2, none⟩) l.length cap2] w fun e w' => e = .returned (.bool true) ∧ Below w.heap.size w w' := by
  go_enter Tryz.func39, Tryz.ntmps39
  go_wp2
  go_loopw [5] (fun i wr => ∃ k : Nat, k ≤ l.length ∧ i = .int .i64 k ∧ Below w.heap.size w wr) (fun i _ => l.length - (intOf i).toNat)
  case atStart => exact ⟨0, Nat.zero_le _, rfl, Below.refl _ _⟩
  case round =>
    obtain ⟨k, hk, rfl, hB⟩ := hrel
    by_cases hlt : k < l.length
    · obtain ⟨c0, c1, c2⟩ := chgsAt_on hB hl k hlt
      obtain ⟨d0, d1, d2⟩ := chgsAt_on hB hl2 k hlt
      go_wp2
      go_quiet (fail)
      go_wp2
      go_roundw
      case rel => exact ⟨k + 1, by omega, by go_num, hB.trans (below_draws _ _ _)⟩
      case measure => simp [intOf]; omega
    · go_wp2
      go_ret
      exact ⟨rfl, hB⟩
end Go.Proofs.YtighpalbodhfeaaGreatDoor

/-
  What haywainref.SameChanges and haywainref.SameSpans return of the same lists at two places, View.Since of a view, and haywainlaw.asView of a view and the document's own that are alike: true.
-/
namespace Go.Proofs.YtighpalbodhfeaaGreatDoor
open Go.RowKit Go.Joins Go.Shelf Go.WideShapes
attribute [local go_sem ↓] Go.wp_at_zero Go.wp_at_succ

set_option maxHeartbeats 1000000 in
theorem sameChgs_nil (ao ao2 : Option Addr) (cap cap2 : Nat) (w : World) :
    Calls Tryz.prog 39 #[.slice ao 0 cap, .slice ao2 0 cap2] w fun e w' => e = .returned (.bool true) ∧ Below w.heap.size w w' := by
  go_enter Tryz.func39, Tryz.ntmps39
  go_wp2
  refine wp_loop_rounds 1 ?_
  rw [rounds_succ]
  go_wp2
  go_ret
  exact ⟨rfl, Below.refl _ _⟩
theorem sameChgs_held (l : List Chg) (ao ao2 : Option Addr) (cap cap2 : Nat) (w : World) (hl : heldCh w ao l) (hl2 : heldCh w ao2 l) (hn : l.length ≤ 1000) :
    Calls Tryz.prog 39 #[.slice ao l.length cap, .slice ao2 l.length cap2] w fun e w' => e = .returned (.bool true) ∧ Below w.heap.size w w' := by
  rcases hl with rfl | ⟨b, off, rfl, h⟩
  · exact sameChgs_nil _ _ _ _ _
  · rcases hl2 with rfl | ⟨b2, off2, rfl, h2⟩
    · exact sameChgs_nil _ _ _ _ _
    · exact sameChgs l b off cap b2 off2 cap2 w h h2 hn
set_option maxHeartbeats 1000000 in
theorem sameSpans_some (l : List (ByteArray × ByteArray)) (b off cap b2 off2 cap2 : Nat) (w : World) (hl : spansAt w b off l) (hl2 : spansAt w b2 off2 l) (hn : l.length ≤ 1000) :
    Calls Tryz.prog 41 #[.slice (some ⟨b, off, none⟩) l.length cap, .slice (some ⟨b2, off2, none⟩) l.length cap2] w fun e w' => e = .returned (.bool true) ∧ Below w.heap.size w w' := by
  go_enter Tryz.func41, Tryz.ntmps41
  go_wp2
  go_loopw [5] (fun i wr => ∃ k : Nat, k ≤ l.length ∧ i = .int .i64 k ∧ Below w.heap.size w wr) (fun i _ => l.length - (intOf i).toNat)
  case atStart => exact ⟨0, Nat.zero_le _, rfl, Below.refl _ _⟩
  case round =>
    obtain ⟨k, hk, rfl, hB⟩ := hrel
    by_cases hlt : k < l.length
    · obtain ⟨c0, c1⟩ := spansAt_on hB hl k hlt
      obtain ⟨d0, d1⟩ := spansAt_on hB hl2 k hlt
      go_wp2
      go_quiet (fail)
      go_wp2
      go_roundw
      case rel => exact ⟨k + 1, by omega, by go_num, hB.trans (below_draws _ _ _)⟩
      case measure => simp [intOf]; omega
    · go_wp2
      go_ret
      exact ⟨rfl, hB⟩
set_option maxHeartbeats 1000000 in
theorem sameSpans_nil (ao ao2 : Option Addr) (cap cap2 : Nat) (w : World) :
    Calls Tryz.prog 41 #[.slice ao 0 cap, .slice ao2 0 cap2] w fun e w' => e = .returned (.bool true) ∧ Below w.heap.size w w' := by
  go_enter Tryz.func41, Tryz.ntmps41
  go_wp2
  refine wp_loop_rounds 1 ?_
  rw [rounds_succ]
  go_wp2
  go_ret
  exact ⟨rfl, Below.refl _ _⟩
theorem sameSpans_held (l : List (ByteArray × ByteArray)) (ao ao2 : Option Addr) (cap cap2 : Nat) (w : World) (hl : heldSp w ao l) (hl2 : heldSp w ao2 l) (hn : l.length ≤ 1000) :
    Calls Tryz.prog 41 #[.slice ao l.length cap, .slice ao2 l.length cap2] w fun e w' => e = .returned (.bool true) ∧ Below w.heap.size w w' := by
  rcases hl with rfl | ⟨b, off, rfl, h⟩
  · exact sameSpans_nil _ _ _ _ _
  · rcases hl2 with rfl | ⟨b2, off2, rfl, h2⟩
    · exact sameSpans_nil _ _ _ _ _
    · exact sameSpans_some l b off cap b2 off2 cap2 w h h2 hn
theorem ownCh_has {w : World} {B : Nat} {v : Value} {l : List Chg} (h : ownCh w B v l) : ∃ ao cap, v = .slice ao l.length cap ∧ heldCh w ao l ∧ ∀ k, atB ao k → B ≤ k := by
  rcases own_form h with ⟨rfl, h0⟩ | ⟨g, cap, rfl, hg, _⟩
  · have e : l = [] := List.length_eq_zero_iff.1 h0
    subst e
    exact ⟨none, 0, rfl, .inl rfl, fun k e => by obtain ⟨_, e⟩ := e; cases e⟩
  · refine ⟨_, cap, rfl, .inr ⟨g, 0, rfl, chgs_of_cells l 0 fun j u hj => ?_⟩, fun k e => by obtain ⟨_, e⟩ := e; cases e; exact hg⟩
    have := World.ownsRow.cells h (g := g) rfl j u hj
    rwa [Go.WideShapes.add_plain] at this
set_option maxHeartbeats 400000 in
theorem pv_since {B wb : Nat} {S : Nat → Prop} {P : Rws} {since : Int} {chs : List Chg} {rds : Rws} (w : World) (h : PV w B wb S P since chs rds) :
    Calls Tryz.prog 43 #[.pointer (some ⟨wb, 0, none⟩)] w fun e w' => e = .returned (.int .i64 since) ∧ w' = w := by
  obtain ⟨B0, vb, mb, n, now, D, g, R, cv, rv, h1, h2, rfl, h4, h5, h6, h7, h8, h9⟩ := h
  have c := h2.c1
  go_enter Tryz.func43, Tryz.ntmps43
  go_wp2
  go_ret
  exact ⟨rfl, rfl⟩
set_option maxRecDepth 4000 in
set_option maxHeartbeats 4000000 in
theorem asView_any {B wb rb : Nat} {S G : Nat → Prop} {P : Rws} {since : Int} {chs : List Chg} {rds : Rws} (w : World) (h : PV w B wb S P since chs rds) (hr : RW w rb G P since chs rds) :
    Calls Tryz.prog 10 #[.pointer (some ⟨wb, 0, none⟩), .pointer (some ⟨rb, 0, none⟩)] w fun e w' => e = .returned (.bool true) ∧ Below w.heap.size w w' := by
  have HV := hide h
  have ok := h.ok
  have hcn := ok.cn
  have hrn := ok.rn
  obtain ⟨ra, rc, ca, cc, sa, sc, hx, _⟩ := hr
  have HX := hide hx
  have c1 := hx.c1
  have c2 := hx.c2
  have c3 := hx.c3
  clear h hx ok
  go_enter Tryz.func10, Tryz.ntmps10
  go_wp2
  go_region_held3 (fun w' => w'.cell? ⟨rb, 1, none⟩ = some (.int .i64 since) ∧ w'.cell? ⟨rb, 2, none⟩ = some (.slice ca chs.length cc) ∧ w'.cell? ⟨rb, 3, none⟩ = some (.slice sa rds.length sc))
    (first
      | go_keep
      | exact ⟨cell_on HB6.out c1, cell_on HB6.out c2, cell_on HB6.out c3⟩
      | exact ⟨cell_on HB5.out c1, cell_on HB5.out c2, cell_on HB5.out c3⟩
      | exact ⟨cell_on HB4.out c1, cell_on HB4.out c2, cell_on HB4.out c3⟩
      | exact ⟨cell_on HB3.out c1, cell_on HB3.out c2, cell_on HB3.out c3⟩
      | exact ⟨cell_on HB2.out c1, cell_on HB2.out c2, cell_on HB2.out c3⟩)
    (first
      | (go_at_call 40; refine (pv_changes _ (HV.out.on (Below.refl _ _).drew)).mono ?_; rintro e w2 ⟨v2, rfl, ho2, hb2⟩; have HB2 := hide (below_on (Below.refl _ w).drew (Nat.le_refl _) hb2); obtain ⟨va, vc, rfl, hh2, _⟩ := ownCh_has ho2; clear ho2 hb2)
      | (go_at_call 39; refine (sameChgs_held chs va ca vc cc _ hh2 (heldCh_on HB2.out HX.out.hC) (by omega)).mono ?_; rintro e w3 ⟨rfl, hb3⟩; have HB3 := hide (below_on HB2.out (Nat.le_refl _) hb3); clear hb3)
      | (go_at_call 42; refine (pv_reads _ (HV.out.on HB3.out)).mono ?_; rintro e w4 ⟨v4, rfl, ho4, hb4⟩; have HB4 := hide (below_on HB3.out (Nat.le_refl _) hb4); obtain ⟨ua, uc, rfl, hh4, _⟩ := ownSp_held ho4; clear ho4 hb4)
      | (go_at_call 41; refine (sameSpans_held rds ua sa uc sc _ hh4 (heldSp_on HB4.out HX.out.hR) (by omega)).mono ?_; rintro e w5 ⟨rfl, hb5⟩; have HB5 := hide (below_on HB4.out (Nat.le_refl _) hb5); clear hb5)
      | (go_at_call 43; refine (pv_since _ (HV.out.on HB5.out)).mono ?_; rintro e w6 ⟨rfl, rfl⟩; have HB6 := hide HB5.out)
      | fail)
  all_goals
    go_wp2
    go_ret
    exact ⟨rfl, HB6.out⟩
end Go.Proofs.YtighpalbodhfeaaGreatDoor
