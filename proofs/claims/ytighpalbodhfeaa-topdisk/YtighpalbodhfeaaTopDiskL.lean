/-
  Plain facts for haywaintop.TopDisk: what writes, a flush and a restart make of a disk that is never armed; and the texts that are wanted, as they lie.
-/
import Derived.Test.YtighpalbodhfeaaDskRestart
import Derived.Test.YtighpalbodhfeaaDskNew
namespace Go.Proofs.Ytighpalbodhfeaa
open Go.RowKit Go.Joins

structure Good4 (s : DSt) : Prop where
  now : s.now.length = 4
  kpt : s.kept.length = 4
  down : s.down = false
  left : s.left = -1
theorem Good4.step {s : DSt} (h : Good4 s) : dstepF s = 0 ∧ dstepD s = s := by
  obtain ⟨e1, e2⟩ := dstep_go h.down (show s.left ≠ 0 by rw [h.left]; decide)
  refine ⟨e1, ?_⟩
  rw [e2, if_neg (by rw [h.left]; decide)]
theorem Good4.init : Good4 (initD 4) := ⟨by simp [initD], by simp [initD], rfl, rfl⟩
theorem Good4.flush {s : DSt} (h : Good4 s) : flushD s = { s with kept := s.now, wait := [] } := by
  unfold flushD; rw [h.step.1, if_pos rfl, h.step.2]
def badW (a : Int) (d : ByteArray) : Prop := a < 0 ∨ 4 ≤ a ∨ 96 < d.size
theorem Good4.bad {s : DSt} (h : Good4 s) {a : Int} {d : ByteArray} (hb : badW a d) : dwriteF s a d = 1 ∧ dwriteD s a d = s := by
  unfold dwriteF dwriteD badW at *
  rw [h.now]
  rw [if_pos (by omega), if_pos (by omega)]
  exact ⟨rfl, rfl⟩
theorem Good4.good {s : DSt} (h : Good4 s) {a : Nat} {d : ByteArray} (ha : a < 4) (hd : d.size ≤ 96) : dwriteF s a d = 0 ∧ dwriteD s a d = laidD s a (padB d) := by
  unfold dwriteF dwriteD
  rw [h.now, if_neg (by omega), if_neg (by omega), h.step.1, if_pos rfl, h.step.2, Int.toNat_natCast]
  exact ⟨rfl, rfl⟩
theorem Good4.laid {s : DSt} (h : Good4 s) (a : Nat) (d : ByteArray) : Good4 (laidD s a d) := ⟨by unfold laidD; simp [h.now], h.kpt, h.down, h.left⟩
theorem Good4.write {s : DSt} (h : Good4 s) (a : Int) (d : ByteArray) : Good4 (dwriteD s a d) := by
  by_cases hb : badW a d
  · rw [(h.bad hb).2]; exact h
  · unfold badW at hb
    obtain ⟨m, rfl⟩ := Int.eq_ofNat_of_zero_le (show 0 ≤ a by omega)
    rw [(h.good (a := m) (by omega) (by omega)).2]
    exact h.laid _ _
theorem Good4.read {s : DSt} (h : Good4 s) {a : Nat} (ha : a < 4) : dreadF s a = 0 ∧ dreadD s a = s.now[a]'(by rw [h.now]; exact ha) := by
  have e : dreadF s a = 0 := by unfold dreadF; rw [h.down, h.now, if_neg (by decide), if_neg (by omega)]
  refine ⟨e, ?_⟩
  unfold dreadD
  rw [if_pos e, Int.toNat_natCast, List.getElem?_eq_getElem (by rw [h.now]; exact ha)]; rfl
theorem keepL_snoc (k : Int) (a : Nat) (d : ByteArray) : ∀ (l : List (Nat × ByteArray)) (i : Nat) (K : List ByteArray), keepL k i (l ++ [(a, d)]) K = if keepB k ((i + l.length) % 64) then (keepL k i l K).set a d else keepL k i l K
  | [], i, K => by simp [keepL]
  | x :: l, i, K => by
    rw [List.cons_append]
    show keepL k (i + 1) (l ++ [(a, d)]) _ = if _ then (keepL k (i + 1) l _).set a d else keepL k (i + 1) l _
    rw [keepL_snoc k a d l (i + 1), show i + 1 + l.length = i + (x :: l).length by rw [List.length_cons]; omega]
/-- the texts that are wanted, in a block of their own -/
structure WantAt (w : World) (wb : Nat) (l : List ByteArray) : Prop where
  len : l.length = 4
  cel : ∀ m (h : m < l.length), w.cell? ⟨wb, m, none⟩ = some (.string l[m])
  soft : ∀ m, w.frozen? ⟨wb, m, none⟩ = false
theorem WantAt.kept {w w' : World} {wb : Nat} {l : List ByteArray} (h : WantAt w wb l) (hk : w'.heap[wb]? = w.heap[wb]?) : WantAt w' wb l :=
  ⟨h.len, fun m hm => (World.cell?_of_block (a := ⟨wb, m, none⟩) hk).trans (h.cel m hm), fun m => (World.frozen?_of_block (a := ⟨wb, m, none⟩) hk).trans (h.soft m)⟩
theorem WantAt.set {w : World} {wb : Nat} {l : List ByteArray} (h : WantAt w wb l) (a : Nat) (d : ByteArray) : WantAt (w.setCell ⟨wb, a, none⟩ (.string d)) wb (l.set a d) := by
  refine ⟨by rw [List.length_set]; exact h.len, fun m hm => ?_, fun m => by rw [World.frozen?_setCell]; exact h.soft m⟩
  rw [List.length_set] at hm
  by_cases e : a = m
  · subst e
    rw [List.getElem_set_self]
    exact World.cell?_setCell_same _ _ _ (h.cel a hm)
  · rw [List.getElem_set_ne e]
    exact (World.cell?_setCell_other _ _ _ _ (fun he => e (congrArg Addr.off he))).trans (h.cel m hm)
/-- the law's disk, and what is wanted of it -/
structure TDW (w wr : World) (db wb : Nat) (s : DSt) (l : List ByteArray) : Prop where
  ex : ∃ S, DK wr w.heap.size db S s ∧ ¬ S wb
  gd : Good4 s
  wa : WantAt wr wb l
  lt : wb < wr.heap.size
  lo : w.heap.size ≤ wb
  bel : Below w.heap.size w wr
theorem TDW.act {w wr w' : World} {db wb : Nat} {s s' : DSt} {l : List ByteArray} {S : Nat → Prop} (h : TDW w wr db wb s l) (hn : ¬ S wb) (ha : ActD wr w' w.heap.size db S s') (hg : Good4 s') : TDW w w' db wb s' l := by
  obtain ⟨S', hk, hs⟩ := ha
  obtain ⟨e, hn'⟩ := hs.far wb h.lt hn
  exact ⟨⟨S', hk, hn'⟩, hg, h.wa.kept e, Nat.lt_of_lt_of_le h.lt hs.bel.size, h.lo, h.bel.trans hs.bel⟩
theorem TDW.drew {w wr : World} {db wb : Nat} {s : DSt} {l : List ByteArray} (h : TDW w wr db wb s l) : TDW w wr.drew db wb s l := by
  obtain ⟨S, hk, hn⟩ := h.ex
  exact h.act hn (hk.stay (Below.refl _ wr).drew) h.gd
theorem TDW.set {w wr : World} {db wb : Nat} {s : DSt} {l : List ByteArray} (h : TDW w wr db wb s l) (a : Nat) (d : ByteArray) : TDW w (wr.setCell ⟨wb, a, none⟩ (.string d)) db wb s (l.set a d) := by
  obtain ⟨S, hk, hn⟩ := h.ex
  refine ⟨⟨S, hk.kept (by simp) fun k e => Below.heap_setCell _ _ _ _ (fun e2 => hn (by have e3 : k = wb := e2; rw [← e3]; exact e)), hn⟩, h.gd, h.wa.set a d, by simpa using h.lt, h.lo, h.bel.setCell (p := ⟨wb, a, none⟩) h.lo _⟩
/-- ahead of them -/
structure TD (w wr : World) (db : Nat) (s : DSt) : Prop where
  ex : ∃ S, DK wr w.heap.size db S s
  gd : Good4 s
  bel : Below w.heap.size w wr
theorem TD.act {w wr w' : World} {db : Nat} {s s' : DSt} {S : Nat → Prop} (h : TD w wr db s) (ha : ActD wr w' w.heap.size db S s') (hg : Good4 s') : TD w w' db s' := by
  obtain ⟨S', hk, hs⟩ := ha
  exact ⟨⟨S', hk⟩, hg, h.bel.trans hs.bel⟩
end Go.Proofs.Ytighpalbodhfeaa
