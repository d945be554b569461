/-
  Lists of deeds that a law makes: append(append(nil, l..), d), as they lie in memory.
-/
import Derived.Test.YtkfpfbkdalbjoaaGreatLogRd
import Derived.Test.YtkfpfbkdalbjoaaGreatDskL
namespace Go.Proofs.YtkfpfbkdalbjoaaGreat
open Go.RowKit Go.Joins
attribute [local go_sem ↓] Go.wp_at_zero Go.wp_at_succ

/-- a row of deeds in a block that S is not in -/
def WantV (w : World) (N : Nat) (S : Nat → Prop) (v : Value) (l : List Dd) : Prop := (l = [] ∧ v = .slice none 0 0) ∨ ∃ g cap, v = .slice (some ⟨g, 0, none⟩) l.length cap ∧ l ≠ [] ∧ N ≤ g ∧ g < w.heap.size ∧ ¬ S g ∧ ∀ i (h : i < l.length), w.cell? ⟨g, i, none⟩ = some (ddV l[i])
section
variable {w w' : World} {N B : Nat} {S S' : Nat → Prop} {v : Value} {l : List Dd}
theorem WantV.step (h : WantV w N S v l) (hs : StepV w w' B S S') : WantV w' N S' v l := by
  rcases h with h | ⟨g, cap, e, h0, h1, h2, h3, h4⟩
  · exact .inl h
  · obtain ⟨f1, f2⟩ := hs.far g h2 h3
    exact .inr ⟨g, cap, e, h0, h1, Nat.lt_of_lt_of_le h2 hs.bel.size, f2, fun i hi => (World.cell?_of_block (a := ⟨g, i, none⟩) f1).trans (h4 i hi)⟩
theorem WantV.on (h : WantV w N S v l) (hb : Below w.heap.size w w') : WantV w' N S v l := by
  rcases h with h | ⟨g, cap, e, h0, h1, h2, h3, h4⟩
  · exact .inl h
  · exact .inr ⟨g, cap, e, h0, h1, Nat.lt_of_lt_of_le h2 hb.size, h3, fun i hi => cell_on hb (h4 i hi)⟩
theorem WantV.held (h : WantV w N S v l) (hl : ∀ d ∈ l, heldCh w d.ao d.chs) : ∃ ao cap, v = .slice ao l.length cap ∧ heldDs w ao l := by
  rcases h with ⟨rfl, rfl⟩ | ⟨g, cap, e, _, _, _, _, h4⟩
  · exact ⟨none, 0, rfl, .inl rfl⟩
  · exact ⟨_, cap, e, .inr ⟨g, 0, rfl, fun i hi => ⟨by rw [Nat.zero_add]; exact h4 i hi, hl _ (List.getElem_mem hi)⟩⟩⟩
theorem WantV.len (h : WantV w N S v l) : ∃ ao cap, v = .slice ao l.length cap := by
  rcases h with ⟨rfl, rfl⟩ | ⟨g, cap, e, _⟩
  · exact ⟨none, 0, rfl⟩
  · exact ⟨_, cap, e⟩
/-- the row that an append has made -/
theorem WantV.of_own {n : Nat} {xs : List Value} (ho : w.ownsRow N 40 1 v n xs) (hn : n = l.length) (hx : xs = l.map ddV) (hS : ∀ k, v.ownBlock = some k → ¬ S k) (hne : l ≠ []) : WantV w N S v l := by
  subst hn hx
  rcases ho.2 with ⟨e, e2⟩ | ⟨g, cap, cur, e, hB, hg, _⟩
  · exact absurd (List.eq_nil_of_length_eq_zero e2) hne
  · by_cases hl0 : l = []
    · exact absurd hl0 hne
    refine .inr ⟨g, cap, e, hl0, hB, (Array.getElem?_eq_some_iff.1 hg).1, hS g (by rw [e]; rfl), fun i hi => ?_⟩
    have := World.ownsRow.cells ho (g := g) (by rw [e]; rfl) i (ddV l[i]) (by rw [List.getElem?_map, List.getElem?_eq_getElem hi]; rfl)
    rwa [Go.Addr.add_mid, Nat.zero_add] at this
/-- with lists of their own -/
structure GotV (w : World) (N : Nat) (S : Nat → Prop) (v : Value) (l : List Dd) : Prop where
  row : WantV w N S v l
  own : ∀ d ∈ l, ddOwn w N d ∧ ∀ k, (ddV d).ownBlock = some k → ¬ S k
theorem GotV.step (h : GotV w N S v l) (hs : StepV w w' B S S') : GotV w' N S' v l := by
  refine ⟨h.row.step hs, fun d hd => ?_⟩
  obtain ⟨h1, h2⟩ := h.own d hd
  exact ⟨ownCh_kept h1 fun k e => (hs.far k (World.ownsRow.lt h1 k e).2 (h2 k e)).1, fun k e => (hs.far k (World.ownsRow.lt h1 k e).2 (h2 k e)).2⟩
theorem GotV.on (h : GotV w N S v l) (hb : Below w.heap.size w w') : GotV w' N S v l := by
  refine ⟨h.row.on hb, fun d hd => ?_⟩
  obtain ⟨h1, h2⟩ := h.own d hd
  exact ⟨ownCh_kept h1 fun k e => hb.block k (World.ownsRow.lt h1 k e).2, h2⟩
theorem ddOwn_held {d : Dd} (h : ddOwn w N d) : heldCh w d.ao d.chs := by
  by_cases h0 : d.chs = []
  · exact .inl h0
  · obtain ⟨g, cap, hv, hc⟩ := own_chgs h (List.length_pos_iff.2 h0)
    have e : d.ao = some ⟨g, 0, none⟩ := by unfold ddV at hv; simp only [Value.slice.injEq] at hv; exact hv.1
    exact .inr ⟨g, 0, e, hc.2⟩
theorem GotV.held (h : GotV w N S v l) : ∃ ao cap, v = .slice ao l.length cap ∧ heldDs w ao l := h.row.held fun d hd => ddOwn_held (h.own d hd).1
theorem heldDs_mem {ao : Option Addr} (h : heldDs w ao l) : ∀ d ∈ l, heldCh w d.ao d.chs := fun d hd => by
  rcases h with h | ⟨b, off, _, h⟩
  · rw [h] at hd; exact absurd hd List.not_mem_nil
  · obtain ⟨i, hi, rfl⟩ := List.mem_iff_getElem.1 hd
    exact (h i hi).2
/-- with lists of their own, or of what came in -/
structure MixV (w0 w : World) (N : Nat) (S : Nat → Prop) (v : Value) (l : List Dd) : Prop where
  row : WantV w N S v l
  el : ∀ d ∈ l, heldCh w0 d.ao d.chs ∨ (ddOwn w N d ∧ ∀ k, (ddV d).ownBlock = some k → ¬ S k)
theorem MixV.step {w0 : World} (h : MixV w0 w N S v l) (hs : StepV w w' B S S') : MixV w0 w' N S' v l := by
  refine ⟨h.row.step hs, fun d hd => ?_⟩
  rcases h.el d hd with h1 | ⟨h1, h2⟩
  · exact .inl h1
  · exact .inr ⟨ownCh_kept h1 fun k e => (hs.far k (World.ownsRow.lt h1 k e).2 (h2 k e)).1, fun k e => (hs.far k (World.ownsRow.lt h1 k e).2 (h2 k e)).2⟩
theorem MixV.on {w0 : World} (h : MixV w0 w N S v l) (hb : Below w.heap.size w w') : MixV w0 w' N S v l := by
  refine ⟨h.row.on hb, fun d hd => ?_⟩
  rcases h.el d hd with h1 | ⟨h1, h2⟩
  · exact .inl h1
  · exact .inr ⟨ownCh_kept h1 fun k e => hb.block k (World.ownsRow.lt h1 k e).2, h2⟩
theorem MixV.held {w0 : World} (h : MixV w0 w N S v l) (hb : Below w0.heap.size w0 w) : ∃ ao cap, v = .slice ao l.length cap ∧ heldDs w ao l := h.row.held fun d hd => by
  rcases h.el d hd with h1 | ⟨h1, _⟩
  · exact heldCh_on hb h1
  · exact ddOwn_held h1
/-- a row of one's own as it came -/
theorem WantV.of_row (ho : w.ownsRow N 40 1 v l.length (l.map ddV)) (hS : ∀ k, v.ownBlock = some k → ¬ S k) (he : l = [] → v = .slice none 0 0) : WantV w N S v l := by
  by_cases h0 : l = []
  · exact .inl ⟨h0, he h0⟩
  · exact .of_own ho rfl rfl hS h0
end
end Go.Proofs.YtkfpfbkdalbjoaaGreat
