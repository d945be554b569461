/-
  Spans that lie in memory stay there; plain facts on lists of them.
-/
import Derived.Test.YtpbhcjkllfonhaaSpanHas
import Derived.Test.YtpbhcjkllfonhaaLight
namespace Go.Proofs.Ytpbhcjkllfonhaa
open Go.RowKit Go.Joins

theorem spansAt_on {w w' : World} {b off : Nat} {l : List (ByteArray × ByteArray)} (hb : Below w.heap.size w w') (h : spansAt w b off l) : spansAt w' b off l :=
  fun i hi => ⟨cell_on hb (h i hi).1, cell_on hb (h i hi).2⟩
theorem any_take {l : List (ByteArray × ByteArray)} {f : ByteArray × ByteArray → Bool} {k : Nat} (hk : k < l.length) (h : (l.take k).any f = false) (h2 : f l[k] = false) : (l.take (k + 1)).any f = false := by
  rw [List.take_succ_eq_append_getElem hk, List.any_append, h]; simp [h2]
theorem any_yes {l : List (ByteArray × ByteArray)} {f : ByteArray × ByteArray → Bool} {k : Nat} (hk : k < l.length) (h : f l[k] = true) : l.any f = true := by
  rw [List.any_eq_true]; exact ⟨l[k], List.getElem_mem hk, h⟩
end Go.Proofs.Ytpbhcjkllfonhaa

/-
  Spans that a slice holds, or none; what haywainlaw.LightSpans returns of them.
-/
namespace Go.Proofs.Ytpbhcjkllfonhaa
open Go.RowKit Go.Joins

def heldSp (w : World) (ao : Option Addr) (l : List (ByteArray × ByteArray)) : Prop := l = [] ∨ ∃ b off, ao = some ⟨b, off, none⟩ ∧ spansAt w b off l
theorem heldSp_on {w w' : World} {ao : Option Addr} {l : List (ByteArray × ByteArray)} (hb : Below w.heap.size w w') (h : heldSp w ao l) : heldSp w' ao l := by
  rcases h with h | ⟨b, off, h, k⟩
  · exact .inl h
  · exact .inr ⟨b, off, h, spansAt_on hb k⟩
theorem heldSp_block {w w' : World} {ao : Option Addr} {l : List (ByteArray × ByteArray)} (h : heldSp w ao l) (hk : ∀ b off, ao = some ⟨b, off, none⟩ → b < w.heap.size → w'.heap[b]? = w.heap[b]?) : heldSp w' ao l := by
  rcases h with h | ⟨b, off, rfl, h⟩
  · exact .inl h
  · by_cases h0 : l = []
    · exact .inl h0
    · have hl : 0 < l.length := List.length_pos_iff.2 h0
      have e := hk b off rfl (World.block_lt_of_cell? w _ (h 0 hl).1)
      exact .inr ⟨b, off, rfl, fun i hi => ⟨(World.cell?_of_block (w := w) e).trans (h i hi).1, (World.cell?_of_block (w := w) e).trans (h i hi).2⟩⟩
theorem lightSp_held (l : List (ByteArray × ByteArray)) (ao : Option Addr) (cap : Nat) (w : World) (hl : heldSp w ao l) (hn : l.length ≤ maxLen) :
    Calls Try.prog 21 #[.slice ao l.length cap] w fun e w' => e = .returned (.bool (lightSpans l)) ∧ w' = w := by
  rcases hl with rfl | ⟨b, off, rfl, h⟩
  · exact lightSpans_nil _ _ _
  · exact lightSpans_some l b off cap w h hn
end Go.Proofs.Ytpbhcjkllfonhaa
