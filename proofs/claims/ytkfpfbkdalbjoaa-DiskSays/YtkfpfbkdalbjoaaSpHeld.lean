/-
  Spans that a slice holds, or none; what haywainlaw.LightSpans returns of them.
-/
import Derived.Test.YtkfpfbkdalbjoaaSpOn
namespace Go.Proofs.Ytkfpfbkdalbjoaa
open Go.RowKit Go.Joins

def heldSp (w : World) (ao : Option Addr) (l : List (ByteArray × ByteArray)) : Prop := l = [] ∨ ∃ b off, ao = some ⟨b, off, none⟩ ∧ spansAt w b off l
theorem heldSp_on {w w' : World} {ao : Option Addr} {l : List (ByteArray × ByteArray)} (hb : Below w.heap.size w w') (h : heldSp w ao l) : heldSp w' ao l := by
  rcases h with h | ⟨b, off, h, k⟩
  · exact .inl h
  · exact .inr ⟨b, off, h, spansAt_on hb k⟩
theorem heldSp_block {w w' : World} {ao : Option Addr} {l : List (ByteArray × ByteArray)} (h : heldSp w ao l) (hk : ∀ b off, ao = some ⟨b, off, none⟩ → b < w.heap.size → w'.heap[b]? = w.heap[b]?) : heldSp w' ao l := by
  rcases h with h | ⟨b, off, rfl, h⟩
  · exact .inl h
  · by_cases h0 : l = []
    · exact .inl h0
    · have hl : 0 < l.length := List.length_pos_iff.2 h0
      have e := hk b off rfl (World.block_lt_of_cell? w _ (h 0 hl).1)
      exact .inr ⟨b, off, rfl, fun i hi => ⟨(World.cell?_of_block (w := w) e).trans (h i hi).1, (World.cell?_of_block (w := w) e).trans (h i hi).2⟩⟩
theorem lightSp_held (l : List (ByteArray × ByteArray)) (ao : Option Addr) (cap : Nat) (w : World) (hl : heldSp w ao l) (hn : l.length ≤ maxLen) :
    Calls Try.prog 43 #[.slice ao l.length cap] w fun e w' => e = .returned (.bool (lightSpans l)) ∧ w' = w := by
  rcases hl with rfl | ⟨b, off, rfl, h⟩
  · exact lightSpans_nil _ _ _
  · exact lightSpans_some l b off cap w h hn
end Go.Proofs.Ytkfpfbkdalbjoaa
