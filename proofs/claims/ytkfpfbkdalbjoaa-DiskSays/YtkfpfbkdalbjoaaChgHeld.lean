/-
  Changes that a slice holds, as they came in; what haywainlaw.LightChanges returns of them.
-/
import Derived.Test.YtkfpfbkdalbjoaaChgLight
namespace Go.Proofs.Ytkfpfbkdalbjoaa
open Go.RowKit Go.Joins

/-- changes that a slice holds, or none -/
def heldCh (w : World) (ao : Option Addr) (l : List Chg) : Prop := l = [] ∨ ∃ b off, ao = some ⟨b, off, none⟩ ∧ chgsAt w b off l
theorem heldCh_on {w w' : World} {ao : Option Addr} {l : List Chg} (hb : Below w.heap.size w w') (h : heldCh w ao l) : heldCh w' ao l := by
  rcases h with h | ⟨b, off, h, k⟩
  · exact .inl h
  · exact .inr ⟨b, off, h, chgsAt_on hb k⟩
theorem light_held (l : List Chg) (n cap : Nat) (ao : Option Addr) (w : World) (hl : heldCh w ao l) (hm : n ≤ 1000) :
    Calls Try.prog 42 #[.slice ao l.length cap, .int .i64 n] w fun e w' => e = .returned (.bool (lightChgs l n)) ∧ w' = w := by
  rcases hl with rfl | ⟨b, off, rfl, h⟩
  · exact lightChgs_nil _ _ _ _
  · exact lightChgs_some l n b off cap w h hm
end Go.Proofs.Ytkfpfbkdalbjoaa
