/-
  Texts that came in, opened: as they lie.
-/
import Derived.Test.YtkfpfbkdalbjoaaBase
import Derived.Test.YtkfpfbkdalbjoaaLaw
import Derived.SliceStrings
namespace Go.Proofs.Ytkfpfbkdalbjoaa
open Go.ChangeShapes Go.WideShapes Go.ChangeAt Go.RowKit Go.Joins Go.Deep

def strsAt (w : World) (b off : Nat) (l : List ByteArray) : Prop := ∀ i (h : i < l.length), w.cell? ⟨b, off + i, none⟩ = some (.string l[i])
def heldSt (w : World) (ao : Option Addr) (l : List ByteArray) : Prop := l = [] ∨ ∃ b off, ao = some ⟨b, off, none⟩ ∧ strsAt w b off l
set_option maxRecDepth 100000 in
theorem open_strsArg {H : Type} {enc : TypeId × Value → H} {W : World} {base : Nat} {v : Value} {d : DataW H} {p : List MemPlace}
    (hv : Value.okWide Try.prog W .any base 48 v) (h : DataW.Trod enc Try.prog W 0 (fun _ => true) true 48 v d p) :
    ∃ (ao : Option Addr) (cap : Nat) (l : List ByteArray), v = .slice ao l.length cap ∧ heldSt W ao l ∧ l.length ≤ cap ∧ cap ≤ maxLen := by
  obtain ⟨a0, len, cap, rfl⟩ := okWide_slice Try.underlying48 hv
  obtain ⟨fuel, hf⟩ := h
  have hf' : DataW.trod enc Try.prog W 0 (fun _ => true) true fuel 48 [.slice a0 len cap] = some (d, p) := by simpa [Value.cells] using hf
  rcases open_strings Try.underlying48 Try.underlying9 (show Try.prog.cellsOf 9 = 1 by kernel_rfl) hf' with ⟨hcs, _⟩ | ⟨a, len', cap', ss, hcs, _, hl, hm, hz, _, hcell, _⟩
  · simp at hcs
    obtain ⟨rfl, rfl, rfl⟩ := hcs
    exact ⟨none, 0, [], rfl, .inl rfl, Nat.le_refl _, Nat.zero_le _⟩
  · simp at hcs
    obtain ⟨rfl, rfl, rfl⟩ := hcs
    simp only [if_true] at hz
    by_cases h0 : len = 0
    · subst h0
      exact ⟨_, _, [], rfl, .inl rfl, Nat.zero_le _, hm⟩
    · obtain ⟨b, off, spot⟩ := a
      have hspot : spot = none := by
        have e0 := hcell 0 (by omega)
        simpa [Addr.add] using World.cell?_spot e0
      subst hspot
      have hlen : (ss.take len).length = len := by rw [List.length_take]; omega
      refine ⟨_, cap, ss.take len, by rw [hlen], .inr ⟨b, off, rfl, fun i hi => ?_⟩, by rw [hlen]; exact hl, hm⟩
      have hi' : i < len := by rw [hlen] at hi; exact hi
      have e := hcell i (by omega)
      rw [Go.WideShapes.add_plain] at e
      rw [e, List.getElem_take]
      simp [List.getD, List.getElem?_eq_getElem (show i < ss.length by omega)]
end Go.Proofs.Ytkfpfbkdalbjoaa
