/-
  A list of spans that came in as an argument: how it lies in memory.
-/
import Derived.Test.YtcaopggeainpnaaLaw
import Derived.Test.YtcaopggeainpnaaLight
import Derived.Deep.SlicePairs
namespace Go.Proofs.Ytcaopggeainpnaa
open Go.ChangeShapes Go.WideShapes Go.ChangeAt Go.RowKit Go.Joins Go.Deep

def strOf : Value → ByteArray
  | .string s => s
  | _ => ByteArray.empty

theorem open_spans {H : Type} {enc : TypeId × Value → H} {W : World} {base : Nat} {v : Value} {d : DataW H} {p : List MemPlace}
    (hv : Value.okWide Try.prog W .any base 24 v) (h : DataW.Trod enc Try.prog W 0 (fun _ => true) true 24 v d p) :
    (∃ ao cap, v = .slice ao 0 cap) ∨ ∃ (b off cap : Nat) (l : List (ByteArray × ByteArray)), v = .slice (some ⟨b, off, none⟩) l.length cap ∧ spansAt W b off l ∧ l.length ≤ maxLen := by
  obtain ⟨a0, len, cap, rfl⟩ := okWide_slice Try.underlying24 hv
  obtain ⟨fuel, hf⟩ := h
  rcases open_slice_pairs Try.underlying24 Try.underlying23 (by kernel_rfl) rfl rfl (by kernel_rfl) (by kernel_rfl) hf with ⟨hcs, _⟩ | ⟨a, len', cap', m, n, V0, V1, D0, D1, P0, P1, hcs, _, hl, hm, hmm, _, hx⟩
  · simp [Value.cells] at hcs
    obtain ⟨_, rfl, _⟩ := hcs
    exact Or.inl ⟨_, _, rfl⟩
  · simp [Value.cells] at hcs
    obtain ⟨rfl, rfl, rfl⟩ := hcs
    simp only [if_true] at hmm
    by_cases h0 : len = 0
    · subst h0; exact Or.inl ⟨_, _, rfl⟩
    · right
      obtain ⟨b, off, spot⟩ := a
      have hspot : spot = none := by simpa [Addr.add] using World.cell?_spot (hx 0 (by omega)).1
      subst hspot
      refine ⟨b, off, cap, (List.range len).map fun i => (strOf (V0 i), strOf (V1 i)), by simp, ?_, by simp; omega⟩
      intro i hi
      have hi' : i < len := by simpa using hi
      obtain ⟨e0, e1, t0, t1⟩ := hx i (by omega)
      obtain ⟨s0, q0, _, _⟩ := DataW.trod_string Try.underlying9 t0
      obtain ⟨s1, q1, _, _⟩ := DataW.trod_string Try.underlying9 t1
      simp at q0 q1
      rw [q0] at e0
      rw [q1] at e1
      have w0 := add_plain b off (i * 2)
      have w1 := add_plain b off (i * 2 + 1)
      rw [w0] at e0
      rw [w1] at e1
      simp [q0, q1, strOf, e0, Nat.add_assoc, e1]
end Go.Proofs.Ytcaopggeainpnaa
