/-
  A list of changes that came in as an argument: how it lies in memory.
-/
import Derived.Test.YtlndiohdjdgaoaaLaw
import Derived.Test.YtlndiohdjdgaoaaTopChangeRow
import Derived.Deep.SlicePairs
namespace Go.Proofs.Ytlndiohdjdgaoaa
open Go.ChangeShapes Go.WideShapes Go.ChangeAt Go.RowKit Go.Joins Go.Deep

theorem chg_cells {H : Type} {enc : TypeId × Value → H} {P : Program} {w : World} {base : Nat} {spare : Nat → Bool} {held : Bool} {e ts tb : TypeId} {f0 f1 f2 : Field} {n b off i : Nat} {cs : List Value} {x : DataW H × List MemPlace}
    (he : P.underlying e = some (.struct #[f0, f1, f2])) (ce : P.cellsOf e = 3) (o0 : f0.offset = 0) (o1 : f1.offset = 1) (o2 : f2.offset = 2) (c0 : P.cellsOf f0.type = 1) (c1 : P.cellsOf f1.type = 1) (c2 : P.cellsOf f2.type = 1)
    (t0 : f0.type = ts) (t1 : f1.type = ts) (t2 : f2.type = tb) (us : P.underlying ts = some .string) (ub : P.underlying tb = some .bool)
    (h1 : w.cells? base ((⟨b, off, none⟩ : Addr).add (i * P.cellsOf e)) (P.cellsOf e) = some cs) (h2 : DataW.trod enc P w base spare held n e cs = some x) :
    ∃ c : Chg, w.cell? ⟨b, off + i * 3, none⟩ = some (.string c.key) ∧ w.cell? ⟨b, off + i * 3 + 1, none⟩ = some (.string c.val) ∧ w.cell? ⟨b, off + i * 3 + 2, none⟩ = some (.bool c.gone) := by
  rw [ce] at h1
  obtain ⟨_, hlen, hcell⟩ := World.cells?_some h1
  obtain ⟨xs, k, hk, hxy, _, hxl, hf⟩ := DataW.trod_struct he h2
  match xs, hxl, cs, hlen with
  | [y0, y1, y2], _, [v0, v1, v2], _ =>
    have g0 := hf 0 f0 rfl
    have g1 := hf 1 f1 rfl
    have g2 := hf 2 f2 rfl
    simp [o0, o1, o2, c0, c1, c2] at g0 g1 g2
    rw [t0] at g0
    rw [t1] at g1
    rw [t2] at g2
    obtain ⟨s0, q0, _, _⟩ := DataW.trod_string us g0
    obtain ⟨s1, q1, _, _⟩ := DataW.trod_string us g1
    obtain ⟨b2, q2, _⟩ := DataW.trod_bool ub g2
    simp at q0 q1 q2
    subst q0 q1 q2
    have e0 := hcell 0 (by omega)
    have e1 := hcell 1 (by omega)
    have e2 := hcell 2 (by omega)
    rw [add_add, add_plain] at e0 e1 e2
    exact ⟨⟨s0, s1, b2⟩, by simpa using e0, by simpa [Nat.add_assoc] using e1, by simpa [Nat.add_assoc] using e2⟩

/-- changes that came in: nil, empty without room, or as they lie -/
def argCh (w : World) (ao : Option Addr) (cap : Nat) (l : List Chg) : Prop :=
  (ao = none ∧ cap = 0 ∧ l = []) ∨ (∃ a, ao = some a ∧ cap = 0 ∧ l = []) ∨ ∃ b off, ao = some ⟨b, off, none⟩ ∧ l.length ≤ cap ∧ cap ≤ 9223372036854775807 ∧ chgsAt w b off l
theorem argCh_held {w : World} {ao : Option Addr} {cap : Nat} {l : List Chg} (h : argCh w ao cap l) : heldCh w ao l := by
  rcases h with ⟨_, _, h⟩ | ⟨_, _, _, h⟩ | ⟨b, off, h, _, _, k⟩
  · exact .inl h
  · exact .inl h
  · exact .inr ⟨b, off, h, k⟩
theorem open_args {H : Type} {enc : TypeId × Value → H} {W : World} {base : Nat} {v : Value} {d : DataW H} {p : List MemPlace}
    (hv : Value.okWide Try.prog W .any base 34 v) (h : DataW.Trod enc Try.prog W 0 (fun _ => true) true 34 v d p) :
    ∃ (ao : Option Addr) (cap : Nat) (l : List Chg), v = .slice ao l.length cap ∧ argCh W ao cap l := by
  obtain ⟨a0, len, cap, rfl⟩ := okWide_slice Try.underlying34 hv
  obtain ⟨fuel, hf⟩ := h
  rcases open_slice Try.underlying34 hf with ⟨hcs, _⟩ | ⟨a, len', cap', m, n, D, Pl, hcs, _, hl, hm, hmm, _, hx⟩
  · simp [Value.cells] at hcs
    obtain ⟨rfl, rfl, rfl⟩ := hcs
    exact ⟨_, _, [], rfl, .inl ⟨rfl, rfl, rfl⟩⟩
  · simp [Value.cells] at hcs
    obtain ⟨rfl, rfl, rfl⟩ := hcs
    simp only [if_true] at hmm
    by_cases h0 : cap = 0
    · have e : len = 0 := by omega
      subst e
      subst h0
      exact ⟨_, _, [], rfl, .inr (.inl ⟨a, rfl, rfl, rfl⟩)⟩
    · obtain ⟨b, off, spot⟩ := a
      have hspot : spot = none := by
        obtain ⟨cs, h1, _⟩ := hx 0 (by omega)
        rw [show Try.prog.cellsOf 36 = 3 by kernel_rfl] at h1
        obtain ⟨_, hlen, hcell⟩ := World.cells?_some h1
        have e0 := (hcell 0 (by omega)).trans (List.getElem?_eq_getElem (by omega))
        simpa [Addr.add] using World.cell?_spot e0
      subst hspot
      have each : ∀ i, i < len → ∃ c : Chg, W.cell? ⟨b, off + i * 3, none⟩ = some (.string c.key) ∧ W.cell? ⟨b, off + i * 3 + 1, none⟩ = some (.string c.val) ∧ W.cell? ⟨b, off + i * 3 + 2, none⟩ = some (.bool c.gone) := by
        intro i hi
        obtain ⟨cs, h1, h2⟩ := hx i (by omega)
        exact chg_cells Try.underlying36 (by kernel_rfl) rfl rfl rfl (by kernel_rfl) (by kernel_rfl) (by kernel_rfl) rfl rfl rfl Try.underlying9 Try.underlying4 h1 h2
      haveI : Inhabited Chg := ⟨⟨ByteArray.empty, ByteArray.empty, false⟩⟩
      obtain ⟨q, hq⟩ := choose_lt each
      refine ⟨_, cap, (List.range len).map q, by simp, .inr (.inr ⟨b, off, rfl, by simpa using hl, by unfold maxLen at hm; omega, ?_⟩)⟩
      intro i hi
      have hi' : i < len := by simpa using hi
      simpa using hq i hi'
theorem open_chgs {H : Type} {enc : TypeId × Value → H} {W : World} {base : Nat} {v : Value} {d : DataW H} {p : List MemPlace}
    (hv : Value.okWide Try.prog W .any base 34 v) (h : DataW.Trod enc Try.prog W 0 (fun _ => true) true 34 v d p) :
    ∃ (ao : Option Addr) (cap : Nat) (l : List Chg), v = .slice ao l.length cap ∧ heldCh W ao l := by
  obtain ⟨ao, cap, l, hv, h⟩ := open_args hv h
  exact ⟨ao, cap, l, hv, argCh_held h⟩
end Go.Proofs.Ytlndiohdjdgaoaa
