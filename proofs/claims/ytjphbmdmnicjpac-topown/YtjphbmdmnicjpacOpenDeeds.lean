/-
  Rows and deeds that came in as arguments: how they lie in memory.
-/
import Derived.Test.YtjphbmdmnicjpacOpenActs
import Derived.Test.YtjphbmdmnicjpacVerDeeds
namespace Go.Proofs.Ytjphbmdmnicjpac
open Go.ChangeShapes Go.WideShapes Go.ChangeAt Go.RowKit Go.Joins Go.Deep

section
variable {H : Type} {enc : TypeId × Value → H} {w : World} {base : Nat} {held : Bool}

set_option maxRecDepth 100000 in
theorem rows_cell {v : Value} {fuel : Nat} {x : DataW H × List MemPlace} (h : DataW.trod enc Try.prog w base (fun _ => true) held fuel 22 [v] = some x) :
    ∃ (ao : Option Addr) (cap : Nat) (l : List (ByteArray × ByteArray)), v = .slice ao l.length cap ∧ heldSp w ao l ∧ l.length ≤ maxLen ∧ (ao = none → cap = 0 ∧ l = []) := by
  rcases open_slice Try.underlying22 h with ⟨hcs, _⟩ | ⟨a, len, cap, m, n, D, Pl, hcs, _, hl, hm, hmm, _, hx⟩
  · simp at hcs
    subst hcs
    exact ⟨_, _, [], rfl, .inl rfl, Nat.zero_le _, fun _ => ⟨rfl, rfl⟩⟩
  · simp at hcs
    subst hcs
    simp only [if_true] at hmm
    by_cases h0 : len = 0
    · subst h0
      exact ⟨_, _, [], rfl, .inl rfl, Nat.zero_le _, fun h => by cases h⟩
    · obtain ⟨b, off, spot⟩ := a
      have hc3 : Try.prog.cellsOf 27 = 2 := by kernel_rfl
      have hspot : spot = none := by
        obtain ⟨cs, h1, _⟩ := hx 0 (by omega)
        rw [hc3] at h1
        obtain ⟨_, hlen, hcell⟩ := World.cells?_some h1
        have e0 := (hcell 0 (by omega)).trans (List.getElem?_eq_getElem (by omega))
        simpa [Addr.add] using World.cell?_spot e0
      subst hspot
      have each : ∀ i, i < len → ∃ c : ByteArray × ByteArray, w.cell? ⟨b, off + i * 2, none⟩ = some (.string c.1) ∧ w.cell? ⟨b, off + i * 2 + 1, none⟩ = some (.string c.2) := by
        intro i hi
        obtain ⟨cs, h1, h2⟩ := hx i (by omega)
        rw [hc3] at h1
        obtain ⟨_, hlen, hcell⟩ := World.cells?_some h1
        obtain ⟨xs, k, hk, hxy, _, hxl, hf⟩ := DataW.trod_struct Try.underlying27 h2
        obtain ⟨v0, y0, e0, g0⟩ := one_field (i := 0) (t := 9) hxl hf rfl rfl (by kernel_rfl) rfl (by omega)
        obtain ⟨v1, y1, e1, g1⟩ := one_field (i := 1) (t := 9) hxl hf rfl rfl (by kernel_rfl) rfl (by omega)
        obtain ⟨s0, q0, _, _⟩ := DataW.trod_string Try.underlying9 g0
        obtain ⟨s1, q1, _, _⟩ := DataW.trod_string Try.underlying9 g1
        simp at q0 q1
        subst q0 q1
        have c0 := (hcell 0 (by omega)).trans e0
        have c1 := (hcell 1 (by omega)).trans e1
        rw [add_add, add_plain] at c0 c1
        exact ⟨(s0, s1), by simpa using c0, by simpa [Nat.add_assoc] using c1⟩
      haveI : Inhabited (ByteArray × ByteArray) := ⟨(ByteArray.empty, ByteArray.empty)⟩
      obtain ⟨q, hq⟩ := choose_lt each
      refine ⟨_, cap, (List.range len).map q, by simp, .inr ⟨b, off, rfl, ?_⟩, by simp; omega, fun h => by cases h⟩
      intro i hi
      have hi' : i < len := by simpa using hi
      simpa using hq i hi'
set_option maxRecDepth 100000 in
theorem deeds_cell {v : Value} {fuel : Nat} {x : DataW H × List MemPlace} (h : DataW.trod enc Try.prog w base (fun _ => true) held fuel 23 [v] = some x) : ∃ (ao : Option Addr) (cap : Nat) (l : List Dd), v = .slice ao l.length cap ∧ heldDs w ao l := by
  rcases open_slice Try.underlying23 h with ⟨hcs, _⟩ | ⟨a, len, cap, m, n, D, Pl, hcs, _, hl, hm, hmm, _, hx⟩
  · simp at hcs
    subst hcs
    exact ⟨_, _, [], rfl, .inl rfl⟩
  · simp at hcs
    subst hcs
    simp only [if_true] at hmm
    by_cases h0 : len = 0
    · subst h0
      exact ⟨_, _, [], rfl, .inl rfl⟩
    · obtain ⟨b, off, spot⟩ := a
      have hc3 : Try.prog.cellsOf 30 = 1 := by kernel_rfl
      have hspot : spot = none := by
        obtain ⟨cs, h1, _⟩ := hx 0 (by omega)
        rw [hc3] at h1
        obtain ⟨_, hlen, hcell⟩ := World.cells?_some h1
        have e0 := (hcell 0 (by omega)).trans (List.getElem?_eq_getElem (by omega))
        simpa [Addr.add] using World.cell?_spot e0
      subst hspot
      have each : ∀ i, i < len → ∃ c : Dd, w.cell? ⟨b, off + i, none⟩ = some (.slice c.ao c.chs.length c.cap) ∧ heldCh w c.ao c.chs := by
        intro i hi
        obtain ⟨cs, h1, h2⟩ := hx i (by omega)
        rw [hc3] at h1
        obtain ⟨_, hlen, hcell⟩ := World.cells?_some h1
        match cs, hlen with
        | [v0], _ =>
          obtain ⟨ao, cap0, l, rfl, hl0⟩ := chgs_cell h2
          have c0 := hcell 0 (by omega)
          rw [add_add, add_plain] at c0
          exact ⟨⟨ao, cap0, l⟩, by simpa using c0, hl0⟩
      haveI : Inhabited Dd := ⟨⟨none, 0, []⟩⟩
      obtain ⟨q, hq⟩ := choose_lt each
      refine ⟨_, cap, (List.range len).map q, by simp, .inr ⟨b, off, rfl, ?_⟩⟩
      intro i hi
      have hi' : i < len := by simpa using hi
      simpa using hq i hi'
end
set_option maxRecDepth 100000 in
theorem open_rowsArg {H : Type} {enc : TypeId × Value → H} {W : World} {base : Nat} {v : Value} {d : DataW H} {p : List MemPlace}
    (hv : Value.okWide Try.prog W .any base 22 v) (h : DataW.Trod enc Try.prog W 0 (fun _ => true) true 22 v d p) :
    ∃ (ao : Option Addr) (cap : Nat) (l : List (ByteArray × ByteArray)), v = .slice ao l.length cap ∧ heldSp W ao l ∧ l.length ≤ maxLen ∧ (ao = none → cap = 0 ∧ l = []) := by
  obtain ⟨a0, len, cap, rfl⟩ := okWide_slice Try.underlying22 hv
  obtain ⟨fuel, hf⟩ := h
  exact rows_cell (v := .slice a0 len cap) (by simpa [Value.cells] using hf)
set_option maxRecDepth 100000 in
theorem open_deedsArg {H : Type} {enc : TypeId × Value → H} {W : World} {base : Nat} {v : Value} {d : DataW H} {p : List MemPlace}
    (hv : Value.okWide Try.prog W .any base 23 v) (h : DataW.Trod enc Try.prog W 0 (fun _ => true) true 23 v d p) : ∃ (ao : Option Addr) (cap : Nat) (l : List Dd), v = .slice ao l.length cap ∧ heldDs W ao l := by
  obtain ⟨a0, len, cap, rfl⟩ := okWide_slice Try.underlying23 hv
  obtain ⟨fuel, hf⟩ := h
  exact deeds_cell (v := .slice a0 len cap) (by simpa [Value.cells] using hf)
end Go.Proofs.Ytjphbmdmnicjpac
