/-
  Spans appended to a row of one's own. Nothing of the program's functions is named here.
-/
import Derived.Test.YtjphbmdmnicjpacAnySpan
import Derived.Test.YtjphbmdmnicjpacRowG
import Derived.Lib.AppendZerosOnto
import Derived.Lib.SliceRun
namespace Go.Proofs.Ytjphbmdmnicjpac
open Go.RowKit Go.Joins

def cellS (s : ByteArray × ByteArray) : List Value := [.string s.1, .string s.2]
theorem cellS_len (s : ByteArray × ByteArray) : (cellS s).length = 2 := rfl
theorem cellS_one (l : List (ByteArray × ByteArray)) : ∀ u ∈ l.flatMap cellS, u.oneCell' = true := by
  intro u hu
  obtain ⟨s, _, hu⟩ := List.mem_flatMap.1 hu
  simp only [cellS, List.mem_cons, List.not_mem_nil, or_false] at hu
  rcases hu with rfl | rfl <;> rfl
theorem span_info : (Try.prog.info? 37).map (fun i => (i.zero, i.size, i.bytes)) = some (some (.agg #[.string ⟨#[]⟩, .string ⟨#[]⟩]), 2, 32) := by kernel_rfl
def ownSp (w : World) (B : Nat) (v : Value) (l : List (ByteArray × ByteArray)) : Prop := w.ownsRow B 37 2 v l.length (l.flatMap cellS)
theorem ownSp_held {w : World} {B : Nat} {v : Value} {l : List (ByteArray × ByteArray)} (h : ownSp w B v l) : ∃ ao cap, v = .slice ao l.length cap ∧ heldSp w ao l ∧ (∀ b, v.ownBlock = some b → B ≤ b) := by
  have hlt : ∀ b, v.ownBlock = some b → B ≤ b := fun b hb => (World.ownsRow.lt h b hb).1
  rcases own_form h with ⟨hv, h0⟩ | ⟨g, cap, hv, _⟩
  · have e : l = [] := List.length_eq_zero_iff.1 h0
    subst e
    exact ⟨none, 0, hv, .inl rfl, hlt⟩
  · refine ⟨_, cap, hv, .inr ⟨g, 0, rfl, fun i hi => ?_⟩, hlt⟩
    unfold ownSp at h
    rw [hv] at h
    have a := (own_get cellS_len h i 0 hi (by omega)).1
    have b := (own_get cellS_len h i 1 hi (by omega)).1
    rw [Nat.zero_add]
    exact ⟨a, b⟩
theorem append_sp (B : Nat) (v : Value) (l : List (ByteArray × ByteArray)) (w : World) (hown : ownSp w B v l) (hB : B ≤ w.heap.size) (ao : Option Addr) (cap : Nat) (m : List (ByteArray × ByteArray)) (h : heldSp w ao m) (hnil : ao = none → cap = 0 ∧ m = []) (hs : l.length + m.length ≤ 1000000) (ty : TypeId) :
    ∃ v' w', (Builtin.append_ #[42, 42] ty #[v, .slice ao m.length cap]).run Try.prog w = .ok v' w' ∧ ownSp w' B v' (l ++ m) ∧ w.grownBy w' v.ownBlock := by
  obtain ⟨i0, hi0, hz0, hs0, hb0⟩ := info_parts span_info
  cases ao with
  | none =>
    obtain ⟨rfl, rfl⟩ := hnil rfl
    exact ⟨v, w, run_append_owned_none w B _ ty _ i0 2 Try.underlying42 hi0 v l.length (l.flatMap cellS) hown, by simpa using hown, World.grownBy.refl w _⟩
  | some a =>
    have hnews : ∀ j u, (m.flatMap cellS)[j]? = some u → w.cell? (a.add j) = some u := by
      intro j u hj
      rcases h with rfl | ⟨b, off, e, hm⟩
      · simp at hj
      · cases e
        have hjl := (List.getElem?_eq_some_iff.1 hj).1
        rw [flat_len cellS 2 cellS_len] at hjl
        have hq : j / 2 < m.length := by omega
        have ej : j = j / 2 * 2 + j % 2 := by omega
        have hg := flat_get cellS 2 cellS_len m (j / 2) (j % 2) hq (by omega)
        rw [← ej, hj] at hg
        obtain ⟨c0, c1⟩ := hm (j / 2) hq
        rw [Addr.add_lit]
        rcases Nat.mod_two_eq_zero_or_one j with e | e
        · rw [e] at hg
          simp [cellS] at hg
          have e2 : off + j = off + j / 2 * 2 := by omega
          rw [e2, c0, hg]
        · rw [e] at hg
          simp [cellS] at hg
          have e2 : off + j = off + j / 2 * 2 + 1 := by omega
          rw [e2, c1, hg]
    obtain ⟨v', w', hr, ho, hg, _⟩ := run_append_own (P := Try.prog) (w := w) B 42 ty 37 i0 _ 2 32 Try.underlying42 hi0 hz0 hs0 hb0 rfl (by omega) v l.length (l.flatMap cellS) hown a m.length cap (m.flatMap cellS) (flat_len cellS 2 cellS_len m) hnews (cellS_one m) (by unfold maxLen; omega) (by omega) hB
    refine ⟨v', w', hr, ?_, hg⟩
    unfold ownSp
    rw [List.length_append, List.flatMap_append]
    exact ho
end Go.Proofs.Ytjphbmdmnicjpac
