/-
  Rows appended to a row of one's own. Nothing of the program's functions is named here.
-/
import Derived.Test.YtpbhcjkllfonhaaVerPast
import Derived.Lib.AppendZerosOnto
import Derived.Lib.SliceRun
namespace Go.Proofs.Ytpbhcjkllfonhaa
open Go.RowKit Go.Joins

theorem cellPs_one (l : List (ByteArray × ByteArray)) : ∀ u ∈ l.flatMap cellP, u.oneCell' = true := by
  intro u hu
  obtain ⟨s, _, hu⟩ := List.mem_flatMap.1 hu
  simp only [cellP, List.mem_cons, List.not_mem_nil, or_false] at hu
  rcases hu with rfl | rfl <;> rfl
theorem append_p (B : Nat) (v : Value) (l : List (ByteArray × ByteArray)) (w : World) (hown : ownP w B v l) (hB : B ≤ w.heap.size) (ao : Option Addr) (cap : Nat) (m : List (ByteArray × ByteArray)) (h : heldSp w ao m) (hnil : ao = none → cap = 0 ∧ m = []) (hs : l.length + m.length ≤ 1000000) (ty : TypeId) :
    ∃ v' w', (Builtin.append_ #[22, 22] ty #[v, .slice ao m.length cap]).run Try.prog w = .ok v' w' ∧ ownP w' B v' (l ++ m) ∧ w.grownBy w' v.ownBlock := by
  obtain ⟨i0, hi0, hz0, hs0, hb0⟩ := info_parts row_info
  cases ao with
  | none =>
    obtain ⟨rfl, rfl⟩ := hnil rfl
    exact ⟨v, w, run_append_owned_none w B _ ty _ i0 2 Try.underlying22 hi0 v l.length (l.flatMap cellP) hown, by simpa using hown, World.grownBy.refl w _⟩
  | some a =>
    have hnews : ∀ j u, (m.flatMap cellP)[j]? = some u → w.cell? (a.add j) = some u := by
      intro j u hj
      rcases h with rfl | ⟨b, off, e, hm⟩
      · simp at hj
      · cases e
        have hjl := (List.getElem?_eq_some_iff.1 hj).1
        rw [flat_len cellP 2 cellP_len] at hjl
        have hq : j / 2 < m.length := by omega
        have ej : j = j / 2 * 2 + j % 2 := by omega
        have hg := flat_get cellP 2 cellP_len m (j / 2) (j % 2) hq (by omega)
        rw [← ej, hj] at hg
        obtain ⟨c0, c1⟩ := hm (j / 2) hq
        rw [Addr.add_lit]
        rcases Nat.mod_two_eq_zero_or_one j with e | e
        · rw [e] at hg
          simp [cellP] at hg
          have e2 : off + j = off + j / 2 * 2 := by omega
          rw [e2, c0, hg]
        · rw [e] at hg
          simp [cellP] at hg
          have e2 : off + j = off + j / 2 * 2 + 1 := by omega
          rw [e2, c1, hg]
    obtain ⟨v', w', hr, ho, hg, _⟩ := run_append_own (P := Try.prog) (w := w) B 22 ty 54 i0 _ 2 32 Try.underlying22 hi0 hz0 hs0 hb0 rfl (by omega) v l.length (l.flatMap cellP) hown a m.length cap (m.flatMap cellP) (flat_len cellP 2 cellP_len m) hnews (cellPs_one m) (by unfold maxLen; omega) (by omega) hB
    refine ⟨v', w', hr, ?_, hg⟩
    unfold ownP
    rw [List.length_append, List.flatMap_append]
    exact ho
end Go.Proofs.Ytpbhcjkllfonhaa
