/-
  Spans that lie in memory stay there; plain facts on lists of them.
-/
import Derived.Test.YtighpalbodhfeaaGreatDoorRowBoth
import Derived.Test.YtighpalbodhfeaaGreatDoorBase
import Derived.Laws.OwnMore
import Derived.Deep.AppendLies
import Derived.Lib.AppendZerosOnto
import Derived.Lib.SliceRun
namespace Go.Proofs.YtighpalbodhfeaaGreatDoor
open Go.RowKit Go.Joins

theorem spansAt_on {w w' : World} {b off : Nat} {l : List (ByteArray × ByteArray)} (hb : Below w.heap.size w w') (h : spansAt w b off l) : spansAt w' b off l :=
  fun i hi => ⟨cell_on hb (h i hi).1, cell_on hb (h i hi).2⟩
theorem any_take {l : List (ByteArray × ByteArray)} {f : ByteArray × ByteArray → Bool} {k : Nat} (hk : k < l.length) (h : (l.take k).any f = false) (h2 : f l[k] = false) : (l.take (k + 1)).any f = false := by
  rw [List.take_succ_eq_append_getElem hk, List.any_append, h]; simp [h2]
theorem any_yes {l : List (ByteArray × ByteArray)} {f : ByteArray × ByteArray → Bool} {k : Nat} (hk : k < l.length) (h : f l[k] = true) : l.any f = true := by
  rw [List.any_eq_true]; exact ⟨l[k], List.getElem_mem hk, h⟩
end Go.Proofs.YtighpalbodhfeaaGreatDoor

/-
  Spans that a slice holds, or none; what haywainlaw.LightSpans returns of them.
-/
namespace Go.Proofs.YtighpalbodhfeaaGreatDoor
open Go.RowKit Go.Joins

def heldSp (w : World) (ao : Option Addr) (l : List (ByteArray × ByteArray)) : Prop := l = [] ∨ ∃ b off, ao = some ⟨b, off, none⟩ ∧ spansAt w b off l
theorem heldSp_on {w w' : World} {ao : Option Addr} {l : List (ByteArray × ByteArray)} (hb : Below w.heap.size w w') (h : heldSp w ao l) : heldSp w' ao l := by
  rcases h with h | ⟨b, off, h, k⟩
  · exact .inl h
  · exact .inr ⟨b, off, h, spansAt_on hb k⟩
theorem heldSp_block {w w' : World} {ao : Option Addr} {l : List (ByteArray × ByteArray)} (h : heldSp w ao l) (hk : ∀ b off, ao = some ⟨b, off, none⟩ → b < w.heap.size → w'.heap[b]? = w.heap[b]?) : heldSp w' ao l := by
  rcases h with h | ⟨b, off, rfl, h⟩
  · exact .inl h
  · by_cases h0 : l = []
    · exact .inl h0
    · have hl : 0 < l.length := List.length_pos_iff.2 h0
      have e := hk b off rfl (World.block_lt_of_cell? w _ (h 0 hl).1)
      exact .inr ⟨b, off, rfl, fun i hi => ⟨(World.cell?_of_block (w := w) e).trans (h i hi).1, (World.cell?_of_block (w := w) e).trans (h i hi).2⟩⟩
theorem lightSp_held (l : List (ByteArray × ByteArray)) (ao : Option Addr) (cap : Nat) (w : World) (hl : heldSp w ao l) (hn : l.length ≤ maxLen) :
    Calls Tryz.prog 16 #[.slice ao l.length cap] w fun e w' => e = .returned (.bool (lightSpans l)) ∧ w' = w := by
  rcases hl with rfl | ⟨b, off, rfl, h⟩
  · exact lightSpans_nil _ _ _
  · exact lightSpans_some l b off cap w h hn
end Go.Proofs.YtighpalbodhfeaaGreatDoor

/-
  Rows of one's own whose elements have the same number of cells each: plain facts. Nothing of the program's functions is named here.
-/
namespace Go.Proofs.YtighpalbodhfeaaGreatDoor
open Go.RowKit Go.Joins

theorem flat_len {α β : Type} (f : α → List β) (k : Nat) (hk : ∀ x, (f x).length = k) (l : List α) : (l.flatMap f).length = l.length * k := by
  induction l with
  | nil => simp
  | cons x l ih => rw [List.flatMap_cons, List.length_append, ih, hk, List.length_cons, Nat.succ_mul]; omega
theorem flat_get {α β : Type} (f : α → List β) (k : Nat) (hk : ∀ x, (f x).length = k) (l : List α) : ∀ (i j : Nat) (hi : i < l.length), j < k → (l.flatMap f)[i * k + j]? = (f l[i])[j]? := by
  induction l with
  | nil => intro i j hi; simp at hi
  | cons x l ih =>
    intro i j hi hj
    rw [List.flatMap_cons]
    match i with
    | 0 => rw [Nat.zero_mul, Nat.zero_add, List.getElem?_append_left (by rw [hk]; exact hj)]; rfl
    | i + 1 =>
      rw [List.getElem?_append_right (by rw [hk, Nat.succ_mul]; omega), hk]
      have e : (i + 1) * k + j - k = i * k + j := by rw [Nat.succ_mul]; omega
      rw [e, ih i j (by simpa using hi) hj]
      rfl
/-- what is owned stays owned where its block is as it was -/
theorem own_block {w w' : World} {B : Nat} {e : TypeId} {size : Nat} {v : Value} {n : Nat} {xs : List Value} (h : w.ownsRow B e size v n xs) (hk : ∀ k, v.ownBlock = some k → w'.heap[k]? = w.heap[k]?) : w'.ownsRow B e size v n xs := by
  obtain ⟨h1, h2⟩ := h
  refine ⟨h1, ?_⟩
  rcases h2 with h2 | ⟨g, cap, cur, hv, hg, hh, r⟩
  · exact .inl h2
  · exact .inr ⟨g, cap, cur, hv, hg, (hk g (by rw [hv]; rfl)).trans hh, r⟩
theorem own_on {w w' : World} {B : Nat} {e : TypeId} {size : Nat} {v : Value} {n : Nat} {xs : List Value} (h : w.ownsRow B e size v n xs) (hb : Below w.heap.size w w') : w'.ownsRow B e size v n xs :=
  own_block h fun k hk => hb.block k (h.lt k hk).2
/-- a row's value: nil, or a block's head -/
theorem own_form {w : World} {B : Nat} {e : TypeId} {size : Nat} {v : Value} {n : Nat} {xs : List Value} (h : w.ownsRow B e size v n xs) :
    (v = .slice none 0 0 ∧ n = 0) ∨ ∃ g cap, v = .slice (some ⟨g, 0, none⟩) n cap ∧ B ≤ g ∧ g < w.heap.size ∧ n ≤ cap ∧ cap ≤ maxLen := by
  rcases h.2 with h2 | ⟨g, cap, cur, hv, hg, hh, h3, h4, _⟩
  · exact .inl h2
  · exact .inr ⟨g, cap, hv, hg, (h.lt g (by rw [hv]; rfl)).2, h3, h4⟩
/-- the cells of an element of a row of one's own -/
theorem own_get {α : Type} {w : World} {B : Nat} {e : TypeId} {k g cap : Nat} {f : α → List Value} (hk : ∀ x, (f x).length = k) {l : List α} (h : w.ownsRow B e k (.slice (some ⟨g, 0, none⟩) l.length cap) l.length (l.flatMap f))
    (i j : Nat) (hi : i < l.length) (hj : j < k) : w.cell? ⟨g, i * k + j, none⟩ = (f l[i])[j]? ∧ w.frozen? ⟨g, i * k + j, none⟩ = false := by
  refine ⟨?_, h.frozenAt _⟩
  rw [h.cellAt (i * k + j) ?_, flat_get f k hk l i j hi hj]
  have : (i + 1) * k ≤ l.length * k := Nat.mul_le_mul_right k (by omega)
  rw [Nat.succ_mul] at this
  omega
theorem flat_set {α β : Type} (f : α → List β) (k : Nat) (hk : ∀ x, (f x).length = k) (l : List α) (y : α) (i j : Nat) (hi : i < l.length) (hj : j < k) (u : β) (hy : f y = (f l[i]).set j u) : (l.flatMap f).set (i * k + j) u = (l.set i y).flatMap f := by
  apply List.ext_getElem?
  intro m
  rcases Nat.lt_or_ge m (l.length * k) with hm | hm
  · have hk0 : 0 < k := by omega
    have hq : m / k < l.length := Nat.div_lt_of_lt_mul (by rw [Nat.mul_comm]; exact hm)
    have hr : m % k < k := Nat.mod_lt _ hk0
    have em : m = m / k * k + m % k := by rw [Nat.mul_comm]; exact (Nat.div_add_mod m k).symm
    rw [List.getElem?_set]
    by_cases e : i * k + j = m
    · have e1 : m / k = i := by
        rw [← e, Nat.mul_comm, Nat.mul_add_div hk0, Nat.div_eq_of_lt hj, Nat.add_zero]
      have e2 : m % k = j := by
        rw [← e, Nat.mul_comm, Nat.mul_add_mod, Nat.mod_eq_of_lt hj]
      rw [if_pos e, if_pos (by rw [flat_len f k hk]; omega), ← e, flat_get f k hk _ i j (by simpa using hi) hj]
      simp [hy, hk, hj]
    · rw [if_neg e]
      conv => lhs; rw [em]
      conv => rhs; rw [em]
      rw [flat_get f k hk l _ _ hq hr, flat_get f k hk _ _ _ (by simpa using hq) hr, List.getElem_set]
      by_cases e1 : i = m / k
      · subst e1
        rw [if_pos rfl, hy, List.getElem?_set]
        have e2 : j ≠ m % k := fun h => e (by rw [h]; exact em.symm)
        rw [if_neg e2]
      · rw [if_neg e1]
  · rw [List.getElem?_eq_none (by rw [List.length_set, flat_len f k hk]; exact hm), List.getElem?_eq_none (by rw [flat_len f k hk, List.length_set]; exact hm)]
end Go.Proofs.YtighpalbodhfeaaGreatDoor

/-
  Spans appended to a row of one's own. Nothing of the program's functions is named here.
-/
namespace Go.Proofs.YtighpalbodhfeaaGreatDoor
open Go.RowKit Go.Joins

def cellS (s : ByteArray × ByteArray) : List Value := [.string s.1, .string s.2]
theorem cellS_len (s : ByteArray × ByteArray) : (cellS s).length = 2 := rfl
theorem cellS_one (l : List (ByteArray × ByteArray)) : ∀ u ∈ l.flatMap cellS, u.oneCell' = true := by
  intro u hu
  obtain ⟨s, _, hu⟩ := List.mem_flatMap.1 hu
  simp only [cellS, List.mem_cons, List.not_mem_nil, or_false] at hu
  rcases hu with rfl | rfl <;> rfl
theorem span_info : (Tryz.prog.info? 91).map (fun i => (i.zero, i.size, i.bytes)) = some (some (.agg #[.string ⟨#[]⟩, .string ⟨#[]⟩]), 2, 32) := by kernel_rfl
def ownSp (w : World) (B : Nat) (v : Value) (l : List (ByteArray × ByteArray)) : Prop := w.ownsRow B 91 2 v l.length (l.flatMap cellS)
theorem ownSp_held {w : World} {B : Nat} {v : Value} {l : List (ByteArray × ByteArray)} (h : ownSp w B v l) : ∃ ao cap, v = .slice ao l.length cap ∧ heldSp w ao l ∧ (∀ b, v.ownBlock = some b → B ≤ b) := by
  have hlt : ∀ b, v.ownBlock = some b → B ≤ b := fun b hb => (World.ownsRow.lt h b hb).1
  rcases own_form h with ⟨hv, h0⟩ | ⟨g, cap, hv, _⟩
  · have e : l = [] := List.length_eq_zero_iff.1 h0
    subst e
    exact ⟨none, 0, hv, .inl rfl, hlt⟩
  · refine ⟨_, cap, hv, .inr ⟨g, 0, rfl, fun i hi => ?_⟩, hlt⟩
    unfold ownSp at h
    rw [hv] at h
    have a := (own_get cellS_len h i 0 hi (by omega)).1
    have b := (own_get cellS_len h i 1 hi (by omega)).1
    rw [Nat.zero_add]
    exact ⟨a, b⟩
theorem append_sp (B : Nat) (v : Value) (l : List (ByteArray × ByteArray)) (w : World) (hown : ownSp w B v l) (hB : B ≤ w.heap.size) (ao : Option Addr) (cap : Nat) (m : List (ByteArray × ByteArray)) (h : heldSp w ao m) (hnil : ao = none → cap = 0 ∧ m = []) (hs : l.length + m.length ≤ 1000000) (ty : TypeId) :
    ∃ v' w', (Builtin.append_ #[33, 33] ty #[v, .slice ao m.length cap]).run Tryz.prog w = .ok v' w' ∧ ownSp w' B v' (l ++ m) ∧ w.grownBy w' v.ownBlock := by
  obtain ⟨i0, hi0, hz0, hs0, hb0⟩ := info_parts span_info
  cases ao with
  | none =>
    obtain ⟨rfl, rfl⟩ := hnil rfl
    exact ⟨v, w, run_append_owned_none w B _ ty _ i0 2 Tryz.underlying33 hi0 v l.length (l.flatMap cellS) hown, by simpa using hown, World.grownBy.refl w _⟩
  | some a =>
    have hnews : ∀ j u, (m.flatMap cellS)[j]? = some u → w.cell? (a.add j) = some u := by
      intro j u hj
      rcases h with rfl | ⟨b, off, e, hm⟩
      · simp at hj
      · cases e
        have hjl := (List.getElem?_eq_some_iff.1 hj).1
        rw [flat_len cellS 2 cellS_len] at hjl
        have hq : j / 2 < m.length := by omega
        have ej : j = j / 2 * 2 + j % 2 := by omega
        have hg := flat_get cellS 2 cellS_len m (j / 2) (j % 2) hq (by omega)
        rw [← ej, hj] at hg
        obtain ⟨c0, c1⟩ := hm (j / 2) hq
        rw [Addr.add_lit]
        rcases Nat.mod_two_eq_zero_or_one j with e | e
        · rw [e] at hg
          simp [cellS] at hg
          have e2 : off + j = off + j / 2 * 2 := by omega
          rw [e2, c0, hg]
        · rw [e] at hg
          simp [cellS] at hg
          have e2 : off + j = off + j / 2 * 2 + 1 := by omega
          rw [e2, c1, hg]
    obtain ⟨v', w', hr, ho, hg, _⟩ := run_append_own (P := Tryz.prog) (w := w) B 33 ty 91 i0 _ 2 32 Tryz.underlying33 hi0 hz0 hs0 hb0 rfl (by omega) v l.length (l.flatMap cellS) hown a m.length cap (m.flatMap cellS) (flat_len cellS 2 cellS_len m) hnews (cellS_one m) (by unfold maxLen; omega) (by omega) hB
    refine ⟨v', w', hr, ?_, hg⟩
    unfold ownSp
    rw [List.length_append, List.flatMap_append]
    exact ho
end Go.Proofs.YtighpalbodhfeaaGreatDoor
