/-
  What slices.Grow returns of nil, for changes: a new row of no element, with room.
-/
import Derived.Test.YtjphbmdmnicjpacChgMem
import Derived.Lib.AppendZerosOnto
import Derived.Lib.SliceRun
namespace Go.Proofs.Ytjphbmdmnicjpac
open Go.RowKit Go.Joins

theorem chg_facts : (Try.prog.info? 29).map (fun i => (i.zero, i.size, i.bytes)) = some (some (.agg #[.string ⟨#[]⟩, .string ⟨#[]⟩, .bool false]), 3, 40) := by kernel_rfl
theorem chg_info : ∃ i, Try.prog.info? 29 = some i ∧ i.zero = some (.agg #[.string ⟨#[]⟩, .string ⟨#[]⟩, .bool false]) ∧ i.size = 3 ∧ i.bytes = 40 := info_parts chg_facts

set_option maxHeartbeats 1000000 in
theorem grow_nil (n : Nat) (w : World) (h1 : 1 ≤ n) (h2 : n ≤ 1000000) :
    Calls Try.prog 144 #[.slice none 0 0, .int .i64 n] w fun e w' =>
      ∃ v, e = .returned v ∧ w'.ownsRow w.heap.size 29 3 v 0 [] ∧ w.grownBy w' none ∧ (∃ g cap, v = .slice (some ⟨g, 0, none⟩) 0 cap) := by
  obtain ⟨i0, hi0, hz0, hs0, hb0⟩ := chg_info
  have hold : (Builtin.firstCells i0.size 0 (.slice none 0 0)).run Try.prog w.drew = .ok ([] : List Value).toArray w.drew := run_firstCells_none w.drew i0.size 0 0 0
  have hrz := fun ty => Lib.run_append_grow_zeros (P := Try.prog) w 30 3 ty 29 i0 _ .i64 .i64 Try.underlying30 Try.underlying3 hi0 hz0 none 0 0 [] hold n (by omega) (by omega) (by omega) (by omega)
      (by rw [hb0]; omega)
      (growslice_fits (by omega) (by rw [hb0]; omega))
  simp only [Nat.zero_add] at hrz
  have hG := grownCap_ge w n 0 29
  have hM := grownCap_le_maxLen w n 0 29 (by unfold maxLen; omega)
  generalize grownCap w n 0 29 = G at hrz hG hM
  generalize hC : (([] : List Value).toArray ++ Builtin.zeroCells (Value.agg #[.string ⟨#[]⟩, .string ⟨#[]⟩, .bool false]).cells n ++ Builtin.zeroCells (Value.agg #[.string ⟨#[]⟩, .string ⟨#[]⟩, .bool false]).cells (G - n)) = C at hrz
  have hCs : C.size = G * 3 := by
    rw [← hC]
    simp only [Array.size_append, size_zeroCells]
    have : (Value.agg #[.string ⟨#[]⟩, .string ⟨#[]⟩, .bool false]).cells.size = 3 := rfl
    rw [this]; simp; omega
  have HM := hide hM
  clear hC hi0 hz0 hs0 hb0 hold hM
  have hG63 : G ≤ 9223372036854775807 := by have := HM.out; unfold maxLen at this; omega
  go_enter Try.func144, Try.ntmps144
  go_wp2_with (at_builtin; refine Lib.wpList_append_run _ rfl _ _ _ _ rfl _ _ rfl rfl _ _ (hrz _) ?_)
  go_ret
  refine ⟨_, rfl, ⟨by simp, Or.inr ⟨w.heap.size, G, C, rfl, Nat.le_refl _, ?_, Nat.zero_le _, HM.out, hCs, by simp⟩⟩, ⟨rfl, rfl, rfl, by simp, fun k hk _ => ?_⟩, ⟨_, _, rfl⟩⟩
  · exact Go.heap_alloc_new w _
  · exact Below.heap_alloc w _ k hk

/-- m changes that are read from somewhere: their cells -/
def chSrc (w : World) (ao : Option Addr) (m c : Nat) (news : List Value) : Prop :=
  news.length = m * 3 ∧ (∀ u ∈ news, u.oneCell' = true) ∧ ((ao = none ∧ m = 0 ∧ c = 0) ∨ ∃ a, ao = some a ∧ ∀ j u, news[j]? = some u → w.cell? (a.add j) = some u)
theorem chSrc_on {w w' : World} {ao : Option Addr} {m c : Nat} {news : List Value} (hb : Below w.heap.size w w') (h : chSrc w ao m c news) : chSrc w' ao m c news := by
  obtain ⟨h1, h2, h3⟩ := h
  refine ⟨h1, h2, ?_⟩
  rcases h3 with h | ⟨a, e, h⟩
  · exact Or.inl h
  · exact Or.inr ⟨a, e, fun j u hj => cell_on hb (h j u hj)⟩
/-- appended to a row of one's own -/
theorem append_src (B : Nat) (v : Value) (n : Nat) (xs : List Value) (w : World) (hown : w.ownsRow B 29 3 v n xs) (hB : B ≤ w.heap.size) (ao : Option Addr) (m c : Nat) (news : List Value) (h : chSrc w ao m c news) (hs : n + m ≤ 1000000) (ty : TypeId) :
    ∃ v' w', (Builtin.append_ #[30, 30] ty #[v, .slice ao m c]).run Try.prog w = .ok v' w' ∧ w'.ownsRow B 29 3 v' (n + m) (xs ++ news) ∧ w.grownBy w' v.ownBlock := by
  obtain ⟨i0, hi0, hz0, hs0, hb0⟩ := chg_info
  obtain ⟨h1, h2, h3⟩ := h
  rcases h3 with ⟨rfl, rfl, rfl⟩ | ⟨a, rfl, h⟩
  · have hnil : news = [] := List.length_eq_zero_iff.1 (by omega)
    subst hnil
    refine ⟨v, w, run_append_owned_none w B _ ty _ i0 3 Try.underlying30 hi0 v n xs hown, by simpa using hown, ⟨rfl, rfl, rfl, Nat.le_refl _, fun _ _ _ => rfl⟩⟩
  · obtain ⟨v', w', hr, ho, hg, _⟩ := run_append_own (P := Try.prog) (w := w) B 30 ty 29 i0 _ 3 40 Try.underlying30 hi0 hz0 hs0 hb0 rfl (by omega) v n xs hown a m c news h1 h h2 (by unfold maxLen; omega) (by omega) hB
    exact ⟨v', w', hr, ho, hg⟩

theorem below_grown {B : Nat} {w0 w w' : World} {v : Value} {e : TypeId} {n : Nat} {xs : List Value} (hB : Below B w0 w) (hw : B ≤ w.heap.size) (hown : w.ownsRow B e 3 v n xs) (hg : w.grownBy w' v.ownBlock) : Below B w0 w' :=
  hB.grown hg hw (fun k hk => (hown.lt k hk).1)

set_option maxHeartbeats 4000000 in
theorem concat_any (gb : Nat) (a1 a2 a3 : Option Addr) (m1 m2 m3 c1 c2 c3 : Nat) (n1 n2 n3 : List Value) (w : World)
    (g0 : w.cell? ⟨gb, 0, none⟩ = some (.slice a1 m1 c1)) (g1 : w.cell? ⟨gb, 1, none⟩ = some (.slice a2 m2 c2)) (g2 : w.cell? ⟨gb, 2, none⟩ = some (.slice a3 m3 c3))
    (s1 : chSrc w a1 m1 c1 n1) (s2 : chSrc w a2 m2 c2 n2) (s3 : chSrc w a3 m3 c3 n3) (hm : 1 ≤ m1 + m2 + m3) (hM : m1 + m2 + m3 ≤ 1000000) :
    Calls Try.prog 127 #[.slice (some ⟨gb, 0, none⟩) 3 3] w fun e w' =>
      ∃ v, e = .returned v ∧ w'.ownsRow w.heap.size 29 3 v (m1 + m2 + m3) (n1 ++ n2 ++ n3) ∧ Below w.heap.size w w' := by
  go_enter Try.func127, Try.ntmps127
  go_wp2
  refine wp_loop_rounds 4 ?_
  rw [rounds_succ]
  go_wp2
  rw [rounds_succ]
  go_wp2
  rw [rounds_succ]
  go_wp2
  rw [rounds_succ]
  go_wp2_with fail
  rw [show ((m1 : Int) + (m2 : Int) + (m3 : Int)) = ((m1 + m2 + m3 : Nat) : Int) from by omega]
  refine (grow_nil _ _ hm hM).mono ?_
  rintro e w1 ⟨v, rfl, hown, hg, _⟩
  have hB1 : Below w.heap.size w w1 := (Below.refl _ _).grown hg (Nat.le_refl _) (fun k hk => by cases hk)
  obtain ⟨v1, w2, hr1, ho1, hg1⟩ := append_src w.heap.size v 0 [] w1 hown hB1.size a1 m1 c1 n1 (chSrc_on hB1 s1) (by omega) 30
  have hB2 := below_grown hB1 hB1.size hown hg1
  obtain ⟨v2, w3, hr2, ho2, hg2⟩ := append_src w.heap.size v1 (0 + m1) ([] ++ n1) w2 ho1 hB2.size a2 m2 c2 n2 (chSrc_on hB2 s2) (by omega) 30
  have hB3 := below_grown hB2 hB2.size ho1 hg2
  obtain ⟨v3, w4, hr3, ho3, hg3⟩ := append_src w.heap.size v2 (0 + m1 + m2) ([] ++ n1 ++ n2) w3 ho2 hB3.size a3 m3 c3 n3 (chSrc_on hB3 s3) (by omega) 30
  have hB4 := below_grown hB3 hB3.size ho2 hg3
  have k0 := cell_on hB1 g0
  have k1 := cell_on hB2 g1
  have k2 := cell_on hB3 g2
  have HO := hide ho3
  have HB := hide hB4
  clear hown hg ho1 hg1 ho2 hg2 ho3 hg3 hB1 hB2 hB3 hB4 s1 s2 s3 g0 g1 g2
  go_wp2
  refine wp_loop_rounds 4 ?_
  rw [rounds_succ]
  go_wp2_with (at_builtin; refine Lib.wpList_append_run _ rfl _ _ _ _ rfl _ _ rfl rfl _ _ hr1 ?_)
  rw [rounds_succ]
  go_wp2_with (at_builtin; refine Lib.wpList_append_run _ rfl _ _ _ _ rfl _ _ rfl rfl _ _ hr2 ?_)
  rw [rounds_succ]
  go_wp2_with (at_builtin; refine Lib.wpList_append_run _ rfl _ _ _ _ rfl _ _ rfl rfl _ _ hr3 ?_)
  rw [rounds_succ]
  go_wp2
  go_ret
  exact ⟨v3, rfl, by simpa using HO.out, HB.out⟩
end Go.Proofs.Ytjphbmdmnicjpac
