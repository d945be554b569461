/-
  What slices.Grow returns of nil, for changes: a new row of no element, with room.
-/
import Derived.Test.YtkfpfbkdalbjoaaGreatChgMem
import Derived.Lib.AppendZerosOnto
import Derived.Lib.SliceRun
namespace Go.Proofs.YtkfpfbkdalbjoaaGreat
open Go.RowKit Go.Joins

theorem chg_facts : (Tryz.prog.info? 54).map (fun i => (i.zero, i.size, i.bytes)) = some (some (.agg #[.string ⟨#[]⟩, .string ⟨#[]⟩, .bool false]), 3, 40) := by kernel_rfl
theorem chg_info : ∃ i, Tryz.prog.info? 54 = some i ∧ i.zero = some (.agg #[.string ⟨#[]⟩, .string ⟨#[]⟩, .bool false]) ∧ i.size = 3 ∧ i.bytes = 40 := info_parts chg_facts

set_option maxHeartbeats 1000000 in
theorem grow_nil (n : Nat) (w : World) (h1 : 1 ≤ n) (h2 : n ≤ 1000000) :
    Calls Tryz.prog 78 #[.slice none 0 0, .int .i64 n] w fun e w' =>
      ∃ v, e = .returned v ∧ w'.ownsRow w.heap.size 54 3 v 0 [] ∧ w.grownBy w' none ∧ (∃ g cap, v = .slice (some ⟨g, 0, none⟩) 0 cap) := by
  obtain ⟨i0, hi0, hz0, hs0, hb0⟩ := chg_info
  have hold : (Builtin.firstCells i0.size 0 (.slice none 0 0)).run Tryz.prog w.drew = .ok ([] : List Value).toArray w.drew := run_firstCells_none w.drew i0.size 0 0 0
  have hrz := fun ty => Lib.run_append_grow_zeros (P := Tryz.prog) w 40 3 ty 54 i0 _ .i64 .i64 Tryz.underlying40 Tryz.underlying3 hi0 hz0 none 0 0 [] hold n (by omega) (by omega) (by omega) (by omega)
      (by rw [hb0]; omega)
      (growslice_fits (by omega) (by rw [hb0]; omega))
  simp only [Nat.zero_add] at hrz
  have hG := grownCap_ge w n 0 54
  have hM := grownCap_le_maxLen w n 0 54 (by unfold maxLen; omega)
  generalize grownCap w n 0 54 = G at hrz hG hM
  generalize hC : (([] : List Value).toArray ++ Builtin.zeroCells (Value.agg #[.string ⟨#[]⟩, .string ⟨#[]⟩, .bool false]).cells n ++ Builtin.zeroCells (Value.agg #[.string ⟨#[]⟩, .string ⟨#[]⟩, .bool false]).cells (G - n)) = C at hrz
  have hCs : C.size = G * 3 := by
    rw [← hC]
    simp only [Array.size_append, size_zeroCells]
    have : (Value.agg #[.string ⟨#[]⟩, .string ⟨#[]⟩, .bool false]).cells.size = 3 := rfl
    rw [this]; simp; omega
  have HM := hide hM
  clear hC hi0 hz0 hs0 hb0 hold hM
  have hG63 : G ≤ 9223372036854775807 := by have := HM.out; unfold maxLen at this; omega
  go_enter Tryz.func78, Tryz.ntmps78
  go_wp2_with (at_builtin; refine Lib.wpList_append_run _ rfl _ _ _ _ rfl _ _ rfl rfl _ _ (hrz _) ?_)
  go_ret
  refine ⟨_, rfl, ⟨by simp, Or.inr ⟨w.heap.size, G, C, rfl, Nat.le_refl _, ?_, Nat.zero_le _, HM.out, hCs, by simp⟩⟩, ⟨rfl, rfl, rfl, by simp, fun k hk _ => ?_⟩, ⟨_, _, rfl⟩⟩
  · exact Go.heap_alloc_new w _
  · exact Below.heap_alloc w _ k hk

/-- m changes that are read from somewhere: their cells -/
def chSrc (w : World) (ao : Option Addr) (m c : Nat) (news : List Value) : Prop :=
  news.length = m * 3 ∧ (∀ u ∈ news, u.oneCell' = true) ∧ ((ao = none ∧ m = 0 ∧ c = 0) ∨ ∃ a, ao = some a ∧ ∀ j u, news[j]? = some u → w.cell? (a.add j) = some u)
theorem chSrc_on {w w' : World} {ao : Option Addr} {m c : Nat} {news : List Value} (hb : Below w.heap.size w w') (h : chSrc w ao m c news) : chSrc w' ao m c news := by
  obtain ⟨h1, h2, h3⟩ := h
  refine ⟨h1, h2, ?_⟩
  rcases h3 with h | ⟨a, e, h⟩
  · exact Or.inl h
  · exact Or.inr ⟨a, e, fun j u hj => cell_on hb (h j u hj)⟩
/-- appended to a row of one's own -/
theorem append_src (B : Nat) (v : Value) (n : Nat) (xs : List Value) (w : World) (hown : w.ownsRow B 54 3 v n xs) (hB : B ≤ w.heap.size) (ao : Option Addr) (m c : Nat) (news : List Value) (h : chSrc w ao m c news) (hs : n + m ≤ 1000000) (ty : TypeId) :
    ∃ v' w', (Builtin.append_ #[40, 40] ty #[v, .slice ao m c]).run Tryz.prog w = .ok v' w' ∧ w'.ownsRow B 54 3 v' (n + m) (xs ++ news) ∧ w.grownBy w' v.ownBlock := by
  obtain ⟨i0, hi0, hz0, hs0, hb0⟩ := chg_info
  obtain ⟨h1, h2, h3⟩ := h
  rcases h3 with ⟨rfl, rfl, rfl⟩ | ⟨a, rfl, h⟩
  · have hnil : news = [] := List.length_eq_zero_iff.1 (by omega)
    subst hnil
    refine ⟨v, w, run_append_owned_none w B _ ty _ i0 3 Tryz.underlying40 hi0 v n xs hown, by simpa using hown, ⟨rfl, rfl, rfl, Nat.le_refl _, fun _ _ _ => rfl⟩⟩
  · obtain ⟨v', w', hr, ho, hg, _⟩ := run_append_own (P := Tryz.prog) (w := w) B 40 ty 54 i0 _ 3 40 Tryz.underlying40 hi0 hz0 hs0 hb0 rfl (by omega) v n xs hown a m c news h1 h h2 (by unfold maxLen; omega) (by omega) hB
    exact ⟨v', w', hr, ho, hg⟩

theorem below_grown {B : Nat} {w0 w w' : World} {v : Value} {e : TypeId} {n : Nat} {xs : List Value} (hB : Below B w0 w) (hw : B ≤ w.heap.size) (hown : w.ownsRow B e 3 v n xs) (hg : w.grownBy w' v.ownBlock) : Below B w0 w' :=
  hB.grown hg hw (fun k hk => (hown.lt k hk).1)

set_option maxHeartbeats 4000000 in
theorem concat_any (gb : Nat) (a1 a2 a3 : Option Addr) (m1 m2 m3 c1 c2 c3 : Nat) (n1 n2 n3 : List Value) (w : World)
    (g0 : w.cell? ⟨gb, 0, none⟩ = some (.slice a1 m1 c1)) (g1 : w.cell? ⟨gb, 1, none⟩ = some (.slice a2 m2 c2)) (g2 : w.cell? ⟨gb, 2, none⟩ = some (.slice a3 m3 c3))
    (s1 : chSrc w a1 m1 c1 n1) (s2 : chSrc w a2 m2 c2 n2) (s3 : chSrc w a3 m3 c3 n3) (hm : 1 ≤ m1 + m2 + m3) (hM : m1 + m2 + m3 ≤ 1000000) :
    Calls Tryz.prog 59 #[.slice (some ⟨gb, 0, none⟩) 3 3] w fun e w' =>
      ∃ v, e = .returned v ∧ w'.ownsRow w.heap.size 54 3 v (m1 + m2 + m3) (n1 ++ n2 ++ n3) ∧ Below w.heap.size w w' := by
  go_enter Tryz.func59, Tryz.ntmps59
  go_wp2
  refine wp_loop_rounds 4 ?_
  rw [rounds_succ]
  go_wp2
  rw [rounds_succ]
  go_wp2
  rw [rounds_succ]
  go_wp2
  rw [rounds_succ]
  go_wp2_with fail
  rw [show ((m1 : Int) + (m2 : Int) + (m3 : Int)) = ((m1 + m2 + m3 : Nat) : Int) from by omega]
  refine (grow_nil _ _ hm hM).mono ?_
  rintro e w1 ⟨v, rfl, hown, hg, _⟩
  have hB1 : Below w.heap.size w w1 := (Below.refl _ _).grown hg (Nat.le_refl _) (fun k hk => by cases hk)
  obtain ⟨v1, w2, hr1, ho1, hg1⟩ := append_src w.heap.size v 0 [] w1 hown hB1.size a1 m1 c1 n1 (chSrc_on hB1 s1) (by omega) 40
  have hB2 := below_grown hB1 hB1.size hown hg1
  obtain ⟨v2, w3, hr2, ho2, hg2⟩ := append_src w.heap.size v1 (0 + m1) ([] ++ n1) w2 ho1 hB2.size a2 m2 c2 n2 (chSrc_on hB2 s2) (by omega) 40
  have hB3 := below_grown hB2 hB2.size ho1 hg2
  obtain ⟨v3, w4, hr3, ho3, hg3⟩ := append_src w.heap.size v2 (0 + m1 + m2) ([] ++ n1 ++ n2) w3 ho2 hB3.size a3 m3 c3 n3 (chSrc_on hB3 s3) (by omega) 40
  have hB4 := below_grown hB3 hB3.size ho2 hg3
  have k0 := cell_on hB1 g0
  have k1 := cell_on hB2 g1
  have k2 := cell_on hB3 g2
  have HO := hide ho3
  have HB := hide hB4
  clear hown hg ho1 hg1 ho2 hg2 ho3 hg3 hB1 hB2 hB3 hB4 s1 s2 s3 g0 g1 g2
  go_wp2
  refine wp_loop_rounds 4 ?_
  rw [rounds_succ]
  go_wp2_with (at_builtin; refine Lib.wpList_append_run _ rfl _ _ _ _ rfl _ _ rfl rfl _ _ hr1 ?_)
  rw [rounds_succ]
  go_wp2_with (at_builtin; refine Lib.wpList_append_run _ rfl _ _ _ _ rfl _ _ rfl rfl _ _ hr2 ?_)
  rw [rounds_succ]
  go_wp2_with (at_builtin; refine Lib.wpList_append_run _ rfl _ _ _ _ rfl _ _ rfl rfl _ _ hr3 ?_)
  rw [rounds_succ]
  go_wp2
  go_ret
  exact ⟨v3, rfl, by simpa using HO.out, HB.out⟩
end Go.Proofs.YtkfpfbkdalbjoaaGreat

/-
  Changes as a list of cells, and as they lie in memory: from the one to the other.
-/
namespace Go.Proofs.YtkfpfbkdalbjoaaGreat
open Go.RowKit Go.Joins Go.WideShapes

def cellsC (c : Chg) : List Value := [.string c.key, .string c.val, .bool c.gone]
def cellsL (l : List Chg) : List Value := l.flatMap cellsC
theorem cellsL_length (l : List Chg) : (cellsL l).length = l.length * 3 := by
  induction l with
  | nil => rfl
  | cons c l ih => rw [cellsL, List.flatMap_cons, List.length_append]; show 3 + (cellsL l).length = _; rw [ih, List.length_cons]; omega
theorem cellsL_append (a b : List Chg) : cellsL (a ++ b) = cellsL a ++ cellsL b := by simp [cellsL]
theorem cellsL_one (l : List Chg) : ∀ u ∈ cellsL l, u.oneCell' = true := by
  intro u hu
  rw [cellsL, List.mem_flatMap] at hu
  obtain ⟨c, _, hc⟩ := hu
  simp only [cellsC, List.mem_cons, List.not_mem_nil, or_false] at hc
  rcases hc with rfl | rfl | rfl <;> rfl
theorem cells_of_chgs {w : World} {b : Nat} (l : List Chg) : ∀ (off : Nat), chgsAt w b off l → ∀ j u, (cellsL l)[j]? = some u → w.cell? ⟨b, off + j, none⟩ = some u := by
  induction l with
  | nil => intro off _ j u h; simp [cellsL] at h
  | cons c l ih =>
    intro off h j u hu
    have h0 := h 0 (by simp)
    simp only [Nat.zero_mul, Nat.add_zero, List.getElem_cons_zero] at h0
    have ht : chgsAt w b (off + 3) l := fun i hi => by
      have := h (i + 1) (by simp; omega)
      simp only [List.getElem_cons_succ] at this
      have e : off + (i + 1) * 3 = off + 3 + i * 3 := by omega
      rw [e] at this
      exact this
    rw [cellsL, List.flatMap_cons] at hu
    match j, hu with
    | 0, hu => simp [cellsC] at hu; rw [← hu]; exact h0.1
    | 1, hu => simp [cellsC] at hu; rw [← hu]; exact h0.2.1
    | 2, hu => simp [cellsC] at hu; rw [← hu]; exact h0.2.2
    | j + 3, hu =>
      rw [List.getElem?_append_right (by simp [cellsC])] at hu
      simp only [cellsC, List.length_cons, List.length_nil, Nat.zero_add, Nat.reduceAdd, Nat.add_sub_cancel] at hu
      have := ih (off + 3) ht j u hu
      have e : off + 3 + j = off + (j + 3) := by omega
      rw [e] at this
      exact this
theorem chgs_of_cells {w : World} {b : Nat} (l : List Chg) : ∀ (off : Nat), (∀ j u, (cellsL l)[j]? = some u → w.cell? ⟨b, off + j, none⟩ = some u) → chgsAt w b off l := by
  induction l with
  | nil => intro off _ i hi; simp at hi
  | cons c l ih =>
    intro off h i hi
    have g : ∀ j u, (cellsC c ++ cellsL l)[j]? = some u → w.cell? ⟨b, off + j, none⟩ = some u := fun j u hu => h j u (by rw [cellsL, List.flatMap_cons]; exact hu)
    match i with
    | 0 =>
      simp only [Nat.zero_mul, Nat.add_zero, List.getElem_cons_zero]
      exact ⟨g 0 _ rfl, g 1 _ rfl, g 2 _ rfl⟩
    | i + 1 =>
      have t := ih (off + 3) (fun j u hu => by
        have := g (j + 3) u (by rw [List.getElem?_append_right (by simp [cellsC])]; simpa [cellsC] using hu)
        have e : off + (j + 3) = off + 3 + j := by omega
        rw [e] at this
        exact this) i (by simpa using hi)
      have e : off + (i + 1) * 3 = off + 3 + i * 3 := by omega
      rw [e]
      exact t
theorem chgsAt_take {w : World} {b off : Nat} {l : List Chg} (h : chgsAt w b off l) (k : Nat) : chgsAt w b off (l.take k) := fun i hi => by
  have hi' : i < l.length := by rw [List.length_take] at hi; omega
  have := h i hi'
  simpa using this
theorem chgsAt_drop {w : World} {b off : Nat} {l : List Chg} (h : chgsAt w b off l) (k : Nat) : chgsAt w b (off + k * 3) (l.drop k) := fun i hi => by
  have hi' : k + i < l.length := by rw [List.length_drop] at hi; omega
  have := h (k + i) hi'
  have e : off + (k + i) * 3 = off + k * 3 + i * 3 := by omega
  rw [e] at this
  simpa using this
theorem src_of {w : World} {b off : Nat} {l : List Chg} (h : chgsAt w b off l) (c : Nat) : chSrc w (some ⟨b, off, none⟩) l.length c (cellsL l) :=
  ⟨cellsL_length l, cellsL_one l, Or.inr ⟨_, rfl, fun j u hj => by rw [add_plain]; exact cells_of_chgs l off h j u hj⟩⟩
theorem src_none (w : World) : chSrc w none 0 0 (cellsL []) := ⟨rfl, cellsL_one [], Or.inl ⟨rfl, rfl, rfl⟩⟩
theorem src_empty (w : World) (a : Addr) (c : Nat) : chSrc w (some a) 0 c (cellsL []) := ⟨rfl, cellsL_one [], Or.inr ⟨a, rfl, fun j u hj => by simp [cellsL] at hj⟩⟩
/-- a value that owns these changes, in a block from B on -/
def ownCh (w : World) (B : Nat) (v : Value) (l : List Chg) : Prop := w.ownsRow B 54 3 v l.length (cellsL l)
theorem ownCh_le {w : World} {B B' : Nat} {v : Value} {l : List Chg} (h : ownCh w B v l) (hb : B' ≤ B) : ownCh w B' v l := ownsRow_le h hb
/-- a row of one's own that isn't empty -/
theorem own_chgs {w : World} {B : Nat} {v : Value} {l : List Chg} (h : w.ownsRow B 54 3 v l.length (cellsL l)) (hn : 0 < l.length) :
    ∃ g cap, v = .slice (some ⟨g, 0, none⟩) l.length cap ∧ B ≤ g ∧ chgsAt w g 0 l := by
  obtain ⟨g, cap, rfl⟩ := ownsRow_form h hn
  refine ⟨g, cap, rfl, (h.lt g rfl).1, chgs_of_cells l 0 fun j u hj => ?_⟩
  have := h.cells (g := g) rfl j u hj
  rwa [add_plain] at this
end Go.Proofs.YtkfpfbkdalbjoaaGreat

/-
  Plain facts of changes put among others: they rise, the one put is found, the last put of a key stays, and puts of unlike keys may change places. Nothing of the program is named here.
-/
namespace Go.Proofs.YtkfpfbkdalbjoaaGreat
open Go.RowKit Go.Joins

def insL : List Chg → Chg → List Chg
  | [], c => [c]
  | x :: l, c => if ltS x.key c.key then x :: insL l c else if eqS x.key c.key then c :: l else c :: x :: l
theorem placeL_cons (x : Chg) (l : List Chg) (key : ByteArray) : placeL (x :: l) key = if ltS x.key key then placeL l key + 1 else 0 := by
  unfold placeL
  rw [List.findIdx_cons]
  cases ltS x.key key <;> rfl
theorem foundL_cons (x : Chg) (l : List Chg) (key : ByteArray) : foundL (x :: l) key = if ltS x.key key then foundL l key else eqS x.key key := by
  unfold foundL
  rw [placeL_cons]
  cases ltS x.key key <;> simp
theorem putL_ins (l : List Chg) (c : Chg) : putL l c = insL l c := by
  induction l with
  | nil => rfl
  | cons x l ih =>
    unfold putL at *
    rw [insL, placeL_cons, foundL_cons]
    cases h : ltS x.key c.key
    · cases h2 : eqS x.key c.key <;> simp
    · simp only [if_true]
      rw [← ih]
      cases foundL l c.key <;> simp
theorem ins_length (l : List Chg) (c : Chg) : (insL l c).length ≤ l.length + 1 := by
  induction l with
  | nil => simp [insL]
  | cons x l ih => unfold insL; split <;> (try split) <;> simp <;> omega
theorem ins_some (l : List Chg) (c : Chg) : 0 < (insL l c).length := by
  cases l with
  | nil => simp [insL]
  | cons x l => unfold insL; split <;> (try split) <;> simp
theorem ins_mem {l : List Chg} {c y : Chg} (h : y ∈ insL l c) : y = c ∨ y ∈ l := by
  induction l with
  | nil => simpa [insL] using h
  | cons x l ih =>
    unfold insL at h
    split at h
    · rcases List.mem_cons.1 h with h | h
      · right; simp [h]
      · rcases ih h with h | h
        · left; exact h
        · right; simp [h]
    · split at h
      · rcases List.mem_cons.1 h with h | h
        · left; exact h
        · right; simp [h]
      · rcases List.mem_cons.1 h with h | h
        · left; exact h
        · right; exact h

def rises (l : List Chg) : Prop := l.Pairwise fun a b => ltS a.key b.key = true
theorem ins_rises {l : List Chg} (c : Chg) (h : rises l) : rises (insL l c) := by
  induction l with
  | nil => simp [rises, insL]
  | cons x l ih =>
    unfold rises at *
    obtain ⟨h1, h2⟩ := List.pairwise_cons.1 h
    unfold insL
    split
    · rename_i hx
      refine List.pairwise_cons.2 ⟨fun y hy => ?_, ih h2⟩
      rcases ins_mem hy with rfl | hy
      · exact hx
      · exact h1 y hy
    · rename_i hx
      split
      · rename_i he
        have e := (eqS_iff _ _).1 he
        exact List.pairwise_cons.2 ⟨fun y hy => e ▸ h1 y hy, h2⟩
      · rename_i he
        have k : ltS c.key x.key = true := by
          rcases ltS_total x.key c.key with k | k | k
          · exact absurd k hx
          · exact absurd ((eqS_iff _ _).2 k) he
          · exact k
        refine List.pairwise_cons.2 ⟨fun y hy => ?_, h⟩
        rcases List.mem_cons.1 hy with rfl | hy
        · exact k
        · exact ltS_trans k (h1 y hy)
theorem rises_at {l : List Chg} (h : rises l) {i : Nat} (hi : i + 1 < l.length) : leS l[i + 1].key l[i].key = false := by
  have := List.pairwise_iff_getElem.1 h i (i + 1) (by omega) hi (by omega)
  rw [leS_not, this]; rfl
theorem ins_found (l : List Chg) (c : Chg) : foundL (insL l c) c.key = true ∧ (insL l c)[placeL (insL l c) c.key]? = some c := by
  induction l with
  | nil => simp [insL, foundL_cons, placeL_cons, ltS_irrefl, eqS_refl]
  | cons x l ih =>
    unfold insL
    split
    · rename_i hx
      rw [foundL_cons, placeL_cons, hx]
      simpa using ih
    · split
      · simp [foundL_cons, placeL_cons, ltS_irrefl, eqS_refl]
      · simp [foundL_cons, placeL_cons, ltS_irrefl, eqS_refl]
theorem keys_three (p q : ByteArray) : (ltS p q = true ∧ eqS p q = false ∧ ltS q p = false ∧ eqS q p = false) ∨ p = q ∨ (ltS p q = false ∧ eqS p q = false ∧ ltS q p = true ∧ eqS q p = false) := by
  rcases ltS_total p q with h | h | h
  · left; exact ⟨h, eqS_lt h, ltS_asymm h, (eqS_comm q p).trans (eqS_lt h)⟩
  · right; left; exact h
  · right; right; exact ⟨ltS_asymm h, (eqS_comm p q).trans (eqS_lt h), h, eqS_lt h⟩
theorem ins_same {a b : Chg} (h : a.key = b.key) (l : List Chg) : insL (insL l a) b = insL l b := by
  induction l with
  | nil => simp [insL, h, ltS_irrefl, eqS_refl]
  | cons x l ih =>
    rcases keys_three x.key b.key with ⟨h1, h2, h3, h4⟩ | h1 | ⟨h1, h2, h3, h4⟩
    · simp [insL, h, h1, ih]
    · simp [insL, h, h1, ltS_irrefl, eqS_refl]
    · simp [insL, h, h1, h2, ltS_irrefl, eqS_refl]
theorem ins_swap {a b : Chg} (h : a.key ≠ b.key) (l : List Chg) : insL (insL l a) b = insL (insL l b) a := by
  induction l with
  | nil =>
    rcases keys_three a.key b.key with ⟨h1, h2, h3, h4⟩ | h1 | ⟨h1, h2, h3, h4⟩
    · simp [insL, h1, h3, h4]
    · exact absurd h1 h
    · simp [insL, h1, h2, h3]
  | cons x l ih =>
    rcases keys_three x.key a.key with ⟨a1, a2, a3, a4⟩ | a1 | ⟨a1, a2, a3, a4⟩ <;> rcases keys_three x.key b.key with ⟨b1, b2, b3, b4⟩ | b1 | ⟨b1, b2, b3, b4⟩
    · simp [insL, a1, b1, ih]
    · have k : ltS b.key a.key = true := b1 ▸ a1
      simp [insL, b1, k, ltS_irrefl, eqS_refl]
    · have k : ltS b.key a.key = true := ltS_trans b3 a1
      simp [insL, a1, b1, b2, k]
    · have k : ltS a.key b.key = true := a1 ▸ b1
      simp [insL, a1, k, ltS_irrefl, eqS_refl]
    · exact absurd (a1.symm.trans b1) h
    · have k : ltS b.key a.key = true := a1 ▸ b3
      have k2 : ltS a.key b.key = false := a1 ▸ b1
      have k3 : eqS a.key b.key = false := a1 ▸ b2
      simp [insL, a1, k, k2, k3, ltS_irrefl, eqS_refl]
    · have k : ltS a.key b.key = true := ltS_trans a3 b1
      simp [insL, a1, a2, b1, k]
    · have k : ltS a.key b.key = true := b1 ▸ a3
      have k2 : ltS b.key a.key = false := b1 ▸ a1
      have k3 : eqS b.key a.key = false := b1 ▸ a2
      simp [insL, b1, k, k2, k3, ltS_irrefl, eqS_refl]
    · rcases keys_three a.key b.key with ⟨h1, h2, h3, h4⟩ | h1 | ⟨h1, h2, h3, h4⟩
      · simp [insL, a1, a2, b1, b2, h1, h3, h4]
      · exact absurd h1 h
      · simp [insL, a1, a2, b1, b2, h1, h2, h3]
end Go.Proofs.YtkfpfbkdalbjoaaGreat
