/-
  What the document's answers on spans return (haywainref.Has, Empty, Both, Meet): the same as package span's, for every span and key; nothing that was there is changed.
-/
import Derived.Test.YtcaopggeainpnaaSpan
namespace Go.Proofs.Ytcaopggeainpnaa
open Go.RowKit Go.Joins

set_option maxHeartbeats 400000 in
theorem rhas_any (f t k : ByteArray) (w : World) :
    Calls Try.prog 7 #[.agg #[.string f, .string t], .string k] w fun e w' => e = .returned (.bool (hasS f t k)) ∧ Below w.heap.size w w' := by
  go_enter Try.func7, Try.ntmps7
  go_wp2
  all_goals
    go_ret
    refine ⟨?_, below_alloc1 _ _⟩
    simp_all [hasS, leS, ltS, nilS]

theorem remptyS (f t : ByteArray) : emptyS f t = (!t.toList.isEmpty && !Op.bytesLess f.toList t.toList) := by
  unfold emptyS; rw [leS_not]; rfl

set_option maxHeartbeats 400000 in
theorem rempty_any (f t : ByteArray) (w : World) :
    Calls Try.prog 10 #[.agg #[.string f, .string t]] w fun e w' => e = .returned (.bool (emptyS f t)) ∧ Below w.heap.size w w' := by
  go_enter Try.func10, Try.ntmps10
  go_wp2
  all_goals
    go_ret
    refine ⟨?_, below_alloc1 _ _⟩
    simp_all [remptyS]

theorem rboth_from (a b : ByteArray) : Lib.maxS a b = if (!(Op.bytesLess b.toList a.toList || b.toList == a.toList)) = true then b else a := by
  rw [maxS_eq]
  have : (!(Op.bytesLess b.toList a.toList || b.toList == a.toList)) = ltS a b := by
    have := leS_not b a
    unfold leS at this
    rw [this, Bool.not_not]
  rw [this]
theorem rboth_to (a b : ByteArray) : endS a b = if (a.toList.isEmpty || (!b.toList.isEmpty && Op.bytesLess b.toList a.toList)) = true then b else a := by
  have e : endS a b = if (nilS a || (!nilS b && ltS b a)) = true then b else a := by
    unfold endS
    rw [minS_eq, leS_not]
    cases nilS a <;> cases nilS b <;> cases ltS b a <;> simp
  exact e

set_option maxHeartbeats 2000000 in
theorem rboth_of (af a_t bf bt x y : ByteArray) (w : World)
    (hx : ((!Op.bytesLess bf.toList af.toList && !bf.toList == af.toList) = true ∧ x = bf) ∨ ((!Op.bytesLess bf.toList af.toList && !bf.toList == af.toList) = false ∧ x = af))
    (hy : (a_t.toList.isEmpty = true ∧ y = bt) ∨ (a_t.toList.isEmpty = false ∧ bt.toList.isEmpty = true ∧ y = a_t) ∨ (a_t.toList.isEmpty = false ∧ bt.toList.isEmpty = false ∧ Op.bytesLess bt.toList a_t.toList = true ∧ y = bt) ∨ (a_t.toList.isEmpty = false ∧ bt.toList.isEmpty = false ∧ Op.bytesLess bt.toList a_t.toList = false ∧ y = a_t)) :
    Calls Try.prog 12 #[.agg #[.string af, .string a_t], .agg #[.string bf, .string bt]] w fun e w' => e = .returned (.agg #[.string x, .string y]) ∧ Below w.heap.size w w' := by
  rcases hx with ⟨h1, rfl⟩ | ⟨h1, rfl⟩
  all_goals rcases hy with ⟨h2, rfl⟩ | ⟨h2, h3, rfl⟩ | ⟨h2, h3, h4, rfl⟩ | ⟨h2, h3, h4, rfl⟩
  all_goals
    go_enter Try.func12, Try.ntmps12
    go_wp2
    refine bodyPost_ret (v := .agg #[.string _, .string _]) (by simp [results, Try.results12, go_sem]) rfl ⟨rfl, ?_⟩
    exact (below_alloc3 _ _ _ _).alloc (by simp; omega) _
theorem rboth_any (af a_t bf bt : ByteArray) (w : World) :
    Calls Try.prog 12 #[.agg #[.string af, .string a_t], .agg #[.string bf, .string bt]] w fun e w' => e = .returned (.agg #[.string (Lib.maxS af bf), .string (endS a_t bt)]) ∧ Below w.heap.size w w' := by
  rw [rboth_from, rboth_to]
  refine rboth_of af a_t bf bt _ _ w ?_ ?_
  · rw [Bool.not_or]
    cases (!Op.bytesLess bf.toList af.toList && !bf.toList == af.toList)
    · exact Or.inr ⟨rfl, rfl⟩
    · exact Or.inl ⟨rfl, rfl⟩
  · cases a_t.toList.isEmpty <;> cases bt.toList.isEmpty <;> cases Op.bytesLess bt.toList a_t.toList <;> simp

set_option maxHeartbeats 1000000 in
theorem rmeet_any (af a_t bf bt : ByteArray) (w : World) :
    Calls Try.prog 14 #[.agg #[.string af, .string a_t], .agg #[.string bf, .string bt]] w fun e w' => e = .returned (.bool (meetS af a_t bf bt)) ∧ Below w.heap.size w w' := by
  have hB : Below w.heap.size w ((w.alloc (Obj.cells #[Value.string af, Value.string a_t] 23)).alloc (Obj.cells #[Value.string bf, Value.string bt] 23)) := below_alloc2 _ _ _
  have a0 : ((w.alloc (Obj.cells #[Value.string af, Value.string a_t] 23)).alloc (Obj.cells #[Value.string bf, Value.string bt] 23)).cell? ⟨w.heap.size, 0, none⟩ = some (.string af) := by simp
  have a1 : ((w.alloc (Obj.cells #[Value.string af, Value.string a_t] 23)).alloc (Obj.cells #[Value.string bf, Value.string bt] 23)).cell? ⟨w.heap.size, 1, none⟩ = some (.string a_t) := by simp
  have b0 : ((w.alloc (Obj.cells #[Value.string af, Value.string a_t] 23)).alloc (Obj.cells #[Value.string bf, Value.string bt] 23)).cell? ⟨w.heap.size + 1, 0, none⟩ = some (.string bf) := by simp
  have b1 : ((w.alloc (Obj.cells #[Value.string af, Value.string a_t] 23)).alloc (Obj.cells #[Value.string bf, Value.string bt] 23)).cell? ⟨w.heap.size + 1, 1, none⟩ = some (.string bt) := by simp
  go_enter Try.func14, Try.ntmps14
  go_wp2_with (first
    | (go_at_call 10; refine (rempty_any _ _ _).mono ?_; rintro e w1 ⟨rfl, hb⟩; replace hB := below_on hB (Nat.le_refl _) hb; replace a0 := cell_on hb a0; replace a1 := cell_on hb a1; replace b0 := cell_on hb b0; replace b1 := cell_on hb b1; clear hb)
    | (go_at_call 12; refine (rboth_any _ _ _ _ _).mono ?_; rintro e w1 ⟨rfl, hb⟩; replace hB := below_on hB (Nat.le_refl _) hb; replace a0 := cell_on hb a0; replace a1 := cell_on hb a1; replace b0 := cell_on hb b0; replace b1 := cell_on hb b1; clear hb))
  all_goals
    go_ret
    refine ⟨?_, hB⟩
    simp_all [meetS]

theorem a_b_c : hasS ⟨#[97]⟩ ⟨#[99]⟩ ⟨#[98]⟩ = true := by
  simp [hasS, leS, nilS, ltS, Lib.toList_data, Op.bytesLess]
theorem zero_a : zeroS ⟨#[97]⟩ = ⟨#[97, 0]⟩ := rfl
set_option maxHeartbeats 1000000 in
theorem spans_any (w : World) :
    Calls Try.prog 5 #[] w fun e w' => e = .returned (.bool true) ∧ Below w.heap.size w w' := by
  have f1 := a_b_c
  have hB := Below.refl w.heap.size w
  go_enter Try.func5, Try.ntmps5
  go_wp2_with (first
    | (go_at_call 31; refine (all_any _).mono ?_; rintro e w1 ⟨rfl, hb⟩; replace hB := below_on hB (Nat.le_refl _) hb; clear hb)
    | (go_at_call 8; refine (has_any _ _ _ _).mono ?_; rintro e w1 ⟨rfl, hb⟩; replace hB := below_on hB (Nat.le_refl _) hb; clear hb)
    | (go_at_call 16; refine (point_any _ _ (by decide)).mono ?_; rintro e w1 ⟨rfl, hb⟩; rw [zero_a]; replace hB := below_on hB (Nat.le_refl _) hb; clear hb))
  go_ret
  exact ⟨rfl, hB⟩
end Go.Proofs.Ytcaopggeainpnaa
