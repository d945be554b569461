/-
  What haywainref.Both returns of two spans.
-/
import Derived.Test.YtpbhcjkllfonhaaGreatSpanPt
namespace Go.Proofs.YtpbhcjkllfonhaaGreat
open Go.RowKit Go.Joins

theorem rboth_from (a b : ByteArray) : Lib.maxS a b = if (!(Op.bytesLess b.toList a.toList || b.toList == a.toList)) = true then b else a := by
  rw [maxS_eq]
  have : (!(Op.bytesLess b.toList a.toList || b.toList == a.toList)) = ltS a b := by
    have := leS_not b a
    unfold leS at this
    rw [this, Bool.not_not]
  rw [this]
theorem rboth_to (a b : ByteArray) : endS a b = if (a.toList.isEmpty || (!b.toList.isEmpty && Op.bytesLess b.toList a.toList)) = true then b else a := by
  have e : endS a b = if (nilS a || (!nilS b && ltS b a)) = true then b else a := by
    unfold endS
    rw [minS_eq, leS_not]
    cases nilS a <;> cases nilS b <;> cases ltS b a <;> simp
  exact e

set_option maxHeartbeats 2000000 in
theorem rboth_of (af a_t bf bt x y : ByteArray) (w : World)
    (hx : ((!Op.bytesLess bf.toList af.toList && !bf.toList == af.toList) = true ∧ x = bf) ∨ ((!Op.bytesLess bf.toList af.toList && !bf.toList == af.toList) = false ∧ x = af))
    (hy : (a_t.toList.isEmpty = true ∧ y = bt) ∨ (a_t.toList.isEmpty = false ∧ bt.toList.isEmpty = true ∧ y = a_t) ∨ (a_t.toList.isEmpty = false ∧ bt.toList.isEmpty = false ∧ Op.bytesLess bt.toList a_t.toList = true ∧ y = bt) ∨ (a_t.toList.isEmpty = false ∧ bt.toList.isEmpty = false ∧ Op.bytesLess bt.toList a_t.toList = false ∧ y = a_t)) :
    Calls Tryz.prog 38 #[.agg #[.string af, .string a_t], .agg #[.string bf, .string bt]] w fun e w' => e = .returned (.agg #[.string x, .string y]) ∧ Below w.heap.size w w' := by
  rcases hx with ⟨h1, rfl⟩ | ⟨h1, rfl⟩
  all_goals rcases hy with ⟨h2, rfl⟩ | ⟨h2, h3, rfl⟩ | ⟨h2, h3, h4, rfl⟩ | ⟨h2, h3, h4, rfl⟩
  all_goals
    go_enter Tryz.func38, Tryz.ntmps38
    go_wp2
    refine bodyPost_ret (v := .agg #[.string _, .string _]) (by simp [results, Tryz.results38, go_sem]) rfl ⟨rfl, ?_⟩
    exact (below_alloc3 _ _ _ _).alloc (by simp; omega) _
theorem rboth_any (af a_t bf bt : ByteArray) (w : World) :
    Calls Tryz.prog 38 #[.agg #[.string af, .string a_t], .agg #[.string bf, .string bt]] w fun e w' => e = .returned (.agg #[.string (Lib.maxS af bf), .string (endS a_t bt)]) ∧ Below w.heap.size w w' := by
  rw [rboth_from, rboth_to]
  refine rboth_of af a_t bf bt _ _ w ?_ ?_
  · rw [Bool.not_or]
    cases (!Op.bytesLess bf.toList af.toList && !bf.toList == af.toList)
    · exact Or.inr ⟨rfl, rfl⟩
    · exact Or.inl ⟨rfl, rfl⟩
  · cases a_t.toList.isEmpty <;> cases bt.toList.isEmpty <;> cases Op.bytesLess bt.toList a_t.toList <;> simp
end Go.Proofs.YtpbhcjkllfonhaaGreat
