/-
  One element appended to a row of one's own, as a step of a walk: the element was laid in a new block first. Nothing of the program is named here.
-/
import Derived.Test.YtkfpfbkdalbjoaaGreatBase
import Derived.OwnWalk
namespace Go.Proofs.YtkfpfbkdalbjoaaGreat
open Go.RowKit Go.Joins Go.WideShapes

theorem wp_append1 {P : Program} {ops : Array Oper} {rest : List Oper} {o : Oper} {a : Act} {Q : Exit → Act → World → Prop} (hgd : o.guard = none) (s x : Operand) (t : TypeId)
    (ho : o.op = .call { callee := .builtin .append, args := #[s, x], argTypes := #[t, t] })
    (base : Nat) (e : TypeId) (i : TypeInfo) (z : Value) (size bytes : Nat) (ht : P.underlying t = some (.slice e)) (hi : P.info? e = some i) (hz : i.zero = some z)
    (hsize : i.size = size) (hby : i.bytes = bytes) (hzs : z.cells.size = size) (hsz : 0 < size) (W : World) (C : List Value) (hC : C.length = size) (h1 : ∀ u ∈ C, u.oneCell' = true)
    (v : Value) (n : Nat) (xs : List Value) (hown : W.ownsRow base e size v n xs) (hs : a.eval s = v) (hx : a.eval x = .slice (some ⟨W.heap.size, 0, none⟩) 1 1)
    (hn : n ≤ 1000000) (hb : bytes ≤ 1000) (hbase : base ≤ W.heap.size)
    (h : ∀ v' w', w'.ownsRow base e size v' (n + 1) (xs ++ C) → (∀ w0, Below base w0 W → Below base w0 w') → wpList P ops Q rest (a.put o.dst v') w') : wpList P ops Q (o :: rest) a (W.alloc (.cells C.toArray e)) := by
  refine wpList_append_own _ hgd s x t ho base e i z size bytes ht hi hz hsize hby hzs hsz v n xs hs (hown.alloc _) ⟨W.heap.size, 0, none⟩ 1 1 C hx (by omega) ?_ h1 (by unfold maxLen; omega) ?_ (Nat.le_trans hbase (by simp)) ?_
  · intro j u hj
    have := cell_new W C.toArray e j
    rw [add_plain, Nat.zero_add, this]
    simpa using hj
  · have : (n + 1) * bytes ≤ 1000001 * 1000 := Nat.mul_le_mul (by omega) hb
    omega
  · intro v' w' h2 h3 _
    refine h v' w' h2 fun w0 hB => ?_
    exact (hB.trans ((below_alloc1 W _).mono hbase)).grown h3 (Nat.le_trans hbase (by simp)) (fun k hk => (hown.lt k hk).1)
end Go.Proofs.YtkfpfbkdalbjoaaGreat
