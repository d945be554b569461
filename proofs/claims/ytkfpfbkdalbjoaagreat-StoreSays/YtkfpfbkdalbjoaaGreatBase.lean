/-
  Small helpers of the walks: what was there is there behind a call that makes new memory alone; an ending's value by an equation.
-/
import Derived.Test.YtkfpfbkdalbjoaaGreatRows
import Derived.WalkKit
import Derived.WalkSpells
import Derived.WalkLawsBesides
import Derived.Lib.SmallJoins
import Derived.BigQuiet
import Derived.Deep.RegionHeld3
import Derived.Deep.DrawnRows
namespace Go.Proofs.YtkfpfbkdalbjoaaGreat
open Go.RowKit Go.Joins

theorem cell_on {W w1 : World} {p : Addr} {v : Value} (hb : Below W.heap.size W w1) (h : W.cell? p = some v) : w1.cell? p = some v := cell_later hb h
theorem below_on {B : Nat} {w W w1 : World} (hB : Below B w W) (hw : B ≤ w.heap.size) (hb : Below W.heap.size W w1) : Below B w w1 :=
  hB.trans (hb.mono (Nat.le_trans hw hB.size))
theorem cell_new (w : World) (C : Array Value) (t : TypeId) (j : Nat) : (w.alloc (.cells C t)).cell? ⟨w.heap.size, j, none⟩ = C[j]? := cell_of_block (Go.heap_alloc_new w _) j
theorem frozen_on {W w1 : World} {p : Addr} (hb : Below W.heap.size W w1) (hp : p.block < W.heap.size) (h : W.frozen? p = false) : w1.frozen? p = false := (hb.frozen hp).trans h
theorem frozen_new (w : World) (C : Array Value) (t : TypeId) (j : Nat) : (w.alloc (.cells C t)).frozen? ⟨w.heap.size, j, none⟩ = false := unfrozen_of_block (Go.heap_alloc_new w _) j
theorem hide {p : Prop} (h : p) : Hid p := h
theorem ret_bool {a b : Bool} (h : a = b) : Ending.returned (.bool a) = .returned (.bool b) := by rw [h]
theorem ret_string {a b : ByteArray} (h : a = b) : Ending.returned (.string a) = .returned (.string b) := by rw [h]
theorem ret_int {k : IntKind} {a b : Int} (h : a = b) : Ending.returned (.int k a) = .returned (.int k b) := by rw [h]

/-- A world in which all is there that was there in W. -/
structure OnW (W : World) where
  w : World
  on : Below W.heap.size W w
theorem OnW.cell {W : World} (n : OnW W) {p : Addr} {v : Value} (h : W.cell? p = some v) : n.w.cell? p = some v := cell_on n.on h
theorem OnW.some (W : World) : Nonempty (OnW W) := ⟨⟨W, Below.refl _ _⟩⟩
/-- A region that draws its order, whose operations read and whose callees make new memory alone, walked once, in the order of the text: the class of worlds is 'all is there that was'. -/
theorem wp_region_on {P : Program} {id : Nat} {Q : Exit → Act → World → Prop} {a : Act} {w : World} {l : List Oper} (hm : P.follows .mixedOrders = true) (hB : Region.lexB .any l.toArray = true)
    (h : wpQuiet P l.toArray (fun w' => ∃ n : OnW w, w' = n.w) (fun a' => ∀ w', (∃ n : OnW w, w' = n.w) → Q .normal a' w') l a) : (Code.region id l.toArray true).wp P Q a w :=
  wp_region_quiet (C := fun w' => ∃ n : OnW w, w' = n.w) hm hB ⟨⟨w.drew, (Below.refl _ _).drew⟩, rfl⟩ (by simpa using h)
theorem on_end {W w' : World} (h : ∃ n : OnW W, w' = n.w) : Below W.heap.size W w' := by obtain ⟨n, rfl⟩ := h; exact n.on
theorem on_call {P : Program} {f : FuncId} {args : Array Value} {W : World} {n : OnW W} {v : Value}
    (h : Calls P f args n.w fun e w' => e = .returned v ∧ Below n.w.heap.size n.w w') : Calls P f args n.w fun e w'' => e = .returned v ∧ ∃ m : OnW W, w'' = m.w :=
  h.mono fun _ w' ⟨he, hb⟩ => ⟨he, ⟨w', below_on n.on (Nat.le_refl _) hb⟩, rfl⟩
theorem on_same {P : Program} {f : FuncId} {args : Array Value} {W : World} {n : OnW W} {v : Value}
    (h : Calls P f args n.w fun e w' => e = .returned v ∧ w' = n.w) : Calls P f args n.w fun e w'' => e = .returned v ∧ ∃ m : OnW W, w'' = m.w :=
  h.mono fun _ _ ⟨he, hw⟩ => ⟨he, n, hw⟩
/-- a contract's value, told otherwise -/
theorem call_val {P : Program} {f : FuncId} {args : Array Value} {w : World} {v v' : Value} {R : World → Prop} (h : Calls P f args w fun e w' => e = .returned v ∧ R w') (hv : v = v') : Calls P f args w fun e w' => e = .returned v' ∧ R w' := hv ▸ h
end Go.Proofs.YtkfpfbkdalbjoaaGreat
