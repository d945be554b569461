/-
  Sectors and writes of a disk as they lie in memory: an array's cells, a row of writes.
-/
import Derived.Test.YtkfpfbkdalbjoaaBase
import Derived.Deep.MidRow
import Derived.Laws.IdiomStrings
import Derived.OwnWalk
namespace Go.Proofs.Ytkfpfbkdalbjoaa
open Go.RowKit Go.Joins

def secV (d : ByteArray) : List Value := d.data.toList.map fun b => .int .u8 b.toNat
abbrev Wr := Int × ByteArray
def cellW (x : Wr) : List Value := .int .i64 x.1 :: secV x.2
theorem secV_length (d : ByteArray) : (secV d).length = d.size := by unfold secV; rw [List.length_map, Array.length_toList]; rfl
theorem secV_one (d : ByteArray) : ∀ v ∈ secV d, v.oneCell' = true := fun v hv => by
  obtain ⟨b, _, rfl⟩ := List.mem_map.1 hv; rfl
theorem cellW_length {x : Wr} (h : x.2.size = 96) : (cellW x).length = 97 := by unfold cellW; rw [List.length_cons, secV_length, h]
theorem cellW_one (x : Wr) : ∀ v ∈ cellW x, v.oneCell' = true := fun v hv => by
  rcases List.mem_cons.1 hv with rfl | hv
  · rfl
  · exact secV_one _ v hv
/-- the cells of a row of things that have so many cells each -/
theorem dflat_get {α : Type} {f : α → List Value} {z : Nat} {l : List α} (h : ∀ x ∈ l, (f x).length = z) : ∀ (i c : Nat) (hi : i < l.length), c < z → (l.flatMap f)[i * z + c]? = (f l[i])[c]? := by
  induction l with
  | nil => intro i c hi; cases hi
  | cons x l ih =>
    intro i c hi hc
    have hx := h x (List.mem_cons_self ..)
    cases i with
    | zero => rw [List.flatMap_cons, Nat.zero_mul, Nat.zero_add, List.getElem?_append_left (by omega)]; rfl
    | succ i =>
      have e : (i + 1) * z = i * z + z := Nat.succ_mul i z
      rw [List.flatMap_cons, List.getElem?_append_right (by omega), show (i + 1) * z + c - (f x).length = i * z + c by omega, ih (fun y hy => h y (List.mem_cons_of_mem _ hy)) i c (by simpa using hi) hc]
      rfl
theorem dflat_length {α : Type} {f : α → List Value} {z : Nat} {l : List α} (h : ∀ x ∈ l, (f x).length = z) : (l.flatMap f).length = l.length * z := by
  induction l with
  | nil => simp
  | cons x l ih =>
    rw [List.flatMap_cons, List.length_append, h x (List.mem_cons_self ..), ih (fun y hy => h y (List.mem_cons_of_mem _ hy)), List.length_cons, Nat.succ_mul]; omega
def ownW (w : World) (B : Nat) (v : Value) (l : List Wr) : Prop := w.ownsRow B 98 97 v l.length (l.flatMap cellW) ∧ ∀ x ∈ l, x.2.size = 96
theorem write_size : (Try.prog.info? 98).map (·.size) = some 97 := by kernel_rfl
theorem sector_size : (Try.prog.info? 91).map (·.size) = some 96 := by kernel_rfl
theorem ownW_range {w : World} {B g n cap : Nat} {l : List Wr} (h : ownW w B (.slice (some ⟨g, 0, none⟩) n cap) l) {i : Nat} (hi : i < l.length) : w.rangeAt g (i * 97) (cellW l[i]) := fun j v hv => by
  have hj : j < (cellW l[i]).length := (List.getElem?_eq_some_iff.1 hv).1
  rw [cellW_length (h.2 _ (List.getElem_mem hi))] at hj
  have e := World.ownsRow.cells h.1 (g := g) rfl (i * 97 + j) v ((dflat_get (fun x hx => cellW_length (h.2 x hx)) i j hi hj).trans hv)
  rw [Go.Addr.add_mid, Nat.zero_add] at e
  exact e
theorem rangeAt_on {W w1 : World} {b o : Nat} {cs : List Value} (hb : Below W.heap.size W w1) (h : W.rangeAt b o cs) : w1.rangeAt b o cs := fun j v hv => cell_on hb (h j v hv)
/-- a write's load out of its row -/
theorem load_write {w : World} {g o : Nat} {x : Wr} (h : w.rangeAt g o (cellW x)) (hx : x.2.size = 96) : (Instr.loadAt 98 (.pointer (some ⟨g, o, none⟩))).run Try.prog w = .ok (.agg (cellW x).toArray) w :=
  run_loadAt_mid w g o _ _ _ h Try.underlying98 rfl (by rw [cellW_length hx]; exact write_size)
theorem load_sector {w : World} {g o : Nat} {d : ByteArray} (h : w.rangeAt g o (secV d)) (hx : d.size = 96) : (Instr.loadAt 91 (.pointer (some ⟨g, o, none⟩))).run Try.prog w = .ok (.agg (secV d).toArray) w :=
  run_loadAt_mid w g o _ _ _ h Try.underlying91 rfl (by rw [secV_length, hx]; exact sector_size)
end Go.Proofs.Ytkfpfbkdalbjoaa
