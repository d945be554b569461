/-
  Changes of rows, as they lie in memory. Nothing of the program's functions is named here.
-/
import Derived.Test.YtkfpfbkdalbjoaaBase
import Derived.Test.YtkfpfbkdalbjoaaStr
namespace Go.Proofs.Ytkfpfbkdalbjoaa
open Go.RowKit Go.Joins

structure Chg where
  key : ByteArray
  val : ByteArray
  gone : Bool

def chgV (c : Chg) : Value := .agg #[.string c.key, .string c.val, .bool c.gone]
/-- changes, three cells each, lie in block b from off on -/
def chgsAt (w : World) (b off : Nat) (l : List Chg) : Prop :=
  ∀ i (h : i < l.length), w.cell? ⟨b, off + i * 3, none⟩ = some (.string l[i].key) ∧ w.cell? ⟨b, off + i * 3 + 1, none⟩ = some (.string l[i].val) ∧ w.cell? ⟨b, off + i * 3 + 2, none⟩ = some (.bool l[i].gone)
theorem chgsAt_on {w w' : World} {b off : Nat} {l : List Chg} (hb : Below w.heap.size w w') (h : chgsAt w b off l) : chgsAt w' b off l :=
  fun i hi => ⟨cell_on hb (h i hi).1, cell_on hb (h i hi).2.1, cell_on hb (h i hi).2.2⟩
/-- the place of a key among changes: the first whose key isn't below -/
def placeL (l : List Chg) (key : ByteArray) : Nat := l.findIdx fun c => !ltS c.key key
def foundL (l : List Chg) (key : ByteArray) : Bool := match l[placeL l key]? with
  | some c => eqS c.key key
  | none => false
theorem placeL_le (l : List Chg) (key : ByteArray) : placeL l key ≤ l.length := List.findIdx_le_length
theorem placeL_take {l : List Chg} {key : ByteArray} {k : Nat} (hk : k ≤ placeL l key) (hl : k < l.length) (h : ltS l[k].key key = true) : k + 1 ≤ placeL l key := by
  rcases Nat.lt_or_ge k (placeL l key) with h' | h'
  · exact h'
  · have e : placeL l key = k := by omega
    have := List.findIdx_getElem (p := fun c : Chg => !ltS c.key key) (xs := l) (w := by unfold placeL at e; omega)
    unfold placeL at e
    simp only [e, h] at this
    cases this
theorem placeL_eq {l : List Chg} {key : ByteArray} {k : Nat} (hk : k ≤ placeL l key) (h : (hl : k < l.length) → ltS l[k].key key = false) : placeL l key = k := by
  rcases Nat.lt_or_ge k (placeL l key) with h' | h'
  · have hl : k < l.length := Nat.lt_of_lt_of_le h' (placeL_le l key)
    have := List.not_of_lt_findIdx (p := fun c : Chg => !ltS c.key key) (xs := l) (i := k) h'
    simp [h hl] at this
  · omega
def putL (l : List Chg) (c : Chg) : List Chg := l.take (placeL l c.key) ++ c :: l.drop (if foundL l c.key then placeL l c.key + 1 else placeL l c.key)
end Go.Proofs.Ytkfpfbkdalbjoaa
