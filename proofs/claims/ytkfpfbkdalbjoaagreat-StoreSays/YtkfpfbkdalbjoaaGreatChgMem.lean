/-
  Changes of rows, as they lie in memory. Nothing of the program's functions is named here.
-/
import Derived.Test.YtkfpfbkdalbjoaaGreatBase
import Derived.Test.YtkfpfbkdalbjoaaGreatStr
namespace Go.Proofs.YtkfpfbkdalbjoaaGreat
open Go.RowKit Go.Joins

structure Chg where
  key : ByteArray
  val : ByteArray
  gone : Bool

def chgV (c : Chg) : Value := .agg #[.string c.key, .string c.val, .bool c.gone]
/-- changes, three cells each, lie in block b from off on -/
def chgsAt (w : World) (b off : Nat) (l : List Chg) : Prop :=
  ∀ i (h : i < l.length), w.cell? ⟨b, off + i * 3, none⟩ = some (.string l[i].key) ∧ w.cell? ⟨b, off + i * 3 + 1, none⟩ = some (.string l[i].val) ∧ w.cell? ⟨b, off + i * 3 + 2, none⟩ = some (.bool l[i].gone)
theorem chgsAt_on {w w' : World} {b off : Nat} {l : List Chg} (hb : Below w.heap.size w w') (h : chgsAt w b off l) : chgsAt w' b off l :=
  fun i hi => ⟨cell_on hb (h i hi).1, cell_on hb (h i hi).2.1, cell_on hb (h i hi).2.2⟩
/-- the place of a key among changes: the first whose key isn't below -/
def placeL (l : List Chg) (key : ByteArray) : Nat := l.findIdx fun c => !ltS c.key key
def foundL (l : List Chg) (key : ByteArray) : Bool := match l[placeL l key]? with
  | some c => eqS c.key key
  | none => false
theorem placeL_le (l : List Chg) (key : ByteArray) : placeL l key ≤ l.length := List.findIdx_le_length
theorem placeL_take {l : List Chg} {key : ByteArray} {k : Nat} (hk : k ≤ placeL l key) (hl : k < l.length) (h : ltS l[k].key key = true) : k + 1 ≤ placeL l key := by
  rcases Nat.lt_or_ge k (placeL l key) with h' | h'
  · exact h'
  · have e : placeL l key = k := by omega
    have := List.findIdx_getElem (p := fun c : Chg => !ltS c.key key) (xs := l) (w := by unfold placeL at e; omega)
    unfold placeL at e
    simp only [e, h] at this
    cases this
theorem placeL_eq {l : List Chg} {key : ByteArray} {k : Nat} (hk : k ≤ placeL l key) (h : (hl : k < l.length) → ltS l[k].key key = false) : placeL l key = k := by
  rcases Nat.lt_or_ge k (placeL l key) with h' | h'
  · have hl : k < l.length := Nat.lt_of_lt_of_le h' (placeL_le l key)
    have := List.not_of_lt_findIdx (p := fun c : Chg => !ltS c.key key) (xs := l) (i := k) h'
    simp [h hl] at this
  · omega
def putL (l : List Chg) (c : Chg) : List Chg := l.take (placeL l c.key) ++ c :: l.drop (if foundL l c.key then placeL l c.key + 1 else placeL l c.key)
end Go.Proofs.YtkfpfbkdalbjoaaGreat

/-
  What haywainlaw.LightChanges returns of changes that lie in memory. It changes nothing.
-/
namespace Go.Proofs.YtkfpfbkdalbjoaaGreat
open Go.RowKit Go.Joins

def lightChg (c : Chg) : Bool := decide (c.key.size ≤ 60) && decide (c.val.size ≤ 100)
def lightChgs (l : List Chg) (n : Nat) : Bool := decide (l.length ≤ n) && l.all lightChg
theorem lightc_take {l : List Chg} {k : Nat} (hk : k < l.length) (h : (l.take k).all lightChg = true) (h2 : lightChg l[k] = true) : (l.take (k + 1)).all lightChg = true := by
  rw [List.take_succ_eq_append_getElem hk, List.all_append, h]; simp [h2]
theorem lightc_not {l : List Chg} {k n : Nat} (hk : k < l.length) (h : lightChg l[k] = false) : lightChgs l n = false := by
  unfold lightChgs
  have : l.all lightChg = false := by
    rw [List.all_eq_false]; exact ⟨l[k], List.getElem_mem hk, by simp [h]⟩
  rw [this, Bool.and_false]

set_option maxHeartbeats 1000000 in
theorem lightChgs_some (l : List Chg) (n b off cap : Nat) (w : World) (hl : chgsAt w b off l) (hm : n ≤ 1000) :
    Calls Tryz.prog 17 #[.slice (some ⟨b, off, none⟩) l.length cap, .int .i64 n] w fun e w' => e = .returned (.bool (lightChgs l n)) ∧ w' = w := by
  by_cases h50 : l.length ≤ n
  · have hg : decide ((n : Int) < (l.length : Int)) = false := by simp; omega
    go_enter Tryz.func17, Tryz.ntmps17
    go_wp2
    go_loop [5] (fun i => ∃ k : Nat, k ≤ l.length ∧ i = .int .i64 k ∧ (l.take k).all lightChg = true) (fun i => l.length - (intOf i).toNat)
    case atStart => exact ⟨0, Nat.zero_le _, rfl, by simp⟩
    case round =>
      obtain ⟨k, hk, rfl, hall⟩ := hrel
      have HA : Hid ((l.take k).all lightChg = true) := hall
      clear hall
      by_cases hlt : k < l.length
      · obtain ⟨c0, c1, _⟩ := hl k hlt
        go_wp2
        · go_ret
          exact ⟨ret_bool (lightc_not hlt (by simp only [lightChg, Bool.and_eq_false_iff, decide_eq_false_iff_not]; omega)).symm, rfl⟩
        · go_round
          case rel => refine ⟨k + 1, by omega, by go_num, ?_⟩; exact List.all_eq_true.mp (lightc_take hlt HA.out (by simp only [lightChg, Bool.and_eq_true, decide_eq_true_eq]; omega))
          case measure => simp [intOf]; omega
        · go_ret
          exact ⟨ret_bool (lightc_not hlt (by simp only [lightChg, Bool.and_eq_false_iff, decide_eq_false_iff_not]; omega)).symm, rfl⟩
      · go_wp2
        go_ret
        refine ⟨ret_bool ?_, rfl⟩
        have e : l.take k = l := List.take_of_length_le (by omega)
        have := HA.out
        rw [e] at this
        simp [lightChgs, this, h50]
  · have hg : decide ((n : Int) < (l.length : Int)) = true := by simp; omega
    go_enter Tryz.func17, Tryz.ntmps17
    go_wp2
    go_ret
    exact ⟨ret_bool (by simp [lightChgs, h50]), rfl⟩
theorem lightChgs_nil (ao : Option Addr) (n cap : Nat) (w : World) :
    Calls Tryz.prog 17 #[.slice ao 0 cap, .int .i64 n] w fun e w' => e = .returned (.bool true) ∧ w' = w := by
  have hg : decide ((n : Int) < 0) = false := by simp
  go_enter Tryz.func17, Tryz.ntmps17
  go_wp2
  refine wp_loop_rounds 1 ?_
  rw [rounds_succ]
  go_wp2
  go_ret
  exact ⟨rfl, rfl⟩

end Go.Proofs.YtkfpfbkdalbjoaaGreat

/-
  Changes that a slice holds, as they came in; what haywainlaw.LightChanges returns of them.
-/
namespace Go.Proofs.YtkfpfbkdalbjoaaGreat
open Go.RowKit Go.Joins

/-- changes that a slice holds, or none -/
def heldCh (w : World) (ao : Option Addr) (l : List Chg) : Prop := l = [] ∨ ∃ b off, ao = some ⟨b, off, none⟩ ∧ chgsAt w b off l
theorem heldCh_on {w w' : World} {ao : Option Addr} {l : List Chg} (hb : Below w.heap.size w w') (h : heldCh w ao l) : heldCh w' ao l := by
  rcases h with h | ⟨b, off, h, k⟩
  · exact .inl h
  · exact .inr ⟨b, off, h, chgsAt_on hb k⟩
theorem light_held (l : List Chg) (n cap : Nat) (ao : Option Addr) (w : World) (hl : heldCh w ao l) (hm : n ≤ 1000) :
    Calls Tryz.prog 17 #[.slice ao l.length cap, .int .i64 n] w fun e w' => e = .returned (.bool (lightChgs l n)) ∧ w' = w := by
  rcases hl with rfl | ⟨b, off, rfl, h⟩
  · exact lightChgs_nil _ _ _ _
  · exact lightChgs_some l n b off cap w h hm
end Go.Proofs.YtkfpfbkdalbjoaaGreat

/-
  Deeds as they lie in memory.
-/
namespace Go.Proofs.YtkfpfbkdalbjoaaGreat
open Go.RowKit Go.Joins

structure Dd where
  ao : Option Addr
  cap : Nat
  chs : List Chg
def deedsAt (w : World) (b off : Nat) (l : List Dd) : Prop := ∀ i (h : i < l.length), w.cell? ⟨b, off + i, none⟩ = some (.slice l[i].ao l[i].chs.length l[i].cap) ∧ heldCh w l[i].ao l[i].chs
def heldDs (w : World) (ao : Option Addr) (l : List Dd) : Prop := l = [] ∨ ∃ b off, ao = some ⟨b, off, none⟩ ∧ deedsAt w b off l
theorem deedsAt_on {w w' : World} {b off : Nat} {l : List Dd} (hb : Below w.heap.size w w') (h : deedsAt w b off l) : deedsAt w' b off l := fun i hi => ⟨cell_on hb (h i hi).1, heldCh_on hb (h i hi).2⟩
theorem heldDs_on {w w' : World} {ao : Option Addr} {l : List Dd} (hb : Below w.heap.size w w') (h : heldDs w ao l) : heldDs w' ao l := by
  rcases h with h | ⟨b, off, h, k⟩
  · exact .inl h
  · exact .inr ⟨b, off, h, deedsAt_on hb k⟩
end Go.Proofs.YtkfpfbkdalbjoaaGreat
