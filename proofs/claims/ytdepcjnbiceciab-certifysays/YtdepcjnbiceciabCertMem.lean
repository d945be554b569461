/-
  A history of deeds, as it lies in memory. Nothing of the program's functions is named here.
-/
import Derived.Test.YtdepcjnbiceciabCertL
import Derived.Test.YtdepcjnbiceciabRowG
namespace Go.Proofs.Ytdepcjnbiceciab
open Go.RowKit Go.Joins

def cellD (p : DeedL × Value) : List Value := [.int .i64 p.1.n, p.2]
theorem cellD_len (p : DeedL × Value) : (cellD p).length = 2 := rfl
def rowD (dv : List (DeedL × Value)) : List Value := dv.flatMap cellD
/-- block hb is a history that holds these deeds, each with the value of its keys; all of it lies from block B on -/
structure HistAt (w : World) (B hb : Nat) (v : Value) (dv : List (DeedL × Value)) : Prop where
  cell : w.cell? ⟨hb, 0, none⟩ = some v
  soft : w.frozen? ⟨hb, 0, none⟩ = false
  lo : B ≤ hb
  own : w.ownsRow B 121 2 v dv.length (rowD dv)
  keys : ∀ p ∈ dv, w.ownsRow B 9 1 p.2 p.1.keys.length (p.1.keys.map Value.string)
  off : v.ownBlock ≠ some hb
  offk : ∀ p ∈ dv, p.2.ownBlock ≠ some hb
  apart : ∀ p ∈ dv, p.2.ownBlock = none ∨ p.2.ownBlock ≠ v.ownBlock
  pair : dv.Pairwise fun p q => p.2.ownBlock = none ∨ p.2.ownBlock ≠ q.2.ownBlock
theorem HistAt.lt {w : World} {B hb : Nat} {v : Value} {dv : List (DeedL × Value)} (h : HistAt w B hb v dv) : hb < w.heap.size := World.block_lt_of_cell? w ⟨hb, 0, none⟩ h.cell
theorem HistAt.on {w w' : World} {B hb : Nat} {v : Value} {dv : List (DeedL × Value)} (h : HistAt w B hb v dv) (hb' : Below w.heap.size w w') : HistAt w' B hb v dv where
  cell := cell_on hb' h.cell
  soft := frozen_on hb' h.lt h.soft
  lo := h.lo
  own := own_on h.own hb'
  keys := fun p hp => own_on (h.keys p hp) hb'
  off := h.off
  offk := h.offk
  apart := h.apart
  pair := h.pair
theorem hist_made {w : World} {B g : Nat} (hB : B ≤ g) (hc : w.cell? ⟨g, 0, none⟩ = some (.slice none 0 0)) (hf : w.frozen? ⟨g, 0, none⟩ = false) : HistAt w B g (.slice none 0 0) [] where
  cell := hc
  soft := hf
  lo := hB
  own := World.ownsRow_nil _ _ _ _
  keys := by simp
  off := by simp [Value.ownBlock]
  offk := by simp
  apart := by simp
  pair := List.Pairwise.nil
/-- the history's value is nil, or a block's head, where its deeds lie -/
theorem HistAt.form {w : World} {B hb : Nat} {v : Value} {dv : List (DeedL × Value)} (h : HistAt w B hb v dv) :
    (v = .slice none 0 0 ∧ dv = []) ∨ ∃ g cap, v = .slice (some ⟨g, 0, none⟩) dv.length cap ∧ B ≤ g ∧ g ≠ hb ∧ dv.length ≤ cap ∧ cap ≤ 9223372036854775807 ∧
      ∀ i (hi : i < dv.length), w.cell? ⟨g, i * 2, none⟩ = some (.int .i64 dv[i].1.n) ∧ w.cell? ⟨g, i * 2 + 1, none⟩ = some dv[i].2 ∧ w.frozen? ⟨g, i * 2 + 1, none⟩ = false := by
  rcases own_form h.own with ⟨hv, h0⟩ | ⟨g, cap, hv, h1, h2, h3, h4⟩
  · exact .inl ⟨hv, List.length_eq_zero_iff.1 h0⟩
  · refine .inr ⟨g, cap, hv, h1, fun e => h.off (by rw [hv, e]; rfl), h3, by unfold maxLen at h4; omega, fun i hi => ?_⟩
    have ho := h.own
    rw [hv] at ho
    have a := own_get cellD_len ho i 0 hi (by omega)
    have b := own_get cellD_len ho i 1 hi (by omega)
    exact ⟨a.1, b.1, b.2⟩
/-- keys of a deed: nil, or a block's head, where they lie -/
theorem keys_form {w : World} {B : Nat} {v : Value} {ks : List ByteArray} (h : w.ownsRow B 9 1 v ks.length (ks.map Value.string)) :
    (v = .slice none 0 0 ∧ ks = []) ∨ ∃ g cap, v = .slice (some ⟨g, 0, none⟩) ks.length cap ∧ ks.length ≤ cap ∧ cap ≤ 9223372036854775807 ∧ ∀ i (hi : i < ks.length), w.cell? ⟨g, i, none⟩ = some (.string ks[i]) := by
  rcases own_form h with ⟨hv, h0⟩ | ⟨g, cap, hv, h1, h2, h3, h4⟩
  · exact .inl ⟨hv, List.length_eq_zero_iff.1 h0⟩
  · refine .inr ⟨g, cap, hv, h3, by unfold maxLen at h4; omega, fun i hi => ?_⟩
    rw [hv] at h
    have := h.cellAt i (by omega)
    rw [this]
    simp [hi]
/-- a block of a history -/
def inH (hb : Nat) (v : Value) (dv : List (DeedL × Value)) (k : Nat) : Prop := k = hb ∨ v.ownBlock = some k ∨ ∃ p ∈ dv, p.2.ownBlock = some k
theorem inH_lt {w : World} {B hb : Nat} {v : Value} {dv : List (DeedL × Value)} (h : HistAt w B hb v dv) {k : Nat} (hk : inH hb v dv k) : k < w.heap.size := by
  rcases hk with rfl | e | ⟨p, hp, e⟩
  · exact h.lt
  · exact (h.own.lt k e).2
  · exact ((h.keys p hp).lt k e).2
/-- a history stays where its blocks are as they were -/
theorem HistAt.kept {w w' : World} {B hb : Nat} {v : Value} {dv : List (DeedL × Value)} (h : HistAt w B hb v dv) (hk : ∀ k, inH hb v dv k → w'.heap[k]? = w.heap[k]?) : HistAt w' B hb v dv where
  cell := (World.cell?_of_block (w := w) (hk hb (.inl rfl))).trans h.cell
  soft := (World.frozen?_of_block (w := w) (hk hb (.inl rfl))).trans h.soft
  lo := h.lo
  own := own_block h.own fun k e => hk k (.inr (.inl e))
  keys := fun p hp => own_block (h.keys p hp) fun k e => hk k (.inr (.inr ⟨p, hp, e⟩))
  off := h.off
  offk := h.offk
  apart := h.apart
  pair := h.pair
end Go.Proofs.Ytdepcjnbiceciab
