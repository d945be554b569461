/-
  Versions of rows by keys, as they lie in memory: a pair of a number and a map from keys to rows of versions, each a row of its own. Nothing of the program's functions is named here.
-/
import Derived.Test.YtjphbmdmnicjpacVerBehind
import Derived.Test.YtjphbmdmnicjpacRowG
import Derived.Maps.OwnSet
import Derived.Maps.Views
import Derived.StringKeys
namespace Go.Proofs.Ytjphbmdmnicjpac
open Go.RowKit Go.Joins

def cellV (x : Ver) : List Value := [.int .i64 x.deed, .string x.val, .bool x.gone]
theorem cellV_len (x : Ver) : (cellV x).length = 3 := rfl
theorem cellV_one (l : List Ver) : ∀ u ∈ l.flatMap cellV, u.oneCell' = true := by
  intro u hu
  obtain ⟨s, _, hu⟩ := List.mem_flatMap.1 hu
  simp only [cellV, List.mem_cons, List.not_mem_nil, or_false] at hu
  rcases hu with rfl | rfl | rfl <;> rfl
def ownV (w : World) (B : Nat) (v : Value) (vs : List Ver) : Prop := w.ownsRow B 123 3 v vs.length (vs.flatMap cellV)
/-- a row of versions: nil, or a block's head -/
theorem ownV_in {w : World} {B : Nat} {v : Value} {vs : List Ver} (h : ownV w B v vs) : ∃ ao cap, v = .slice ao vs.length cap ∧ versIn w.heap.size w ao cap vs ∧ vs.length ≤ cap ∧ cap ≤ 9223372036854775807 := by
  rcases own_form h with ⟨hv, h0⟩ | ⟨g, cap, hv, _, hl, hc, hm⟩
  · have e : vs = [] := List.length_eq_zero_iff.1 h0
    subst e
    exact ⟨none, 0, hv, .inl ⟨rfl, rfl, rfl⟩, Nat.le_refl _, by omega⟩
  · refine ⟨_, cap, hv, .inr ⟨g, rfl, hl, fun i hi => ?_⟩, hc, by unfold maxLen at hm; omega⟩
    unfold ownV at h
    rw [hv] at h
    exact ⟨(own_get cellV_len h i 0 hi (by omega)).1, (own_get cellV_len h i 1 hi (by omega)).1, (own_get cellV_len h i 2 hi (by omega)).1⟩
/-- a map's element reads as itself -/
def RV (v : Value) : Option (DataW Value × List MemPlace) := some (.held v, [])
def kL (s : ByteArray) : Lit := .string s.data.toList
theorem kL_ne {a b : ByteArray} (h : a ≠ b) : kL a ≠ kL b := fun e => h (by
  unfold kL at e
  simp at e
  exact ByteArray.ext e)
def apV (a b : Value) : Prop := ∀ k, a.ownBlock = some k → b.ownBlock ≠ some k
structure VS (w : World) (B vb mb : Nat) (now : Int) (n : Nat) (D : DataW Value) (g : ByteArray → Value) (R : ByteArray → List Ver) : Prop where
  num : w.cell? ⟨vb, 0, none⟩ = some (.int .i64 now)
  soft : w.frozen? ⟨vb, 0, none⟩ = false
  mp : w.cell? ⟨vb, 1, none⟩ = some (.map (some mb))
  own : w.ownsMap Try.prog 9 RV mb n D
  look : ∀ key, key.size ≤ maxLen → D.atKey (kL key) (.held (.slice none 0 0)) = .held (g key)
  has : ∀ key, key.size ≤ maxLen → (Maps.has D (kL key) = true ↔ R key ≠ [])
  rows : ∀ key, ownV w B (g key) (R key)
  lov : B ≤ vb
  lom : B ≤ mb
  ne : vb ≠ mb
  offv : ∀ key, (g key).ownBlock ≠ some vb
  offm : ∀ key, (g key).ownBlock ≠ some mb
  apart : ∀ a b, a ≠ b → apV (g a) (g b)
/-- a block of it -/
def inVS (vb mb : Nat) (g : ByteArray → Value) (k : Nat) : Prop := k = vb ∨ k = mb ∨ ∃ key, (g key).ownBlock = some k
theorem VS.lt {w : World} {B vb mb n : Nat} {now : Int} {D : DataW Value} {g : ByteArray → Value} {R : ByteArray → List Ver} (h : VS w B vb mb now n D g R) {k : Nat} (hk : inVS vb mb g k) : k < w.heap.size := by
  rcases hk with rfl | rfl | ⟨key, e⟩
  · exact World.block_lt_of_cell? _ _ h.num
  · exact h.own.lt
  · exact (World.ownsRow.lt (h.rows key) k e).2
theorem map_block {w w' : World} {mb n : Nat} {D : DataW Value} (h : w.ownsMap Try.prog 9 RV mb n D) (e : w'.heap[mb]? = w.heap[mb]?) : w'.ownsMap Try.prog 9 RV mb n D := by
  obtain ⟨es, clock, hb, r⟩ := h
  exact ⟨es, clock, e.trans hb, r⟩
theorem VS.kept {w w' : World} {B vb mb n : Nat} {now : Int} {D : DataW Value} {g : ByteArray → Value} {R : ByteArray → List Ver} (h : VS w B vb mb now n D g R) (hk : ∀ k, inVS vb mb g k → w'.heap[k]? = w.heap[k]?) : VS w' B vb mb now n D g R where
  num := (World.cell?_of_block (w := w) (hk vb (.inl rfl))).trans h.num
  soft := (World.frozen?_of_block (w := w) (hk vb (.inl rfl))).trans h.soft
  mp := (World.cell?_of_block (w := w) (hk vb (.inl rfl))).trans h.mp
  own := map_block h.own (hk mb (.inr (.inl rfl)))
  look := h.look
  has := h.has
  rows := fun key => own_block (h.rows key) fun k e => hk k (.inr (.inr ⟨key, e⟩))
  lov := h.lov
  lom := h.lom
  ne := h.ne
  offv := h.offv
  offm := h.offm
  apart := h.apart
theorem VS.on {w w' : World} {B vb mb n : Nat} {now : Int} {D : DataW Value} {g : ByteArray → Value} {R : ByteArray → List Ver} (h : VS w B vb mb now n D g R) (hb : Below w.heap.size w w') : VS w' B vb mb now n D g R := h.kept fun k hk => hb.block k (h.lt hk)
theorem str_keyed : Maps.Keyed Try.prog 9 := Maps.string_keyed Try.underlying9
theorem key_mk {s : ByteArray} (hs : s.size ≤ maxLen) : keyOf Try.prog 9 (.string s) = some (kL s) := Go.WideMaps.keyOf_string_mk Try.underlying9 hs
theorem key_lit (s : ByteArray) : WideAt.IsKeyLit (kL s) := trivial
/-- what the map gives at a key -/
theorem VS.looked {w : World} {B vb mb n : Nat} {now : Int} {D : DataW Value} {g : ByteArray → Value} {R : ByteArray → List Ver} (h : VS w B vb mb now n D g R) {key : ByteArray} (hk : key.size ≤ maxLen) :
    (Instr.lookup 99 (.map (some mb)) (.string key) false).run Try.prog w = .ok (g key) w := by
  obtain ⟨v, ps, hrun, hv⟩ := h.own.lookup str_keyed Try.underlying99 (Try.zeroValue100 w) (zd := .held (.slice none 0 0)) (zp := []) rfl (key_mk hk)
  rw [h.look key hk] at hv
  simp only [RV, Option.some.injEq, Prod.mk.injEq, DataW.held.injEq] at hv
  rw [hv.1] at hrun
  exact hrun
end Go.Proofs.Ytjphbmdmnicjpac
