/-
  Versions of rows by keys, as they lie in memory: a pair of a number and a map from keys to rows of versions, each a row of its own. Nothing of the program's functions is named here.
-/
import Derived.Test.YtpbhcjkllfonhaaVerBehind
import Derived.Test.YtpbhcjkllfonhaaRowG
import Derived.Maps.OwnSet
import Derived.Maps.Views
import Derived.StringKeys
namespace Go.Proofs.Ytpbhcjkllfonhaa
open Go.RowKit Go.Joins

def cellV (x : Ver) : List Value := [.int .i64 x.deed, .string x.val, .bool x.gone]
theorem cellV_len (x : Ver) : (cellV x).length = 3 := rfl
theorem cellV_one (l : List Ver) : ∀ u ∈ l.flatMap cellV, u.oneCell' = true := by
  intro u hu
  obtain ⟨s, _, hu⟩ := List.mem_flatMap.1 hu
  simp only [cellV, List.mem_cons, List.not_mem_nil, or_false] at hu
  rcases hu with rfl | rfl | rfl <;> rfl
def ownV (w : World) (B : Nat) (v : Value) (vs : List Ver) : Prop := w.ownsRow B 64 3 v vs.length (vs.flatMap cellV)
/-- a row of versions: nil, or a block's head -/
theorem ownV_in {w : World} {B : Nat} {v : Value} {vs : List Ver} (h : ownV w B v vs) : ∃ ao cap, v = .slice ao vs.length cap ∧ versIn w.heap.size w ao cap vs ∧ vs.length ≤ cap ∧ cap ≤ 9223372036854775807 := by
  rcases own_form h with ⟨hv, h0⟩ | ⟨g, cap, hv, _, hl, hc, hm⟩
  · have e : vs = [] := List.length_eq_zero_iff.1 h0
    subst e
    exact ⟨none, 0, hv, .inl ⟨rfl, rfl, rfl⟩, Nat.le_refl _, by omega⟩
  · refine ⟨_, cap, hv, .inr ⟨g, rfl, hl, fun i hi => ?_⟩, hc, by unfold maxLen at hm; omega⟩
    unfold ownV at h
    rw [hv] at h
    exact ⟨(own_get cellV_len h i 0 hi (by omega)).1, (own_get cellV_len h i 1 hi (by omega)).1, (own_get cellV_len h i 2 hi (by omega)).1⟩
/-- a map's element reads as itself -/
def RV (v : Value) : Option (DataW Value × List MemPlace) := some (.held v, [])
def kL (s : ByteArray) : Lit := .string s.data.toList
theorem kL_ne {a b : ByteArray} (h : a ≠ b) : kL a ≠ kL b := fun e => h (by
  unfold kL at e
  simp at e
  exact ByteArray.ext e)
def apV (a b : Value) : Prop := ∀ k, a.ownBlock = some k → b.ownBlock ≠ some k
structure VS (w : World) (B vb mb : Nat) (now : Int) (n : Nat) (D : DataW Value) (g : ByteArray → Value) (R : ByteArray → List Ver) : Prop where
  num : w.cell? ⟨vb, 0, none⟩ = some (.int .i64 now)
  soft : w.frozen? ⟨vb, 0, none⟩ = false
  mp : w.cell? ⟨vb, 1, none⟩ = some (.map (some mb))
  own : w.ownsMap Try.prog 9 RV mb n D
  look : ∀ key, key.size ≤ maxLen → D.atKey (kL key) (.held (.slice none 0 0)) = .held (g key)
  has : ∀ key, key.size ≤ maxLen → (Maps.has D (kL key) = true ↔ R key ≠ [])
  rows : ∀ key, ownV w B (g key) (R key)
  lov : B ≤ vb
  lom : B ≤ mb
  ne : vb ≠ mb
  offv : ∀ key, (g key).ownBlock ≠ some vb
  offm : ∀ key, (g key).ownBlock ≠ some mb
  apart : ∀ a b, a ≠ b → apV (g a) (g b)
/-- a block of it -/
def inVS (vb mb : Nat) (g : ByteArray → Value) (k : Nat) : Prop := k = vb ∨ k = mb ∨ ∃ key, (g key).ownBlock = some k
theorem VS.lt {w : World} {B vb mb n : Nat} {now : Int} {D : DataW Value} {g : ByteArray → Value} {R : ByteArray → List Ver} (h : VS w B vb mb now n D g R) {k : Nat} (hk : inVS vb mb g k) : k < w.heap.size := by
  rcases hk with rfl | rfl | ⟨key, e⟩
  · exact World.block_lt_of_cell? _ _ h.num
  · exact h.own.lt
  · exact (World.ownsRow.lt (h.rows key) k e).2
theorem map_block {w w' : World} {mb n : Nat} {D : DataW Value} (h : w.ownsMap Try.prog 9 RV mb n D) (e : w'.heap[mb]? = w.heap[mb]?) : w'.ownsMap Try.prog 9 RV mb n D := by
  obtain ⟨es, clock, hb, r⟩ := h
  exact ⟨es, clock, e.trans hb, r⟩
theorem VS.kept {w w' : World} {B vb mb n : Nat} {now : Int} {D : DataW Value} {g : ByteArray → Value} {R : ByteArray → List Ver} (h : VS w B vb mb now n D g R) (hk : ∀ k, inVS vb mb g k → w'.heap[k]? = w.heap[k]?) : VS w' B vb mb now n D g R where
  num := (World.cell?_of_block (w := w) (hk vb (.inl rfl))).trans h.num
  soft := (World.frozen?_of_block (w := w) (hk vb (.inl rfl))).trans h.soft
  mp := (World.cell?_of_block (w := w) (hk vb (.inl rfl))).trans h.mp
  own := map_block h.own (hk mb (.inr (.inl rfl)))
  look := h.look
  has := h.has
  rows := fun key => own_block (h.rows key) fun k e => hk k (.inr (.inr ⟨key, e⟩))
  lov := h.lov
  lom := h.lom
  ne := h.ne
  offv := h.offv
  offm := h.offm
  apart := h.apart
theorem VS.on {w w' : World} {B vb mb n : Nat} {now : Int} {D : DataW Value} {g : ByteArray → Value} {R : ByteArray → List Ver} (h : VS w B vb mb now n D g R) (hb : Below w.heap.size w w') : VS w' B vb mb now n D g R := h.kept fun k hk => hb.block k (h.lt hk)
theorem str_keyed : Maps.Keyed Try.prog 9 := Maps.string_keyed Try.underlying9
theorem key_mk {s : ByteArray} (hs : s.size ≤ maxLen) : keyOf Try.prog 9 (.string s) = some (kL s) := Go.WideMaps.keyOf_string_mk Try.underlying9 hs
theorem key_lit (s : ByteArray) : WideAt.IsKeyLit (kL s) := trivial
/-- what the map gives at a key -/
theorem VS.looked {w : World} {B vb mb n : Nat} {now : Int} {D : DataW Value} {g : ByteArray → Value} {R : ByteArray → List Ver} (h : VS w B vb mb now n D g R) {key : ByteArray} (hk : key.size ≤ maxLen) :
    (Instr.lookup 60 (.map (some mb)) (.string key) false).run Try.prog w = .ok (g key) w := by
  obtain ⟨v, ps, hrun, hv⟩ := h.own.lookup str_keyed Try.underlying60 (Try.zeroValue65 w) (zd := .held (.slice none 0 0)) (zp := []) rfl (key_mk hk)
  rw [h.look key hk] at hv
  simp only [RV, Option.some.injEq, Prod.mk.injEq, DataW.held.injEq] at hv
  rw [hv.1] at hrun
  exact hrun
end Go.Proofs.Ytpbhcjkllfonhaa

/-
  One version more of a row: what becomes of versions in memory. Nothing of the program's functions is named here.
-/
namespace Go.Proofs.Ytpbhcjkllfonhaa
open Go.RowKit Go.Joins

def putG {α : Type} (g : ByteArray → α) (key : ByteArray) (v : α) : ByteArray → α := fun k => if k = key then v else g k
theorem putG_same {α : Type} (g : ByteArray → α) (key : ByteArray) (v : α) : putG g key v key = v := by simp [putG]
theorem putG_other {α : Type} (g : ByteArray → α) {key k : ByteArray} (v : α) (h : k ≠ key) : putG g key v k = g k := by simp [putG, h]
theorem VS.put {W w3 w4 : World} {B vb mb n gk ck : Nat} {now : Int} {D : DataW Value} {g : ByteArray → Value} {R : ByteArray → List Ver} {key : ByteArray} {x : Ver} (h : VS W B vb mb now n D g R) (hk : key.size ≤ maxLen) (hB : B ≤ W.heap.size)
    (hg : W.grownBy w3 (g key).ownBlock) (ho : ownV w3 B (.slice (some ⟨gk, 0, none⟩) ((R key).length + 1) ck) (R key ++ [x])) (hat : (g key).ownBlock = some gk ∨ gk = W.heap.size)
    (hm : w4.ownsMap Try.prog 9 RV mb (n + 1) (D.put (kL key) (.held (.slice (some ⟨gk, 0, none⟩) ((R key).length + 1) ck)))) (hg4 : w3.grownBy w4 (some mb)) :
    VS w4 B vb mb now (n + 1) (D.put (kL key) (.held (.slice (some ⟨gk, 0, none⟩) ((R key).length + 1) ck))) (putG g key (.slice (some ⟨gk, 0, none⟩) ((R key).length + 1) ck)) (putG R key (R key ++ [x])) ∧ Below B W w4 ∧
    (∀ j, j < W.heap.size → ¬ inVS vb mb g j → w4.heap[j]? = W.heap[j]? ∧ ¬ inVS vb mb (putG g key (.slice (some ⟨gk, 0, none⟩) ((R key).length + 1) ck)) j) := by
  have hv0 := h.lt (k := vb) (.inl rfl)
  have hm0 := h.lt (k := mb) (.inr (.inl rfl))
  have hmap := h.own.isMap
  have hgv : gk ≠ vb := by
    rcases hat with e | e
    · exact fun e' => h.offv key (by rw [e, e'])
    · omega
  have hgm : gk ≠ mb := by
    rcases hat with e | e
    · exact fun e' => h.offm key (by rw [e, e'])
    · omega
  have hgl : gk < w3.heap.size := (World.ownsRow.lt ho gk rfl).2
  have b3 : ∀ j, j < W.heap.size → some j ≠ (g key).ownBlock → w3.heap[j]? = W.heap[j]? := fun j h1 h2 => hg.block j h1 h2
  have b4 : ∀ j, j < w3.heap.size → j ≠ mb → w4.heap[j]? = w3.heap[j]? := fun j h1 h2 => hg4.block j h1 (fun e => h2 (by cases e; rfl))
  have bv : w4.heap[vb]? = W.heap[vb]? := (b4 vb (Nat.lt_of_lt_of_le hv0 hg.size) h.ne).trans (b3 vb hv0 (Ne.symm (h.offv key)))
  have other : ∀ k, k ≠ key → ∀ j, (g k).ownBlock = some j → w4.heap[j]? = W.heap[j]? := fun k hne j hj => by
    have hjl := (World.ownsRow.lt (h.rows k) j hj).2
    exact (b4 j (Nat.lt_of_lt_of_le hjl hg.size) (fun e => h.offm k (by rw [hj, e]))).trans (b3 j hjl (fun e => h.apart k key hne j hj e.symm))
  have gko : ∀ k, k ≠ key → (g k).ownBlock ≠ some gk := fun k hne e => by
    rcases hat with e' | e'
    · exact h.apart k key hne gk e e'
    · have := (World.ownsRow.lt (h.rows k) gk e).2; omega
  refine ⟨{ num := ?_, soft := ?_, mp := ?_, own := hm, look := ?_, has := ?_, rows := ?_, lov := h.lov, lom := h.lom, ne := h.ne, offv := ?_, offm := ?_, apart := ?_ }, ?_, ?_⟩
  · exact (World.cell?_of_block (w := W) bv).trans h.num
  · exact (World.frozen?_of_block (w := W) bv).trans h.soft
  · exact (World.cell?_of_block (w := W) bv).trans h.mp
  · intro k hkl
    by_cases e : k = key
    · subst e; rw [putG_same, Maps.atKey_put_same hmap (key_lit k)]
    · rw [putG_other _ _ e, Maps.atKey_put_other (kL_ne e)]; exact h.look k hkl
  · intro k hkl
    by_cases e : k = key
    · subst e; rw [putG_same, Maps.has_put_same hmap (key_lit k)]; simp
    · rw [putG_other _ _ e, Maps.has_put_other (kL_ne e)]; exact h.has k hkl
  · intro k
    by_cases e : k = key
    · subst e
      rw [putG_same, putG_same]
      exact own_block ho fun j hj => by
        simp [Value.ownBlock] at hj
        subst hj
        exact b4 _ hgl hgm
    · rw [putG_other _ _ e, putG_other _ _ e]
      exact own_block (h.rows k) fun j hj => other k e j hj
  · intro k
    by_cases e : k = key
    · subst e; rw [putG_same]; simpa [Value.ownBlock] using hgv
    · rw [putG_other _ _ e]; exact h.offv k
  · intro k
    by_cases e : k = key
    · subst e; rw [putG_same]; simpa [Value.ownBlock] using hgm
    · rw [putG_other _ _ e]; exact h.offm k
  · intro a b hab
    by_cases ea : a = key
    · subst ea
      rw [putG_same, putG_other _ _ (Ne.symm hab)]
      intro j hj
      simp [Value.ownBlock] at hj
      subst hj
      exact gko b (Ne.symm hab)
    · rw [putG_other _ _ ea]
      by_cases eb : b = key
      · subst eb
        rw [putG_same]
        intro j hj e
        simp [Value.ownBlock] at e
        subst e
        exact gko a ea hj
      · rw [putG_other _ _ eb]; exact h.apart a b hab
  · exact ((Below.refl B W).grown hg hB (fun k e => (World.ownsRow.lt (h.rows key) k e).1)).grown hg4 (Nat.le_trans hB hg.size) (fun k e => by cases e; exact h.lom)
  · intro j h1 h2
    have n1 : j ≠ mb := fun e => h2 (.inr (.inl e))
    have n2 : some j ≠ (g key).ownBlock := fun e => h2 (.inr (.inr ⟨key, e.symm⟩))
    refine ⟨(b4 j (Nat.lt_of_lt_of_le h1 hg.size) n1).trans (b3 j h1 n2), ?_⟩
    rintro (e | e | ⟨k, e⟩)
    · exact h2 (.inl e)
    · exact h2 (.inr (.inl e))
    · by_cases ek : k = key
      · subst ek
        rw [putG_same] at e
        simp [Value.ownBlock] at e
        subst e
        rcases hat with e' | e'
        · exact n2 e'.symm
        · omega
      · rw [putG_other _ _ ek] at e
        exact h2 (.inr (.inr ⟨k, e⟩))
end Go.Proofs.Ytpbhcjkllfonhaa
