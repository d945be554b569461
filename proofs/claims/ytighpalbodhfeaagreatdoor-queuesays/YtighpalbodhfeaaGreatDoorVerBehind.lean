/-
  What versions.behind returns of versions that lie in memory: the value of a row behind a deed, and whether it is there. Nothing that was there is changed.
-/
import Derived.Test.YtighpalbodhfeaaGreatDoorVerLast
import Derived.Test.YtighpalbodhfeaaGreatDoorSpOn
import Derived.Maps.OwnSet
import Derived.Maps.Views
import Derived.StringKeys
import Derived.Test.YtighpalbodhfeaaGreatDoorChgMem
namespace Go.Proofs.YtighpalbodhfeaaGreatDoor
open Go.RowKit Go.Joins

/-- the last version up to a deed -/
def lastV (vs : List Ver) (n : Int) : Option Ver := vs.reverse.find? fun x => decide (x.deed ≤ n)
def behindV (vs : List Ver) (n : Int) : ByteArray × Bool := match lastV vs n with
  | some x => if x.gone then (⟨#[]⟩, false) else (x.val, true)
  | none => (⟨#[]⟩, false)
theorem last_cases (vs : List Ver) (n : Int) : (lastP vs n = -1 ∧ lastV vs n = none) ∨ ∃ p, lastP vs n = ((p : Nat) : Int) ∧ ∃ h : p < vs.length, lastV vs n = some vs[p] := by
  unfold lastP lastV
  cases hf : vs.reverse.findIdx? (fun x => decide (x.deed ≤ n)) with
  | none =>
    left
    refine ⟨rfl, ?_⟩
    rw [List.find?_eq_none]
    exact fun x hx => by have := List.findIdx?_eq_none_iff.1 hf x hx; simpa using this
  | some j =>
    right
    obtain ⟨hj, hp, hlt⟩ := List.findIdx?_eq_some_iff_getElem.1 hf
    have hj' : j < vs.length := by simpa using hj
    refine ⟨vs.length - 1 - j, by show (vs.length : Int) - 1 - (j : Int) = _; omega, by omega, ?_⟩
    rw [List.find?_eq_some_iff_getElem]
    refine ⟨by rw [List.getElem_reverse] at hp; simpa using hp, j, hj, ?_, fun i hi => by have := hlt i hi; simpa using this⟩
    rw [List.getElem_reverse]

set_option maxHeartbeats 1000000 in
theorem behind_any (ao : Option Addr) (cap : Nat) (vs : List Ver) (n : Int) (w : World) (hlen : vs.length ≤ 1000000) (hI : versIn w.heap.size w ao cap vs) :
    Calls Tryz.prog 115 #[.slice ao vs.length cap, .int .i64 n] w fun e W' => e = .returned (.tuple #[.string (behindV vs n).1, .bool (behindV vs n).2]) ∧ Below w.heap.size w W' := by
  rcases last_cases vs n with ⟨hl, hv⟩ | ⟨p, hl, hp, hv⟩
  · have HL := hide hl
    have HB : Hid (behindV vs n = (⟨#[]⟩, false)) := by unfold Hid behindV; rw [hv]
    clear hl hv
    go_enter Tryz.func115, Tryz.ntmps115
    go_wp2_with (go_at_call 137; refine (last_any ao cap vs n _ hlen hI).mono ?_; rintro e w1 ⟨rfl, hb⟩; rw [HL.out])
    go_ret2
    exact ⟨by rw [HB.out]; rfl, hb⟩
  · rcases hI with ⟨_, _, e⟩ | ⟨b, rfl, hb0, hc⟩
    · rw [e] at hp; simp at hp
    · obtain ⟨d0, d1, d2⟩ := hc p hp
      have hp0 : ¬ ((p : Int) < 0) := by omega
      have hp1 : (p : Int) < (vs.length : Int) := by omega
      have HL := hide hl
      have HI : Hid (versIn w.heap.size w (some ⟨b, 0, none⟩) cap vs) := .inr ⟨b, rfl, hb0, hc⟩
      cases hg : vs[p].gone with
      | true =>
        have HB : Hid (behindV vs n = (⟨#[]⟩, false)) := by unfold Hid behindV; rw [hv]; simp [hg]
        rw [hg] at d2
        clear hl hv hg hc
        go_enter Tryz.func115, Tryz.ntmps115
        go_wp2_with (go_at_call 137; refine (last_any _ cap vs n _ hlen HI.out).mono ?_; rintro e w1 ⟨rfl, hb⟩; rw [HL.out]; have k2 := cell_on hb d2)
        go_ret2
        exact ⟨by rw [HB.out]; rfl, hb⟩
      | false =>
        have HB : Hid (behindV vs n = (vs[p].val, true)) := by unfold Hid behindV; rw [hv]; simp [hg]
        rw [hg] at d2
        clear hl hv hg hc
        go_enter Tryz.func115, Tryz.ntmps115
        go_wp2_with (go_at_call 137; refine (last_any _ cap vs n _ hlen HI.out).mono ?_; rintro e w1 ⟨rfl, hb⟩; rw [HL.out]; have k1 := cell_on hb d1; have k2 := cell_on hb d2)
        go_ret2
        exact ⟨by rw [HB.out]; rfl, hb⟩
end Go.Proofs.YtighpalbodhfeaaGreatDoor

/-
  Versions of rows by keys, as they lie in memory: a pair of a number and a map from keys to rows of versions, each a row of its own. Nothing of the program's functions is named here.
-/
namespace Go.Proofs.YtighpalbodhfeaaGreatDoor
open Go.RowKit Go.Joins

def cellV (x : Ver) : List Value := [.int .i64 x.deed, .string x.val, .bool x.gone]
theorem cellV_len (x : Ver) : (cellV x).length = 3 := rfl
theorem cellV_one (l : List Ver) : ∀ u ∈ l.flatMap cellV, u.oneCell' = true := by
  intro u hu
  obtain ⟨s, _, hu⟩ := List.mem_flatMap.1 hu
  simp only [cellV, List.mem_cons, List.not_mem_nil, or_false] at hu
  rcases hu with rfl | rfl | rfl <;> rfl
def ownV (w : World) (B : Nat) (v : Value) (vs : List Ver) : Prop := w.ownsRow B 64 3 v vs.length (vs.flatMap cellV)
/-- a row of versions: nil, or a block's head -/
theorem ownV_in {w : World} {B : Nat} {v : Value} {vs : List Ver} (h : ownV w B v vs) : ∃ ao cap, v = .slice ao vs.length cap ∧ versIn w.heap.size w ao cap vs ∧ vs.length ≤ cap ∧ cap ≤ 9223372036854775807 := by
  rcases own_form h with ⟨hv, h0⟩ | ⟨g, cap, hv, _, hl, hc, hm⟩
  · have e : vs = [] := List.length_eq_zero_iff.1 h0
    subst e
    exact ⟨none, 0, hv, .inl ⟨rfl, rfl, rfl⟩, Nat.le_refl _, by omega⟩
  · refine ⟨_, cap, hv, .inr ⟨g, rfl, hl, fun i hi => ?_⟩, hc, by unfold maxLen at hm; omega⟩
    unfold ownV at h
    rw [hv] at h
    exact ⟨(own_get cellV_len h i 0 hi (by omega)).1, (own_get cellV_len h i 1 hi (by omega)).1, (own_get cellV_len h i 2 hi (by omega)).1⟩
/-- a map's element reads as itself -/
def RV (v : Value) : Option (DataW Value × List MemPlace) := some (.held v, [])
def kL (s : ByteArray) : Lit := .string s.data.toList
theorem kL_ne {a b : ByteArray} (h : a ≠ b) : kL a ≠ kL b := fun e => h (by
  unfold kL at e
  simp at e
  exact ByteArray.ext e)
def apV (a b : Value) : Prop := ∀ k, a.ownBlock = some k → b.ownBlock ≠ some k
structure VS (w : World) (B vb mb : Nat) (now : Int) (n : Nat) (D : DataW Value) (g : ByteArray → Value) (R : ByteArray → List Ver) : Prop where
  num : w.cell? ⟨vb, 0, none⟩ = some (.int .i64 now)
  soft : w.frozen? ⟨vb, 0, none⟩ = false
  mp : w.cell? ⟨vb, 1, none⟩ = some (.map (some mb))
  own : w.ownsMap Tryz.prog 9 RV mb n D
  look : ∀ key, key.size ≤ maxLen → D.atKey (kL key) (.held (.slice none 0 0)) = .held (g key)
  has : ∀ key, key.size ≤ maxLen → (Maps.has D (kL key) = true ↔ R key ≠ [])
  rows : ∀ key, ownV w B (g key) (R key)
  lov : B ≤ vb
  lom : B ≤ mb
  ne : vb ≠ mb
  offv : ∀ key, (g key).ownBlock ≠ some vb
  offm : ∀ key, (g key).ownBlock ≠ some mb
  apart : ∀ a b, a ≠ b → apV (g a) (g b)
/-- a block of it -/
def inVS (vb mb : Nat) (g : ByteArray → Value) (k : Nat) : Prop := k = vb ∨ k = mb ∨ ∃ key, (g key).ownBlock = some k
theorem VS.lt {w : World} {B vb mb n : Nat} {now : Int} {D : DataW Value} {g : ByteArray → Value} {R : ByteArray → List Ver} (h : VS w B vb mb now n D g R) {k : Nat} (hk : inVS vb mb g k) : k < w.heap.size := by
  rcases hk with rfl | rfl | ⟨key, e⟩
  · exact World.block_lt_of_cell? _ _ h.num
  · exact h.own.lt
  · exact (World.ownsRow.lt (h.rows key) k e).2
theorem map_block {w w' : World} {mb n : Nat} {D : DataW Value} (h : w.ownsMap Tryz.prog 9 RV mb n D) (e : w'.heap[mb]? = w.heap[mb]?) : w'.ownsMap Tryz.prog 9 RV mb n D := by
  obtain ⟨es, clock, hb, r⟩ := h
  exact ⟨es, clock, e.trans hb, r⟩
theorem VS.kept {w w' : World} {B vb mb n : Nat} {now : Int} {D : DataW Value} {g : ByteArray → Value} {R : ByteArray → List Ver} (h : VS w B vb mb now n D g R) (hk : ∀ k, inVS vb mb g k → w'.heap[k]? = w.heap[k]?) : VS w' B vb mb now n D g R where
  num := (World.cell?_of_block (w := w) (hk vb (.inl rfl))).trans h.num
  soft := (World.frozen?_of_block (w := w) (hk vb (.inl rfl))).trans h.soft
  mp := (World.cell?_of_block (w := w) (hk vb (.inl rfl))).trans h.mp
  own := map_block h.own (hk mb (.inr (.inl rfl)))
  look := h.look
  has := h.has
  rows := fun key => own_block (h.rows key) fun k e => hk k (.inr (.inr ⟨key, e⟩))
  lov := h.lov
  lom := h.lom
  ne := h.ne
  offv := h.offv
  offm := h.offm
  apart := h.apart
theorem VS.on {w w' : World} {B vb mb n : Nat} {now : Int} {D : DataW Value} {g : ByteArray → Value} {R : ByteArray → List Ver} (h : VS w B vb mb now n D g R) (hb : Below w.heap.size w w') : VS w' B vb mb now n D g R := h.kept fun k hk => hb.block k (h.lt hk)
theorem str_keyed : Maps.Keyed Tryz.prog 9 := Maps.string_keyed Tryz.underlying9
theorem key_mk {s : ByteArray} (hs : s.size ≤ maxLen) : keyOf Tryz.prog 9 (.string s) = some (kL s) := Go.WideMaps.keyOf_string_mk Tryz.underlying9 hs
theorem key_lit (s : ByteArray) : WideAt.IsKeyLit (kL s) := trivial
/-- what the map gives at a key -/
theorem VS.looked {w : World} {B vb mb n : Nat} {now : Int} {D : DataW Value} {g : ByteArray → Value} {R : ByteArray → List Ver} (h : VS w B vb mb now n D g R) {key : ByteArray} (hk : key.size ≤ maxLen) :
    (Instr.lookup 60 (.map (some mb)) (.string key) false).run Tryz.prog w = .ok (g key) w := by
  obtain ⟨v, ps, hrun, hv⟩ := h.own.lookup str_keyed Tryz.underlying60 (Tryz.zeroValue65 w) (zd := .held (.slice none 0 0)) (zp := []) rfl (key_mk hk)
  rw [h.look key hk] at hv
  simp only [RV, Option.some.injEq, Prod.mk.injEq, DataW.held.injEq] at hv
  rw [hv.1] at hrun
  exact hrun
end Go.Proofs.YtighpalbodhfeaaGreatDoor

/-
  A view as it lies in memory: what it is a view of, since when, its changes and what it has read, each list a row of its own. Nothing of the program's functions is named here.
-/
namespace Go.Proofs.YtighpalbodhfeaaGreatDoor
open Go.RowKit Go.Joins

theorem own_shape {w : World} {B : Nat} {e : TypeId} {size : Nat} {v : Value} {n : Nat} {xs : List Value} (h : w.ownsRow B e size v n xs) : ∃ ao cap, v = .slice ao n cap := by
  rcases own_form h with ⟨hv, h0⟩ | ⟨g, cap, hv, _⟩
  · exact ⟨none, 0, by rw [h0]; exact hv⟩
  · exact ⟨_, cap, hv⟩
structure VW (w : World) (B wb vb : Nat) (since : Int) (cv rv : Value) (chs : List Chg) (rds : List (ByteArray × ByteArray)) : Prop where
  c0 : w.cell? ⟨wb, 0, none⟩ = some (.pointer (some ⟨vb, 0, none⟩))
  c1 : w.cell? ⟨wb, 1, none⟩ = some (.int .i64 since)
  c2 : w.cell? ⟨wb, 2, none⟩ = some cv
  c3 : w.cell? ⟨wb, 3, none⟩ = some rv
  soft : ∀ j, w.frozen? ⟨wb, j, none⟩ = false
  chs : ownCh w B cv chs
  rds : ownSp w B rv rds
  lo : B ≤ wb
  nc : cv.ownBlock ≠ some wb
  nr : rv.ownBlock ≠ some wb
  ap : apV cv rv
/-- a block of it -/
def inVW (wb : Nat) (cv rv : Value) (k : Nat) : Prop := k = wb ∨ cv.ownBlock = some k ∨ rv.ownBlock = some k
theorem VW.lt {w : World} {B wb vb : Nat} {since : Int} {cv rv : Value} {chs : List Chg} {rds : List (ByteArray × ByteArray)} (h : VW w B wb vb since cv rv chs rds) {k : Nat} (hk : inVW wb cv rv k) : k < w.heap.size := by
  rcases hk with rfl | e | e
  · exact World.block_lt_of_cell? _ _ h.c0
  · exact (World.ownsRow.lt h.chs k e).2
  · exact (World.ownsRow.lt h.rds k e).2
theorem VW.low {w : World} {B wb vb : Nat} {since : Int} {cv rv : Value} {chs : List Chg} {rds : List (ByteArray × ByteArray)} (h : VW w B wb vb since cv rv chs rds) {k : Nat} (hk : inVW wb cv rv k) : B ≤ k := by
  rcases hk with rfl | e | e
  · exact h.lo
  · exact (World.ownsRow.lt h.chs k e).1
  · exact (World.ownsRow.lt h.rds k e).1
theorem VW.kept {w w' : World} {B wb vb : Nat} {since : Int} {cv rv : Value} {chs : List Chg} {rds : List (ByteArray × ByteArray)} (h : VW w B wb vb since cv rv chs rds) (hk : ∀ k, inVW wb cv rv k → w'.heap[k]? = w.heap[k]?) : VW w' B wb vb since cv rv chs rds where
  c0 := (World.cell?_of_block (w := w) (hk wb (.inl rfl))).trans h.c0
  c1 := (World.cell?_of_block (w := w) (hk wb (.inl rfl))).trans h.c1
  c2 := (World.cell?_of_block (w := w) (hk wb (.inl rfl))).trans h.c2
  c3 := (World.cell?_of_block (w := w) (hk wb (.inl rfl))).trans h.c3
  soft := fun j => (World.frozen?_of_block (w := w) (hk wb (.inl rfl))).trans (h.soft j)
  chs := own_block h.chs fun k e => hk k (.inr (.inl e))
  rds := own_block h.rds fun k e => hk k (.inr (.inr e))
  lo := h.lo
  nc := h.nc
  nr := h.nr
  ap := h.ap
theorem VW.on {w w' : World} {B wb vb : Nat} {since : Int} {cv rv : Value} {chs : List Chg} {rds : List (ByteArray × ByteArray)} (h : VW w B wb vb since cv rv chs rds) (hb : Below w.heap.size w w') : VW w' B wb vb since cv rv chs rds := h.kept fun k hk => hb.block k (h.lt hk)
/-- other changes, of a row that is none of the others -/
theorem VW.setC {w : World} {B wb vb : Nat} {since : Int} {cv rv cv' : Value} {chs chs' : List Chg} {rds : List (ByteArray × ByteArray)} (h : VW w B wb vb since cv rv chs rds) (ho : ownCh w B cv' chs') (hf : ∀ k, cv'.ownBlock = some k → ¬ inVW wb cv rv k) :
    VW (w.setCell ⟨wb, 2, none⟩ cv') B wb vb since cv' rv chs' rds where
  c0 := (World.cell?_setCell_other _ _ _ _ (by simp)).trans h.c0
  c1 := (World.cell?_setCell_other _ _ _ _ (by simp)).trans h.c1
  c2 := World.cell?_setCell_same _ _ _ h.c2
  c3 := (World.cell?_setCell_other _ _ _ _ (by simp)).trans h.c3
  soft := fun j => by rw [World.frozen?_setCell]; exact h.soft j
  chs := own_block ho fun k e => Below.heap_setCell _ _ _ _ (fun e' => hf k e (.inl e'))
  rds := own_block h.rds fun k e => Below.heap_setCell _ _ _ _ (fun e' => h.nr (by rw [e, e']))
  lo := h.lo
  nc := fun e => hf wb e (.inl rfl)
  nr := h.nr
  ap := fun k e e' => hf k e (.inr (.inr e'))
/-- what is read told anew: its row has grown, or is another one -/
theorem VW.setR {w w3 : World} {B wb vb : Nat} {since : Int} {cv rv rv' : Value} {chs : List Chg} {rds rds' : List (ByteArray × ByteArray)} (h : VW w B wb vb since cv rv chs rds) (hg : w.grownBy w3 rv.ownBlock) (ho : ownSp w3 B rv' rds') (hf : ∀ k, rv'.ownBlock = some k → rv.ownBlock = some k ∨ w.heap.size ≤ k) :
    VW (w3.setCell ⟨wb, 3, none⟩ rv') B wb vb since cv rv' chs rds' := by
  have bw : w3.heap[wb]? = w.heap[wb]? := hg.block wb (h.lt (.inl rfl)) (Ne.symm h.nr)
  have nw : ∀ k, rv'.ownBlock = some k → k ≠ wb := fun k e e' => by
    rcases hf k e with e2 | e2
    · exact h.nr (by rw [e2, e'])
    · have := h.lt (k := wb) (.inl rfl); omega
  exact {
    c0 := (World.cell?_setCell_other _ _ _ _ (by simp)).trans ((World.cell?_of_block (w := w) bw).trans h.c0)
    c1 := (World.cell?_setCell_other _ _ _ _ (by simp)).trans ((World.cell?_of_block (w := w) bw).trans h.c1)
    c2 := (World.cell?_setCell_other _ _ _ _ (by simp)).trans ((World.cell?_of_block (w := w) bw).trans h.c2)
    c3 := World.cell?_setCell_same _ _ _ ((World.cell?_of_block (w := w) bw).trans h.c3)
    soft := fun j => by rw [World.frozen?_setCell]; exact (World.frozen?_of_block (w := w) bw).trans (h.soft j)
    chs := own_block h.chs fun k e => (Below.heap_setCell _ _ _ _ (fun e' => h.nc (by rw [e, e']))).trans (hg.block k (World.ownsRow.lt h.chs k e).2 (fun e' => h.ap k e e'.symm))
    rds := own_block ho fun k e => Below.heap_setCell _ _ _ _ (nw k e)
    lo := h.lo
    nc := h.nc
    nr := fun e => nw wb e rfl
    ap := fun k e e' => by
      rcases hf k e' with e2 | e2
      · exact h.ap k e e2
      · have := (World.ownsRow.lt h.chs k e).2; omega }
theorem VW.down {w : World} {B B' wb vb : Nat} {since : Int} {cv rv : Value} {chs : List Chg} {rds : List (ByteArray × ByteArray)} (h : VW w B wb vb since cv rv chs rds) (hB : B' ≤ B) : VW w B' wb vb since cv rv chs rds :=
  ⟨h.c0, h.c1, h.c2, h.c3, h.soft, ownCh_le h.chs hB, ownsRow_le h.rds hB, Nat.le_trans hB h.lo, h.nc, h.nr, h.ap⟩
/-- what is left alone: all that is none of its blocks -/
def farW (w w' : World) (wb : Nat) (cv rv cv' rv' : Value) : Prop := ∀ j, j < w.heap.size → ¬ inVW wb cv rv j → w'.heap[j]? = w.heap[j]? ∧ ¬ inVW wb cv' rv' j
theorem farW.refl (w : World) (wb : Nat) (cv rv : Value) : farW w w wb cv rv cv rv := fun _ _ h => ⟨rfl, h⟩
theorem farW.trans {w w1 w2 : World} {wb : Nat} {cv rv cv1 rv1 cv2 rv2 : Value} (h : farW w w1 wb cv rv cv1 rv1) (hs : w.heap.size ≤ w1.heap.size) (h' : farW w1 w2 wb cv1 rv1 cv2 rv2) : farW w w2 wb cv rv cv2 rv2 := fun j hj hn => by
  obtain ⟨a, b⟩ := h j hj hn
  obtain ⟨c, d⟩ := h' j (Nat.lt_of_lt_of_le hj hs) b
  exact ⟨c.trans a, d⟩
theorem farW.on {w w' : World} {wb : Nat} {cv rv : Value} (hb : Below w.heap.size w w') : farW w w' wb cv rv cv rv := fun j hj hn => ⟨hb.block j hj, hn⟩
theorem farW.setC {w : World} {wb : Nat} {cv rv cv' : Value} {n : Nat} (hf : ∀ k, cv'.ownBlock = some k → n ≤ k) {u : Value} : ∀ j, j < n → ¬ inVW wb cv rv j → (w.setCell ⟨wb, 2, none⟩ u).heap[j]? = w.heap[j]? ∧ ¬ inVW wb cv' rv j := fun j hj hn => by
  refine ⟨Below.heap_setCell _ _ _ _ (fun e => hn (.inl e)), ?_⟩
  rintro (e | e | e)
  · exact hn (.inl e)
  · have := hf j e; omega
  · exact hn (.inr (.inr e))
theorem VS_farW {w w' : World} {B vb mb n wb : Nat} {now : Int} {D : DataW Value} {g : ByteArray → Value} {R : ByteArray → List Ver} {cv rv cv' rv' : Value} (h : VS w B vb mb now n D g R) (hf : farW w w' wb cv rv cv' rv') (ha : ∀ k, inVS vb mb g k → ¬ inVW wb cv rv k) : VS w' B vb mb now n D g R ∧ ∀ k, inVS vb mb g k → ¬ inVW wb cv' rv' k :=
  ⟨h.kept fun k hk => (hf k (h.lt hk) (ha k hk)).1, fun k hk => (hf k (h.lt hk) (ha k hk)).2⟩
theorem VW_farW {w w' : World} {B vb wb ob : Nat} {since : Int} {chs : List Chg} {rds : List (ByteArray × ByteArray)} {co ro cv rv cv' rv' : Value} (h : VW w B ob vb since co ro chs rds) (hf : farW w w' wb cv rv cv' rv') (ha : ∀ k, inVW ob co ro k → ¬ inVW wb cv rv k) : VW w' B ob vb since co ro chs rds ∧ ∀ k, inVW ob co ro k → ¬ inVW wb cv' rv' k :=
  ⟨h.kept fun k hk => (hf k (h.lt hk) (ha k hk)).1, fun k hk => (hf k (h.lt hk) (ha k hk)).2⟩
end Go.Proofs.YtighpalbodhfeaaGreatDoor
