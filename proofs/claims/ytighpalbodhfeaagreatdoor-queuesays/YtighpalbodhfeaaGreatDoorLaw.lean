/-
  What every law's row asks behind the call, out of one fact: the call returned true, and all that was there is there. Nothing of the program's functions is named here.
-/
import Derived.Test.YtighpalbodhfeaaGreatDoorBase
import Derived.ProofKit
import Derived.OpenShut
import Derived.Test.YtighpalbodhfeaaGreatDoorRefPut0
import Derived.Deep.SlicePairs
import Derived.Test.YtighpalbodhfeaaGreatDoorRowKeys
import Derived.Lib.LaidTab
import Derived.Test.YtighpalbodhfeaaGreatDoorRowErr
import Derived.Test.YtighpalbodhfeaaGreatDoorRows
namespace Go.Proofs.YtighpalbodhfeaaGreatDoor
open Go.ChangeShapes Go.WideShapes Go.ChangeAt Go.RowKit

theorem Tryz.own : ownKnob Tryz.prog.godebug = none := by kernel_rfl
theorem Tryz.laidOut : laidOutB Tryz.prog = true := by kernel_rfl

/-- all arguments read behind the call as they did -/
theorem trodAll_on {H : Type} {enc : TypeId × Value → H} {P : Program} (hl : laidOutB P = true) {W W' : World} (hb : Below W.heap.size W W') :
    ∀ (ts : List TypeId) (vs : List Value) (ds : List (DataW H)) (ps : List MemPlace), (∀ t ∈ ts, P.readableRec t = true ∧ t < P.types.size) →
      DataW.TrodAll enc P W 0 (fun _ => true) true ts vs ds ps → (∀ x ∈ ps, x.block < W.heap.size) →
      DataW.TrodAll enc P W' 0 (fun b => decide (b < W.heap.size)) true ts vs ds ps
  | [], vs, ds, ps, _, h, _ => by
    obtain ⟨rfl, rfl, rfl⟩ := trodAll_nil h
    exact trodAll_mk0
  | t :: ts, vs, ds, ps, hr, h, hlt => by
    obtain ⟨v, vs', d, ds', p, q, rfl, rfl, rfl, h0, r0⟩ := trodAll_cons h
    exact trodAll_cons_mk (Below.trod hl (hr t (by simp)).1 (hr t (by simp)).2 h0 hb (fun x hx => hlt x (by simp [hx])))
      (trodAll_on hl hb ts vs' ds' q (fun t' ht => hr t' (by simp [ht])) r0 (fun x hx => hlt x (by simp [hx])))

/-- the row's post of a law over no variable -/
theorem law_post {H : Type} {enc : TypeId × Value → H} {P : Program} {f : Func} {s : ChangeSpec} {tb : TypeId} {W W' : World} {args : Array Value} {ds gs : List (DataW H)} {before : List MemPlace}
    (hl : laidOutB P = true) (hrt : f.resultTypes = #[tb]) (htb : P.underlying tb = some .bool) (hv : s.vars = [])
    (hrd : ∀ t ∈ f.params.toList, P.readableRec t = true ∧ t < P.types.size)
    (hW : DataW.Whole enc P f.params.toList s.vars false W args.toList ds gs before) (hs : s.fn H (ds ++ gs) = { results := [.lit (.bool true)], args := ds }) (hb : Below W.heap.size W W') :
    s.post enc P f false true false false W args (.bool true) W' := by
  have hlt : ∀ x ∈ before, x.block < W.heap.size := fun x hx => hW.lt x hx
  have hW' := hW
  obtain ⟨p, q, hA, hV, rfl, _, _⟩ := hW
  rw [hv] at hV
  obtain ⟨rfl, rfl⟩ := trodVars_none hV
  refine ⟨ds, [], p ++ [], [], p, [], hW', ?_, ?_, ?_, hb.frame _, fun h => by cases h⟩
  · rw [hs, hrt]; exact trodAll_mk1 (shut_bool htb true)
  · rw [hs]; exact trodAll_on hl hb _ _ _ _ hrd hA (fun x hx => hlt x (by simp [hx]))
  · rw [hs, hv]; rfl
end Go.Proofs.YtighpalbodhfeaaGreatDoor

/-
  Acts and spans that came in as arguments: how they lie in memory.
-/
namespace Go.Proofs.YtighpalbodhfeaaGreatDoor
open Go.ChangeShapes Go.WideShapes Go.ChangeAt Go.RowKit Go.Joins Go.Deep

section
variable {H : Type} {enc : TypeId × Value → H} {w : World} {base : Nat} {held : Bool}

/-- a field of one cell, at its own place -/
theorem one_field {P : Program} {spare : Nat → Bool} {n i : Nat} {t : TypeId} {fs : Array Field} {cs : List Value} {xs : List (DataW H × List MemPlace)} (hxl : xs.length = fs.size)
    (hf : ∀ (i : Nat) (f : Field), fs[i]? = some f → DataW.trod enc P w base spare held n f.type ((cs.drop f.offset).take (P.cellsOf f.type)) = xs[i]?) {f : Field} (hi : fs[i]? = some f) (ho : f.offset = i) (hc : P.cellsOf f.type = 1) (ht : f.type = t) (hl : i < cs.length) :
    ∃ v y, cs[i]? = some v ∧ DataW.trod enc P w base spare held n t [v] = some y := by
  have h := hf i f hi
  have hx : i < xs.length := by rw [hxl]; exact (Array.getElem?_eq_some_iff.1 hi).1
  rw [ho, hc, ht, List.getElem?_eq_getElem hx] at h
  have e : (cs.drop i).take 1 = [cs[i]] := by
    rw [List.drop_eq_getElem_cons hl]; rfl
  rw [e] at h
  exact ⟨_, _, List.getElem?_eq_getElem hl, h⟩
theorem int_bounds {a : Int} (h : (Lit.int .i64 a).wf = true) : -9223372036854775808 ≤ a ∧ a ≤ 9223372036854775807 := by
  simpa [Lit.wf, IntKind.min, IntKind.signed, IntKind.bits] using h
set_option maxRecDepth 100000 in
theorem chgs_cell {v : Value} {fuel : Nat} {x : DataW H × List MemPlace} (h : DataW.trod enc Tryz.prog w base (fun _ => true) held fuel 32 [v] = some x) : ∃ (ao : Option Addr) (cap : Nat) (l : List Chg), v = .slice ao l.length cap ∧ heldCh w ao l := by
  rcases open_slice Tryz.underlying32 h with ⟨hcs, _⟩ | ⟨a, len, cap, m, n, D, Pl, hcs, _, hl, hm, hmm, _, hx⟩
  · simp at hcs
    subst hcs
    exact ⟨_, _, [], rfl, .inl rfl⟩
  · simp at hcs
    subst hcs
    simp only [if_true] at hmm
    by_cases h0 : len = 0
    · subst h0
      exact ⟨_, _, [], rfl, .inl rfl⟩
    · obtain ⟨b, off, spot⟩ := a
      have hc3 : Tryz.prog.cellsOf 84 = 3 := by kernel_rfl
      have hspot : spot = none := by
        obtain ⟨cs, h1, _⟩ := hx 0 (by omega)
        rw [hc3] at h1
        obtain ⟨_, hlen, hcell⟩ := World.cells?_some h1
        have e0 := (hcell 0 (by omega)).trans (List.getElem?_eq_getElem (by omega))
        simpa [Addr.add] using World.cell?_spot e0
      subst hspot
      have each : ∀ i, i < len → ∃ c : Chg, w.cell? ⟨b, off + i * 3, none⟩ = some (.string c.key) ∧ w.cell? ⟨b, off + i * 3 + 1, none⟩ = some (.string c.val) ∧ w.cell? ⟨b, off + i * 3 + 2, none⟩ = some (.bool c.gone) := by
        intro i hi
        obtain ⟨cs, h1, h2⟩ := hx i (by omega)
        rw [hc3] at h1
        obtain ⟨_, hlen, hcell⟩ := World.cells?_some h1
        obtain ⟨xs, k, hk, hxy, _, hxl, hf⟩ := DataW.trod_struct Tryz.underlying84 h2
        obtain ⟨v0, y0, e0, g0⟩ := one_field (i := 0) (t := 9) hxl hf rfl rfl (by kernel_rfl) rfl (by omega)
        obtain ⟨v1, y1, e1, g1⟩ := one_field (i := 1) (t := 9) hxl hf rfl rfl (by kernel_rfl) rfl (by omega)
        obtain ⟨v2, y2, e2, g2⟩ := one_field (i := 2) (t := 4) hxl hf rfl rfl (by kernel_rfl) rfl (by omega)
        obtain ⟨s0, q0, _, _⟩ := DataW.trod_string Tryz.underlying9 g0
        obtain ⟨s1, q1, _, _⟩ := DataW.trod_string Tryz.underlying9 g1
        obtain ⟨b2, q2, _⟩ := DataW.trod_bool Tryz.underlying4 g2
        simp at q0 q1 q2
        subst q0 q1 q2
        have c0 := (hcell 0 (by omega)).trans e0
        have c1 := (hcell 1 (by omega)).trans e1
        have c2 := (hcell 2 (by omega)).trans e2
        rw [add_add, add_plain] at c0 c1 c2
        exact ⟨⟨s0, s1, b2⟩, by simpa using c0, by simpa [Nat.add_assoc] using c1, by simpa [Nat.add_assoc] using c2⟩
      haveI : Inhabited Chg := ⟨⟨ByteArray.empty, ByteArray.empty, false⟩⟩
      obtain ⟨q, hq⟩ := choose_lt each
      refine ⟨_, cap, (List.range len).map q, by simp, .inr ⟨b, off, rfl, ?_⟩⟩
      intro i hi
      have hi' : i < len := by simpa using hi
      simpa using hq i hi'
set_option maxRecDepth 100000 in
theorem spans_cell {v : Value} {fuel : Nat} {x : DataW H × List MemPlace} (h : DataW.trod enc Tryz.prog w base (fun _ => true) held fuel 33 [v] = some x) :
    ∃ (ao : Option Addr) (cap : Nat) (l : List (ByteArray × ByteArray)), v = .slice ao l.length cap ∧ heldSp w ao l ∧ l.length ≤ maxLen ∧ (ao = none → cap = 0 ∧ l = []) := by
  rcases open_slice Tryz.underlying33 h with ⟨hcs, _⟩ | ⟨a, len, cap, m, n, D, Pl, hcs, _, hl, hm, hmm, _, hx⟩
  · simp at hcs
    subst hcs
    exact ⟨_, _, [], rfl, .inl rfl, Nat.zero_le _, fun _ => ⟨rfl, rfl⟩⟩
  · simp at hcs
    subst hcs
    simp only [if_true] at hmm
    by_cases h0 : len = 0
    · subst h0
      exact ⟨_, _, [], rfl, .inl rfl, Nat.zero_le _, fun h => by cases h⟩
    · obtain ⟨b, off, spot⟩ := a
      have hc3 : Tryz.prog.cellsOf 91 = 2 := by kernel_rfl
      have hspot : spot = none := by
        obtain ⟨cs, h1, _⟩ := hx 0 (by omega)
        rw [hc3] at h1
        obtain ⟨_, hlen, hcell⟩ := World.cells?_some h1
        have e0 := (hcell 0 (by omega)).trans (List.getElem?_eq_getElem (by omega))
        simpa [Addr.add] using World.cell?_spot e0
      subst hspot
      have each : ∀ i, i < len → ∃ c : ByteArray × ByteArray, w.cell? ⟨b, off + i * 2, none⟩ = some (.string c.1) ∧ w.cell? ⟨b, off + i * 2 + 1, none⟩ = some (.string c.2) := by
        intro i hi
        obtain ⟨cs, h1, h2⟩ := hx i (by omega)
        rw [hc3] at h1
        obtain ⟨_, hlen, hcell⟩ := World.cells?_some h1
        obtain ⟨xs, k, hk, hxy, _, hxl, hf⟩ := DataW.trod_struct Tryz.underlying91 h2
        obtain ⟨v0, y0, e0, g0⟩ := one_field (i := 0) (t := 9) hxl hf rfl rfl (by kernel_rfl) rfl (by omega)
        obtain ⟨v1, y1, e1, g1⟩ := one_field (i := 1) (t := 9) hxl hf rfl rfl (by kernel_rfl) rfl (by omega)
        obtain ⟨s0, q0, _, _⟩ := DataW.trod_string Tryz.underlying9 g0
        obtain ⟨s1, q1, _, _⟩ := DataW.trod_string Tryz.underlying9 g1
        simp at q0 q1
        subst q0 q1
        have c0 := (hcell 0 (by omega)).trans e0
        have c1 := (hcell 1 (by omega)).trans e1
        rw [add_add, add_plain] at c0 c1
        exact ⟨(s0, s1), by simpa using c0, by simpa [Nat.add_assoc] using c1⟩
      haveI : Inhabited (ByteArray × ByteArray) := ⟨(ByteArray.empty, ByteArray.empty)⟩
      obtain ⟨q, hq⟩ := choose_lt each
      refine ⟨_, cap, (List.range len).map q, by simp, .inr ⟨b, off, rfl, ?_⟩, by simp; omega, fun h => by cases h⟩
      intro i hi
      have hi' : i < len := by simpa using hi
      simpa using hq i hi'
set_option maxRecDepth 100000 in
theorem acts_cell {v : Value} {fuel : Nat} {x : DataW H × List MemPlace} (h : DataW.trod enc Tryz.prog w base (fun _ => true) held fuel 23 [v] = some x) :
    ∃ (ao : Option Addr) (cap : Nat) (l : List ActL), v = .slice ao l.length cap ∧ heldAc w ao l := by
  rcases open_slice Tryz.underlying23 h with ⟨hcs, _⟩ | ⟨a, len, cap, m, n, D, Pl, hcs, _, hl, hm, hmm, _, hx⟩
  · simp at hcs
    subst hcs
    exact ⟨_, _, [], rfl, .inl rfl⟩
  · simp at hcs
    subst hcs
    simp only [if_true] at hmm
    by_cases h0 : len = 0
    · subst h0
      exact ⟨_, _, [], rfl, .inl rfl⟩
    · obtain ⟨b, off, spot⟩ := a
      have hc9 : Tryz.prog.cellsOf 39 = 9 := by kernel_rfl
      have hspot : spot = none := by
        obtain ⟨cs, h1, _⟩ := hx 0 (by omega)
        rw [hc9] at h1
        obtain ⟨_, hlen, hcell⟩ := World.cells?_some h1
        have e0 := (hcell 0 (by omega)).trans (List.getElem?_eq_getElem (by omega))
        simpa [Addr.add] using World.cell?_spot e0
      subst hspot
      have each : ∀ i, i < len → ∃ c : ActL, ActAt w b (off + i * 9) c := by
        intro i hi
        obtain ⟨cs, h1, h2⟩ := hx i (by omega)
        rw [hc9] at h1
        obtain ⟨_, hlen, hcell⟩ := World.cells?_some h1
        obtain ⟨xs, k, hk, hxy, _, hxl, hf⟩ := DataW.trod_struct Tryz.underlying39 h2
        obtain ⟨v0, y0, e0, g0⟩ := one_field (i := 0) (t := 9) hxl hf rfl rfl (by kernel_rfl) rfl (by omega)
        obtain ⟨v1, y1, e1, g1⟩ := one_field (i := 1) (t := 3) hxl hf rfl rfl (by kernel_rfl) rfl (by omega)
        obtain ⟨v2, y2, e2, g2⟩ := one_field (i := 2) (t := 3) hxl hf rfl rfl (by kernel_rfl) rfl (by omega)
        obtain ⟨v3, y3, e3, g3⟩ := one_field (i := 3) (t := 3) hxl hf rfl rfl (by kernel_rfl) rfl (by omega)
        obtain ⟨v4, y4, e4, g4⟩ := one_field (i := 4) (t := 37) hxl hf rfl rfl (by kernel_rfl) rfl (by omega)
        obtain ⟨v5, y5, e5, g5⟩ := one_field (i := 5) (t := 9) hxl hf rfl rfl (by kernel_rfl) rfl (by omega)
        obtain ⟨v6, y6, e6, g6⟩ := one_field (i := 6) (t := 9) hxl hf rfl rfl (by kernel_rfl) rfl (by omega)
        obtain ⟨v7, y7, e7, g7⟩ := one_field (i := 7) (t := 32) hxl hf rfl rfl (by kernel_rfl) rfl (by omega)
        obtain ⟨v8, y8, e8, g8⟩ := one_field (i := 8) (t := 33) hxl hf rfl rfl (by kernel_rfl) rfl (by omega)
        obtain ⟨s0, q0, _, _⟩ := DataW.trod_string Tryz.underlying9 g0
        obtain ⟨s1, q1, _, w1⟩ := DataW.trod_int Tryz.underlying3 g1
        obtain ⟨s2, q2, _, _⟩ := DataW.trod_int Tryz.underlying3 g2
        obtain ⟨s3, q3, _, _⟩ := DataW.trod_int Tryz.underlying3 g3
        obtain ⟨s4, q4, _, _⟩ := DataW.trod_int Tryz.underlying37 g4
        obtain ⟨s5, q5, _, _⟩ := DataW.trod_string Tryz.underlying9 g5
        obtain ⟨s6, q6, _, _⟩ := DataW.trod_string Tryz.underlying9 g6
        obtain ⟨ca, cc, chs, q7, h7⟩ := chgs_cell g7
        obtain ⟨sa, sc, sps, q8, h8, n8, _⟩ := spans_cell g8
        simp at q0 q1 q2 q3 q4 q5 q6
        subst q0 q1 q2 q3 q4 q5 q6 q7 q8
        have c0 := (hcell 0 (by omega)).trans e0
        have c1 := (hcell 1 (by omega)).trans e1
        have c2 := (hcell 2 (by omega)).trans e2
        have c3 := (hcell 3 (by omega)).trans e3
        have c4 := (hcell 4 (by omega)).trans e4
        have c5 := (hcell 5 (by omega)).trans e5
        have c6 := (hcell 6 (by omega)).trans e6
        have c7 := (hcell 7 (by omega)).trans e7
        have c8 := (hcell 8 (by omega)).trans e8
        rw [add_add, add_plain, ← Nat.add_assoc] at c0 c1 c2 c3 c4 c5 c6 c7 c8
        exact ⟨⟨s0, s1, s2, s3, s4, s5, s6, ca, cc, chs, sa, sc, sps⟩, ⟨c0, c1, c2, c3, c4, c5, c6, c7, c8, h7, h8, n8, int_bounds w1⟩⟩
      haveI : Inhabited ActL := ⟨⟨ByteArray.empty, 0, 0, 0, 0, ByteArray.empty, ByteArray.empty, none, 0, [], none, 0, []⟩⟩
      obtain ⟨q, hq⟩ := choose_lt each
      refine ⟨_, cap, (List.range len).map q, by simp, .inr ⟨b, off, rfl, ?_⟩⟩
      intro i hi
      have hi' : i < len := by simpa using hi
      simpa using hq i hi'
end
set_option maxRecDepth 100000 in
theorem open_actsArg {H : Type} {enc : TypeId × Value → H} {W : World} {base : Nat} {v : Value} {d : DataW H} {p : List MemPlace}
    (hv : Value.okWide Tryz.prog W .any base 23 v) (h : DataW.Trod enc Tryz.prog W 0 (fun _ => true) true 23 v d p) : ∃ (ao : Option Addr) (cap : Nat) (l : List ActL), v = .slice ao l.length cap ∧ heldAc W ao l := by
  obtain ⟨a0, len, cap, rfl⟩ := okWide_slice Tryz.underlying23 hv
  obtain ⟨fuel, hf⟩ := h
  exact acts_cell (v := .slice a0 len cap) (by simpa [Value.cells] using hf)
set_option maxRecDepth 100000 in
theorem open_spansArg {H : Type} {enc : TypeId × Value → H} {W : World} {base : Nat} {v : Value} {d : DataW H} {p : List MemPlace}
    (hv : Value.okWide Tryz.prog W .any base 33 v) (h : DataW.Trod enc Tryz.prog W 0 (fun _ => true) true 33 v d p) :
    ∃ (ao : Option Addr) (cap : Nat) (l : List (ByteArray × ByteArray)), v = .slice ao l.length cap ∧ heldSp W ao l ∧ l.length ≤ maxLen ∧ (ao = none → cap = 0 ∧ l = []) := by
  obtain ⟨a0, len, cap, rfl⟩ := okWide_slice Tryz.underlying33 hv
  obtain ⟨fuel, hf⟩ := h
  exact spans_cell (v := .slice a0 len cap) (by simpa [Value.cells] using hf)
end Go.Proofs.YtighpalbodhfeaaGreatDoor

/-
  Rows that came in, opened: two texts each, as they lie.
-/
namespace Go.Proofs.YtighpalbodhfeaaGreatDoor
open Go.ChangeShapes Go.WideShapes Go.ChangeAt Go.RowKit Go.Joins Go.Deep

section
variable {H : Type} {enc : TypeId × Value → H} {w : World} {base : Nat} {held : Bool}

set_option maxRecDepth 100000 in
theorem rows_cell {v : Value} {fuel : Nat} {x : DataW H × List MemPlace} (h : DataW.trod enc Tryz.prog w base (fun _ => true) held fuel 22 [v] = some x) :
    ∃ (ao : Option Addr) (cap : Nat) (l : List (ByteArray × ByteArray)), v = .slice ao l.length cap ∧ heldSp w ao l ∧ l.length ≤ maxLen ∧ (ao = none → cap = 0 ∧ l = []) := by
  rcases open_slice Tryz.underlying22 h with ⟨hcs, _⟩ | ⟨a, len, cap, m, n, D, Pl, hcs, _, hl, hm, hmm, _, hx⟩
  · simp at hcs
    subst hcs
    exact ⟨_, _, [], rfl, .inl rfl, Nat.zero_le _, fun _ => ⟨rfl, rfl⟩⟩
  · simp at hcs
    subst hcs
    simp only [if_true] at hmm
    by_cases h0 : len = 0
    · subst h0
      exact ⟨_, _, [], rfl, .inl rfl, Nat.zero_le _, fun h => by cases h⟩
    · obtain ⟨b, off, spot⟩ := a
      have hc3 : Tryz.prog.cellsOf 55 = 2 := by kernel_rfl
      have hspot : spot = none := by
        obtain ⟨cs, h1, _⟩ := hx 0 (by omega)
        rw [hc3] at h1
        obtain ⟨_, hlen, hcell⟩ := World.cells?_some h1
        have e0 := (hcell 0 (by omega)).trans (List.getElem?_eq_getElem (by omega))
        simpa [Addr.add] using World.cell?_spot e0
      subst hspot
      have each : ∀ i, i < len → ∃ c : ByteArray × ByteArray, w.cell? ⟨b, off + i * 2, none⟩ = some (.string c.1) ∧ w.cell? ⟨b, off + i * 2 + 1, none⟩ = some (.string c.2) := by
        intro i hi
        obtain ⟨cs, h1, h2⟩ := hx i (by omega)
        rw [hc3] at h1
        obtain ⟨_, hlen, hcell⟩ := World.cells?_some h1
        obtain ⟨xs, k, hk, hxy, _, hxl, hf⟩ := DataW.trod_struct Tryz.underlying55 h2
        obtain ⟨v0, y0, e0, g0⟩ := one_field (i := 0) (t := 9) hxl hf rfl rfl (by kernel_rfl) rfl (by omega)
        obtain ⟨v1, y1, e1, g1⟩ := one_field (i := 1) (t := 9) hxl hf rfl rfl (by kernel_rfl) rfl (by omega)
        obtain ⟨s0, q0, _, _⟩ := DataW.trod_string Tryz.underlying9 g0
        obtain ⟨s1, q1, _, _⟩ := DataW.trod_string Tryz.underlying9 g1
        simp at q0 q1
        subst q0 q1
        have c0 := (hcell 0 (by omega)).trans e0
        have c1 := (hcell 1 (by omega)).trans e1
        rw [add_add, add_plain] at c0 c1
        exact ⟨(s0, s1), by simpa using c0, by simpa [Nat.add_assoc] using c1⟩
      haveI : Inhabited (ByteArray × ByteArray) := ⟨(ByteArray.empty, ByteArray.empty)⟩
      obtain ⟨q, hq⟩ := choose_lt each
      refine ⟨_, cap, (List.range len).map q, by simp, .inr ⟨b, off, rfl, ?_⟩, by simp; omega, fun h => by cases h⟩
      intro i hi
      have hi' : i < len := by simpa using hi
      simpa using hq i hi'
end
set_option maxRecDepth 100000 in
theorem open_rowsArg {H : Type} {enc : TypeId × Value → H} {W : World} {base : Nat} {v : Value} {d : DataW H} {p : List MemPlace}
    (hv : Value.okWide Tryz.prog W .any base 22 v) (h : DataW.Trod enc Tryz.prog W 0 (fun _ => true) true 22 v d p) :
    ∃ (ao : Option Addr) (cap : Nat) (l : List (ByteArray × ByteArray)), v = .slice ao l.length cap ∧ heldSp W ao l ∧ l.length ≤ maxLen ∧ (ao = none → cap = 0 ∧ l = []) := by
  obtain ⟨a0, len, cap, rfl⟩ := okWide_slice Tryz.underlying22 hv
  obtain ⟨fuel, hf⟩ := h
  exact rows_cell (v := .slice a0 len cap) (by simpa [Value.cells] using hf)
end Go.Proofs.YtighpalbodhfeaaGreatDoor

/-
  What a row's list of variables gives: the library's table of powers of ten, third of the list, holds its numbers.
-/
namespace Go.Proofs.YtighpalbodhfeaaGreatDoor
open Go.Lib

theorem pow_type : (Tryz.prog.globals[3]?).map (·.type) = some 247 := by kernel_rfl
theorem pow_cells : Tryz.prog.cellsOf 247 = 20 := by kernel_rfl
theorem u64_cells : Tryz.prog.cellsOf 37 = 1 := by kernel_rfl
theorem tab_third {W : World} {x y : String × DataW Unit} {zs : List Int} {rest : List (String × DataW Unit)}
    (h : laidMet Tryz.prog (x :: y :: ("internal/strconv.uint64pow10", tabData .u64 zs) :: rest) W) : TabIs Tryz.prog W "internal/strconv.uint64pow10" .u64 zs := by
  obtain ⟨ps, ⟨_, _, _, _, _, _, _, _, _, _, ⟨_, _, _, _, _, _, _, _, _, _, ⟨g', t', cs, fuel, p, q, hg', ht', hvar, hd, _, _⟩, _⟩, _⟩, _⟩ := h
  obtain rfl := Option.some.inj (pow_named.symm.trans hg')
  obtain rfl := Option.some.inj (pow_type.symm.trans ht')
  have e := cells_of_tab Tryz.underlying247 Tryz.underlying37 u64_cells pow_cells hd
  unfold TabIs
  rw [hvar]
  congr 1
  exact Array.ext' (by simpa using e)
theorem pow_list : Lib.pow10Tab = [1, 10, 100, 1000, 10000, 100000, 1000000, 10000000, 100000000, 1000000000, 10000000000, 100000000000, 1000000000000, 10000000000000, 100000000000000, 1000000000000000, 10000000000000000, 100000000000000000, 1000000000000000000, 10000000000000000000] := by decide +kernel
end Go.Proofs.YtighpalbodhfeaaGreatDoor

/-
  What a row's list of variables gives: the library's two errors, fourth and fifth of the list, hold values.
-/
namespace Go.Proofs.YtighpalbodhfeaaGreatDoor
open Go.Lib

theorem rng_type : (Tryz.prog.globals[2]?).map (·.type) = some 43 := by kernel_rfl
theorem syn_type : (Tryz.prog.globals[1]?).map (·.type) = some 43 := by kernel_rfl
theorem err_fourth {W : World} {x y z : String × DataW Unit} {nm : String} {d : DataW Unit} {rest : List (String × DataW Unit)}
    (h : laidMet Tryz.prog (x :: y :: z :: ("strconv.ErrRange", .iface nm d) :: rest) W) : ErrIs W "strconv.ErrRange" := by
  obtain ⟨ps, ⟨_, _, _, _, _, _, _, _, _, _, ⟨_, _, _, _, _, _, _, _, _, _, ⟨_, _, _, _, _, _, _, _, _, _, ⟨g', t', cs, fuel, p, q, hg', ht', hvar, hd, _, _⟩, _⟩, _⟩, _⟩, _⟩ := h
  obtain rfl := Option.some.inj (rng_named.symm.trans hg')
  obtain rfl := Option.some.inj (rng_type.symm.trans ht')
  obtain ⟨_, u, v, hc, _, _⟩ := iface_of_trod Tryz.underlying43 hd
  have e : cs = #[.iface u v] := Array.ext' (by simpa using hc)
  exact ⟨u, v, by rw [hvar, e]⟩
theorem err_fifth {W : World} {x y z a : String × DataW Unit} {nm : String} {d : DataW Unit} {rest : List (String × DataW Unit)}
    (h : laidMet Tryz.prog (x :: y :: z :: a :: ("strconv.ErrSyntax", .iface nm d) :: rest) W) : ErrIs W "strconv.ErrSyntax" := by
  obtain ⟨ps, ⟨_, _, _, _, _, _, _, _, _, _, ⟨_, _, _, _, _, _, _, _, _, _, ⟨_, _, _, _, _, _, _, _, _, _, ⟨_, _, _, _, _, _, _, _, _, _, ⟨g', t', cs, fuel, p, q, hg', ht', hvar, hd, _, _⟩, _⟩, _⟩, _⟩, _⟩, _⟩ := h
  obtain rfl := Option.some.inj (syn_named.symm.trans hg')
  obtain rfl := Option.some.inj (syn_type.symm.trans ht')
  obtain ⟨_, u, v, hc, _, _⟩ := iface_of_trod Tryz.underlying43 hd
  have e : cs = #[.iface u v] := Array.ext' (by simpa using hc)
  exact ⟨u, v, by rw [hvar, e]⟩
theorem wf_range {n : Int} (h : (Lit.int .i64 n).wf = true) : -9223372036854775808 ≤ n ∧ n ≤ 9223372036854775807 := by
  rw [Lit.wf, Bool.and_eq_true, decide_eq_true_eq, decide_eq_true_eq] at h
  exact h
end Go.Proofs.YtighpalbodhfeaaGreatDoor

/-
  A world for a witness: the tables of Go's library that the rows list hold what their initialisers lay. No claim is made here.
-/
namespace Go.Proofs.YtighpalbodhfeaaGreatDoor

def layTabs (w : World) : World :=
  { w with heap := ((w.heap.modify 3 fun
      | .cells _ t fr => .cells #[.int .u64 1, .int .u64 10, .int .u64 100, .int .u64 1000, .int .u64 10000, .int .u64 100000, .int .u64 1000000, .int .u64 10000000, .int .u64 100000000, .int .u64 1000000000, .int .u64 10000000000, .int .u64 100000000000, .int .u64 1000000000000, .int .u64 10000000000000, .int .u64 100000000000000, .int .u64 1000000000000000, .int .u64 10000000000000000, .int .u64 100000000000000000, .int .u64 1000000000000000000, .int .u64 10000000000000000000] t fr
      | o => o).modify 4 fun
      | .cells _ t fr => .cells #[.int .u8 0, .int .u8 1, .int .u8 28, .int .u8 2, .int .u8 29, .int .u8 14, .int .u8 24, .int .u8 3, .int .u8 30, .int .u8 22, .int .u8 20, .int .u8 15, .int .u8 25, .int .u8 17, .int .u8 4, .int .u8 8, .int .u8 31, .int .u8 27, .int .u8 13, .int .u8 23, .int .u8 21, .int .u8 19, .int .u8 16, .int .u8 7, .int .u8 26, .int .u8 12, .int .u8 18, .int .u8 6, .int .u8 11, .int .u8 5, .int .u8 10, .int .u8 9] t fr
      | o => o).modify 5 fun
      | .cells _ t fr => .cells #[.int .u8 0, .int .u8 1, .int .u8 56, .int .u8 2, .int .u8 57, .int .u8 49, .int .u8 28, .int .u8 3, .int .u8 61, .int .u8 58, .int .u8 42, .int .u8 50, .int .u8 38, .int .u8 29, .int .u8 17, .int .u8 4, .int .u8 62, .int .u8 47, .int .u8 59, .int .u8 36, .int .u8 45, .int .u8 43, .int .u8 51, .int .u8 22, .int .u8 53, .int .u8 39, .int .u8 33, .int .u8 30, .int .u8 24, .int .u8 18, .int .u8 12, .int .u8 5, .int .u8 63, .int .u8 55, .int .u8 48, .int .u8 27, .int .u8 60, .int .u8 41, .int .u8 37, .int .u8 16, .int .u8 46, .int .u8 35, .int .u8 44, .int .u8 21, .int .u8 52, .int .u8 32, .int .u8 23, .int .u8 11, .int .u8 54, .int .u8 26, .int .u8 40, .int .u8 15, .int .u8 34, .int .u8 20, .int .u8 31, .int .u8 10, .int .u8 25, .int .u8 14, .int .u8 19, .int .u8 9, .int .u8 13, .int .u8 8, .int .u8 7, .int .u8 6] t fr
      | o => o }
end Go.Proofs.YtighpalbodhfeaaGreatDoor

/-
  A world for a witness: the library's two errors that the rows list hold what their initialisers lay. No claim is made here.
-/
namespace Go.Proofs.YtighpalbodhfeaaGreatDoor

def errBlocks : Array Obj := #[.cells #[.string ⟨#[118, 97, 108, 117, 101, 32, 111, 117, 116, 32, 111, 102, 32, 114, 97, 110, 103, 101]⟩] 259, .cells #[.string ⟨#[105, 110, 118, 97, 108, 105, 100, 32, 115, 121, 110, 116, 97, 120]⟩] 259]
def layErrs (low : Nat) (w : World) : World :=
  { w with heap := (w.heap.modify 1 fun
      | .cells _ t fr => .cells #[.iface 257 (.pointer (some ⟨low + 1, 0, none⟩))] t fr
      | o => o).modify 2 fun
      | .cells _ t fr => .cells #[.iface 257 (.pointer (some ⟨low, 0, none⟩))] t fr
      | o => o }
end Go.Proofs.YtighpalbodhfeaaGreatDoor
