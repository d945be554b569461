/-
  What versions.last returns of versions that lie in memory. Nothing that was there is changed.
-/
import Derived.Test.YtpbhcjkllfonhaaGreatVerLast
import Derived.Test.YtpbhcjkllfonhaaGreatSpOn
import Derived.Maps.OwnSet
import Derived.Maps.Views
import Derived.StringKeys
namespace Go.Proofs.YtpbhcjkllfonhaaGreat
open Go.RowKit Go.Joins Go.Shelf
attribute [local go_sem] Oper.semAt_some

/-- none of those that have come is up to the deed -/
def aheadV (n : Int) (pre : List (Nat × Ver)) : Prop := ∀ y ∈ pre, n < y.2.deed
theorem cell_nl (W : World) (v : Value) (t : TypeId) : (W.alloc (.cells #[v] t)).cell? ⟨W.heap.size, 0, none⟩ = some v ∧ (W.alloc (.cells #[v] t)).frozen? ⟨W.heap.size, 0, none⟩ = false := ⟨cell_new W #[v] t 0, frozen_new W #[v] t 0⟩
theorem cell_al {W : World} {a : Addr} {v : Value} (o : Obj) (h : W.cell? a = some v) : (W.alloc o).cell? a = some v := cell_on (below_alloc1 _ _) h
theorem frozen_al {W : World} {a : Addr} {v : Value} (o : Obj) (h : W.cell? a = some v) (hf : W.frozen? a = false) : (W.alloc o).frozen? a = false := frozen_on (below_alloc1 _ _) (World.block_lt_of_cell? _ _ h) hf

set_option maxRecDepth 100000 in
set_option maxHeartbeats 4000000 in
theorem last_in (F : Fence) (m : Nat) (hL : F.fn 74) (hBk : F.fn 89) (hB1 : F.fn 104) (hro : F.round = none) (hm : 3 ≤ m) (ao : Option Addr) (cap : Nat) (vs : List Ver) (n : Int) (w : World) (hlen : vs.length ≤ 1000000) (hI : versIn w.heap.size w ao cap vs) :
    CallsIn F m Tryz.prog 74 #[.slice ao vs.length cap, .int .i64 n] w fun e W' => e = .returned (.int .i64 (lastP vs n)) ∧ Below w.heap.size w W' := by
  have h1 : 1 ≤ m := by omega
  refine callsIn_of_wp_marks Tryz.func74 rfl hL ?_ hro
  simp only [Tryz.ntmps74, List.size_toArray, List.length_cons, List.length_nil, Nat.reduceAdd, Nat.reduceSub, Array.replicate_succ, Array.replicate_zero, List.push_toArray, List.append_toArray, List.nil_append, List.cons_append]
  gi_wp2_with (gi_at_call 89; refine (back_in F (m - 1) hBk hro _ _ _ _).mono ?_; rintro e w' ⟨rfl, rfl⟩)
  have c0 := cell_nl w (.int .i64 n) 3
  have c1 := cell_nl (w.alloc (.cells #[.int .i64 n] 3)) (.int .i64 0) 3
  have c2 := cell_nl ((w.alloc (.cells #[.int .i64 n] 3)).alloc (.cells #[.int .i64 0] 3)) (.slice ao vs.length cap) 76
  simp only [World.size_alloc] at c1 c2
  have hB0 : Below w.heap.size w (((w.alloc (.cells #[.int .i64 n] 3)).alloc (.cells #[.int .i64 0] 3)).alloc (.cells #[.slice ao vs.length cap] 76)) := (((Below.refl _ w).alloc (Nat.le_refl _) _).alloc (by simp) _).alloc (by simp; omega) _
  have hI2 : versIn (w.heap.size + 3) (((w.alloc (.cells #[.int .i64 n] 3)).alloc (.cells #[.int .i64 0] 3)).alloc (.cells #[.slice ao vs.length cap] 76)) ao cap vs := by
    rcases hI.below hB0 with h | ⟨b, e, hb, h⟩
    · exact .inl h
    · exact .inr ⟨b, e, by omega, h⟩
  refine wpIn_rangeFunc_ownH hro h1 (gf := 104) (lb := #[.pointer (some ⟨w.heap.size + 1 + 1, 0, none⟩)]) rfl hB1 (enters_of Tryz.func104 (by kernel_rfl) rfl)
    (back_stops F (m - 1) hB1 hro (by omega) (w.heap.size + 1 + 1) (w.heap.size + 3) ao cap vs hlen _ (by omega) (by simp) c2.1 hI2) belowK_t (belowK_b (by simp)) (Below.refl _ _) (fun _ => rfl)
    (fun pre W => (aheadV n pre ∧ W.cell? ⟨w.heap.size + 1 + 1, 0, none⟩ = some (.slice ao vs.length cap) ∧ W.cell? ⟨w.heap.size, 0, none⟩ = some (.int .i64 n) ∧ W.cell? ⟨w.heap.size + 1, 0, none⟩ = some (.int .i64 0) ∧ W.frozen? ⟨w.heap.size + 1, 0, none⟩ = false) ∧ Below w.heap.size w W)
    (fun c pre W => (c = .ret ∧ (∃ pre' x, pre = pre' ++ [x] ∧ aheadV n pre' ∧ x.2.deed ≤ n ∧ W.cell? ⟨w.heap.size + 1, 0, none⟩ = some (.int .i64 (x.1 : Int)))) ∧ Below w.heap.size w W)
    (OwnFrom.and (Own.from (fun s A B row hs hg hr => ⟨hs.1, cell_kept hs.2.1 hg hr, cell_kept hs.2.2.1 hg hr, cell_kept hs.2.2.2.1 hg hr, (frozen_kept hs.2.2.2.1 hg hr).trans hs.2.2.2.2⟩) _) (ownFrom_below (Nat.le_refl _) (by simp; omega)))
    (fun c => OwnFrom.and (Own.from (fun s A B row hs hg hr => by obtain ⟨e, pre', x, h2, h3, h4, h5⟩ := hs; exact ⟨e, pre', x, h2, h3, h4, cell_kept h5 hg hr⟩) _) (ownFrom_below (Nat.le_refl _) (by simp; omega)))
    ⟨⟨by simp [aheadV], c2.1, cell_al _ (cell_al _ c0.1), cell_al _ c1.1, frozen_al _ c1.1 c1.2⟩, hB0⟩
    (fun x a' W => ∃ Bx, W.cell? ⟨Bx, 0, none⟩ = some (.int .i64 x.2.deed) ∧ a' = { tmps := #[.slice ao vs.length cap, .int .i64 n, undef, .pointer (some ⟨w.heap.size, 0, none⟩), .pointer (some ⟨w.heap.size + 1, 0, none⟩), .int .i64 (x.1 : Int), .pointer (some ⟨Bx, 0, none⟩), .slice ao vs.length cap, .func (.func 104) #[] #[.pointer (some ⟨w.heap.size + 1 + 1, 0, none⟩)], .int .i64 (x.1 : Int), verV x.2, undef, undef, undef, undef, undef], defers := [] })
    (fun x a' => Own.from (fun s A B row hs hg hr => by obtain ⟨Bx, hc, e⟩ := hs; exact ⟨Bx, cell_kept hc hg hr, e⟩) _) ?assign ?body ?done ?stop
  case assign =>
    rintro l pre x W K ⟨⟨hp, hcs, hcn, hcr, hfr⟩, hB⟩ hK
    obtain ⟨xi, xv⟩ := x
    dsimp only [verV] at hK ⊢
    gi_wp2
    exact hK _ _ ((KeepsOthers.alloc _ _).from _) ((Below.refl _ W).alloc (by have h3 : w.heap.size + 1 + 1 < W.heap.size := World.block_lt_of_cell? _ _ hcs; omega) _) ⟨⟨hp, cell_al _ hcs, cell_al _ hcn, cell_al _ hcr, frozen_al _ hcr hfr⟩, hB.alloc hB.size _⟩ ⟨W.heap.size, cell_new W _ _ 0, rfl⟩
  case body =>
    rintro l pre x a' W hl ⟨r, hr⟩ ⟨⟨hp, hcs, hcn, hcr, hfr⟩, hB⟩ ⟨Bx, hbx, rfl⟩ hlt
    by_cases hx : x.2.deed ≤ n
    · gi_wp2
      exact ⟨(KeepsOthers.setCell _ _ _).from _, ⟨rfl, pre, x, rfl, hp, hx, World.cell?_setCell_same' _ _ _ (by rw [hcr]; rfl)⟩, hB.setCell (p := ⟨w.heap.size + 1, 0, none⟩) (by simp) _⟩
    · gi_wp2
      exact ⟨(KeepsOthers.refl _).from _, Below.refl _ _, ⟨fun y hy => (List.mem_append.1 hy).elim (hp y) (fun e => by simp at e; subst e; omega), hcs, hcn, hcr, hfr⟩, hB⟩
  case done =>
    rintro D ys W hD rfl ⟨⟨hne, _, _, hcr, hfr⟩, hB⟩ hK
    gi_wp2
    have hK' := (KeepsOthers.setCell W ⟨w.heap.size + 1, 0, none⟩ (.int .i64 (-1))).same D _ hK rfl
    refine ⟨by simp, .inl ⟨_, _, rfl, run_takeDeferred hK', ?_⟩⟩
    have hc5 := cell_kept (World.cell?_setCell_same' W ⟨w.heap.size + 1, 0, none⟩ (.int .i64 (-1)) (by rw [hcr]; rfl)) (grownBy_putObj' _ D (.deferred none)) (fun r e => by cases e; exact ⟨_, hK', rfl⟩)
    refine ⟨.int .i64 (-1), ?_, by rw [last_none hne], (hB.setCell (p := ⟨w.heap.size + 1, 0, none⟩) (by simp) _).trans (belowK_b (w := w) (Nat.le_refl _) _ D _ _ (by simp at hD; omega) hK' rfl rfl)⟩
    simp [results, Tryz.f74, go_sem, hc5]
  case stop =>
    rintro D c pre W hD ⟨k, hk, hpre⟩ ⟨⟨rfl, pre', x, e, hne, hx, hcr⟩, hB⟩ hK
    gi_wp2
    refine ⟨by simp, .inl ⟨_, _, rfl, run_takeDeferred hK, ?_⟩⟩
    have hc5 := cell_kept hcr (grownBy_putObj' _ D (.deferred none)) (fun r e => by cases e; exact ⟨_, hK, rfl⟩)
    refine ⟨.int .i64 (x.1 : Int), ?_, by rw [(last_some hk (e.symm.trans hpre) hne hx).1], hB.trans (belowK_b (w := w) (Nat.le_refl _) W D _ _ (by simp at hD; omega) hK rfl rfl)⟩
    simp [results, Tryz.f74, go_sem, hc5]
theorem last_any (ao : Option Addr) (cap : Nat) (vs : List Ver) (n : Int) (w : World) (hlen : vs.length ≤ 1000000) (hI : versIn w.heap.size w ao cap vs) :
    Calls Tryz.prog 74 #[.slice ao vs.length cap, .int .i64 n] w fun e W' => e = .returned (.int .i64 (lastP vs n)) ∧ Below w.heap.size w W' :=
  (callsIn_wide (n := 3)).1 (last_in Fence.wide 3 trivial trivial trivial rfl (Nat.le_refl _) ao cap vs n w hlen hI)
end Go.Proofs.YtpbhcjkllfonhaaGreat

/-
  What versions.behind returns of versions that lie in memory: the value of a row behind a deed, and whether it is there. Nothing that was there is changed.
-/
namespace Go.Proofs.YtpbhcjkllfonhaaGreat
open Go.RowKit Go.Joins

/-- the last version up to a deed -/
def lastV (vs : List Ver) (n : Int) : Option Ver := vs.reverse.find? fun x => decide (x.deed ≤ n)
def behindV (vs : List Ver) (n : Int) : ByteArray × Bool := match lastV vs n with
  | some x => if x.gone then (⟨#[]⟩, false) else (x.val, true)
  | none => (⟨#[]⟩, false)
theorem last_cases (vs : List Ver) (n : Int) : (lastP vs n = -1 ∧ lastV vs n = none) ∨ ∃ p, lastP vs n = ((p : Nat) : Int) ∧ ∃ h : p < vs.length, lastV vs n = some vs[p] := by
  unfold lastP lastV
  cases hf : vs.reverse.findIdx? (fun x => decide (x.deed ≤ n)) with
  | none =>
    left
    refine ⟨rfl, ?_⟩
    rw [List.find?_eq_none]
    exact fun x hx => by have := List.findIdx?_eq_none_iff.1 hf x hx; simpa using this
  | some j =>
    right
    obtain ⟨hj, hp, hlt⟩ := List.findIdx?_eq_some_iff_getElem.1 hf
    have hj' : j < vs.length := by simpa using hj
    refine ⟨vs.length - 1 - j, by show (vs.length : Int) - 1 - (j : Int) = _; omega, by omega, ?_⟩
    rw [List.find?_eq_some_iff_getElem]
    refine ⟨by rw [List.getElem_reverse] at hp; simpa using hp, j, hj, ?_, fun i hi => by have := hlt i hi; simpa using this⟩
    rw [List.getElem_reverse]

set_option maxHeartbeats 1000000 in
theorem behind_any (ao : Option Addr) (cap : Nat) (vs : List Ver) (n : Int) (w : World) (hlen : vs.length ≤ 1000000) (hI : versIn w.heap.size w ao cap vs) :
    Calls Tryz.prog 61 #[.slice ao vs.length cap, .int .i64 n] w fun e W' => e = .returned (.tuple #[.string (behindV vs n).1, .bool (behindV vs n).2]) ∧ Below w.heap.size w W' := by
  rcases last_cases vs n with ⟨hl, hv⟩ | ⟨p, hl, hp, hv⟩
  · have HL := hide hl
    have HB : Hid (behindV vs n = (⟨#[]⟩, false)) := by unfold Hid behindV; rw [hv]
    clear hl hv
    go_enter Tryz.func61, Tryz.ntmps61
    go_wp2_with (go_at_call 74; refine (last_any ao cap vs n _ hlen hI).mono ?_; rintro e w1 ⟨rfl, hb⟩; rw [HL.out])
    go_ret2
    exact ⟨by rw [HB.out]; rfl, hb⟩
  · rcases hI with ⟨_, _, e⟩ | ⟨b, rfl, hb0, hc⟩
    · rw [e] at hp; simp at hp
    · obtain ⟨d0, d1, d2⟩ := hc p hp
      have hp0 : ¬ ((p : Int) < 0) := by omega
      have hp1 : (p : Int) < (vs.length : Int) := by omega
      have HL := hide hl
      have HI : Hid (versIn w.heap.size w (some ⟨b, 0, none⟩) cap vs) := .inr ⟨b, rfl, hb0, hc⟩
      cases hg : vs[p].gone with
      | true =>
        have HB : Hid (behindV vs n = (⟨#[]⟩, false)) := by unfold Hid behindV; rw [hv]; simp [hg]
        rw [hg] at d2
        clear hl hv hg hc
        go_enter Tryz.func61, Tryz.ntmps61
        go_wp2_with (go_at_call 74; refine (last_any _ cap vs n _ hlen HI.out).mono ?_; rintro e w1 ⟨rfl, hb⟩; rw [HL.out]; have k2 := cell_on hb d2)
        go_ret2
        exact ⟨by rw [HB.out]; rfl, hb⟩
      | false =>
        have HB : Hid (behindV vs n = (vs[p].val, true)) := by unfold Hid behindV; rw [hv]; simp [hg]
        rw [hg] at d2
        clear hl hv hg hc
        go_enter Tryz.func61, Tryz.ntmps61
        go_wp2_with (go_at_call 74; refine (last_any _ cap vs n _ hlen HI.out).mono ?_; rintro e w1 ⟨rfl, hb⟩; rw [HL.out]; have k1 := cell_on hb d1; have k2 := cell_on hb d2)
        go_ret2
        exact ⟨by rw [HB.out]; rfl, hb⟩
end Go.Proofs.YtpbhcjkllfonhaaGreat

/-
  Versions of rows by keys, as they lie in memory: a pair of a number and a map from keys to rows of versions, each a row of its own. Nothing of the program's functions is named here.
-/
namespace Go.Proofs.YtpbhcjkllfonhaaGreat
open Go.RowKit Go.Joins

def cellV (x : Ver) : List Value := [.int .i64 x.deed, .string x.val, .bool x.gone]
theorem cellV_len (x : Ver) : (cellV x).length = 3 := rfl
theorem cellV_one (l : List Ver) : ∀ u ∈ l.flatMap cellV, u.oneCell' = true := by
  intro u hu
  obtain ⟨s, _, hu⟩ := List.mem_flatMap.1 hu
  simp only [cellV, List.mem_cons, List.not_mem_nil, or_false] at hu
  rcases hu with rfl | rfl | rfl <;> rfl
def ownV (w : World) (B : Nat) (v : Value) (vs : List Ver) : Prop := w.ownsRow B 75 3 v vs.length (vs.flatMap cellV)
/-- a row of versions: nil, or a block's head -/
theorem ownV_in {w : World} {B : Nat} {v : Value} {vs : List Ver} (h : ownV w B v vs) : ∃ ao cap, v = .slice ao vs.length cap ∧ versIn w.heap.size w ao cap vs ∧ vs.length ≤ cap ∧ cap ≤ 9223372036854775807 := by
  rcases own_form h with ⟨hv, h0⟩ | ⟨g, cap, hv, _, hl, hc, hm⟩
  · have e : vs = [] := List.length_eq_zero_iff.1 h0
    subst e
    exact ⟨none, 0, hv, .inl ⟨rfl, rfl, rfl⟩, Nat.le_refl _, by omega⟩
  · refine ⟨_, cap, hv, .inr ⟨g, rfl, hl, fun i hi => ?_⟩, hc, by unfold maxLen at hm; omega⟩
    unfold ownV at h
    rw [hv] at h
    exact ⟨(own_get cellV_len h i 0 hi (by omega)).1, (own_get cellV_len h i 1 hi (by omega)).1, (own_get cellV_len h i 2 hi (by omega)).1⟩
/-- a map's element reads as itself -/
def RV (v : Value) : Option (DataW Value × List MemPlace) := some (.held v, [])
def kL (s : ByteArray) : Lit := .string s.data.toList
theorem kL_ne {a b : ByteArray} (h : a ≠ b) : kL a ≠ kL b := fun e => h (by
  unfold kL at e
  simp at e
  exact ByteArray.ext e)
def apV (a b : Value) : Prop := ∀ k, a.ownBlock = some k → b.ownBlock ≠ some k
structure VS (w : World) (B vb mb : Nat) (now : Int) (n : Nat) (D : DataW Value) (g : ByteArray → Value) (R : ByteArray → List Ver) : Prop where
  num : w.cell? ⟨vb, 0, none⟩ = some (.int .i64 now)
  soft : w.frozen? ⟨vb, 0, none⟩ = false
  mp : w.cell? ⟨vb, 1, none⟩ = some (.map (some mb))
  own : w.ownsMap Tryz.prog 9 RV mb n D
  look : ∀ key, key.size ≤ maxLen → D.atKey (kL key) (.held (.slice none 0 0)) = .held (g key)
  has : ∀ key, key.size ≤ maxLen → (Maps.has D (kL key) = true ↔ R key ≠ [])
  rows : ∀ key, ownV w B (g key) (R key)
  lov : B ≤ vb
  lom : B ≤ mb
  ne : vb ≠ mb
  offv : ∀ key, (g key).ownBlock ≠ some vb
  offm : ∀ key, (g key).ownBlock ≠ some mb
  apart : ∀ a b, a ≠ b → apV (g a) (g b)
/-- a block of it -/
def inVS (vb mb : Nat) (g : ByteArray → Value) (k : Nat) : Prop := k = vb ∨ k = mb ∨ ∃ key, (g key).ownBlock = some k
theorem VS.lt {w : World} {B vb mb n : Nat} {now : Int} {D : DataW Value} {g : ByteArray → Value} {R : ByteArray → List Ver} (h : VS w B vb mb now n D g R) {k : Nat} (hk : inVS vb mb g k) : k < w.heap.size := by
  rcases hk with rfl | rfl | ⟨key, e⟩
  · exact World.block_lt_of_cell? _ _ h.num
  · exact h.own.lt
  · exact (World.ownsRow.lt (h.rows key) k e).2
theorem map_block {w w' : World} {mb n : Nat} {D : DataW Value} (h : w.ownsMap Tryz.prog 9 RV mb n D) (e : w'.heap[mb]? = w.heap[mb]?) : w'.ownsMap Tryz.prog 9 RV mb n D := by
  obtain ⟨es, clock, hb, r⟩ := h
  exact ⟨es, clock, e.trans hb, r⟩
theorem VS.kept {w w' : World} {B vb mb n : Nat} {now : Int} {D : DataW Value} {g : ByteArray → Value} {R : ByteArray → List Ver} (h : VS w B vb mb now n D g R) (hk : ∀ k, inVS vb mb g k → w'.heap[k]? = w.heap[k]?) : VS w' B vb mb now n D g R where
  num := (World.cell?_of_block (w := w) (hk vb (.inl rfl))).trans h.num
  soft := (World.frozen?_of_block (w := w) (hk vb (.inl rfl))).trans h.soft
  mp := (World.cell?_of_block (w := w) (hk vb (.inl rfl))).trans h.mp
  own := map_block h.own (hk mb (.inr (.inl rfl)))
  look := h.look
  has := h.has
  rows := fun key => own_block (h.rows key) fun k e => hk k (.inr (.inr ⟨key, e⟩))
  lov := h.lov
  lom := h.lom
  ne := h.ne
  offv := h.offv
  offm := h.offm
  apart := h.apart
theorem VS.on {w w' : World} {B vb mb n : Nat} {now : Int} {D : DataW Value} {g : ByteArray → Value} {R : ByteArray → List Ver} (h : VS w B vb mb now n D g R) (hb : Below w.heap.size w w') : VS w' B vb mb now n D g R := h.kept fun k hk => hb.block k (h.lt hk)
theorem str_keyed : Maps.Keyed Tryz.prog 9 := Maps.string_keyed Tryz.underlying9
theorem key_mk {s : ByteArray} (hs : s.size ≤ maxLen) : keyOf Tryz.prog 9 (.string s) = some (kL s) := Go.WideMaps.keyOf_string_mk Tryz.underlying9 hs
theorem key_lit (s : ByteArray) : WideAt.IsKeyLit (kL s) := trivial
/-- what the map gives at a key -/
theorem VS.looked {w : World} {B vb mb n : Nat} {now : Int} {D : DataW Value} {g : ByteArray → Value} {R : ByteArray → List Ver} (h : VS w B vb mb now n D g R) {key : ByteArray} (hk : key.size ≤ maxLen) :
    (Instr.lookup 71 (.map (some mb)) (.string key) false).run Tryz.prog w = .ok (g key) w := by
  obtain ⟨v, ps, hrun, hv⟩ := h.own.lookup str_keyed Tryz.underlying71 (Tryz.zeroValue76 w) (zd := .held (.slice none 0 0)) (zp := []) rfl (key_mk hk)
  rw [h.look key hk] at hv
  simp only [RV, Option.some.injEq, Prod.mk.injEq, DataW.held.injEq] at hv
  rw [hv.1] at hrun
  exact hrun
end Go.Proofs.YtpbhcjkllfonhaaGreat

/-
  A view as it lies in memory: what it is a view of, since when, its changes and what it has read, each list a row of its own. Nothing of the program's functions is named here.
-/
namespace Go.Proofs.YtpbhcjkllfonhaaGreat
open Go.RowKit Go.Joins

theorem own_shape {w : World} {B : Nat} {e : TypeId} {size : Nat} {v : Value} {n : Nat} {xs : List Value} (h : w.ownsRow B e size v n xs) : ∃ ao cap, v = .slice ao n cap := by
  rcases own_form h with ⟨hv, h0⟩ | ⟨g, cap, hv, _⟩
  · exact ⟨none, 0, by rw [h0]; exact hv⟩
  · exact ⟨_, cap, hv⟩
structure VW (w : World) (B wb vb : Nat) (since : Int) (cv rv : Value) (chs : List Chg) (rds : List (ByteArray × ByteArray)) : Prop where
  c0 : w.cell? ⟨wb, 0, none⟩ = some (.pointer (some ⟨vb, 0, none⟩))
  c1 : w.cell? ⟨wb, 1, none⟩ = some (.int .i64 since)
  c2 : w.cell? ⟨wb, 2, none⟩ = some cv
  c3 : w.cell? ⟨wb, 3, none⟩ = some rv
  soft : ∀ j, w.frozen? ⟨wb, j, none⟩ = false
  chs : ownCh w B cv chs
  rds : ownSp w B rv rds
  lo : B ≤ wb
  nc : cv.ownBlock ≠ some wb
  nr : rv.ownBlock ≠ some wb
  ap : apV cv rv
/-- a block of it -/
def inVW (wb : Nat) (cv rv : Value) (k : Nat) : Prop := k = wb ∨ cv.ownBlock = some k ∨ rv.ownBlock = some k
theorem VW.lt {w : World} {B wb vb : Nat} {since : Int} {cv rv : Value} {chs : List Chg} {rds : List (ByteArray × ByteArray)} (h : VW w B wb vb since cv rv chs rds) {k : Nat} (hk : inVW wb cv rv k) : k < w.heap.size := by
  rcases hk with rfl | e | e
  · exact World.block_lt_of_cell? _ _ h.c0
  · exact (World.ownsRow.lt h.chs k e).2
  · exact (World.ownsRow.lt h.rds k e).2
theorem VW.low {w : World} {B wb vb : Nat} {since : Int} {cv rv : Value} {chs : List Chg} {rds : List (ByteArray × ByteArray)} (h : VW w B wb vb since cv rv chs rds) {k : Nat} (hk : inVW wb cv rv k) : B ≤ k := by
  rcases hk with rfl | e | e
  · exact h.lo
  · exact (World.ownsRow.lt h.chs k e).1
  · exact (World.ownsRow.lt h.rds k e).1
theorem VW.kept {w w' : World} {B wb vb : Nat} {since : Int} {cv rv : Value} {chs : List Chg} {rds : List (ByteArray × ByteArray)} (h : VW w B wb vb since cv rv chs rds) (hk : ∀ k, inVW wb cv rv k → w'.heap[k]? = w.heap[k]?) : VW w' B wb vb since cv rv chs rds where
  c0 := (World.cell?_of_block (w := w) (hk wb (.inl rfl))).trans h.c0
  c1 := (World.cell?_of_block (w := w) (hk wb (.inl rfl))).trans h.c1
  c2 := (World.cell?_of_block (w := w) (hk wb (.inl rfl))).trans h.c2
  c3 := (World.cell?_of_block (w := w) (hk wb (.inl rfl))).trans h.c3
  soft := fun j => (World.frozen?_of_block (w := w) (hk wb (.inl rfl))).trans (h.soft j)
  chs := own_block h.chs fun k e => hk k (.inr (.inl e))
  rds := own_block h.rds fun k e => hk k (.inr (.inr e))
  lo := h.lo
  nc := h.nc
  nr := h.nr
  ap := h.ap
theorem VW.on {w w' : World} {B wb vb : Nat} {since : Int} {cv rv : Value} {chs : List Chg} {rds : List (ByteArray × ByteArray)} (h : VW w B wb vb since cv rv chs rds) (hb : Below w.heap.size w w') : VW w' B wb vb since cv rv chs rds := h.kept fun k hk => hb.block k (h.lt hk)
/-- other changes, of a row that is none of the others -/
theorem VW.setC {w : World} {B wb vb : Nat} {since : Int} {cv rv cv' : Value} {chs chs' : List Chg} {rds : List (ByteArray × ByteArray)} (h : VW w B wb vb since cv rv chs rds) (ho : ownCh w B cv' chs') (hf : ∀ k, cv'.ownBlock = some k → ¬ inVW wb cv rv k) :
    VW (w.setCell ⟨wb, 2, none⟩ cv') B wb vb since cv' rv chs' rds where
  c0 := (World.cell?_setCell_other _ _ _ _ (by simp)).trans h.c0
  c1 := (World.cell?_setCell_other _ _ _ _ (by simp)).trans h.c1
  c2 := World.cell?_setCell_same _ _ _ h.c2
  c3 := (World.cell?_setCell_other _ _ _ _ (by simp)).trans h.c3
  soft := fun j => by rw [World.frozen?_setCell]; exact h.soft j
  chs := own_block ho fun k e => Below.heap_setCell _ _ _ _ (fun e' => hf k e (.inl e'))
  rds := own_block h.rds fun k e => Below.heap_setCell _ _ _ _ (fun e' => h.nr (by rw [e, e']))
  lo := h.lo
  nc := fun e => hf wb e (.inl rfl)
  nr := h.nr
  ap := fun k e e' => hf k e (.inr (.inr e'))
/-- what is read told anew: its row has grown, or is another one -/
theorem VW.setR {w w3 : World} {B wb vb : Nat} {since : Int} {cv rv rv' : Value} {chs : List Chg} {rds rds' : List (ByteArray × ByteArray)} (h : VW w B wb vb since cv rv chs rds) (hg : w.grownBy w3 rv.ownBlock) (ho : ownSp w3 B rv' rds') (hf : ∀ k, rv'.ownBlock = some k → rv.ownBlock = some k ∨ w.heap.size ≤ k) :
    VW (w3.setCell ⟨wb, 3, none⟩ rv') B wb vb since cv rv' chs rds' := by
  have bw : w3.heap[wb]? = w.heap[wb]? := hg.block wb (h.lt (.inl rfl)) (Ne.symm h.nr)
  have nw : ∀ k, rv'.ownBlock = some k → k ≠ wb := fun k e e' => by
    rcases hf k e with e2 | e2
    · exact h.nr (by rw [e2, e'])
    · have := h.lt (k := wb) (.inl rfl); omega
  exact {
    c0 := (World.cell?_setCell_other _ _ _ _ (by simp)).trans ((World.cell?_of_block (w := w) bw).trans h.c0)
    c1 := (World.cell?_setCell_other _ _ _ _ (by simp)).trans ((World.cell?_of_block (w := w) bw).trans h.c1)
    c2 := (World.cell?_setCell_other _ _ _ _ (by simp)).trans ((World.cell?_of_block (w := w) bw).trans h.c2)
    c3 := World.cell?_setCell_same _ _ _ ((World.cell?_of_block (w := w) bw).trans h.c3)
    soft := fun j => by rw [World.frozen?_setCell]; exact (World.frozen?_of_block (w := w) bw).trans (h.soft j)
    chs := own_block h.chs fun k e => (Below.heap_setCell _ _ _ _ (fun e' => h.nc (by rw [e, e']))).trans (hg.block k (World.ownsRow.lt h.chs k e).2 (fun e' => h.ap k e e'.symm))
    rds := own_block ho fun k e => Below.heap_setCell _ _ _ _ (nw k e)
    lo := h.lo
    nc := h.nc
    nr := fun e => nw wb e rfl
    ap := fun k e e' => by
      rcases hf k e' with e2 | e2
      · exact h.ap k e e2
      · have := (World.ownsRow.lt h.chs k e).2; omega }
theorem VW.down {w : World} {B B' wb vb : Nat} {since : Int} {cv rv : Value} {chs : List Chg} {rds : List (ByteArray × ByteArray)} (h : VW w B wb vb since cv rv chs rds) (hB : B' ≤ B) : VW w B' wb vb since cv rv chs rds :=
  ⟨h.c0, h.c1, h.c2, h.c3, h.soft, ownCh_le h.chs hB, ownsRow_le h.rds hB, Nat.le_trans hB h.lo, h.nc, h.nr, h.ap⟩
/-- what is left alone: all that is none of its blocks -/
def farW (w w' : World) (wb : Nat) (cv rv cv' rv' : Value) : Prop := ∀ j, j < w.heap.size → ¬ inVW wb cv rv j → w'.heap[j]? = w.heap[j]? ∧ ¬ inVW wb cv' rv' j
theorem farW.refl (w : World) (wb : Nat) (cv rv : Value) : farW w w wb cv rv cv rv := fun _ _ h => ⟨rfl, h⟩
theorem farW.trans {w w1 w2 : World} {wb : Nat} {cv rv cv1 rv1 cv2 rv2 : Value} (h : farW w w1 wb cv rv cv1 rv1) (hs : w.heap.size ≤ w1.heap.size) (h' : farW w1 w2 wb cv1 rv1 cv2 rv2) : farW w w2 wb cv rv cv2 rv2 := fun j hj hn => by
  obtain ⟨a, b⟩ := h j hj hn
  obtain ⟨c, d⟩ := h' j (Nat.lt_of_lt_of_le hj hs) b
  exact ⟨c.trans a, d⟩
theorem farW.on {w w' : World} {wb : Nat} {cv rv : Value} (hb : Below w.heap.size w w') : farW w w' wb cv rv cv rv := fun j hj hn => ⟨hb.block j hj, hn⟩
theorem farW.setC {w : World} {wb : Nat} {cv rv cv' : Value} {n : Nat} (hf : ∀ k, cv'.ownBlock = some k → n ≤ k) {u : Value} : ∀ j, j < n → ¬ inVW wb cv rv j → (w.setCell ⟨wb, 2, none⟩ u).heap[j]? = w.heap[j]? ∧ ¬ inVW wb cv' rv j := fun j hj hn => by
  refine ⟨Below.heap_setCell _ _ _ _ (fun e => hn (.inl e)), ?_⟩
  rintro (e | e | e)
  · exact hn (.inl e)
  · have := hf j e; omega
  · exact hn (.inr (.inr e))
theorem VS_farW {w w' : World} {B vb mb n wb : Nat} {now : Int} {D : DataW Value} {g : ByteArray → Value} {R : ByteArray → List Ver} {cv rv cv' rv' : Value} (h : VS w B vb mb now n D g R) (hf : farW w w' wb cv rv cv' rv') (ha : ∀ k, inVS vb mb g k → ¬ inVW wb cv rv k) : VS w' B vb mb now n D g R ∧ ∀ k, inVS vb mb g k → ¬ inVW wb cv' rv' k :=
  ⟨h.kept fun k hk => (hf k (h.lt hk) (ha k hk)).1, fun k hk => (hf k (h.lt hk) (ha k hk)).2⟩
theorem VW_farW {w w' : World} {B vb wb ob : Nat} {since : Int} {chs : List Chg} {rds : List (ByteArray × ByteArray)} {co ro cv rv cv' rv' : Value} (h : VW w B ob vb since co ro chs rds) (hf : farW w w' wb cv rv cv' rv') (ha : ∀ k, inVW ob co ro k → ¬ inVW wb cv rv k) : VW w' B ob vb since co ro chs rds ∧ ∀ k, inVW ob co ro k → ¬ inVW wb cv' rv' k :=
  ⟨h.kept fun k hk => (hf k (h.lt hk) (ha k hk)).1, fun k hk => (hf k (h.lt hk) (ha k hk)).2⟩
end Go.Proofs.YtpbhcjkllfonhaaGreat
