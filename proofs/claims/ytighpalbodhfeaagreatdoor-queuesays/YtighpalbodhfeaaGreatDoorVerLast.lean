/-
  Versions of a row, as they lie in memory; what versions.last returns of them: the place of the last one up to a deed, -1 if there is none. Nothing that was there is changed.
-/
import Derived.Test.YtighpalbodhfeaaGreatDoorBase
import Derived.RangeFuncNested
import Derived.RangeFuncBound
import Derived.RangeFuncCalls
import Derived.RangeFuncLeaves
import Derived.Shelf.Abstract
import Derived.Shelf.RegionOpen
import Derived.OwnWalkIn
import Derived.TacticsInMore
import Derived.LoopNIn
import Derived.LoopIn
namespace Go.Proofs.YtighpalbodhfeaaGreatDoor
open Go.RowKit Go.Joins Go.Shelf
attribute [local go_sem] Oper.semAt_some

structure Ver where
  deed : Int
  val : ByteArray
  gone : Bool
instance : Inhabited Ver := ⟨⟨0, ByteArray.empty, false⟩⟩
def verV (x : Ver) : Value := .agg #[.int .i64 x.deed, .string x.val, .bool x.gone]
/-- versions, three cells each, lie in block g from its head on -/
def versAt (w : World) (g : Nat) (l : List Ver) : Prop :=
  ∀ i (h : i < l.length), w.cell? ⟨g, i * 3, none⟩ = some (.int .i64 l[i].deed) ∧ w.cell? ⟨g, i * 3 + 1, none⟩ = some (.string l[i].val) ∧ w.cell? ⟨g, i * 3 + 2, none⟩ = some (.bool l[i].gone)
theorem versAt_on {w w' : World} {g : Nat} {l : List Ver} (hb : Below w.heap.size w w') (h : versAt w g l) : versAt w' g l := fun i hi => ⟨cell_on hb (h i hi).1, cell_on hb (h i hi).2.1, cell_on hb (h i hi).2.2⟩
def uptoV {α : Type} (f : Nat → α) (k : Nat) : List α := (List.range k).map f
theorem uptoV_succ {α : Type} (f : Nat → α) (k : Nat) : uptoV f (k + 1) = uptoV f k ++ [f k] := by simp [uptoV, List.range_succ]
theorem uptoV_length {α : Type} (f : Nat → α) (k : Nat) : (uptoV f k).length = k := by simp [uptoV]
/-- what comes in the j-th round, from the end on -/
def backV (l : List Ver) (j : Nat) : Nat × Ver := (l.length - 1 - j, (l[l.length - 1 - j]?).getD default)

set_option maxRecDepth 100000 in
set_option maxHeartbeats 2000000 in
theorem back1_in (F : Fence) (n : Nat) (hF : F.fn 178) (hro : F.round = none) (hn : 1 ≤ n) (l Bs n₀ b cap : Nat) (vs : List Ver) (hlen : vs.length ≤ 1000000) (hb : b < n₀) (hBl : Bs < n₀) (J Jx : List (Nat × Ver) → World → Prop)
    (hY : ∀ pre x W, J pre W → pre.length < vs.length → YieldAt F (n - 1) Tryz.prog l #[.int .i64 (x.1 : Int), verV x.2] W fun e W' =>
      (e = .returned (.bool true) ∧ J (pre ++ [x]) W' ∧ Below n₀ W W') ∨ (e = .returned (.bool false) ∧ Jx (pre ++ [x]) W'))
    (W : World) (hBs : W.cell? ⟨Bs, 0, none⟩ = some (.slice (some ⟨b, 0, none⟩) vs.length cap)) (hc : versAt W b vs) (h0 : J [] W) :
    CallsIn F n Tryz.prog 178 #[.func (.yield l) #[] #[], .pointer (some ⟨Bs, 0, none⟩)] W fun e W' => (∃ v, e = .returned v) ∧
      ((∃ ys, ys = uptoV (backV vs) vs.length ∧ J ys W') ∨ (∃ pre, (∃ k, k ≤ vs.length ∧ pre = uptoV (backV vs) k) ∧ Jx pre W')) := by
  refine callsIn_of_wp Tryz.func178 rfl hF ?_ hro
  simp only [Tryz.ntmps178, List.size_toArray, List.length_cons, List.length_nil, Nat.reduceAdd, Nat.reduceSub, Array.replicate_succ, Array.replicate_zero, List.push_toArray, List.append_toArray, List.nil_append, List.cons_append]
  gi_wp2
  gi_loopw [3] (fun i wr => ∃ k : Nat, k ≤ vs.length ∧ i = .int .i64 ((vs.length : Int) - 1 - k) ∧ J (uptoV (backV vs) k) wr ∧ Below n₀ W wr)
    (fun i _ => (intOf i + 1).toNat)
  case atStart => exact ⟨0, Nat.zero_le _, by simp, h0, Below.refl _ _⟩
  case round =>
    obtain ⟨k, hk, rfl, hJs, hnx⟩ := hrel
    have hbs := (hnx.cell (p := ⟨Bs, 0, none⟩) hBl).trans hBs
    by_cases hlt : k < vs.length
    · obtain ⟨p, hp⟩ : ∃ p, p = vs.length - 1 - k := ⟨_, rfl⟩
      have hpl : p < vs.length := by omega
      have hpi : (vs.length : Int) - 1 - (k : Int) = (p : Int) := by omega
      have hbk : backV vs k = (p, vs[p]) := by unfold backV; rw [← hp, List.getElem?_eq_getElem hpl]; rfl
      obtain ⟨fn, tmps, assign, body, hy, hR⟩ := hY _ (p, vs[p]) wr hJs (by rw [uptoV_length]; exact hlt)
      dsimp only [verV] at hy
      obtain ⟨d0, d1, d2⟩ := hc p hpl
      have c0 := (hnx.cell (p := ⟨b, p * 3, none⟩) hb).trans d0
      have c1 := (hnx.cell (p := ⟨b, p * 3 + 1, none⟩) hb).trans d1
      have c2 := (hnx.cell (p := ⟨b, p * 3 + 2, none⟩) hb).trans d2
      have HP : Hid (p = vs.length - 1 - k) := hp
      have HBK : Hid (backV vs k = (p, vs[p])) := hbk
      clear hp hbk d0 d1 d2
      rw [hpi]
      have HPI : Hid ((vs.length : Int) - 1 - (k : Int) = (p : Int)) := hpi
      clear hpi
      gi_wp2
      refine hR.mono ?_
      rintro e W3 (⟨rfl, hJ3, hk3⟩ | ⟨rfl, hJx3⟩)
      · gi_wp2
        go_roundw
        case rel => exact ⟨k + 1, by omega, by have := HPI.out; congr 1; omega, by rw [uptoV_succ, HBK.out]; exact hJ3, hnx.trans hk3⟩
        case measure => simp [intOf]
      · gi_wp2
        refine bodyPost_ret (results_none rfl _ _ _) rfl ?_
        exact ⟨⟨_, rfl⟩, .inr ⟨_, ⟨k + 1, by omega, by rw [uptoV_succ, HBK.out]⟩, hJx3⟩⟩
    · obtain rfl : k = vs.length := by omega
      have e1 : (vs.length : Int) - 1 - (vs.length : Int) = -1 := by omega
      rw [e1]
      gi_wp2
      go_end0
      exact ⟨⟨_, rfl⟩, .inl ⟨_, rfl, hJs⟩⟩
set_option maxRecDepth 100000 in
set_option maxHeartbeats 1000000 in
theorem back1_nil_in (F : Fence) (n : Nat) (hF : F.fn 178) (hro : F.round = none) (l Bs : Nat) (J : List (Nat × Ver) → World → Prop) (W : World) (hBs : W.cell? ⟨Bs, 0, none⟩ = some (.slice none 0 0)) (h0 : J [] W) :
    CallsIn F n Tryz.prog 178 #[.func (.yield l) #[] #[], .pointer (some ⟨Bs, 0, none⟩)] W fun e W' => (∃ v, e = .returned v) ∧ J [] W' := by
  refine callsIn_of_wp Tryz.func178 rfl hF ?_ hro
  simp only [Tryz.ntmps178, List.size_toArray, List.length_cons, List.length_nil, Nat.reduceAdd, Nat.reduceSub, Array.replicate_succ, Array.replicate_zero, List.push_toArray, List.append_toArray, List.nil_append, List.cons_append]
  gi_wp2
  gi_loopw [3] (fun i wr => i = .int .i64 (-1) ∧ J [] wr) (fun _ _ => 0)
  case atStart => exact ⟨rfl, h0⟩
  case round =>
    obtain ⟨rfl, hJs⟩ := hrel
    gi_wp2
    go_end0
    exact ⟨⟨_, rfl⟩, hJs⟩
set_option maxHeartbeats 1000000 in
theorem back_in (F : Fence) (n : Nat) (hF : F.fn 156) (hro : F.round = none) (a : Option Addr) (len cap : Nat) (w : World) :
    CallsIn F n Tryz.prog 156 #[.slice a len cap] w fun e w' => e = .returned (.func (.func 178) #[] #[.pointer (some ⟨w.heap.size, 0, none⟩)]) ∧ w' = w.alloc (.cells #[.slice a len cap] 65) := by
  refine callsIn_of_wp Tryz.func156 rfl hF ?_ hro
  simp only [Tryz.ntmps156, List.size_toArray, List.length_cons, List.length_nil, Nat.reduceAdd, Nat.reduceSub, Array.replicate_succ, Array.replicate_zero, List.push_toArray, List.append_toArray, List.nil_append, List.cons_append]
  gi_wp2
  go_ret
  exact ⟨rfl, rfl⟩
/-- the slice value holds these versions, in a block below n₀; or it is nil and there are none -/
def versIn (n₀ : Nat) (W : World) (ao : Option Addr) (cap : Nat) (vs : List Ver) : Prop := (ao = none ∧ cap = 0 ∧ vs = []) ∨ ∃ b, ao = some ⟨b, 0, none⟩ ∧ b < n₀ ∧ versAt W b vs
theorem versIn.below {n₀ : Nat} {A B : World} (h : Below n₀ A B) {ao : Option Addr} {cap : Nat} {vs : List Ver} : versIn n₀ A ao cap vs → versIn n₀ B ao cap vs
  | .inl e => .inl e
  | .inr ⟨b, e, hb, hc⟩ => .inr ⟨b, e, hb, fun i hi => ⟨(h.cell (p := ⟨b, i * 3, none⟩) hb).trans (hc i hi).1, (h.cell (p := ⟨b, i * 3 + 1, none⟩) hb).trans (hc i hi).2.1, (h.cell (p := ⟨b, i * 3 + 2, none⟩) hb).trans (hc i hi).2.2⟩⟩
theorem back_stops (F : Fence) (n : Nat) (hF : F.fn 178) (hro : F.round = none) (hn : 1 ≤ n) (Bs n₀ : Nat) (ao : Option Addr) (cap : Nat) (vs : List Ver) (hlen : vs.length ≤ 1000000) (w : World) (hBs : Bs < n₀) (hn₀ : n₀ ≤ w.heap.size)
    (hc : w.cell? ⟨Bs, 0, none⟩ = some (.slice ao vs.length cap)) (hI : versIn n₀ w ao cap vs) :
    SeqStopsK F n Tryz.prog 178 #[.pointer (some ⟨Bs, 0, none⟩)] (fun x : Nat × Ver => #[Value.int .i64 (x.1 : Int), verV x.2]) (Below n₀) (fun ys => ys = uptoV (backV vs) vs.length) (fun pre => ∃ k, k ≤ vs.length ∧ pre = uptoV (backV vs) k) vs.length w := fun l J Jx W hW _ _ hY h0 => by
  have hc' := (hW.cell (p := ⟨Bs, 0, none⟩) (by show Bs < _; omega)).trans hc
  rcases hI.below (hW.mono hn₀) with ⟨rfl, rfl, rfl⟩ | ⟨b, rfl, hb, hcs⟩
  · exact (back1_nil_in F n hF hro l Bs J W hc' h0).mono fun e W' ⟨he, hj⟩ => ⟨he, .inl ⟨_, rfl, hj⟩⟩
  · exact back1_in F n hF hro hn l Bs n₀ b cap vs hlen hb hBs J Jx hY W hc' hcs h0

/-- the place of the last version up to a deed -/
def lastP (vs : List Ver) (n : Int) : Int := match (vs.reverse.findIdx? fun x => decide (x.deed ≤ n)) with
  | some j => (vs.length : Int) - 1 - j
  | none => -1
theorem back_get (vs : List Ver) (k : Nat) (hk : k ≤ vs.length) : (uptoV (backV vs) k).map (·.2) = vs.reverse.take k := by
  apply List.ext_getElem
  · simp [uptoV]; omega
  · intro i h1 h2
    have hi : i < k := by simpa [uptoV] using h1
    have : vs.length - 1 - i < vs.length := by omega
    simp [uptoV, backV, this]
theorem back_fst (vs : List Ver) {k j : Nat} (hj : j < k) : ((uptoV (backV vs) k)[j]'(by simpa [uptoV] using hj)).1 = vs.length - 1 - j := by simp [uptoV, backV]
theorem last_none {vs : List Ver} {n : Int} (h : ∀ y ∈ uptoV (backV vs) vs.length, n < y.2.deed) : lastP vs n = -1 := by
  unfold lastP
  have : vs.reverse.findIdx? (fun x => decide (x.deed ≤ n)) = none := by
    rw [List.findIdx?_eq_none_iff]
    intro x hx
    have e := back_get vs vs.length (Nat.le_refl _)
    rw [List.take_of_length_le (by simp)] at e
    rw [← e] at hx
    obtain ⟨y, hy, rfl⟩ := List.mem_map.1 hx
    have := h y hy
    simp; omega
  rw [this]
theorem last_some {vs : List Ver} {n : Int} {k : Nat} (hk : k ≤ vs.length) {pre : List (Nat × Ver)} {x : Nat × Ver} (e : pre ++ [x] = uptoV (backV vs) k) (h : ∀ y ∈ pre, n < y.2.deed) (hx : x.2.deed ≤ n) : lastP vs n = (x.1 : Int) ∧ x.1 < vs.length ∧ vs[x.1]? = some x.2 := by
  have hkl : k = pre.length + 1 := by have := congrArg List.length e; simp [uptoV] at this; omega
  have hx0 : (uptoV (backV vs) k)[pre.length]? = some x := by rw [← e]; simp
  have hxe : backV vs pre.length = x := by
    have hlt : pre.length < k := by omega
    simpa [uptoV, hlt] using hx0
  have h1 : x.1 = vs.length - 1 - pre.length := by rw [← hxe]; rfl
  have h2 : vs[x.1]? = some x.2 := by
    rw [h1, ← hxe]
    unfold backV
    rw [List.getElem?_eq_getElem (by omega)]
    rfl
  refine ⟨?_, by omega, h2⟩
  unfold lastP
  have hf : vs.reverse.findIdx? (fun x => decide (x.deed ≤ n)) = some pre.length := by
    rw [List.findIdx?_eq_some_iff_getElem]
    have hr : ∀ j (hj : j < vs.reverse.length), vs.reverse[j] = (backV vs j).2 := by
      intro j hj
      have hj' : j < vs.length := by simpa using hj
      unfold backV
      rw [List.getElem_reverse, List.getElem?_eq_getElem (by omega)]
      rfl
    refine ⟨by simp; omega, ?_, fun j hj => ?_⟩
    · rw [hr, hxe]; simpa using hx
    · rw [hr]
      have hy : backV vs j ∈ pre := by
        have : (uptoV (backV vs) k)[j]? = some (backV vs j) := by
          have : j < k := by omega
          simp [uptoV, this]
        rw [← e, List.getElem?_append_left hj] at this
        exact List.mem_of_getElem? this
      have := h _ hy
      simp; omega
  rw [hf]
  show (vs.length : Int) - 1 - (pre.length : Int) = (x.1 : Int)
  omega
end Go.Proofs.YtighpalbodhfeaaGreatDoor

/-
  What versions.last returns of versions that lie in memory. Nothing that was there is changed.
-/
namespace Go.Proofs.YtighpalbodhfeaaGreatDoor
open Go.RowKit Go.Joins Go.Shelf
attribute [local go_sem] Oper.semAt_some

/-- none of those that have come is up to the deed -/
def aheadV (n : Int) (pre : List (Nat × Ver)) : Prop := ∀ y ∈ pre, n < y.2.deed
theorem cell_nl (W : World) (v : Value) (t : TypeId) : (W.alloc (.cells #[v] t)).cell? ⟨W.heap.size, 0, none⟩ = some v ∧ (W.alloc (.cells #[v] t)).frozen? ⟨W.heap.size, 0, none⟩ = false := ⟨cell_new W #[v] t 0, frozen_new W #[v] t 0⟩
theorem cell_al {W : World} {a : Addr} {v : Value} (o : Obj) (h : W.cell? a = some v) : (W.alloc o).cell? a = some v := cell_on (below_alloc1 _ _) h
theorem frozen_al {W : World} {a : Addr} {v : Value} (o : Obj) (h : W.cell? a = some v) (hf : W.frozen? a = false) : (W.alloc o).frozen? a = false := frozen_on (below_alloc1 _ _) (World.block_lt_of_cell? _ _ h) hf

set_option maxRecDepth 100000 in
set_option maxHeartbeats 4000000 in
theorem last_in (F : Fence) (m : Nat) (hL : F.fn 137) (hBk : F.fn 156) (hB1 : F.fn 178) (hro : F.round = none) (hm : 3 ≤ m) (ao : Option Addr) (cap : Nat) (vs : List Ver) (n : Int) (w : World) (hlen : vs.length ≤ 1000000) (hI : versIn w.heap.size w ao cap vs) :
    CallsIn F m Tryz.prog 137 #[.slice ao vs.length cap, .int .i64 n] w fun e W' => e = .returned (.int .i64 (lastP vs n)) ∧ Below w.heap.size w W' := by
  have h1 : 1 ≤ m := by omega
  refine callsIn_of_wp_marks Tryz.func137 rfl hL ?_ hro
  simp only [Tryz.ntmps137, List.size_toArray, List.length_cons, List.length_nil, Nat.reduceAdd, Nat.reduceSub, Array.replicate_succ, Array.replicate_zero, List.push_toArray, List.append_toArray, List.nil_append, List.cons_append]
  gi_wp2_with (gi_at_call 156; refine (back_in F (m - 1) hBk hro _ _ _ _).mono ?_; rintro e w' ⟨rfl, rfl⟩)
  have c0 := cell_nl w (.int .i64 n) 3
  have c1 := cell_nl (w.alloc (.cells #[.int .i64 n] 3)) (.int .i64 0) 3
  have c2 := cell_nl ((w.alloc (.cells #[.int .i64 n] 3)).alloc (.cells #[.int .i64 0] 3)) (.slice ao vs.length cap) 65
  simp only [World.size_alloc] at c1 c2
  have hB0 : Below w.heap.size w (((w.alloc (.cells #[.int .i64 n] 3)).alloc (.cells #[.int .i64 0] 3)).alloc (.cells #[.slice ao vs.length cap] 65)) := (((Below.refl _ w).alloc (Nat.le_refl _) _).alloc (by simp) _).alloc (by simp; omega) _
  have hI2 : versIn (w.heap.size + 3) (((w.alloc (.cells #[.int .i64 n] 3)).alloc (.cells #[.int .i64 0] 3)).alloc (.cells #[.slice ao vs.length cap] 65)) ao cap vs := by
    rcases hI.below hB0 with h | ⟨b, e, hb, h⟩
    · exact .inl h
    · exact .inr ⟨b, e, by omega, h⟩
  refine wpIn_rangeFunc_ownH hro h1 (gf := 178) (lb := #[.pointer (some ⟨w.heap.size + 1 + 1, 0, none⟩)]) rfl hB1 (enters_of Tryz.func178 (by kernel_rfl) rfl)
    (back_stops F (m - 1) hB1 hro (by omega) (w.heap.size + 1 + 1) (w.heap.size + 3) ao cap vs hlen _ (by omega) (by simp) c2.1 hI2) belowK_t (belowK_b (by simp)) (Below.refl _ _) (fun _ => rfl)
    (fun pre W => (aheadV n pre ∧ W.cell? ⟨w.heap.size + 1 + 1, 0, none⟩ = some (.slice ao vs.length cap) ∧ W.cell? ⟨w.heap.size, 0, none⟩ = some (.int .i64 n) ∧ W.cell? ⟨w.heap.size + 1, 0, none⟩ = some (.int .i64 0) ∧ W.frozen? ⟨w.heap.size + 1, 0, none⟩ = false) ∧ Below w.heap.size w W)
    (fun c pre W => (c = .ret ∧ (∃ pre' x, pre = pre' ++ [x] ∧ aheadV n pre' ∧ x.2.deed ≤ n ∧ W.cell? ⟨w.heap.size + 1, 0, none⟩ = some (.int .i64 (x.1 : Int)))) ∧ Below w.heap.size w W)
    (OwnFrom.and (Own.from (fun s A B row hs hg hr => ⟨hs.1, cell_kept hs.2.1 hg hr, cell_kept hs.2.2.1 hg hr, cell_kept hs.2.2.2.1 hg hr, (frozen_kept hs.2.2.2.1 hg hr).trans hs.2.2.2.2⟩) _) (ownFrom_below (Nat.le_refl _) (by simp; omega)))
    (fun c => OwnFrom.and (Own.from (fun s A B row hs hg hr => by obtain ⟨e, pre', x, h2, h3, h4, h5⟩ := hs; exact ⟨e, pre', x, h2, h3, h4, cell_kept h5 hg hr⟩) _) (ownFrom_below (Nat.le_refl _) (by simp; omega)))
    ⟨⟨by simp [aheadV], c2.1, cell_al _ (cell_al _ c0.1), cell_al _ c1.1, frozen_al _ c1.1 c1.2⟩, hB0⟩
    (fun x a' W => ∃ Bx, W.cell? ⟨Bx, 0, none⟩ = some (.int .i64 x.2.deed) ∧ a' = { tmps := #[.slice ao vs.length cap, .int .i64 n, undef, .pointer (some ⟨w.heap.size, 0, none⟩), .pointer (some ⟨w.heap.size + 1, 0, none⟩), .int .i64 (x.1 : Int), .pointer (some ⟨Bx, 0, none⟩), .slice ao vs.length cap, .func (.func 178) #[] #[.pointer (some ⟨w.heap.size + 1 + 1, 0, none⟩)], .int .i64 (x.1 : Int), verV x.2, undef, undef, undef, undef, undef], defers := [] })
    (fun x a' => Own.from (fun s A B row hs hg hr => by obtain ⟨Bx, hc, e⟩ := hs; exact ⟨Bx, cell_kept hc hg hr, e⟩) _) ?assign ?body ?done ?stop
  case assign =>
    rintro l pre x W K ⟨⟨hp, hcs, hcn, hcr, hfr⟩, hB⟩ hK
    obtain ⟨xi, xv⟩ := x
    dsimp only [verV] at hK ⊢
    gi_wp2
    exact hK _ _ ((KeepsOthers.alloc _ _).from _) ((Below.refl _ W).alloc (by have h3 : w.heap.size + 1 + 1 < W.heap.size := World.block_lt_of_cell? _ _ hcs; omega) _) ⟨⟨hp, cell_al _ hcs, cell_al _ hcn, cell_al _ hcr, frozen_al _ hcr hfr⟩, hB.alloc hB.size _⟩ ⟨W.heap.size, cell_new W _ _ 0, rfl⟩
  case body =>
    rintro l pre x a' W hl ⟨r, hr⟩ ⟨⟨hp, hcs, hcn, hcr, hfr⟩, hB⟩ ⟨Bx, hbx, rfl⟩ hlt
    by_cases hx : x.2.deed ≤ n
    · gi_wp2
      exact ⟨(KeepsOthers.setCell _ _ _).from _, ⟨rfl, pre, x, rfl, hp, hx, World.cell?_setCell_same' _ _ _ (by rw [hcr]; rfl)⟩, hB.setCell (p := ⟨w.heap.size + 1, 0, none⟩) (by simp) _⟩
    · gi_wp2
      exact ⟨(KeepsOthers.refl _).from _, Below.refl _ _, ⟨fun y hy => (List.mem_append.1 hy).elim (hp y) (fun e => by simp at e; subst e; omega), hcs, hcn, hcr, hfr⟩, hB⟩
  case done =>
    rintro D ys W hD rfl ⟨⟨hne, _, _, hcr, hfr⟩, hB⟩ hK
    gi_wp2
    have hK' := (KeepsOthers.setCell W ⟨w.heap.size + 1, 0, none⟩ (.int .i64 (-1))).same D _ hK rfl
    refine ⟨by simp, .inl ⟨_, _, rfl, run_takeDeferred hK', ?_⟩⟩
    have hc5 := cell_kept (World.cell?_setCell_same' W ⟨w.heap.size + 1, 0, none⟩ (.int .i64 (-1)) (by rw [hcr]; rfl)) (grownBy_putObj' _ D (.deferred none)) (fun r e => by cases e; exact ⟨_, hK', rfl⟩)
    refine ⟨.int .i64 (-1), ?_, by rw [last_none hne], (hB.setCell (p := ⟨w.heap.size + 1, 0, none⟩) (by simp) _).trans (belowK_b (w := w) (Nat.le_refl _) _ D _ _ (by simp at hD; omega) hK' rfl rfl)⟩
    simp [results, Tryz.f137, go_sem, hc5]
  case stop =>
    rintro D c pre W hD ⟨k, hk, hpre⟩ ⟨⟨rfl, pre', x, e, hne, hx, hcr⟩, hB⟩ hK
    gi_wp2
    refine ⟨by simp, .inl ⟨_, _, rfl, run_takeDeferred hK, ?_⟩⟩
    have hc5 := cell_kept hcr (grownBy_putObj' _ D (.deferred none)) (fun r e => by cases e; exact ⟨_, hK, rfl⟩)
    refine ⟨.int .i64 (x.1 : Int), ?_, by rw [(last_some hk (e.symm.trans hpre) hne hx).1], hB.trans (belowK_b (w := w) (Nat.le_refl _) W D _ _ (by simp at hD; omega) hK rfl rfl)⟩
    simp [results, Tryz.f137, go_sem, hc5]
theorem last_any (ao : Option Addr) (cap : Nat) (vs : List Ver) (n : Int) (w : World) (hlen : vs.length ≤ 1000000) (hI : versIn w.heap.size w ao cap vs) :
    Calls Tryz.prog 137 #[.slice ao vs.length cap, .int .i64 n] w fun e W' => e = .returned (.int .i64 (lastP vs n)) ∧ Below w.heap.size w W' :=
  (callsIn_wide (n := 3)).1 (last_in Fence.wide 3 trivial trivial trivial rfl (Nat.le_refl _) ao cap vs n w hlen hI)
end Go.Proofs.YtighpalbodhfeaaGreatDoor
