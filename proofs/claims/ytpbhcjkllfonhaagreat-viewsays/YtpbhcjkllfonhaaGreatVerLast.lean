/-
  Versions of a row, as they lie in memory; what versions.last returns of them: the place of the last one up to a deed, -1 if there is none. Nothing that was there is changed.
-/
import Derived.Test.YtpbhcjkllfonhaaGreatStr
import Derived.RangeFuncNested
import Derived.RangeFuncBound
import Derived.RangeFuncCalls
import Derived.RangeFuncLeaves
import Derived.Shelf.Abstract
import Derived.Shelf.RegionOpen
import Derived.OwnWalkIn
import Derived.TacticsInMore
import Derived.LoopNIn
import Derived.LoopIn
namespace Go.Proofs.YtpbhcjkllfonhaaGreat
open Go.RowKit Go.Joins Go.Shelf
attribute [local go_sem] Oper.semAt_some

structure Ver where
  deed : Int
  val : ByteArray
  gone : Bool
instance : Inhabited Ver := ⟨⟨0, ByteArray.empty, false⟩⟩
def verV (x : Ver) : Value := .agg #[.int .i64 x.deed, .string x.val, .bool x.gone]
/-- versions, three cells each, lie in block g from its head on -/
def versAt (w : World) (g : Nat) (l : List Ver) : Prop :=
  ∀ i (h : i < l.length), w.cell? ⟨g, i * 3, none⟩ = some (.int .i64 l[i].deed) ∧ w.cell? ⟨g, i * 3 + 1, none⟩ = some (.string l[i].val) ∧ w.cell? ⟨g, i * 3 + 2, none⟩ = some (.bool l[i].gone)
theorem versAt_on {w w' : World} {g : Nat} {l : List Ver} (hb : Below w.heap.size w w') (h : versAt w g l) : versAt w' g l := fun i hi => ⟨cell_on hb (h i hi).1, cell_on hb (h i hi).2.1, cell_on hb (h i hi).2.2⟩
def uptoV {α : Type} (f : Nat → α) (k : Nat) : List α := (List.range k).map f
theorem uptoV_succ {α : Type} (f : Nat → α) (k : Nat) : uptoV f (k + 1) = uptoV f k ++ [f k] := by simp [uptoV, List.range_succ]
theorem uptoV_length {α : Type} (f : Nat → α) (k : Nat) : (uptoV f k).length = k := by simp [uptoV]
/-- what comes in the j-th round, from the end on -/
def backV (l : List Ver) (j : Nat) : Nat × Ver := (l.length - 1 - j, (l[l.length - 1 - j]?).getD default)

set_option maxRecDepth 100000 in
set_option maxHeartbeats 2000000 in
theorem back1_in (F : Fence) (n : Nat) (hF : F.fn 104) (hro : F.round = none) (hn : 1 ≤ n) (l Bs n₀ b cap : Nat) (vs : List Ver) (hlen : vs.length ≤ 1000000) (hb : b < n₀) (hBl : Bs < n₀) (J Jx : List (Nat × Ver) → World → Prop)
    (hY : ∀ pre x W, J pre W → pre.length < vs.length → YieldAt F (n - 1) Tryz.prog l #[.int .i64 (x.1 : Int), verV x.2] W fun e W' =>
      (e = .returned (.bool true) ∧ J (pre ++ [x]) W' ∧ Below n₀ W W') ∨ (e = .returned (.bool false) ∧ Jx (pre ++ [x]) W'))
    (W : World) (hBs : W.cell? ⟨Bs, 0, none⟩ = some (.slice (some ⟨b, 0, none⟩) vs.length cap)) (hc : versAt W b vs) (h0 : J [] W) :
    CallsIn F n Tryz.prog 104 #[.func (.yield l) #[] #[], .pointer (some ⟨Bs, 0, none⟩)] W fun e W' => (∃ v, e = .returned v) ∧
      ((∃ ys, ys = uptoV (backV vs) vs.length ∧ J ys W') ∨ (∃ pre, (∃ k, k ≤ vs.length ∧ pre = uptoV (backV vs) k) ∧ Jx pre W')) := by
  refine callsIn_of_wp Tryz.func104 rfl hF ?_ hro
  simp only [Tryz.ntmps104, List.size_toArray, List.length_cons, List.length_nil, Nat.reduceAdd, Nat.reduceSub, Array.replicate_succ, Array.replicate_zero, List.push_toArray, List.append_toArray, List.nil_append, List.cons_append]
  gi_wp2
  gi_loopw [3] (fun i wr => ∃ k : Nat, k ≤ vs.length ∧ i = .int .i64 ((vs.length : Int) - 1 - k) ∧ J (uptoV (backV vs) k) wr ∧ Below n₀ W wr)
    (fun i _ => (intOf i + 1).toNat)
  case atStart => exact ⟨0, Nat.zero_le _, by simp, h0, Below.refl _ _⟩
  case round =>
    obtain ⟨k, hk, rfl, hJs, hnx⟩ := hrel
    have hbs := (hnx.cell (p := ⟨Bs, 0, none⟩) hBl).trans hBs
    by_cases hlt : k < vs.length
    · obtain ⟨p, hp⟩ : ∃ p, p = vs.length - 1 - k := ⟨_, rfl⟩
      have hpl : p < vs.length := by omega
      have hpi : (vs.length : Int) - 1 - (k : Int) = (p : Int) := by omega
      have hbk : backV vs k = (p, vs[p]) := by unfold backV; rw [← hp, List.getElem?_eq_getElem hpl]; rfl
      obtain ⟨fn, tmps, assign, body, hy, hR⟩ := hY _ (p, vs[p]) wr hJs (by rw [uptoV_length]; exact hlt)
      dsimp only [verV] at hy
      obtain ⟨d0, d1, d2⟩ := hc p hpl
      have c0 := (hnx.cell (p := ⟨b, p * 3, none⟩) hb).trans d0
      have c1 := (hnx.cell (p := ⟨b, p * 3 + 1, none⟩) hb).trans d1
      have c2 := (hnx.cell (p := ⟨b, p * 3 + 2, none⟩) hb).trans d2
      have HP : Hid (p = vs.length - 1 - k) := hp
      have HBK : Hid (backV vs k = (p, vs[p])) := hbk
      clear hp hbk d0 d1 d2
      rw [hpi]
      have HPI : Hid ((vs.length : Int) - 1 - (k : Int) = (p : Int)) := hpi
      clear hpi
      gi_wp2
      refine hR.mono ?_
      rintro e W3 (⟨rfl, hJ3, hk3⟩ | ⟨rfl, hJx3⟩)
      · gi_wp2
        go_roundw
        case rel => exact ⟨k + 1, by omega, by have := HPI.out; congr 1; omega, by rw [uptoV_succ, HBK.out]; exact hJ3, hnx.trans hk3⟩
        case measure => simp [intOf]
      · gi_wp2
        refine bodyPost_ret (results_none rfl _ _ _) rfl ?_
        exact ⟨⟨_, rfl⟩, .inr ⟨_, ⟨k + 1, by omega, by rw [uptoV_succ, HBK.out]⟩, hJx3⟩⟩
    · obtain rfl : k = vs.length := by omega
      have e1 : (vs.length : Int) - 1 - (vs.length : Int) = -1 := by omega
      rw [e1]
      gi_wp2
      go_end0
      exact ⟨⟨_, rfl⟩, .inl ⟨_, rfl, hJs⟩⟩
set_option maxRecDepth 100000 in
set_option maxHeartbeats 1000000 in
theorem back1_nil_in (F : Fence) (n : Nat) (hF : F.fn 104) (hro : F.round = none) (l Bs : Nat) (J : List (Nat × Ver) → World → Prop) (W : World) (hBs : W.cell? ⟨Bs, 0, none⟩ = some (.slice none 0 0)) (h0 : J [] W) :
    CallsIn F n Tryz.prog 104 #[.func (.yield l) #[] #[], .pointer (some ⟨Bs, 0, none⟩)] W fun e W' => (∃ v, e = .returned v) ∧ J [] W' := by
  refine callsIn_of_wp Tryz.func104 rfl hF ?_ hro
  simp only [Tryz.ntmps104, List.size_toArray, List.length_cons, List.length_nil, Nat.reduceAdd, Nat.reduceSub, Array.replicate_succ, Array.replicate_zero, List.push_toArray, List.append_toArray, List.nil_append, List.cons_append]
  gi_wp2
  gi_loopw [3] (fun i wr => i = .int .i64 (-1) ∧ J [] wr) (fun _ _ => 0)
  case atStart => exact ⟨rfl, h0⟩
  case round =>
    obtain ⟨rfl, hJs⟩ := hrel
    gi_wp2
    go_end0
    exact ⟨⟨_, rfl⟩, hJs⟩
set_option maxHeartbeats 1000000 in
theorem back_in (F : Fence) (n : Nat) (hF : F.fn 89) (hro : F.round = none) (a : Option Addr) (len cap : Nat) (w : World) :
    CallsIn F n Tryz.prog 89 #[.slice a len cap] w fun e w' => e = .returned (.func (.func 104) #[] #[.pointer (some ⟨w.heap.size, 0, none⟩)]) ∧ w' = w.alloc (.cells #[.slice a len cap] 76) := by
  refine callsIn_of_wp Tryz.func89 rfl hF ?_ hro
  simp only [Tryz.ntmps89, List.size_toArray, List.length_cons, List.length_nil, Nat.reduceAdd, Nat.reduceSub, Array.replicate_succ, Array.replicate_zero, List.push_toArray, List.append_toArray, List.nil_append, List.cons_append]
  gi_wp2
  go_ret
  exact ⟨rfl, rfl⟩
/-- the slice value holds these versions, in a block below n₀; or it is nil and there are none -/
def versIn (n₀ : Nat) (W : World) (ao : Option Addr) (cap : Nat) (vs : List Ver) : Prop := (ao = none ∧ cap = 0 ∧ vs = []) ∨ ∃ b, ao = some ⟨b, 0, none⟩ ∧ b < n₀ ∧ versAt W b vs
theorem versIn.below {n₀ : Nat} {A B : World} (h : Below n₀ A B) {ao : Option Addr} {cap : Nat} {vs : List Ver} : versIn n₀ A ao cap vs → versIn n₀ B ao cap vs
  | .inl e => .inl e
  | .inr ⟨b, e, hb, hc⟩ => .inr ⟨b, e, hb, fun i hi => ⟨(h.cell (p := ⟨b, i * 3, none⟩) hb).trans (hc i hi).1, (h.cell (p := ⟨b, i * 3 + 1, none⟩) hb).trans (hc i hi).2.1, (h.cell (p := ⟨b, i * 3 + 2, none⟩) hb).trans (hc i hi).2.2⟩⟩
theorem back_stops (F : Fence) (n : Nat) (hF : F.fn 104) (hro : F.round = none) (hn : 1 ≤ n) (Bs n₀ : Nat) (ao : Option Addr) (cap : Nat) (vs : List Ver) (hlen : vs.length ≤ 1000000) (w : World) (hBs : Bs < n₀) (hn₀ : n₀ ≤ w.heap.size)
    (hc : w.cell? ⟨Bs, 0, none⟩ = some (.slice ao vs.length cap)) (hI : versIn n₀ w ao cap vs) :
    SeqStopsK F n Tryz.prog 104 #[.pointer (some ⟨Bs, 0, none⟩)] (fun x : Nat × Ver => #[Value.int .i64 (x.1 : Int), verV x.2]) (Below n₀) (fun ys => ys = uptoV (backV vs) vs.length) (fun pre => ∃ k, k ≤ vs.length ∧ pre = uptoV (backV vs) k) vs.length w := fun l J Jx W hW _ _ hY h0 => by
  have hc' := (hW.cell (p := ⟨Bs, 0, none⟩) (by show Bs < _; omega)).trans hc
  rcases hI.below (hW.mono hn₀) with ⟨rfl, rfl, rfl⟩ | ⟨b, rfl, hb, hcs⟩
  · exact (back1_nil_in F n hF hro l Bs J W hc' h0).mono fun e W' ⟨he, hj⟩ => ⟨he, .inl ⟨_, rfl, hj⟩⟩
  · exact back1_in F n hF hro hn l Bs n₀ b cap vs hlen hb hBs J Jx hY W hc' hcs h0

/-- the place of the last version up to a deed -/
def lastP (vs : List Ver) (n : Int) : Int := match (vs.reverse.findIdx? fun x => decide (x.deed ≤ n)) with
  | some j => (vs.length : Int) - 1 - j
  | none => -1
theorem back_get (vs : List Ver) (k : Nat) (hk : k ≤ vs.length) : (uptoV (backV vs) k).map (·.2) = vs.reverse.take k := by
  apply List.ext_getElem
  · simp [uptoV]; omega
  · intro i h1 h2
    have hi : i < k := by simpa [uptoV] using h1
    have : vs.length - 1 - i < vs.length := by omega
    simp [uptoV, backV, this]
theorem back_fst (vs : List Ver) {k j : Nat} (hj : j < k) : ((uptoV (backV vs) k)[j]'(by simpa [uptoV] using hj)).1 = vs.length - 1 - j := by simp [uptoV, backV]
theorem last_none {vs : List Ver} {n : Int} (h : ∀ y ∈ uptoV (backV vs) vs.length, n < y.2.deed) : lastP vs n = -1 := by
  unfold lastP
  have : vs.reverse.findIdx? (fun x => decide (x.deed ≤ n)) = none := by
    rw [List.findIdx?_eq_none_iff]
    intro x hx
    have e := back_get vs vs.length (Nat.le_refl _)
    rw [List.take_of_length_le (by simp)] at e
    rw [← e] at hx
    obtain ⟨y, hy, rfl⟩ := List.mem_map.1 hx
    have := h y hy
    simp; omega
  rw [this]
theorem last_some {vs : List Ver} {n : Int} {k : Nat} (hk : k ≤ vs.length) {pre : List (Nat × Ver)} {x : Nat × Ver} (e : pre ++ [x] = uptoV (backV vs) k) (h : ∀ y ∈ pre, n < y.2.deed) (hx : x.2.deed ≤ n) : lastP vs n = (x.1 : Int) ∧ x.1 < vs.length ∧ vs[x.1]? = some x.2 := by
  have hkl : k = pre.length + 1 := by have := congrArg List.length e; simp [uptoV] at this; omega
  have hx0 : (uptoV (backV vs) k)[pre.length]? = some x := by rw [← e]; simp
  have hxe : backV vs pre.length = x := by
    have hlt : pre.length < k := by omega
    simpa [uptoV, hlt] using hx0
  have h1 : x.1 = vs.length - 1 - pre.length := by rw [← hxe]; rfl
  have h2 : vs[x.1]? = some x.2 := by
    rw [h1, ← hxe]
    unfold backV
    rw [List.getElem?_eq_getElem (by omega)]
    rfl
  refine ⟨?_, by omega, h2⟩
  unfold lastP
  have hf : vs.reverse.findIdx? (fun x => decide (x.deed ≤ n)) = some pre.length := by
    rw [List.findIdx?_eq_some_iff_getElem]
    have hr : ∀ j (hj : j < vs.reverse.length), vs.reverse[j] = (backV vs j).2 := by
      intro j hj
      have hj' : j < vs.length := by simpa using hj
      unfold backV
      rw [List.getElem_reverse, List.getElem?_eq_getElem (by omega)]
      rfl
    refine ⟨by simp; omega, ?_, fun j hj => ?_⟩
    · rw [hr, hxe]; simpa using hx
    · rw [hr]
      have hy : backV vs j ∈ pre := by
        have : (uptoV (backV vs) k)[j]? = some (backV vs j) := by
          have : j < k := by omega
          simp [uptoV, this]
        rw [← e, List.getElem?_append_left hj] at this
        exact List.mem_of_getElem? this
      have := h _ hy
      simp; omega
  rw [hf]
  show (vs.length : Int) - 1 - (pre.length : Int) = (x.1 : Int)
  omega
end Go.Proofs.YtpbhcjkllfonhaaGreat
