/-
  What slices.Chunk yields of a row of bytes: its pieces, one behind the other.
-/
import Derived.Test.YtkfpfbkdalbjoaaGreatStoRoot
import Derived.RangeFuncNested
import Derived.RangeFuncBound
import Derived.RangeFuncCalls
import Derived.RangeFuncLeaves
import Derived.Shelf.Abstract
import Derived.Shelf.RegionOpen
import Derived.OwnWalkIn
import Derived.TacticsInMore
import Derived.LoopNIn
import Derived.LoopIn
namespace Go.Proofs.YtkfpfbkdalbjoaaGreat
open Go.RowKit Go.Joins Go.Shelf
attribute [local go_sem] Oper.semAt_some

/-- a piece as it is handed on -/
def pieceV (g : Nat) (t : ByteArray) (k : Nat) : Value := .slice (some ⟨g, 96 * k, none⟩) (min 96 (t.size - 96 * k)) (min 96 (t.size - 96 * k))
/-- two blocks are as they were -/
def keepK (Bs Bn : Nat) (A B : World) : Prop := B.heap[Bs]? = A.heap[Bs]? ∧ B.heap[Bn]? = A.heap[Bn]?
theorem keepK.refl (Bs Bn : Nat) (A : World) : keepK Bs Bn A A := ⟨rfl, rfl⟩
theorem keepK.trans {Bs Bn : Nat} {A B C : World} (h : keepK Bs Bn A B) (k : keepK Bs Bn B C) : keepK Bs Bn A C := ⟨k.1.trans h.1, k.2.trans h.2⟩
theorem keepK.of_below {Bs Bn : Nat} {A B : World} (h : Below A.heap.size A B) (h1 : Bs < A.heap.size) (h2 : Bn < A.heap.size) : keepK Bs Bn A B := ⟨h.block Bs h1, h.block Bn h2⟩
set_option maxRecDepth 100000 in
set_option maxHeartbeats 2000000 in
theorem chunk1_in (F : Fence) (n : Nat) (hF : F.fn 79) (hro : F.round = none) (hn : 1 ≤ n) (l Bs Bn g cap : Nat) (t : ByteArray) (ht : t.size ≤ 100000) (hcap : t.size ≤ cap) (hcm : cap ≤ 9223372036854775807) (J Jx : List Nat → World → Prop) (hJd : ∀ s W, J s W → J s W.drew)
    (hY : ∀ pre x W, J pre W → pre.length < piecesN t.size → YieldAt F (n - 1) Tryz.prog l #[pieceV g t x] W fun e W' =>
      (e = .returned (.bool true) ∧ J (pre ++ [x]) W' ∧ keepK Bs Bn W W') ∨ (e = .returned (.bool false) ∧ Jx (pre ++ [x]) W'))
    (W : World) (hBs : W.cell? ⟨Bs, 0, none⟩ = some (.slice (some ⟨g, 0, none⟩) t.size cap)) (hBn : W.cell? ⟨Bn, 0, none⟩ = some (.int .i64 96)) (h0 : J [] W) :
    CallsIn F n Tryz.prog 79 #[.func (.yield l) #[] #[], .pointer (some ⟨Bs, 0, none⟩), .pointer (some ⟨Bn, 0, none⟩)] W fun e W' => (∃ v, e = .returned v) ∧
      ((∃ ys, ys = List.range (piecesN t.size) ∧ J ys W') ∨ (∃ pre, (∃ k, k ≤ piecesN t.size ∧ pre = List.range k) ∧ Jx pre W')) := by
  have HPN : Hid (piecesN t.size = (t.size + 95) / 96) := rfl
  refine callsIn_of_wp Tryz.func79 rfl hF ?_ hro
  simp only [Tryz.ntmps79, List.size_toArray, List.length_cons, List.length_nil, Nat.reduceAdd, Nat.reduceSub, Array.replicate_succ, Array.replicate_zero, List.push_toArray, List.append_toArray, List.nil_append, List.cons_append]
  gi_wp2
  gi_loopw [4] (fun i wr => ∃ k : Nat, k ≤ piecesN t.size ∧ i = .int .i64 ((96 * k : Nat) : Int) ∧ J (List.range k) wr ∧ keepK Bs Bn W wr)
    (fun i _ => 200000 - (intOf i).toNat)
  case atStart => exact ⟨0, Nat.zero_le _, rfl, h0, keepK.refl _ _ _⟩
  case round =>
    obtain ⟨k, hk, rfl, hJs, hnx⟩ := hrel
    have hbs := (World.cell?_of_block (a := ⟨Bs, 0, none⟩) hnx.1).trans hBs
    have hbn := (World.cell?_of_block (a := ⟨Bn, 0, none⟩) hnx.2).trans hBn
    have hpn := HPN.out
    by_cases hlt : 96 * k < t.size
    · have hlt' : ((96 * k : Nat) : Int) < (t.size : Int) := by omega
      have hkp : k < piecesN t.size := by omega
      obtain ⟨fn, tmps, assign, body, hy, hR⟩ := hY _ k wr.drew (hJd _ _ hJs) (by rw [List.length_range]; exact hkp)
      dsimp only [pieceV] at hy
      have HKP := hide hkp
      have HRS : Hid (List.range (k + 1) = List.range k ++ [k]) := List.range_succ
      have HIM : Hid (((96 * k : Nat) : Int) + 96 = ((96 * (k + 1) : Nat) : Int)) := hide (by omega)
      have hm0 : (0 : Int) ≤ ((96 * k : Nat) : Int) := by omega
      have hm1 : ((96 * k : Nat) : Int) ≤ (cap : Int) := by omega
      have hm2 : ((96 * k : Nat) : Int) ≤ 100000 := by omega
      have HSM : Hid (96 * (k + 1) ≤ 200000) := hide (by omega)
      clear hpn hkp hk
      obtain ⟨m, hm⟩ : ∃ m, m = 96 * k := ⟨_, rfl⟩
      rw [← hm] at hlt hlt' hy hm0 hm1 hm2 HIM ⊢
      obtain ⟨z, hz⟩ : ∃ z, z = min 96 (t.size - m) := ⟨_, rfl⟩
      rw [← hz] at hy
      have HM := hide hm
      clear hm
      have hmix : Tryz.prog.follows .mixedOrders = true := by kernel_rfl
      have hmc : m < cap := by omega
      have hmc2 : (m : Int) < (cap : Int) := by omega
      have hmc3 : ¬ cap = m := by omega
      have hmc4 : ¬ m = cap := by omega
      have hmc5 : ¬ cap - m = 0 := by omega
      have hmc6 : ¬ cap ≤ m := by omega
      have hm3 : (m : Int) ≤ (t.size : Int) := by omega
      have hz1 : 0 < z := by omega
      have hz2 : z ≤ 96 := by omega
      have hz3 : m + z ≤ t.size := by omega
      have HMZ : Hid (min (96 : Int) ((t.size - m : Nat) : Int) = (z : Int)) := hide (by omega)
      clear hz
      gi_wp2
      gi_region_with_o (fail)
      all_goals
        rw [HMZ.out]
        gi_wp2
        refine hR.mono ?_
        rintro e W3 (⟨rfl, hJ3, hk3⟩ | ⟨rfl, hJx3⟩)
        · have hbn3 := (World.cell?_of_block (a := ⟨Bn, 0, none⟩) hk3.2).trans hbn
          gi_wp2
          rw [HIM.out]
          go_roundw
          case rel => exact ⟨k + 1, HKP.out, rfl, by rw [HRS.out]; exact hJ3, hnx.trans hk3⟩
          case measure =>
            have := HSM.out
            have := HM.out
            simp [intOf]
            omega
        · gi_wp2
          refine bodyPost_ret (results_none rfl _ _ _) rfl ?_
          exact ⟨⟨_, rfl⟩, .inr ⟨_, ⟨k + 1, HKP.out, by rw [HRS.out]⟩, hJx3⟩⟩
    · have hke : k = piecesN t.size := by omega
      have hlt' : ¬ ((96 * k : Nat) : Int) < (t.size : Int) := by omega
      have HKE := hide hke
      clear hpn hke hk
      generalize 96 * k = m at *
      gi_wp2
      go_end0
      exact ⟨⟨_, rfl⟩, .inl (by rw [← HKE.out]; exact hJs)⟩
set_option maxRecDepth 100000 in
set_option maxHeartbeats 1000000 in
theorem chunk1_nil_in (F : Fence) (n : Nat) (hF : F.fn 79) (hro : F.round = none) (l Bs Bn : Nat) (J : List Nat → World → Prop) (W : World) (hBs : W.cell? ⟨Bs, 0, none⟩ = some (.slice none 0 0)) (h0 : J [] W) :
    CallsIn F n Tryz.prog 79 #[.func (.yield l) #[] #[], .pointer (some ⟨Bs, 0, none⟩), .pointer (some ⟨Bn, 0, none⟩)] W fun e W' => (∃ v, e = .returned v) ∧ J [] W' := by
  refine callsIn_of_wp Tryz.func79 rfl hF ?_ hro
  simp only [Tryz.ntmps79, List.size_toArray, List.length_cons, List.length_nil, Nat.reduceAdd, Nat.reduceSub, Array.replicate_succ, Array.replicate_zero, List.push_toArray, List.append_toArray, List.nil_append, List.cons_append]
  gi_wp2
  gi_loopw [4] (fun i wr => i = .int .i64 0 ∧ wr = W) (fun _ _ => 0)
  case atStart => exact ⟨rfl, rfl⟩
  case round =>
    obtain ⟨rfl, rfl⟩ := hrel
    gi_wp2
    go_end0
    exact ⟨⟨_, rfl⟩, h0⟩
set_option maxHeartbeats 1000000 in
theorem chunk_in (F : Fence) (n : Nat) (hF : F.fn 61) (hro : F.round = none) (a : Option Addr) (len cap : Nat) (w : World) :
    CallsIn F n Tryz.prog 61 #[.slice a len cap, .int .i64 96] w fun e w' => e = .returned (.func (.func 79) #[] #[.pointer (some ⟨w.heap.size, 0, none⟩), .pointer (some ⟨w.heap.size + 1, 0, none⟩)]) ∧ w' = (w.alloc (.cells #[.slice a len cap] 89)).alloc (.cells #[.int .i64 96] 3) := by
  refine callsIn_of_wp Tryz.func61 rfl hF ?_ hro
  simp only [Tryz.ntmps61, List.size_toArray, List.length_cons, List.length_nil, Nat.reduceAdd, Nat.reduceSub, Array.replicate_succ, Array.replicate_zero, List.push_toArray, List.append_toArray, List.nil_append, List.cons_append]
  gi_wp2
  go_ret
  exact ⟨rfl, rfl⟩
/-- the slice value has this text from its head on, or it is nil and there is none -/
def textIn (ao : Option Addr) (cap : Nat) (t : ByteArray) : Prop := (ao = none ∧ cap = 0 ∧ t = ⟨#[]⟩) ∨ ∃ g, ao = some ⟨g, 0, none⟩ ∧ t.size ≤ cap ∧ cap ≤ 9223372036854775807
def blkOf (ao : Option Addr) : Nat := match ao with
  | some a => a.block
  | none => 0
theorem chunk_stops (F : Fence) (n : Nat) (hF : F.fn 79) (hro : F.round = none) (hn : 1 ≤ n) (Bs Bn : Nat) (ao : Option Addr) (cap : Nat) (t : ByteArray) (ht : t.size ≤ 100000) (w : World) (hls : Bs < w.heap.size) (hln : Bn < w.heap.size)
    (hBs : w.cell? ⟨Bs, 0, none⟩ = some (.slice ao t.size cap)) (hBn : w.cell? ⟨Bn, 0, none⟩ = some (.int .i64 96)) (hI : textIn ao cap t) :
    SeqStopsK F n Tryz.prog 79 #[.pointer (some ⟨Bs, 0, none⟩), .pointer (some ⟨Bn, 0, none⟩)] (fun x : Nat => #[pieceV (blkOf ao) t x]) (keepK Bs Bn) (fun ys => ys = List.range (piecesN t.size)) (fun pre => ∃ k, k ≤ piecesN t.size ∧ pre = List.range k) (piecesN t.size) w := fun l J Jx W hW hA _ hY h0 => by
  have hBs' := (hW.cell (p := ⟨Bs, 0, none⟩) hls).trans hBs
  have hBn' := (hW.cell (p := ⟨Bn, 0, none⟩) hln).trans hBn
  rcases hI with ⟨rfl, rfl, rfl⟩ | ⟨g, rfl, hc, hm⟩
  · exact (chunk1_nil_in F n hF hro l Bs Bn J W hBs' h0).mono fun e W' ⟨he, hj⟩ => ⟨he, .inl ⟨_, rfl, hj⟩⟩
  · exact chunk1_in F n hF hro hn l Bs Bn g cap t ht hc hm J Jx (fun s W h => hA s W _ none h ⟨rfl, rfl, rfl, Nat.le_refl _, fun _ _ _ => rfl⟩ (fun r e => by cases e)) hY W hBs' hBn' h0
end Go.Proofs.YtkfpfbkdalbjoaaGreat
