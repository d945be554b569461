/-
  What slices.IndexFunc and slices.DeleteFunc make of a row of writes, by the closure of Disk.note: those of one bit are struck.
-/
import Derived.Test.YtkfpfbkdalbjoaaDskMem
namespace Go.Proofs.Ytkfpfbkdalbjoaa
open Go.RowKit Go.Joins
attribute [local go_sem ↓] Go.wp_at_zero Go.wp_at_succ

set_option maxRecDepth 100000 in
set_option maxHeartbeats 400000 in
theorem hit_any (pb : Nat) (q : Int) (x : Wr) (w : World) (hq : w.cell? ⟨pb, 0, none⟩ = some (.int .i64 q)) :
    Calls Try.prog 67 #[.agg (cellW x).toArray, .pointer (some ⟨pb, 0, none⟩)] w fun e w' => e = .returned (.bool (x.1 == q)) ∧ Below w.heap.size w w' := by
  have hpb : pb < w.heap.size := World.block_lt_of_cell? _ _ hq
  have h0 : (cellW x)[0]? = some (.int .i64 x.1) := rfl
  generalize cellW x = cs at *
  generalize x.1 = b at *
  go_enter Try.func67, Try.ntmps67
  go_wp2
  go_ret
  exact ⟨rfl, (Below.refl _ _).alloc (Nat.le_refl _) _⟩
/-- the place of the first write of a bit, from a place on -/
def idxW (q : Int) : List Wr → Option Nat
  | [] => none
  | x :: l => if x.1 == q then some 0 else (idxW q l).map (· + 1)
def idxN (q : Int) (l : List Wr) : Int := match idxW q l with | some i => i | none => -1
theorem idxW_take {q : Int} : ∀ {l : List Wr} {k : Nat}, (∀ i (h : i < l.length), i < k → (l[i].1 == q) = false) → ∀ (hk : k < l.length), (l[k].1 == q) = true → idxW q l = some k
  | [], _, _, hk, _ => by cases hk
  | x :: l, 0, _, _, e => by unfold idxW; rw [show (x.1 == q) = true from e]; rfl
  | x :: l, k + 1, h, hk, e => by
    unfold idxW
    rw [show (x.1 == q) = false from h 0 (by simp) (by omega), idxW_take (k := k) (fun i hi hl => h (i + 1) (by simpa using hi) (by omega)) (by simpa using hk) e]
    rfl
theorem idxW_none {q : Int} : ∀ {l : List Wr}, (∀ i (h : i < l.length), (l[i].1 == q) = false) → idxW q l = none
  | [], _ => rfl
  | x :: l, h => by
    unfold idxW
    rw [show (x.1 == q) = false from h 0 (by simp), idxW_none (fun i hi => h (i + 1) (by simpa using hi))]
    rfl
set_option maxRecDepth 100000 in
set_option maxHeartbeats 1000000 in
theorem idxF_any (pb : Nat) (q : Int) (g cap : Nat) (l : List Wr) (B : Nat) (w : World) (hq : w.cell? ⟨pb, 0, none⟩ = some (.int .i64 q)) (h : ownW w B (.slice (some ⟨g, 0, none⟩) l.length cap) l) (hl : l.length ≤ 1000) :
    Calls Try.prog 93 #[.slice (some ⟨g, 0, none⟩) l.length cap, .func (.func 67) #[] #[.pointer (some ⟨pb, 0, none⟩)]] w fun e w' => e = .returned (.int .i64 (idxN q l)) ∧ Below w.heap.size w w' := by
  have H := hide h
  have HQ := hide hq
  clear h hq
  go_enter Try.func93, Try.ntmps93
  go_wp2
  go_loopw [8] (fun i wr => ∃ k : Nat, k ≤ l.length ∧ i = .int .i64 (k : Int) ∧ (∀ j (h : j < l.length), j < k → (l[j].1 == q) = false) ∧ Below w.heap.size w wr) (fun i _ => l.length - (intOf i).toNat)
  case atStart => exact ⟨0, Nat.zero_le _, rfl, fun j _ hj => by omega, Below.refl _ _⟩
  case round =>
    obtain ⟨k, hk, rfl, hno, hB⟩ := hrel
    have HNO := hide hno
    clear hno
    by_cases hlt : k < l.length
    · have hlt' : (k : Int) < (l.length : Int) := by omega
      have HLD := hide (rangeAt_on hB (ownW_range H.out hlt))
      have HLS := hide (H.out.2 _ (List.getElem_mem hlt))
      have HH := fun W hW => hide (hit_any pb q l[k] W hW)
      have HE : ∀ b, (l[k].1 == q) = b → Hid ((l[k].1 == q) = b) := fun _ h => h
      generalize hx : l[k] = x at *
      have HX := hide hx
      clear hx
      cases hb : (x.1 == q) with
      | true =>
        have HR : Hid (idxN q l = k) := by
          unfold idxN
          rw [idxW_take HNO.out hlt (by rw [HX.out]; exact hb)]
          rfl
        go_wp2_with (first
          | (go_at_call 67; refine (HH _ (cell_on hB HQ.out)).out.mono ?_; rintro e w1 ⟨rfl, hb1⟩)
          | (refine wpList_load_mid (by rfl) 98 _ (by rfl) g (k * 97) (by rfl) (cellW x) _ HLD.out Try.underlying98 (by rfl) (by rw [cellW_length HLS.out]; exact write_size) ?_))
        go_ret
        exact ⟨ret_int HR.out.symm, below_on hB (Nat.le_refl _) hb1⟩
      | false =>
        go_wp2_with (first
          | (go_at_call 67; refine (HH _ (cell_on hB HQ.out)).out.mono ?_; rintro e w1 ⟨rfl, hb1⟩)
          | (refine wpList_load_mid (by rfl) 98 _ (by rfl) g (k * 97) (by rfl) (cellW x) _ HLD.out Try.underlying98 (by rfl) (by rw [cellW_length HLS.out]; exact write_size) ?_))
        exact ⟨⟨k + 1, by omega, by go_num, fun j h hj => by
          by_cases e : j = k
          · subst e; rw [HX.out]; exact hb
          · exact HNO.out j h (by omega), below_on hB (Nat.le_refl _) hb1⟩, by simp [intOf]; omega⟩
    · have ek : k = l.length := by omega
      subst ek
      have HR : Hid (idxN q l = -1) := by
        unfold idxN
        rw [idxW_none fun i hi => HNO.out i hi hi]; rfl
      have lk : ¬ (l.length : Int) < (l.length : Int) := by omega
      go_wp2
      go_ret
      exact ⟨ret_int HR.out.symm, hB⟩
end Go.Proofs.Ytkfpfbkdalbjoaa
