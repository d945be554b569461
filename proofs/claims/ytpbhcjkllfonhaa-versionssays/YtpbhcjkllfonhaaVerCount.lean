/-
  What Versions.Count returns of versions that lie in memory: how many there are of all keys.
-/
import Derived.Test.YtpbhcjkllfonhaaVerVac3
import Derived.Maps.RangeWalk
namespace Go.Proofs.Ytpbhcjkllfonhaa
open Go.RowKit Go.Joins Go.Shelf

theorem key_back {key : Value} {kl : Lit} (h : keyOf Try.prog 9 key = some kl) : ∃ s, key = .string s ∧ kl = kL s ∧ s.size ≤ maxLen := by
  cases key <;> simp [keyOf, Try.underlying9, mapKey] at h
  obtain ⟨hs, rfl⟩ := h
  exact ⟨_, rfl, rfl, hs⟩
theorem sumK_snoc (R : ByteArray → List Ver) (K : List ByteArray) (k : ByteArray) : sumK R (K ++ [k]) = sumK R K + (R k).length := by simp [sumK]
theorem sumK_bound {R : ByteArray → List Ver} {m : Nat} (h : ∀ k, (R k).length ≤ m) : ∀ K : List ByteArray, sumK R K ≤ K.length * m
  | [] => by simp [sumK]
  | k :: K => by
    have ih := sumK_bound h K
    have := h k
    unfold sumK at *
    simp only [List.map_cons, List.sum_cons, List.length_cons, Nat.succ_mul]
    omega
set_option maxRecDepth 4000 in
set_option maxHeartbeats 2000000 in
theorem count_v {B vb mb n : Nat} {now : Int} {D : DataW Value} {g : ByteArray → Value} {R : ByteArray → List Ver} (w : World) (h : VS w B vb mb now n D g R) (hn : n ≤ 1000000) (hR : ∀ key, (R key).length ≤ 1000000) :
    Calls Try.prog 13 #[.pointer (some ⟨vb, 0, none⟩)] w fun e w' => ∃ K, e = .returned (.int .i64 (sumK R K : Nat)) ∧ keysV R K ∧ Below w.heap.size w w' := by
  have HV := hide h
  have HRR := hide hR
  have c1 := h.mp
  have hown := h.own
  have hsl := hown.size_le
  clear h hR
  go_enter Try.func13, Try.ntmps13
  go_wp2_with (first | (at_range; refine wpList_range_own _ rfl _ 60 rfl 9 65 str_keyed Try.underlying60 RV mb n D rfl hown ?_; intro w0 hrg0 hg0 hs0))
  have HB0 : Hid (Below w.heap.size w w0) := (Below.refl _ w).grown hg0 (Nat.le_refl _) (fun k e => by cases e)
  have HR0 := hide hrg0
  clear hrg0 hg0 c1 hown
  go_wp2
  go_frame
  go_loopw [3] (fun v wr => ∃ (left : Lit → Bool) (cnt : Nat) (ss : List (List UInt8)), wr.ranges Try.prog 9 RV mb w.heap.size n D left cnt ∧ Collected D left ss ∧ ss.length + cnt ≤ n ∧ v = .int .i64 (sumK R (ss.map baL) : Nat) ∧ Below w.heap.size w wr) (fun _ wr => wr.rangeLeft mb w.heap.size)
  case atStart => exact ⟨_, _, [], HR0.out, Collected.start D, by simpa using hsl, rfl, HB0.out⟩
  case round =>
    obtain ⟨left, cnt, ss, hrg, hC, hcn, rfl, hB⟩ := hrel
    have HRG := hide hrg
    have HC := hide hC
    have HBr := hide hB
    clear hrg hC hB HR0 HB0
    go_wp2_with (first | (at_next; refine wpList_next_ranges _ rfl _ rfl 9 str_keyed RV Value.string id (fun key kl hk => by obtain ⟨x, e, _⟩ := key_back hk; exact ⟨x, e⟩) (fun v y _ => ⟨v, rfl⟩) mb w.heap.size n D left cnt rfl HRG.out ?_ ?_))
    · intro hc0 hl0
      go_wp2
      go_ret
      exact ⟨_, rfl, HV.out.keys (HC.out.perm HV.out.own str_keyed Try.underlying9 hl0), HBr.out⟩
    · intro x c kl y yp w2 cnt2 hkey hlx hRc hat hrg2 hclt hg2 hs2 hen
      obtain ⟨x', ex, rfl, hxs⟩ := key_back hkey
      cases ex
      have hc := hat (.held (.slice none 0 0))
      rw [HV.out.look x hxs] at hc
      simp only [RV, Option.some.injEq, Prod.mk.injEq] at hRc
      obtain ⟨rfl, rfl⟩ := hRc
      simp only [DataW.held.injEq] at hc
      subst hc
      have HC2 := hide (HC.out.step (x := x.data.toList) hlx hat)
      obtain ⟨ao, cap, ec, _, _, _⟩ := ownV_in (HV.out.rows x)
      have hRx := HRR.out x
      have hsum : sumK R (ss.map baL) ≤ 1000000 * 1000000 := Nat.le_trans (sumK_bound HRR.out _) (Nat.mul_le_mul_right _ (by simp; omega))
      have HSN : Hid ((sumK R (ss.map baL) : Int) + ((R x).length : Int) = ((sumK R ((ss ++ [x.data.toList]).map baL) : Nat) : Int)) := by
        unfold Hid; rw [List.map_append, List.map_singleton, sumK_snoc, baL_list]; omega
      have HRG2 := hide hrg2
      have HB2 := hide (HBr.out.grown hg2 HBr.out.size (fun k e => by cases e; exact Nat.le_refl _))
      rw [ec] at hen ⊢
      clear ec hat hrg2 hg2 hs2 hkey hlx
      generalize sumK R (ss.map baL) = S at *
      generalize (R x).length = m at *
      go_wp2
      exact ⟨⟨_, _, ss ++ [x.data.toList], HRG2.out, HC2.out, by simp; omega, by rw [← HSN.out], HB2.out⟩, by rw [HRG2.out.left_eq, HRG.out.left_eq]; exact hclt⟩
end Go.Proofs.Ytpbhcjkllfonhaa
