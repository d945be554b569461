/-
  What Disk.Sectors, has, Down, Arm and step return, and what they leave of a disk.
-/
import Derived.Test.YtkfpfbkdalbjoaaDskAt
namespace Go.Proofs.Ytkfpfbkdalbjoaa
open Go.RowKit Go.Joins
attribute [local go_sem ↓] Go.wp_at_zero Go.wp_at_succ

section
variable {B db : Nat} {S : Nat → Prop} {s : DSt}
set_option maxHeartbeats 400000 in
theorem dsectors_any (w : World) (h : DK w B db S s) : Calls Try.prog 13 #[.pointer (some ⟨db, 0, none⟩)] w fun e w' => e = .returned (.int .i64 s.now.length) ∧ w' = w := by
  obtain ⟨nb, kb, lb, n, lv, loose, L, h1, h2, _⟩ := h
  have c0 := h1.c0
  have hn := h2.n1
  rw [h2.nn]
  clear h1 h2
  go_enter Try.func13, Try.ntmps13
  go_wp2
  go_ret
  exact ⟨rfl, rfl⟩
set_option maxHeartbeats 400000 in
theorem ddown_any (w : World) (h : DK w B db S s) : Calls Try.prog 23 #[.pointer (some ⟨db, 0, none⟩)] w fun e w' => e = .returned (.bool s.down) ∧ w' = w := by
  obtain ⟨nb, kb, lb, n, lv, loose, L, h1, h2, _⟩ := h
  have c5 := h1.c5
  clear h1 h2
  generalize s.down = dn at *
  go_enter Try.func23, Try.ntmps23
  go_wp2
  go_ret
  exact ⟨rfl, rfl⟩
def hasD (s : DSt) (at_ : Int) : Bool := decide (0 ≤ at_) && decide (at_ < (s.now.length : Int))
set_option maxHeartbeats 400000 in
theorem dhas_any (at_ : Int) (w : World) (h : DK w B db S s) : Calls Try.prog 45 #[.pointer (some ⟨db, 0, none⟩), .int .i64 at_] w fun e w' => e = .returned (.bool (hasD s at_)) ∧ w' = w := by
  obtain ⟨nb, kb, lb, n, lv, loose, L, h1, h2, _⟩ := h
  have c0 := h1.c0
  have hn := h2.n1
  unfold hasD
  rw [h2.nn]
  clear h1 h2
  by_cases h0 : 0 ≤ at_
  · have d0 : decide (0 ≤ at_) = true := decide_eq_true h0
    rw [d0]
    by_cases h2 : at_ < (n : Int)
    · have d2 : decide (at_ < (n : Int)) = true := decide_eq_true h2
      rw [d2]
      go_enter Try.func45, Try.ntmps45
      go_wp2
      go_ret
      exact ⟨rfl, rfl⟩
    · have d2 : decide (at_ < (n : Int)) = false := decide_eq_false h2
      rw [d2]
      go_enter Try.func45, Try.ntmps45
      go_wp2
      go_ret
      exact ⟨rfl, rfl⟩
  · have d0 : decide (0 ≤ at_) = false := decide_eq_false h0
    rw [d0]
    go_enter Try.func45, Try.ntmps45
    go_wp2
    go_ret
    exact ⟨rfl, rfl⟩
set_option maxHeartbeats 400000 in
theorem darm_any (a : Int) (w : World) (h : DK w B db S s) (ha0 : -9223372036854775808 ≤ a) (ha1 : a ≤ 9223372036854775807) : Calls Try.prog 20 #[.pointer (some ⟨db, 0, none⟩), .int .i64 a] w fun e w' => e = .returned (.tuple #[]) ∧ ActD w w' B db S (armD s a) := by
  obtain ⟨nb, kb, lb, n, lv, loose, L, h1, h2, hS, h4, h5, h6, h7⟩ := h
  have c4 := h1.c4
  have f4 := h1.soft 4
  have HE : Hid (ActD w (w.setCell ⟨db, 4, none⟩ (.int .i64 a)) B db S (armD s a)) :=
    ⟨S, ⟨nb, kb, lb, n, lv, loose, a, h1.left' a, h2.head _ _, hS, h4, h5, fun _ => ⟨rfl, ha0, ha1⟩, by simpa using h7⟩, stepV_head (by rw [hS]; exact .inl rfl) h2.lo.1 _ _⟩
  clear h1 h2 h4 h5 h6 hS
  go_enter Try.func20, Try.ntmps20
  go_wp2
  go_end0
  exact ⟨rfl, HE.out⟩
theorem dstep_down (hd : s.down = true) : dstepF s = 10 ∧ dstepD s = s := by unfold dstepF dstepD; rw [hd]; exact ⟨rfl, rfl⟩
theorem dstep_fall (hd : s.down = false) (hl : s.left = 0) : dstepF s = 10 ∧ dstepD s = { s with down := true } := by
  unfold dstepF dstepD; rw [if_neg (show ¬ s.down = true by rw [hd]; decide), if_pos (show (s.left == 0) = true by rw [hl]; rfl), hd, hl]; exact ⟨rfl, rfl⟩
theorem dstep_go (hd : s.down = false) (hl : s.left ≠ 0) : dstepF s = 0 ∧ dstepD s = { s with left := if 0 < s.left then s.left - 1 else s.left } := by
  unfold dstepF dstepD; rw [if_neg (show ¬ s.down = true by rw [hd]; decide), if_neg (show ¬ (s.left == 0) = true by simpa using hl), hd, show (s.left == 0) = false by simpa using hl]; exact ⟨rfl, rfl⟩
set_option maxRecDepth 8000 in
set_option maxHeartbeats 1000000 in
theorem dstep_any (w : World) (h : DK w B db S s) : Calls Try.prog 46 #[.pointer (some ⟨db, 0, none⟩)] w fun e w' => e = .returned (errV (dstepF s)) ∧ ActD w w' B db S (dstepD s) := by
  have HW := hide h
  obtain ⟨nb, kb, lb, n, lv, loose, L, h1, h2, hS, h4, h5, h6, h7⟩ := h
  have c4 := h1.c4
  have f4 := h1.soft 4
  have c5 := h1.c5
  have f5 := h1.soft 5
  have HST : Hid (∀ (W : World) (s' : DSt) (L' : Int), DHd W db nb kb lb n ((s.wait.length % 64 : Nat) : Int) L' s'.down → (∀ k, k ≠ db → W.heap[k]? = w.heap[k]?) → W.heap.size = w.heap.size → Below B w W → s'.now = s.now → s'.kept = s.kept → s'.wait = s.wait → (s'.down = false → leftOk L' s'.left) → ActD w W B db S s') := fun W s' L' a1 a2 a3 a4 a5 a6 a7 a8 =>
    ⟨S, ⟨nb, kb, lb, n, lv, loose, L', by rw [a7]; exact a1, by rw [a5, a6]; exact h2.kept fun k hk _ => a2 k hk, hS, by rw [a7]; exact h4, by rw [a7]; exact h5, a8, by rw [a3]; exact h7⟩, ⟨a4, fun k _ hn => ⟨a2 k (fun e => hn (by rw [hS, e]; exact .inl rfl)), hn⟩⟩⟩
  have H1 := hide h1
  have H6 := hide h6
  have hlo := h2.lo.1
  clear h1 h2 h4 h5 h6 hS h7
  rcases Bool.eq_false_or_eq_true s.down with hd | hd
  · rw [hd] at c5
    obtain ⟨e1, e2⟩ := dstep_down hd
    rw [e1, e2, errD_pos (show (10 : Nat) ≠ 0 by decide)]
    by_cases hL : L = 0
    · subst hL
      have HE := hide (HST.out (w.setCell ⟨db, 5, none⟩ (.bool true)) s 0 (by rw [hd]; exact H1.out.down' true) (fun k hk => Below.heap_setCell _ _ _ _ hk) (by simp) ((Below.refl _ _).setCell (p := ⟨db, 5, none⟩) hlo _) rfl rfl rfl (fun e => by rw [hd] at e; cases e))
      clear HST H1 H6 HW e1 e2
      go_enter Try.func46, Try.ntmps46
      go_wp2
      go_ret
      exact ⟨rfl, HE.out⟩
    · have hL' : (L == 0) = false := by simpa using hL
      clear HST H1 H6 e1 e2
      go_enter Try.func46, Try.ntmps46
      go_wp2
      go_ret
      exact ⟨rfl, HW.out.stay (Below.refl _ _)⟩
  · rw [hd] at c5
    obtain ⟨hl1, hl2, hl3⟩ := H6.out hd
    by_cases hL : L = 0
    · subst hL
      obtain ⟨e1, e2⟩ := dstep_fall hd (by rw [← hl1]; rfl)
      rw [e1, e2, errD_pos (show (10 : Nat) ≠ 0 by decide)]
      have HE := hide (HST.out (w.setCell ⟨db, 5, none⟩ (.bool true)) { s with down := true } 0 (H1.out.down' true) (fun k hk => Below.heap_setCell _ _ _ _ hk) (by simp) ((Below.refl _ _).setCell (p := ⟨db, 5, none⟩) hlo _) rfl rfl rfl (fun e => by cases e))
      clear HST H1 H6 HW e1 e2
      go_enter Try.func46, Try.ntmps46
      go_wp2
      go_ret
      exact ⟨rfl, HE.out⟩
    · have hL' : (L == 0) = false := by simpa using hL
      obtain ⟨e1, e2⟩ := dstep_go hd (show s.left ≠ 0 by rw [← hl1]; omega)
      rw [e1, errD_nil]
      by_cases hp : 0 < L
      · rw [e2]
        have e3 : s.left = L := by rw [← hl1]; omega
        rw [if_pos (by rw [e3]; exact hp), e3]
        have HE := hide (HST.out (w.setCell ⟨db, 4, none⟩ (.int .i64 (L - 1))) { s with left := L - 1 } (L - 1) (H1.out.left' _) (fun k hk => Below.heap_setCell _ _ _ _ hk) (by simp) ((Below.refl _ _).setCell (p := ⟨db, 4, none⟩) hlo _) rfl rfl rfl (fun _ => ⟨by show max (L - 1) (-1) = L - 1; omega, by omega, by omega⟩))
        rw [hd] at H1
        clear HST H1 H6 HW hl1 e1 e2 e3
        go_enter Try.func46, Try.ntmps46
        go_wp2
        go_ret
        exact ⟨rfl, HE.out⟩
      · have e4 : dstepD s = s := by rw [e2, if_neg (by rw [← hl1]; omega)]
        rw [e4]
        clear e4 HST H1 H6 hl1 e1 e2
        go_enter Try.func46, Try.ntmps46
        go_wp2
        go_ret
        exact ⟨rfl, HW.out.stay (Below.refl _ _)⟩
/-- the bytes of a sector as they lie in the block of all -/
theorem sec_range {w : World} {g : Nat} {l : List ByteArray} {t : TypeId} (h : w.heap[g]? = some (.cells (l.flatMap secV).toArray t (0, 0))) (hs : ∀ x ∈ l, x.size = 96) {i : Nat} (hi : i < l.length) : w.rangeAt g (i * 96) (secV l[i]) :=
  rangeAt_block h fun j hj => dflat_get (fun x hx => (secV_length x).trans (hs x hx)) i j hi (by rw [secV_length, hs _ (List.getElem_mem hi)] at hj; exact hj)
set_option maxRecDepth 8000 in
set_option maxHeartbeats 1000000 in
theorem dread_any (at_ : Int) (w : World) (h : DK w B db S s) : Calls Try.prog 16 #[.pointer (some ⟨db, 0, none⟩), .int .i64 at_] w fun e w' => e = .returned (.tuple #[.string (dreadD s at_), errV (dreadF s at_)]) ∧ w' = w := by
  have HH := hide (fun W (hW : DK W B db S s) => dhas_any at_ W hW)
  have HW := hide h
  obtain ⟨nb, kb, lb, n, lv, loose, L, h1, h2, hS, h4, h5, h6, h7⟩ := h
  have c0 := h1.c0
  have c5 := h1.c5
  have hn := h2.n1
  have hnn := h2.nn
  unfold dreadD dreadF
  cases hd : s.down with
  | true =>
    rw [hd] at c5
    simp only [if_true, show (10 : Nat) = 0 ↔ False by decide, if_false, errD_pos (show (10 : Nat) ≠ 0 by decide)]
    clear HH h1 h2 hS h4 h5 h6 HW
    go_enter Try.func16, Try.ntmps16
    go_wp2
    go_ret2
    exact ⟨rfl, rfl⟩
  | false =>
    rw [hd] at c5
    simp only [Bool.false_eq_true, if_false]
    by_cases hr : at_ < 0 ∨ (s.now.length : Int) ≤ at_
    · have hb : hasD s at_ = false := by unfold hasD; simp; omega
      rw [hb] at HH
      rw [if_pos hr, if_neg (by decide), errD_pos (show (1 : Nat) ≠ 0 by decide)]
      clear h1 h2 hS h4 h5 h6
      go_enter Try.func16, Try.ntmps16
      go_wp2_with (go_at_call 45; refine (HH.out _ HW.out).mono ?_; rintro e w1 ⟨rfl, rfl⟩)
      go_ret2
      exact ⟨rfl, rfl⟩
    · have hb : hasD s at_ = true := by unfold hasD; simp; omega
      rw [hb] at HH
      rw [if_neg hr, if_pos rfl, errD_nil]
      obtain ⟨a, rfl⟩ := Int.eq_ofNat_of_zero_le (show 0 ≤ at_ by omega)
      have ha : a < s.now.length := by omega
      have ha' : (a : Int) < (n : Int) := by omega
      rw [Int.toNat_natCast, List.getElem?_eq_getElem ha, Option.getD_some]
      have hra := sec_range h2.hn h2.sn ha
      have hsz := h2.sn _ (List.getElem_mem ha)
      generalize s.now[a] = d at *
      have hcv := run_convert_bytes_back (P := Try.prog) w 92 9 5 ⟨nb, a * 96, none⟩ 96 d.data.toList Try.underlying92 Try.underlying5 Try.underlying9 (fun j hj => by rw [Go.Addr.add_mid]; exact hra j _ (by unfold secV; rw [List.getElem?_map, List.getElem?_eq_getElem hj]; rfl))
      have hdl : d.data.toList.length = 96 := by rw [Array.length_toList]; exact hsz
      rw [hdl] at hcv
      clear h1 h2 hS h4 h5 h6 hra hr
      go_enter Try.func16, Try.ntmps16
      go_wp2_with (go_at_call 45; refine (HH.out _ HW.out).mono ?_; rintro e w1 ⟨rfl, rfl⟩)
      go_ret2
      exact ⟨by simp, rfl⟩
end
end Go.Proofs.Ytkfpfbkdalbjoaa
