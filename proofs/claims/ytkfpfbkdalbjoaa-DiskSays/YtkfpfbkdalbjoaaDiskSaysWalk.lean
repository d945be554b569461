/-
  What haywainlaw.DiskSays returns: true, of whatever came in.
-/
import Derived.Test.YtkfpfbkdalbjoaaRTwo
namespace Go.Proofs.Ytkfpfbkdalbjoaa
open Go.RowKit Go.Joins
attribute [local go_sem ↓] Go.wp_at_zero Go.wp_at_succ

/-- the law's state: both disks the same, so many writes at most -/
structure DSI (w wr : World) (db rb : Nat) (n k : Nat) (s : DSt) : Prop where
  two : Two w wr db rb s s
  len : s.now.length = n
  wl : s.wait.length ≤ k
theorem dlen_write (s : DSt) (a : Int) (d : ByteArray) : (dwriteD s a d).now.length = s.now.length ∧ (dwriteD s a d).wait.length ≤ s.wait.length + 1 := by
  have h1 := dstepD_keeps s
  unfold dwriteD
  split
  · exact ⟨rfl, Nat.le_succ _⟩
  · split
    · unfold laidD
      simp [h1.1, h1.2]
    · rw [h1.1, h1.2]; exact ⟨rfl, Nat.le_succ _⟩
theorem dlen_flush (s : DSt) : (flushD s).now.length = s.now.length ∧ (flushD s).wait.length ≤ s.wait.length := by
  have h1 := dstepD_keeps s
  unfold flushD
  split
  · exact ⟨by rw [h1.1], by simp⟩
  · rw [h1.1, h1.2]; exact ⟨rfl, Nat.le_refl _⟩
theorem dlen_restart (s : DSt) (k : Int) (h : s.kept.length = s.now.length) : (restartD s k).now.length = s.now.length ∧ (restartD s k).wait.length = 0 := by
  unfold restartD
  exact ⟨by rw [keepL_len]; exact h, rfl⟩
theorem Two.kl {w wr : World} {db rb : Nat} {s t : DSt} (h : Two w wr db rb s t) : s.kept.length = s.now.length := by
  obtain ⟨S, S', h1, _⟩ := h.ex
  exact h1.many.2.2
theorem same_errV (n : Nat) (w : World) : Calls Try.prog 12 #[errV n, .int .i64 (n : Int)] w fun e w' => e = .returned (.bool true) ∧ w' = w := same_of n _ w rfl
set_option maxRecDepth 8000 in
set_option maxHeartbeats 8000000 in
theorem diskSays_walk (n : Int) (l : List ActL) (ao : Option Addr) (cap : Nat) (w : World) (hd : heldAc w ao l) (hn0 : -9223372036854775808 ≤ n) (hn1 : n ≤ 9223372036854775807) :
    Calls Try.prog 3 #[.int .i64 n, .slice ao l.length cap] w fun e w' => e = .returned (.bool true) ∧ Below w.heap.size w w' := by
  have HD := hide hd
  clear hd
  go_enter Try.func3, Try.ntmps3
  go_wp2_with (first
    | (go_at_call 8; refine (spins_any _).mono ?_; rintro e w1 ⟨rfl, hb1⟩; have HB1 := hide hb1; clear hb1)
    | (go_at_call 9; refine (lightAc_held l 80 cap ao _ (heldAc_on HB1.out HD.out) (by omega)).mono ?_; rintro e w2 ⟨rfl, rfl⟩; cases hla : lightActs l 80)
    | fail)
  · go_ret
    exact ⟨rfl, HB1.out⟩
  have hal : l.length ≤ 80 := by have := hla; simp only [lightActs, Bool.and_eq_true, decide_eq_true_eq] at this; exact this.1
  clear hla
  by_cases hbad : n < 1 ∨ 200 < n
  · have he1 : errV 1 = .iface 82 (.int .i64 1) := rfl
    have HNB := hide (newDisk_bad n w2 hbad)
    rw [he1] at HNB
    clear he1
    go_wp2_with (first
      | (go_at_call 10; refine HNB.out.mono ?_; rintro e w3 ⟨rfl, rfl⟩)
      | (go_at_call 11; refine (newR_bad n _ hbad).mono ?_; rintro e w4 ⟨rfl, rfl⟩)
      | (go_at_call 12; refine (same_err 1 1 _ (by decide)).mono ?_; rintro e w5 ⟨rfl, rfl⟩))
    go_ret
    exact ⟨rfl, HB1.out⟩
  obtain ⟨m, rfl⟩ := Int.eq_ofNat_of_zero_le (show 0 ≤ n by omega)
  have hm1 : 1 ≤ m := by omega
  have hm2 : m ≤ 200 := by omega
  clear hbad hn0 hn1
  go_wp2_with (first
    | (go_at_call 10; refine (newDisk_good m _ hm1 hm2).mono ?_; rintro e w3 ⟨db, rfl, hn3⟩; obtain ⟨⟨S3, hk3⟩, hb3⟩ := hn3; have HK3 := hide hk3; have HB3 := hide hb3; clear hk3 hb3)
    | (go_at_call 11; refine (newR_good m _ hm1 hm2).mono ?_; rintro e w4 ⟨rb, rfl, hn4⟩; obtain ⟨⟨S4, hk4⟩, hb4⟩ := hn4; have HT4 : Hid (Two w w4 db rb (initD m) (initD m)) := (⟨⟨S3, S4, (HK3.out.on hb4).lower HB1.out.size, hk4.lower (Nat.le_trans HB1.out.size HB3.out.size), fun k a b => (by have a' := HK3.out.lt a; have b' := hk4.low b; omega)⟩, below_on (below_on HB1.out (Nat.le_refl _) HB3.out) (Nat.le_refl _) hb4⟩); have HSC := hide (dsectors_any _ (HK3.out.on hb4)); rw [show (initD m).now.length = m from List.length_replicate] at HSC; clear hk4 hb4)
    | (go_at_call 13; refine HSC.out.mono ?_; rintro e w5 ⟨rfl, rfl⟩)
    | fail)
  have HI0 : Hid (DSI w w5 db rb m 0 (initD m)) := ⟨HT4.out, List.length_replicate, Nat.le_refl _⟩
  clear HT4 HSC HK3 HB3 HB1
  go_loopw [10] (fun iv wr => ∃ (k : Nat) (s : DSt), k ≤ l.length ∧ iv = .int .i64 (k : Int) ∧ DSI w wr db rb m k s) (fun iv _ => l.length - (intOf iv).toNat)
  case atStart => exact ⟨0, _, Nat.zero_le _, rfl, HI0.out⟩
  case round =>
    obtain ⟨k, s, hk, rfl, hI⟩ := hrel
    clear HI0
    by_cases hlt : k < l.length
    · have hlt' : (k : Int) < (l.length : Int) := by omega
      rcases HD.out with e | ⟨b, off, e, hac⟩
      · rw [e] at hlt; simp at hlt
      subst e
      have hx := (hac k hlt).on hI.two.bel
      clear hac
      generalize l[k] = x at *
      have x0 := hx.kind
      have x1 := hx.a
      have x2 := hx.b
      have x3 := hx.c
      have x4 := hx.k
      have x5 := hx.s
      have x6 := hx.t
      have x7 := hx.cl
      have x8 := hx.sl
      have xi := hx.ai
      have HTA := hide (hI.two.with x)
      have HLN := hide hI.len
      have HWL := hide hI.wl
      have HKL := hide hI.two.kl
      clear hx hI
      have ya := HTA.out.act.kind
      generalize hWX : wr.alloc (Obj.cells #[Value.string x.kind, Value.int .i64 x.a, Value.int .i64 x.b, Value.int .i64 x.c, Value.int .u64 x.k, Value.string x.s, Value.string x.t, Value.slice x.ca x.chs.length x.cc, Value.slice x.sa x.sps.length x.sc] 39) = wx at *
      cases hw : (x.kind.toList == [119, 114, 105, 116, 101]) with
      | true =>
        obtain ⟨SD, hkD, hD⟩ := (HTA.out.on (Below.refl _ wx).drew).getD
        have HWD := hide (dwrite_any x.a x.s wx.drew hkD)
        have HDD := hide hD
        have HCA : Hid (wx.drew.cell? ⟨wr.heap.size, 1, none⟩ = some (.int .i64 x.a) ∧ wx.drew.cell? ⟨wr.heap.size, 5, none⟩ = some (.string x.s)) := ⟨HTA.out.act.a, HTA.out.act.s⟩
        have HWF := fun w => hide (same_errV (dwriteF s x.a x.s) w)
        have HL2 := hide (dlen_write s x.a x.s)
        have hw1 : s.wait.length ≤ 1000000 := by have := HWL.out; omega
        have HRW : Hid (∀ W S, RK W w.heap.size rb S s → Calls Try.prog 15 #[.pointer (some ⟨rb, 0, none⟩), .int .i64 x.a, .string x.s] W fun e w' => e = .returned (.int .i64 (dwriteF s x.a x.s : Nat)) ∧ ActK W w' w.heap.size rb S (dwriteD s x.a x.s)) := fun W S h => rwrite_any x.a x.s W h hw1
        clear hkD hD hw1
        generalize dwriteF s x.a x.s = ff at *
        generalize dwriteD s x.a x.s = s2 at *
        go_wp2_with fail
        go_region_held3 (fun w' => w'.cell? ⟨wr.heap.size, 1, none⟩ = some (.int .i64 x.a) ∧ w'.cell? ⟨wr.heap.size, 5, none⟩ = some (.string x.s)) (first | exact HCA.out | exact HC2.out | exact HC3.out)
          (first
            | (go_at_call 14; refine HWD.out.mono ?_; rintro e w7 ⟨rfl, ha7⟩; have HT7 := hide (HDD.out _ _ ha7); have HC2 : Hid (w7.cell? ⟨wr.heap.size, 1, none⟩ = some (.int .i64 x.a) ∧ w7.cell? ⟨wr.heap.size, 5, none⟩ = some (.string x.s)) := ⟨HT7.out.act.a, HT7.out.act.s⟩; clear ha7)
            | (go_at_call 15; obtain ⟨SR, hkR, hR⟩ := HT7.out.getR; refine (HRW.out _ _ hkR).mono ?_; rintro e w8 ⟨rfl, ha8⟩; have HT8 := hide (hR _ _ ha8); have HC3 : Hid (w8.cell? ⟨wr.heap.size, 1, none⟩ = some (.int .i64 x.a) ∧ w8.cell? ⟨wr.heap.size, 5, none⟩ = some (.string x.s)) := ⟨HT8.out.act.a, HT8.out.act.s⟩; clear ha8 hkR hR)
            | (go_at_call 12; refine (HWF _).out.mono ?_; rintro e w9 ⟨rfl, rfl⟩))
        obtain ⟨SD9, hkD9, _⟩ := HT8.out.getD
        have HD9 := hide (fun n => ddown_any _ (hkD9.on (below_drewN (Below.refl _ _) n)))
        clear hkD9
        obtain ⟨SR9, hkR9, _⟩ := HT8.out.getR
        obtain ⟨kv9, nv9, tv9, F9, hr9, _⟩ := hkR9
        have c49 := hr9.c4
        have HT9 := hide HT8.out.two
        clear hr9 HT8
        generalize s2.down = bd at *
        go_wp2_with fail
        go_quiet ((go_at_call 23; exact Calls.quiet_of_same (HD9.out _)))
        go_wp2
        exact ⟨⟨k + 1, _, by omega, by go_num, HT9.out.on (below_drewN (Below.refl _ _) _), by rw [HL2.out.1]; exact HLN.out, by have := HL2.out.2; have := HWL.out; omega⟩, by simp [intOf]; omega⟩
      | false =>
        cases hrd : (x.kind.toList == [114, 101, 97, 100]) with
        | true =>
          have y1 := HTA.out.act.a
          obtain ⟨SD, hkD, _⟩ := HTA.out.getD
          obtain ⟨SR, hkR, _⟩ := HTA.out.getR
          have HRD := hide (dread_any x.a wx hkD)
          have HRR := hide (rread_any x.a wx hkR)
          have HRF := fun w => hide (same_errV (dreadF s x.a) w)
          clear hkD hkR
          generalize dreadF s x.a = ff at *
          generalize dreadD s x.a = dd at *
          have ebb : (dd.toList == dd.toList) = true := by simp
          go_wp2_with (first
            | (go_at_call 16; refine HRD.out.mono ?_; rintro e w7 ⟨rfl, rfl⟩)
            | (go_at_call 17; refine HRR.out.mono ?_; rintro e w8 ⟨rfl, rfl⟩)
            | (go_at_call 12; refine (HRF _).out.mono ?_; rintro e w9 ⟨rfl, rfl⟩)
            | fail)
          obtain ⟨SD9, hkD9, _⟩ := HTA.out.getD
          have HD9 := hide (fun n => ddown_any _ (hkD9.on (below_drewN (Below.refl _ _) n)))
          clear hkD9
          obtain ⟨SR9, hkR9, _⟩ := HTA.out.getR
          obtain ⟨kv9, nv9, tv9, F9, hr9, _⟩ := hkR9
          have c49 := hr9.c4
          have HT9 := hide HTA.out.two
          clear hr9 HTA
          generalize s.down = bd at *
          go_wp2_with fail
          go_quiet ((go_at_call 23; exact Calls.quiet_of_same (HD9.out _)))
          go_wp2
          exact ⟨⟨k + 1, _, by omega, by go_num, HT9.out.on (below_drewN (Below.refl _ _) _), HLN.out, Nat.le_succ_of_le HWL.out⟩, by simp [intOf]; omega⟩
        | false =>
          cases hfl : (x.kind.toList == [102, 108, 117, 115, 104]) with
          | true =>
            obtain ⟨SD, hkD, hD⟩ := HTA.out.getD
            have HFD := hide (dflush_any wx hkD)
            have HDD := hide hD
            have HFF := fun w => hide (same_errV (dstepF s) w)
            have HL2' := dlen_flush s
            have HL2 : Hid ((flushD s).now.length = s.now.length ∧ (flushD s).wait.length ≤ s.wait.length + 1) := ⟨HL2'.1, Nat.le_succ_of_le HL2'.2⟩
            have HRW : Hid (∀ W S, RK W w.heap.size rb S s → Calls Try.prog 19 #[.pointer (some ⟨rb, 0, none⟩)] W fun e w' => e = .returned (.int .i64 (dstepF s : Nat)) ∧ ActK W w' w.heap.size rb S (flushD s)) := fun W S h => rflush_any W h
            clear hkD hD HL2'
            generalize dstepF s = ff at *
            generalize flushD s = s2 at *
            go_wp2_with (first
              | (go_at_call 18; refine HFD.out.mono ?_; rintro e w7 ⟨rfl, ha7⟩; have HT7 := hide (HDD.out _ _ ha7); clear ha7)
              | (go_at_call 19; obtain ⟨SR, hkR, hR⟩ := HT7.out.getR; refine (HRW.out _ _ hkR).mono ?_; rintro e w8 ⟨rfl, ha8⟩; have HT8 := hide (hR _ _ ha8); clear ha8 hkR hR)
              | (go_at_call 12; refine (HFF _).out.mono ?_; rintro e w9 ⟨rfl, rfl⟩)
              | fail)
            obtain ⟨SD9, hkD9, _⟩ := HT8.out.getD
            have HD9 := hide (fun n => ddown_any _ (hkD9.on (below_drewN (Below.refl _ _) n)))
            clear hkD9
            obtain ⟨SR9, hkR9, _⟩ := HT8.out.getR
            obtain ⟨kv9, nv9, tv9, F9, hr9, _⟩ := hkR9
            have c49 := hr9.c4
            have HT9 := hide HT8.out.two
            clear hr9 HT8
            generalize s2.down = bd at *
            go_wp2_with fail
            go_quiet ((go_at_call 23; exact Calls.quiet_of_same (HD9.out _)))
            go_wp2
            exact ⟨⟨k + 1, _, by omega, by go_num, HT9.out.on (below_drewN (Below.refl _ _) _), by rw [HL2.out.1]; exact HLN.out, by have := HL2.out.2; have := HWL.out; omega⟩, by simp [intOf]; omega⟩
          | false =>
            cases har : (x.kind.toList == [97, 114, 109]) with
            | true =>
              have y1 := HTA.out.act.a
              obtain ⟨SD, hkD, hD⟩ := HTA.out.getD
              have HAD := hide (darm_any x.a wx hkD xi.1 xi.2)
              have HDD := hide hD
              have HL2 : Hid ((armD s x.a).now.length = s.now.length ∧ (armD s x.a).wait.length ≤ s.wait.length + 1) := ⟨rfl, Nat.le_succ _⟩
              have HXI := hide xi
              clear hkD hD
              go_wp2_with (first
                | (go_at_call 20; refine HAD.out.mono ?_; rintro e w7 ⟨rfl, ha7⟩; have HT7 := hide (HDD.out _ _ ha7); clear ha7; obtain ⟨SR, hkR, hR⟩ := HT7.out.getR; have HT8 := hide (hR _ _ (hkR.arm x.a HXI.out.2)); obtain ⟨kv8, nv8, tv8, F8, hr8, _⟩ := hkR; have c38 := hr8.c3; have f38 := hr8.soft 3; have z1 := HT7.out.act.a; clear hr8 hR)
                | fail)
              obtain ⟨SD9, hkD9, _⟩ := HT8.out.getD
              have HD9 := hide (fun n => ddown_any _ (hkD9.on (below_drewN (Below.refl _ _) n)))
              clear hkD9
              obtain ⟨SR9, hkR9, _⟩ := HT8.out.getR
              obtain ⟨kv9, nv9, tv9, F9, hr9, _⟩ := hkR9
              have c49 := hr9.c4
              have HT9 := hide HT8.out.two
              clear hr9 HT8
              generalize (armD s x.a).down = bd at *
              go_wp2_with fail
              go_quiet ((go_at_call 23; exact Calls.quiet_of_same (HD9.out _)))
              go_wp2
              exact ⟨⟨k + 1, _, by omega, by go_num, HT9.out.on (below_drewN (Below.refl _ _) _), by rw [HL2.out.1]; exact HLN.out, by have := HL2.out.2; have := HWL.out; omega⟩, by simp [intOf]; omega⟩
            | false =>
              have y4 := HTA.out.act.k
              obtain ⟨SD, hkD, hD⟩ := HTA.out.getD
              have HFD := hide (drestart_any x.k wx hkD)
              have HDD := hide hD
              have HL2' := dlen_restart s x.k HKL.out
              have HL2 : Hid ((restartD s x.k).now.length = s.now.length ∧ (restartD s x.k).wait.length ≤ s.wait.length + 1) := ⟨HL2'.1, by rw [HL2'.2]; exact Nat.zero_le _⟩
              have hw1 : s.wait.length ≤ 1000000 := by have := HWL.out; omega
              have HRW : Hid (∀ W S, RK W w.heap.size rb S s → Calls Try.prog 22 #[.pointer (some ⟨rb, 0, none⟩), .int .u64 x.k] W fun e w' => e = .returned (.tuple #[]) ∧ ActK W w' w.heap.size rb S (restartD s x.k)) := fun W S h => rrestart_any x.k W h hw1
              clear hkD hD HL2' hw1
              generalize restartD s x.k = s2 at *
              go_wp2_with (first
                | (go_at_call 21; refine HFD.out.mono ?_; rintro e w7 ⟨rfl, ha7⟩; have HT7 := hide (HDD.out _ _ ha7); have z4 := HT7.out.act.k; clear ha7)
                | (go_at_call 22; obtain ⟨SR, hkR, hR⟩ := HT7.out.getR; refine (HRW.out _ _ hkR).mono ?_; rintro e w8 ⟨rfl, ha8⟩; have HT8 := hide (hR _ _ ha8); clear ha8 hkR hR)
                | fail)
              obtain ⟨SD9, hkD9, _⟩ := HT8.out.getD
              have HD9 := hide (fun n => ddown_any _ (hkD9.on (below_drewN (Below.refl _ _) n)))
              clear hkD9
              obtain ⟨SR9, hkR9, _⟩ := HT8.out.getR
              obtain ⟨kv9, nv9, tv9, F9, hr9, _⟩ := hkR9
              have c49 := hr9.c4
              have HT9 := hide HT8.out.two
              clear hr9 HT8
              generalize s2.down = bd at *
              go_wp2_with fail
              go_quiet ((go_at_call 23; exact Calls.quiet_of_same (HD9.out _)))
              go_wp2
              exact ⟨⟨k + 1, _, by omega, by go_num, HT9.out.on (below_drewN (Below.refl _ _) _), by rw [HL2.out.1]; exact HLN.out, by have := HL2.out.2; have := HWL.out; omega⟩, by simp [intOf]; omega⟩
    · have ek : k = l.length := by omega
      subst ek
      have hlt' : ¬ (l.length : Int) < (l.length : Int) := by omega
      have HT := hide hI.two
      obtain ⟨SD, SR, hkD, hkR, _⟩ := hI.two.ex
      have HDK := hide hkD
      have HRK := hide hkR
      clear hI hkD hkR
      go_wp2
      go_loopw [17] (fun iv wr' => ∃ k : Nat, k ≤ m + 2 ∧ iv = .int .i64 ((k : Int) - 1) ∧ wr' = wr) (fun iv _ => m + 2 - (intOf iv + 1).toNat)
      case atStart => exact ⟨0, Nat.zero_le _, rfl, rfl⟩
      case round =>
        obtain ⟨j, hj, rfl, rfl⟩ := hrel
        by_cases hlt2 : j < m + 2
        · have hlt2' : (j : Int) - 1 ≤ (m : Int) := by omega
          have hj0 : (0 : Int) ≤ (j : Int) := by omega
          have hj1 : (j : Int) ≤ 202 := by omega
          have HRD := hide (dread_any ((j : Int) - 1) _ HDK.out)
          have HRR := hide (rread_any ((j : Int) - 1) _ HRK.out)
          have HRF := fun w => hide (same_errV (dreadF s ((j : Int) - 1)) w)
          generalize dreadF s ((j : Int) - 1) = ff at *
          generalize dreadD s ((j : Int) - 1) = dd at *
          have ebb : (dd.toList == dd.toList) = true := by simp
          go_wp2_with (first
            | (go_at_call 16; refine HRD.out.mono ?_; rintro e w7 ⟨rfl, rfl⟩)
            | (go_at_call 17; refine HRR.out.mono ?_; rintro e w8 ⟨rfl, rfl⟩)
            | (go_at_call 12; refine (HRF _).out.mono ?_; rintro e w9 ⟨rfl, rfl⟩)
            | fail)
          exact ⟨⟨j + 1, by omega, by go_num, trivial⟩, by simp [intOf]; omega⟩
        · have ej : j = m + 2 := by omega
          subst ej
          have hlt2' : ¬ ((m + 2 : Nat) : Int) - 1 ≤ (m : Int) := by omega
          go_wp2
          go_ret
          exact ⟨rfl, HT.out.bel⟩
end Go.Proofs.Ytkfpfbkdalbjoaa
