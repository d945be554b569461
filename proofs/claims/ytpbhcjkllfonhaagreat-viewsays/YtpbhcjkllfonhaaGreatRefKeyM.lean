/-
  What haywainref.KeyFault returns: 0 at a key of a row, else 3; for every text; it changes nothing.
-/
import Derived.Test.YtpbhcjkllfonhaaGreatRefKey
import Derived.Test.YtpbhcjkllfonhaaGreatChgCheck
namespace Go.Proofs.YtpbhcjkllfonhaaGreat
open Go.RowKit Go.Joins

theorem wrap_in {n : Int} (h0 : 0 ≤ n) (h1 : n ≤ 100000) : wrap64 n = n := by unfold wrap64; omega
theorem message_at {k : ByteArray} (h10 : 10 ≤ k.size) (hm : (k.extract 0 2).toList = [109, 47]) (h : k.size - 7 < k.size) :
    messageL k.data.toList = ((k[k.size - 7] == 47) && (nameL (k.extract 2 (k.size - 7)).data.toList && (List.range 6).all fun i => isDig (k.data.toList.getD (k.size - 6 + i) 0))) := by
  rw [take_two] at hm
  rw [message_eq, len_data, hm, byte_at k _ h, data_mid, digTo_drop]
  have e : k.size - 7 - 2 = k.size - 9 := by omega
  rw [e]
  simp [h10]
set_option maxHeartbeats 2000000 in
theorem keyFault_message (k : ByteArray) (w : World) (h10 : 10 ≤ k.size) (hn : k.size ≤ 1000) (hm : (k.extract 0 2).toList = [109, 47]) :
    Calls Tryz.prog 25 #[.string k] w fun e w' => e = .returned (.int .i64 (faultK k.data.toList)) ∧ w' = w := by
  have h : ¬ (k.extract 0 2).toList = [116, 47] := by rw [hm]; decide
  have h' : ¬ (k.extract 0 2).toList = [113, 47] := by rw [hm]; decide
  have g2 : (2 : Int) < (k.size : Int) := by omega
  have g10 : decide ((k.size : Int) < 10) = false := by simp; omega
  have i7 : (k.size : Int) - 7 = ((k.size - 7 : Nat) : Int) := by omega
  have w7 : wrap64 ((k.size - 7 : Nat) : Int) = ((k.size - 7 : Nat) : Int) := wrap_in (by omega) (by omega)
  have i6 : (k.size : Int) - 6 = ((k.size - 6 : Nat) : Int) := by omega
  have w6 : wrap64 ((k.size - 6 : Nat) : Int) = ((k.size - 6 : Nat) : Int) := wrap_in (by omega) (by omega)
  have l7 : k.size - 7 < k.size := by omega
  have j7 : (2 : Int) ≤ ((k.size - 7 : Nat) : Int) := by omega
  have z7 : (0 : Int) ≤ ((k.size - 7 : Nat) : Int) := by omega
  have y7 : ((k.size - 7 : Nat) : Int) < (k.size : Int) := by omega
  have x7 : ((k.size - 7 : Nat) : Int) ≤ (k.size : Int) := by omega
  have b1 := beq_eq_false_iff_ne.2 h
  have b2 := beq_eq_false_iff_ne.2 h'
  have HM := hide (message_at h10 hm l7)
  have HF0 : Hid (messageL k.data.toList = false → faultK k.data.toList = 3) := fault_no h h'
  have HF1 : Hid (messageL k.data.toList = true → faultK k.data.toList = 0) := fault_yes h h'
  by_cases hc : k[k.size - 7] = 47
  · have c47 : ((k[k.size - 7].toNat : Int) != 47) = false := by rw [hc]; rfl
    have hN := fun w' => nameMay_any (k.extract 2 (k.size - 7)) w'
    generalize hy : nameL (k.extract 2 (k.size - 7)).data.toList = y at hN
    have HN := fun w' => hide (hN w')
    clear hN
    have HY := hide hy
    have HC := hide hc
    clear hy hc
    cases y
    · go_enter Tryz.func25, Tryz.ntmps25
      go_wp2_with (go_at_call 49; refine ((HN _).out).mono ?_; rintro e w1 ⟨rfl, rfl⟩)
      go_ret
      exact ⟨ret_int (by rw [HF0.out (by rw [HM.out, HC.out, HY.out]; rfl)]; rfl), rfl⟩
    · replace HM : Hid (messageL k.data.toList = (List.range 6).all fun i => isDig (k.data.toList.getD (k.size - 6 + i) 0)) := by
        have := HM.out
        rw [HC.out, HY.out] at this
        exact this
      go_enter Tryz.func25, Tryz.ntmps25
      go_wp2_with (go_at_call 49; refine ((HN _).out).mono ?_; rintro e w1 ⟨rfl, rfl⟩)
      go_loop [6] (fun i => ∃ j : Nat, j ≤ 6 ∧ i = .int .i64 ((k.size - 6 + j : Nat) : Int) ∧ (List.range j).all (fun i => isDig (k.data.toList.getD (k.size - 6 + i) 0)) = true) (fun i => k.size - (intOf i).toNat)
      case atStart => exact ⟨0, Nat.zero_le _, rfl, rfl⟩
      case round =>
        obtain ⟨j, hj, rfl, hd⟩ := hrel
        have HD := hide hd
        clear hd
        by_cases hlt : j < 6
        · have hl : k.size - 6 + j < k.size := by omega
          have hl' : ((k.size - 6 + j : Nat) : Int) < (k.size : Int) := by omega
          have hB := byte_at k _ hl
          have HS : Hid ((List.range (j + 1)).all (fun i => isDig (k.data.toList.getD (k.size - 6 + i) 0)) = isDig k[k.size - 6 + j]) := by
            show _ = _
            rw [List.range_succ, List.all_append, HD.out, ← hB]; simp
          have HG := hide (dig_iff k[k.size - 6 + j])
          have hle : ∀ b, (List.range (j + 1)).all (fun i => isDig (k.data.toList.getD (k.size - 6 + i) 0)) = b → b = false → (List.range 6).all (fun i => isDig (k.data.toList.getD (k.size - 6 + i) 0)) = false := by
            intro b h hb
            subst hb
            rw [List.all_eq_false] at *
            obtain ⟨x, hx, h2⟩ := h
            exact ⟨x, List.mem_range.2 (by have := List.mem_range.1 hx; omega), h2⟩
          have HE := hide hle
          have wj : wrap64 (((k.size - 6 + j : Nat) : Int) + 1) = ((k.size - 6 + (j + 1) : Nat) : Int) := by rw [wrap_in] <;> omega
          clear hle hB
          generalize k.size - 6 + j = p at *
          have hb8 : (k[p].toNat : Int) < 48 ∨ (48 ≤ (k[p].toNat : Int) ∧ (k[p].toNat : Int) ≤ 57) ∨ 58 ≤ (k[p].toNat : Int) := by omega
          rcases hb8 with b | ⟨b, b'⟩ | b
          · replace HS := hide (HE.out _ HS.out (Bool.eq_false_iff.2 fun h => by have := HG.out.1 h; omega))
            go_wp2
            go_ret
            exact ⟨ret_int (by rw [HF0.out (HM.out.trans HS.out)]; rfl), rfl⟩
          · replace HS := hide (HS.out.trans (HG.out.2 ⟨b, b'⟩))
            go_wp2
            go_round
            case rel => exact ⟨j + 1, by omega, by rw [← wj, wrap_in (by omega) (by omega)], HS.out⟩
            case measure => simp [intOf]; omega
          · replace HS := hide (HE.out _ HS.out (Bool.eq_false_iff.2 fun h => by have := HG.out.1 h; omega))
            go_wp2
            go_ret
            exact ⟨ret_int (by rw [HF0.out (HM.out.trans HS.out)]; rfl), rfl⟩
        · have e : j = 6 := by omega
          subst e
          have e2 : k.size - 6 + 6 = k.size := by omega
          rw [e2]
          go_wp2
          go_ret
          exact ⟨ret_int (by rw [HF1.out (HM.out.trans HD.out)]; rfl), rfl⟩
  · have c47 : ((k[k.size - 7].toNat : Int) != 47) = true := by
      rw [bne_iff_ne]; intro e; exact hc (UInt8.toNat_inj.1 (by simpa using Int.ofNat.inj e))
    have hf := HF0.out (by rw [HM.out, beq_eq_false_iff_ne.2 hc, Bool.false_and])
    rw [hf]
    clear hf hc
    go_enter Tryz.func25, Tryz.ntmps25
    go_wp2
    go_ret
    exact ⟨rfl, rfl⟩
theorem keyFault_any (k : ByteArray) (w : World) (hn : k.size ≤ 1000) :
    Calls Tryz.prog 25 #[.string k] w fun e w' => e = .returned (.int .i64 (faultK k.data.toList)) ∧ w' = w := by
  by_cases h2 : 2 < k.size
  · by_cases ht : (k.extract 0 2).toList = [116, 47]
    · exact keyFault_named k w h2 (.inl ht)
    · by_cases hq : (k.extract 0 2).toList = [113, 47]
      · exact keyFault_named k w h2 (.inr ⟨ht, hq⟩)
      · by_cases hm : (k.extract 0 2).toList = [109, 47]
        · by_cases h10 : 10 ≤ k.size
          · exact keyFault_message k w h10 hn hm
          · exact keyFault_other k w h2 ht hq (.inl (by omega))
        · exact keyFault_other k w h2 ht hq (.inr hm)
  · exact keyFault_short k w (by omega)
end Go.Proofs.YtpbhcjkllfonhaaGreat

/-
  What haywainref.ChangeFault returns: the same as package change's Check; it makes new memory alone.
-/
namespace Go.Proofs.YtpbhcjkllfonhaaGreat
open Go.RowKit Go.Joins

theorem fault_of (c : Chg) : chgFault c = if faultK c.key.data.toList = 0 then (if c.gone && !c.val.toList.isEmpty then 3 else if 40 < c.val.size then 1 else 0) else 3 := by
  unfold chgFault faultK
  cases keyL c.key.data.toList <;> simp
set_option maxHeartbeats 2000000 in
theorem rfault_any (c : Chg) (w : World) (hk : c.key.size ≤ 1000) :
    Calls Tryz.prog 29 #[.agg #[.string c.key, .string c.val, .bool c.gone]] w fun e w' => e = .returned (.int .i64 (chgFault c)) ∧ Below w.heap.size w w' := by
  have HK := fun w' => hide (keyFault_any c.key w' hk)
  rw [fault_of]
  have h03 : faultK c.key.data.toList = 0 ∨ faultK c.key.data.toList = 3 := by unfold faultK; split <;> simp
  generalize faultK c.key.data.toList = f at *
  have hB := below_alloc1 w (Obj.cells #[Value.string c.key, Value.string c.val, Value.bool c.gone] 46)
  have a1 : (w.alloc (Obj.cells #[Value.string c.key, Value.string c.val, Value.bool c.gone] 46)).cell? ⟨w.heap.size, 1, none⟩ = some (.string c.val) := by simp
  have a2 : (w.alloc (Obj.cells #[Value.string c.key, Value.string c.val, Value.bool c.gone] 46)).cell? ⟨w.heap.size, 2, none⟩ = some (.bool c.gone) := by simp
  rcases h03 with rfl | rfl
  · generalize c.gone = g at *
    cases g
    all_goals
      by_cases h40 : 40 < c.val.size
      · have j40 : (40 : Int) < (c.val.size : Int) := by omega
        go_enter Tryz.func29, Tryz.ntmps29
        go_wp2_with (go_at_call 25; refine ((HK _).out).mono ?_; rintro e w1 ⟨rfl, rfl⟩)
        all_goals
          go_ret
          exact ⟨by simp_all, hB⟩
      · have j40 : ¬ (40 : Int) < (c.val.size : Int) := by omega
        go_enter Tryz.func29, Tryz.ntmps29
        go_wp2_with (go_at_call 25; refine ((HK _).out).mono ?_; rintro e w1 ⟨rfl, rfl⟩)
        all_goals
          go_ret
          exact ⟨by simp_all, hB⟩
  · go_enter Tryz.func29, Tryz.ntmps29
    go_wp2_with (go_at_call 25; refine ((HK _).out).mono ?_; rintro e w1 ⟨rfl, rfl⟩)
    go_ret
    exact ⟨rfl, hB⟩
end Go.Proofs.YtpbhcjkllfonhaaGreat
