/-
  What haywaintop.TopScan returns: true, of whatever came in.
-/
import Derived.Test.YtjphbmdmnicjpabTopPastOne
import Derived.Test.YtjphbmdmnicjpabScanRun
import Derived.Test.YtjphbmdmnicjpabSpan
namespace Go.Proofs.Ytjphbmdmnicjpab
open Go.RowKit Go.Joins

theorem span_one (w : World) (s : ByteArray × ByteArray) : spansAt (w.alloc (Obj.cells #[Value.string s.1, Value.string s.2] 23)) w.heap.size 0 [s] := fun i hi => by
  have e : i = 0 := by simpa using hi
  subst e
  exact ⟨cell_new _ _ _ 0, cell_new _ _ _ 1⟩
theorem keysOf_small (rows : List (ByteArray × ByteArray)) (ds : List Dd) (hr : ∀ r ∈ rows, r.1.size ≤ 1000000) (hl : lightDs ds) : ∀ k ∈ keysOf rows ds, k.size ≤ maxLen := by
  intro k hk
  unfold maxLen
  rcases List.mem_append.1 hk with h | h
  · obtain ⟨r, hr', rfl⟩ := List.mem_map.1 h
    have := hr r hr'
    omega
  · obtain ⟨d, hd, h'⟩ := List.mem_flatMap.1 h
    obtain ⟨c, hc, rfl⟩ := List.mem_map.1 h'
    have := (hl.2 d hd).2 c hc
    omega
theorem keysOf_succ (rows : List (ByteArray × ByteArray)) (ds : List Dd) {q : Nat} (h : q < ds.length) : keysOf rows (ds.take (q + 1)) = keysOf rows (ds.take q) ++ ds[q].chs.map (·.key) := by
  unfold keysOf
  rw [List.take_succ_eq_append_getElem h, List.flatMap_append, List.append_assoc]
  simp
theorem keysOf_len (rows : List (ByteArray × ByteArray)) (ds : List Dd) (hl : lightDs ds) : ∀ q, q ≤ ds.length → (keysOf rows (ds.take q)).length ≤ rows.length + q * 1000
  | 0, _ => by simp [keysOf]
  | q + 1, h => by
    have ih := keysOf_len rows ds hl q (by omega)
    have hm := (hl.2 _ (List.getElem_mem (show q < ds.length by omega))).1
    rw [keysOf_succ rows ds (by omega), List.length_append, List.length_map]
    omega
theorem one_many {F : List (ByteArray × ByteArray)} (hn : (F.map (·.1)).Nodup) (hF : ∀ r, r ∈ F ↔ told (applyR (initR []) 1 [oneC]) 1 (⟨#[]⟩, ⟨#[]⟩) r) : F.length = 1 := by
  have h := many_told (K := [⟨#[116, 47, 97]⟩]) hn hF (fun k hk => by
    have e : k = ⟨#[116, 47, 97]⟩ := by simpa using hk
    subst e; decide +kernel) (fun key h => by
      rcases applyR_keys 1 key [oneC] _ h with h' | h'
      · exact absurd (initR_keys [] key h') (by simp)
      · simpa [oneC] using h')
  rw [← h]
  decide +kernel

set_option maxRecDepth 4000 in
set_option maxHeartbeats 800000 in
theorem topScan_walk (rows : List (ByteArray × ByteArray)) (ra : Option Addr) (rc : Nat) (ds : List Dd) (da : Option Addr) (dc : Nat) (s : ByteArray × ByteArray) (n : Int) (w : World)
    (hr : heldSp w ra rows) (hd : heldDs w da ds) :
    Calls Try.prog 8 #[.slice ra rows.length rc, .slice da ds.length dc, .agg #[.string s.1, .string s.2], .int .i64 n] w fun e w' => e = .returned (.bool true) ∧ Below w.heap.size w w' := by
  have HR := hide hr
  have HD := hide hd
  clear hr hd
  go_enter Try.func8, Try.ntmps8
  obtain ⟨b3, hS0, hS1, hDD⟩ := one_world w s
  have HB3 := hide b3
  have HS0 := hide hS0
  have HS1 := hide hS1
  have HDD := hide hDD
  clear b3 hS0 hS1 hDD
  go_wp2_with (first
    | (go_at_call 44; refine (grown_any [] none _ 0 _ 1 _ (.inl rfl) (by simp) (by simp) HDD.out one_light).mono ?_; rintro e w1 ⟨vb, rfl, hb1, hgr⟩; rw [one_steps] at hgr; have HB1 := hide (HB3.out.trans (hb1.mono HB3.out.size)); have HG1 := hide hgr; have HS01 := hide (cell_on hb1 HS0.out); have HS11 := hide (cell_on hb1 HS1.out); clear hb1 hgr HS0 HS1 HB3 HDD)
    | (go_at_call 10; refine (all_any _).mono ?_; rintro e w2 ⟨rfl, hb2⟩; have HB2 := hide (below_on HB1.out (Nat.le_refl _) hb2); have HS02 := hide (cell_on hb2 HS01.out); have HS12 := hide (cell_on hb2 HS11.out))
    | (go_at_call 35; obtain ⟨mb, n1, D, g, hn1, hvs, hsm⟩ := HG1.out; refine (scan_any sort_says sort_nil (ByteArray.empty, ByteArray.empty) 1 _ (hvs.on hb2) (by omega) (fun key => by have := hsm.2.2 key; omega)).mono ?_; rintro e w3 ⟨v, rfl, hb3, F, hoF, hsF, hnF, hmF⟩; obtain ⟨la, lc, rfl, _⟩ := ownP_held hoF; have hl1 : F.length = 1 := one_many hnF hmF; rw [hl1]; have HB3 := hide (below_on HB2.out (Nat.le_refl _) hb3); have HS03 := hide (cell_on hb3 HS02.out); have HS13 := hide (cell_on hb3 HS12.out); clear hb3 hb2 hoF hsF hnF hmF hl1 hvs hsm HB1 HB2 HS01 HS11 HS02 HS12 HG1)
    | (go_at_call 45; refine (goodRows_any rows ra rc _ (heldSp_on HB3.out HR.out)).mono ?_; rintro e w4 ⟨v, rfl, hgood, hb4⟩; have HGD := hide hgood; have HB4 := hide (below_on HB3.out (Nat.le_refl _) hb4); have HS04 := hide (cell_on hb4 HS03.out); have HS14 := hide (cell_on hb4 HS13.out); clear hb4 hgood HB3 HS03 HS13; cases v))
  · go_ret
    exact ⟨rfl, HB4.out⟩
  have t0 := HS04.out
  have t1 := HS14.out
  go_wp2_with (first
    | (go_at_call 46; refine (lightDeeds_any ds da dc 12 _ (heldDs_on HB4.out HD.out) (by omega)).mono ?_; rintro e w5 ⟨rfl, rfl⟩; cases hlD : lightDeeds ds 12)
    | (go_at_call 12; have hb5 := below_alloc1 w5 (Obj.cells #[Value.string s.1, Value.string s.2] 23); have HB5 := hide (below_on HB4.out (Nat.le_refl _) hb5); replace t0 := cell_on hb5 t0; replace t1 := cell_on hb5 t1; refine (lightSpans_some [s] w5.heap.size 0 1 _ (span_one w5 s) (by simp [maxLen])).mono ?_; rintro e w6 ⟨rfl, rfl⟩; cases hlS : lightSpans [s]))
  · go_ret
    exact ⟨rfl, HB4.out⟩
  · go_ret
    exact ⟨rfl, HB5.out⟩
  have hgb : goodB rows := HGD.out (by trivial)
  have hrn : rows.length ≤ 1000 := by have := hgb.1; omega
  have HRK : Hid (∀ r ∈ rows, r.1.size ≤ 1000000) := fun r hr => by have := hgb.2 r hr; omega
  have HLD := hide (light_ds hlD)
  clear hlD hlS HGD hgb HS04 HS14
  go_wp2_with (first
    | (go_at_call 44; refine (grown_any rows ra da rc ds dc _ (heldSp_on HB5.out HR.out) hrn HRK.out (heldDs_on HB5.out HD.out) HLD.out).mono ?_; rintro e w7 ⟨vb2, rfl, hb7, hgr⟩; obtain ⟨mb2, n2, D2, g2, hn2, hvs, hsm⟩ := hgr; have HB7 := hide (below_on HB5.out (Nat.le_refl _) hb7); replace t0 := cell_on hb7 t0; replace t1 := cell_on hb7 t1; have HKY : Hid (∀ key, (stepsR (0, initR rows) ds).2 key ≠ [] → key ∈ keysOf rows ds) := grown_keys rows ds; generalize stepsR (0, initR rows) ds = p at hvs hsm HKY; have hp0 := hsm.1; have hp1 := hsm.2.1; have HV7 := hide hvs; have HSM := hide hsm; clear hb7 hvs hsm)
    | (go_at_call 37; have hb8 := below_alloc1 w7 (Obj.cells #[Value.pointer (some ⟨vb2, 0, none⟩)] 53); have HV8 := hide (HV7.out.on hb8); refine (now_any _ HV8.out).mono ?_; rintro e w8 ⟨rfl, rfl⟩; obtain ⟨at_, hat⟩ : ∃ a, (bits .and .i64 n 1023).tmod (p.1 + 1) = a := ⟨_, rfl⟩; have hb9 := below_alloc2 w7 (Obj.cells #[Value.pointer (some ⟨vb2, 0, none⟩)] 53) (Obj.cells #[Value.int .i64 at_] 3); have HB9 := hide (below_on HB7.out (Nat.le_refl _) hb9); have HV9 := hide (HV7.out.on hb9); have hs7 := World.block_lt_of_cell? _ _ t0; replace t0 := cell_on hb9 t0; replace t1 := cell_on hb9 t1; have tv : ((w7.alloc (Obj.cells #[Value.pointer (some ⟨vb2, 0, none⟩)] 53)).alloc (Obj.cells #[Value.int .i64 at_] 3)).cell? ⟨w7.heap.size, 0, none⟩ = some (.pointer (some ⟨vb2, 0, none⟩)) := cell_on (below_alloc1 _ (Obj.cells #[Value.int .i64 at_] 3)) (cell_new w7 #[Value.pointer (some ⟨vb2, 0, none⟩)] 53 0); have tk : ((w7.alloc (Obj.cells #[Value.pointer (some ⟨vb2, 0, none⟩)] 53)).alloc (Obj.cells #[Value.int .i64 at_] 3)).cell? ⟨(w7.alloc (Obj.cells #[Value.pointer (some ⟨vb2, 0, none⟩)] 53)).heap.size, 0, none⟩ = some (.int .i64 at_) := cell_new (w7.alloc (Obj.cells #[Value.pointer (some ⟨vb2, 0, none⟩)] 53)) #[Value.int .i64 at_] 3 0; simp only [World.size_alloc] at tk; clear HV8 hb8)
    | (go_at_call 35; refine (scan_any sort_says sort_nil s at_ _ HV9.out (by omega) (fun key => by have := HSM.out.2.2 key; omega)).mono ?_; rintro e w10 ⟨v, rfl, hb10, F2, hoF, hsF, hnF, hmF⟩; obtain ⟨la2, lc2, rfl, hhF⟩ := ownP_held hoF; have hlF := (ownP_has hoF).2; have HB10 := hide (below_on HB9.out (Nat.le_refl _) hb10); have HV10 := hide (HV9.out.on hb10); replace t0 := cell_on hb10 t0; replace t1 := cell_on hb10 t1; replace tv := cell_on hb10 tv; replace tk := cell_on hb10 tk; have hs10 := hb10.size; simp only [World.size_alloc] at hs10; have HHF := hide hhF; have HSF := hide (rows_strict hsF hnF); have HNF := hide hnF; have HMF := hide hmF; clear hb10 hoF hsF hnF hmF hhF hb9 HV9 HB9))
  have HAT := hide hat
  clear hat
  go_loopw [13] (fun i wr => ∃ k : Nat, k ≤ F2.length ∧ i = .int .i64 k ∧ Below w10.heap.size w10 wr) (fun i _ => F2.length - (intOf i).toNat)
  case atStart => exact ⟨0, Nat.zero_le _, rfl, Below.refl _ _⟩
  case round =>
    obtain ⟨k, hk, rfl, hBr⟩ := hrel
    have HBR := hide hBr
    have HVR := hide (HV10.out.on hBr)
    replace t0 := cell_on hBr t0
    replace t1 := cell_on hBr t1
    replace tv := cell_on hBr tv
    replace tk := cell_on hBr tk
    clear hBr
    by_cases hlt : k < F2.length
    · have hlt' : (k : Int) < (F2.length : Int) := by omega
      have htold := (HMF.out _).1 (List.getElem_mem hlt)
      rcases HHF.out with e | ⟨b, off, e, hsp⟩
      · rw [e] at hlt; simp at hlt
      subst e
      obtain ⟨c0, c1⟩ := spansAt_on HBR.out hsp k hlt
      obtain ⟨hts, hth, htb⟩ := htold
      have HTH := hide hth
      have HTB := hide htb
      clear hth htb
      have nS := OnW.some wr
      have n0 : ∀ m : OnW wr, m.w.cell? ⟨b, off + k * 2, none⟩ = some (.string F2[k].1) := fun m => m.cell c0
      have n1 : ∀ m : OnW wr, m.w.cell? ⟨w7.heap.size, 0, none⟩ = some (.pointer (some ⟨vb2, 0, none⟩)) := fun m => m.cell tv
      have n2 : ∀ m : OnW wr, m.w.cell? ⟨w7.heap.size + 1, 0, none⟩ = some (.int .i64 at_) := fun m => m.cell tk
      go_wp2
      refine wp_region_on (by kernel_rfl) (by kernel_rfl) ?_
      repeat (go_big_quiet_step ((first
        | (go_at_call 32; exact on_call (call_val (read_any F2[k].1 at_ _ (HVR.out.on (OnW.on _)) hts (by have := HSM.out.2.2 F2[k].1; omega)) (by rw [HTB.out]))))))
      refine wpQuiet_nil ?_
      intro w11 hw11
      replace hw11 := on_end hw11
      have HB11 := hide (below_on HBR.out (Nat.le_refl _) hw11)
      replace t0 := cell_on hw11 t0
      replace t1 := cell_on hw11 t1
      replace c0 := cell_on hw11 c0
      replace c1 := cell_on hw11 c1
      clear hw11 nS n0 n1 n2 tv tk
      have nS := OnW.some w11
      have n0 : ∀ m : OnW w11, m.w.cell? ⟨b, off + k * 2, none⟩ = some (.string F2[k].1) := fun m => m.cell c0
      have n1 : ∀ m : OnW w11, m.w.cell? ⟨b, off + k * 2 + 1, none⟩ = some (.string F2[k].2) := fun m => m.cell c1
      have n2 : ∀ m : OnW w11, m.w.cell? ⟨w.heap.size, 0, none⟩ = some (.string s.1) := fun m => m.cell t0
      have n3 : ∀ m : OnW w11, m.w.cell? ⟨w.heap.size, 1, none⟩ = some (.string s.2) := fun m => m.cell t1
      by_cases h0 : k = 0
      · have hd : ¬ ((0 : Int) < (k : Int)) := by omega
        have hd1 : decide ((0 : Int) < (k : Int)) = false := by simpa using hd
        have hd2 : decide (0 < k) = false := by simp; omega
        clear h0
        go_wp2
        refine wp_region_on (by kernel_rfl) (by kernel_rfl) ?_
        repeat (go_big_quiet_step ((first
          | (go_at_call 9; exact on_call (call_val (has_any s.1 s.2 F2[k].1 _) (congrArg Value.bool HTH.out))))))
        refine wpQuiet_nil ?_
        intro w12 hw12
        replace hw12 := on_end hw12
        have HB12 := hide (below_on HB11.out (Nat.le_refl _) hw12)
        clear hw12
        go_wp2
        exact ⟨⟨k + 1, by omega, by go_num, HB12.out⟩, by simp [intOf]; omega⟩
      · obtain ⟨j0, hj⟩ : ∃ j, k = j + 1 := ⟨k - 1, by omega⟩
        have hjl : j0 < F2.length := by omega
        have p0 := (spansAt_on HB11.out hsp j0 hjl).1
        have n4 : ∀ m : OnW w11, m.w.cell? ⟨b, off + j0 * 2, none⟩ = some (.string F2[j0].1) := fun m => m.cell p0
        have hd : (0 : Int) < (k : Int) := by omega
        have hd1 : decide ((0 : Int) < (k : Int)) = true := by simpa using hd
        have hd2 : decide (0 < k) = true := by simp; omega
        have k1 : (k : Int) - 1 = (j0 : Int) := by omega
        have k2 : (j0 : Int) < (F2.length : Int) := by omega
        have k3 : IntKind.i64.wrap ((k : Int) - 1) = (j0 : Int) := by rw [k1, IntKind.wrap_i64]; omega
        have k4 : (0 : Int) ≤ (j0 : Int) := Int.natCast_nonneg _
        have hle' : (Op.bytesLess F2[k].1.toList F2[j0].1.toList || F2[k].1.toList == F2[j0].1.toList) = false := by
          have := List.pairwise_iff_getElem.1 HSF.out j0 k hjl hlt (by omega)
          have e := leS_not F2[k].1 F2[j0].1
          rw [this] at e
          exact e
        clear h0 hj
        go_wp2
        refine wp_region_on (by kernel_rfl) (by kernel_rfl) ?_
        repeat (go_big_quiet_step ((first
          | (go_at_call 9; exact on_call (call_val (has_any s.1 s.2 F2[k].1 _) (congrArg Value.bool HTH.out))))))
        refine wpQuiet_nil ?_
        intro w12 hw12
        replace hw12 := on_end hw12
        have HB12 := hide (below_on HB11.out (Nat.le_refl _) hw12)
        clear hw12
        go_wp2
        exact ⟨⟨k + 1, by omega, by go_num, HB12.out⟩, by simp [intOf]; omega⟩
    · have ek : k = F2.length := by omega
      subst ek
      have hlt' : ¬ (F2.length : Int) < (F2.length : Int) := by omega
      have HCR := hide (CR.start HVR.out (below_on HB10.out (Nat.le_refl _) HBR.out) tv tk t0 t1)
      have hmm := @run_makeMap Try.prog
      go_wp2
      have hR2 : ∀ key, (p.2 key).length ≤ 1000000 := fun key => by have := HSM.out.2.2 key; omega
      have HR2 := hide hR2
      clear hR2 hmm t0 t1 tv tk
      have hdl := HLD.out.1
      generalize hbv : w7.heap.size = bv at *
      generalize hbm : wr.heap.size = bm at *
      generalize (bm + 1 + 1 : Nat) = be at *
      go_loopw [19] (fun i w2 => ∃ k : Nat, k ≤ rows.length ∧ i = .int .i64 k ∧ CR w w2 bv (bv + 1) be w.heap.size bm vb2 (bm + 1) at_ s _ mb2 n2 p.1 D2 g2 p.2 ((rows.take k).map (·.1))) (fun i _ => rows.length - (intOf i).toNat)
      case atStart => exact ⟨0, Nat.zero_le _, rfl, HCR.out⟩
      case round =>
        obtain ⟨k, hk2, rfl, hcr⟩ := hrel
        have HC := hide hcr
        clear hcr HCR hbv hbm
        by_cases hlt2 : k < rows.length
        · have hlt3 : (k : Int) < (rows.length : Int) := by omega
          rcases HR.out with e | ⟨b, off, e, hsp⟩
          · rw [e] at hlt2; simp at hlt2
          subst e
          have c0 := (spansAt_on HC.out.bel hsp k hlt2).1
          have hks := HRK.out _ (List.getElem_mem hlt2)
          have HCC := hide (HC.out.count rows[k].1 (by unfold maxLen; omega) (HR2.out _) (by simp; omega))
          have HT : Hid ((rows.take (k + 1)).map (·.1) = (rows.take k).map (·.1) ++ [rows[k].1]) := by
            unfold Hid; rw [List.take_succ_eq_append_getElem hlt2, List.map_append]; rfl
          go_wp2_with (go_at_call 47; refine HCC.out.mono ?_; rintro e w13 ⟨rfl, hcr⟩; have HC13 := hide hcr; clear hcr)
          exact ⟨⟨k + 1, by omega, by go_num, by rw [HT.out]; exact HC13.out⟩, by simp [intOf]; omega⟩
        · have ek : k = rows.length := by omega
          subst ek
          have hlt3 : ¬ (rows.length : Int) < (rows.length : Int) := by omega
          rw [List.take_length] at HC
          go_wp2
          go_loopw [20] (fun i w2 => ∃ k : Nat, k ≤ ds.length ∧ i = .int .i64 k ∧ CR w w2 bv (bv + 1) be w.heap.size bm vb2 (bm + 1) at_ s _ mb2 n2 p.1 D2 g2 p.2 (keysOf rows (ds.take k))) (fun i _ => ds.length - (intOf i).toNat)
          case atStart => exact ⟨0, Nat.zero_le _, rfl, by simpa [keysOf] using HC.out⟩
          case round =>
            obtain ⟨q, hq, rfl, hcr⟩ := hrel
            have HQ := hide hcr
            clear hcr HC
            by_cases hlt4 : q < ds.length
            · have hlt5 : (q : Int) < (ds.length : Int) := by omega
              rcases HD.out with e | ⟨b, off, e, hdd⟩
              · rw [e] at hlt4; simp at hlt4
              subst e
              have hc0 := (hdd q hlt4).1
              have HCH := hide (hdd q hlt4).2
              have hm := HLD.out.2 _ (List.getElem_mem hlt4)
              have hml := hm.1
              have HMK := hide hm.2
              have HQL := hide (keysOf_len rows ds HLD.out q (by omega))
              have HT : Hid (keysOf rows (ds.take (q + 1)) = keysOf rows (ds.take q) ++ ds[q].chs.map (·.key)) := keysOf_succ rows ds hlt4
              clear hdd hm
              generalize keysOf rows (ds.take q) = K0 at HQ HQL HT
              generalize ds[q] = d at hc0 HCH hml HMK HT
              obtain ⟨dao, dcap, dl⟩ := d
              simp only at hc0 HCH hml HMK HT
              have hK0 := HQL.out
              go_wp2
              go_loopw [21] (fun i w2 => ∃ k : Nat, k ≤ dl.length ∧ i = .int .i64 k ∧ CR w w2 bv (bv + 1) be w.heap.size bm vb2 (bm + 1) at_ s _ mb2 n2 p.1 D2 g2 p.2 (K0 ++ (dl.take k).map (·.key))) (fun i _ => dl.length - (intOf i).toNat)
              case atStart => exact ⟨0, Nat.zero_le _, rfl, by simpa using HQ.out⟩
              case round =>
                obtain ⟨j, hj, rfl, hcr⟩ := hrel
                have HC := hide hcr
                have e0 := cell_on hcr.bel hc0
                clear hcr HQ
                by_cases hlt6 : j < dl.length
                · have hlt7 : (j : Int) < (dl.length : Int) := by omega
                  rcases HCH.out with e | ⟨b2, off2, e, hch⟩
                  · rw [e] at hlt6; simp at hlt6
                  subst e
                  have c0 := (chgsAt_on HC.out.bel hch j hlt6).1
                  have hks := HMK.out _ (List.getElem_mem hlt6)
                  have HCC := hide (HC.out.count dl[j].key (by unfold maxLen; omega) (HR2.out _) (by simp; omega))
                  have HT2 : Hid (K0 ++ (dl.take (j + 1)).map (·.key) = K0 ++ (dl.take j).map (·.key) ++ [dl[j].key]) := by
                    unfold Hid; rw [List.take_succ_eq_append_getElem hlt6, List.map_append, List.append_assoc]; rfl
                  go_wp2_with (go_at_call 47; refine HCC.out.mono ?_; rintro e w13 ⟨rfl, hcr⟩; have HC13 := hide hcr; clear hcr)
                  exact ⟨⟨j + 1, by omega, by go_num, by rw [HT2.out]; exact HC13.out⟩, by simp [intOf]; omega⟩
                · have ej : j = dl.length := by omega
                  subst ej
                  have hlt7 : ¬ (dl.length : Int) < (dl.length : Int) := by omega
                  rw [List.take_length] at HC
                  go_wp2
                  exact ⟨⟨q + 1, by omega, by go_num, by rw [HT.out]; exact HC.out⟩, by simp [intOf]; omega⟩
            · have eq : q = ds.length := by omega
              subst eq
              have hlt5 : ¬ (ds.length : Int) < (ds.length : Int) := by omega
              rw [List.take_length] at HQ
              have HMT := hide (many_told (K := keysOf rows ds) HNF.out HMF.out (keysOf_small rows ds HRK.out HLD.out) HKY.out)
              obtain ⟨De, hct⟩ := HQ.out.ct
              have cm := hct.m
              rw [HMT.out] at cm
              have HBQ := hide HQ.out.bel
              clear hct HQ
              go_wp2
              go_ret
              exact ⟨rfl, HBQ.out⟩
end Go.Proofs.Ytjphbmdmnicjpab
