/-
  What haywaintop.TopDisk returns: true, of whatever came in.
-/
import Derived.Test.YtighpalbodhfeaaTopDiskL
import Derived.Test.YtighpalbodhfeaaActMem
namespace Go.Proofs.Ytighpalbodhfeaa
open Go.RowKit Go.Joins
attribute [local go_sem ↓] Go.wp_at_zero Go.wp_at_succ

set_option maxRecDepth 8000 in
set_option maxHeartbeats 8000000 in
theorem topDisk_walk (l1 l2 : List ActL) (a1 a2 : Option Addr) (c1 c2 : Nat) (key : Int) (w : World) (hd1 : heldAc w a1 l1) (hd2 : heldAc w a2 l2) :
    Calls Try.prog 5 #[.slice a1 l1.length c1, .slice a2 l2.length c2, .int .u64 key] w fun e w' => e = .returned (.bool true) ∧ Below w.heap.size w w' := by
  have HD1 := hide hd1
  have HD2 := hide hd2
  clear hd1 hd2
  go_enter Try.func5, Try.ntmps5
  go_wp2_with (first
    | (go_at_call 11; refine (newDisk_good 4 _ (by decide) (by decide)).mono ?_; rintro e w1 ⟨db, rfl, hn1⟩; obtain ⟨⟨S1, hk1⟩, hb1⟩ := hn1; have HT : Hid (TD w w1 db (initD 4)) := ⟨⟨S1, hk1⟩, Good4.init, hb1⟩; have HFL := hide (dflush_any _ hk1); rw [Good4.init.step.1, errD_nil, Good4.init.flush] at HFL; clear hk1 hb1)
    | (go_at_call 19; refine HFL.out.mono ?_; rintro e w2 ⟨rfl, ha⟩; have HT2 := hide (HT.out.act ha ⟨Good4.init.now, Good4.init.now, rfl, rfl⟩); obtain ⟨S2, hk2⟩ := HT2.out.ex; have HSC := hide (dsectors_any _ hk2); rw [show ({ initD 4 with kept := (initD 4).now, wait := [] } : DSt).now.length = 4 from Good4.init.now] at HSC; clear ha hk2)
    | (go_at_call 14; refine HSC.out.mono ?_; rintro e w3 ⟨rfl, rfl⟩)
    | (go_at_call_of 10 (Value.int .i64 40); refine (lightAc_held l1 40 c1 a1 _ (heldAc_on HT2.out.bel HD1.out) (by omega)).mono ?_; rintro e w4 ⟨rfl, rfl⟩; cases hl1 : lightActs l1 40)
    | (go_at_call_of 10 (Value.int .i64 60); refine (lightAc_held l2 60 c2 a2 _ (heldAc_on HT2.out.bel HD2.out) (by omega)).mono ?_; rintro e w5 ⟨rfl, rfl⟩; cases hl2 : lightActs l2 60))
  · go_ret
    exact ⟨rfl, HT2.out.bel⟩
  · go_ret
    exact ⟨rfl, HT2.out.bel⟩
  have hal1 : l1.length ≤ 40 := by have := hl1; simp only [lightActs, Bool.and_eq_true, decide_eq_true_eq] at this; exact this.1
  have hal2 : l2.length ≤ 60 := by have := hl2; simp only [lightActs, Bool.and_eq_true, decide_eq_true_eq] at this; exact this.1
  clear hl1 hl2 HFL HSC HT
  go_loopw [9] (fun iv wr => ∃ (k : Nat) (s : DSt), k ≤ l1.length ∧ iv = .int .i64 (k : Int) ∧ TD w wr db s) (fun iv _ => l1.length - (intOf iv).toNat)
  case atStart => exact ⟨0, _, Nat.zero_le _, rfl, HT2.out⟩
  case round =>
    obtain ⟨k, s, hk, rfl, hT⟩ := hrel
    clear HT2
    by_cases hlt : k < l1.length
    · have hlt' : (k : Int) < (l1.length : Int) := by omega
      have hk0 : (0 : Int) ≤ (k : Int) := by omega
      rcases HD1.out with e | ⟨b, off, e, hac⟩
      · rw [e] at hlt; simp at hlt
      subst e
      have hx := hac k hlt
      clear hac
      generalize l1[k] = x at *
      have XA := hide hx.a
      have XS := hide hx.s
      clear hx
      have xa := cell_on hT.bel.drew XA.out
      have xs := cell_on hT.bel.drew XS.out
      obtain ⟨S, hkd⟩ := hT.ex
      have HWR := hide (dwrite_any x.a x.s wr.drew (hkd.on (Below.refl _ wr).drew))
      have HTD : Hid (TD w wr.drew db s) := ⟨⟨S, hkd.on (Below.refl _ wr).drew⟩, hT.gd, hT.bel.drew⟩
      clear hT hkd
      go_wp2_with fail
      go_region_held3 (fun w' => w'.cell? ⟨b, off + k * 9 + 1, none⟩ = some (.int .i64 x.a) ∧ w'.cell? ⟨b, off + k * 9 + 5, none⟩ = some (.string x.s))
        (first | exact ⟨cell_on HB2.out XA.out, cell_on HB2.out XS.out⟩ | exact ⟨xa, xs⟩)
        (first
          | (go_at_call 15; refine HWR.out.mono ?_; rintro e w2 ⟨rfl, ha2⟩; have HT3 := hide (HTD.out.act ha2 (HTD.out.gd.write x.a x.s)); have HB2 := hide HT3.out.bel; clear ha2)
          | fail)
      go_wp2
      exact ⟨⟨k + 1, _, by omega, by go_num, HT3.out⟩, by simp [intOf]; omega⟩
    · have ek : k = l1.length := by omega
      subst ek
      have hlt' : ¬ (l1.length : Int) < (l1.length : Int) := by omega
      obtain ⟨S, hkd⟩ := hT.ex
      have HFL := hide (dflush_any _ hkd)
      rw [hT.gd.step.1, errD_nil, hT.gd.flush] at HFL
      have HTD := hide hT
      clear hT hkd
      go_wp2_with (go_at_call 19; refine HFL.out.mono ?_; rintro e w7 ⟨rfl, ha7⟩; have HT7 := hide (HTD.out.act ha7 ⟨HTD.out.gd.now, HTD.out.gd.now, HTD.out.gd.down, HTD.out.gd.left⟩); clear ha7)
      generalize hs7 : ({ s with kept := s.now, wait := [] } : DSt) = s7 at *
      have HS7 : Hid (s7.kept = s7.now ∧ s7.wait = []) := by rw [← hs7]; exact ⟨rfl, rfl⟩
      have HW0 : Hid (TDW w (w7.alloc (.cells #[.string ⟨#[]⟩, .string ⟨#[]⟩, .string ⟨#[]⟩, .string ⟨#[]⟩] 64)) db w7.heap.size s7 [⟨#[]⟩, ⟨#[]⟩, ⟨#[]⟩, ⟨#[]⟩]) := by
        obtain ⟨S7, hk7⟩ := HT7.out.ex
        have hbb := below_alloc1 w7 (.cells #[.string ⟨#[]⟩, .string ⟨#[]⟩, .string ⟨#[]⟩, .string ⟨#[]⟩] 64)
        refine ⟨⟨S7, hk7.on hbb, fun e => by have := hk7.lt e; omega⟩, HT7.out.gd, ⟨rfl, fun m hm => ?_, fun m => frozen_new _ _ _ m⟩, by simp, HT7.out.bel.size, below_on HT7.out.bel (Nat.le_refl _) hbb⟩
        have hm4 : m < 4 := hm
        rw [cell_new]
        rcases (show m = 0 ∨ m = 1 ∨ m = 2 ∨ m = 3 by omega) with rfl | rfl | rfl | rfl <;> rfl
      clear hs7 HT7 HTD HFL
      generalize hwb : w7.heap.size = wb at *
      generalize w7.alloc (.cells #[.string ⟨#[]⟩, .string ⟨#[]⟩, .string ⟨#[]⟩, .string ⟨#[]⟩] 64) = W8 at *
      clear hwb
      go_loopw [11] (fun iv wr => ∃ (k : Nat) (l : List ByteArray), k ≤ 4 ∧ iv = .int .i64 (k : Int) ∧ TDW w wr db wb s7 l ∧ ∀ m, m < k → l[m]? = s7.now[m]?) (fun iv _ => 4 - (intOf iv).toNat)
      case atStart => exact ⟨0, _, Nat.zero_le _, rfl, HW0.out, fun m h => by omega⟩
      case round =>
        obtain ⟨k, l, hk, rfl, hT, hlm⟩ := hrel
        clear HW0
        by_cases hlt : k < 4
        · have hlt' : (k : Int) < 4 := by omega
          have hk0 : (0 : Int) ≤ (k : Int) := by omega
          obtain ⟨S, hkd, hnS⟩ := hT.ex
          obtain ⟨e1, e2⟩ := hT.gd.read hlt
          have HRD := hide (dread_any (k : Int) wr hkd)
          obtain ⟨dd, hdd⟩ : ∃ dd, s7.now[k]? = some dd := ⟨_, List.getElem?_eq_getElem (by rw [hT.gd.now]; exact hlt)⟩
          have e3 : dreadD s7 k = dd := by rw [e2]; exact Option.some.inj ((List.getElem?_eq_getElem _).symm.trans hdd)
          rw [e1, e3, errD_nil] at HRD
          have HTD := hide hT
          have HLM := hide hlm
          have HDD := hide hdd
          obtain ⟨cv, cw⟩ : ∃ cv, wr.cell? ⟨wb, k, none⟩ = some (.string cv) := ⟨_, hT.wa.cel k (by rw [hT.wa.len]; exact hlt)⟩
          have fw := hT.wa.soft k
          clear hT hkd hlm e1 e2 e3 hdd
          go_wp2_with (go_at_call 17; refine HRD.out.mono ?_; rintro e w9 ⟨rfl, rfl⟩)
          refine ⟨⟨k + 1, _, by omega, by go_num, HTD.out.set k dd, fun m hm => ?_⟩, by simp [intOf]; omega⟩
          by_cases e : m = k
          · subst e
            rw [List.getElem?_set_self (by rw [HTD.out.wa.len]; exact hlt), HDD.out]
          · rw [List.getElem?_set_ne (Ne.symm e)]
            exact HLM.out m (by omega)
        · have ek : k = 4 := by omega
          subst ek
          have hlt' : ¬ ((4 : Nat) : Int) < 4 := by omega
          have hle : l = keepL key 0 s7.wait s7.kept := by
            rw [HS7.out.2, HS7.out.1]
            show l = s7.now
            apply List.ext_getElem?
            intro m
            by_cases hm : m < 4
            · exact hlm m hm
            · rw [List.getElem?_eq_none (by rw [hT.wa.len]; omega), List.getElem?_eq_none (by rw [hT.gd.now]; omega)]
          subst hle
          have HTD := hide hT
          have HWT : Hid (s7.wait.length = 0) := by rw [HS7.out.2]; rfl
          clear hT hlm
          go_wp2
          go_loopw [14, 15] (fun nv iv wr => ∃ (k c : Nat) (s : DSt), k ≤ l2.length ∧ c ≤ k ∧ nv = .int .i64 (c : Int) ∧ iv = .int .i64 (k : Int) ∧ s.wait.length = c ∧ TDW w wr db wb s (keepL key 0 s.wait s.kept)) (fun _ iv _ => l2.length - (intOf iv).toNat)
          case atStart => exact ⟨0, 0, _, Nat.zero_le _, Nat.le_refl _, rfl, rfl, HWT.out, HTD.out⟩
          case round =>
            obtain ⟨k, c, s, hk, hck, rfl, rfl, hcw, hT⟩ := hrel
            clear HTD HWT HS7
            by_cases hlt : k < l2.length
            · have hlt' : (k : Int) < (l2.length : Int) := by omega
              have hk0 : (0 : Int) ≤ (k : Int) := by omega
              rcases HD2.out with e | ⟨b, off, e, hac⟩
              · rw [e] at hlt; simp at hlt
              subst e
              have hx := hac k hlt
              clear hac
              generalize l2[k] = x at *
              have XA := hide hx.a
              have XS := hide hx.s
              clear hx
              have xa := cell_on hT.bel.drew XA.out
              have xs := cell_on hT.bel.drew XS.out
              obtain ⟨S, hkd, hnS⟩ := hT.drew.ex
              have HWR := hide (dwrite_any x.a x.s wr.drew hkd)
              have HTD := hide hT.drew
              have HCW := hide hcw
              have hgd := hT.gd
              have hc60 : c < 60 := by omega
              clear hT hkd hcw
              by_cases hb : badW x.a x.s
              · obtain ⟨e1, e2⟩ := hgd.bad hb
                rw [e1, e2, errD_pos (show (1 : Nat) ≠ 0 by decide)] at HWR
                have HGD := hide hgd
                clear hgd e1 e2 hb
                go_wp2_with fail
                go_region_held3 (fun w' => w'.cell? ⟨b, off + k * 9 + 1, none⟩ = some (.int .i64 x.a) ∧ w'.cell? ⟨b, off + k * 9 + 5, none⟩ = some (.string x.s))
                  (first | exact ⟨cell_on HB2.out XA.out, cell_on HB2.out XS.out⟩ | exact ⟨xa, xs⟩)
                  (first
                    | (go_at_call 15; refine HWR.out.mono ?_; rintro e w2 ⟨rfl, ha2⟩; have HT3 := hide (HTD.out.act hnS ha2 HGD.out); have HB2 := hide HT3.out.bel; clear ha2)
                    | fail)
                go_wp2
                exact ⟨⟨k + 1, c, s, by omega, by omega, rfl, by go_num, HCW.out, HT3.out⟩, by simp [intOf]; omega⟩
              · unfold badW at hb
                obtain ⟨m, hm⟩ := Int.eq_ofNat_of_zero_le (show 0 ≤ x.a by omega)
                rw [hm] at xa XA HWR
                have hm4 : m < 4 := by omega
                have hm4' : (m : Int) < 4 := by omega
                have hm0 : (0 : Int) ≤ (m : Int) := by omega
                obtain ⟨e1, e2⟩ := hgd.good (a := m) (d := x.s) hm4 (by omega)
                rw [e1, e2, errD_nil] at HWR
                have HGD := hide (hgd.laid m (padB x.s))
                have HG0 := hide hgd
                have HSN := hide (keepL_snoc key m (padB x.s) s.wait 0 s.kept)
                have hc64 : (0 + s.wait.length) % 64 = c := by rw [HCW.out]; omega
                rw [hc64] at HSN
                have HWL : Hid ((laidD s m (padB x.s)).wait.length = c + 1) := by unfold laidD; simp [Hid, HCW.out]
                clear hgd e1 e2 hb hm hc64
                go_wp2_with fail
                go_region_held3 (fun w' => w'.cell? ⟨b, off + k * 9 + 1, none⟩ = some (.int .i64 (m : Int)) ∧ w'.cell? ⟨b, off + k * 9 + 5, none⟩ = some (.string x.s))
                  (first | exact ⟨cell_on HB2.out XA.out, cell_on HB2.out XS.out⟩ | exact ⟨xa, xs⟩)
                  (first
                    | (go_at_call 15; refine HWR.out.mono ?_; rintro e w2 ⟨rfl, ha2⟩; have HT3 := hide (HTD.out.act hnS ha2 HGD.out); have HB2 := hide HT3.out.bel; clear ha2)
                    | fail)
                have xa2 := cell_on HB2.out XA.out
                obtain ⟨S3, hk3, hn3⟩ := HT3.out.ex
                have HRD := hide (dread_any (m : Int) w2 hk3)
                obtain ⟨e1, e2⟩ := HT3.out.gd.read hm4
                rw [e1, e2, errD_nil] at HRD
                have HPD : Hid ((laidD s m (padB x.s)).now[m]'(by rw [HT3.out.gd.now]; exact hm4) = padB x.s) := by unfold laidD; simp [Hid]
                rw [HPD.out] at HRD
                have cw := HT3.out.wa.cel m (by rw [HT3.out.wa.len]; exact hm4)
                have fw := HT3.out.wa.soft m
                clear hk3 hn3 e1 e2 xa xs
                cases hkb : keepB key c with
                | true =>
                  have hkb' : (Go.bits .and .u64 (key / 2 ^ c) 1 == 1) = true := hkb
                  rw [hkb, if_pos rfl] at HSN
                  clear hkb
                  have HFI : Hid (TDW w (w2.setCell ⟨wb, m, none⟩ (.string (padB x.s))) db wb (laidD s m (padB x.s)) (keepL key 0 (laidD s m (padB x.s)).wait (laidD s m (padB x.s)).kept)) := by
                    have := HT3.out.set m (padB x.s)
                    rw [← HSN.out] at this
                    exact this
                  go_wp2_with (go_at_call 17; refine HRD.out.mono ?_; rintro e w9 ⟨rfl, rfl⟩)
                  exact ⟨⟨k + 1, c + 1, _, by omega, by omega, by go_num, by go_num, HWL.out, HFI.out⟩, by simp [intOf]; omega⟩
                | false =>
                  have hkb' : (Go.bits .and .u64 (key / 2 ^ c) 1 == 1) = false := hkb
                  rw [hkb] at HSN
                  clear hkb
                  have HFI : Hid (TDW w w2 db wb (laidD s m (padB x.s)) (keepL key 0 (laidD s m (padB x.s)).wait (laidD s m (padB x.s)).kept)) := by
                    have e : keepL key 0 (laidD s m (padB x.s)).wait (laidD s m (padB x.s)).kept = keepL key 0 s.wait s.kept := HSN.out
                    rw [e]
                    exact HT3.out
                  go_wp2
                  exact ⟨⟨k + 1, c + 1, _, by omega, by omega, by go_num, by go_num, HWL.out, HFI.out⟩, by simp [intOf]; omega⟩
            · have ek : k = l2.length := by omega
              subst ek
              have hlt' : ¬ (l2.length : Int) < (l2.length : Int) := by omega
              obtain ⟨S, hkd, hnS⟩ := hT.ex
              have HRS := hide (drestart_any key wr hkd)
              have HGR : Hid (Good4 (restartD s key)) := ⟨by unfold restartD; rw [keepL_len]; exact hT.gd.kpt, by unfold restartD; rw [keepL_len]; exact hT.gd.kpt, rfl, rfl⟩
              have HTD := hide hT
              clear hT hkd hcw hck
              go_wp2_with (go_at_call 22; refine HRS.out.mono ?_; rintro e w9 ⟨rfl, ha9⟩; have HT9 := hide (HTD.out.act hnS ha9 HGR.out); clear ha9)
              go_loopw [18] (fun iv wr => ∃ k : Nat, k ≤ 4 ∧ iv = .int .i64 (k : Int) ∧ wr = w9) (fun iv _ => 4 - (intOf iv).toNat)
              case atStart => exact ⟨0, Nat.zero_le _, rfl, rfl⟩
              case round =>
                obtain ⟨k, hk4, rfl, rfl⟩ := hrel
                by_cases hlt4 : k < 4
                · have hlt4' : (k : Int) < 4 := by omega
                  have hk0 : (0 : Int) ≤ (k : Int) := by omega
                  obtain ⟨S9, hk9, hn9⟩ := HT9.out.ex
                  have HRD := hide (dread_any (k : Int) _ hk9)
                  obtain ⟨e1, e2⟩ := HT9.out.gd.read hlt4
                  rw [e1, e2, errD_nil] at HRD
                  have cw := HT9.out.wa.cel k (by rw [HT9.out.wa.len]; exact hlt4)
                  have HPD : Hid ((restartD s key).now[k]'(by rw [HT9.out.gd.now]; exact hlt4) = (keepL key 0 s.wait s.kept)[k]'(by rw [HT9.out.wa.len]; exact hlt4)) := rfl
                  rw [HPD.out] at HRD
                  clear hk9 hn9 e1 e2
                  generalize (keepL key 0 s.wait s.kept)[k]'(by rw [HT9.out.wa.len]; exact hlt4) = dd at *
                  have ebb : (dd.toList == dd.toList) = true := by simp
                  go_wp2_with (go_at_call 17; refine HRD.out.mono ?_; rintro e w9 ⟨rfl, rfl⟩)
                  exact ⟨⟨k + 1, by omega, by go_num, trivial⟩, by simp [intOf]; omega⟩
                · have ek : k = 4 := by omega
                  subst ek
                  have hlt4' : ¬ ((4 : Nat) : Int) < 4 := by omega
                  have HB := hide HT9.out.bel
                  go_wp2
                  go_ret
                  exact ⟨rfl, HB.out⟩
end Go.Proofs.Ytighpalbodhfeaa
