/-
  What haywainlaw.LogSays returns: true, of whatever came in.
-/
import Derived.Test.YtkfpfbkdalbjoaaLogSaysC
import Derived.Test.YtkfpfbkdalbjoaaRClosed
import Derived.Test.YtkfpfbkdalbjoaaDdWant
import Derived.Test.YtkfpfbkdalbjoaaChgSame
import Derived.Test.YtkfpfbkdalbjoaaActIn
import Derived.Test.YtkfpfbkdalbjoaaDskLow
import Derived.Test.YtkfpfbkdalbjoaaOpenStrs
import Derived.Deep.CutBlock
namespace Go.Proofs.Ytkfpfbkdalbjoaa
open Go.RowKit Go.Joins
attribute [local go_sem ↓] Go.wp_at_zero Go.wp_at_succ

/-- a disk that is never armed -/
structure NvD (w wr : World) (db n : Nat) (s : DSt) : Prop where
  ex : ∃ S, DK wr w.heap.size db S s
  down : s.down = false
  left : s.left = -1
  len : s.now.length = n
  bel : Below w.heap.size w wr
theorem NvD.write {w wr : World} {db n : Nat} {s : DSt} (h : NvD w wr db n s) (a : Nat) (d : ByteArray) (ha : a < n) (hd : d.size ≤ 96) : dwriteF s (a : Int) d = 0 ∧ (dwriteD s (a : Int) d).down = false ∧ (dwriteD s (a : Int) d).left = -1 ∧ (dwriteD s (a : Int) d).now.length = n := by
  have := never_op (.wr a d) s h.down h.left (fun a' d' e => by cases e; exact ⟨by rw [h.len]; exact ha, hd⟩)
  exact ⟨this.1, this.2.1, this.2.2.1, this.2.2.2.trans h.len⟩
theorem read_secs {s : DSt} {fr many : Nat} (hd : s.down = false) (hm : fr + many ≤ s.now.length) (i : Nat) (h : i < (secsD s fr many).length) : dreadF s ((fr : Int) + (i : Int)) = 0 ∧ dreadD s ((fr : Int) + (i : Int)) = (secsD s fr many)[i] := by
  have hlen : (secsD s fr many).length = many := by unfold secsD; rw [List.length_take, List.length_drop]; omega
  have h' := h
  rw [hlen] at h
  have e : dreadF s ((fr : Int) + (i : Int)) = 0 := by unfold dreadF; rw [hd, if_neg (by decide), if_neg (by omega)]
  refine ⟨e, ?_⟩
  unfold dreadD
  rw [if_pos e, show ((fr : Int) + (i : Int)).toNat = fr + i by omega, ← secs_get s fr many i h, List.getElem?_eq_getElem h']
  rfl
/-- at the head of the last loop -/
structure LSI (w wr : World) (db fr many first lb u : Nat) (dv wv : Value) : Prop where
  ex : ∃ S s dl wl, LK wr w.heap.size lb db S fr many first u s ∧ LNow s fr many first (wl.map (·.chs)) u ∧ MixV w wr w.heap.size (inL lb S) dv dl ∧ MixV w wr w.heap.size (inL lb S) wv wl ∧ dl.map (·.chs) = wl.map (·.chs)
  bel : Below w.heap.size w wr
set_option maxRecDepth 8000 in
set_option maxHeartbeats 8000000 in
theorem logSays_walk (secs : List ByteArray) (sa : Option Addr) (sc : Nat) (fr many first : Int) (l : List ActL) (ao : Option Addr) (cap : Nat) (w : World) (hss : heldSt w sa secs) (hd : heldAc w ao l)
    (hfr : -9223372036854775808 ≤ fr ∧ fr ≤ 9223372036854775807) (hmb : -9223372036854775808 ≤ many ∧ many ≤ 9223372036854775807) (hsl : secs.length ≤ maxLen) :
    Calls Try.prog 4 #[.slice sa secs.length sc, .int .i64 fr, .int .i64 many, .int .i64 first, .slice ao l.length cap] w fun e w' => e = .returned (.bool true) ∧ Below w.heap.size w w' := by
  have HSS := hide hss
  have HD := hide hd
  clear hss hd
  have nn := nil_neq_nil
  unfold maxLen at hsl
  go_enter Try.func4, Try.ntmps4
  by_cases h40 : 40 < secs.length
  · have h40' : (40 : Int) < (secs.length : Int) := by omega
    go_wp2_with (first
      | (go_at_call 24; refine (logs_any _).mono ?_; rintro e w1 ⟨rfl, hb1⟩; have HB1 := hide hb1; clear hb1)
      | fail)
    go_ret
    exact ⟨rfl, HB1.out⟩
  have h40' : decide ((40 : Int) < (secs.length : Int)) = false := by simp; omega
  by_cases hfm : 1000000 < first
  · go_wp2_with (first
      | (go_at_call 24; refine (logs_any _).mono ?_; rintro e w1 ⟨rfl, hb1⟩; have HB1 := hide hb1; clear hb1)
      | (go_at_call 9; refine (lightAc_held l 20 cap ao _ (heldAc_on HB1.out HD.out) (by omega)).mono ?_; rintro e w2 ⟨rfl, rfl⟩; cases hla : lightActs l 20)
      | fail)
    all_goals
      go_ret
      exact ⟨rfl, HB1.out⟩
  have hfm' : decide ((1000000 : Int) < first) = false := by simp; omega
  go_wp2_with (first
    | (go_at_call 24; refine (logs_any _).mono ?_; rintro e w1 ⟨rfl, hb1⟩; have HB1 := hide hb1; clear hb1)
    | (go_at_call 9; refine (lightAc_held l 20 cap ao _ (heldAc_on HB1.out HD.out) (by omega)).mono ?_; rintro e w2 ⟨rfl, rfl⟩; cases hla : lightActs l 20)
    | fail)
  · go_ret
    exact ⟨rfl, HB1.out⟩
  have hal : l.length ≤ 20 := by have := hla; simp only [lightActs, Bool.and_eq_true, decide_eq_true_eq] at this; exact this.1
  have HLA := hide hla
  have HFM := hide hfm
  clear hla h40' hfm' hfm
  -- are they short?
  go_loopw [12] (fun iv wr => ∃ k : Nat, k ≤ secs.length ∧ iv = .int .i64 (k : Int) ∧ wr = w2 ∧ ∀ j (h : j < secs.length), j < k → secs[j].size ≤ 96) (fun iv _ => secs.length - (intOf iv).toNat)
  case atStart => exact ⟨0, Nat.zero_le _, rfl, rfl, fun j _ h => absurd h (Nat.not_lt_zero _)⟩
  case round =>
    obtain ⟨k, hk, rfl, rfl, hsm⟩ := hrel
    by_cases hlt : k < secs.length
    · have hlt' : (k : Int) < (secs.length : Int) := by omega
      have hk0 : (0 : Int) ≤ (k : Int) := by omega
      rcases HSS.out with e | ⟨b, off, e, hst⟩
      · rw [e] at hlt; simp at hlt
      subst e
      have cx := cell_on HB1.out (hst k hlt)
      have HSM := hide hsm
      clear hsm hst
      by_cases h96 : secs[k].size ≤ 96
      · have h96' : ¬ (96 : Int) < (secs[k].size : Int) := by omega
        have HN : Hid (∀ j (h : j < secs.length), j < k + 1 → secs[j].size ≤ 96) := fun j h hj => by
          by_cases e : j = k
          · subst e; exact h96
          · exact HSM.out j h (by omega)
        generalize secs[k] = t at *
        go_wp2
        exact ⟨⟨k + 1, by omega, by go_num, by first | rfl | trivial, HN.out⟩, by simp [intOf]; omega⟩
      · have h96' : (96 : Int) < (secs[k].size : Int) := by omega
        generalize secs[k] = t at *
        go_wp2
        go_ret
        exact ⟨rfl, HB1.out⟩
    · have ek : k = secs.length := by omega
      subst ek
      have hlt' : ¬ (secs.length : Int) < (secs.length : Int) := by omega
      have HS96 : Hid (∀ j (h : j < secs.length), secs[j].size ≤ 96) := fun j h => hsm j h h
      clear hsm
      obtain ⟨n, hn⟩ : ∃ n, n = max 1 secs.length := ⟨_, rfl⟩
      have hn1 : 1 ≤ n ∧ n ≤ 40 ∧ secs.length ≤ n := by omega
      have hnI : max 1 (secs.length : Int) = (n : Int) := by omega
      clear hn
      go_upto_block 2 with (first
        | (go_at_call 10; refine (newDisk_good n _ hn1.1 (by omega)).mono ?_; rintro e w3 ⟨db, rfl, hn3⟩; obtain ⟨⟨S3, hk3⟩, hb3⟩ := hn3; have HN3 : Hid (NvD w w3 db n (initD n)) := ⟨⟨S3, hk3.lower HB1.out.size⟩, rfl, rfl, List.length_replicate, below_on HB1.out (Nat.le_refl _) hb3⟩; clear hk3 hb3)
        | fail)
      have HN0 : Hid (∃ s, NvD w w3 db n s) := ⟨_, HN3.out⟩
      clear HN3
      go_cut [] (fun wx => ∃ s, NvD w wx db n s)
      case first =>
        go_wp2_with fail
        go_loopw [15] (fun iv wr => ∃ (k : Nat) (s : DSt), k ≤ secs.length ∧ iv = .int .i64 (k : Int) ∧ NvD w wr db n s) (fun iv _ => secs.length - (intOf iv).toNat)
        case atStart =>
          obtain ⟨s, h⟩ := HN0.out
          exact ⟨0, s, Nat.zero_le _, rfl, h⟩
        case round =>
          obtain ⟨k, s, hk, rfl, hN⟩ := hrel
          clear HN0
          by_cases hlt : k < secs.length
          · have hlt' : (k : Int) < (secs.length : Int) := by omega
            have hk0 : (0 : Int) ≤ (k : Int) := by omega
            rcases HSS.out with e | ⟨b, off, e, hst⟩
            · rw [e] at hlt; simp at hlt
            subst e
            have cx := cell_on hN.bel (hst k hlt)
            obtain ⟨q1, q2, q3, q4⟩ := hN.write k secs[k] (by omega) (HS96.out k hlt)
            obtain ⟨S, hkD⟩ := hN.ex
            have HWR := hide (dwrite_any (k : Int) secs[k] wr hkD)
            rw [q1, errD_nil] at HWR
            have HQ : Hid ((dwriteD s (k : Int) secs[k]).down = false ∧ (dwriteD s (k : Int) secs[k]).left = -1 ∧ (dwriteD s (k : Int) secs[k]).now.length = n) := ⟨q2, q3, q4⟩
            have HBR := hide hN.bel
            clear hN hkD hst q1 q2 q3 q4
            generalize dwriteD s (k : Int) secs[k] = s2 at *
            generalize secs[k] = t at *
            go_wp2_with (first
              | (go_at_call 14; refine HWR.out.mono ?_; rintro e w4 ⟨rfl, ha4⟩; obtain ⟨S4, hk4, hs4⟩ := ha4; have HN4 : Hid (NvD w w4 db n s2) := ⟨⟨S4, hk4⟩, HQ.out.1, HQ.out.2.1, HQ.out.2.2, HBR.out.trans hs4.bel⟩; clear hk4 hs4)
              | fail)
            exact ⟨⟨k + 1, s2, by omega, by go_num, HN4.out⟩, by simp [intOf]; omega⟩
          · have ek : k = secs.length := by omega
            subst ek
            have hlt' : ¬ (secs.length : Int) < (secs.length : Int) := by omega
            have HN := hide hN
            clear hN
            go_wp2_with fail
            go_meet
            exact ⟨s, HN.out⟩
      case rest =>
        obtain ⟨s, hN⟩ := hcut
        obtain ⟨S, hkD⟩ := hN.ex
        have HKD := hide hkD
        have HN := hide hN
        have HSC := fun n => hide (dsectors_any _ (HKD.out.on (below_drewN (Below.refl _ wc) n)))
        have HSC0 := hide (dsectors_any _ HKD.out)
        rw [hN.len] at HSC0
        have hnb : (n : Int) ≤ 40 := by omega
        have hn0 : (0 : Int) ≤ (n : Int) := by omega
        clear hN hkD HN0
        by_cases hbad : fr < 0 ∨ many < 1 ∨ first < 1 ∨ (n : Int) - fr < many
        · have HOB := hide (lopen_bad fr many first wc HKD.out (by rw [HN.out.len]; exact hbad) hfr.2)
          have he1 : errV 1 = .iface 82 (.int .i64 1) := rfl
          rw [he1] at HOB
          clear he1
          have hcs : fr < 0 ∨ (¬ fr < 0 ∧ many < 1) ∨ (¬ fr < 0 ∧ ¬ many < 1 ∧ (n : Int) < many) ∨ (¬ fr < 0 ∧ ¬ many < 1 ∧ ¬ (n : Int) < many ∧ (n : Int) - many < fr) ∨ (¬ fr < 0 ∧ ¬ many < 1 ∧ ¬ (n : Int) < many ∧ ¬ (n : Int) - many < fr ∧ first < 1) := by omega
          have hmu := hmb.2
          clear hbad
          rcases hcs with h1 | ⟨h1, h2⟩ | ⟨h1, h2, h3⟩ | ⟨h1, h2, h3, h4⟩ | ⟨h1, h2, h3, h4, h5⟩
          all_goals
            go_wp2_with (first
              | (go_at_call 25; refine HOB.out.mono ?_; rintro e w5 ⟨rfl, rfl⟩)
              | (go_at_call 13; refine HSC0.out.mono ?_; rintro e w6 ⟨rfl, rfl⟩)
              | (go_at_call 12; refine (same_err 1 1 _ (by decide)).mono ?_; rintro e w7 ⟨rfl, rfl⟩)
              | fail)
            go_ret
            exact ⟨rfl, HN.out.bel⟩
        · obtain ⟨f, rfl⟩ := Int.eq_ofNat_of_zero_le (show 0 ≤ fr by omega)
          obtain ⟨m, rfl⟩ := Int.eq_ofNat_of_zero_le (show 0 ≤ many by omega)
          obtain ⟨p, rfl⟩ := Int.eq_ofNat_of_zero_le (show 0 ≤ first by omega)
          have hfm2 : f + m ≤ n := by omega
          have hm1 : 1 ≤ m := by omega
          have hp1 : 1 ≤ p ∧ p ≤ 1000000 := by have := HFM.out; omega
          have g1 : decide ((f : Int) < 0) = false := by simp
          have g2 : decide ((m : Int) < 1) = false := by simp; omega
          have g3 : decide ((n : Int) < (m : Int)) = false := by simp; omega
          have g3' : decide (n < m) = false := by simp; omega
          have g4 : decide ((n : Int) - (m : Int) < (f : Int)) = false := by simp; omega
          have g5 : decide ((p : Int) < 1) = false := by simp; omega
          have HOG := hide (lopen_good f m p wc HKD.out HN.out.down hm1 hp1.1 (by omega) (by rw [HN.out.len]; exact hfm2))
          have HLN : Hid (LNow s f m p (deedsL (secsD s f m) p) (usedL (secsD s f m) p)) := ⟨HN.out.down, HN.out.left, by rw [HN.out.len]; exact hfm2, rfl⟩
          clear hbad hfr hmb
          go_upto_block 4 with (first
            | (go_at_call 25; refine HOG.out.mono ?_; rintro e w5 ⟨lb, dv, rfl, ho5⟩; have HO5 := hide ho5; have HSC5 := hide (dsectors_any _ (HKD.out.on ho5.bel)); rw [HN.out.len] at HSC5; clear ho5)
            | (go_at_call 13; refine HSC5.out.mono ?_; rintro e w6 ⟨rfl, rfl⟩)
            | fail)
          clear g1 g2 g3 g3' g4 g5
          have hlen : (secsD s f m).length = m := by unfold secsD; rw [List.length_take, List.length_drop, HN.out.len]; omega
          have HRS := hide (read_secs HN.out.down (show f + m ≤ s.now.length by rw [HN.out.len]; exact hfm2))
          have H96 : Hid (∀ t ∈ secsD s f m, t.size = 96) := fun t ht => HKD.out.whole.1 _ (List.mem_of_mem_drop (List.mem_of_mem_take ht))
          have HK5 := hide (HKD.out.on HO5.out.bel)
          obtain ⟨i0, z0, hi0, hz0, hi2, hi24, hzc⟩ := text_parts
          generalize hsl2 : secsD s f m = sl at *
          have HLEN := hide hlen
          clear hsl2 hlen
          go_cut [18] (fun v wx => ∃ b c, v = .slice (some ⟨b, 0, none⟩) m c ∧ (∀ i (h : i < sl.length), wx.cell? ⟨b, i, none⟩ = some (.string sl[i])) ∧ Below w6.heap.size w6 wx)
          case first =>
            go_wp2_with fail
            go_loopw [18, 19] (fun v iv wr => ∃ k : Nat, k ≤ m ∧ iv = .int .i64 (k : Int) ∧ wr.ownsRow w6.heap.size 9 1 v k ((sl.take k).map strV) ∧ Below w6.heap.size w6 wr) (fun _ iv _ => m - (intOf iv).toNat)
            case atStart => exact ⟨0, Nat.zero_le _, rfl, ⟨rfl, .inl ⟨rfl, rfl⟩⟩, Below.refl _ _⟩
            case round =>
              obtain ⟨k, hk, rfl, ho, hb⟩ := hrel
              by_cases hlt : k < m
              · have hlt' : (k : Int) < (m : Int) := by omega
                have hk0 : (0 : Int) ≤ (k : Int) := by omega
                have hks : k < sl.length := by rw [HLEN.out]; exact hlt
                obtain ⟨q1, q2⟩ := HRS.out k hks
                have HRD := hide (dread_any ((f : Int) + (k : Int)) wr (HK5.out.on hb))
                rw [q1, q2, errD_nil] at HRD
                have HTK : Hid ((sl.take (k + 1)).map strV = (sl.take k).map strV ++ [.string sl[k]]) := by
                  unfold Hid
                  rw [List.take_succ_eq_append_getElem hks, List.map_append]
                  rfl
                have kb : (f : Int) + (k : Int) ≤ 40 := by omega
                have HO := hide ho
                have HB := hide hb
                clear ho hb q1 q2
                generalize sl[k] = t at *
                go_wp2_with (first
                  | (go_at_call 16; refine HRD.out.mono ?_; rintro e w8 ⟨rfl, rfl⟩)
                  | (at_builtin; (refine wp_append1 rfl _ _ 48 rfl w6.heap.size 9 i0 _ 1 16 Try.underlying48 hi0 hz0 hi2 hi24 hzc (by omega) w8 [.string t] rfl (by simp [Value.oneCell']) _ k _ HO.out rfl rfl (by omega) (by omega) HB.out.size ?_; intro v9 w9 ho9 hb9; have HO9 := hide ho9; have HB9 := hide (hb9 w6 HB.out); clear ho9 hb9))
                  | fail)
                exact ⟨⟨k + 1, by omega, by go_num, by rw [HTK.out]; exact HO9.out, HB9.out⟩, by simp [intOf]; omega⟩
              · have ek : k = m := by omega
                subst ek
                have hlt' : ¬ (k : Int) < (k : Int) := by omega
                have HO := hide ho
                have HB := hide hb
                clear ho hb
                go_wp2_with fail
                go_meet
                have ho2 : ownS wr w6.heap.size u18 sl := by
                  have := HO.out
                  rw [List.take_of_length_le (by rw [HLEN.out]; exact Nat.le_refl _)] at this
                  unfold ownS
                  rw [HLEN.out]
                  exact this
                obtain ⟨g, c, hv, hce⟩ := ownS_some ho2 (by rw [HLEN.out]; exact hm1)
                rw [HLEN.out] at hv
                exact ⟨g, c, hv, hce, HB.out⟩
          case rest =>
            obtain ⟨nb, nc, rfl, hnc, hb7⟩ := hcut
            have HRC := hide (rclosed_any sl nb nc p wc hnc H96.out (by rw [HLEN.out]; omega) (by omega))
            rw [HLEN.out] at HRC
            have HLK0 := hide (LK.of_openN HKD.out HO5.out HLN.out.us HLN.out.fit hp1.1 (by omega))
            have HB6 := hide (below_on HN.out.bel (Nat.le_refl _) HO5.out.bel)
            have HBC := hide (below_on HB6.out (Nat.le_refl _) hb7)
            obtain ⟨dl0, hdl0, hdG, hdn⟩ := HO5.out.de
            have HM0 : Hid (MixV w w6 w.heap.size (inL lb S) dv dl0) := by
              have hlow : w.heap.size ≤ _ := HN.out.bel.size
              refine ⟨WantV.of_row (ownsRow_le hdl0.1 hlow) (fun k e => ?_) hdl0.2.2, fun d hd => .inr ⟨ownCh_le (hdl0.2.1 d hd) hlow, fun k e => ?_⟩⟩
              · rintro (rfl | e2)
                · exact HO5.out.dn e
                · have h1 := HKD.out.lt e2
                  have h2 := (World.ownsRow.lt hdl0.1 k e).1
                  omega
              · rintro (rfl | e2)
                · exact hdn d hd e
                · have h1 := HKD.out.lt e2
                  have h2 := (World.ownsRow.lt (hdl0.2.1 d hd) k e).1
                  omega
            have HDG := hide hdG
            have HL7 := hide (HLK0.out.on hb7)
            have HM7 := hide (HM0.out.on hb7)
            clear hdl0 hdn hdG hnc hb7 HM0 HLK0 HO5 HOG HSC HSC0 HRS H96 HK5
            generalize deedsL sl p = G at *
            generalize usedL sl p = uG at *
            go_wp2_with (first
              | (go_at_call 26; refine HRC.out.mono ?_; rintro e w8 ⟨ov, rfl, hc8⟩; have HC8 := hide hc8; clear hc8)
              | fail)
            have HI0 : Hid (LSI w w8 db f m p lb uG dv ov) := by
              obtain ⟨wl, hwl, hwG, hb8⟩ := HC8.out
              have hlow : w.heap.size ≤ wc.heap.size := HBC.out.size
              have hSl : ∀ k, wc.heap.size ≤ k → ¬ inL lb S k := fun k h e => by
                rcases e with e | e
                · have := HL7.out.hd.lt; omega
                · have := HL7.out.dk.lt e; omega
              refine ⟨⟨S, s, dl0, wl, HL7.out.on hb8, by rw [hwG]; exact HLN.out, HM7.out.on hb8, ⟨WantV.of_row (ownsRow_le hwl.1 hlow) (fun k e => hSl k (World.ownsRow.lt hwl.1 k e).1) hwl.2.2, fun d hd => .inr ⟨ownCh_le (hwl.2.1 d hd) hlow, fun k e => hSl k (World.ownsRow.lt (hwl.2.1 d hd) k e).1⟩⟩, HDG.out.trans hwG.symm⟩, below_on HBC.out (Nat.le_refl _) hb8⟩
            clear HC8 HM7 HL7 HDG HRC HN HKD HLN HB6 HBC HLEN HSC5
            go_loopw [16, 17, 22, 23, 24] (fun lv dv wv uv iv wr => ∃ i lb u : Nat, i ≤ l.length ∧ lv = .pointer (some ⟨lb, 0, none⟩) ∧ uv = .int .i64 (u : Int) ∧ iv = .int .i64 (i : Int) ∧ LSI w wr db f m p lb u dv wv) (fun _ _ _ _ iv _ => l.length + 1 - (intOf iv).toNat)
            case atStart => exact ⟨0, lb, uG, Nat.zero_le _, rfl, rfl, rfl, HI0.out⟩
            case round =>
              obtain ⟨i, lb1, u, hi, rfl, rfl, rfl, hI⟩ := hrel
              clear HI0
              obtain ⟨S1, s1, dl, wl, hLK, hLN, hMd, hMw, hdw⟩ := hI.ex
              obtain ⟨da, dc, hdv, hdh⟩ := hMd.held hI.bel
              obtain ⟨wa, wcc, hwv, hwh⟩ := hMw.held hI.bel
              obtain ⟨hsm1, hsm2⟩ := hLN.has.small hLN.fit
              have hwl : wl.length ≤ 200 := by rw [List.length_map] at hsm1; omega
              have hdls : ∀ d ∈ dl, d.chs.length ≤ 1000 := fun d hd => by
                have : d.chs ∈ dl.map (·.chs) := List.mem_map.2 ⟨d, hd, rfl⟩
                rw [hdw] at this
                have := hsm2 _ this
                omega
              have hdll : dl.length ≤ 1000 := by
                have e := congrArg List.length hdw
                simp at e
                omega
              have HSD := hide (sameDs_eq dl wl da wa dc wcc wr hdh hwh hdw hdls hdll)
              have hum := hLN.us
              have HRM : Hid (∀ W, Below wr.heap.size wr W → Calls Try.prog 28 #[.pointer (some ⟨lb1, 0, none⟩)] W fun e w' => e = .returned (.int .i64 ((m : Int) - (u : Int))) ∧ ∃ n, w' = W.drewN n) := fun W hb => by
                have := lroom_any W ((hLK.on hb).hd) hum (by omega)
                rwa [show ((m - u : Nat) : Int) = (m : Int) - (u : Int) by omega] at this
              have HNX : Hid (∀ W, Below wr.heap.size wr W → Calls Try.prog 29 #[.pointer (some ⟨lb1, 0, none⟩)] W fun e w' => e = .returned (.int .i64 ((p : Int) + (m : Int))) ∧ ∃ n, w' = W.drewN n) := fun W hb => lnext_any W ((hLK.on hb).hd) (by omega) (by omega)
              subst hdv hwv
              have HLK := hide hLK
              have HLN := hide hLN
              have HMD := hide hMd
              have HMW := hide hMw
              have HDW := hide hdw
              have HBR := hide hI.bel
              have k1 : (0 : Int) ≤ (u : Int) := by omega
              have k2 : (u : Int) ≤ (m : Int) := by omega
              have k3 : (m : Int) ≤ 40 := by omega
              have k4 : (p : Int) ≤ 1000000 := by omega
              have k5 : (i : Int) ≤ (l.length : Int) := by omega
              clear hI hLK hLN hMd hMw hdw hdh hwh hsm1 hsm2 hdls hdll
              by_cases hlt : i < l.length
              · have hne : ((i : Int) == (l.length : Int)) = false := by simp; omega
                have hltI : (i : Int) < (l.length : Int) := by omega
                have hi0' : (0 : Int) ≤ (i : Int) := by omega
                rcases HD.out with e | ⟨b, off, e, hac⟩
                · rw [e] at hlt; simp at hlt
                subst e
                have hxw := hac i hlt
                have hlx : lightAct l[i] = true := by
                  have := HLA.out
                  simp only [lightActs, Bool.and_eq_true, List.all_eq_true] at this
                  exact this.2 _ (List.getElem_mem hlt)
                clear hac
                generalize l[i] = x at *
                simp only [lightAct, lightChgs, Bool.and_eq_true, decide_eq_true_eq, List.all_eq_true, lightChg] at hlx
                obtain ⟨⟨⟨_, _⟩, hcl, hck⟩, _⟩ := hlx
                have HCK : Hid (∀ c ∈ x.chs, c.key.size ≤ 1000 ∧ c.val.size ≤ 1000) := fun c hc => by have := hck c hc; omega
                have HXW := hide hxw
                clear hck hxw
                go_upto_region 36 with (first
                  | (go_at_call 27; refine HSD.out.mono ?_; rintro e w9 ⟨rfl, hb9⟩; have HB9 := hide hb9; clear hb9)
                  | (go_at_call 28; refine (HRM.out _ HB9.out).mono ?_; rintro e w10 ⟨rfl, n10, hw10⟩; have HB10 : Hid (Below wr.heap.size wr w10) := (by rw [hw10]; exact below_drewN HB9.out _); clear hw10)
                  | (go_at_call 29; refine (HNX.out _ HB10.out).mono ?_; rintro e w11 ⟨rfl, n11, hw11⟩; have HB11 : Hid (Below wr.heap.size wr w11) := (by rw [hw11]; exact below_drewN HB10.out _); clear hw11; have hx9 := HXW.out.on (below_on HBR.out (Nat.le_refl _) HB11.out); have x0 := hx9.kind; have x1 := hx9.a; have x2 := hx9.b; have x3 := hx9.c; have x4 := hx9.k; have x5 := hx9.s; have x6 := hx9.t; have x7 := hx9.cl; have x8 := hx9.sl; clear hx9)
                  | fail)
                have HAI := hide (ActIn.new w11 x)
                have HBA := hide (below_on HB11.out (Nat.le_refl _) (below_alloc1 w11 (Obj.cells #[Value.string x.kind, Value.int .i64 x.a, Value.int .i64 x.b, Value.int .i64 x.c, Value.int .u64 x.k, Value.string x.s, Value.string x.t, Value.slice x.ca x.chs.length x.cc, Value.slice x.sa x.sps.length x.sc] 39)))
                have hxb : w11.heap.size < (w11.alloc (Obj.cells #[Value.string x.kind, Value.int .i64 x.a, Value.int .i64 x.b, Value.int .i64 x.c, Value.int .u64 x.k, Value.string x.s, Value.string x.t, Value.slice x.ca x.chs.length x.cc, Value.slice x.sa x.sps.length x.sc] 39)).heap.size := by simp
                have HXN : Hid (¬ inL lb1 S1 w11.heap.size) := fun e => by
                  rcases e with e | e
                  · have := HLK.out.hd.lt; have := HB11.out.size; omega
                  · have := HLK.out.dk.lt e; have := HB11.out.size; omega
                generalize hxbe : w11.heap.size = xb at *
                generalize w11.alloc (Obj.cells #[Value.string x.kind, Value.int .i64 x.a, Value.int .i64 x.b, Value.int .i64 x.c, Value.int .u64 x.k, Value.string x.s, Value.string x.t, Value.slice x.ca x.chs.length x.cc, Value.slice x.sa x.sps.length x.sc] 39) = W at *
                replace HLK := hide (HLK.out.on HBA.out)
                replace HMD := hide (HMD.out.on HBA.out)
                replace HMW := hide (HMW.out.on HBA.out)
                replace HBR := hide (below_on HBR.out (Nat.le_refl _) HBA.out)
                have y0 := HAI.out.kind
                have y7 := HAI.out.cl
                clear x0 x1 x2 x3 x4 x5 x6 x7 x8 hxbe HBA HB11 HB10 HB9 HRM HNX HSD
                cases hadd : (x.kind.toList == [97, 100, 100]) with
                | false =>
                  have hnv := HLN.out.deeds
                  have HOG := hide (lopen_good f m p W HLK.out.dk HLN.out.down hm1 hp1.1 (by omega) HLN.out.fit)
                  rw [hnv.1, hnv.2] at HOG
                  clear hnv
                  go_wp2_with (first
                    | (go_at_call 25; refine HOG.out.mono ?_; rintro e w12 ⟨lb2, dv2, rfl, ho12⟩; have HO12 := hide ho12; clear ho12)
                    | fail)
                  have hI2 : LSI w w12 db f m p lb2 u dv2 (.slice wa wl.length wcc) := by
                    obtain ⟨dl2, hd2, hd2G, hd2n⟩ := HO12.out.de
                    have hlow : w.heap.size ≤ W.heap.size := HBR.out.size
                    have hSn : ∀ k, W.heap.size ≤ k → ¬ S1 k := fun k h e => by have := HLK.out.dk.lt e; omega
                    have hL2 := LK.of_openN HLK.out.dk HO12.out HLN.out.us HLN.out.fit hp1.1 (by omega)
                    refine ⟨⟨S1, s1, dl2, wl, hL2, HLN.out, ⟨WantV.of_row (ownsRow_le hd2.1 hlow) (fun k e => ?_) hd2.2.2, fun d hd => .inr ⟨ownCh_le (hd2.2.1 d hd) hlow, fun k e => ?_⟩⟩, ?_, hd2G⟩, below_on HBR.out (Nat.le_refl _) HO12.out.bel⟩
                    · rintro (rfl | e2)
                      · exact HO12.out.dn e
                      · exact hSn k (World.ownsRow.lt hd2.1 k e).1 e2
                    · rintro (rfl | e2)
                      · exact hd2n d hd e
                      · exact hSn k (World.ownsRow.lt (hd2.2.1 d hd) k e).1 e2
                    · have hm := HMW.out
                      have hnew := HO12.out.new
                      have hm2 : MixV w W w.heap.size (inL lb2 S1) (.slice wa wl.length wcc) wl := by
                        refine ⟨?_, fun d hd => ?_⟩
                        · rcases hm.row with h | ⟨g, c, e, h0, h1, h2, h3, h4⟩
                          · exact .inl h
                          · exact .inr ⟨g, c, e, h0, h1, h2, fun e => e.elim (fun e => by omega) (fun e => h3 (.inr e)), h4⟩
                        · rcases hm.el d hd with h | ⟨h1, h2⟩
                          · exact .inl h
                          · refine .inr ⟨h1, fun k e e2 => e2.elim (fun e3 => ?_) (fun e3 => h2 k e (.inr e3))⟩
                            have := (World.ownsRow.lt h1 k e).2
                            omega
                      exact hm2.on HO12.out.bel
                  have HI2 := hide hI2
                  clear hI2
                  exact ⟨⟨i + 1, lb2, u, by omega, rfl, rfl, by go_num, HI2.out⟩, by simp [intOf]; omega⟩
                | true =>
                  have HAF := hide (addFault_any x.chs x.ca x.cc (m - u) W (heldCh_on HBR.out HXW.out.hc) (fun c hc => (HCK.out c hc).1) (by omega) (by omega))
                  rw [show ((m - u : Nat) : Int) = (m : Int) - (u : Int) by omega] at HAF
                  have HAD : Hid (∀ W', Below W.heap.size W W' → Calls Try.prog 31 #[.pointer (some ⟨lb1, 0, none⟩), .slice x.ca x.chs.length x.cc] W' fun e w' => e = .returned (errV (addR f m p u s1 x.chs).1) ∧ ActL' W' w' w.heap.size lb1 db S1 f m p (addR f m p u s1 x.chs).2.1 (addR f m p u s1 x.chs).2.2) := fun W' hb => ladd_any x.chs x.ca x.cc W' (HLK.out.on hb) (heldCh_on (below_on HBR.out (Nat.le_refl _) hb) HXW.out.hc) HCK.out (by omega)
                  by_cases hf : addF x.chs (m - u) = 0
                  · obtain ⟨q1, q2, q3, q4⟩ := HLN.out.add x.chs hf
                    have HQ2 := hide q2
                    rw [hf] at HAF
                    rw [q1, q3, errD_nil] at HAD
                    clear q1 q2 q3 q4 hf
                    generalize (addR f m p u s1 x.chs).2.2 = s2 at *
                    go_upto_region 44 with (first
                      | (go_at_call 30; refine HAF.out.mono ?_; rintro e w12 ⟨rfl, hb12⟩; have HB12 := hide hb12; have z7 := cell_on hb12 y7; clear hb12)
                      | (go_at_call 31; refine (HAD.out _ HB12.out).mono ?_; rintro e w13 ⟨rfl, ha13⟩; obtain ⟨S13, hL13, hs13⟩ := ha13; have hs13' := (StepV.on HLK.out.dk.lo HB12.out).trans hs13; have HL13 := hide hL13; have HM13 := hide (HMW.out.step hs13'); have HB13 := hide (HBR.out.trans hs13'.bel); have HX13 := hide (hs13'.far xb hxb HXN.out); clear hL13 hs13 hs13')
                      | (go_at_call 12; refine (same_nil 0 _).mono ?_; rintro e w14 ⟨rfl, rfl⟩)
                      | fail)
                    have c7 := (World.cell?_of_block (a := ⟨xb, 7, none⟩) HX13.out.1).trans y7
                    clear z7 y7 y0 HAF HAD
                    obtain ⟨i1, hi1, hz1, hs1, hb1⟩ := info_parts chl_facts
                    have hB14 := HB13.out.size
                    have HNW : Hid (∀ (V : World) (j : Nat) (u : Value), [Value.slice x.ca x.chs.length x.cc][j]? = some u → (V.alloc (Obj.cells #[Value.slice x.ca x.chs.length x.cc] 36)).cell? ((⟨V.heap.size, 0, none⟩ : Addr).add j) = some u) := fun V => World.news_of_block (cs := #[Value.slice x.ca x.chs.length x.cc]) (t := 36) (fr := (0, 0)) (heap_alloc_new V _)
                    have HNS : Hid (∀ k, w14.heap.size ≤ k → ¬ inL lb1 S13 k) := fun k h e => by
                      rcases e with e | e
                      · have := HL13.out.hd.lt; omega
                      · have := HL13.out.dk.lt e; omega
                    go_cut [22] (fun v wx => WantV wx w.heap.size (inL lb1 S13) v (wl ++ [⟨x.ca, x.cc, x.chs⟩]) ∧ Below w14.heap.size w14 wx)
                    case first =>
                      have hxl : xb < w14.heap.size := World.block_lt_of_cell? _ _ c7
                      have d7 := cell_on (below_alloc1 w14 (Obj.cells #[Value.slice x.ca x.chs.length x.cc] 36)) c7
                      rcases HM13.out.row with ⟨hd0, hv0⟩ | ⟨gw, cw, hvw, hd0, hNg, hgl, hgS, hgc⟩
                      · subst hd0
                        cases hv0
                        go_region_law (first
                          | (refine step_append_lies _ (by rfl) _ _ _ (by rfl) w.heap.size 36 i1 _ 1 24 Try.underlying55 hi1 hz1 hs1 hb1 rfl (by omega) (.slice none 0 0) 0 [] (by rfl) (World.ownsRow_nil _ _ _ _) ⟨w14.heap.size, 0, none⟩ 1 1 [Value.slice x.ca x.chs.length x.cc] (by rfl) (by rfl) (HNW.out w14) (by simp [Value.oneCell']) (by omega) (by unfold maxLen; omega) (by omega) (by simp; omega) (w14.heap.size + 1) (by simp) ?_; intro g2 c2 w2' ho2 hg2 hat2 hlt2; have hbw2 : Below w14.heap.size w14 w2' := ((below_alloc1 w14 (Obj.cells #[Value.slice x.ca x.chs.length x.cc] 36)).drew).grown hg2 (by simp) (fun k e => by cases e))
                          | fail)
                        all_goals
                          have HO2 := hide ho2
                          have HA2 : Hid (g2 = w14.heap.size + 1) := hat2.resolve_left nofun
                          have HBW := hide hbw2
                          clear ho2 hg2 hat2 hlt2 hbw2
                          go_wp2_with fail
                          go_meet
                          exact ⟨WantV.of_own HO2.out rfl rfl (fun k e => by cases e; exact HNS.out g2 (by rw [HA2.out]; omega)) (by simp), HBW.out⟩
                      · cases hvw
                        have hpos : 0 < wl.length := List.length_pos_iff.2 hd0
                        have HN1 : Hid (∀ V, Below w14.heap.size w14 V → ∀ j u, (wl.map ddV)[j]? = some u → V.cell? ((⟨gw, 0, none⟩ : Addr).add j) = some u) := fun V hb j u hj => by
                          have hjl : j < wl.length := by rw [← List.length_map (f := ddV)]; exact (List.getElem?_eq_some_iff.1 hj).1
                          rw [List.getElem?_map, List.getElem?_eq_getElem hjl] at hj
                          rw [Go.Addr.add_mid, Nat.zero_add, cell_on hb (hgc j hjl)]
                          exact hj
                        clear hgc
                        go_region_law (first
                          | (refine step_append_lies _ (by rfl) _ _ _ (by rfl) w.heap.size 36 i1 _ 1 24 Try.underlying55 hi1 hz1 hs1 hb1 rfl (by omega) (.slice none 0 0) 0 [] (by rfl) (World.ownsRow_nil _ _ _ _) ⟨gw, 0, none⟩ wl.length _ (wl.map ddV) (by rfl) (by simp) (HN1.out _ (by first | exact (Below.refl _ _).drew | exact (below_alloc1 _ _).drew)) (by simp [ddV, Value.oneCell']) hpos (by unfold maxLen; omega) (by omega) (by simp; omega) _ rfl ?_; intro g1 c1 w1' ho1 hg1 hat1 hlt1; simp only [Nat.zero_add, List.nil_append] at ho1; have hbw1 : Below w14.heap.size w14 w1' := (by first | exact ((Below.refl _ w14).drew).grown hg1 (by simp) (fun k e => by cases e) | exact ((below_alloc1 w14 (Obj.cells #[Value.slice x.ca x.chs.length x.cc] 36)).drew).grown hg1 (by simp) (fun k e => by cases e)); have hge1 : w14.heap.size ≤ g1 := hat1.elim (fun e => by cases e) (fun e => by rw [e]; simp); replace c7 := cell_on hbw1 c7)
                          | (refine step_append_lies _ (by rfl) _ _ _ (by rfl) w.heap.size 36 i1 _ 1 24 Try.underlying55 hi1 hz1 hs1 hb1 rfl (by omega) (.slice (some ⟨g1, 0, none⟩) wl.length c1) _ _ (by rfl) (ho1.alloc _) ⟨w1'.heap.size, 0, none⟩ 1 1 [Value.slice x.ca x.chs.length x.cc] (by rfl) (by rfl) (HNW.out w1') (by simp [Value.oneCell']) (by omega) (by unfold maxLen; omega) (by omega) (by have := hbw1.size; simp; omega) _ rfl ?_; intro g2 c2 w2' ho2 hg2 hat2 hlt2; have hbw2 : Below w14.heap.size w14 w2' := (below_on hbw1 (Nat.le_refl _) (below_alloc1 w1' (Obj.cells #[Value.slice x.ca x.chs.length x.cc] 36))).grown hg2 (by have := hbw1.size; simp; omega) (fun k e => by simp [Value.ownBlock] at e; omega))
                          | (refine step_append_lies _ (by rfl) _ _ _ (by rfl) w.heap.size 36 i1 _ 1 24 Try.underlying55 hi1 hz1 hs1 hb1 rfl (by omega) (.slice (some ⟨g1, 0, none⟩) wl.length c1) _ _ (by rfl) ho1 ⟨w14.heap.size, 0, none⟩ 1 1 [Value.slice x.ca x.chs.length x.cc] (by rfl) (by rfl) (fun j u hj => hg1.cell (HNW.out w14 j u hj) (by simp [Value.ownBlock])) (by simp [Value.oneCell']) (by omega) (by unfold maxLen; omega) (by omega) (by have := hbw1.size; omega) _ rfl ?_; intro g2 c2 w2' ho2 hg2 hat2 hlt2; have hbw2 : Below w14.heap.size w14 w2' := hbw1.grown hg2 hbw1.size (fun k e => by simp [Value.ownBlock] at e; omega))
                          | fail)
                        all_goals
                          have HO2 := hide ho2
                          have ha2 : w14.heap.size ≤ g2 := hat2.elim (fun e => by simp [Value.ownBlock] at e; omega) (fun e => by have := hbw1.size; (first | (simp at e; omega) | omega))
                          have HA2 := hide ha2
                          have HBW := hide hbw2
                          clear ho2 hg2 hat2 hlt2 hbw2 ho1 hg1 hat1 hlt1
                          go_wp2_with fail
                          go_meet
                          exact ⟨WantV.of_own HO2.out (by simp) (by simp [ddV]) (fun k e => by cases e; exact HNS.out g2 HA2.out) (by simp), HBW.out⟩
                    case rest =>
                      obtain ⟨hw2, hb2⟩ := hcut
                      have e7 := cell_on hb2 c7
                      have hMX : MixV w wc w.heap.size (inL lb1 S13) u22 (wl ++ [⟨x.ca, x.cc, x.chs⟩]) := ⟨hw2, fun d hd => by
                        rcases List.mem_append.1 hd with hd | hd
                        · exact (HM13.out.on hb2).el d hd
                        · rw [List.mem_singleton] at hd; rw [hd]; exact .inl HXW.out.hc⟩
                      have HI2 : Hid (LSI w wc db f m p lb1 (u + x.chs.length + 1) u22 u22) := ⟨⟨S13, s2, _, _, HL13.out.on hb2, by rw [List.map_append]; exact HQ2.out, hMX, hMX, rfl⟩, below_on HB13.out (Nat.le_refl _) hb2⟩
                      have kc : (x.chs.length : Int) ≤ 20 := by omega
                      clear hw2 hb2 hMX
                      go_wp2
                      exact ⟨⟨i + 1, lb1, u + x.chs.length + 1, by omega, rfl, by go_num, by go_num, HI2.out⟩, by simp [intOf]; omega⟩
                  · have HF := hide hf
                    have hR : addR f m p u s1 x.chs = (addF x.chs (m - u), u, s1) := by unfold addR; rw [if_pos hf]
                    rw [hR] at HAD
                    have HSM := fun w' => hide (same_of (addF x.chs (m - u)) (errV (addF x.chs (m - u))) w' rfl)
                    have hf2 : ((addF x.chs (m - u) : Int) == 0) = false := by simp; exact hf
                    clear hR hf
                    generalize addF x.chs (m - u) = af at *
                    go_wp2_with (first
                      | (go_at_call 30; refine HAF.out.mono ?_; rintro e w12 ⟨rfl, hb12⟩; have HB12 := hide hb12; have z7 := cell_on hb12 y7; clear hb12)
                      | (go_at_call 31; refine (HAD.out _ HB12.out).mono ?_; rintro e w13 ⟨rfl, ha13⟩; obtain ⟨S13, hL13, hs13⟩ := ha13; have hs13' := (StepV.on HLK.out.dk.lo HB12.out).trans hs13; have HI2 : Hid (LSI w w13 db f m p lb1 u (.slice da dl.length dc) (.slice wa wl.length wcc)) := ⟨⟨S13, s1, dl, wl, hL13, HLN.out, HMD.out.step hs13', HMW.out.step hs13', HDW.out⟩, HBR.out.trans hs13'.bel⟩; clear hL13 hs13 hs13')
                      | (go_at_call 12; refine (HSM _).out.mono ?_; rintro e w14 ⟨rfl, rfl⟩)
                      | fail)
                    exact ⟨⟨i + 1, lb1, u, by omega, rfl, rfl, by go_num, HI2.out⟩, by simp [intOf]; omega⟩
              · have ei : i = l.length := by omega
                subst ei
                go_wp2_with (first
                  | (go_at_call 27; refine HSD.out.mono ?_; rintro e w9 ⟨rfl, hb9⟩; have HB9 := hide hb9; clear hb9)
                  | (go_at_call 28; refine (HRM.out _ HB9.out).mono ?_; rintro e w10 ⟨rfl, n10, rfl⟩)
                  | (go_at_call 29; refine (HNX.out _ (below_drewN HB9.out _)).mono ?_; rintro e w11 ⟨rfl, n11, rfl⟩)
                  | fail)
                go_ret
                exact ⟨rfl, below_drewN (below_on HBR.out (Nat.le_refl _) HB9.out) _⟩
end Go.Proofs.Ytkfpfbkdalbjoaa
