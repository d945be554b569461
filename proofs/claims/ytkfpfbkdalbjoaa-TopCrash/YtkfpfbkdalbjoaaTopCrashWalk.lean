/-
  What haywaintop.TopCrash returns: true, of whatever came in.
-/
import Derived.Test.YtkfpfbkdalbjoaaStoLaw
import Derived.Test.YtkfpfbkdalbjoaaSame1
import Derived.Test.YtkfpfbkdalbjoaaDskNew
import Derived.Test.YtkfpfbkdalbjoaaRefAppP
import Derived.Deep.CutBlock
import Derived.Deep.DeepCutAuto
namespace Go.Proofs.Ytkfpfbkdalbjoaa
open Go.RowKit Go.Joins
attribute [local go_sem ↓] Go.wp_at_zero Go.wp_at_succ

/-- rows that a value has, apart from some blocks -/
structure RowsV (w : World) (N : Nat) (T : Nat → Prop) (v : Value) (l : List (ByteArray × ByteArray)) : Prop where
  own : ownP w N v l
  ap : ∀ k, v.ownBlock = some k → ¬ T k
theorem RowsV.step {w w' : World} {B N : Nat} {T T' : Nat → Prop} {v : Value} {l : List (ByteArray × ByteArray)} (h : RowsV w N T v l) (hs : StepV w w' B T T') : RowsV w' N T' v l :=
  ⟨own_block h.own fun k e => (hs.far k (World.ownsRow.lt h.own k e).2 (h.ap k e)).1, fun k e => (hs.far k (World.ownsRow.lt h.own k e).2 (h.ap k e)).2⟩
theorem RowsV.on {w w' : World} {N : Nat} {T : Nat → Prop} {v : Value} {l : List (ByteArray × ByteArray)} (h : RowsV w N T v l) (hb : Below w.heap.size w w') : RowsV w' N T v l := ⟨own_on h.own hb, h.ap⟩
theorem RowsV.less {w : World} {N : Nat} {T T' : Nat → Prop} {v : Value} {l : List (ByteArray × ByteArray)} (h : RowsV w N T v l) (hs : ∀ k, T' k → T k) : RowsV w N T' v l := ⟨h.own, fun k e e2 => h.ap k e (hs k e2)⟩
theorem RowsV.form {w : World} {N : Nat} {T : Nat → Prop} {v : Value} {l : List (ByteArray × ByteArray)} (h : RowsV w N T v l) : ∃ ao cap, v = .slice ao l.length cap ∧ heldSp w ao l ∧ (ao = none → cap = 0 ∧ l = []) := by
  rcases own_form h.own with ⟨e, e2⟩ | ⟨g, cap, e, _⟩
  · exact ⟨none, 0, by rw [e, e2], .inl (List.length_eq_zero_iff.1 e2), fun _ => ⟨rfl, List.length_eq_zero_iff.1 e2⟩⟩
  · obtain ⟨ao, cap', e', hh⟩ := ownP_held h.own
    rw [e] at e'
    cases e'
    exact ⟨_, _, e, hh, fun e => by cases e⟩
/-- while deeds are committed -/
structure TCI (w wr : World) (sb db : Nat) (v : Value) : Prop where
  ex : ∃ T x, SA wr w.heap.size sb db T x ∧ SGood x ∧ x.d.now.length = 70 ∧ RowsV wr w.heap.size T v (rowsL x.rows)
  bel : Below w.heap.size w wr
/-- behind them -/
structure TCE (w wr : World) (db : Nat) (v v2 : Value) : Prop where
  ex : ∃ S s l l2, DK wr w.heap.size db S s ∧ RowsV wr w.heap.size S v l ∧ RowsV wr w.heap.size S v2 l2 ∧ ∀ k, (restartD s k).now.length = 70 ∧ ∃ rows, (rowsL rows = l ∨ rowsL rows = l2) ∧ RGood (restartD s k) rows
  bel : Below w.heap.size w wr
theorem TCI.fine {w wr : World} {sb db : Nat} {v : Value} (h : TCI w wr sb db v) : TCE w wr db v v := by
  obtain ⟨T, x, h1, h2, h3, h4⟩ := h.ex
  obtain ⟨S, k1, k2⟩ := h1.disk
  refine ⟨⟨S, x.d, _, _, k1, h4.less k2, h4.less k2, fun k => ?_⟩, h.bel⟩
  obtain ⟨r1, r2⟩ := DRest.restart h2 k
  exact ⟨r2.trans h3, x.rows, .inl rfl, _, _, _, r1⟩
theorem light_of {l : List Dd} (h : lightDeeds l 20 = true) : l.length ≤ 20 ∧ ∀ d ∈ l, d.chs.length ≤ 14 ∧ ∀ c ∈ d.chs, c.key.size ≤ 1000 ∧ c.val.size ≤ 1000 := by
  simp only [lightDeeds, Bool.and_eq_true, List.all_eq_true, lightChgs, decide_eq_true_eq, lightChg] at h
  refine ⟨h.1, fun d hd => ?_⟩
  obtain ⟨q1, q2⟩ := h.2 d hd
  exact ⟨q1, fun c hc => by have := q2 c hc; omega⟩
theorem apart_of {w : World} {T : Nat → Prop} {ao : Option Addr} {l : List Chg} (h : heldCh w ao l) (hT : ∀ k, T k → w.heap.size ≤ k) : apart T ao l := by
  rcases h with h | ⟨b, off, e, hc⟩
  · exact .inl h
  · by_cases hl : l = []
    · exact .inl hl
    · have hb : b < w.heap.size := World.block_lt_of_cell? _ _ (hc 0 (List.length_pos_iff.2 hl)).1
      exact .inr fun a e2 e3 => by
        subst e
        cases e2
        have := hT _ e3
        exact absurd hb (by show ¬ b < w.heap.size; have h2 : w.heap.size ≤ b := this; omega)
set_option maxRecDepth 8000 in
set_option maxHeartbeats 16000000 in
theorem topCrash_walk (l : List Dd) (da : Option Addr) (dc : Nat) (fuse key : Int) (w : World) (hd : heldDs w da l) (hfu : fuse ≤ 9223372036854775807) (hfu0 : -9223372036854775808 ≤ fuse) :
    Calls Try.prog 7 #[.slice da l.length dc, .int .i64 fuse, .int .u64 key] w fun e w' => e = .returned (.bool true) ∧ Below w.heap.size w w' := by
  have HD0 := hide hd
  clear hd
  have nn := nil_neq_nil
  have ne := nil_eql_nilN
  go_enter Try.func7, Try.ntmps7
  go_wp2_with fail
  refine (kept_any w).mono ?_
  rintro e w1 ⟨rfl, hb1⟩
  have HB1 := hide hb1
  have HD := hide (heldDs_on hb1 HD0.out)
  clear hb1 HD0
  go_wp2_with fail
  refine (stored_good 70 w1 (by decide) (by decide)).mono ?_
  rintro e w2 ⟨db, sb, rfl, hst⟩
  obtain ⟨T, x, hsa, hg, hr, hl, hn, _⟩ := hst.ex
  have HB2 := hide hst.bel
  have HSA := hide hsa
  have HGD := hide hg
  have HRN := hide (And.intro hr hn)
  clear hst hsa hg hr hl hn
  go_wp2_with fail
  refine (lightDeeds_any l da dc 20 _ (heldDs_on HB2.out HD.out) (by omega)).mono ?_
  rintro e w4 ⟨rfl, rfl⟩
  cases hlD : lightDeeds l 20
  · go_wp2
    go_ret
    exact ⟨rfl, below_on HB1.out (Nat.le_refl _) HB2.out⟩
  obtain ⟨hll, hli⟩ := light_of hlD
  have HLI := hide hli
  clear hli hlD
  have HAR : Hid (∀ n : Int, n = min (max fuse (-1)) 400 → Calls Try.prog 20 #[.pointer (some ⟨db, 0, none⟩), .int .i64 n] w4 fun e w' => e = .returned (.tuple #[]) ∧ TCI w1 w' sb db (.slice none 0 0)) := fun n hn => by
    obtain ⟨lb, S, v, h1, hT⟩ := HSA.out
    refine (darm_any n w4 h1.lk.dk (by omega) (by omega)).mono ?_
    rintro e w' ⟨rfl, S2, k1, k2⟩
    refine ⟨rfl, ⟨inS sb lb v S2, { x with d := armD x.d n }, ⟨lb, S2, v, h1.step k1 k2 rfl, rfl⟩, DRest.arm HGD.out n, HRN.out.2, ?_⟩, HB2.out.trans k2.bel⟩
    show RowsV w' w1.heap.size _ _ (rowsL x.rows)
    rw [HRN.out.1]
    exact ⟨World.ownsRow_nil _ _ _ _, fun k e => by cases e⟩
  go_upto_block 0 with (first
    | (go_at_call 20; refine (HAR.out _ rfl).mono ?_; rintro e w5 ⟨rfl, ha5⟩; have HT0 := hide ha5; clear ha5)
    | fail)
  clear HAR HSA HGD HRN HB2
  go_cut [10, 11] (fun v v2 wx => TCE w1 wx db v v2)
  case first =>
    go_wp2_with fail
    go_loopw [10, 11, 12] (fun v v2 iv wr => ∃ k : Nat, k ≤ l.length ∧ iv = .int .i64 (k : Int) ∧ v2 = v ∧ TCI w1 wr sb db v) (fun _ _ iv _ => l.length - (intOf iv).toNat)
    case atStart => exact ⟨0, Nat.zero_le _, rfl, rfl, HT0.out⟩
    case round =>
      obtain ⟨k, hk, rfl, rfl, hT⟩ := hrel
      clear HT0
      by_cases hlt : k < l.length
      · have hlt' : (k : Int) < (l.length : Int) := by omega
        have hk0 : (0 : Int) ≤ (k : Int) := by omega
        rcases HD.out with e | ⟨b, off, e, hds⟩
        · rw [e] at hlt; simp at hlt
        subst e
        obtain ⟨cx, hdd⟩ := hds k hlt
        obtain ⟨hx1, hx2⟩ := HLI.out _ (List.getElem_mem hlt)
        clear hds
        generalize l[k] = dd at *
        obtain ⟨TX, X, hsx, hgx, hnx, hvx⟩ := hT.ex
        have HN10 := hide (comF_not X dd.chs)
        by_cases hm : k % 5 = 4
        · have hm' : ((k : Int) % 5 == 4) = true := by have : (k : Int) % 5 = 4 := by omega
                                                       rw [this]; rfl
          have HCP := hide (schk_any wr hsx hgx)
          have HCG := hide hgx.chk
          have HVR := hide hvx
          have HBR := hide hT.bel
          have HNR := hide hnx
          clear hsx hgx hvx hnx hT hm HN10
          have HRR : Hid ((chkR X).2.rows = X.rows) := HCG.out.2.1
          generalize hce : chkR X = C at *
          rcases HCG.out.2.2 with ⟨r1, r2, r3⟩ | ⟨r1, r2⟩
          · rw [r1, errD_nil] at HCP
            have HNU := fun W' => hide (number_any 0 W')
            rw [errD_nil] at HNU
            have HGC := hide r2
            clear r1 r2 r3
            go_wp2_with fail
            refine HCP.out.mono ?_
            rintro e W ⟨rfl, TY, hsy, hsty⟩
            have HSX := hide hsy
            have HBX := hide (HBR.out.trans hsty.bel)
            have hvy := HVR.out.step hsty
            rw [← HRR.out] at hvy
            have HVX := hide hvy
            have HNX : Hid (C.2.d.now.length = 70) := HCG.out.1.trans HNR.out
            have HGX := hide HGC.out
            clear hsy hsty hvy HCP HVR HBR HNR HCG hce HGC HRR
            go_wp2_with fail
            refine ((HNU _).out).mono ?_
            rintro e w9 ⟨rfl, hw9⟩
            rw [hw9]
            clear HNU hw9 w9
            generalize C.2 = X at *
            have HN10 := hide (comF_not X dd.chs)
            obtain ⟨ra, rc, rfl, hheld, hnil⟩ := HVX.out.form
            have hzW := HBX.out.size
            have hrl : (rowsL X.rows).length ≤ 40 := by unfold rowsL; rw [List.length_map]; exact DRest.few HGX.out
            have cW := cell_on HBX.out cx
            have HAPP := hide (rapplied_any (rowsL X.rows) ra rc dd.chs dd.ao dd.cap W hheld hnil (heldCh_on HBX.out hdd) (by omega) (by omega))
            clear hheld hnil
            go_wp2_with fail
            refine HAPP.out.mono ?_
            rintro e w5 ⟨v5, rfl, ho5, hb5⟩
            have hTY : ∀ k, TY k → w1.heap.size ≤ k ∧ k < W.heap.size := fun k e => ⟨HSX.out.low e, HSX.out.lt e⟩
            have HV5 : Hid (RowsV w5 w1.heap.size TY v5 (rowsL (behindL X.rows dd.chs))) := by
              rw [behind_apply (DRest.fine HGX.out)]
              exact ⟨ownsRow_le ho5 hzW, fun k e e2 => by have h1 := (World.ownsRow.lt ho5 k e).1; have h2 := (hTY k e2).2; omega⟩
            have HW5 := hide (HVX.out.on hb5)
            have HB5 := hide (below_on HBX.out (Nat.le_refl _) hb5)
            have HCO := hide (scommit_any dd.chs dd.ao dd.cap w5 (HSX.out.on hb5) HGX.out (heldCh_on HB5.out hdd) (apart_of hdd fun k e => (hTY k e).1) (by omega) hx2)
            have cW := cell_on HB5.out cx
            have hcm := HGX.out.commit dd.chs
            have HFA := hide hcm
            clear ho5 hb5 hTY HAPP HVX HSX hcm
            generalize comR X dd.chs = R at *
            generalize comF X dd.chs = cf at *
            rcases HFA.out.2 with ⟨r1, r2, r3, r4, _⟩ | ⟨r1, r2, r3⟩ | ⟨r1, r2, r3⟩
            · rw [r1, errD_nil] at HCO
              have HR := hide (And.intro r3 r4)
              clear r1 r2 r3 r4
              go_wp2_with fail
              refine HCO.out.mono ?_
              rintro e w6 ⟨rfl, T6, hsa6, hs6⟩
              have HT6 : Hid (TCI w1 w6 sb db v5) := ⟨⟨T6, R.2, hsa6, HR.out.1, HFA.out.1.trans HNX.out, by rw [HR.out.2]; exact HV5.out.step hs6⟩, HB5.out.trans hs6.bel⟩
              clear hsa6 hs6
              go_wp2_with fail
              exact ⟨⟨k + 1, by omega, by go_num, rfl, HT6.out⟩, by simp [intOf]; omega⟩
            · have HER : Hid (errV R.1 = .iface 82 (.int .i64 R.1)) := errD_pos (by rw [r1]; exact r2)
              rw [HER.out] at HCO
              have hn10 : R.1 ≠ 10 := by rw [r1]; exact HN10.out
              have h10 : ((R.1 : Int) == 10) = false := beq_eq_false_iff_ne.2 (by omega)
              have HNU := fun W' => hide (number_any R.1 W')
              rw [HER.out] at HNU
              have HR := hide r3
              clear r1 r2 r3 hn10
              go_wp2_with fail
              refine HCO.out.mono ?_
              rintro e w6 ⟨rfl, T6, hsa6, hs6⟩
              rw [HR.out] at hsa6
              have HT6 : Hid (TCI w1 w6 sb db (.slice ra (rowsL X.rows).length rc)) := ⟨⟨T6, X, hsa6, HGX.out, HNX.out, HW5.out.step hs6⟩, HB5.out.trans hs6.bel⟩
              clear hsa6 hs6
              go_wp2_with fail
              refine ((HNU _).out).mono ?_
              rintro e w7 ⟨rfl, rfl⟩
              go_wp2_with fail
              exact ⟨⟨k + 1, by omega, by go_num, rfl, HT6.out⟩, by simp [intOf]; omega⟩
            · have HER : Hid (errV R.1 = .iface 82 (.int .i64 R.1)) := errD_pos (by rw [r1]; decide)
              rw [HER.out] at HCO
              have HNU := fun W' => hide (number_any R.1 W')
              rw [HER.out] at HNU
              have h10 : ((R.1 : Int) == 10) = true := by rw [r1]; rfl
              have HR := hide r3
              clear r1 r2 r3
              go_wp2_with fail
              refine HCO.out.mono ?_
              rintro e w6 ⟨rfl, T6, hsa6, hs6⟩
              have HT6 : Hid (TCE w1 w6 db (.slice ra (rowsL X.rows).length rc) v5) := by
                obtain ⟨S6, k6, k7⟩ := hsa6.disk
                refine ⟨⟨S6, R.2.d, _, _, k6, (HW5.out.step hs6).less k7, (HV5.out.step hs6).less k7, fun k => ?_⟩, HB5.out.trans hs6.bel⟩
                obtain ⟨q1, rows, q2, q3⟩ := HR.out.2 k
                exact ⟨q1.trans HNX.out, rows, q2.elim (fun e => .inl (by rw [e])) (fun e => .inr (by rw [e])), q3⟩
              clear hsa6 hs6
              go_wp2_with fail
              refine ((HNU _).out).mono ?_
              rintro e w7 ⟨rfl, rfl⟩
              go_wp2_with fail
              go_meet
              exact HT6.out
          · have HER : Hid (errV C.1 = .iface 82 (.int .i64 C.1)) := errD_pos (by rw [r1]; decide)
            rw [HER.out] at HCP
            have HNU := fun W' => hide (number_any C.1 W')
            rw [HER.out] at HNU
            have h10 : ((C.1 : Int) == 10) = true := by rw [r1]; rfl
            have HR := hide r2
            clear r1 r2
            go_wp2_with fail
            refine HCP.out.mono ?_
            rintro e W ⟨rfl, TY, hsy, hsty⟩
            have HT6 : Hid (TCE w1 W db u11 u11) := by
              obtain ⟨S6, k6, k7⟩ := hsy.disk
              have hvy := (HVR.out.step hsty).less k7
              refine ⟨⟨S6, C.2.d, _, _, k6, hvy, hvy, fun k => ?_⟩, HBR.out.trans hsty.bel⟩
              obtain ⟨q1, rows, q2, q3⟩ := HR.out.2 k
              exact ⟨q1.trans HNR.out, rows, .inl (by rw [q2]), q3⟩
            clear hsy hsty
            go_wp2_with fail
            refine ((HNU _).out).mono ?_
            rintro e w7 ⟨rfl, rfl⟩
            go_wp2_with fail
            go_meet
            exact HT6.out
        · have hm' : ((k : Int) % 5 == 4) = false := beq_eq_false_iff_ne.2 (by omega)
          have HSX := hide hsx
          have HGX := hide hgx
          have HVX := hide hvx
          have HBX := hide hT.bel
          have HNX := hide hnx
          clear hsx hgx hvx hnx hT hm
          generalize hWe : wr = W at *
          obtain ⟨ra, rc, rfl, hheld, hnil⟩ := HVX.out.form
          have hzW := HBX.out.size
          have hrl : (rowsL X.rows).length ≤ 40 := by unfold rowsL; rw [List.length_map]; exact DRest.few HGX.out
          have cW := cell_on HBX.out cx
          have HAPP := hide (rapplied_any (rowsL X.rows) ra rc dd.chs dd.ao dd.cap W hheld hnil (heldCh_on HBX.out hdd) (by omega) (by omega))
          clear hheld hnil
          go_wp2_with fail
          refine HAPP.out.mono ?_
          rintro e w5 ⟨v5, rfl, ho5, hb5⟩
          have hTX : ∀ k, TX k → w1.heap.size ≤ k ∧ k < W.heap.size := fun k e => ⟨HSX.out.low e, HSX.out.lt e⟩
          have HV5 : Hid (RowsV w5 w1.heap.size TX v5 (rowsL (behindL X.rows dd.chs))) := by
            rw [behind_apply (DRest.fine HGX.out)]
            exact ⟨ownsRow_le ho5 hzW, fun k e e2 => by have h1 := (World.ownsRow.lt ho5 k e).1; have h2 := (hTX k e2).2; omega⟩
          have HW5 := hide (HVX.out.on hb5)
          have HB5 := hide (below_on HBX.out (Nat.le_refl _) hb5)
          have HCO := hide (scommit_any dd.chs dd.ao dd.cap w5 (HSX.out.on hb5) HGX.out (heldCh_on HB5.out hdd) (apart_of hdd fun k e => (hTX k e).1) (by omega) hx2)
          have cW := cell_on HB5.out cx
          have hcm := HGX.out.commit dd.chs
          have HFA := hide hcm
          clear ho5 hb5 hTX HAPP HVX HSX hcm
          generalize comR X dd.chs = R at *
          generalize comF X dd.chs = cf at *
          rcases HFA.out.2 with ⟨r1, r2, r3, r4, _⟩ | ⟨r1, r2, r3⟩ | ⟨r1, r2, r3⟩
          · rw [r1, errD_nil] at HCO
            have HR := hide (And.intro r3 r4)
            clear r1 r2 r3 r4
            go_wp2_with fail
            refine HCO.out.mono ?_
            rintro e w6 ⟨rfl, T6, hsa6, hs6⟩
            have HT6 : Hid (TCI w1 w6 sb db v5) := ⟨⟨T6, R.2, hsa6, HR.out.1, HFA.out.1.trans HNX.out, by rw [HR.out.2]; exact HV5.out.step hs6⟩, HB5.out.trans hs6.bel⟩
            clear hsa6 hs6
            go_wp2_with fail
            exact ⟨⟨k + 1, by omega, by go_num, rfl, HT6.out⟩, by simp [intOf]; omega⟩
          · have HER : Hid (errV R.1 = .iface 82 (.int .i64 R.1)) := errD_pos (by rw [r1]; exact r2)
            rw [HER.out] at HCO
            have hn10 : R.1 ≠ 10 := by rw [r1]; exact HN10.out
            have h10 : ((R.1 : Int) == 10) = false := beq_eq_false_iff_ne.2 (by omega)
            have HNU := fun W' => hide (number_any R.1 W')
            rw [HER.out] at HNU
            have HR := hide r3
            clear r1 r2 r3 hn10
            go_wp2_with fail
            refine HCO.out.mono ?_
            rintro e w6 ⟨rfl, T6, hsa6, hs6⟩
            rw [HR.out] at hsa6
            have HT6 : Hid (TCI w1 w6 sb db (.slice ra (rowsL X.rows).length rc)) := ⟨⟨T6, X, hsa6, HGX.out, HNX.out, HW5.out.step hs6⟩, HB5.out.trans hs6.bel⟩
            clear hsa6 hs6
            go_wp2_with fail
            refine ((HNU _).out).mono ?_
            rintro e w7 ⟨rfl, rfl⟩
            go_wp2_with fail
            exact ⟨⟨k + 1, by omega, by go_num, rfl, HT6.out⟩, by simp [intOf]; omega⟩
          · have HER : Hid (errV R.1 = .iface 82 (.int .i64 R.1)) := errD_pos (by rw [r1]; decide)
            rw [HER.out] at HCO
            have HNU := fun W' => hide (number_any R.1 W')
            rw [HER.out] at HNU
            have h10 : ((R.1 : Int) == 10) = true := by rw [r1]; rfl
            have HR := hide r3
            clear r1 r2 r3
            go_wp2_with fail
            refine HCO.out.mono ?_
            rintro e w6 ⟨rfl, T6, hsa6, hs6⟩
            have HT6 : Hid (TCE w1 w6 db (.slice ra (rowsL X.rows).length rc) v5) := by
              obtain ⟨S6, k6, k7⟩ := hsa6.disk
              refine ⟨⟨S6, R.2.d, _, _, k6, (HW5.out.step hs6).less k7, (HV5.out.step hs6).less k7, fun k => ?_⟩, HB5.out.trans hs6.bel⟩
              obtain ⟨q1, rows, q2, q3⟩ := HR.out.2 k
              exact ⟨q1.trans HNX.out, rows, q2.elim (fun e => .inl (by rw [e])) (fun e => .inr (by rw [e])), q3⟩
            clear hsa6 hs6
            go_wp2_with fail
            refine ((HNU _).out).mono ?_
            rintro e w7 ⟨rfl, rfl⟩
            go_wp2_with fail
            go_meet
            exact HT6.out
      · have ek : k = l.length := by omega
        subst ek
        have hlt' : ¬ (l.length : Int) < (l.length : Int) := by omega
        have HT6 := hide hT.fine
        clear hT
        go_wp2_with fail
        go_meet
        exact HT6.out
  case rest =>
    obtain ⟨S, s, L1, L2, hk, hv1, hv2, hres⟩ := hcut.ex
    have HBC := hide hcut.bel
    obtain ⟨h70, rows, hor, hrg⟩ := hres key
    obtain ⟨ar, fi, us, hrest⟩ := hrg
    have HRS := hide (drestart_any key wc hk)
    have HLF : Hid ((restartD s key).left = -1) := rfl
    generalize restartD s key = s9 at *
    have HOR := hide hor
    have HRE := hide hrest
    have HV1 := hide hv1
    have HV2 := hide hv2
    have H70 := hide h70
    clear hk hres hor hrest hv1 hv2 hcut h70
    go_wp2_with fail
    refine HRS.out.mono ?_
    rintro e w8 ⟨rfl, S8, hk8, hs8⟩
    have HV18 := hide (HV1.out.step hs8)
    have HV28 := hide (HV2.out.step hs8)
    have HB8 := hide (HBC.out.trans hs8.bel)
    have HOP := hide (sopen_good w8 hk8 HRE.out)
    clear hk8 hs8 HV1 HV2 HBC HRS
    go_wp2_with fail
    refine HOP.out.mono ?_
    rintro e w9 ⟨sb2, rfl, hn9⟩
    obtain ⟨T9, hsa9, hT9⟩ := hn9.sa
    have HB9 := hide (below_on HB8.out (Nat.le_refl _) hn9.bel)
    have HV19 := hide (HV18.out.on hn9.bel)
    have HV29 := hide (HV28.out.on hn9.bel)
    have HGX : Hid (SGood ⟨s9, ar, fi, us, rows⟩) := HRE.out
    have HSX := hide hsa9
    clear hn9 hsa9 HOP HV18 HV28
    have hfew := DRest.few HRE.out
    have HRO := hide (srows_any w9 HSX.out (by show rows.length ≤ 1000; omega))
    go_wp2_with fail
    refine HRO.out.mono ?_
    rintro e w10 ⟨v10, rfl, ho10, hb10⟩
    have hrl : (rowsL rows).length ≤ 40 := by unfold rowsL; rw [List.length_map]; exact hfew
    have HSX10 := hide (HSX.out.on hb10)
    have HB10 := hide (below_on HB9.out (Nat.le_refl _) hb10)
    have HG10 : Hid (RowsV w10 w9.heap.size T9 v10 (rowsL rows)) := ⟨ho10, fun k e e2 => by have h1 := (World.ownsRow.lt ho10 k e).1; have h2 := HSX.out.lt e2; omega⟩
    have HV1a := hide (HV19.out.on hb10)
    have HV2a := hide (HV29.out.on hb10)
    clear ho10 hb10 HRO HV19 HV29 HSX
    obtain ⟨ga, gc, rfl, hga, _⟩ := HG10.out.form
    obtain ⟨fa, fc, rfl, hfa, _⟩ := HV1a.out.form
    obtain ⟨ea, ec, rfl, hea, _⟩ := HV2a.out.form
    have HS1 := hide (sameRows_any (rowsL rows) L1 ga fa gc fc w10 hga hfa (by omega))
    have HS2 : Hid (∀ W, Below w10.heap.size w10 W → Calls Try.prog 38 #[.slice ga (rowsL rows).length gc, .slice ea L2.length ec] W fun e w' => ∃ b, e = .returned (.bool b) ∧ (b = true ↔ rowsL rows = L2) ∧ Below W.heap.size W w') := fun W hb => sameRows_any (rowsL rows) L2 ga ea gc ec W (heldSp_on hb hga) (heldSp_on hb hea) (by omega)
    -- the rest: whatever the first answer is
    have HNV := hide (SGood.never HGX.out HLF.out [])
    have hcf : comF ⟨s9, ar, fi, us, rows⟩ [] = 0 := by
      have h54 := DRest.n54 HRE.out
      have hb : behindL rows [] = rows := fine_stay (DRest.fine HRE.out)
      unfold comF
      rw [if_neg (by show ¬ (0 ≠ 0); decide), if_neg]
      show ¬ (40 < (behindL rows []).length ∨ s9.now.length - 50 < 0 + 1)
      rw [hb]
      omega
    have HC2 := (SGood.commit HGX.out []).2
    rw [hcf] at HNV
    have HY : Hid (SGood (comR ⟨s9, ar, fi, us, rows⟩ []).2 ∧ (comR ⟨s9, ar, fi, us, rows⟩ []).2.rows = rows) := by
      rcases HC2 with ⟨_, _, h3, h4, _⟩ | ⟨_, h2, _⟩ | ⟨h1, _⟩
      · exact ⟨h3, h4.trans (fine_stay (DRest.fine HRE.out))⟩
      · exact absurd hcf h2
      · rw [HNV.out.1] at h1; cases h1
    clear HC2 hcf
    have HCO : Hid (∀ W, Below w10.heap.size w10 W → Calls Try.prog 36 #[.pointer (some ⟨sb2, 0, none⟩), .slice none 0 0] W fun e w' => e = .returned .nilIface ∧ ActS W w' w1.heap.size sb2 db T9 (comR ⟨s9, ar, fi, us, rows⟩ []).2) := fun W hb => by
      have h1 := scommit_any [] none 0 W (HSX10.out.on hb) HGX.out (.inl rfl) (.inl rfl) (by decide) (fun c hc => absurd hc List.not_mem_nil)
      rw [HNV.out.1] at h1
      exact h1
    have HNL := hide HNV.out.2
    generalize (comR ⟨s9, ar, fi, us, rows⟩ []).2 = Y at *
    have HKN := hide (SGood.chk_never HY.out.1 HNL.out)
    have HKG : Hid (SGood (chkR Y).2 ∧ (chkR Y).2.rows = rows) := by
      have hc := SGood.chk HY.out.1
      rcases hc.2.2 with ⟨_, h2, _⟩ | ⟨h1, _⟩
      · exact ⟨h2, hc.2.1.trans HY.out.2⟩
      · rw [HKN.out.1] at h1; cases h1
    clear HNV
    go_wp2_with fail
    refine HS1.out.mono ?_
    rintro e w11 ⟨b1, rfl, hb1e, hb11⟩
    have HB1E := hide hb1e
    have HB11 := hide hb11
    clear hb1e hb11 HS1
    cases b1 with
    | true =>
      have HBW := hide HB11.out
      go_wp2_with fail
      refine (HCO.out _ HBW.out).mono ?_
      rintro e w13 ⟨rfl, T13, hsa13, hs13⟩
      have HCK := hide (schk_any w13 hsa13 HY.out.1)
      rw [HKN.out.1, errD_nil] at HCK
      have HG13 := hide ((HG10.out.on HBW.out).step hs13)
      have HB13 := hide ((below_on HB10.out (Nat.le_refl _) HBW.out).trans hs13.bel)
      clear hsa13 hs13 HCO HS2
      go_wp2_with fail
      refine HCK.out.mono ?_
      rintro e w14 ⟨rfl, T14, hsa14, hs14⟩
      have HG14 := hide (HG13.out.step hs14)
      obtain ⟨S14, hk14, _⟩ := hsa14.disk
      have HOP := hide (sopen_good w14 hk14 HKG.out.1)
      rw [HKG.out.2] at HOP
      have HB14 := hide (HB13.out.trans hs14.bel)
      clear hsa14 hs14 hk14 HCK HG13 HB13
      go_wp2_with fail
      refine HOP.out.mono ?_
      rintro e w15 ⟨sb3, rfl, hn15⟩
      obtain ⟨T15, hsa15, _⟩ := hn15.sa
      have HRO2 := hide (srows_any w15 hsa15 (by show rows.length ≤ 1000; omega))
      have HG15 := hide (HG14.out.on hn15.bel)
      have HB15 := hide (below_on HB14.out (Nat.le_refl _) hn15.bel)
      clear hn15 hsa15 HOP HG14 HB14
      go_wp2_with fail
      refine HRO2.out.mono ?_
      rintro e w16 ⟨v16, rfl, ho16, hb16⟩
      obtain ⟨ya, yc, rfl, hya⟩ := ownP_held ho16
      have HSR := hide (sameRows_held (rowsL rows) ya ga yc gc w16 hya (ownP_has (HG15.out.on hb16).own).1 (by omega))
      have HB16 := hide (below_on HB15.out (Nat.le_refl _) hb16)
      clear ho16 hb16 hya HRO2 HG15 HB15
      go_wp2_with fail
      refine HSR.out.mono ?_
      rintro e w17 ⟨rfl, hb17⟩
      have HB17 := hide (below_on HB1.out (Nat.le_refl _) (below_on HB16.out (Nat.le_refl _) hb17))
      clear hb17
      go_wp2
      go_ret
      exact ⟨rfl, HB17.out⟩
    | false =>
      have hL2 : rowsL rows = L2 := by
        rcases HOR.out with e | e
        · exact absurd (HB1E.out.2 e) (by decide)
        · exact e
      have HS3 := hide (HS2.out _ HB11.out)
      have HL2 := hide hL2
      clear hL2
      go_wp2_with fail
      refine HS3.out.mono ?_
      rintro e w12 ⟨b2, rfl, hb2e, hb12⟩
      have hb2t : b2 = true := hb2e.2 HL2.out
      subst hb2t
      have HBW := hide (below_on HB11.out (Nat.le_refl _) hb12)
      clear hb2e hb12 HS3
      go_wp2_with fail
      refine (HCO.out _ HBW.out).mono ?_
      rintro e w13 ⟨rfl, T13, hsa13, hs13⟩
      have HCK := hide (schk_any w13 hsa13 HY.out.1)
      rw [HKN.out.1, errD_nil] at HCK
      have HG13 := hide ((HG10.out.on HBW.out).step hs13)
      have HB13 := hide ((below_on HB10.out (Nat.le_refl _) HBW.out).trans hs13.bel)
      clear hsa13 hs13 HCO HS2
      go_wp2_with fail
      refine HCK.out.mono ?_
      rintro e w14 ⟨rfl, T14, hsa14, hs14⟩
      have HG14 := hide (HG13.out.step hs14)
      obtain ⟨S14, hk14, _⟩ := hsa14.disk
      have HOP := hide (sopen_good w14 hk14 HKG.out.1)
      rw [HKG.out.2] at HOP
      have HB14 := hide (HB13.out.trans hs14.bel)
      clear hsa14 hs14 hk14 HCK HG13 HB13
      go_wp2_with fail
      refine HOP.out.mono ?_
      rintro e w15 ⟨sb3, rfl, hn15⟩
      obtain ⟨T15, hsa15, _⟩ := hn15.sa
      have HRO2 := hide (srows_any w15 hsa15 (by show rows.length ≤ 1000; omega))
      have HG15 := hide (HG14.out.on hn15.bel)
      have HB15 := hide (below_on HB14.out (Nat.le_refl _) hn15.bel)
      clear hn15 hsa15 HOP HG14 HB14
      go_wp2_with fail
      refine HRO2.out.mono ?_
      rintro e w16 ⟨v16, rfl, ho16, hb16⟩
      obtain ⟨ya, yc, rfl, hya⟩ := ownP_held ho16
      have HSR := hide (sameRows_held (rowsL rows) ya ga yc gc w16 hya (ownP_has (HG15.out.on hb16).own).1 (by omega))
      have HB16 := hide (below_on HB15.out (Nat.le_refl _) hb16)
      clear ho16 hb16 hya HRO2 HG15 HB15
      go_wp2_with fail
      refine HSR.out.mono ?_
      rintro e w17 ⟨rfl, hb17⟩
      have HB17 := hide (below_on HB1.out (Nat.le_refl _) (below_on HB16.out (Nat.le_refl _) hb17))
      clear hb17
      go_wp2
      go_ret
      exact ⟨rfl, HB17.out⟩
end Go.Proofs.Ytkfpfbkdalbjoaa
