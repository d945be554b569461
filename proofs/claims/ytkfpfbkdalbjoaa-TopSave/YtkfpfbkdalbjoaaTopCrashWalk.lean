/-
  What haywaintop.TopCrash returns: true, of whatever came in.
-/
import Derived.Test.YtkfpfbkdalbjoaaStoLaw
import Derived.Test.YtkfpfbkdalbjoaaSame1
import Derived.Test.YtkfpfbkdalbjoaaDskNew
import Derived.Test.YtkfpfbkdalbjoaaRefAppP
import Derived.Deep.CutBlock
import Derived.Deep.DeepCutAuto
namespace Go.Proofs.Ytkfpfbkdalbjoaa
open Go.RowKit Go.Joins
attribute [local go_sem ↓] Go.wp_at_zero Go.wp_at_succ

/-- rows that a value has, apart from some blocks -/
structure RowsV (w : World) (N : Nat) (T : Nat → Prop) (v : Value) (l : List (ByteArray × ByteArray)) : Prop where
  own : ownP w N v l
  ap : ∀ k, v.ownBlock = some k → ¬ T k
theorem RowsV.step {w w' : World} {B N : Nat} {T T' : Nat → Prop} {v : Value} {l : List (ByteArray × ByteArray)} (h : RowsV w N T v l) (hs : StepV w w' B T T') : RowsV w' N T' v l :=
  ⟨own_block h.own fun k e => (hs.far k (World.ownsRow.lt h.own k e).2 (h.ap k e)).1, fun k e => (hs.far k (World.ownsRow.lt h.own k e).2 (h.ap k e)).2⟩
theorem RowsV.on {w w' : World} {N : Nat} {T : Nat → Prop} {v : Value} {l : List (ByteArray × ByteArray)} (h : RowsV w N T v l) (hb : Below w.heap.size w w') : RowsV w' N T v l := ⟨own_on h.own hb, h.ap⟩
theorem RowsV.less {w : World} {N : Nat} {T T' : Nat → Prop} {v : Value} {l : List (ByteArray × ByteArray)} (h : RowsV w N T v l) (hs : ∀ k, T' k → T k) : RowsV w N T' v l := ⟨h.own, fun k e e2 => h.ap k e (hs k e2)⟩
theorem RowsV.form {w : World} {N : Nat} {T : Nat → Prop} {v : Value} {l : List (ByteArray × ByteArray)} (h : RowsV w N T v l) : ∃ ao cap, v = .slice ao l.length cap ∧ heldSp w ao l ∧ (ao = none → cap = 0 ∧ l = []) := by
  rcases own_form h.own with ⟨e, e2⟩ | ⟨g, cap, e, _⟩
  · exact ⟨none, 0, by rw [e, e2], .inl (List.length_eq_zero_iff.1 e2), fun _ => ⟨rfl, List.length_eq_zero_iff.1 e2⟩⟩
  · obtain ⟨ao, cap', e', hh⟩ := ownP_held h.own
    rw [e] at e'
    cases e'
    exact ⟨_, _, e, hh, fun e => by cases e⟩
/-- while deeds are committed -/
structure TCI (w wr : World) (sb db : Nat) (v : Value) : Prop where
  ex : ∃ T x, SA wr w.heap.size sb db T x ∧ SGood x ∧ x.d.now.length = 70 ∧ RowsV wr w.heap.size T v (rowsL x.rows)
  bel : Below w.heap.size w wr
/-- behind them -/
structure TCE (w wr : World) (db : Nat) (v v2 : Value) : Prop where
  ex : ∃ S s l l2, DK wr w.heap.size db S s ∧ RowsV wr w.heap.size S v l ∧ RowsV wr w.heap.size S v2 l2 ∧ ∀ k, (restartD s k).now.length = 70 ∧ ∃ rows, (rowsL rows = l ∨ rowsL rows = l2) ∧ RGood (restartD s k) rows
  bel : Below w.heap.size w wr
theorem TCI.fine {w wr : World} {sb db : Nat} {v : Value} (h : TCI w wr sb db v) : TCE w wr db v v := by
  obtain ⟨T, x, h1, h2, h3, h4⟩ := h.ex
  obtain ⟨S, k1, k2⟩ := h1.disk
  refine ⟨⟨S, x.d, _, _, k1, h4.less k2, h4.less k2, fun k => ?_⟩, h.bel⟩
  obtain ⟨r1, r2⟩ := DRest.restart h2 k
  exact ⟨r2.trans h3, x.rows, .inl rfl, _, _, _, r1⟩
theorem light_of {l : List Dd} (h : lightDeeds l 20 = true) : l.length ≤ 20 ∧ ∀ d ∈ l, d.chs.length ≤ 14 ∧ ∀ c ∈ d.chs, c.key.size ≤ 1000 ∧ c.val.size ≤ 1000 := by
  simp only [lightDeeds, Bool.and_eq_true, List.all_eq_true, lightChgs, decide_eq_true_eq, lightChg] at h
  refine ⟨h.1, fun d hd => ?_⟩
  obtain ⟨q1, q2⟩ := h.2 d hd
  exact ⟨q1, fun c hc => by have := q2 c hc; omega⟩
theorem apart_of {w : World} {T : Nat → Prop} {ao : Option Addr} {l : List Chg} (h : heldCh w ao l) (hT : ∀ k, T k → w.heap.size ≤ k) : apart T ao l := by
  rcases h with h | ⟨b, off, e, hc⟩
  · exact .inl h
  · by_cases hl : l = []
    · exact .inl hl
    · have hb : b < w.heap.size := World.block_lt_of_cell? _ _ (hc 0 (List.length_pos_iff.2 hl)).1
      exact .inr fun a e2 e3 => by
        subst e
        cases e2
        have := hT _ e3
        exact absurd hb (by show ¬ b < w.heap.size; have h2 : w.heap.size ≤ b := this; omega)
set_option maxRecDepth 8000 in
set_option maxHeartbeats 16000000 in
theorem topCrash_walk (l : List Dd) (da : Option Addr) (dc : Nat) (fuse key : Int) (w : World) (hd : heldDs w da l) (hfu : fuse ≤ 9223372036854775807) (hfu0 : -9223372036854775808 ≤ fuse) :
    Calls Try.prog 7 #[.slice da l.length dc, .int .i64 fuse, .int .u64 key] w fun e w' => e = .returned (.bool true) ∧ Below w.heap.size w w' := by
  have HD0 := hide hd
  clear hd
  have nn := nil_neq_nil
  have ne := nil_eql_nilN
  go_enter Try.func7, Try.ntmps7
  go_wp2_with fail
  refine (kept_any w).mono ?_
  rintro e w1 ⟨rfl, hb1⟩
  have HB1 := hide hb1
  have HD := hide (heldDs_on hb1 HD0.out)
  clear hb1 HD0
  go_wp2_with fail
  refine (stored_good 70 w1 (by decide) (by decide)).mono ?_
  rintro e w2 ⟨db, sb, rfl, hst⟩
  obtain ⟨T, x, hsa, hg, hr, hl, hn, _⟩ := hst.ex
  have HB2 := hide hst.bel
  have HSA := hide hsa
  have HGD := hide hg
  have HRN := hide (And.intro hr hn)
  clear hst hsa hg hr hl hn
  go_wp2_with fail
  refine (lightDeeds_any l da dc 20 _ (heldDs_on HB2.out HD.out) (by omega)).mono ?_
  rintro e w4 ⟨rfl, rfl⟩
  cases hlD : lightDeeds l 20
  · go_wp2
    go_ret
    exact ⟨rfl, below_on HB1.out (Nat.le_refl _) HB2.out⟩
  obtain ⟨hll, hli⟩ := light_of hlD
  have HLI := hide hli
  clear hli hlD
  have HAR : Hid (∀ n : Int, n = min (max fuse (-1)) 400 → Calls Try.prog 20 #[.pointer (some ⟨db, 0, none⟩), .int .i64 n] w4 fun e w' => e = .returned (.tuple #[]) ∧ TCI w1 w' sb db (.slice none 0 0)) := fun n hn => by
    obtain ⟨lb, S, v, h1, hT⟩ := HSA.out
    refine (darm_any n w4 h1.lk.dk (by omega) (by omega)).mono ?_
    rintro e w' ⟨rfl, S2, k1, k2⟩
    refine ⟨rfl, ⟨inS sb lb v S2, { x with d := armD x.d n }, ⟨lb, S2, v, h1.step k1 k2 rfl, rfl⟩, DRest.arm HGD.out n, HRN.out.2, ?_⟩, HB2.out.trans k2.bel⟩
    show RowsV w' w1.heap.size _ _ (rowsL x.rows)
    rw [HRN.out.1]
    exact ⟨World.ownsRow_nil _ _ _ _, fun k e => by cases e⟩
  go_upto_block 0 with (first
    | (go_at_call 20; refine (HAR.out _ rfl).mono ?_; rintro e w5 ⟨rfl, ha5⟩; have HT0 := hide ha5; clear ha5)
    | fail)
  clear HAR HSA HGD HRN HB2
  go_cut [10, 11] (fun v v2 wx => TCE w1 wx db v v2)
  case first =>
    go_wp2_with fail
    go_loopw [10, 11, 12] (fun v v2 iv wr => ∃ k : Nat, k ≤ l.length ∧ iv = .int .i64 (k : Int) ∧ v2 = v ∧ TCI w1 wr sb db v) (fun _ _ iv _ => l.length - (intOf iv).toNat)
    case atStart => exact ⟨0, Nat.zero_le _, rfl, rfl, HT0.out⟩
    case round =>
      obtain ⟨k, hk, rfl, rfl, hT⟩ := hrel
      clear HT0
      by_cases hlt : k < l.length
      · have hlt' : (k : Int) < (l.length : Int) := by omega
        have hk0 : (0 : Int) ≤ (k : Int) := by omega
        rcases HD.out with e | ⟨b, off, e, hds⟩
        · rw [e] at hlt; simp at hlt
        subst e
        obtain ⟨cx, hdd⟩ := hds k hlt
        obtain ⟨hx1, hx2⟩ := HLI.out _ (List.getElem_mem hlt)
        clear hds
        generalize l[k] = dd at *
        obtain ⟨TX, X, hsx, hgx, hnx, hvx⟩ := hT.ex
        have HN10 := hide (comF_not X dd.chs)
        by_cases hm : k % 5 = 4
        · have hm' : ((k : Int) % 5 == 4) = true := by have : (k : Int) % 5 = 4 := by omega
                                                       rw [this]; rfl
          have HCP := hide (schk_any wr hsx hgx)
          have HCG := hide hgx.chk
          have HVR := hide hvx
          have HBR := hide hT.bel
          have HNR := hide hnx
          clear hsx hgx hvx hnx hT hm HN10
          have HRR : Hid ((chkR X).2.rows = X.rows) := HCG.out.2.1
          generalize hce : chkR X = C at *
          rcases HCG.out.2.2 with ⟨r1, r2, r3⟩ | ⟨r1, r2⟩
          · rw [r1, errD_nil] at HCP
            have HNU := fun W' => hide (number_any 0 W')
            rw [errD_nil] at HNU
            have HGC := hide r2
            clear r1 r2 r3
            go_wp2_with fail
            refine HCP.out.mono ?_
            rintro e W ⟨rfl, TY, hsy, hsty⟩
            have HSX := hide hsy
            have HBX := hide (HBR.out.trans hsty.bel)
            have hvy := HVR.out.step hsty
            rw [← HRR.out] at hvy
            have HVX := hide hvy
            have HNX : Hid (C.2.d.now.length = 70) := HCG.out.1.trans HNR.out
            have HGX := hide HGC.out
            clear hsy hsty hvy HCP HVR HBR HNR HCG hce HGC HRR
            go_wp2_with fail
            refine ((HNU _).out).mono ?_
            rintro e w9 ⟨rfl, hw9⟩
            rw [hw9]
            clear HNU hw9 w9
            generalize C.2 = X at *
            have HN10 := hide (comF_not X dd.chs)
            obtain ⟨ra, rc, rfl, hheld, hnil⟩ := HVX.out.form
            have hzW := HBX.out.size
            have hrl : (rowsL X.rows).length ≤ 40 := by unfold rowsL; rw [List.length_map]; exact DRest.few HGX.out
            have cW := cell_on HBX.out cx
            have HAPP := hide (rapplied_any (rowsL X.rows) ra rc dd.chs dd.ao dd.cap W hheld hnil (heldCh_on HBX.out hdd) (by omega) (by omega))
            clear hheld hnil
            go_wp2_with fail
            refine HAPP.out.mono ?_
            rintro e w5 ⟨v5, rfl, ho5, hb5⟩
            have hTY : ∀ k, TY k → w1.heap.size ≤ k ∧ k < W.heap.size := fun k e => ⟨HSX.out.low e, HSX.out.lt e⟩
            have HV5 : Hid (RowsV w5 w1.heap.size TY v5 (rowsL (behindL X.rows dd.chs))) := by
              rw [behind_apply (DRest.fine HGX.out)]
              exact ⟨ownsRow_le ho5 hzW, fun k e e2 => by have h1 := (World.ownsRow.lt ho5 k e).1; have h2 := (hTY k e2).2; omega⟩
            have HW5 := hide (HVX.out.on hb5)
            have HB5 := hide (below_on HBX.out (Nat.le_refl _) hb5)
            have HCO := hide (scommit_any dd.chs dd.ao dd.cap w5 (HSX.out.on hb5) HGX.out (heldCh_on HB5.out hdd) (apart_of hdd fun k e => (hTY k e).1) (by omega) hx2)
            have cW := cell_on HB5.out cx
            have hcm := HGX.out.commit dd.chs
            have HFA := hide hcm
            clear ho5 hb5 hTY HAPP HVX HSX hcm
            generalize comR X dd.chs = R at *
            generalize comF X dd.chs = cf at *
            rcases HFA.out.2 with ⟨r1, r2, r3, r4, _⟩ | ⟨r1, r2, r3⟩ | ⟨r1, r2, r3⟩
            · rw [r1, errD_nil] at HCO
              have HR := hide (And.intro r3 r4)
              clear r1 r2 r3 r4
              go_wp2_with fail
              refine HCO.out.mono ?_
              rintro e w6 ⟨rfl, T6, hsa6, hs6⟩
              have HT6 : Hid (TCI w1 w6 sb db v5) := ⟨⟨T6, R.2, hsa6, HR.out.1, HFA.out.1.trans HNX.out, by rw [HR.out.2]; exact HV5.out.step hs6⟩, HB5.out.trans hs6.bel⟩
              clear hsa6 hs6
              go_wp2_with fail
              exact ⟨⟨k + 1, by omega, by go_num, rfl, HT6.out⟩, by simp [intOf]; omega⟩
            · have HER : Hid (errV R.1 = .iface 82 (.int .i64 R.1)) := errD_pos (by rw [r1]; exact r2)
              rw [HER.out] at HCO
              have hn10 : R.1 ≠ 10 := by rw [r1]; exact HN10.out
              have h10 : ((R.1 : Int) == 10) = false := beq_eq_false_iff_ne.2 (by omega)
              have HNU := fun W' => hide (number_any R.1 W')
              rw [HER.out] at HNU
              have HR := hide r3
              clear r1 r2 r3 hn10
              go_wp2_with fail
              refine HCO.out.mono ?_
              rintro e w6 ⟨rfl, T6, hsa6, hs6⟩
              rw [HR.out] at hsa6
              have HT6 : Hid (TCI w1 w6 sb db (.slice ra (rowsL X.rows).length rc)) := ⟨⟨T6, X, hsa6, HGX.out, HNX.out, HW5.out.step hs6⟩, HB5.out.trans hs6.bel⟩
              clear hsa6 hs6
              go_wp2_with fail
              refine ((HNU _).out).mono ?_
              rintro e w7 ⟨rfl, rfl⟩
              go_wp2_with fail
              exact ⟨⟨k + 1, by omega, by go_num, rfl, HT6.out⟩, by simp [intOf]; omega⟩
            · have HER : Hid (errV R.1 = .iface 82 (.int .i64 R.1)) := errD_pos (by rw [r1]; decide)
              rw [HER.out] at HCO
              have HNU := fun W' => hide (number_any R.1 W')
              rw [HER.out] at HNU
              have h10 : ((R.1 : Int) == 10) = true := by rw [r1]; rfl
              have HR := hide r3
              clear r1 r2 r3
              go_wp2_with fail
              refine HCO.out.mono ?_
              rintro e w6 ⟨rfl, T6, hsa6, hs6⟩
              have HT6 : Hid (TCE w1 w6 db (.slice ra (rowsL X.rows).length rc) v5) := by
                obtain ⟨S6, k6, k7⟩ := hsa6.disk
                refine ⟨⟨S6, R.2.d, _, _, k6, (HW5.out.step hs6).less k7, (HV5.out.step hs6).less k7, fun k => ?_⟩, HB5.out.trans hs6.bel⟩
                obtain ⟨q1, rows, q2, q3⟩ := HR.out.2 k
                exact ⟨q1.trans HNX.out, rows, q2.elim (fun e => .inl (by rw [e])) (fun e => .inr (by rw [e])), q3⟩
              clear hsa6 hs6
              go_wp2_with fail
              refine ((HNU _).out).mono ?_
              rintro e w7 ⟨rfl, rfl⟩
              go_wp2_with fail
              go_meet
              exact HT6.out
          · have HER : Hid (errV C.1 = .iface 82 (.int .i64 C.1)) := errD_pos (by rw [r1]; decide)
            rw [HER.out] at HCP
            have HNU := fun W' => hide (number_any C.1 W')
            rw [HER.out] at HNU
            have h10 : ((C.1 : Int) == 10) = true := by rw [r1]; rfl
            have HR := hide r2
            clear r1 r2
            go_wp2_with fail
            refine HCP.out.mono ?_
            rintro e W ⟨rfl, TY, hsy, hsty⟩
            have HT6 : Hid (TCE w1 W db u11 u11) := by
              obtain ⟨S6, k6, k7⟩ := hsy.disk
              have hvy := (HVR.out.step hsty).less k7
              refine ⟨⟨S6, C.2.d, _, _, k6, hvy, hvy, fun k => ?_⟩, HBR.out.trans hsty.bel⟩
              obtain ⟨q1, rows, q2, q3⟩ := HR.out.2 k
              exact ⟨q1.trans HNR.out, rows, .inl (by rw [q2]), q3⟩
            clear hsy hsty
            go_wp2_with fail
            refine ((HNU _).out).mono ?_
            rintro e w7 ⟨rfl, rfl⟩
            go_wp2_with fail
            go_meet
            exact HT6.out
        · have hm' : ((k : Int) % 5 == 4) = false := beq_eq_false_iff_ne.2 (by omega)
          have HSX := hide hsx
          have HGX := hide hgx
          have HVX := hide hvx
          have HBX := hide hT.bel
          have HNX := hide hnx
          clear hsx hgx hvx hnx hT hm
          generalize hWe : wr = W at *
          obtain ⟨ra, rc, rfl, hheld, hnil⟩ := HVX.out.form
          have hzW := HBX.out.size
          have hrl : (rowsL X.rows).length ≤ 40 := by unfold rowsL; rw [List.length_map]; exact DRest.few HGX.out
          have cW := cell_on HBX.out cx
          have HAPP := hide (rapplied_any (rowsL X.rows) ra rc dd.chs dd.ao dd.cap W hheld hnil (heldCh_on HBX.out hdd) (by omega) (by omega))
          clear hheld hnil
          go_wp2_with fail
          refine HAPP.out.mono ?_
          rintro e w5 ⟨v5, rfl, ho5, hb5⟩
          have hTX : ∀ k, TX k → w1.heap.size ≤ k ∧ k < W.heap.size := fun k e => ⟨HSX.out.low e, HSX.out.lt e⟩
          have HV5 : Hid (RowsV w5 w1.heap.size TX v5 (rowsL (behindL X.rows dd.chs))) := by
            rw [behind_apply (DRest.fine HGX.out)]
            exact ⟨ownsRow_le ho5 hzW, fun k e e2 => by have h1 := (World.ownsRow.lt ho5 k e).1; have h2 := (hTX k e2).2; omega⟩
          have HW5 := hide (HVX.out.on hb5)
          have HB5 := hide (below_on HBX.out (Nat.le_refl _) hb5)
          have HCO := hide (scommit_any dd.chs dd.ao dd.cap w5 (HSX.out.on hb5) HGX.out (heldCh_on HB5.out hdd) (apart_of hdd fun k e => (hTX k e).1) (by omega) hx2)
          have cW := cell_on HB5.out cx
          have hcm := HGX.out.commit dd.chs
          have HFA := hide hcm
          clear ho5 hb5 hTX HAPP HVX HSX hcm
          generalize comR X dd.chs = R at *
          generalize comF X dd.chs = cf at *
          rcases HFA.out.2 with ⟨r1, r2, r3, r4, _⟩ | ⟨r1, r2, r3⟩ | ⟨r1, r2, r3⟩
          · rw [r1, errD_nil] at HCO
            have HR := hide (And.intro r3 r4)
            clear r1 r2 r3 r4
            go_wp2_with fail
            refine HCO.out.mono ?_
            rintro e w6 ⟨rfl, T6, hsa6, hs6⟩
            have HT6 : Hid (TCI w1 w6 sb db v5) := ⟨⟨T6, R.2, hsa6, HR.out.1, HFA.out.1.trans HNX.out, by rw [HR.out.2]; exact HV5.out.step hs6⟩, HB5.out.trans hs6.bel⟩
            clear hsa6 hs6
            go_wp2_with fail
            exact ⟨⟨k + 1, by omega, by go_num, rfl, HT6.out⟩, by simp [intOf]; omega⟩
          · have HER : Hid (errV R.1 = .iface 82 (.int .i64 R.1)) := errD_pos (by rw [r1]; exact r2)
            rw [HER.out] at HCO
            have hn10 : R.1 ≠ 10 := by rw [r1]; exact HN10.out
            have h10 : ((R.1 : Int) == 10) = false := beq_eq_false_iff_ne.2 (by omega)
            have HNU := fun W' => hide (number_any R.1 W')
            rw [HER.out] at HNU
            have HR := hide r3
            clear r1 r2 r3 hn10
            go_wp2_with fail
            refine HCO.out.mono ?_
            rintro e w6 ⟨rfl, T6, hsa6, hs6⟩
            rw [HR.out] at hsa6
            have HT6 : Hid (TCI w1 w6 sb db (.slice ra (rowsL X.rows).length rc)) := ⟨⟨T6, X, hsa6, HGX.out, HNX.out, HW5.out.step hs6⟩, HB5.out.trans hs6.bel⟩
            clear hsa6 hs6
            go_wp2_with fail
            refine ((HNU _).out).mono ?_
            rintro e w7 ⟨rfl, rfl⟩
            go_wp2_with fail
            exact ⟨⟨k + 1, by omega, by go_num, rfl, HT6.out⟩, by simp [intOf]; omega⟩
          · have HER : Hid (errV R.1 = .iface 82 (.int .i64 R.1)) := errD_pos (by rw [r1]; decide)
            rw [HER.out] at HCO
            have HNU := fun W' => hide (number_any R.1 W')
            rw [HER.out] at HNU
            have h10 : ((R.1 : Int) == 10) = true := by rw [r1]; rfl
            have HR := hide r3
            clear r1 r2 r3
            go_wp2_with fail
            refine HCO.out.mono ?_
            rintro e w6 ⟨rfl, T6, hsa6, hs6⟩
            have HT6 : Hid (TCE w1 w6 db (.slice ra (rowsL X.rows).length rc) v5) := by
              obtain ⟨S6, k6, k7⟩ := hsa6.disk
              refine ⟨⟨S6, R.2.d, _, _, k6, (HW5.out.step hs6).less k7, (HV5.out.step hs6).less k7, fun k => ?_⟩, HB5.out.trans hs6.bel⟩
              obtain ⟨q1, rows, q2, q3⟩ := HR.out.2 k
              exact ⟨q1.trans HNX.out, rows, q2.elim (fun e => .inl (by rw [e])) (fun e => .inr (by rw [e])), q3⟩
            clear hsa6 hs6
            go_wp2_with fail
            refine ((HNU _).out).mono ?_
            rintro e w7 ⟨rfl, rfl⟩
            go_wp2_with fail
            go_meet
            exact HT6.out
      · have ek : k = l.length := by omega
        subst ek
        have hlt' : ¬ (l.length : Int) < (l.length : Int) := by omega
        have HT6 := hide hT.fine
        clear hT
        go_wp2_with fail
        go_meet
        exact HT6.out
  case rest =>
    obtain ⟨S, s, L1, L2, hk, hv1, hv2, hres⟩ := hcut.ex
    have HBC := hide hcut.bel
    obtain ⟨h70, rows, hor, hrg⟩ := hres key
    obtain ⟨ar, fi, us, hrest⟩ := hrg
    have HRS := hide (drestart_any key wc hk)
    have HLF : Hid ((restartD s key).left = -1) := rfl
    generalize restartD s key = s9 at *
    have HOR := hide hor
    have HRE := hide hrest
    have HV1 := hide hv1
    have HV2 := hide hv2
    have H70 := hide h70
    clear hk hres hor hrest hv1 hv2 hcut h70
    go_wp2_with fail
    refine HRS.out.mono ?_
    rintro e w8 ⟨rfl, S8, hk8, hs8⟩
    have HV18 := hide (HV1.out.step hs8)
    have HV28 := hide (HV2.out.step hs8)
    have HB8 := hide (HBC.out.trans hs8.bel)
    have HOP := hide (sopen_good w8 hk8 HRE.out)
    clear hk8 hs8 HV1 HV2 HBC HRS
    go_wp2_with fail
    refine HOP.out.mono ?_
    rintro e w9 ⟨sb2, rfl, hn9⟩
    obtain ⟨T9, hsa9, hT9⟩ := hn9.sa
    have HB9 := hide (below_on HB8.out (Nat.le_refl _) hn9.bel)
    have HV19 := hide (HV18.out.on hn9.bel)
    have HV29 := hide (HV28.out.on hn9.bel)
    have HGX : Hid (SGood ⟨s9, ar, fi, us, rows⟩) := HRE.out
    have HSX := hide hsa9
    clear hn9 hsa9 HOP HV18 HV28
    have hfew := DRest.few HRE.out
    have HRO := hide (srows_any w9 HSX.out (by show rows.length ≤ 1000; omega))
    go_wp2_with fail
    refine HRO.out.mono ?_
    rintro e w10 ⟨v10, rfl, ho10, hb10⟩
    have hrl : (rowsL rows).length ≤ 40 := by unfold rowsL; rw [List.length_map]; exact hfew
    have HSX10 := hide (HSX.out.on hb10)
    have HB10 := hide (below_on HB9.out (Nat.le_refl _) hb10)
    have HG10 : Hid (RowsV w10 w9.heap.size T9 v10 (rowsL rows)) := ⟨ho10, fun k e e2 => by have h1 := (World.ownsRow.lt ho10 k e).1; have h2 := HSX.out.lt e2; omega⟩
    have HV1a := hide (HV19.out.on hb10)
    have HV2a := hide (HV29.out.on hb10)
    clear ho10 hb10 HRO HV19 HV29 HSX
    obtain ⟨ga, gc, rfl, hga, _⟩ := HG10.out.form
    obtain ⟨fa, fc, rfl, hfa, _⟩ := HV1a.out.form
    obtain ⟨ea, ec, rfl, hea, _⟩ := HV2a.out.form
    have HS1 := hide (sameRows_any (rowsL rows) L1 ga fa gc fc w10 hga hfa (by omega))
    have HS2 : Hid (∀ W, Below w10.heap.size w10 W → Calls Try.prog 38 #[.slice ga (rowsL rows).length gc, .slice ea L2.length ec] W fun e w' => ∃ b, e = .returned (.bool b) ∧ (b = true ↔ rowsL rows = L2) ∧ Below W.heap.size W w') := fun W hb => sameRows_any (rowsL rows) L2 ga ea gc ec W (heldSp_on hb hga) (heldSp_on hb hea) (by omega)
    -- the rest: whatever the first answer is
    have HNV := hide (SGood.never HGX.out HLF.out [])
    have hcf : comF ⟨s9, ar, fi, us, rows⟩ [] = 0 := by
      have h54 := DRest.n54 HRE.out
      have hb : behindL rows [] = rows := fine_stay (DRest.fine HRE.out)
      unfold comF
      rw [if_neg (by show ¬ (0 ≠ 0); decide), if_neg]
      show ¬ (40 < (behindL rows []).length ∨ s9.now.length - 50 < 0 + 1)
      rw [hb]
      omega
    have HC2 := (SGood.commit HGX.out []).2
    rw [hcf] at HNV
    have HY : Hid (SGood (comR ⟨s9, ar, fi, us, rows⟩ []).2 ∧ (comR ⟨s9, ar, fi, us, rows⟩ []).2.rows = rows) := by
      rcases HC2 with ⟨_, _, h3, h4, _⟩ | ⟨_, h2, _⟩ | ⟨h1, _⟩
      · exact ⟨h3, h4.trans (fine_stay (DRest.fine HRE.out))⟩
      · exact absurd hcf h2
      · rw [HNV.out.1] at h1; cases h1
    clear HC2 hcf
    have HCO : Hid (∀ W, Below w10.heap.size w10 W → Calls Try.prog 36 #[.pointer (some ⟨sb2, 0, none⟩), .slice none 0 0] W fun e w' => e = .returned .nilIface ∧ ActS W w' w1.heap.size sb2 db T9 (comR ⟨s9, ar, fi, us, rows⟩ []).2) := fun W hb => by
      have h1 := scommit_any [] none 0 W (HSX10.out.on hb) HGX.out (.inl rfl) (.inl rfl) (by decide) (fun c hc => absurd hc List.not_mem_nil)
      rw [HNV.out.1] at h1
      exact h1
    have HNL := hide HNV.out.2
    generalize (comR ⟨s9, ar, fi, us, rows⟩ []).2 = Y at *
    have HKN := hide (SGood.chk_never HY.out.1 HNL.out)
    have HKG : Hid (SGood (chkR Y).2 ∧ (chkR Y).2.rows = rows) := by
      have hc := SGood.chk HY.out.1
      rcases hc.2.2 with ⟨_, h2, _⟩ | ⟨h1, _⟩
      · exact ⟨h2, hc.2.1.trans HY.out.2⟩
      · rw [HKN.out.1] at h1; cases h1
    clear HNV
    go_wp2_with fail
    refine HS1.out.mono ?_
    rintro e w11 ⟨b1, rfl, hb1e, hb11⟩
    have HB1E := hide hb1e
    have HB11 := hide hb11
    clear hb1e hb11 HS1
    cases b1 with
    | true =>
      have HBW := hide HB11.out
      go_wp2_with fail
      refine (HCO.out _ HBW.out).mono ?_
      rintro e w13 ⟨rfl, T13, hsa13, hs13⟩
      have HCK := hide (schk_any w13 hsa13 HY.out.1)
      rw [HKN.out.1, errD_nil] at HCK
      have HG13 := hide ((HG10.out.on HBW.out).step hs13)
      have HB13 := hide ((below_on HB10.out (Nat.le_refl _) HBW.out).trans hs13.bel)
      clear hsa13 hs13 HCO HS2
      go_wp2_with fail
      refine HCK.out.mono ?_
      rintro e w14 ⟨rfl, T14, hsa14, hs14⟩
      have HG14 := hide (HG13.out.step hs14)
      obtain ⟨S14, hk14, _⟩ := hsa14.disk
      have HOP := hide (sopen_good w14 hk14 HKG.out.1)
      rw [HKG.out.2] at HOP
      have HB14 := hide (HB13.out.trans hs14.bel)
      clear hsa14 hs14 hk14 HCK HG13 HB13
      go_wp2_with fail
      refine HOP.out.mono ?_
      rintro e w15 ⟨sb3, rfl, hn15⟩
      obtain ⟨T15, hsa15, _⟩ := hn15.sa
      have HRO2 := hide (srows_any w15 hsa15 (by show rows.length ≤ 1000; omega))
      have HG15 := hide (HG14.out.on hn15.bel)
      have HB15 := hide (below_on HB14.out (Nat.le_refl _) hn15.bel)
      clear hn15 hsa15 HOP HG14 HB14
      go_wp2_with fail
      refine HRO2.out.mono ?_
      rintro e w16 ⟨v16, rfl, ho16, hb16⟩
      obtain ⟨ya, yc, rfl, hya⟩ := ownP_held ho16
      have HSR := hide (sameRows_held (rowsL rows) ya ga yc gc w16 hya (ownP_has (HG15.out.on hb16).own).1 (by omega))
      have HB16 := hide (below_on HB15.out (Nat.le_refl _) hb16)
      clear ho16 hb16 hya HRO2 HG15 HB15
      go_wp2_with fail
      refine HSR.out.mono ?_
      rintro e w17 ⟨rfl, hb17⟩
      have HB17 := hide (below_on HB1.out (Nat.le_refl _) (below_on HB16.out (Nat.le_refl _) hb17))
      clear hb17
      go_wp2
      go_ret
      exact ⟨rfl, HB17.out⟩
    | false =>
      have hL2 : rowsL rows = L2 := by
        rcases HOR.out with e | e
        · exact absurd (HB1E.out.2 e) (by decide)
        · exact e
      have HS3 := hide (HS2.out _ HB11.out)
      have HL2 := hide hL2
      clear hL2
      go_wp2_with fail
      refine HS3.out.mono ?_
      rintro e w12 ⟨b2, rfl, hb2e, hb12⟩
      have hb2t : b2 = true := hb2e.2 HL2.out
      subst hb2t
      have HBW := hide (below_on HB11.out (Nat.le_refl _) hb12)
      clear hb2e hb12 HS3
      go_wp2_with fail
      refine (HCO.out _ HBW.out).mono ?_
      rintro e w13 ⟨rfl, T13, hsa13, hs13⟩
      have HCK := hide (schk_any w13 hsa13 HY.out.1)
      rw [HKN.out.1, errD_nil] at HCK
      have HG13 := hide ((HG10.out.on HBW.out).step hs13)
      have HB13 := hide ((below_on HB10.out (Nat.le_refl _) HBW.out).trans hs13.bel)
      clear hsa13 hs13 HCO HS2
      go_wp2_with fail
      refine HCK.out.mono ?_
      rintro e w14 ⟨rfl, T14, hsa14, hs14⟩
      have HG14 := hide (HG13.out.step hs14)
      obtain ⟨S14, hk14, _⟩ := hsa14.disk
      have HOP := hide (sopen_good w14 hk14 HKG.out.1)
      rw [HKG.out.2] at HOP
      have HB14 := hide (HB13.out.trans hs14.bel)
      clear hsa14 hs14 hk14 HCK HG13 HB13
      go_wp2_with fail
      refine HOP.out.mono ?_
      rintro e w15 ⟨sb3, rfl, hn15⟩
      obtain ⟨T15, hsa15, _⟩ := hn15.sa
      have HRO2 := hide (srows_any w15 hsa15 (by show rows.length ≤ 1000; omega))
      have HG15 := hide (HG14.out.on hn15.bel)
      have HB15 := hide (below_on HB14.out (Nat.le_refl _) hn15.bel)
      clear hn15 hsa15 HOP HG14 HB14
      go_wp2_with fail
      refine HRO2.out.mono ?_
      rintro e w16 ⟨v16, rfl, ho16, hb16⟩
      obtain ⟨ya, yc, rfl, hya⟩ := ownP_held ho16
      have HSR := hide (sameRows_held (rowsL rows) ya ga yc gc w16 hya (ownP_has (HG15.out.on hb16).own).1 (by omega))
      have HB16 := hide (below_on HB15.out (Nat.le_refl _) hb16)
      clear ho16 hb16 hya HRO2 HG15 HB15
      go_wp2_with fail
      refine HSR.out.mono ?_
      rintro e w17 ⟨rfl, hb17⟩
      have HB17 := hide (below_on HB1.out (Nat.le_refl _) (below_on HB16.out (Nat.le_refl _) hb17))
      clear hb17
      go_wp2
      go_ret
      exact ⟨rfl, HB17.out⟩
end Go.Proofs.Ytkfpfbkdalbjoaa

/-
  What haywaintop.TopSave returns: true, of whatever came in.
-/
namespace Go.Proofs.Ytkfpfbkdalbjoaa
open Go.RowKit Go.Joins
attribute [local go_sem ↓] Go.wp_at_zero Go.wp_at_succ

/-- yeses and noes that a slice holds -/
def boolsAt (w : World) (ao : Option Addr) (l : List Bool) : Prop := l = [] ∨ ∃ b off, ao = some ⟨b, off, none⟩ ∧ ∀ i (h : i < l.length), w.cell? ⟨b, off + i, none⟩ = some (.bool l[i])
theorem boolsAt_on {w w' : World} {ao : Option Addr} {l : List Bool} (hb : Below w.heap.size w w') (h : boolsAt w ao l) : boolsAt w' ao l := by
  rcases h with h | ⟨b, off, e, hc⟩
  · exact .inl h
  · exact .inr ⟨b, off, e, fun i hi => cell_on hb (hc i hi)⟩
/-- two stores with the same rows, on two disks that were never armed -/
structure TSI (w wr : World) (sb db sb2 db2 : Nat) : Prop where
  ex : ∃ N T T2 x x2, SA wr w.heap.size sb db T x ∧ SA wr N sb2 db2 T2 x2 ∧ (∀ k, T k → ¬ T2 k) ∧ SGood x ∧ SGood x2 ∧ x.d.now.length = 70 ∧ x2.d.now.length = 200 ∧ x.d.left = -1 ∧ x2.d.left = -1 ∧ x2.rows = x.rows ∧ w.heap.size ≤ N
  bel : Below w.heap.size w wr
theorem comF_same {x x2 : SSt} {l : List Chg} (hr : x2.rows = x.rows) (h1 : x.d.now.length = 70) (h2 : x2.d.now.length = 200) : comF x2 l = comF x l := by
  unfold comF
  rw [hr, h1, h2]
  by_cases hd : deedF l = 0
  · have hn : ¬ deedF l ≠ 0 := fun e => e hd
    rw [if_neg hn, if_neg hn]
    have hl : l.length ≤ 12 := by
      unfold deedF at hd
      split at hd
      · cases hd
      · omega
    by_cases h40 : 40 < (behindL x.rows l).length
    · have p1 : 40 < (behindL x.rows l).length ∨ 200 - 50 < l.length + 1 := .inl h40
      have p2 : 40 < (behindL x.rows l).length ∨ 70 - 50 < l.length + 1 := .inl h40
      rw [if_pos p1, if_pos p2]
    · have p1 : ¬ (40 < (behindL x.rows l).length ∨ 200 - 50 < l.length + 1) := by omega
      have p2 : ¬ (40 < (behindL x.rows l).length ∨ 70 - 50 < l.length + 1) := by omega
      rw [if_neg p1, if_neg p2]
  · rw [if_pos hd, if_pos hd]
/-- a store from one act to the next, that was never armed -/
theorem never_commit {x : SSt} (h : SGood x) (hl : x.d.left = -1) (l : List Chg) : (comR x l).1 = comF x l ∧ (comR x l).2.d.left = -1 ∧ SGood (comR x l).2 ∧ (comR x l).2.d.now.length = x.d.now.length ∧ (comR x l).2.rows = (if comF x l = 0 then behindL x.rows l else x.rows) := by
  obtain ⟨n1, n2⟩ := h.never hl l
  obtain ⟨c1, c2⟩ := h.commit l
  refine ⟨n1, n2, ?_, c1, ?_⟩
  · rcases c2 with ⟨_, _, h3, _⟩ | ⟨_, _, h3⟩ | ⟨h1, h2, _⟩
    · exact h3
    · rw [h3]; exact h
    · rw [n1, h2] at h1; cases h1
  · rcases c2 with ⟨_, h2, _, h4, _⟩ | ⟨_, h2, h3⟩ | ⟨h1, h2, _⟩
    · rw [h4, if_pos h2]
    · rw [h3, if_neg h2]
    · rw [n1, h2] at h1; cases h1
theorem never_chk {x : SSt} (h : SGood x) (hl : x.d.left = -1) : (chkR x).1 = 0 ∧ (chkR x).2.d.left = -1 ∧ SGood (chkR x).2 ∧ (chkR x).2.d.now.length = x.d.now.length ∧ (chkR x).2.rows = x.rows := by
  obtain ⟨n1, n2⟩ := h.chk_never hl
  obtain ⟨c1, c2, c3⟩ := h.chk
  refine ⟨n1, n2, ?_, c1, c2⟩
  rcases c3 with ⟨_, h3, _⟩ | ⟨h1, _⟩
  · exact h3
  · rw [n1] at h1; cases h1
theorem TSI.on {w wr w' : World} {sb db sb2 db2 : Nat} (h : TSI w wr sb db sb2 db2) (hb : Below wr.heap.size wr w') : TSI w w' sb db sb2 db2 := by
  obtain ⟨N, T, T2, x, x2, h1, h2, h3⟩ := h.ex
  exact ⟨⟨N, T, T2, x, x2, h1.on hb, h2.on hb, h3⟩, below_on h.bel (Nat.le_refl _) hb⟩
/-- another store is left alone -/
theorem SA.beside {w w' : World} {B N sb db : Nat} {T T' T2 : Nat → Prop} {x2 : SSt} (h : SA w N sb db T2 x2) (hs : StepV w w' B T T') (hd : ∀ k, T k → ¬ T2 k) : SA w' N sb db T2 x2 ∧ ∀ k, T' k → ¬ T2 k :=
  ⟨h.kept hs.bel.size fun k e => (hs.far k (h.lt e) fun e2 => hd k e2 e).1, fun k e e2 => (hs.far k (h.lt e2) fun e3 => hd k e3 e2).2 e⟩
set_option maxRecDepth 8000 in
set_option maxHeartbeats 16000000 in
theorem topSave_walk (l : List Dd) (da : Option Addr) (dc : Nat) (sv : List Bool) (sa : Option Addr) (sc : Nat) (w : World) (hd : heldDs w da l) (hsv : boolsAt w sa sv) (hsl : sv.length ≤ 9223372036854775807) :
    Calls Try.prog 6 #[.slice da l.length dc, .slice sa sv.length sc] w fun e w' => e = .returned (.bool true) ∧ Below w.heap.size w w' := by
  have HD0 := hide hd
  have HV0 := hide hsv
  clear hd hsv
  have nn := nil_neq_nil
  have ne := nil_eql_nilN
  go_enter Try.func6, Try.ntmps6
  go_wp2_with fail
  refine (kept_any w).mono ?_
  rintro e w1 ⟨rfl, hb1⟩
  have HB1 := hide hb1
  have HD := hide (heldDs_on hb1 HD0.out)
  have HV := hide (boolsAt_on hb1 HV0.out)
  clear hb1 HD0 HV0
  go_wp2_with fail
  refine (stored_good 70 w1 (by decide) (by decide)).mono ?_
  rintro e w2 ⟨db, sb, rfl, hst⟩
  have HST := hide hst
  clear hst
  go_wp2_with fail
  refine (stored_good 200 w2 (by decide) (by decide)).mono ?_
  rintro e w3 ⟨db2, sb2, rfl, hst2⟩
  have HT0 : Hid (TSI w1 w3 sb db sb2 db2) := by
    obtain ⟨T, x, hsa, hg, hr, hl, hn, _⟩ := HST.out.ex
    obtain ⟨T2, x2, hsa2, hg2, hr2, hl2, hn2, _⟩ := hst2.ex
    exact ⟨⟨w2.heap.size, T, T2, x, x2, hsa.on hst2.bel, hsa2, fun k e e2 => by have h1 := hsa.lt e; have h2 := hsa2.low e2; omega, hg, hg2, hn, hn2, hl, hl2, by rw [hr, hr2], HST.out.bel.size⟩, below_on HST.out.bel (Nat.le_refl _) hst2.bel⟩
  clear hst2 HST
  go_wp2_with fail
  refine (lightDeeds_any l da dc 20 _ (heldDs_on HT0.out.bel HD.out) (by omega)).mono ?_
  rintro e w4 ⟨rfl, rfl⟩
  cases hlD : lightDeeds l 20
  · go_wp2
    go_ret
    exact ⟨rfl, below_on HB1.out (Nat.le_refl _) HT0.out.bel⟩
  obtain ⟨hll, hli⟩ := light_of hlD
  have HLI := hide hli
  clear hli hlD
  by_cases hs25 : 25 < sv.length
  · have hs25' : (25 : Int) < (sv.length : Int) := by omega
    go_wp2
    go_ret
    exact ⟨rfl, below_on HB1.out (Nat.le_refl _) HT0.out.bel⟩
  have hs25' : ¬ (25 : Int) < (sv.length : Int) := by omega
  go_wp2_with fail
  go_loopw [11] (fun iv wr => ∃ k : Nat, k ≤ l.length ∧ iv = .int .i64 (k : Int) ∧ TSI w1 wr sb db sb2 db2) (fun iv _ => l.length - (intOf iv).toNat)
  case atStart => exact ⟨0, Nat.zero_le _, rfl, HT0.out⟩
  case round =>
    obtain ⟨k, hk, rfl, hT⟩ := hrel
    clear HT0
    obtain ⟨N, T, T2, x, x2, h1, h2, hdj, hg, hg2, hn, hn2, hl, hl2, hrr, hNw⟩ := hT.ex
    have HBR := hide hT.bel
    have HS1 := hide h1
    have HS2 := hide h2
    have HDJ := hide hdj
    have HF := hide (And.intro hg (And.intro hg2 (And.intro hl hl2)))
    have HN := hide (And.intro hn hn2)
    have HRR := hide hrr
    clear hT h1 h2 hdj hg hg2 hl hl2 hn hn2 hrr
    by_cases hlt : k < l.length
    · have hlt' : (k : Int) < (l.length : Int) := by omega
      have hk0 : (0 : Int) ≤ (k : Int) := by omega
      rcases HD.out with e | ⟨b, off, e, hds⟩
      · rw [e] at hlt; simp at hlt
      subst e
      obtain ⟨cx, hdd⟩ := hds k hlt
      obtain ⟨hx1, hx2⟩ := HLI.out _ (List.getElem_mem hlt)
      clear hds
      generalize l[k] = dd at *
      have HC1 := hide (scommit_any dd.chs dd.ao dd.cap wr HS1.out HF.out.1 (heldCh_on HBR.out hdd) (apart_of hdd fun k e => HS1.out.low e) (by omega) hx2)
      have HP1 := hide (never_commit HF.out.1 HF.out.2.2.1 dd.chs)
      have HP2 := hide (never_commit HF.out.2.1 HF.out.2.2.2 dd.chs)
      have HCF := hide (comF_same (l := dd.chs) HRR.out HN.out.1 HN.out.2)
      rw [HP1.out.1] at HC1
      have HNU := fun W' => hide (number_any (comF x dd.chs) W')
      have cW := cell_on HBR.out cx
      go_wp2_with fail
      refine HC1.out.mono ?_
      rintro e w5 ⟨rfl, T5, hsa5, hs5⟩
      obtain ⟨hs25a, hdj5⟩ := HS2.out.beside hs5 HDJ.out
      have HS15 := hide hsa5
      have HS25 := hide hs25a
      have HDJ5 := hide hdj5
      have HB5 := hide (HBR.out.trans hs5.bel)
      have HC2 := hide (scommit_any dd.chs dd.ao dd.cap w5 hs25a HF.out.2.1 (heldCh_on HB5.out hdd) (apart_of hdd fun k e => Nat.le_trans hNw (hs25a.low e)) (by omega) hx2)
      rw [HP2.out.1, HCF.out] at HC2
      clear hsa5 hs5 hs25a hdj5 HC1
      go_wp2_with fail
      refine ((HNU _).out).mono ?_
      rintro e w6 ⟨rfl, rfl⟩
      have cW := cell_on HB5.out cx
      go_wp2_with fail
      refine HC2.out.mono ?_
      rintro e w7 ⟨rfl, T7, hsa7, hs7⟩
      obtain ⟨hs17, hdj7⟩ := HS15.out.beside hs7 (fun k e e2 => HDJ5.out k e2 e)
      have HS1 := hide hs17
      have HS2 := hide hsa7
      have HDJ : Hid (∀ k, T5 k → ¬ T7 k) := fun k e e2 => hdj7 k e2 e
      have HB7 := hide (HB5.out.trans (hs7.bel.mono hNw))
      have HFX : Hid (SGood (comR x dd.chs).2 ∧ SGood (comR x2 dd.chs).2 ∧ (comR x dd.chs).2.d.left = -1 ∧ (comR x2 dd.chs).2.d.left = -1) := ⟨HP1.out.2.2.1, HP2.out.2.2.1, HP1.out.2.1, HP2.out.2.1⟩
      have HNX : Hid ((comR x dd.chs).2.d.now.length = 70 ∧ (comR x2 dd.chs).2.d.now.length = 200) := ⟨HP1.out.2.2.2.1.trans HN.out.1, HP2.out.2.2.2.1.trans HN.out.2⟩
      have HRX : Hid ((comR x2 dd.chs).2.rows = (comR x dd.chs).2.rows) := hide (by rw [HP1.out.2.2.2.2, HP2.out.2.2.2.2, HCF.out, HRR.out])
      clear hsa7 hs7 hs17 hdj7 HC2 HS15 HS25 HDJ5 HF HN HRR HP1 HP2 HCF cx hdd hx1 hx2
      generalize comF x dd.chs = cf at *
      generalize (comR x dd.chs).2 = X at *
      generalize (comR x2 dd.chs).2 = X2 at *
      go_wp2_with fail
      refine ((HNU _).out).mono ?_
      rintro e w8 ⟨rfl, rfl⟩
      clear HNU
      have hff : ((cf : Int) != (cf : Int)) = false := by simp
      by_cases hks : k < sv.length
      · have hks' : (k : Int) < (sv.length : Int) := by omega
        rcases HV.out with e | ⟨b2, off2, e, hvs⟩
        · rw [e] at hks; simp at hks
        subst e
        have cv := cell_on HB7.out (hvs k hks)
        clear hvs
        generalize sv[k] = bk at *
        cases bk with
        | true =>
          have HCK := hide (schk_any w8 HS1.out HFX.out.1)
          have HKP := hide (never_chk HFX.out.1 HFX.out.2.2.1)
          rw [HKP.out.1, errD_nil] at HCK
          go_wp2_with fail
          refine HCK.out.mono ?_
          rintro e w9 ⟨rfl, T9, hsa9, hs9⟩
          obtain ⟨hs29, hdj9⟩ := HS2.out.beside hs9 HDJ.out
          have HT9 : Hid (TSI w1 w9 sb db sb2 db2) := ⟨⟨N, T9, T7, (chkR X).2, X2, hsa9, hs29, hdj9, HKP.out.2.2.1, HFX.out.2.1, HKP.out.2.2.2.1.trans HNX.out.1, HNX.out.2, HKP.out.2.1, HFX.out.2.2.2, by rw [HRX.out, HKP.out.2.2.2.2], hNw⟩, HB7.out.trans hs9.bel⟩
          clear hsa9 hs9 hs29 hdj9 HCK HKP
          clear HS1 HS2 HDJ HFX HNX HRX HB7 cv
          obtain ⟨N9, T9, T9b, y, y2, g1, g2, gdj, gg, gg2, gn, gn2, gl, gl2, grr, gN⟩ := HT9.out.ex
          have hfew := DRest.few gg
          have hrl : (rowsL y.rows).length ≤ 40 := by unfold rowsL; rw [List.length_map]; exact hfew
          have HRO1 := hide (srows_any _ g1 (by omega))
          have HG2 := hide g2
          have HGR := hide grr
          clear g1 g2 gdj gg gg2 gn gn2 gl gl2 grr gN
          go_wp2_with fail
          refine HRO1.out.mono ?_
          rintro e w10 ⟨v10, rfl, ho10, hb10⟩
          obtain ⟨a10, c10, rfl, h10⟩ := ownP_held ho10
          have HO10 := hide h10
          go_wp2_with fail
          refine (srows_any w10 (HG2.out.on hb10) (by rw [HGR.out]; omega)).mono ?_
          rintro e w11 ⟨v11, rfl, ho11, hb11⟩
          rw [HGR.out] at ho11
          obtain ⟨a11, c11, rfl, h11⟩ := ownP_held ho11
          have HSR := hide (sameRows_held (rowsL y.rows) a10 a11 c10 c11 w11 (heldSp_on hb11 HO10.out) h11 (by omega))
          go_wp2_with fail
          refine HSR.out.mono ?_
          rintro e w12 ⟨rfl, hb12⟩
          have hb912 := below_on (below_on hb10 (Nat.le_refl _) hb11) (Nat.le_refl _) hb12
          have HT12 : Hid (TSI w1 w12 sb db sb2 db2) := HT9.out.on hb912
          clear ho10 hb10 h10 ho11 hb11 h11 hb12 hb912
          go_wp2_with fail
          exact ⟨⟨k + 1, by omega, by go_num, HT12.out⟩, by simp [intOf]; omega⟩
        | false =>
          have HT9 : Hid (TSI w1 w8 sb db sb2 db2) := ⟨⟨N, T5, T7, X, X2, HS1.out, HS2.out, HDJ.out, HFX.out.1, HFX.out.2.1, HNX.out.1, HNX.out.2, HFX.out.2.2.1, HFX.out.2.2.2, HRX.out, hNw⟩, HB7.out⟩
          clear HS1 HS2 HDJ HFX HNX HRX HB7
          obtain ⟨N9, T9, T9b, y, y2, g1, g2, gdj, gg, gg2, gn, gn2, gl, gl2, grr, gN⟩ := HT9.out.ex
          have hfew := DRest.few gg
          have hrl : (rowsL y.rows).length ≤ 40 := by unfold rowsL; rw [List.length_map]; exact hfew
          have HRO1 := hide (srows_any _ g1 (by omega))
          have HG2 := hide g2
          have HGR := hide grr
          clear g1 g2 gdj gg gg2 gn gn2 gl gl2 grr gN
          go_wp2_with fail
          refine HRO1.out.mono ?_
          rintro e w10 ⟨v10, rfl, ho10, hb10⟩
          obtain ⟨a10, c10, rfl, h10⟩ := ownP_held ho10
          have HO10 := hide h10
          go_wp2_with fail
          refine (srows_any w10 (HG2.out.on hb10) (by rw [HGR.out]; omega)).mono ?_
          rintro e w11 ⟨v11, rfl, ho11, hb11⟩
          rw [HGR.out] at ho11
          obtain ⟨a11, c11, rfl, h11⟩ := ownP_held ho11
          have HSR := hide (sameRows_held (rowsL y.rows) a10 a11 c10 c11 w11 (heldSp_on hb11 HO10.out) h11 (by omega))
          go_wp2_with fail
          refine HSR.out.mono ?_
          rintro e w12 ⟨rfl, hb12⟩
          have hb912 := below_on (below_on hb10 (Nat.le_refl _) hb11) (Nat.le_refl _) hb12
          have HT12 : Hid (TSI w1 w12 sb db sb2 db2) := HT9.out.on hb912
          clear ho10 hb10 h10 ho11 hb11 h11 hb12 hb912
          go_wp2_with fail
          exact ⟨⟨k + 1, by omega, by go_num, HT12.out⟩, by simp [intOf]; omega⟩
      · have hks' : ¬ (k : Int) < (sv.length : Int) := by omega
        have HT9 : Hid (TSI w1 w8 sb db sb2 db2) := ⟨⟨N, T5, T7, X, X2, HS1.out, HS2.out, HDJ.out, HFX.out.1, HFX.out.2.1, HNX.out.1, HNX.out.2, HFX.out.2.2.1, HFX.out.2.2.2, HRX.out, hNw⟩, HB7.out⟩
        clear HS1 HS2 HDJ HFX HNX HRX HB7
        obtain ⟨N9, T9, T9b, y, y2, g1, g2, gdj, gg, gg2, gn, gn2, gl, gl2, grr, gN⟩ := HT9.out.ex
        have hfew := DRest.few gg
        have hrl : (rowsL y.rows).length ≤ 40 := by unfold rowsL; rw [List.length_map]; exact hfew
        have HRO1 := hide (srows_any _ g1 (by omega))
        have HG2 := hide g2
        have HGR := hide grr
        clear g1 g2 gdj gg gg2 gn gn2 gl gl2 grr gN
        go_wp2_with fail
        refine HRO1.out.mono ?_
        rintro e w10 ⟨v10, rfl, ho10, hb10⟩
        obtain ⟨a10, c10, rfl, h10⟩ := ownP_held ho10
        have HO10 := hide h10
        go_wp2_with fail
        refine (srows_any w10 (HG2.out.on hb10) (by rw [HGR.out]; omega)).mono ?_
        rintro e w11 ⟨v11, rfl, ho11, hb11⟩
        rw [HGR.out] at ho11
        obtain ⟨a11, c11, rfl, h11⟩ := ownP_held ho11
        have HSR := hide (sameRows_held (rowsL y.rows) a10 a11 c10 c11 w11 (heldSp_on hb11 HO10.out) h11 (by omega))
        go_wp2_with fail
        refine HSR.out.mono ?_
        rintro e w12 ⟨rfl, hb12⟩
        have hb912 := below_on (below_on hb10 (Nat.le_refl _) hb11) (Nat.le_refl _) hb12
        have HT12 : Hid (TSI w1 w12 sb db sb2 db2) := HT9.out.on hb912
        clear ho10 hb10 h10 ho11 hb11 h11 hb12 hb912
        go_wp2_with fail
        exact ⟨⟨k + 1, by omega, by go_num, HT12.out⟩, by simp [intOf]; omega⟩
    · have ek : k = l.length := by omega
      subst ek
      have hlt' : ¬ (l.length : Int) < (l.length : Int) := by omega
      obtain ⟨Sd, hkd, hsd⟩ := HS1.out.disk
      have HO1 := hide (sopen_good wr hkd HF.out.1)
      clear hkd
      go_wp2_with fail
      refine HO1.out.mono ?_
      rintro e w5 ⟨sb5, rfl, hn5⟩
      obtain ⟨T5, hsa5, _⟩ := hn5.sa
      have HS15 := hide (HS1.out.on hn5.bel)
      have HA5 := hide hsa5
      have HS25 := hide (HS2.out.on hn5.bel)
      have HB5 := hide (below_on HBR.out (Nat.le_refl _) hn5.bel)
      obtain ⟨Se, hke, hse⟩ := HS25.out.disk
      have HO2 := hide (sopen_good w5 hke HF.out.2.1)
      clear hn5 hsa5 hke HO1
      go_wp2_with fail
      refine HO2.out.mono ?_
      rintro e w6 ⟨sb6, rfl, hn6⟩
      obtain ⟨T6, hsa6, _⟩ := hn6.sa
      have HS16 := hide (HS15.out.on hn6.bel)
      have HA6 := hide (HA5.out.on hn6.bel)
      have HE6 := hide hsa6
      have HB6 := hide (below_on HB5.out (Nat.le_refl _) hn6.bel)
      have hfew := DRest.few HF.out.1
      have HX2 : Hid (x2.rows = x.rows) := HRR.out
      have hrl : (rowsL x.rows).length ≤ 40 := by unfold rowsL; rw [List.length_map]; exact hfew
      clear hn6 hsa6 HO2 HS15 HS25 HA5 HB5
      go_wp2_with fail
      refine (srows_any w6 HA6.out (by show x.rows.length ≤ 1000; omega)).mono ?_
      rintro e w7 ⟨v7, rfl, ho7, hb7⟩
      obtain ⟨a7, c7, rfl, h7⟩ := ownP_held ho7
      have HO7 := hide h7
      go_wp2_with fail
      refine (srows_any w7 (HS16.out.on hb7) (by omega)).mono ?_
      rintro e w8 ⟨v8, rfl, ho8, hb8⟩
      obtain ⟨a8, c8, rfl, h8⟩ := ownP_held ho8
      have HSR := hide (sameRows_held (rowsL x.rows) a7 a8 c7 c8 w8 (heldSp_on hb8 HO7.out) h8 (by omega))
      go_wp2_with fail
      refine HSR.out.mono ?_
      rintro e w9 ⟨rfl, hb9⟩
      have hb69 := below_on (below_on hb7 (Nat.le_refl _) hb8) (Nat.le_refl _) hb9
      have HS19 := hide (HS16.out.on hb69)
      have HE9 := hide (HE6.out.on hb69)
      have HB9 := hide (below_on HB6.out (Nat.le_refl _) hb69)
      clear ho7 hb7 h7 ho8 hb8 h8 hb9 hb69 HSR HO7 HS16 HE6 HA6 HB6
      go_wp2_with fail
      refine (srows_any w9 HE9.out (by show x2.rows.length ≤ 1000; rw [HX2.out]; omega)).mono ?_
      rintro e w10 ⟨v10, rfl, ho10, hb10⟩
      replace ho10 : ownP w10 w9.heap.size v10 (rowsL x.rows) := by have h := ho10; rw [show (⟨x2.d, x2.area, x2.first, x2.used, x2.rows⟩ : SSt).rows = x.rows from HX2.out] at h; exact h
      obtain ⟨a10, c10, rfl, h10⟩ := ownP_held ho10
      have HO10 := hide h10
      go_wp2_with fail
      refine (srows_any w10 (HS19.out.on hb10) (by omega)).mono ?_
      rintro e w11 ⟨v11, rfl, ho11, hb11⟩
      obtain ⟨a11, c11, rfl, h11⟩ := ownP_held ho11
      have HSR := hide (sameRows_held (rowsL x.rows) a10 a11 c10 c11 w11 (heldSp_on hb11 HO10.out) h11 (by omega))
      go_wp2_with fail
      refine HSR.out.mono ?_
      rintro e w12 ⟨rfl, hb12⟩
      have HB12 := hide (below_on HB9.out (Nat.le_refl _) (below_on (below_on hb10 (Nat.le_refl _) hb11) (Nat.le_refl _) hb12))
      clear ho10 hb10 h10 ho11 hb11 h11 hb12
      go_wp2
      go_ret
      exact ⟨rfl, below_on HB1.out (Nat.le_refl _) HB12.out⟩
end Go.Proofs.Ytkfpfbkdalbjoaa
