/-
  What haywainlaw.ViewSays returns: true, of whatever came in.
-/
import Derived.Test.YtpbhcjkllfonhaaGreatViews
import Derived.Test.YtpbhcjkllfonhaaGreatLawGood
import Derived.Test.YtpbhcjkllfonhaaGreatActMem
namespace Go.Proofs.YtpbhcjkllfonhaaGreat
open Go.RowKit Go.Joins Go.Shelf
attribute [local go_sem ↓] Go.wp_at_zero Go.wp_at_succ

theorem riseA_pair {l : List (ByteArray × ByteArray)} (h : riseA l) : riseP l := by
  show l.Pairwise _
  rw [List.pairwise_iff_getElem]
  have step : ∀ d i (hi : i < l.length) (hj : i + d + 1 < l.length), ltS l[i].1 l[i + d + 1].1 = true := by
    intro d
    induction d with
    | zero =>
      intro i hi hj
      have := h (i + 1) hj i hi rfl
      rw [leS_not] at this
      simpa using this
    | succ d ih =>
      intro i hi hj
      have h1 := ih i hi (by omega)
      have h2 := h (i + d + 1 + 1) (by omega) (i + d + 1) (by omega) rfl
      rw [leS_not] at h2
      have h3 : ltS l[i + d + 1].1 l[i + d + 1 + 1].1 = true := by simpa using h2
      exact ltS_trans h1 h3
  intro i j hi hj hij
  have := step (j - i - 1) i hi (by omega)
  have e : i + (j - i - 1) + 1 = j := by omega
  simp only [e] at this
  exact this
theorem errV_of (f : Nat) : errV f = if f = 0 then Value.nilIface else .iface 77 (.int .i64 f) := rfl
/-- at the beginning -/
theorem vl_start {w w3 w4 w5 w7 : World} {wb : Nat} {rows : Rws} {ra : Option Addr} {rc : Nat} {mv : Value} {S : Nat → Prop} (hr : heldSp w ra rows) (hnil : ra = none → rc = 0 ∧ rows = []) (hb3 : Below w.heap.size w w3) (hb4 : Below w3.heap.size w3 w4) (hb5 : Below w4.heap.size w4 w5) (hp : PV w5 w4.heap.size wb S rows 0 [] []) (hS : ∀ k, S k → w3.heap.size ≤ k)
    (hb7 : Below (w5.alloc (Obj.cells #[Value.slice ra rows.length rc, Value.int .i64 0, Value.slice none 0 0, Value.slice none 0 0] 35)).heap.size (w5.alloc (Obj.cells #[Value.slice ra rows.length rc, Value.int .i64 0, Value.slice none 0 0, Value.slice none 0 0] 35)) w7) (ho : ownCh w7 (w5.alloc (Obj.cells #[Value.slice ra rows.length rc, Value.int .i64 0, Value.slice none 0 0, Value.slice none 0 0] 35)).heap.size mv []) :
    ∃ G, VL w w7 w4.heap.size wb w5.heap.size S G rows [] [] mv none [] := by
  have hb6 := below_alloc1 w5 (Obj.cells #[Value.slice ra rows.length rc, Value.int .i64 0, Value.slice none 0 0, Value.slice none 0 0] 35)
  have s3 := hb3.size
  have s4 := hb4.size
  have s5 := hb5.size
  have hz : (w5.alloc (Obj.cells #[Value.slice ra rows.length rc, Value.int .i64 0, Value.slice none 0 0, Value.slice none 0 0] 35)).heap.size = w5.heap.size + 1 := by simp
  have hbx := below_on (below_on (below_on (below_on hb3 (Nat.le_refl _) hb4) (Nat.le_refl _) hb5) (Nat.le_refl _) hb6) (Nat.le_refl _) hb7
  refine ⟨inRW w5.heap.size ra none none rows [] [], ⟨⟨(hp.on hb6).on hb7, ⟨ra, rc, none, 0, none, 0, ⟨cell_on hb7 (cell_new _ _ _ 0), cell_on hb7 (cell_new _ _ _ 1), cell_on hb7 (cell_new _ _ _ 2), cell_on hb7 (cell_new _ _ _ 3), fun j => frozen_on hb7 (show w5.heap.size < _ by omega) (frozen_new _ _ _ j), heldSp_on hbx hr, hnil, .inl rfl, .inl rfl⟩, rfl, fun k e hne => ?_, (fun k e => by obtain ⟨_, e⟩ := e; cases e), (fun k e => by obtain ⟨_, e⟩ := e; cases e)⟩, fun k hk hs => ?_, (by omega)⟩, ⟨_, ho⟩, fun k e => ?_, .inl rfl, (fun k e => by obtain ⟨_, e⟩ := e; cases e), (by simp), (by simp), List.Pairwise.nil, hbx, (by omega)⟩⟩
  · have := heldSp_lt hr hne e; omega
  · have hlt := hp.lt hs
    have hge := hS k hs
    rcases hk with rfl | ⟨hne, e⟩ | ⟨hne, _⟩ | ⟨hne, _⟩
    · omega
    · have := heldSp_lt hr hne e; omega
    · exact hne rfl
    · exact hne rfl
  · have := (World.ownsRow.lt ho k e).1
    exact ⟨fun hs => by have := hp.lt hs; omega, by omega⟩
set_option maxRecDepth 4000 in
set_option maxHeartbeats 8000000 in
theorem viewSays_walk (rows : List (ByteArray × ByteArray)) (ra : Option Addr) (rc : Nat) (acts : List ActL) (aa : Option Addr) (ac : Nat) (w : World)
    (hr : heldSp w ra rows) (hnil : ra = none → rc = 0 ∧ rows = []) (hd : heldAc w aa acts) :
    Calls Tryz.prog 3 #[.slice ra rows.length rc, .slice aa acts.length ac] w fun e w' => e = .returned (.bool true) ∧ Below w.heap.size w w' := by
  have HR := hide hr
  have HD := hide hd
  have HNIL := hide hnil
  clear hr hd hnil
  go_enter Tryz.func3, Tryz.ntmps3
  go_wp2_with (first
    | (go_at_call 4; refine (views_any _).mono ?_; rintro e w1 ⟨rfl, hb1⟩; have HB1 := hide hb1; clear hb1)
    | (go_at_call 5; refine (lightAc_held acts 60 ac aa _ (heldAc_on HB1.out HD.out) (by omega)).mono ?_; rintro e w2 ⟨rfl, rfl⟩; cases hlA : lightActs acts 60)
    | (go_at_call 6; refine (lawRows_any rows ra rc _ (heldSp_on HB1.out HR.out)).mono ?_; rintro e w3 ⟨v, rfl, hgood, hb3⟩; have HGD := hide hgood; have HB3 := hide (below_on HB1.out (Nat.le_refl _) hb3); clear hb3 hgood; cases v))
  · go_ret
    exact ⟨rfl, HB1.out⟩
  · go_ret
    exact ⟨rfl, HB3.out⟩
  obtain ⟨hgb, hri⟩ := HGD.out (by trivial)
  have hrn : rows.length ≤ 50 := hgb.1
  have HRK : Hid (∀ r ∈ rows, r.1.size ≤ 60) := hgb.2
  have HPR := hide (riseA_pair hri)
  have HLA := hide hlA
  clear HGD hgb hri hlA HB1
  refine (new_any rows ra rc _ (heldSp_on HB3.out HR.out) (by omega) (fun r hr => by have := HRK.out r hr; omega)).mono ?_
  rintro e w4 ⟨vb, rfl, hb4, mb, D4, g4, hv4⟩
  have HV4 := hide hv4
  have HB4 := hide hb4
  clear hv4 hb4
  go_wp2_with fail
  refine (view_new _ HV4.out).mono ?_
  rintro e w5 ⟨wb, rfl, hw5, hb5⟩
  obtain ⟨S0, hp5, hS0⟩ := pv_make HV4.out hw5 hb5 HB4.out.size HPR.out hrn HRK.out
  have HP5 := hide hp5
  have HS0 := hide hS0
  have HB5 := hide hb5
  clear hw5 hb5 hp5 hS0
  go_wp2_with fail
  refine (pv_mark _ (HP5.out.on (below_alloc1 w5 (Obj.cells #[Value.slice ra rows.length rc, Value.int .i64 0, Value.slice none 0 0, Value.slice none 0 0] 35)))).mono ?_
  rintro e w7 ⟨mv, rfl, ho7, hb7⟩
  obtain ⟨G0, hvl⟩ := vl_start HR.out HNIL.out HB3.out HB4.out HB5.out HP5.out HS0.out hb7 ho7
  have HVL := hide hvl
  have c2 : w7.cell? ⟨w5.heap.size, 2, none⟩ = some (.slice none 0 0) := cell_on hb7 (cell_new _ _ _ 2)
  obtain ⟨ma, mc, hmv, _, _⟩ := ownCh_has ho7
  subst hmv
  clear hvl ho7 hb7 HP5 HS0 HV4
  generalize w4.heap.size = B at *
  generalize w5.heap.size = rb at *
  go_wp2
  have hal : acts.length ≤ 60 := by have := HLA.out; simp only [lightActs, Bool.and_eq_true, decide_eq_true_eq] at this; exact this.1
  go_loopw [8, 9, 10] (fun mv wv iv wr => ∃ (k : Nat) (S G : Nat → Prop) (chs : List Chg) (rds : Rws) (wa : Option Addr) (wc : Nat) (mk : List Chg), k ≤ acts.length ∧ wv = .slice wa mk.length wc ∧ iv = .int .i64 k ∧ VL w wr B wb rb S G rows chs rds mv wa mk) (fun _ _ iv _ => acts.length - (intOf iv).toNat)
  case atStart => exact ⟨0, S0, G0, [], [], none, 0, [], Nat.zero_le _, rfl, rfl, HVL.out⟩
  case round =>
    obtain ⟨k, S, G, chs, rds, wa, wc, mk, hk, rfl, rfl, hvl⟩ := hrel
    replace HVL := hide hvl
    clear hvl c2
    by_cases hlt : k < acts.length
    · have hlt' : (k : Int) < (acts.length : Int) := by omega
      rcases HD.out with e | ⟨b, off, e, hac⟩
      · rw [e] at hlt; simp at hlt
      subst e
      have hx := (hac k hlt).on HVL.out.bel
      have HLX : Hid (lightAct acts[k] = true) := by
        have := HLA.out
        simp only [lightActs, Bool.and_eq_true, List.all_eq_true] at this
        exact this.2 _ (List.getElem_mem hlt)
      clear hac
      generalize acts[k] = x at *
      have x0 := hx.kind
      have x1 := hx.a
      have x2 := hx.b
      have x3 := hx.c
      have x4 := hx.k
      have x5 := hx.s
      have x6 := hx.t
      have x7 := hx.cl
      have x8 := hx.sl
      have hai := hx.ai
      have HXS := hide hx.hs
      clear hx
      have hbX := below_alloc1 wr (Obj.cells #[Value.string x.kind, Value.int .i64 x.a, Value.int .i64 x.b, Value.int .i64 x.c, Value.int .u64 x.k, Value.string x.s, Value.string x.t, Value.slice x.ca x.chs.length x.cc, Value.slice x.sa x.sps.length x.sc] 39)
      have y0 : (wr.alloc (Obj.cells #[Value.string x.kind, Value.int .i64 x.a, Value.int .i64 x.b, Value.int .i64 x.c, Value.int .u64 x.k, Value.string x.s, Value.string x.t, Value.slice x.ca x.chs.length x.cc, Value.slice x.sa x.sps.length x.sc] 39)).cell? ⟨wr.heap.size, 0, none⟩ = some (.string x.kind) := cell_new _ _ _ 0
      have y1 : (wr.alloc (Obj.cells #[Value.string x.kind, Value.int .i64 x.a, Value.int .i64 x.b, Value.int .i64 x.c, Value.int .u64 x.k, Value.string x.s, Value.string x.t, Value.slice x.ca x.chs.length x.cc, Value.slice x.sa x.sps.length x.sc] 39)).cell? ⟨wr.heap.size, 1, none⟩ = some (.int .i64 x.a) := cell_new _ _ _ 1
      have y5 : (wr.alloc (Obj.cells #[Value.string x.kind, Value.int .i64 x.a, Value.int .i64 x.b, Value.int .i64 x.c, Value.int .u64 x.k, Value.string x.s, Value.string x.t, Value.slice x.ca x.chs.length x.cc, Value.slice x.sa x.sps.length x.sc] 39)).cell? ⟨wr.heap.size, 5, none⟩ = some (.string x.s) := cell_new _ _ _ 5
      have y6 : (wr.alloc (Obj.cells #[Value.string x.kind, Value.int .i64 x.a, Value.int .i64 x.b, Value.int .i64 x.c, Value.int .u64 x.k, Value.string x.s, Value.string x.t, Value.slice x.ca x.chs.length x.cc, Value.slice x.sa x.sps.length x.sc] 39)).cell? ⟨wr.heap.size, 6, none⟩ = some (.string x.t) := cell_new _ _ _ 6
      have y8 : (wr.alloc (Obj.cells #[Value.string x.kind, Value.int .i64 x.a, Value.int .i64 x.b, Value.int .i64 x.c, Value.int .u64 x.k, Value.string x.s, Value.string x.t, Value.slice x.ca x.chs.length x.cc, Value.slice x.sa x.sps.length x.sc] 39)).cell? ⟨wr.heap.size, 8, none⟩ = some (.slice x.sa x.sps.length x.sc) := cell_new _ _ _ 8
      have HNS : Hid (¬ S wr.heap.size) := fun h => by have := HVL.out.vb.pv.lt h; omega
      have HNR : Hid (wr.heap.size ≠ rb) := fun h => by have := HVL.out.vb.rw.lt HVL.out.vb.rbG; omega
      replace HVL := hide (HVL.out.on hbX)
      replace HXS := hide (heldSp_on hbX HXS.out)
      have hlx := HLX.out
      simp only [lightAct, Bool.and_eq_true, decide_eq_true_eq] at hlx
      obtain ⟨⟨⟨hss, _⟩, _⟩, _⟩ := hlx
      have hsm : x.s.size ≤ maxLen := by unfold maxLen; omega
      have hcn := HVL.out.vb.pv.ok.cn
      have hrdn := HVL.out.vb.pv.ok.rn
      have HCR := hide HVL.out.vb.pv.ok.cr
      have hBw := HVL.out.vb.pv.lo
      have hrbB := HVL.out.vb.lo
      clear hbX
      cases hk0 : (x.kind.toList == [112, 117, 116]) with
      | true =>
        go_wp2_with fail
        generalize (wr.alloc (Obj.cells #[Value.string x.kind, Value.int .i64 x.a, Value.int .i64 x.b, Value.int .i64 x.c, Value.int .u64 x.k, Value.string x.s, Value.string x.t, Value.slice x.ca x.chs.length x.cc, Value.slice x.sa x.sps.length x.sc] 39)) = wx at *
        clear x0 x1 x2 x3 x4 x5 x6 x7 x8
        have hv0 := HVL.out.vb.on (Below.refl _ wx).drew
        have hf0 : Fr wx wx.drew B rb S S := .on hBw (Below.refl _ wx).drew
        have HSO := fun W => hide (same_of (alterF chs ⟨x.s, x.t, false⟩) _ W (errV_of _))
        go_region_held3 (fun w' => w'.cell? ⟨wr.heap.size, 5, none⟩ = some (.string x.s) ∧ w'.cell? ⟨wr.heap.size, 6, none⟩ = some (.string x.t))
          (first
            | go_keep
            | exact ⟨HE2.out.cell y5 HNS.out HNR.out, HE2.out.cell y6 HNS.out HNR.out⟩
            | exact ⟨(hf0.trans hfV).cell y5 HNS.out HNR.out, (hf0.trans hfV).cell y6 HNS.out HNR.out⟩
            | exact ⟨(hf0.trans hfR).cell y5 HNS.out HNR.out, (hf0.trans hfR).cell y6 HNS.out HNR.out⟩)
          (first
            | (go_at_call 11; refine (pv_put x.s x.t _ hvR.pv hsm fault_small).mono ?_; rintro e w1 ⟨rfl, ha⟩; obtain ⟨S1, hvE, hfE⟩ := hvR.view ha; have HE1 := hide hvE; have HE2 := hide ((hf0.trans hfR).trans hfE); clear hvE hfE ha)
            | (go_at_call 11; refine (pv_put x.s x.t _ hv0.pv hsm fault_small).mono ?_; rintro e w1 ⟨rfl, ha⟩; obtain ⟨S1, hvV, hfV⟩ := hv0.view ha; clear ha)
            | (go_at_call 12; refine (rvput_any ⟨x.s, x.t, false⟩ _ hvV.rw hvV.pv.lo hrbB hcn HCR.out (by show x.s.size ≤ 1000; omega)).mono ?_; rintro e w2 ⟨rfl, hr⟩; obtain ⟨G2, hvE, hfE⟩ := hvV.ref hr; have HE1 := hide hvE; have HE2 := hide ((hf0.trans hfV).trans hfE); clear hvE hfE hr)
            | (go_at_call 12; refine (rvput_any ⟨x.s, x.t, false⟩ _ hv0.rw hv0.pv.lo hrbB hcn HCR.out (by show x.s.size ≤ 1000; omega)).mono ?_; rintro e w2 ⟨rfl, hr⟩; obtain ⟨G2, hvR, hfR⟩ := hv0.ref hr; clear hr)
            | (go_at_call 10; refine (HSO _).out.mono ?_; rintro e w3 ⟨rfl, rfl⟩)
            | fail)
        all_goals
          obtain ⟨S9, G9, hv9⟩ : ∃ S9 G9, VL w w3 B wb rb S9 G9 rows (alterL chs ⟨x.s, x.t, false⟩) rds u8 wa mk := ⟨_, _, HVL.out.next HE1.out HE2.out⟩
          have HV8 := hide hv9
          clear hv9
          go_wp2_with (first
            | (go_at_call 20; refine (asView_any _ HV8.out.vb.pv HV8.out.vb.rw).mono ?_; rintro e w9 ⟨rfl, hb9⟩; have HV9 := hide (HV8.out.on hb9); clear hb9))
          exact ⟨⟨k + 1, S9, G9, _, _, wa, wc, mk, by omega, rfl, by go_num, HV9.out⟩, by simp [intOf]; omega⟩
      | false =>
        cases hk1 : (x.kind.toList == [100, 101, 108, 101, 116, 101]) with
        | true =>
          go_wp2_with fail
          generalize (wr.alloc (Obj.cells #[Value.string x.kind, Value.int .i64 x.a, Value.int .i64 x.b, Value.int .i64 x.c, Value.int .u64 x.k, Value.string x.s, Value.string x.t, Value.slice x.ca x.chs.length x.cc, Value.slice x.sa x.sps.length x.sc] 39)) = wx at *
          clear x0 x1 x2 x3 x4 x5 x6 x7 x8
          have hv0 := HVL.out.vb.on (Below.refl _ wx).drew
          have hf0 : Fr wx wx.drew B rb S S := .on hBw (Below.refl _ wx).drew
          have HSO := fun W => hide (same_of (alterF chs ⟨x.s, ⟨#[]⟩, true⟩) _ W (errV_of _))
          go_region_held3 (fun w' => w'.cell? ⟨wr.heap.size, 5, none⟩ = some (.string x.s) ∧ w'.cell? ⟨wr.heap.size, 6, none⟩ = some (.string x.t))
            (first
              | go_keep
              | exact ⟨HE2.out.cell y5 HNS.out HNR.out, HE2.out.cell y6 HNS.out HNR.out⟩
              | exact ⟨(hf0.trans hfV).cell y5 HNS.out HNR.out, (hf0.trans hfV).cell y6 HNS.out HNR.out⟩
              | exact ⟨(hf0.trans hfR).cell y5 HNS.out HNR.out, (hf0.trans hfR).cell y6 HNS.out HNR.out⟩)
            (first
              | (go_at_call 13; refine (pv_delete x.s _ hvR.pv hsm fault_small).mono ?_; rintro e w1 ⟨rfl, ha⟩; obtain ⟨S1, hvE, hfE⟩ := hvR.view ha; have HE1 := hide hvE; have HE2 := hide ((hf0.trans hfR).trans hfE); clear hvE hfE ha)
              | (go_at_call 13; refine (pv_delete x.s _ hv0.pv hsm fault_small).mono ?_; rintro e w1 ⟨rfl, ha⟩; obtain ⟨S1, hvV, hfV⟩ := hv0.view ha; clear ha)
              | (go_at_call 12; refine (rvput_any ⟨x.s, ⟨#[]⟩, true⟩ _ hvV.rw hvV.pv.lo hrbB hcn HCR.out (by show x.s.size ≤ 1000; omega)).mono ?_; rintro e w2 ⟨rfl, hr⟩; obtain ⟨G2, hvE, hfE⟩ := hvV.ref hr; have HE1 := hide hvE; have HE2 := hide ((hf0.trans hfV).trans hfE); clear hvE hfE hr)
              | (go_at_call 12; refine (rvput_any ⟨x.s, ⟨#[]⟩, true⟩ _ hv0.rw hv0.pv.lo hrbB hcn HCR.out (by show x.s.size ≤ 1000; omega)).mono ?_; rintro e w2 ⟨rfl, hr⟩; obtain ⟨G2, hvR, hfR⟩ := hv0.ref hr; clear hr)
              | (go_at_call 10; refine (HSO _).out.mono ?_; rintro e w3 ⟨rfl, rfl⟩)
              | fail)
          all_goals
            obtain ⟨S9, G9, hv9⟩ : ∃ S9 G9, VL w w3 B wb rb S9 G9 rows (alterL chs ⟨x.s, ⟨#[]⟩, true⟩) rds u8 wa mk := ⟨_, _, HVL.out.next HE1.out HE2.out⟩
            have HV8 := hide hv9
            clear hv9
            go_wp2_with (first
              | (go_at_call 20; refine (asView_any _ HV8.out.vb.pv HV8.out.vb.rw).mono ?_; rintro e w9 ⟨rfl, hb9⟩; have HV9 := hide (HV8.out.on hb9); clear hb9))
            exact ⟨⟨k + 1, S9, G9, _, _, wa, wc, mk, by omega, rfl, by go_num, HV9.out⟩, by simp [intOf]; omega⟩
        | false =>
          cases hk2 : (x.kind.toList == [115, 99, 97, 110]) with
          | true =>
            by_cases hsl : x.sps.length = 0
            · have hsl' : ¬ (0 : Int) < (x.sps.length : Int) := by omega
              clear hsl
              go_wp2_with fail
              have hzA : (wr.alloc (Obj.cells #[Value.string x.kind, Value.int .i64 x.a, Value.int .i64 x.b, Value.int .i64 x.c, Value.int .u64 x.k, Value.string x.s, Value.string x.t, Value.slice x.ca x.chs.length x.cc, Value.slice x.sa x.sps.length x.sc] 39)).heap.size = wr.heap.size + 1 := by simp
              have HNB : Hid (¬ S (wr.heap.size + 1)) := fun h => by have := HVL.out.vb.pv.lt h; omega
              have HNBR : Hid (wr.heap.size + 1 ≠ rb) := fun h => by have := HVL.out.vb.rw.lt HVL.out.vb.rbG; omega
              have hbS := below_alloc1 (wr.alloc (Obj.cells #[Value.string x.kind, Value.int .i64 x.a, Value.int .i64 x.b, Value.int .i64 x.c, Value.int .u64 x.k, Value.string x.s, Value.string x.t, Value.slice x.ca x.chs.length x.cc, Value.slice x.sa x.sps.length x.sc] 39)) (Obj.cells #[Value.string ⟨#[]⟩, Value.string ⟨#[]⟩] 49)
              have z0 : ((wr.alloc (Obj.cells #[Value.string x.kind, Value.int .i64 x.a, Value.int .i64 x.b, Value.int .i64 x.c, Value.int .u64 x.k, Value.string x.s, Value.string x.t, Value.slice x.ca x.chs.length x.cc, Value.slice x.sa x.sps.length x.sc] 39)).alloc (Obj.cells #[Value.string ⟨#[]⟩, Value.string ⟨#[]⟩] 49)).cell? ⟨wr.heap.size + 1, 0, none⟩ = some (.string ⟨#[]⟩) := by rw [← hzA]; exact cell_new _ _ _ 0
              have z1 : ((wr.alloc (Obj.cells #[Value.string x.kind, Value.int .i64 x.a, Value.int .i64 x.b, Value.int .i64 x.c, Value.int .u64 x.k, Value.string x.s, Value.string x.t, Value.slice x.ca x.chs.length x.cc, Value.slice x.sa x.sps.length x.sc] 39)).alloc (Obj.cells #[Value.string ⟨#[]⟩, Value.string ⟨#[]⟩] 49)).cell? ⟨wr.heap.size + 1, 1, none⟩ = some (.string ⟨#[]⟩) := by rw [← hzA]; exact cell_new _ _ _ 1
              replace HVL := hide (HVL.out.on hbS)
              replace y1 := cell_on hbS y1
              clear hbS hzA x0 x1 x2 x3 x4 x5 x6 x7 x8 y0 y5 y6 y8 HXS
              have hL3 := HVL.out.vb.rw.lt HVL.out.vb.rbG
              refine (pv_scan (⟨#[]⟩, ⟨#[]⟩) x.a _ HVL.out.vb.pv hai.2).mono ?_
              rintro e w1 ⟨hok, hbad⟩
              have ok := HVL.out.vb.pv.ok
              by_cases hf : scanF (seenP rows chs (⟨#[]⟩, ⟨#[]⟩)) rds (⟨#[]⟩, ⟨#[]⟩) x.a = 0
              · obtain ⟨ao, cap, rfl, _, hh1, S9, hp1, hs1, hnew⟩ := hok hf
                obtain ⟨hv1, hf1⟩ := HVL.out.vb.view' hp1 hs1
                have HV1 := hide hv1
                have HF1 := hide hf1
                have HH1 := hide hh1
                have HNW := hide hnew
                have HSF := hide hf
                have HNT := hide (rvscan_any (⟨#[]⟩, ⟨#[]⟩) x.a _ hv1.rw hv1.pv.lo hrbB ok hai.2)
                replace z0 := hf1.cell z0 HNB.out HNBR.out
                replace z1 := hf1.cell z1 HNB.out HNBR.out
                replace y1 := hf1.cell y1 HNS.out HNR.out
                have HTL : Hid (((seenP rows chs (⟨#[]⟩, ⟨#[]⟩)).take x.a.toNat).length ≤ 9223372036854775807) := hide (by have h1 := List.length_take_le x.a.toNat (seenP rows chs (⟨#[]⟩, ⟨#[]⟩)); have h2 := (seenP_small ok (⟨#[]⟩, ⟨#[]⟩)).1; generalize (seenP rows chs (⟨#[]⟩, ⟨#[]⟩)).take x.a.toNat = q at h1 ⊢; omega)
                clear hok hbad hv1 hf1 hp1 hs1 hnew hh1 hf ok
                generalize hTT : (seenP rows chs (⟨#[]⟩, ⟨#[]⟩)).take x.a.toNat = T at *
                have HTT := hide hTT
                clear hTT
                go_wp2_with (first
                  | (go_at_call 15; refine HNT.out.mono ?_; rintro e w2 ⟨hok2, _⟩; obtain ⟨ao2, cap2, rfl, hh2, G9, hr2, hs2⟩ := hok2 HSF.out; obtain ⟨hv2, hf2⟩ := HV1.out.ref' hr2 hs2; have HV2 := hide (HVL.out.next hv2 (HF1.out.trans hf2)); rw [HTT.out] at hh2 ⊢; have HH2 := hide hh2; have HH3 : Hid (heldSp w2 ao T) := heldSp_kept HH1.out (fun _ k e => by obtain ⟨off, rfl⟩ := e; obtain ⟨q1, q2, _⟩ := HNW.out k off rfl; exact hs2.far k q2 (by omega)); clear hok2 hv2 hf2 hr2 hs2 hh2)
                  | (go_at_call 10; refine (same_nil 0 _).mono ?_; rintro e w3 ⟨rfl, rfl⟩)
                  | (go_at_call 16; refine (sameRows_held T ao ao2 cap cap2 _ HH3.out HH2.out HTL.out).mono ?_; rintro e w4 ⟨rfl, hb4⟩; replace HV2 := hide (HV2.out.on hb4); clear hb4)
                  | (go_at_call 20; refine (asView_any _ HV2.out.vb.pv HV2.out.vb.rw).mono ?_; rintro e w9 ⟨rfl, hb9⟩; have HV9 := hide (HV2.out.on hb9); clear hb9))
                exact ⟨⟨k + 1, S9, G9, _, _, wa, wc, mk, by omega, rfl, by go_num, HV9.out⟩, by simp [intOf]; omega⟩
              · obtain ⟨rfl, S9, hp1, hs1⟩ := hbad hf
                obtain ⟨hv1, hf1⟩ := HVL.out.vb.view' hp1 hs1
                have HV1 := hide hv1
                have HF1 := hide hf1
                have HSF := hide hf
                have HNT := hide (rvscan_any (⟨#[]⟩, ⟨#[]⟩) x.a _ hv1.rw hv1.pv.lo hrbB ok hai.2)
                replace z0 := hf1.cell z0 HNB.out HNBR.out
                replace z1 := hf1.cell z1 HNB.out HNBR.out
                replace y1 := hf1.cell y1 HNS.out HNR.out
                have HSO := fun W => hide (same_of (scanF (seenP rows chs (⟨#[]⟩, ⟨#[]⟩)) rds (⟨#[]⟩, ⟨#[]⟩) x.a) _ W (errV_of _))
                clear hok hbad hv1 hf1 hp1 hs1 hf ok
                go_wp2_with (first
                  | (go_at_call 15; refine HNT.out.mono ?_; rintro e w2 ⟨_, hbad2⟩; obtain ⟨rfl, G9, hr2, hs2⟩ := hbad2 HSF.out; obtain ⟨hv2, hf2⟩ := HV1.out.ref' hr2 hs2; have HV2 := hide (HVL.out.next hv2 (HF1.out.trans hf2)); clear hbad2 hv2 hf2 hr2 hs2)
                  | (go_at_call 10; refine (HSO _).out.mono ?_; rintro e w3 ⟨rfl, rfl⟩)
                  | (go_at_call 16; refine (sameRows_nil _ _ _ _ _).mono ?_; rintro e w4 ⟨rfl, hb4⟩; replace HV2 := hide (HV2.out.on hb4); clear hb4)
                  | (go_at_call 20; refine (asView_any _ HV2.out.vb.pv HV2.out.vb.rw).mono ?_; rintro e w9 ⟨rfl, hb9⟩; have HV9 := hide (HV2.out.on hb9); clear hb9))
                exact ⟨⟨k + 1, S9, G9, _, _, wa, wc, mk, by omega, rfl, by go_num, HV9.out⟩, by simp [intOf]; omega⟩
            · have hsl' : (0 : Int) < (x.sps.length : Int) := by omega
              have hl0 : 0 < x.sps.length := by omega
              generalize x.sa = sa at *
              rcases HXS.out with e | ⟨sb, soff, rfl, hsp⟩
              · rw [e] at hl0; simp at hl0
              obtain ⟨s0, s1⟩ := hsp 0 hl0
              have s0' := cell_on (below_alloc1 (wr.alloc (Obj.cells #[Value.string x.kind, Value.int .i64 x.a, Value.int .i64 x.b, Value.int .i64 x.c, Value.int .u64 x.k, Value.string x.s, Value.string x.t, Value.slice x.ca x.chs.length x.cc, Value.slice (some ⟨sb, soff, none⟩) x.sps.length x.sc] 39)) (Obj.cells #[Value.string ⟨#[]⟩, Value.string ⟨#[]⟩] 49)) s0
              have s1' := cell_on (below_alloc1 (wr.alloc (Obj.cells #[Value.string x.kind, Value.int .i64 x.a, Value.int .i64 x.b, Value.int .i64 x.c, Value.int .u64 x.k, Value.string x.s, Value.string x.t, Value.slice x.ca x.chs.length x.cc, Value.slice (some ⟨sb, soff, none⟩) x.sps.length x.sc] 39)) (Obj.cells #[Value.string ⟨#[]⟩, Value.string ⟨#[]⟩] 49)) s1
              simp only [Nat.zero_mul, Nat.add_zero] at s0' s1'
              clear hsp s0 s1 hsl
              generalize x.sps[0] = sp at *
              go_wp2_with fail
              have hzA : (wr.alloc (Obj.cells #[Value.string x.kind, Value.int .i64 x.a, Value.int .i64 x.b, Value.int .i64 x.c, Value.int .u64 x.k, Value.string x.s, Value.string x.t, Value.slice x.ca x.chs.length x.cc, Value.slice (some ⟨sb, soff, none⟩) x.sps.length x.sc] 39)).heap.size = wr.heap.size + 1 := by simp
              have HNB : Hid (¬ S (wr.heap.size + 1)) := fun h => by have := HVL.out.vb.pv.lt h; omega
              have HNBR : Hid (wr.heap.size + 1 ≠ rb) := fun h => by have := HVL.out.vb.rw.lt HVL.out.vb.rbG; omega
              have hbS := below_alloc1 (wr.alloc (Obj.cells #[Value.string x.kind, Value.int .i64 x.a, Value.int .i64 x.b, Value.int .i64 x.c, Value.int .u64 x.k, Value.string x.s, Value.string x.t, Value.slice x.ca x.chs.length x.cc, Value.slice (some ⟨sb, soff, none⟩) x.sps.length x.sc] 39)) (Obj.cells #[Value.string sp.1, Value.string sp.2] 49)
              have z0 : ((wr.alloc (Obj.cells #[Value.string x.kind, Value.int .i64 x.a, Value.int .i64 x.b, Value.int .i64 x.c, Value.int .u64 x.k, Value.string x.s, Value.string x.t, Value.slice x.ca x.chs.length x.cc, Value.slice (some ⟨sb, soff, none⟩) x.sps.length x.sc] 39)).alloc (Obj.cells #[Value.string sp.1, Value.string sp.2] 49)).cell? ⟨wr.heap.size + 1, 0, none⟩ = some (.string sp.1) := by rw [← hzA]; exact cell_new _ _ _ 0
              have z1 : ((wr.alloc (Obj.cells #[Value.string x.kind, Value.int .i64 x.a, Value.int .i64 x.b, Value.int .i64 x.c, Value.int .u64 x.k, Value.string x.s, Value.string x.t, Value.slice x.ca x.chs.length x.cc, Value.slice (some ⟨sb, soff, none⟩) x.sps.length x.sc] 39)).alloc (Obj.cells #[Value.string sp.1, Value.string sp.2] 49)).cell? ⟨wr.heap.size + 1, 1, none⟩ = some (.string sp.2) := by rw [← hzA]; exact cell_new _ _ _ 1
              replace HVL := hide (HVL.out.on hbS)
              replace y1 := cell_on hbS y1
              clear s0' s1' hbS hzA x0 x1 x2 x3 x4 x5 x6 x7 x8 y0 y5 y6 y8 HXS
              have hL3 := HVL.out.vb.rw.lt HVL.out.vb.rbG
              refine (pv_scan sp x.a _ HVL.out.vb.pv hai.2).mono ?_
              rintro e w1 ⟨hok, hbad⟩
              have ok := HVL.out.vb.pv.ok
              by_cases hf : scanF (seenP rows chs sp) rds sp x.a = 0
              · obtain ⟨ao, cap, rfl, _, hh1, S9, hp1, hs1, hnew⟩ := hok hf
                obtain ⟨hv1, hf1⟩ := HVL.out.vb.view' hp1 hs1
                have HV1 := hide hv1
                have HF1 := hide hf1
                have HH1 := hide hh1
                have HNW := hide hnew
                have HSF := hide hf
                have HNT := hide (rvscan_any sp x.a _ hv1.rw hv1.pv.lo hrbB ok hai.2)
                replace z0 := hf1.cell z0 HNB.out HNBR.out
                replace z1 := hf1.cell z1 HNB.out HNBR.out
                replace y1 := hf1.cell y1 HNS.out HNR.out
                have HTL : Hid (((seenP rows chs sp).take x.a.toNat).length ≤ 9223372036854775807) := hide (by have h1 := List.length_take_le x.a.toNat (seenP rows chs sp); have h2 := (seenP_small ok sp).1; generalize (seenP rows chs sp).take x.a.toNat = q at h1 ⊢; omega)
                clear hok hbad hv1 hf1 hp1 hs1 hnew hh1 hf ok
                generalize hTT : (seenP rows chs sp).take x.a.toNat = T at *
                have HTT := hide hTT
                clear hTT
                go_wp2_with (first
                  | (go_at_call 15; refine HNT.out.mono ?_; rintro e w2 ⟨hok2, _⟩; obtain ⟨ao2, cap2, rfl, hh2, G9, hr2, hs2⟩ := hok2 HSF.out; obtain ⟨hv2, hf2⟩ := HV1.out.ref' hr2 hs2; have HV2 := hide (HVL.out.next hv2 (HF1.out.trans hf2)); rw [HTT.out] at hh2 ⊢; have HH2 := hide hh2; have HH3 : Hid (heldSp w2 ao T) := heldSp_kept HH1.out (fun _ k e => by obtain ⟨off, rfl⟩ := e; obtain ⟨q1, q2, _⟩ := HNW.out k off rfl; exact hs2.far k q2 (by omega)); clear hok2 hv2 hf2 hr2 hs2 hh2)
                  | (go_at_call 10; refine (same_nil 0 _).mono ?_; rintro e w3 ⟨rfl, rfl⟩)
                  | (go_at_call 16; refine (sameRows_held T ao ao2 cap cap2 _ HH3.out HH2.out HTL.out).mono ?_; rintro e w4 ⟨rfl, hb4⟩; replace HV2 := hide (HV2.out.on hb4); clear hb4)
                  | (go_at_call 20; refine (asView_any _ HV2.out.vb.pv HV2.out.vb.rw).mono ?_; rintro e w9 ⟨rfl, hb9⟩; have HV9 := hide (HV2.out.on hb9); clear hb9))
                exact ⟨⟨k + 1, S9, G9, _, _, wa, wc, mk, by omega, rfl, by go_num, HV9.out⟩, by simp [intOf]; omega⟩
              · obtain ⟨rfl, S9, hp1, hs1⟩ := hbad hf
                obtain ⟨hv1, hf1⟩ := HVL.out.vb.view' hp1 hs1
                have HV1 := hide hv1
                have HF1 := hide hf1
                have HSF := hide hf
                have HNT := hide (rvscan_any sp x.a _ hv1.rw hv1.pv.lo hrbB ok hai.2)
                replace z0 := hf1.cell z0 HNB.out HNBR.out
                replace z1 := hf1.cell z1 HNB.out HNBR.out
                replace y1 := hf1.cell y1 HNS.out HNR.out
                have HSO := fun W => hide (same_of (scanF (seenP rows chs sp) rds sp x.a) _ W (errV_of _))
                clear hok hbad hv1 hf1 hp1 hs1 hf ok
                go_wp2_with (first
                  | (go_at_call 15; refine HNT.out.mono ?_; rintro e w2 ⟨_, hbad2⟩; obtain ⟨rfl, G9, hr2, hs2⟩ := hbad2 HSF.out; obtain ⟨hv2, hf2⟩ := HV1.out.ref' hr2 hs2; have HV2 := hide (HVL.out.next hv2 (HF1.out.trans hf2)); clear hbad2 hv2 hf2 hr2 hs2)
                  | (go_at_call 10; refine (HSO _).out.mono ?_; rintro e w3 ⟨rfl, rfl⟩)
                  | (go_at_call 16; refine (sameRows_nil _ _ _ _ _).mono ?_; rintro e w4 ⟨rfl, hb4⟩; replace HV2 := hide (HV2.out.on hb4); clear hb4)
                  | (go_at_call 20; refine (asView_any _ HV2.out.vb.pv HV2.out.vb.rw).mono ?_; rintro e w9 ⟨rfl, hb9⟩; have HV9 := hide (HV2.out.on hb9); clear hb9))
                exact ⟨⟨k + 1, S9, G9, _, _, wa, wc, mk, by omega, rfl, by go_num, HV9.out⟩, by simp [intOf]; omega⟩
          | false =>
            cases hk3 : (x.kind.toList == [109, 97, 114, 107]) with
            | true =>
              go_wp2_with fail
              generalize (wr.alloc (Obj.cells #[Value.string x.kind, Value.int .i64 x.a, Value.int .i64 x.b, Value.int .i64 x.c, Value.int .u64 x.k, Value.string x.s, Value.string x.t, Value.slice x.ca x.chs.length x.cc, Value.slice x.sa x.sps.length x.sc] 39)) = wx at *
              clear x0 x1 x2 x3 x4 x5 x6 x7 x8
              refine (pv_mark _ HVL.out.vb.pv).mono ?_
              rintro e w1 ⟨mv1, rfl, ho1, hb1⟩
              obtain ⟨ca, cc, c2, hv1⟩ := HVL.out.mark hb1 ho1
              have HV1 := hide hv1
              obtain ⟨ma1, mc1, hmv, _, _⟩ := ownCh_has ho1
              subst hmv
              clear hv1 ho1 hb1
              go_wp2_with (first
                | (go_at_call 20; refine (asView_any _ HV1.out.vb.pv HV1.out.vb.rw).mono ?_; rintro e w9 ⟨rfl, hb9⟩; have HV9 := hide (HV1.out.on hb9); clear hb9))
              exact ⟨⟨k + 1, S, G, chs, rds, ca, cc, chs, by omega, rfl, by go_num, HV9.out⟩, by simp [intOf]; omega⟩
            | false =>
              cases hk4 : (x.kind.toList == [98, 97, 99, 107]) with
              | true =>
                go_wp2_with fail
                generalize (wr.alloc (Obj.cells #[Value.string x.kind, Value.int .i64 x.a, Value.int .i64 x.b, Value.int .i64 x.c, Value.int .u64 x.k, Value.string x.s, Value.string x.t, Value.slice x.ca x.chs.length x.cc, Value.slice x.sa x.sps.length x.sc] 39)) = wx at *
                clear x0 x1 x2 x3 x4 x5 x6 x7 x8
                obtain ⟨B2, hmo⟩ := HVL.out.mo
                obtain ⟨ma1, mc1, hmv, _, _⟩ := ownCh_has hmo
                subst hmv
                refine (pv_back _ HVL.out.vb.pv hmo HVL.out.ml HVL.out.mkk HVL.out.mr).mono ?_
                rintro e w1 ⟨rfl, ha⟩
                obtain ⟨S9, G9, hv1, _, f2, v2, c2⟩ := HVL.out.back (wc := wc) ha
                have HV1 := hide hv1
                clear hv1 ha hmo
                go_wp2_with (first
                  | (go_at_call 20; refine (asView_any _ HV1.out.vb.pv HV1.out.vb.rw).mono ?_; rintro e w9 ⟨rfl, hb9⟩; have HV9 := hide (HV1.out.on hb9); clear hb9))
                exact ⟨⟨k + 1, S9, G9, mk, rds, wa, wc, mk, by omega, rfl, by go_num, HV9.out⟩, by simp [intOf]; omega⟩
              | false =>
                go_wp2_with fail
                generalize (wr.alloc (Obj.cells #[Value.string x.kind, Value.int .i64 x.a, Value.int .i64 x.b, Value.int .i64 x.c, Value.int .u64 x.k, Value.string x.s, Value.string x.t, Value.slice x.ca x.chs.length x.cc, Value.slice x.sa x.sps.length x.sc] 39)) = wx at *
                clear x0 x1 x2 x3 x4 x5 x6 x7 x8
                refine (pv_get x.s _ HVL.out.vb.pv hsm).mono ?_
                rintro e w1 ⟨rfl, ha⟩
                obtain ⟨S9, hv1, hf1⟩ := HVL.out.vb.view ha
                have HV1 := hide hv1
                have HF1 := hide hf1
                replace y5 := hf1.cell y5 HNS.out HNR.out
                have HNT := hide (rvget_any x.s _ hv1.rw hv1.pv.lo hrbB hcn HCR.out hrdn (by omega) (by omega))
                have HSO := fun W => hide (same_of (getP chs rds rows x.s).2.2 _ W (errV_of _))
                clear hv1 hf1 ha
                generalize getP chs rds rows x.s = gp at *
                go_wp2_with (first
                  | (go_at_call 19; refine HNT.out.mono ?_; rintro e w2 ⟨rfl, hr⟩; obtain ⟨G9, hv2, hf2⟩ := HV1.out.ref hr; have HV2 := hide (HVL.out.next hv2 (HF1.out.trans hf2)); clear hv2 hf2 hr)
                  | (go_at_call 10; refine (HSO _).out.mono ?_; rintro e w3 ⟨rfl, rfl⟩)
                  | (go_at_call 20; refine (asView_any _ HV2.out.vb.pv HV2.out.vb.rw).mono ?_; rintro e w9 ⟨rfl, hb9⟩; have HV9 := hide (HV2.out.on hb9); clear hb9))
                exact ⟨⟨k + 1, S9, G9, _, _, wa, wc, mk, by omega, rfl, by go_num, HV9.out⟩, by simp [intOf]; omega⟩
    · have ek : k = acts.length := by omega
      subst ek
      have hlt' : ¬ (acts.length : Int) < (acts.length : Int) := by omega
      have HB := hide HVL.out.bel
      go_wp2
      go_ret
      exact ⟨rfl, HB.out⟩
end Go.Proofs.YtpbhcjkllfonhaaGreat
