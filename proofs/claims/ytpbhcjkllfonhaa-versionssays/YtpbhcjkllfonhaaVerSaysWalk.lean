/-
  What haywainlaw.VersionsSays returns: true, of whatever came in.
-/
import Derived.Test.YtpbhcjkllfonhaaVerSaysI
import Derived.Test.YtpbhcjkllfonhaaRefApp
import Derived.Test.YtpbhcjkllfonhaaRefChgF
import Derived.Test.YtpbhcjkllfonhaaGoodL
import Derived.Test.YtpbhcjkllfonhaaElder
import Derived.Test.YtpbhcjkllfonhaaVerCount
import Derived.Test.YtpbhcjkllfonhaaVerSort0
import Derived.Test.YtpbhcjkllfonhaaActMem
namespace Go.Proofs.Ytpbhcjkllfonhaa
open Go.RowKit Go.Joins Go.Shelf
attribute [local go_sem ↓] Go.wp_at_zero Go.wp_at_succ

theorem le_mill {n k : Nat} (h : n ≤ 50 + 2000 * k) (hk : k ≤ 41) : n ≤ 1000000 := by omega
theorem riseA_pair {l : List (ByteArray × ByteArray)} (h : riseA l) : riseP l := by
  show l.Pairwise _
  rw [List.pairwise_iff_getElem]
  have step : ∀ d i (hi : i < l.length) (hj : i + d + 1 < l.length), ltS l[i].1 l[i + d + 1].1 = true := by
    intro d
    induction d with
    | zero =>
      intro i hi hj
      have := h (i + 1) hj i hi rfl
      rw [leS_not] at this
      simpa using this
    | succ d ih =>
      intro i hi hj
      have h1 := ih i hi (by omega)
      have h2 := h (i + d + 1 + 1) (by omega) (i + d + 1) (by omega) rfl
      rw [leS_not] at h2
      have h3 : ltS l[i + d + 1].1 l[i + d + 1 + 1].1 = true := by simpa using h2
      exact ltS_trans h1 h3
  intro i j hi hj hij
  have := step (j - i - 1) i hi (by omega)
  have e : i + (j - i - 1) + 1 = j := by omega
  simp only [e] at this
  exact this
set_option maxRecDepth 4000 in
set_option maxHeartbeats 8000000 in
theorem versionsSays_walk (rows : List (ByteArray × ByteArray)) (ra : Option Addr) (rc : Nat) (acts : List ActL) (aa : Option Addr) (ac : Nat) (w : World)
    (hr : heldSp w ra rows) (hnil : ra = none → rc = 0 ∧ rows = []) (hd : heldAc w aa acts) :
    Calls Try.prog 3 #[.slice ra rows.length rc, .slice aa acts.length ac] w fun e w' => e = .returned (.bool true) ∧ Below w.heap.size w w' := by
  have HR := hide hr
  have HD := hide hd
  have HNIL := hide hnil
  clear hr hd hnil
  go_enter Try.func3, Try.ntmps3
  go_wp2_with (first
    | (go_at_call 4; refine (elder_any _).mono ?_; rintro e w1 ⟨rfl, hb1⟩; have HB1 := hide hb1; clear hb1)
    | (go_at_call 5; refine (lightAc_held acts 40 ac aa _ (heldAc_on HB1.out HD.out) (by omega)).mono ?_; rintro e w2 ⟨rfl, rfl⟩; cases hlA : lightActs acts 40)
    | (go_at_call 6; refine (lawRows_any rows ra rc _ (heldSp_on HB1.out HR.out)).mono ?_; rintro e w3 ⟨v, rfl, hgood, hb3⟩; have HGD := hide hgood; have HB3 := hide (below_on HB1.out (Nat.le_refl _) hb3); clear hb3 hgood; cases v))
  · go_ret
    exact ⟨rfl, HB1.out⟩
  · go_ret
    exact ⟨rfl, HB3.out⟩
  obtain ⟨hgb, hri⟩ := HGD.out (by trivial)
  have hrn : rows.length ≤ 50 := hgb.1
  have HRK : Hid (∀ r ∈ rows, r.1.size ≤ 1000) := fun r hr => by have := hgb.2 r hr; omega
  have HPR := hide (riseA_pair hri)
  have HLA := hide hlA
  clear HGD hgb hri hlA HB1
  refine (new_any rows ra rc _ (heldSp_on HB3.out HR.out) (by omega) (fun r hr => by have := HRK.out r hr; omega)).mono ?_
  rintro e w4 ⟨vb, rfl, hb4, mb, D4, g4, hv4⟩
  have hb5 := below_alloc1 w4 (Obj.cells #[Value.slice ra rows.length rc] 22)
  have HV5 := hide (hv4.on hb5)
  have hs4 := hb4.size
  have hs3 := HB3.out.size
  have HM5 : Hid (Mid w (w4.alloc (Obj.cells #[Value.slice ra rows.length rc] 22)) w3.heap.size vb mb 0 g4 (.slice (some ⟨w4.heap.size, 0, none⟩) 1 1) [⟨ra, rc, rows⟩]) := {
    own := World.ownsRow_lit w4 #[Value.slice ra rows.length rc] 1 (by omega) (by unfold maxLen; omega) rfl
    ofar := fun k e hin => by
      have e' : w4.heap.size = k := by simpa [Value.ownBlock] using e
      have := hv4.lt hin
      omega
    prs := fun p hp => by
      rw [List.mem_singleton.1 hp]
      exact ⟨heldSp_on (below_on (below_on HB3.out (Nat.le_refl _) hb4) (Nat.le_refl _) hb5) HR.out, HNIL.out, fun hne b off e hin => by
        have a := held_lt HR.out hne e
        have c := VS_low hv4 hin
        omega, HPR.out, HRK.out, by omega⟩
    poff := fun q hq hne b off e e' => by
      rw [List.mem_singleton.1 hq] at hne e
      have a := held_lt HR.out hne e
      have e2 : w4.heap.size = b := by simpa [Value.ownBlock] using e'
      omega
    bel := below_on (below_on HB3.out (Nat.le_refl _) hb4) (Nat.le_refl _) hb5
    lo := hs3
    hi := by simp; omega }
  have HS5 : Hid (Said [⟨ra, rc, rows⟩] (initR rows) 0 0 rows.length) := {
    pos := by simp
    cnt := by simp
    say := fun m h _ => by
      have e : m = 0 := by simpa using h
      subst e
      exact say_init HPR.out
    up := upTo_init rows
    fro := by simp
    nb := by omega
    rl := fun key => by have := initR_len rows key; omega
    ks := ⟨rows.map (·.1), by simp; omega, fun key h => initR_keys rows key h⟩ }
  have HB4 := hide hb4
  clear hb4 hb5 hv4
  go_wp2_with fail
  generalize (w4.alloc (Obj.cells #[Value.slice ra rows.length rc] 22)) = w5 at *
  have hal : acts.length ≤ 40 := by have := HLA.out; simp only [lightActs, Bool.and_eq_true, decide_eq_true_eq] at this; exact this.1
  go_loopw [7, 8, 9] (fun pv fv iv wr => ∃ (k fr n : Nat) (Ps : List Pr) (D : DataW Value) (g : ByteArray → Value) (R : ByteArray → List Ver), k ≤ acts.length ∧ fv = .int .i64 fr ∧ iv = .int .i64 k ∧ VS wr w3.heap.size vb mb ((Ps.length - 1 : Nat) : Int) n D g R ∧ Mid w wr w3.heap.size vb mb k g pv Ps ∧ Said Ps R fr k n) (fun _ _ iv _ => acts.length - (intOf iv).toNat)
  case atStart => exact ⟨0, 0, rows.length, [⟨ra, rc, rows⟩], D4, g4, initR rows, Nat.zero_le _, rfl, rfl, HV5.out, HM5.out, HS5.out⟩
  case round =>
    obtain ⟨k, fr, n, Ps, D, g, R, hk, rfl, rfl, hvs, hmid, hsaid⟩ := hrel
    have HVS := hide hvs
    have HM := hide hmid
    have HS := hide hsaid
    clear hvs hmid hsaid HV5 HM5 HS5
    by_cases hlt : k < acts.length
    · have hlt' : (k : Int) < (acts.length : Int) := by omega
      rcases HD.out with e | ⟨b, off, e, hac⟩
      · rw [e] at hlt; simp at hlt
      subst e
      have HXW := hide (hac k hlt)
      have hx := (hac k hlt).on HM.out.bel
      have HLX : Hid (lightAct acts[k] = true) := by
        have := HLA.out
        simp only [lightActs, Bool.and_eq_true, List.all_eq_true] at this
        exact this.2 _ (List.getElem_mem hlt)
      clear hac
      generalize acts[k] = x at *
      have x0 := hx.kind
      have x1 := hx.a
      have x2 := hx.b
      have x3 := hx.c
      have x4 := hx.k
      have x5 := hx.s
      have x6 := hx.t
      have x7 := hx.cl
      have x8 := hx.sl
      have HX := hide hx
      clear hx
      have hbX := below_alloc1 wr ((Obj.cells #[Value.string x.kind, Value.int .i64 x.a, Value.int .i64 x.b, Value.int .i64 x.c, Value.int .u64 x.k, Value.string x.s, Value.string x.t, Value.slice x.ca x.chs.length x.cc, Value.slice x.sa x.sps.length x.sc] 34))
      have y0 : (wr.alloc (Obj.cells #[Value.string x.kind, Value.int .i64 x.a, Value.int .i64 x.b, Value.int .i64 x.c, Value.int .u64 x.k, Value.string x.s, Value.string x.t, Value.slice x.ca x.chs.length x.cc, Value.slice x.sa x.sps.length x.sc] 34)).cell? ⟨wr.heap.size, 0, none⟩ = some (.string x.kind) := cell_new _ _ _ 0
      have y1 : (wr.alloc (Obj.cells #[Value.string x.kind, Value.int .i64 x.a, Value.int .i64 x.b, Value.int .i64 x.c, Value.int .u64 x.k, Value.string x.s, Value.string x.t, Value.slice x.ca x.chs.length x.cc, Value.slice x.sa x.sps.length x.sc] 34)).cell? ⟨wr.heap.size, 1, none⟩ = some (.int .i64 x.a) := cell_new _ _ _ 1
      have y5 : (wr.alloc (Obj.cells #[Value.string x.kind, Value.int .i64 x.a, Value.int .i64 x.b, Value.int .i64 x.c, Value.int .u64 x.k, Value.string x.s, Value.string x.t, Value.slice x.ca x.chs.length x.cc, Value.slice x.sa x.sps.length x.sc] 34)).cell? ⟨wr.heap.size, 5, none⟩ = some (.string x.s) := cell_new _ _ _ 5
      have y7 : (wr.alloc (Obj.cells #[Value.string x.kind, Value.int .i64 x.a, Value.int .i64 x.b, Value.int .i64 x.c, Value.int .u64 x.k, Value.string x.s, Value.string x.t, Value.slice x.ca x.chs.length x.cc, Value.slice x.sa x.sps.length x.sc] 34)).cell? ⟨wr.heap.size, 7, none⟩ = some (.slice x.ca x.chs.length x.cc) := cell_new _ _ _ 7
      have y8 : (wr.alloc (Obj.cells #[Value.string x.kind, Value.int .i64 x.a, Value.int .i64 x.b, Value.int .i64 x.c, Value.int .u64 x.k, Value.string x.s, Value.string x.t, Value.slice x.ca x.chs.length x.cc, Value.slice x.sa x.sps.length x.sc] 34)).cell? ⟨wr.heap.size, 8, none⟩ = some (.slice x.sa x.sps.length x.sc) := cell_new _ _ _ 8
      have HXF : Hid (¬ inVS vb mb g wr.heap.size) := fun h => by have := HVS.out.lt h; omega
      replace HVS := hide (HVS.out.on hbX)
      replace HM := hide (HM.out.on hbX)
      have hlx := HLX.out
      simp only [lightAct, lightChgs, Bool.and_eq_true, decide_eq_true_eq, List.all_eq_true, lightChg] at hlx
      obtain ⟨⟨⟨hss, _⟩, hcl, hck⟩, _⟩ := hlx
      have HCK : Hid (∀ c ∈ x.chs, c.key.size ≤ 1000) := fun c hc => by have := (hck c hc).1; omega
      have HCO : Hid (x.chs ≠ [] → ∀ b off, x.ca = some ⟨b, off, none⟩ → ¬ inVS vb mb g b) := fun hne b off e hin => by
        rcases HXW.out.hc with e' | ⟨b', off', e', hs⟩
        · exact hne e'
        · rw [e] at e'
          cases e'
          have a := World.block_lt_of_cell? _ _ (hs 0 (List.length_pos_iff.2 hne)).1
          have c := VS_low HVS.out hin
          have d : w.heap.size ≤ w3.heap.size := HB3.out.size
          have a' : b < w.heap.size := a
          omega
      replace HX := hide (HX.out.on hbX)
      obtain ⟨pg, pc, rfl⟩ : ∃ pg pc, u7 = .slice (some ⟨pg, 0, none⟩) Ps.length pc := by
        rcases own_form HM.out.own with ⟨_, h0⟩ | ⟨pg, pc, hv, _⟩
        · have := HS.out.pos; omega
        · exact ⟨pg, pc, hv⟩
      have hXs : wr.heap.size < (wr.alloc (Obj.cells #[Value.string x.kind, Value.int .i64 x.a, Value.int .i64 x.b, Value.int .i64 x.c, Value.int .u64 x.k, Value.string x.s, Value.string x.t, Value.slice x.ca x.chs.length x.cc, Value.slice x.sa x.sps.length x.sc] 34)).heap.size := by simp
      have hpos := HS.out.pos
      have hcnt := HS.out.cnt
      have hnb := HS.out.nb
      have hfro := HS.out.fro
      clear hck hbX
      cases hc : (x.kind.toList == [99, 111, 109, 109, 105, 116]) with
      | true =>
        go_wp2_with fail
        generalize (wr.alloc (Obj.cells #[Value.string x.kind, Value.int .i64 x.a, Value.int .i64 x.b, Value.int .i64 x.c, Value.int .u64 x.k, Value.string x.s, Value.string x.t, Value.slice x.ca x.chs.length x.cc, Value.slice x.sa x.sps.length x.sc] 34)) = wx at *
        clear x0 x1 x2 x3 x4 x5 x6 x7 x8
        by_cases hf : deedFault x.chs = 0
        · have HF := hide hf
          refine (commit_good x.chs x.ca x.cc _ HVS.out HM.out.hi HX.out.hc (by omega) (fun c hc => by have := HCK.out c hc; omega) HCO.out (by omega) (by omega) (by omega) (fun key => by have := HS.out.rl key; omega) hf).mono ?_
          rintro e w7 ⟨rfl, D7, g7, hv7, hb7, hf7⟩
          replace HM := hide (HM.out.far hb7 hf7)
          have HV7 := hide hv7
          have hj7 := (hf7 wr.heap.size hXs HXF.out).1
          replace y7 := (World.cell?_of_block hj7).trans y7
          have HC7 := hide ((HXW.out.on HM.out.bel).hc)
          clear hv7 hb7 hf7 hj7 hf y0 y1 y5 y8
          go_wp2_with fail
          refine (rdeed_any x.chs x.ca x.cc _ HC7.out (by omega) HCK.out).mono ?_
          rintro e w8 ⟨rfl, hb8⟩
          rw [HF.out]
          replace HV7 := hide (HV7.out.on hb8)
          replace HM := hide (HM.out.on hb8)
          replace HC7 := hide (heldCh_on hb8 HC7.out)
          replace y7 := cell_on hb8 y7
          clear hb8
          obtain ⟨j0, hj0⟩ : ∃ j, Ps.length = j + 1 := ⟨Ps.length - 1, by omega⟩
          have hj0l : j0 < Ps.length := by omega
          have cp := HM.out.cell j0 hj0l
          have HPA := hide (HM.out.prs _ (List.getElem_mem hj0l))
          have k1 : (Ps.length : Int) - 1 = (j0 : Int) := by omega
          have k2 : (j0 : Int) < (Ps.length : Int) := by omega
          have k3 : IntKind.i64.wrap ((Ps.length : Int) - 1) = (j0 : Int) := by rw [k1, IntKind.wrap_i64]; omega
          have k4 : (0 : Int) ≤ (j0 : Int) := Int.natCast_nonneg _
          have k5 : IntKind.i64.wrap (j0 : Int) = (j0 : Int) := by rw [IntKind.wrap_i64]; omega
          have HJ0 := hide hj0
          have HPE : Hid (Ps[j0]'hj0l = Ps[Ps.length - 1]'(Nat.sub_lt hpos Nat.one_pos)) := by unfold Hid; congr 1; omega
          clear hj0
          have hPl := HPA.out.len
          generalize hP : Ps[j0] = P at *
          have HP := hide hP
          clear hP
          obtain ⟨i1, hi1, hz1, hs1, hb1⟩ := info_parts rows_info
          have hs8 := HM.out.hi
          go_wp2
          go_region_law (first
            | (go_simp; go_at_call 10; refine (rapplied_any P.l P.ao P.cap x.chs x.ca x.cc _ (heldSp_on (Below.refl _ _).drew HPA.out.held) HPA.out.nil (heldCh_on (Below.refl _ _).drew HC7.out) (by omega) (by omega)).mono ?_; rintro e w9 ⟨v9, rfl, ho9, hb9'⟩; have hb9 : Below w8.heap.size w8 w9 := below_on (Below.refl _ _).drew (Nat.le_refl _) hb9'; obtain ⟨na, nc, rfl, hh9⟩ := ownP_held ho9; have HO9 := hide ho9; have HH9 := hide hh9; have HM9 := hide (HM.out.on hb9); have hs9 := hb9.size; clear ho9 hh9 hb9')
            | (refine step_append_lies _ (by rfl) _ _ _ (by rfl) w3.heap.size 22 i1 _ 1 24 Try.underlying29 hi1 hz1 hs1 hb1 rfl (by omega) (.slice (some ⟨pg, 0, none⟩) Ps.length pc) _ _ (by rfl) (HM9.out.own.alloc _) ⟨w9.heap.size, 0, none⟩ 1 1 [.slice na (appliedA P.l x.chs).length nc] (by rfl) (by rfl) (World.news_of_block (cs := #[.slice na (appliedA P.l x.chs).length nc]) (t := 22) (fr := (0, 0)) (heap_alloc_new w9 _)) (by simp [Value.oneCell']) (by omega) (by unfold maxLen; omega) (by omega) (by simp; omega) (w9.heap.size + 1) (by simp) ?_; intro gk ck w10 ho10 hgrow hat10 hlt10))
          all_goals
            obtain ⟨hm11, hv11⟩ := Mid.next HM.out HV7.out HPA.out hb9 HO9.out hcl HCK.out hgrow hat10 ho10
            have HM11 := hide hm11
            have e11 : (((Ps.length - 1 : Nat) : Int) + 1) = (((Ps ++ [(⟨na, nc, appliedA P.l x.chs⟩ : Pr)]).length - 1 : Nat) : Int) := by simp; omega
            rw [e11] at hv11
            have HV11 := hide hv11
            have HS11 := hide (HS.out.commit hcl (p := ⟨na, nc, appliedA P.l x.chs⟩) (by rw [← HPE.out]; exact HPA.out.rise) (by rw [← HPE.out]))
            rw [e11] at HS11
            have q1 : ((Ps.length - 1 : Nat) : Int) + 1 = (Ps.length : Int) := by omega
            have HL11 : Hid ((((Ps ++ [(⟨na, nc, appliedA P.l x.chs⟩ : Pr)]).length - 1 : Nat) : Int) = (Ps.length : Int)) := by unfold Hid; rw [← e11]; exact q1
            clear hm11 hv11 e11 hgrow hat10 ho10 hlt10
            go_wp2_with (first
              | (go_at_call 11; refine (same_nil 0 _).mono ?_; rintro e w12 ⟨rfl, rfl⟩)
              | (go_at_call 19; refine (now_any _ HV11.out).mono ?_; rintro e w13 ⟨rfl, rfl⟩; rw [HL11.out]))
            exact ⟨⟨k + 1, fr, n + x.chs.length, Ps ++ [⟨na, nc, appliedA P.l x.chs⟩], D7, g7, _, by omega, rfl, by go_num, HV11.out, HM11.out, HS11.out⟩, by simp [intOf]; omega⟩
        · have HF := hide hf
          have HEF : Hid (errV (deedFault x.chs) = .iface 68 (.int .i64 (deedFault x.chs))) := by unfold Hid errV; rw [if_neg hf]
          have hf1 : 0 < deedFault x.chs := by omega
          have hf2 : (0 : Int) < (deedFault x.chs : Int) := by omega
          have hf3 : ¬ ((deedFault x.chs : Int) = 0) := by omega
          clear hf
          refine (commit_bad x.chs x.ca x.cc vb _ HX.out.hc (by omega) (fun c hc => by have := HCK.out c hc; omega) HF.out).mono ?_
          rintro e w7 ⟨rfl, hb7⟩
          replace HVS := hide (HVS.out.on hb7)
          replace HM := hide (HM.out.on hb7)
          replace HX := hide (HX.out.on hb7)
          replace y7 := cell_on hb7 y7
          have HSO := fun w => hide (same_of (deedFault x.chs) _ w rfl)
          rw [HEF.out]
          go_wp2_with (first
            | (go_at_call 9; refine (rdeed_any x.chs x.ca x.cc _ HX.out.hc (by omega) HCK.out).mono ?_; rintro e w8 ⟨rfl, hb8⟩; replace HVS := hide (HVS.out.on hb8); replace HM := hide (HM.out.on hb8); clear hb8)
            | (go_at_call 11; refine (same_of (deedFault x.chs) _ _ (by rw [if_neg HF.out])).mono ?_; rintro e w9 ⟨rfl, rfl⟩)
            | (go_at_call 19; refine (now_any _ HVS.out).mono ?_; rintro e w10 ⟨rfl, rfl⟩))
          exact ⟨⟨k + 1, fr, n, Ps, D, g, R, by omega, rfl, by go_num, HVS.out, HM.out.step, HS.out.step⟩, by simp [intOf]; omega⟩
      | false =>
        cases hv : (x.kind.toList == [118, 97, 99, 117, 117, 109]) with
        | true =>
          go_wp2_with fail
          generalize (wr.alloc (Obj.cells #[Value.string x.kind, Value.int .i64 x.a, Value.int .i64 x.b, Value.int .i64 x.c, Value.int .u64 x.k, Value.string x.s, Value.string x.t, Value.slice x.ca x.chs.length x.cc, Value.slice x.sa x.sps.length x.sc] 34)) = wx at *
          clear x0 x1 x2 x3 x4 x5 x6 x7 x8
          refine (vacuum_any x.a _ HVS.out HM.out.hi (by omega) (fun key => by have := HS.out.rl key; omega)).mono ?_
          rintro e w7 ⟨rfl, hvp⟩
          obtain ⟨K, n', D7, g7, hK, ⟨_, hn'⟩, hv7, hb7, hf7⟩ := hvp
          replace HM := hide (HM.out.far hb7 hf7)
          have HV7 := hide hv7
          have hj7 := (hf7 wr.heap.size hXs HXF.out).1
          replace y1 := (World.cell?_of_block hj7).trans y1
          have HK := hide hK
          clear hv7 hb7 hf7 hj7 hK y0 y5 y7 y8
          obtain ⟨j0, hj0⟩ : ∃ j, Ps.length = j + 1 := ⟨Ps.length - 1, by omega⟩
          have hj0l : j0 < Ps.length := by omega
          have cp := HM.out.cell j0 hj0l
          have HPA := hide (HM.out.prs _ (List.getElem_mem hj0l))
          have HSP : Hid (sayR R (j0 : Int) Ps[j0].l) := HS.out.say j0 hj0l (by omega)
          have HUP : Hid (upToR R (j0 : Int)) := by have := HS.out.up; rw [hj0, Nat.add_sub_cancel] at this; exact this
          have HL0 : Hid (((Ps.length - 1 : Nat) : Int) = (j0 : Int)) := by unfold Hid; omega
          have k1 : (Ps.length : Int) - 1 = (j0 : Int) := by omega
          have k2 : (j0 : Int) < (Ps.length : Int) := by omega
          have k3 : IntKind.i64.wrap ((Ps.length : Int) - 1) = (j0 : Int) := by rw [k1, IntKind.wrap_i64]; omega
          have k4 : (0 : Int) ≤ (j0 : Int) := Int.natCast_nonneg _
          have k5 : IntKind.i64.wrap (j0 : Int) = (j0 : Int) := by rw [IntKind.wrap_i64]; omega
          obtain ⟨fr', hfr'⟩ : ∃ f : Nat, max (fr : Int) (min x.a (j0 : Int)) = (f : Int) := ⟨(max (fr : Int) (min x.a (j0 : Int))).toNat, by omega⟩
          have HJ0 := hide hj0
          have HFR := hide hfr'
          have HS7 := hide (HS.out.vac (n' := n') HK.out hn' (by omega) (fr' := fr') (a := x.a) (by omega) (by omega) (by omega))
          clear hj0 hfr'
          generalize Ps[j0] = P at *
          have HN7 : Hid (n' ≤ 1000000) := hide (le_mill HS7.out.nb (by omega))
          by_cases hge : (j0 : Int) ≤ x.a
          · have hge' : decide ((j0 : Int) ≤ x.a) = true := by simpa using hge
            have HCN : Hid (∀ m : OnW w7, Calls Try.prog 13 #[.pointer (some ⟨vb, 0, none⟩)] m.w fun e w' => e = .returned (.int .i64 (P.l.length : Nat)) ∧ Below m.w.heap.size m.w w') := fun m => (count_v m.w (HV7.out.on m.on) HN7.out (fun key => by have := HS7.out.rl key; omega)).mono (by
              rintro e w' ⟨K2, rfl, hK2, hb2⟩
              rw [count_all HK.out hK2 (upTo_mono HUP.out hge) HPA.out.rise (fun r hr => by have := HPA.out.keys r hr; unfold maxLen; omega) (say_late HUP.out hge HSP.out)]
              exact ⟨rfl, hb2⟩)
            go_wp2
            have nS := OnW.some w7
            have n0 : ∀ m : OnW w7, m.w.cell? ⟨pg, j0, none⟩ = some (.slice P.ao P.l.length P.cap) := fun m => m.cell cp
            refine wp_region_on (by kernel_rfl) (by kernel_rfl) ?_
            repeat (go_big_quiet_step ((first
              | (go_at_call 13; rename_i m; exact on_call (HCN.out m)))))
            refine wpQuiet_nil ?_
            intro w8 hw8
            replace hw8 := on_end hw8
            clear nS n0 HCN
            replace HV7 := hide (HV7.out.on hw8)
            replace HM := hide (HM.out.on hw8)
            clear hw8
            go_wp2_with (first
              | (go_at_call 19; refine (now_any _ HV7.out).mono ?_; rintro e w13 ⟨rfl, rfl⟩; rw [HL0.out]))
            exact ⟨⟨k + 1, fr', n', Ps, D7, g7, _, by omega, by rw [HFR.out], by go_num, HV7.out, HM.out.step, HS7.out⟩, by simp [intOf]; omega⟩
          · have hge' : decide ((j0 : Int) ≤ x.a) = false := by simpa using hge
            go_wp2
            have nS := OnW.some w7
            have n0 : ∀ m : OnW w7, m.w.cell? ⟨pg, j0, none⟩ = some (.slice P.ao P.l.length P.cap) := fun m => m.cell cp
            refine wp_region_on (by kernel_rfl) (by kernel_rfl) ?_
            repeat (go_big_quiet_step (fail))
            refine wpQuiet_nil ?_
            intro w8 hw8
            replace hw8 := on_end hw8
            clear nS n0
            replace HV7 := hide (HV7.out.on hw8)
            replace HM := hide (HM.out.on hw8)
            clear hw8
            go_wp2_with (first
              | (go_at_call 19; refine (now_any _ HV7.out).mono ?_; rintro e w13 ⟨rfl, rfl⟩; rw [HL0.out]))
            exact ⟨⟨k + 1, fr', n', Ps, D7, g7, _, by omega, by rw [HFR.out], by go_num, HV7.out, HM.out.step, HS7.out⟩, by simp [intOf]; omega⟩
        | false =>
          obtain ⟨j0, hj0⟩ : ∃ j, Ps.length = j + 1 := ⟨Ps.length - 1, by omega⟩
          obtain ⟨nn, hnn⟩ : ∃ f : Nat, min (max x.a (fr : Int)) ((Ps.length : Int) + 3) = (f : Int) := ⟨(min (max x.a (fr : Int)) ((Ps.length : Int) + 3)).toNat, by omega⟩
          obtain ⟨q, hq⟩ : ∃ f : Nat, min (nn : Int) (j0 : Int) = (f : Int) := ⟨min nn j0, by omega⟩
          have hql : q < Ps.length := by omega
          have hqf : fr ≤ q := by omega
          have cp := HM.out.cell q hql
          have HPA := hide (HM.out.prs _ (List.getElem_mem hql))
          have HSP : Hid (sayR R (nn : Int) Ps[q].l) := by
            have h1 := HS.out.say q hql hqf
            by_cases hle : nn ≤ j0
            · have : q = nn := by omega
              subst this; exact h1
            · have e : q = j0 := by omega
              have hu : upToR R (q : Int) := by rw [e]; have := HS.out.up; rw [hj0, Nat.add_sub_cancel] at this; exact this
              exact say_late hu (by omega) h1
          have HL0 : Hid (((Ps.length - 1 : Nat) : Int) = (j0 : Int)) := by unfold Hid; omega
          have k1 : (Ps.length : Int) - 1 = (j0 : Int) := by omega
          have k2 : (q : Int) < (Ps.length : Int) := by omega
          have k4 : (0 : Int) ≤ (q : Int) := Int.natCast_nonneg _
          have HRB : Hid (∀ key, (R key).length ≤ 1000000) := fun key => by have := HS.out.rl key; omega
          have HNB : Hid (n ≤ 1000000) := hide (le_mill hnb (by omega))
          have hss' := hss
          have HPL := hide HPA.out.len
          generalize Ps[q] = P at *
          have hpl : P.l.length ≤ 1000 := by have := HPL.out; omega
          have HRV : Hid (behindV (R x.s) (nn : Int) = valR P.l x.s) := HSP.out x.s
          have HJ0 := hide hj0
          clear hj0
          go_wp2_with fail
          generalize (wr.alloc (Obj.cells #[Value.string x.kind, Value.int .i64 x.a, Value.int .i64 x.b, Value.int .i64 x.c, Value.int .u64 x.k, Value.string x.s, Value.string x.t, Value.slice x.ca x.chs.length x.cc, Value.slice x.sa x.sps.length x.sc] 34)) = wx at *
          clear x0 x1 x2 x3 x4 x5 x6 x7 x8 hnn hq
          have HPH := hide HPA.out.held
          go_wp2_with (first
            | (go_at_call 14; refine (read_any x.s (nn : Int) _ HVS.out (by unfold maxLen; omega) (HRB.out x.s)).mono ?_; rintro e w7 ⟨rfl, hb7⟩; rw [HRV.out]; replace HVS := hide (HVS.out.on hb7); replace HM := hide (HM.out.on hb7); replace HPH := hide (heldSp_on hb7 HPH.out); replace y5 := cell_on hb7 y5; replace y8 := cell_on hb7 y8; replace HX := hide (HX.out.on hb7); clear hb7)
            | (go_at_call 15; refine (rvalue_any P.l P.ao P.cap x.s _ HPH.out (by omega)).mono ?_; rintro e w8 ⟨rfl, hb8⟩; replace HVS := hide (HVS.out.on hb8); replace HM := hide (HM.out.on hb8); replace HPH := hide (heldSp_on hb8 HPH.out); replace y8 := cell_on hb8 y8; replace HX := hide (HX.out.on hb8); clear hb8))
          by_cases h0 : x.sps.length = 0
          · have z0 : ¬ ((0 : Int) < (x.sps.length : Int)) := by omega
            refine wp_loop_rounds 1 ?_
            rw [rounds_succ]
            go_wp2_with (first
              | (go_at_call 19; refine (now_any _ HVS.out).mono ?_; rintro e w13 ⟨rfl, rfl⟩; rw [HL0.out]))
            exact ⟨⟨k + 1, fr, n, Ps, D, g, R, by omega, rfl, by go_num, HVS.out, HM.out.step, HS.out.step⟩, by simp [intOf]; omega⟩
          · have z0 : (0 : Int) < (x.sps.length : Int) := by omega
            have hl0 : 0 < x.sps.length := by omega
            rcases HX.out.hs with e | ⟨sb, soff, esa, hsp⟩
            · rw [e] at hl0; simp at hl0
            obtain ⟨s0, s1⟩ := hsp 0 hl0
            rw [esa] at y8
            have HSC : Hid (∀ W, Below w8.heap.size w8 W → Calls Try.prog 17 #[.pointer (some ⟨vb, 0, none⟩), .agg #[.string x.sps[0].1, .string x.sps[0].2], .int .i64 nn] W fun e w' => ∃ v, e = .returned v ∧ ownP w' W.heap.size v (inR P.l x.sps[0]) ∧ Below W.heap.size W w') := fun W hb => (scan_any sort_says sort_nil x.sps[0] (nn : Int) W (HVS.out.on hb) HNB.out HRB.out).mono (by
              rintro e w' ⟨v, rfl, hb2, F, hoF, hsF, hnF, hmF⟩
              have eF : F = inR P.l x.sps[0] := say_in HPA.out.rise (fun r hr => by have := HPA.out.keys r hr; omega) HSP.out hsF hnF hmF
              rw [eF] at hoF
              exact ⟨v, rfl, hoF, hb2⟩)
            have HIN : Hid (∀ W, Below w8.heap.size w8 W → Calls Try.prog 18 #[.slice P.ao P.l.length P.cap, .agg #[.string x.sps[0].1, .string x.sps[0].2]] W fun e w' => ∃ v, e = .returned v ∧ ownP w' W.heap.size v (inR P.l x.sps[0]) ∧ Below W.heap.size W w') := fun W hb => rin_any P.l P.ao P.cap x.sps[0] W (heldSp_on hb HPH.out) hpl
            have HFL : Hid ((inR P.l x.sps[0]).length ≤ 9223372036854775807) := hide (Nat.le_trans (List.length_filter_le _ _) (by omega))
            generalize inR P.l x.sps[0] = F at *
            have t0 : w8.cell? ⟨sb, soff, none⟩ = some (.string x.sps[0].1) := by simpa using s0
            have t1 : w8.cell? ⟨sb, soff + 1, none⟩ = some (.string x.sps[0].2) := by simpa using s1
            clear s0 s1 hsp esa HPA HRV
            generalize x.sps[0] = sp at *
            refine wp_loop_rounds 2 ?_
            rw [rounds_succ]
            go_wp2
            go_region_held3 (fun w' => w'.cell? ⟨wr.heap.size, 8, none⟩ = some (.slice (some ⟨sb, soff, none⟩) x.sps.length x.sc) ∧ w'.cell? ⟨sb, soff, none⟩ = some (.string sp.1) ∧ w'.cell? ⟨sb, soff + 1, none⟩ = some (.string sp.2))
              (first
                | go_keep
                | exact ⟨cell_on HB11.out y8, cell_on HB11.out t0, cell_on HB11.out t1⟩
                | exact ⟨cell_on hbT y8, cell_on hbT t0, cell_on hbT t1⟩
                | exact ⟨cell_on hbU y8, cell_on hbU t0, cell_on hbU t1⟩
                | exact ⟨cell_on hbS y8, cell_on hbS t0, cell_on hbS t1⟩
                | exact ⟨cell_on hbI y8, cell_on hbI t0, cell_on hbI t1⟩)
              (first
                | (go_at_call 17; refine (HSC.out _ hbI).mono ?_; rintro e w9 ⟨v9, rfl, ho9, hb9⟩; obtain ⟨fa, fc, rfl, hF9⟩ := ownP_held ho9; have HF9 := hide hF9; have HG9 := hide (heldSp_on hb9 hG); have hbT : Below w8.heap.size w8 w9 := below_on hbI (Nat.le_refl _) hb9; clear ho9 hb9 hF9)
                | (go_at_call 17; refine (HSC.out _ (Below.refl _ _).drew).mono ?_; rintro e w9 ⟨v9, rfl, ho9, hb9⟩; obtain ⟨fa, fc, rfl, hF9⟩ := ownP_held ho9; have hbS : Below w8.heap.size w8 w9 := below_on (Below.refl _ _).drew (Nat.le_refl _) hb9; clear ho9 hb9)
                | (go_at_call 18; refine (HIN.out _ hbS).mono ?_; rintro e w10 ⟨v10, rfl, ho10, hb10⟩; obtain ⟨ga, gc, rfl, hG⟩ := ownP_held ho10; have HG9 := hide hG; have HF9 := hide (heldSp_on hb10 hF9); have hbU : Below w8.heap.size w8 w10 := below_on hbS (Nat.le_refl _) hb10; clear ho10 hb10 hG)
                | (go_at_call 18; refine (HIN.out _ (Below.refl _ _).drew).mono ?_; rintro e w10 ⟨v10, rfl, ho10, hb10⟩; obtain ⟨ga, gc, rfl, hG⟩ := ownP_held ho10; have hbI : Below w8.heap.size w8 w10 := below_on (Below.refl _ _).drew (Nat.le_refl _) hb10; clear ho10 hb10)
                | (go_at_call 16; refine (sameRows_held F fa ga fc gc _ HF9.out HG9.out HFL.out).mono ?_; rintro e w11 ⟨rfl, hb11⟩; first | (have HB11 := hide (below_on hbT (Nat.le_refl _) hb11)) | (have HB11 := hide (below_on hbU (Nat.le_refl _) hb11))))
            all_goals
              have HV11 := hide (HVS.out.on HB11.out)
              have HM11 := hide (HM.out.on HB11.out)
              have y11 := cell_on HB11.out y8
              go_wp2
              rw [rounds_succ]
              go_wp2_with (first
                | (go_at_call 19; refine (now_any _ HV11.out).mono ?_; rintro e w13 ⟨rfl, rfl⟩; rw [HL0.out]))
              all_goals exact ⟨⟨k + 1, fr, n, Ps, D, g, R, by omega, rfl, by go_num, HV11.out, HM11.out.step, HS.out.step⟩, by simp [intOf]; omega⟩
    · have ek : k = acts.length := by omega
      subst ek
      have hlt' : ¬ (acts.length : Int) < (acts.length : Int) := by omega
      have HB := hide HM.out.bel
      go_wp2
      go_ret
      exact ⟨rfl, HB.out⟩
end Go.Proofs.Ytpbhcjkllfonhaa
