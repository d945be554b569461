/-
  What haywaintop.TopLog returns: true, of whatever came in.
-/
import Derived.Test.YtkfpfbkdalbjoaaTopLogL
import Derived.Test.YtkfpfbkdalbjoaaDdWant
import Derived.Test.YtkfpfbkdalbjoaaChgSame
import Derived.Test.YtkfpfbkdalbjoaaLightDs
import Derived.Test.YtkfpfbkdalbjoaaSame1
import Derived.Test.YtkfpfbkdalbjoaaDskRestart
import Derived.Test.YtkfpfbkdalbjoaaAppGuard
import Derived.Deep.CutBlock
namespace Go.Proofs.Ytkfpfbkdalbjoaa
open Go.RowKit Go.Joins
attribute [local go_sem ↓] Go.wp_at_zero Go.wp_at_succ

/-- while deeds are added -/
structure TLI (w wr : World) (lb db : Nat) (l : List Dd) (k : Nat) (v : Value) : Prop where
  ex : ∃ S s u dl, LK wr w.heap.size lb db S 1 59 5 u s ∧ LGood s 1 59 5 (dl.map (·.chs)) u ∧ s.now.length = 60 ∧ WantV wr w.heap.size (inL lb S) v dl ∧ (∀ d ∈ dl, d ∈ l) ∧ dl.length ≤ k
  bel : Below w.heap.size w wr
/-- behind them -/
structure TLE (w wr : World) (db : Nat) (l : List Dd) (v v2 : Value) : Prop where
  ex : ∃ S s u u2 dl dl2, DK wr w.heap.size db S s ∧ WantV wr w.heap.size S v dl ∧ WantV wr w.heap.size S v2 dl2 ∧ (dl2 = dl ∨ dl2.length = dl.length + 1) ∧ (∀ d ∈ dl, d ∈ l) ∧ (∀ d ∈ dl2, d ∈ l) ∧ dl.length ≤ 8 ∧ dl2.length ≤ 9 ∧ ∀ k, (restartD s k).now.length = 60 ∧ (LGood (restartD s k) 1 59 5 (dl.map (·.chs)) u ∨ LGood (restartD s k) 1 59 5 (dl2.map (·.chs)) u2)
  bel : Below w.heap.size w wr
theorem new_log : LGood (initD 60) 1 59 5 [] 0 := by
  refine ⟨rfl, rfl, rfl, by show 60 ≤ (List.replicate 60 (zerosB 96)).length; simp, ?_⟩
  unfold HasL
  have hg : (regL (initD 60).now 1 59)[0]? = some (zerosB 96) := by
    rw [regL_get, if_pos (by decide)]
    show (List.replicate 60 (zerosB 96))[1]? = _
    rw [List.getElem?_replicate]
    rfl
  cases hr : regL (initD 60).now 1 59 with
  | nil => rw [hr] at hg; cases hg
  | cons t r =>
    rw [hr] at hg
    have e : t = zerosB 96 := by simpa using hg
    rw [e, scan_none (dec_zero _)]
theorem LK.of_open {w w' : World} {B lb db : Nat} {S : Nat → Prop} {s : DSt} {fr many first u : Nat} {dv : Value} {ds ds2 : List (List Chg)} (hk : DK w B db S s) (ho : OpenAt w w' lb db fr many first dv ds u) (hg : LGood s fr many first ds2 u) (h1 : 1 ≤ first) (h2 : first ≤ 1500000) : LK w' B lb db S fr many first u s :=
  ⟨hk.on ho.bel, ho.hd, fun e => by have := hk.lt e; have := ho.new; omega, Nat.le_trans hk.lo ho.new, hg.us, hg.fit, h1, h2⟩
theorem WantV.shrink {w : World} {N lb : Nat} {S : Nat → Prop} {v : Value} {l : List Dd} (h : WantV w N (inL lb S) v l) : WantV w N S v l := by
  rcases h with h | ⟨g, cap, e, h0, h1, h2, h3, h4⟩
  · exact .inl h
  · exact .inr ⟨g, cap, e, h0, h1, h2, fun e => h3 (.inr e), h4⟩
theorem deedsV_form {w : World} {N : Nat} {v : Value} {l : List Dd} (h : DeedsV w N v l) : ∃ ao cap, v = .slice ao l.length cap := by
  rcases h.1.2 with ⟨e, e2⟩ | ⟨g, cap, cur, e, _⟩
  · exact ⟨none, 0, by rw [e, e2]⟩
  · exact ⟨_, cap, e⟩
def zC : Chg := ⟨⟨#[116, 47, 122]⟩, ⟨#[122]⟩, false⟩
theorem zC_fault : chgFault zC = 0 := by
  have hk : keyL zC.key.data.toList = true := by decide
  unfold chgFault
  rw [hk]
  simp [zC, Lib.toList_data]
  rfl
theorem zC_add {room : Nat} (h : 2 ≤ room) : addF [zC] room = 0 := by
  unfold addF
  rw [if_neg (by show ¬ 12 < 1; decide), if_neg (by show ¬ room < 1 + 1; omega)]
  show (if chgFault zC = 0 then 0 else chgFault zC) = 0
  rw [if_pos zC_fault]
theorem small_of {gl dl l : List Dd} (h : gl.map (·.chs) = dl.map (·.chs)) (hd : ∀ d ∈ dl, d ∈ l) (hl : ∀ d ∈ l, d.chs.length ≤ 14) : ∀ d ∈ gl, d.chs.length ≤ 1000 := fun d hd2 => by
  have : d.chs ∈ gl.map (·.chs) := List.mem_map.2 ⟨d, hd2, rfl⟩
  rw [h] at this
  obtain ⟨y, hy, e⟩ := List.mem_map.1 this
  have := hl y (hd y hy)
  rw [← e]
  show y.chs.length ≤ 1000
  omega
set_option maxRecDepth 8000 in
set_option maxHeartbeats 8000000 in
theorem topLog_walk (l : List Dd) (da : Option Addr) (dc : Nat) (fuse key : Int) (w : World) (hd : heldDs w da l) (hfu : fuse ≤ 9223372036854775807) (hfu0 : -9223372036854775808 ≤ fuse) :
    Calls Try.prog 5 #[.slice da l.length dc, .int .i64 fuse, .int .u64 key] w fun e w' => e = .returned (.bool true) ∧ Below w.heap.size w w' := by
  have HD := hide hd
  clear hd
  have nn := nil_neq_nil
  have ne := nil_eql_nilN
  go_enter Try.func5, Try.ntmps5
  go_wp2_with (first
    | (go_at_call 10; refine (newDisk_good 60 _ (by decide) (by decide)).mono ?_; rintro e w1 ⟨db, rfl, hn1⟩; obtain ⟨⟨S1, hk1⟩, hb1⟩ := hn1; have HK1 := hide hk1; have HB1 := hide hb1; have HOP := hide (lopen_good 1 59 5 _ hk1 rfl (by decide) (by decide) (by decide) new_log.fit); rw [new_log.deeds.1, new_log.deeds.2] at HOP; clear hk1 hb1)
    | (go_at_call 25; refine HOP.out.mono ?_; rintro e w2 ⟨lb, dv, rfl, ho2⟩; have HLK := hide (LK.of_open HK1.out ho2 new_log (by decide) (by decide)); have HRM := hide (lroom_any w2 ho2.hd (Nat.zero_le _) (by decide)); have HB2 := hide (below_on HB1.out (Nat.le_refl _) ho2.bel); obtain ⟨gl, hgl, hge, _⟩ := ho2.de; have hgn : gl = [] := (by simpa using hge); subst hgn; obtain ⟨ga, gc, rfl⟩ := deedsV_form hgl; clear ho2 hgl hge)
    | (go_at_call 28; refine HRM.out.mono ?_; rintro e w3 ⟨rfl, nq, rfl⟩; replace HLK := hide (HLK.out.on (below_drewN (Below.refl _ _) nq)); replace HB2 := hide (below_drewN HB2.out nq); generalize w2.drewN nq = w3 at *)
    | (go_at_call 32; refine (lightDeeds_any l da dc 8 _ (heldDs_on HB2.out HD.out) (by omega)).mono ?_; rintro e w4 ⟨rfl, rfl⟩; cases hlD : lightDeeds l 8)
    | fail)
  · go_ret
    exact ⟨rfl, HB2.out⟩
  have hll : l.length ≤ 8 := by have := hlD; simp only [lightDeeds, Bool.and_eq_true, decide_eq_true_eq] at this; exact this.1
  have HLI : Hid (∀ d ∈ l, d.chs.length ≤ 14 ∧ ∀ c ∈ d.chs, c.key.size ≤ 1000 ∧ c.val.size ≤ 1000) := fun d hd => by
    have := hlD
    simp only [lightDeeds, Bool.and_eq_true, List.all_eq_true, lightChgs, decide_eq_true_eq, lightChg] at this
    obtain ⟨q1, q2⟩ := this.2 d hd
    exact ⟨q1, fun c hc => by have := q2 c hc; omega⟩
  clear hlD
  have HAR : Hid (∀ n : Int, n = min (max fuse (-1)) 200 → Calls Try.prog 20 #[.pointer (some ⟨db, 0, none⟩), .int .i64 n] w4 fun e w' => e = .returned (.tuple #[]) ∧ ActD w4 w' w.heap.size db S1 (armD (initD 60) n)) := fun n hn => darm_any n w4 HLK.out.dk (by omega) (by omega)
  go_upto_block 0 with (first
    | (go_at_call 20; refine (HAR.out _ rfl).mono ?_; rintro e w5 ⟨rfl, ha5⟩; obtain ⟨S5, hk5, hs5⟩ := ha5; have HL5 := hide (HLK.out.step hk5 hs5 rfl); have HB5 := hide (HB2.out.trans hs5.bel); clear hk5 hs5)
    | fail)
  have HT0 : Hid (TLI w w5 lb db l 0 (.slice none 0 0)) := ⟨⟨S5, _, 0, [], HL5.out, new_log.arm _, by show (List.replicate 60 (zerosB 96)).length = 60; simp, .inl ⟨rfl, rfl⟩, fun d hd => absurd hd List.not_mem_nil, Nat.le_refl _⟩, HB5.out⟩
  clear HAR HL5 HB5 HLK HB2 HK1 HB1 HOP HRM
  go_cut [11, 12] (fun v v2 wx => TLE w wx db l v v2)
  case first =>
    go_wp2_with fail
    go_loopw [11, 12, 13] (fun v v2 iv wr => ∃ k : Nat, k ≤ l.length ∧ iv = .int .i64 (k : Int) ∧ v2 = v ∧ TLI w wr lb db l k v) (fun _ _ iv _ => l.length - (intOf iv).toNat)
    case atStart => exact ⟨0, Nat.zero_le _, rfl, rfl, HT0.out⟩
    case round =>
      obtain ⟨k, hk, rfl, rfl, hT⟩ := hrel
      clear HT0
      by_cases hlt : k < l.length
      · have hlt' : (k : Int) < (l.length : Int) := by omega
        have hk0 : (0 : Int) ≤ (k : Int) := by omega
        rcases HD.out with e | ⟨b, off, e, hds⟩
        · rw [e] at hlt; simp at hlt
        subst e
        obtain ⟨cx, hx⟩ := hds k hlt
        obtain ⟨hx1, hx2⟩ := HLI.out _ (List.getElem_mem hlt)
        have HXM := hide (List.getElem_mem hlt)
        clear hds
        generalize l[k] = x at *
        obtain ⟨S, s, u, dl, hLK, hG, hn60, hWV, hdl, hdk⟩ := hT.ex
        have HBR := hide hT.bel
        have cx' := cell_on hT.bel cx
        have HAD := hide (ladd_any x.chs x.ao x.cap wr hLK (heldCh_on hT.bel hx) hx2 (by omega))
        have HGA := hide (hG.add x.chs)
        have HG := hide hG
        have HDL := hide hdl
        have HN60 := hide hn60
        have HW0 := hide hWV
        clear hT hLK hG hdl hWV hn60
        generalize addR 1 59 5 u s x.chs = R at *
        go_upto_region 16 with (first
          | (go_at_call 31; refine HAD.out.mono ?_; rintro e W ⟨rfl, ha3⟩; obtain ⟨S3, hL3, hs3⟩ := ha3; have HL3 := hide hL3; have HW3 := hide (HW0.out.step hs3); have HB3 := hide (HBR.out.trans hs3.bel); clear hL3 hs3)
          | fail)
        have cX := cell_on HB3.out cx
        clear HAD cx' cx hx1 hx2
        have HBR3 := hide HB3.out
        obtain ⟨i1, hi1, hz1, hs1, hb1⟩ := info_parts chl_facts
        have hB3 := HB3.out.size
        have HNW : Hid (∀ (V : World) (j : Nat) (u : Value), [Value.slice x.ao x.chs.length x.cap][j]? = some u → (V.alloc (Obj.cells #[Value.slice x.ao x.chs.length x.cap] 36)).cell? ((⟨V.heap.size, 0, none⟩ : Addr).add j) = some u) := fun V => World.news_of_block (cs := #[Value.slice x.ao x.chs.length x.cap]) (t := 36) (fr := (0, 0)) (heap_alloc_new V _)
        have HNS : Hid (∀ k, W.heap.size ≤ k → ¬ inL lb S3 k) := fun k h e => by
          rcases e with e | e
          · have := HL3.out.hd.lt; omega
          · have := HL3.out.dk.lt e; omega
        go_cut [12] (fun v2 wx => WantV wx w.heap.size (inL lb S3) v2 (dl ++ [x]) ∧ Below W.heap.size W wx)
        case first =>
          rcases HW3.out with ⟨hdl0, hv0⟩ | ⟨gw, cw, hvw, hd0, hNg, hgl, hgS, hgc⟩
          · subst hdl0 hv0
            go_region_law (first
              | (refine step_append_lies _ (by rfl) _ _ _ (by rfl) w.heap.size 36 i1 _ 1 24 Try.underlying55 hi1 hz1 hs1 hb1 rfl (by omega) (.slice none 0 0) 0 [] (by rfl) (World.ownsRow_nil _ _ _ _) ⟨W.heap.size, 0, none⟩ 1 1 [Value.slice x.ao x.chs.length x.cap] (by rfl) (by rfl) (HNW.out W) (by simp [Value.oneCell']) (by omega) (by unfold maxLen; omega) (by omega) (by simp; omega) (W.heap.size + 1) (by simp) ?_; intro g2 c2 w2' ho2 hg2 hat2 hlt2; have hbw2 : Below W.heap.size W w2' := ((below_alloc1 W (Obj.cells #[Value.slice x.ao x.chs.length x.cap] 36)).drew).grown hg2 (by simp) (fun k e => by cases e))
              | fail)
            all_goals
              have HO2 := hide ho2
              have HA2 : Hid (g2 = W.heap.size + 1) := hat2.resolve_left nofun
              have HBW := hide hbw2
              clear ho2 hg2 hat2 hlt2 hbw2
              go_wp2_with fail
              go_meet
              exact ⟨WantV.of_own HO2.out rfl rfl (fun k e => by cases e; exact HNS.out g2 (by rw [HA2.out]; omega)) (by simp), HBW.out⟩
          · subst hvw
            have hpos : 0 < dl.length := List.length_pos_iff.2 hd0
            have HN1 : Hid (∀ V, Below W.heap.size W V → ∀ j u, (dl.map ddV)[j]? = some u → V.cell? ((⟨gw, 0, none⟩ : Addr).add j) = some u) := fun V hb j u hj => by
              have hjl : j < dl.length := by rw [← List.length_map (f := ddV)]; exact (List.getElem?_eq_some_iff.1 hj).1
              rw [List.getElem?_map, List.getElem?_eq_getElem hjl] at hj
              rw [Go.Addr.add_mid, Nat.zero_add, cell_on hb (hgc j hjl)]
              exact hj
            go_region_law (first
              | (refine step_append_lies _ (by rfl) _ _ _ (by rfl) w.heap.size 36 i1 _ 1 24 Try.underlying55 hi1 hz1 hs1 hb1 rfl (by omega) (.slice none 0 0) 0 [] (by rfl) (World.ownsRow_nil _ _ _ _) ⟨gw, 0, none⟩ dl.length cw (dl.map ddV) (by rfl) (by simp) (HN1.out _ (by first | exact (Below.refl _ _).drew | exact (below_alloc1 _ _).drew)) (by simp [ddV, Value.oneCell']) hpos (by unfold maxLen; omega) (by omega) (by simp; omega) _ rfl ?_; intro g1 c1 w1' ho1 hg1 hat1 hlt1; simp only [Nat.zero_add, List.nil_append] at ho1; have hbw1 : Below W.heap.size W w1' := (by first | exact ((Below.refl _ W).drew).grown hg1 (by simp) (fun k e => by cases e) | exact ((below_alloc1 W (Obj.cells #[Value.slice x.ao x.chs.length x.cap] 36)).drew).grown hg1 (by simp) (fun k e => by cases e)); have hge1 : W.heap.size ≤ g1 := hat1.elim (fun e => by cases e) (fun e => by rw [e]; simp); replace cX := cell_on hbw1 cX)
              | (refine step_append_lies _ (by rfl) _ _ _ (by rfl) w.heap.size 36 i1 _ 1 24 Try.underlying55 hi1 hz1 hs1 hb1 rfl (by omega) (.slice (some ⟨g1, 0, none⟩) dl.length c1) _ _ (by rfl) (ho1.alloc _) ⟨w1'.heap.size, 0, none⟩ 1 1 [Value.slice x.ao x.chs.length x.cap] (by rfl) (by rfl) (HNW.out w1') (by simp [Value.oneCell']) (by omega) (by unfold maxLen; omega) (by omega) (by have := hbw1.size; simp; omega) _ rfl ?_; intro g2 c2 w2' ho2 hg2 hat2 hlt2; have hbw2 : Below W.heap.size W w2' := (below_on hbw1 (Nat.le_refl _) (below_alloc1 w1' (Obj.cells #[Value.slice x.ao x.chs.length x.cap] 36))).grown hg2 (by have := hbw1.size; simp; omega) (fun k e => by simp [Value.ownBlock] at e; omega))
              | (refine step_append_lies _ (by rfl) _ _ _ (by rfl) w.heap.size 36 i1 _ 1 24 Try.underlying55 hi1 hz1 hs1 hb1 rfl (by omega) (.slice (some ⟨g1, 0, none⟩) dl.length c1) _ _ (by rfl) ho1 ⟨W.heap.size, 0, none⟩ 1 1 [Value.slice x.ao x.chs.length x.cap] (by rfl) (by rfl) (fun j u hj => hg1.cell (HNW.out W j u hj) (by simp [Value.ownBlock])) (by simp [Value.oneCell']) (by omega) (by unfold maxLen; omega) (by omega) (by have := hbw1.size; omega) _ rfl ?_; intro g2 c2 w2' ho2 hg2 hat2 hlt2; have hbw2 : Below W.heap.size W w2' := hbw1.grown hg2 hbw1.size (fun k e => by simp [Value.ownBlock] at e; omega))
              | fail)
            all_goals
              have HO2 := hide ho2
              have ha2 : W.heap.size ≤ g2 := hat2.elim (fun e => by simp [Value.ownBlock] at e; omega) (fun e => by have := hbw1.size; (first | (simp at e; omega) | omega))
              have HA2 := hide ha2
              have HBW := hide hbw2
              clear ho2 hg2 hat2 hlt2 hbw2 ho1 hg1 hat1 hlt1
              go_wp2_with fail
              go_meet
              exact ⟨WantV.of_own HO2.out (by simp) (by simp [ddV]) (fun k e => by cases e; exact HNS.out g2 HA2.out) (by simp), HBW.out⟩
        case rest =>
          obtain ⟨hw2, hb2⟩ := hcut
          have HWV2 := hide hw2
          have HBC := hide (HBR3.out.trans (hb2.mono hB3))
          have HLC := hide (HL3.out.on hb2)
          have HWC := hide (HW3.out.on hb2)
          clear hw2 hb2
          obtain ⟨q60, hcase⟩ := HGA.out
          have HQ60 := hide (q60.trans HN60.out)
          clear q60
          rcases hcase with ⟨h0, hf0, hG2⟩ | ⟨h1, h2, h3, h4⟩ | ⟨h1, h2, h3, h4, h5⟩
          · have e0 : errV R.1 = .nilIface := by rw [h0]; rfl
            have HG2 := hide hG2
            clear h0 hf0 hG2 HGA
            go_wp2_with fail
            refine ⟨⟨k + 1, by omega, by go_num, rfl, ⟨⟨S3, R.2.2, R.2.1, dl ++ [x], HLC.out, by rw [List.map_append]; exact HG2.out, HQ60.out, HWV2.out, fun d hd => ?_, by rw [List.length_append]; simp; omega⟩, HBC.out⟩⟩, by simp [intOf]; omega⟩
            rcases List.mem_append.1 hd with hd | hd
            · exact HDL.out d hd
            · rw [List.mem_singleton] at hd; rw [hd]; exact HXM.out
          · have e0 : errV R.1 = .iface 82 (.int .i64 R.1) := errD_pos (by rw [h1]; exact h2)
            have e1 : ((R.1 : Int) == 10) = false := by simp; omega
            have HNU := fun w => hide (number_any R.1 w)
            rw [e0] at HNU
            have HR := hide h4
            have n2 := err_not_nil 82 (.int .i64 R.1)
            clear h1 h2 h3 h4 HGA
            go_wp2_with (first
              | (go_at_call 33; refine (HNU _).out.mono ?_; rintro e w7 ⟨rfl, rfl⟩)
              | fail)
            refine ⟨⟨k + 1, by omega, by go_num, rfl, ⟨⟨S3, s, u, dl, ?_, HG.out, HN60.out, HWC.out, HDL.out, by omega⟩, HBC.out⟩⟩, by simp [intOf]; omega⟩
            have := HLC.out
            rw [HR.out] at this
            exact this
          · have e0 : errV R.1 = .iface 82 (.int .i64 10) := by rw [h1]; rfl
            have HNU := fun w => hide (number_any 10 w)
            rw [show errV 10 = .iface 82 (.int .i64 10) from rfl] at HNU
            have n2 := err_not_nil 82 (.int .i64 10)
            have H5 := hide h5
            clear h1 h2 h3 h4 h5 HGA
            go_wp2_with (first
              | (go_at_call 33; refine (HNU _).out.mono ?_; rintro e w7 ⟨rfl, rfl⟩)
              | fail)
            go_meet
            refine ⟨⟨S3, R.2.2, u, u + x.chs.length + 1, dl, dl ++ [x], HLC.out.dk, HWC.out.shrink, HWV2.out.shrink, .inr (by simp), HDL.out, fun d hd => ?_, by omega, by simp; omega, fun kk => ⟨(H5.out kk).1.trans HN60.out, ?_⟩⟩, HBC.out⟩
            · rcases List.mem_append.1 hd with hd | hd
              · exact HDL.out d hd
              · rw [List.mem_singleton] at hd; rw [hd]; exact HXM.out
            · rw [List.map_append]
              exact (H5.out kk).2
      · have ek : k = l.length := by omega
        subst ek
        have hlt' : ¬ (l.length : Int) < (l.length : Int) := by omega
        have HT := hide hT
        clear hT
        go_wp2_with fail
        go_meet
        obtain ⟨S, s, u, dl, hLK, hG, hn60, hWV, hdl, hdk⟩ := HT.out.ex
        exact ⟨⟨S, s, u, u, dl, dl, hLK.dk, hWV.shrink, hWV.shrink, .inl rfl, hdl, hdl, by omega, by omega, fun k => ⟨by rw [(hG.restart k).2]; exact hn60, .inl (hG.restart k).1⟩⟩, HT.out.bel⟩
  case rest =>
    obtain ⟨S, s, u, u2, dl, dl2, hk, hW1, hW2, hrel, hdl, hdl2, hl1, hl2, hres⟩ := hcut.ex
    have HBC := hide hcut.bel
    obtain ⟨h60, hor⟩ := hres key
    obtain ⟨G, uG, hG, hGor⟩ : ∃ G uG, LGood (restartD s key) 1 59 5 G uG ∧ (G = dl.map (·.chs) ∨ G = dl2.map (·.chs)) := by
      rcases hor with h | h
      · exact ⟨_, _, h, .inl rfl⟩
      · exact ⟨_, _, h, .inr rfl⟩
    have HRS := hide (drestart_any key wc hk)
    have HLF : Hid ((restartD s key).left = -1) := rfl
    generalize restartD s key = s9 at *
    have HG := hide hG
    have HW1 := hide hW1
    have HW2 := hide hW2
    have HREL := hide hrel
    have HDL := hide hdl
    have HDL2 := hide hdl2
    have HGO := hide hGor
    have H60 := hide h60
    clear hcut hk hW1 hW2 hrel hdl hdl2 hres hor hG hGor h60 HT0
    go_upto_region 25 with (first
      | (go_at_call 21; refine HRS.out.mono ?_; rintro e w9 ⟨rfl, ha9⟩; obtain ⟨S9, hk9, hs9⟩ := ha9; replace HW1 := hide (HW1.out.step hs9); replace HW2 := hide (HW2.out.step hs9); have HB9 := hide (HBC.out.trans hs9.bel); have HK9 := hide hk9; have HOP := hide (lopen_good 1 59 5 _ hk9 HG.out.down (by decide) (by decide) (by decide) HG.out.fit); rw [HG.out.deeds.1, HG.out.deeds.2] at HOP; clear hk9 hs9)
      | (go_at_call 25; refine HOP.out.mono ?_; rintro e w10 ⟨lb2, gv, rfl, ho2⟩; have HO := hide ho2; clear ho2)
      | fail)
    have HLK := hide (LK.of_open HK9.out HO.out HG.out (by decide) (by decide))
    have HB10 := hide (below_on HB9.out (Nat.le_refl _) HO.out.bel)
    obtain ⟨gl, hgl, hgG, hgn⟩ := HO.out.de
    have HGV : Hid (GotV w10 w9.heap.size (inL lb2 S9) gv gl) := by
      refine ⟨WantV.of_row hgl.1 (fun k e => ?_) hgl.2.2, fun d hd => ⟨hgl.2.1 d hd, fun k e => ?_⟩⟩
      · rintro (rfl | e2)
        · exact HO.out.dn e
        · have h1 := HK9.out.lt e2
          have h2 := (World.ownsRow.lt hgl.1 k e).1
          omega
      · rintro (rfl | e2)
        · exact hgn d hd e
        · have h1 := HK9.out.lt e2
          have h2 := (World.ownsRow.lt (hgl.2.1 d hd) k e).1
          omega
    replace HW1 := hide (HW1.out.on HO.out.bel)
    replace HW2 := hide (HW2.out.on HO.out.bel)
    have hwm := heldDs_mem HD.out
    obtain ⟨a1, c1, hv1, hh1⟩ := HW1.out.held fun d hd => heldCh_on HB10.out (hwm d (HDL.out d hd))
    obtain ⟨a2, c2, hv2, hh2⟩ := HW2.out.held fun d hd => heldCh_on HB10.out (hwm d (HDL2.out d hd))
    obtain ⟨a3, c3, hv3, hh3⟩ := HGV.out.held
    subst hv1 hv2 hv3
    have hglen : gl.length = G.length := by rw [← hgG, List.length_map]
    have HGL := hide hgG
    clear hgl hgn hgG hglen
    go_cut [111] (fun v wx => v = .bool false ∧ Below w10.heap.size w10 wx)
    case first =>
      by_cases hA : gl.map (·.chs) = dl.map (·.chs)
      · have HS := hide (sameDs_eq gl dl a3 a1 c3 c1 w10 hh3 hh1 hA (small_of hA HDL.out fun d hd => (HLI.out d hd).1) (by have e := congrArg List.length hA; simp at e; omega))
        clear hA hh1 hh2 hh3 hwm
        go_wp2_with (first
          | (go_at_call 27; refine HS.out.mono ?_; rintro e w11 ⟨rfl, hb11⟩; have HB11 := hide hb11; clear hb11)
          | fail)
        go_meet
        exact ⟨rfl, HB11.out⟩
      · have hA2 : gl.map (·.chs) = dl2.map (·.chs) := by
          rcases HGO.out with e | e
          · exact absurd (HGL.out.trans e) hA
          · exact HGL.out.trans e
        have hne : gl.length ≠ dl.length := by
          rcases HREL.out with e | e
          · exact absurd (by rw [hA2, e]) hA
          · have e3 := congrArg List.length hA2
            simp at e3
            omega
        have HS1 := hide (sameDs_len gl.length dl.length a3 a1 c3 c1 w10 hne)
        have HS := hide (sameDs_eq gl dl2 a3 a2 c3 c2 w10 hh3 hh2 hA2 (small_of hA2 HDL2.out fun d hd => (HLI.out d hd).1) (by have e := congrArg List.length hA2; simp at e; omega))
        clear hne hA hA2 hh1 hh2 hh3 hwm
        go_wp2_with (first
          | (go_at_call_of 27 (Value.slice a1 dl.length c1); refine HS1.out.mono ?_; rintro e w11 ⟨rfl, hw11⟩; subst hw11)
          | (go_at_call_of 27 (Value.slice a2 dl2.length c2); refine HS.out.mono ?_; rintro e w12 ⟨rfl, hb12⟩; have HB12 := hide hb12; clear hb12)
          | fail)
        go_meet
        exact ⟨rfl, HB12.out⟩
    case rest =>
      obtain ⟨rfl, hb11⟩ := hcut
      replace HLK := hide (HLK.out.on hb11)
      replace HGV := hide (HGV.out.on hb11)
      have HBX := hide (below_on HB10.out (Nat.le_refl _) hb11)
      have HRM := hide (fun n => lroom_any (wc.drewN n) (HLK.out.hd.kept (w' := wc.drewN n) rfl) HG.out.us (by decide))
      clear hb11 hh1 hh2 hh3 hwm HW1 HW2 HO
      have HZA := hide (below_alloc1 wc (Obj.cells #[Value.string ⟨#[116, 47, 122]⟩, Value.string ⟨#[122]⟩, Value.bool false] 67))
      have HZC : Hid (heldCh (wc.alloc (Obj.cells #[Value.string ⟨#[116, 47, 122]⟩, Value.string ⟨#[122]⟩, Value.bool false] 67)) (some ⟨wc.heap.size, 0, none⟩) [zC]) := .inr ⟨wc.heap.size, 0, rfl, fun i hi => by
        have : i = 0 := by simp at hi; omega
        subst this
        exact ⟨cell_new _ _ _ 0, cell_new _ _ _ 1, cell_new _ _ _ 2⟩⟩
      have HZN : Hid (¬ inL lb2 S9 wc.heap.size ∧ wc.heap.size < (wc.alloc (Obj.cells #[Value.string ⟨#[116, 47, 122]⟩, Value.string ⟨#[122]⟩, Value.bool false] 67)).heap.size) := ⟨by
        rintro (e | e)
        · have := HLK.out.hd.lt; omega
        · have := HLK.out.dk.lt e; omega, by simp⟩
      replace HLK := hide (HLK.out.on HZA.out)
      replace HGV := hide (HGV.out.on HZA.out)
      replace HBX := hide (below_on HBX.out (Nat.le_refl _) HZA.out)
      generalize hzb : wc.heap.size = zb at *
      generalize hZW : wc.alloc (Obj.cells #[Value.string ⟨#[116, 47, 122]⟩, Value.string ⟨#[122]⟩, Value.bool false] 67) = W at *
      clear HRM HZA
      have HRM := hide (lroom_any W HLK.out.hd HG.out.us (by decide))
      have hu59 := HG.out.us
      by_cases hroom : 59 - uG < 2
      · have hroom' : ((59 - uG : Nat) : Int) < 2 := by omega
        generalize 59 - uG = rm at *
        go_wp2_with (first
          | (go_at_call 28; refine HRM.out.mono ?_; rintro e w12 ⟨rfl, nq2, rfl⟩)
          | fail)
        go_ret
        exact ⟨rfl, below_drewN HBX.out _⟩
      have hroom' : ¬ ((59 - uG : Nat) : Int) < 2 := by omega
      have haf : addF [zC] (59 - uG) = 0 := zC_add (by omega)
      have HNV := hide (HG.out.never HLF.out [zC] haf)
      have HAD : Hid (∀ n, Calls Try.prog 31 #[.pointer (some ⟨lb2, 0, none⟩), .slice (some ⟨zb, 0, none⟩) 1 1] (W.drewN n) fun e w' => e = .returned (errV (addR 1 59 5 uG s9 [zC]).1) ∧ ActL' (W.drewN n) w' w.heap.size lb2 db S9 1 59 5 (addR 1 59 5 uG s9 [zC]).2.1 (addR 1 59 5 uG s9 [zC]).2.2) := fun n => ladd_any [zC] (some ⟨zb, 0, none⟩) 1 _ (HLK.out.on (below_drewN (Below.refl _ _) n)) (heldCh_on (below_drewN (Below.refl _ _) n) HZC.out) (fun c hc => by rw [List.mem_singleton] at hc; rw [hc]; exact ⟨by show 3 ≤ 1000; decide, by show 1 ≤ 1000; decide⟩) (by show 1 ≤ 1000; decide)
      have HG2 : Hid (LGood (addR 1 59 5 uG s9 [zC]).2.2 1 59 5 (G ++ [[zC]]) (addR 1 59 5 uG s9 [zC]).2.1) := by
        rcases (HG.out.add [zC]).2 with ⟨_, _, h⟩ | ⟨h1, h2, _⟩ | ⟨h1, _⟩
        · exact h
        · exact absurd haf h2
        · rw [HNV.out.1] at h1; cases h1
      rw [HNV.out.1, errD_nil] at HAD
      clear haf HNV
      generalize addR 1 59 5 uG s9 [zC] = R2 at *
      generalize 59 - uG = rm at *
      go_upto_region 33 with (first
        | (go_at_call 28; refine HRM.out.mono ?_; rintro e w12 ⟨rfl, nq2, rfl⟩)
        | (go_at_call 31; refine (HAD.out _).mono ?_; rintro e w13 ⟨rfl, ha13⟩; obtain ⟨S13, hL13, hs13⟩ := ha13; have hs13' := (StepV.on HLK.out.dk.lo (below_drewN (Below.refl _ W) nq2)).trans hs13; have HGV13 := hide (HGV.out.step hs13'); have HB13 := hide (HBX.out.trans hs13'.bel); have HF13 := hide (hs13'.far zb HZN.out.2 HZN.out.1); have HOP2 := hide (lopen_good 1 59 5 _ hL13.dk HG2.out.down (by decide) (by decide) (by decide) HG2.out.fit); rw [HG2.out.deeds.1, HG2.out.deeds.2] at HOP2; clear hL13 hs13 hs13')
        | (go_at_call 25; refine HOP2.out.mono ?_; rintro e w14 ⟨lb3, mv, rfl, ho14⟩; have HO14 := hide ho14; clear ho14)
        | fail)
      obtain ⟨ml, hml, hmG, _⟩ := HO14.out.de
      obtain ⟨ma, mc, rfl⟩ := deedsV_form hml
      have HMH : Hid (heldDs w14 ma ml) := by
        by_cases h0 : ml = []
        · exact .inl h0
        · obtain ⟨ao', cap', e', hh'⟩ := (WantV.of_row (S := fun _ => False) hml.1 (fun _ _ h => h) hml.2.2).held fun d hd => ddOwn_held (hml.2.1 d hd)
          cases e'
          exact hh'
      have HMG := hide hmG
      clear hml hmG
      replace HGV13 := hide (HGV13.out.on HO14.out.bel)
      have HZ14 : Hid (heldCh w14 (some ⟨zb, 0, none⟩) [zC]) := by
        rcases HZC.out with e | ⟨b', o', e, hc⟩
        · cases e
        · cases e
          refine .inr ⟨zb, 0, rfl, fun i hi => ?_⟩
          obtain ⟨q0, q1, q2⟩ := hc i hi
          have f : ∀ j v, W.cell? ⟨zb, j, none⟩ = some v → w14.cell? ⟨zb, j, none⟩ = some v := fun j v hv => cell_on HO14.out.bel ((World.cell?_of_block (a := ⟨zb, j, none⟩) HF13.out.1).trans hv)
          exact ⟨f _ _ q0, f _ _ q1, f _ _ q2⟩
      have HB14 := hide (below_on HB13.out (Nat.le_refl _) HO14.out.bel)
      obtain ⟨i1, hi1, hz1, hs1, hb1⟩ := info_parts chl_facts
      have HGR := hide HGV13.out.row
      have HGE := hide fun d hd => ddOwn_held (HGV13.out.own d hd).1
      clear HO14 HOP2 HF13 HZC HZN HGV HAD HRM HGV13 HG2 HLK
      have HNW : Hid (∀ (V : World) (j : Nat) (u : Value), [Value.slice (some ⟨zb, 0, none⟩) 1 1][j]? = some u → (V.alloc (Obj.cells #[Value.slice (some ⟨zb, 0, none⟩) 1 1] 36)).cell? ((⟨V.heap.size, 0, none⟩ : Addr).add j) = some u) := fun V => World.news_of_block (cs := #[Value.slice (some ⟨zb, 0, none⟩) 1 1]) (t := 36) (fr := (0, 0)) (heap_alloc_new V _)
      have hB14 := HB14.out.size
      have HFIN : Hid (∀ (V : World) (g c : Nat), Below w14.heap.size w14 V → V.ownsRow w.heap.size 36 1 (.slice (some ⟨g, 0, none⟩) (gl.length + 1) c) (gl.length + 1) (gl.map ddV ++ [Value.slice (some ⟨zb, 0, none⟩) 1 1]) → Calls Try.prog 27 #[.slice ma ml.length mc, .slice (some ⟨g, 0, none⟩) (gl.length + 1) c] V fun e w' => e = .returned (.bool true) ∧ Below V.heap.size V w') := fun V g c hb ho => by
        have hWV : WantV V w.heap.size (fun _ => False) (.slice (some ⟨g, 0, none⟩) (gl.length + 1) c) (gl ++ [⟨some ⟨zb, 0, none⟩, 1, [zC]⟩]) := WantV.of_own ho (by simp) (by simp [ddV]) (fun _ _ h => h) (by simp)
        obtain ⟨ao', cap', e', hh'⟩ := hWV.held fun d hd => by
          rcases List.mem_append.1 hd with hd | hd
          · exact heldCh_on hb (HGE.out d hd)
          · rw [List.mem_singleton] at hd; rw [hd]; exact heldCh_on hb HZ14.out
        have hlen : (gl ++ [(⟨some ⟨zb, 0, none⟩, 1, [zC]⟩ : Dd)]).length = gl.length + 1 := by simp
        rw [hlen] at e'
        cases e'
        have hme : ml.map (·.chs) = (gl ++ [(⟨some ⟨zb, 0, none⟩, 1, [zC]⟩ : Dd)]).map (·.chs) := by rw [List.map_append, HMG.out, HGL.out]; rfl
        have hG9 : G.length ≤ 9 := by rcases HGO.out with e | e <;> (rw [e, List.length_map]; omega)
        have hgs : ∀ d ∈ gl, d.chs.length ≤ 1000 := by
          rcases HGO.out with e | e
          · exact small_of (HGL.out.trans e) HDL.out fun d hd => (HLI.out d hd).1
          · exact small_of (HGL.out.trans e) HDL2.out fun d hd => (HLI.out d hd).1
        have hms : ∀ d ∈ ml, d.chs.length ≤ 1000 := fun d hd => by
          have : d.chs ∈ ml.map (·.chs) := List.mem_map.2 ⟨d, hd, rfl⟩
          rw [hme] at this
          obtain ⟨y, hy, e⟩ := List.mem_map.1 this
          rw [← e]
          rcases List.mem_append.1 hy with hy | hy
          · exact hgs y hy
          · rw [List.mem_singleton] at hy; rw [hy]; show 1 ≤ 1000; decide
        have hml2 : ml.length ≤ 1000 := by
          have e := congrArg List.length HMG.out
          rw [List.length_map, List.length_append] at e
          simp at e
          omega
        have := sameDs_eq ml (gl ++ [⟨some ⟨zb, 0, none⟩, 1, [zC]⟩]) ma (some ⟨g, 0, none⟩) mc c V (heldDs_on hb HMH.out) hh' hme hms hml2
        rw [hlen] at this
        exact this
      have hgl9 : gl.length ≤ 9 := by
        have e := congrArg List.length HGL.out
        rw [List.length_map] at e
        rw [e]
        rcases HGO.out with e | e <;> (rw [e, List.length_map]; omega)
      rcases HGR.out with ⟨hd0, hv0⟩ | ⟨gw, cw, hvw, hd0, hNg, hgl, hgS, hgc⟩
      · subst hd0
        cases hv0
        go_wp2_with (first
          | (refine wpList_append_guard _ _ _ (by rfl) (by rfl) w.heap.size 36 i1 _ 1 24 Try.underlying55 hi1 hz1 hs1 hb1 rfl (by omega) (.slice none 0 0) 0 [] (by rfl) (World.ownsRow_nil _ _ _ _) ⟨w14.heap.size, 0, none⟩ 1 1 [Value.slice (some ⟨zb, 0, none⟩) 1 1] (by rfl) (by rfl) (HNW.out w14) (by simp [Value.oneCell']) (by omega) (by unfold maxLen; omega) (by omega) (by simp; omega) (w14.heap.size + 1) (by simp) ?_; intro g2 c2' w15 ho15 hg15 hat15 hlt15; have hb15 : Below w14.heap.size w14 w15 := (below_alloc1 w14 (Obj.cells #[Value.slice (some ⟨zb, 0, none⟩) 1 1] 36)).grown hg15 (by simp) (fun k e => by cases e); have HSD := hide (HFIN.out w15 g2 c2' hb15 ho15); have HB15 := hide (below_on HB14.out (Nat.le_refl _) hb15); clear ho15 hg15 hat15 hlt15 hb15)
          | (go_at_call 27; refine HSD.out.mono ?_; rintro e w16 ⟨rfl, hb16⟩; have HB16 := hide (below_on HB15.out (Nat.le_refl _) hb16); clear hb16)
          | fail)
        go_ret
        exact ⟨rfl, HB16.out⟩
      · cases hvw
        have hpos : 0 < gl.length := List.length_pos_iff.2 hd0
        have HN1 : Hid (∀ j u, (gl.map ddV)[j]? = some u → w14.cell? ((⟨gw, 0, none⟩ : Addr).add j) = some u) := fun j u hj => by
          have hjl : j < gl.length := by rw [← List.length_map (f := ddV)]; exact (List.getElem?_eq_some_iff.1 hj).1
          rw [List.getElem?_map, List.getElem?_eq_getElem hjl] at hj
          rw [Go.Addr.add_mid, Nat.zero_add, hgc j hjl]
          exact hj
        clear hgc hNg hgl hgS
        go_wp2_with (first
          | (refine wpList_append_guard _ _ _ (by rfl) (by rfl) w.heap.size 36 i1 _ 1 24 Try.underlying55 hi1 hz1 hs1 hb1 rfl (by omega) (.slice none 0 0) 0 [] (by rfl) (World.ownsRow_nil _ _ _ _) ⟨gw, 0, none⟩ gl.length _ (gl.map ddV) (by rfl) (by simp) HN1.out (by simp [ddV, Value.oneCell']) hpos (by unfold maxLen; omega) (by omega) (by omega) w14.heap.size rfl ?_; intro g1 c1' w15 ho15 hg15 hat15 hlt15; simp only [Nat.zero_add, List.nil_append] at ho15; rw [Nat.zero_add]; have hb15 : Below w14.heap.size w14 w15 := (Below.refl _ w14).grown hg15 (by simp) (fun k e => by cases e); have hge1 : w14.heap.size ≤ g1 := hat15.elim (fun e => by cases e) (fun e => Nat.le_of_eq e.symm); have HO15 := hide ho15; have HB15 := hide hb15; have hs15 := hb15.size; clear ho15 hg15 hat15 hlt15 hb15)
          | (refine wpList_append_guard _ _ _ (by rfl) (by rfl) w.heap.size 36 i1 _ 1 24 Try.underlying55 hi1 hz1 hs1 hb1 rfl (by omega) (.slice (some ⟨g1, 0, none⟩) gl.length c1') _ _ (by rfl) (HO15.out.alloc _) ⟨w15.heap.size, 0, none⟩ 1 1 [Value.slice (some ⟨zb, 0, none⟩) 1 1] (by rfl) (by rfl) (HNW.out w15) (by simp [Value.oneCell']) (by omega) (by unfold maxLen; omega) (by omega) (by simp; omega) (w15.heap.size + 1) (by simp) ?_; intro g2 c2' w17 ho17 hg17 hat17 hlt17; have hb17 : Below w14.heap.size w14 w17 := (below_on HB15.out (Nat.le_refl _) (below_alloc1 w15 (Obj.cells #[Value.slice (some ⟨zb, 0, none⟩) 1 1] 36))).grown hg17 (by simp; omega) (fun k e => by simp [Value.ownBlock] at e; omega); have HSD := hide (HFIN.out w17 g2 c2' hb17 ho17); have HB17 := hide (below_on HB14.out (Nat.le_refl _) hb17); clear ho17 hg17 hat17 hlt17 hb17)
          | (go_at_call 27; refine HSD.out.mono ?_; rintro e w16 ⟨rfl, hb16⟩; have HB16 := hide (below_on HB17.out (Nat.le_refl _) hb16); clear hb16)
          | fail)
        go_ret
        exact ⟨rfl, HB16.out⟩
end Go.Proofs.Ytkfpfbkdalbjoaa
