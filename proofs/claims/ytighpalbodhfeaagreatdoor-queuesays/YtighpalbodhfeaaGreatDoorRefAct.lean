/-
  What View.Put and View.Get of haywainref make of the document's view, and return.
-/
import Derived.Test.YtighpalbodhfeaaGreatDoorRefView
import Derived.Test.YtighpalbodhfeaaGreatDoorRefHas
import Derived.Test.YtighpalbodhfeaaGreatDoorRefRow
namespace Go.Proofs.YtighpalbodhfeaaGreatDoor
open Go.RowKit Go.Joins Go.Shelf Go.WideShapes
attribute [local go_sem ↓] Go.wp_at_zero Go.wp_at_succ

theorem rput_held (l : List Chg) (ao : Option Addr) (cap : Nat) (c : Chg) (w : World) (hl : heldCh w ao l) (hr : rises l) (hn : l.length ≤ 1000) :
    Calls Tryz.prog 70 #[.slice ao l.length cap, .agg #[.string c.key, .string c.val, .bool c.gone]] w fun e w' => ∃ v, e = .returned v ∧ ownCh w' w.heap.size v (insL l c) ∧ Below w.heap.size w w' := by
  rcases hl with rfl | ⟨b, off, rfl, h⟩
  · exact rput_bare ao cap c w
  · refine (rput_any l b off cap c w h hn).mono ?_
    rintro e w' ⟨v, rfl, ho, hb⟩
    rw [put_fold c l [] hr, List.nil_append] at ho
    exact ⟨v, rfl, ho, hb⟩
set_option maxRecDepth 4000 in
set_option maxHeartbeats 4000000 in
theorem rvput_any (c : Chg) {B rb : Nat} {G : Nat → Prop} {P : Rws} {since : Int} {chs : List Chg} {rds : Rws} (w : World) (h : RW w rb G P since chs rds) (hB : B ≤ w.heap.size) (hrb : B ≤ rb) (hn : chs.length ≤ 12) (hr : rises chs) (hk : c.key.size ≤ 1000) :
    Calls Tryz.prog 29 #[.pointer (some ⟨rb, 0, none⟩), .agg #[.string c.key, .string c.val, .bool c.gone]] w fun e w' => e = .returned (.int .i64 (alterF chs c : Nat)) ∧ ActR w w' B rb G P since (alterL chs c) rds := by
  have HW := hide h
  obtain ⟨ra, rc, ca, cc, sa, sc, h1, rfl, h2, h3, h4⟩ := h
  have HX := hide h1
  have H2 := hide h2
  have H4 := hide h4
  have hB0 := below_alloc1 w (Obj.cells #[Value.string c.key, Value.string c.val, Value.bool c.gone] 84)
  have a0 : (w.alloc (Obj.cells #[Value.string c.key, Value.string c.val, Value.bool c.gone] 84)).cell? ⟨w.heap.size, 0, none⟩ = some (.string c.key) := cell_new _ _ _ 0
  have a1 : (w.alloc (Obj.cells #[Value.string c.key, Value.string c.val, Value.bool c.gone] 84)).cell? ⟨w.heap.size, 1, none⟩ = some (.string c.val) := cell_new _ _ _ 1
  have a2 : (w.alloc (Obj.cells #[Value.string c.key, Value.string c.val, Value.bool c.gone] 84)).cell? ⟨w.heap.size, 2, none⟩ = some (.bool c.gone) := cell_new _ _ _ 2
  have c2 := cell_on hB0 h1.c2
  have hwb := h1.lt (k := rb) (.inl rfl)
  have HB0 := hide hB0
  have HPT := fun W (hb : Below w.heap.size w W) => hide (rput_held chs ca cc c W (heldCh_on hb h1.hC) hr (by omega))
  clear h1 h2 h3 h4 hB0
  by_cases hf : chgFault c = 0
  · have HF := hide hf
    have hlen := ins_length chs c
    have hae : alterF chs c = if 12 < (insL chs c).length then 2 else 0 := if_pos hf
    clear hf
    by_cases h12 : 12 < (insL chs c).length
    · have h12' : (12 : Int) < ((insL chs c).length : Int) := by omega
      rw [if_pos h12] at hae
      have HAE := hide hae
      have HAL : Hid (alterL chs c = chs) := by unfold Hid alterL; rw [hae]; rfl
      clear hae
      go_enter Tryz.func29, Tryz.ntmps29
      go_wp2_with (first
        | (go_at_call 69; refine (rfault_any c _ hk).mono ?_; rintro e w1 ⟨rfl, hb1⟩; rw [HF.out]; have HB1 := hide (below_on HB0.out (Nat.le_refl _) hb1); replace a0 := cell_on hb1 a0; replace a1 := cell_on hb1 a1; replace a2 := cell_on hb1 a2; replace c2 := cell_on hb1 c2; clear hb1))
      go_region_held3 (fun w' => w'.cell? ⟨w.heap.size, 0, none⟩ = some (.string c.key) ∧ w'.cell? ⟨w.heap.size, 1, none⟩ = some (.string c.val) ∧ w'.cell? ⟨w.heap.size, 2, none⟩ = some (.bool c.gone) ∧ w'.cell? ⟨rb, 2, none⟩ = some (.slice ca chs.length cc))
        (first | go_keep | exact ⟨cell_on hb2 a0, cell_on hb2 a1, cell_on hb2 a2, cell_on hb2 c2⟩) (first | (go_at_call 70; refine (HPT _ HB1.out.drew).out.mono ?_; rintro e w2 ⟨v, rfl, ho, hb2'⟩; have hb2 := below_on (Below.refl _ w1).drew (Nat.le_refl _) hb2'; clear hb2'; dsimp only) | fail)
      all_goals
        obtain ⟨va, vc, hv, _, _⟩ := ownCh_has ho
        subst hv
        have HB2 := hide (below_on HB1.out (Nat.le_refl _) hb2)
        clear ho hb2
        go_wp2
        go_ret
        exact ⟨by rw [HAE.out]; rfl, by rw [HAL.out]; exact act_same HW.out hB HB2.out⟩
    · have h12' : ¬ (12 : Int) < ((insL chs c).length : Int) := by omega
      rw [if_neg h12] at hae
      have HAE := hide hae
      have HAL : Hid (alterL chs c = insL chs c) := by unfold Hid alterL; rw [hae]; rfl
      clear hae
      go_enter Tryz.func29, Tryz.ntmps29
      go_wp2_with (first
        | (go_at_call 69; refine (rfault_any c _ hk).mono ?_; rintro e w1 ⟨rfl, hb1⟩; rw [HF.out]; have HB1 := hide (below_on HB0.out (Nat.le_refl _) hb1); replace a0 := cell_on hb1 a0; replace a1 := cell_on hb1 a1; replace a2 := cell_on hb1 a2; replace c2 := cell_on hb1 c2; clear hb1))
      go_region_held3 (fun w' => w'.cell? ⟨w.heap.size, 0, none⟩ = some (.string c.key) ∧ w'.cell? ⟨w.heap.size, 1, none⟩ = some (.string c.val) ∧ w'.cell? ⟨w.heap.size, 2, none⟩ = some (.bool c.gone) ∧ w'.cell? ⟨rb, 2, none⟩ = some (.slice ca chs.length cc))
        (first | go_keep | exact ⟨cell_on hb2 a0, cell_on hb2 a1, cell_on hb2 a2, cell_on hb2 c2⟩) (first | (go_at_call 70; refine (HPT _ HB1.out.drew).out.mono ?_; rintro e w2 ⟨v, rfl, ho, hb2'⟩; have hb2 := below_on (Below.refl _ w1).drew (Nat.le_refl _) hb2'; clear hb2'; dsimp only) | fail)
      all_goals
        obtain ⟨va, vc, hv, hh, hlo⟩ := ownCh_has ho
        subst hv
        have HB2 := hide (below_on HB1.out (Nat.le_refl _) hb2)
        have hs1 := HB1.out.size
        have HA := hide (act_setC HX.out H2.out H4.out hB hrb HB2.out (cc' := vc) hh (fun k e _ => by have := hlo k e; simp at this; omega))
        have k2 := cell_on hb2 c2
        have f2 := frozen_on HB2.out hwb (HX.out.soft 2)
        clear ho hb2 hh hlo
        go_wp2
        go_ret
        exact ⟨by rw [HAE.out]; rfl, by rw [HAL.out]; exact HA.out⟩
  · have hae : alterF chs c = chgFault c := if_neg hf
    have HAE := hide hae
    have HAL : Hid (alterL chs c = chs) := by unfold Hid alterL; rw [hae, if_neg hf]
    have hf1 : (0 : Int) < (chgFault c : Int) := by omega
    have HFC := fun W => hide (rfault_any c W hk)
    clear hae hf
    generalize chgFault c = f at *
    go_enter Tryz.func29, Tryz.ntmps29
    go_wp2_with (first
      | (go_at_call 69; refine (HFC _).out.mono ?_; rintro e w1 ⟨rfl, hb1⟩; have HB1 := hide (below_on HB0.out (Nat.le_refl _) hb1); clear hb1))
    go_ret
    exact ⟨by rw [HAE.out]; rfl, by rw [HAL.out]; exact act_same HW.out hB HB1.out⟩
end Go.Proofs.YtighpalbodhfeaaGreatDoor

/-
  What View.Get of haywainref makes of the document's view, and returns.
-/
namespace Go.Proofs.YtighpalbodhfeaaGreatDoor
open Go.RowKit Go.Joins Go.Shelf Go.WideShapes
attribute [local go_sem ↓] Go.wp_at_zero Go.wp_at_succ

theorem findC_at {l : List Chg} (h : rises l) {i : Nat} (hi : i < l.length) {key : ByteArray} (he : eqS l[i].key key = true) : findC l key = some l[i] := by
  obtain ⟨h1, h2⟩ := found_mem h i hi key ((eqS_iff _ _).1 he)
  unfold findC
  rw [h2, if_pos rfl, h1, List.getElem?_eq_getElem hi]
theorem findC_no {l : List Chg} {key : ByteArray} (h : ∀ i (hi : i < l.length), eqS l[i].key key = false) : findC l key = none := by
  unfold findC
  rw [found_not h]
  rfl
set_option maxRecDepth 4000 in
set_option maxHeartbeats 4000000 in
theorem rvget_any (key : ByteArray) {B rb : Nat} {G : Nat → Prop} {P : Rws} {since : Int} {chs : List Chg} {rds : Rws} (w : World) (h : RW w rb G P since chs rds) (hB : B ≤ w.heap.size) (hrb : B ≤ rb) (hn : chs.length ≤ 12) (hr : rises chs) (hrn : rds.length ≤ 40) (hpl : P.length ≤ 1000) (hk : key.size ≤ 1000) :
    Calls Tryz.prog 32 #[.pointer (some ⟨rb, 0, none⟩), .string key] w fun e w' => e = .returned (.tuple #[.string (getP chs rds P key).1, .bool (getP chs rds P key).2.1, .int .i64 ((getP chs rds P key).2.2 : Nat)]) ∧ ActR w w' B rb G P since chs (getL chs rds key) := by
  have HW := hide h
  obtain ⟨ra, rc, ca, cc, sa, sc, h1, hG, h2, h3, h4⟩ := h
  have HX := hide h1
  have HRS := hide hr
  clear h1 h2 h3 h4 hG hr
  have HB1 := hide (Below.refl w.heap.size w)
  cases hke : keyL key.data.toList with
  | false =>
    have HFK : Hid (faultK key.data.toList = 3) := by unfold Hid faultK; rw [hke]; rfl
    have HP : Hid (getP chs rds P key = (⟨#[]⟩, false, 3)) := by unfold Hid getP; rw [hke]; rfl
    have HL : Hid (getL chs rds key = rds) := by unfold Hid getL; rw [hke]; rfl
    go_enter Tryz.func32, Tryz.ntmps32
    go_wp2_with (first
      | (go_at_call 17; refine (keyFault_any key _ hk).mono ?_; rintro e w1 ⟨rfl, rfl⟩; rw [HFK.out]))
    go_ret3
    exact ⟨by rw [HP.out]; rfl, by rw [HL.out]; exact act_same HW.out hB HB1.out⟩
  | true =>
    have HFK : Hid (faultK key.data.toList = 0) := by unfold Hid faultK; rw [hke]; rfl
    go_enter Tryz.func32, Tryz.ntmps32
    go_wp2_with (first
      | (go_at_call 17; refine (keyFault_any key _ hk).mono ?_; rintro e w1 ⟨rfl, rfl⟩; rw [HFK.out]))
    have HW1 := hide (HW.out.on HB1.out)
    have HX1 := hide (HX.out.kept fun k hk => HB1.out.block k (HX.out.lt hk))
    go_loopw [8] (fun i wr => ∃ k : Nat, k ≤ chs.length ∧ i = .int .i64 k ∧ (∀ i (hi : i < chs.length), i < k → eqS chs[i].key key = false) ∧ wr = w1) (fun i _ => chs.length - (intOf i).toNat)
    case atStart => exact ⟨0, Nat.zero_le _, rfl, fun i _ h => absurd h (Nat.not_lt_zero _), rfl⟩
    case round =>
      obtain ⟨k, hk, rfl, hno, rfl⟩ := hrel
      have HNO := hide hno
      have c2 := HX1.out.c2
      have c0 := HX1.out.c0
      clear hno
      by_cases hlk : k < chs.length
      · have hlk' : (k : Int) < (chs.length : Int) := by omega
        have hk0 : (0 : Int) ≤ (k : Int) := Int.natCast_nonneg _
        rcases HX1.out.hC with e | ⟨b, off, eca, hch⟩
        · rw [e] at hlk; simp at hlk
        subst eca
        obtain ⟨d0, d1, d2⟩ := hch k hlk
        clear hch
        cases hq : (chs[k].key.toList == key.toList) with
        | true =>
          have HFC := hide (findC_at HRS.out hlk (show eqS chs[k].key key = true from hq))
          have HP : Hid (getP chs rds P key = (chs[k].val, !chs[k].gone, 0)) := by unfold Hid getP; rw [hke, HFC.out]; rfl
          have HL : Hid (getL chs rds key = rds) := by unfold Hid getL; rw [hke, HFC.out]; rfl
          go_wp2
          go_quiet (fail)
          go_wp2
          go_ret3
          exact ⟨by rw [HP.out]; rfl, by rw [HL.out]; exact act_same HW.out hB (HB1.out.trans (below_draws _ _ _))⟩
        | false =>
          have HN2 : Hid (∀ i (hi : i < chs.length), i < k + 1 → eqS chs[i].key key = false) := fun i hi hik => by
            rcases Nat.eq_or_lt_of_le (Nat.le_of_lt_succ hik) with e | e
            · subst e; exact hq
            · exact HNO.out i hi e
          go_wp2
          exact ⟨⟨k + 1, by omega, by go_num, HN2.out, by trivial⟩, by simp [intOf]; omega⟩
      · have ek : k = chs.length := by omega
        subst ek
        have hlk' : ¬ (chs.length : Int) < (chs.length : Int) := by omega
        have HFC : Hid (findC chs key = none) := findC_no fun i hi => HNO.out i hi hi
        have HL : Hid (getL chs rds key = readL rds (key, zeroS key)) := by unfold Hid getL; rw [hke, HFC.out]; rfl
        have hs1 := HB1.out.size
        have HNT := hide (rnote_any (key, zeroS key) _ HW1.out (Nat.le_trans hB hs1) hrb hrn)
        by_cases hrf : readF rds (key, zeroS key) = 0
        · have HP : Hid (getP chs rds P key = ((valR P key).1, (valR P key).2, 0)) := by unfold Hid getP; rw [hke, HFC.out]; simp only [if_pos hrf]; rfl
          rw [hrf] at HNT
          go_wp2_with (first
            | (go_at_call 76; refine HNT.out.mono ?_; rintro e w2 ⟨rfl, G2, hr2, hs2⟩; have HR2 := hide hr2; have HS2 := hide hs2; obtain ⟨ra2, rc2, ca2, cc2, sa2, sc2, hx2, _⟩ := hr2; replace c0 := hx2.c0; have HP2 := hide hx2.hP; clear hs2 hx2)
            | (go_at_call 77; refine (rvalue_any P ra2 rc2 key _ HP2.out (by omega)).mono ?_; rintro e w3 ⟨rfl, hb3⟩; have HB3 := hide hb3; clear hb3))
          go_ret3
          refine ⟨by rw [HP.out]; rfl, ?_⟩
          rw [HL.out]
          exact ⟨G2, HR2.out.on HB3.out, (StepR.on hB HB1.out).trans (HS2.out.trans (.on (Nat.le_trans hB (Nat.le_trans hs1 HS2.out.bel.size)) HB3.out))⟩
        · have HP : Hid (getP chs rds P key = (⟨#[]⟩, false, readF rds (key, zeroS key))) := by unfold Hid getP; rw [hke, HFC.out]; simp only [if_neg hrf]; rfl
          have hrf1 : (0 : Int) < (readF rds (key, zeroS key) : Int) := by omega
          generalize readF rds (key, zeroS key) = f at *
          go_wp2_with (first
            | (go_at_call 76; refine HNT.out.mono ?_; rintro e w2 ⟨rfl, G2, hr2, hs2⟩; have HR2 := hide hr2; have HS2 := hide hs2; clear hs2 hr2))
          go_ret3
          refine ⟨by rw [HP.out]; rfl, ?_⟩
          rw [HL.out]
          exact ⟨G2, HR2.out, (StepR.on hB HB1.out).trans HS2.out⟩
end Go.Proofs.YtighpalbodhfeaaGreatDoor
