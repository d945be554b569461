/-
  What View.Get of haywainref makes of the document's view, and returns.
-/
import Derived.Test.YtpbhcjkllfonhaaGreatRefAct
import Derived.Test.YtpbhcjkllfonhaaGreatRefKeyM
namespace Go.Proofs.YtpbhcjkllfonhaaGreat
open Go.RowKit Go.Joins Go.Shelf Go.WideShapes
attribute [local go_sem ↓] Go.wp_at_zero Go.wp_at_succ

theorem findC_at {l : List Chg} (h : rises l) {i : Nat} (hi : i < l.length) {key : ByteArray} (he : eqS l[i].key key = true) : findC l key = some l[i] := by
  obtain ⟨h1, h2⟩ := found_mem h i hi key ((eqS_iff _ _).1 he)
  unfold findC
  rw [h2, if_pos rfl, h1, List.getElem?_eq_getElem hi]
theorem findC_no {l : List Chg} {key : ByteArray} (h : ∀ i (hi : i < l.length), eqS l[i].key key = false) : findC l key = none := by
  unfold findC
  rw [found_not h]
  rfl
set_option maxRecDepth 4000 in
set_option maxHeartbeats 4000000 in
theorem rvget_any (key : ByteArray) {B rb : Nat} {G : Nat → Prop} {P : Rws} {since : Int} {chs : List Chg} {rds : Rws} (w : World) (h : RW w rb G P since chs rds) (hB : B ≤ w.heap.size) (hrb : B ≤ rb) (hn : chs.length ≤ 12) (hr : rises chs) (hrn : rds.length ≤ 40) (hpl : P.length ≤ 1000) (hk : key.size ≤ 1000) :
    Calls Tryz.prog 19 #[.pointer (some ⟨rb, 0, none⟩), .string key] w fun e w' => e = .returned (.tuple #[.string (getP chs rds P key).1, .bool (getP chs rds P key).2.1, .int .i64 ((getP chs rds P key).2.2 : Nat)]) ∧ ActR w w' B rb G P since chs (getL chs rds key) := by
  have HW := hide h
  obtain ⟨ra, rc, ca, cc, sa, sc, h1, hG, h2, h3, h4⟩ := h
  have HX := hide h1
  have HRS := hide hr
  clear h1 h2 h3 h4 hG hr
  have HB1 := hide (Below.refl w.heap.size w)
  cases hke : keyL key.data.toList with
  | false =>
    have HFK : Hid (faultK key.data.toList = 3) := by unfold Hid faultK; rw [hke]; rfl
    have HP : Hid (getP chs rds P key = (⟨#[]⟩, false, 3)) := by unfold Hid getP; rw [hke]; rfl
    have HL : Hid (getL chs rds key = rds) := by unfold Hid getL; rw [hke]; rfl
    go_enter Tryz.func19, Tryz.ntmps19
    go_wp2_with (first
      | (go_at_call 25; refine (keyFault_any key _ hk).mono ?_; rintro e w1 ⟨rfl, rfl⟩; rw [HFK.out]))
    go_ret3
    exact ⟨by rw [HP.out]; rfl, by rw [HL.out]; exact act_same HW.out hB HB1.out⟩
  | true =>
    have HFK : Hid (faultK key.data.toList = 0) := by unfold Hid faultK; rw [hke]; rfl
    go_enter Tryz.func19, Tryz.ntmps19
    go_wp2_with (first
      | (go_at_call 25; refine (keyFault_any key _ hk).mono ?_; rintro e w1 ⟨rfl, rfl⟩; rw [HFK.out]))
    have HW1 := hide (HW.out.on HB1.out)
    have HX1 := hide (HX.out.kept fun k hk => HB1.out.block k (HX.out.lt hk))
    go_loopw [8] (fun i wr => ∃ k : Nat, k ≤ chs.length ∧ i = .int .i64 k ∧ (∀ i (hi : i < chs.length), i < k → eqS chs[i].key key = false) ∧ wr = w1) (fun i _ => chs.length - (intOf i).toNat)
    case atStart => exact ⟨0, Nat.zero_le _, rfl, fun i _ h => absurd h (Nat.not_lt_zero _), rfl⟩
    case round =>
      obtain ⟨k, hk, rfl, hno, rfl⟩ := hrel
      have HNO := hide hno
      have c2 := HX1.out.c2
      have c0 := HX1.out.c0
      clear hno
      by_cases hlk : k < chs.length
      · have hlk' : (k : Int) < (chs.length : Int) := by omega
        have hk0 : (0 : Int) ≤ (k : Int) := Int.natCast_nonneg _
        rcases HX1.out.hC with e | ⟨b, off, eca, hch⟩
        · rw [e] at hlk; simp at hlk
        subst eca
        obtain ⟨d0, d1, d2⟩ := hch k hlk
        clear hch
        cases hq : (chs[k].key.toList == key.toList) with
        | true =>
          have HFC := hide (findC_at HRS.out hlk (show eqS chs[k].key key = true from hq))
          have HP : Hid (getP chs rds P key = (chs[k].val, !chs[k].gone, 0)) := by unfold Hid getP; rw [hke, HFC.out]; rfl
          have HL : Hid (getL chs rds key = rds) := by unfold Hid getL; rw [hke, HFC.out]; rfl
          go_wp2
          go_quiet (fail)
          go_wp2
          go_ret3
          exact ⟨by rw [HP.out]; rfl, by rw [HL.out]; exact act_same HW.out hB (HB1.out.trans (below_draws _ _ _))⟩
        | false =>
          have HN2 : Hid (∀ i (hi : i < chs.length), i < k + 1 → eqS chs[i].key key = false) := fun i hi hik => by
            rcases Nat.eq_or_lt_of_le (Nat.le_of_lt_succ hik) with e | e
            · subst e; exact hq
            · exact HNO.out i hi e
          go_wp2
          exact ⟨⟨k + 1, by omega, by go_num, HN2.out, by trivial⟩, by simp [intOf]; omega⟩
      · have ek : k = chs.length := by omega
        subst ek
        have hlk' : ¬ (chs.length : Int) < (chs.length : Int) := by omega
        have HFC : Hid (findC chs key = none) := findC_no fun i hi => HNO.out i hi hi
        have HL : Hid (getL chs rds key = readL rds (key, zeroS key)) := by unfold Hid getL; rw [hke, HFC.out]; rfl
        have hs1 := HB1.out.size
        have HNT := hide (rnote_any (key, zeroS key) _ HW1.out (Nat.le_trans hB hs1) hrb hrn)
        by_cases hrf : readF rds (key, zeroS key) = 0
        · have HP : Hid (getP chs rds P key = ((valR P key).1, (valR P key).2, 0)) := by unfold Hid getP; rw [hke, HFC.out]; simp only [if_pos hrf]; rfl
          rw [hrf] at HNT
          go_wp2_with (first
            | (go_at_call 39; refine HNT.out.mono ?_; rintro e w2 ⟨rfl, G2, hr2, hs2⟩; have HR2 := hide hr2; have HS2 := hide hs2; obtain ⟨ra2, rc2, ca2, cc2, sa2, sc2, hx2, _⟩ := hr2; replace c0 := hx2.c0; have HP2 := hide hx2.hP; clear hs2 hx2)
            | (go_at_call 45; refine (rvalue_any P ra2 rc2 key _ HP2.out (by omega)).mono ?_; rintro e w3 ⟨rfl, hb3⟩; have HB3 := hide hb3; clear hb3))
          go_ret3
          refine ⟨by rw [HP.out]; rfl, ?_⟩
          rw [HL.out]
          exact ⟨G2, HR2.out.on HB3.out, (StepR.on hB HB1.out).trans (HS2.out.trans (.on (Nat.le_trans hB (Nat.le_trans hs1 HS2.out.bel.size)) HB3.out))⟩
        · have HP : Hid (getP chs rds P key = (⟨#[]⟩, false, readF rds (key, zeroS key))) := by unfold Hid getP; rw [hke, HFC.out]; simp only [if_neg hrf]; rfl
          have hrf1 : (0 : Int) < (readF rds (key, zeroS key) : Int) := by omega
          generalize readF rds (key, zeroS key) = f at *
          go_wp2_with (first
            | (go_at_call 39; refine HNT.out.mono ?_; rintro e w2 ⟨rfl, G2, hr2, hs2⟩; have HR2 := hide hr2; have HS2 := hide hs2; clear hs2 hr2))
          go_ret3
          refine ⟨by rw [HP.out]; rfl, ?_⟩
          rw [HL.out]
          exact ⟨G2, HR2.out, (StepR.on hB HB1.out).trans HS2.out⟩
end Go.Proofs.YtpbhcjkllfonhaaGreat
