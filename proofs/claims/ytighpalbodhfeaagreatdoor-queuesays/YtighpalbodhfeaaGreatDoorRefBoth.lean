/-
  What haywainref.Both returns of two spans.
-/
import Derived.Test.YtighpalbodhfeaaGreatDoorSpanPt
import Derived.Test.YtighpalbodhfeaaGreatDoorRefAct
import Derived.Test.YtighpalbodhfeaaGreatDoorRefAppP
namespace Go.Proofs.YtighpalbodhfeaaGreatDoor
open Go.RowKit Go.Joins

theorem rboth_from (a b : ByteArray) : Lib.maxS a b = if (!(Op.bytesLess b.toList a.toList || b.toList == a.toList)) = true then b else a := by
  rw [maxS_eq]
  have : (!(Op.bytesLess b.toList a.toList || b.toList == a.toList)) = ltS a b := by
    have := leS_not b a
    unfold leS at this
    rw [this, Bool.not_not]
  rw [this]
theorem rboth_to (a b : ByteArray) : endS a b = if (a.toList.isEmpty || (!b.toList.isEmpty && Op.bytesLess b.toList a.toList)) = true then b else a := by
  have e : endS a b = if (nilS a || (!nilS b && ltS b a)) = true then b else a := by
    unfold endS
    rw [minS_eq, leS_not]
    cases nilS a <;> cases nilS b <;> cases ltS b a <;> simp
  exact e

set_option maxHeartbeats 2000000 in
theorem rboth_of (af a_t bf bt x y : ByteArray) (w : World)
    (hx : ((!Op.bytesLess bf.toList af.toList && !bf.toList == af.toList) = true ∧ x = bf) ∨ ((!Op.bytesLess bf.toList af.toList && !bf.toList == af.toList) = false ∧ x = af))
    (hy : (a_t.toList.isEmpty = true ∧ y = bt) ∨ (a_t.toList.isEmpty = false ∧ bt.toList.isEmpty = true ∧ y = a_t) ∨ (a_t.toList.isEmpty = false ∧ bt.toList.isEmpty = false ∧ Op.bytesLess bt.toList a_t.toList = true ∧ y = bt) ∨ (a_t.toList.isEmpty = false ∧ bt.toList.isEmpty = false ∧ Op.bytesLess bt.toList a_t.toList = false ∧ y = a_t)) :
    Calls Tryz.prog 84 #[.agg #[.string af, .string a_t], .agg #[.string bf, .string bt]] w fun e w' => e = .returned (.agg #[.string x, .string y]) ∧ Below w.heap.size w w' := by
  rcases hx with ⟨h1, rfl⟩ | ⟨h1, rfl⟩
  all_goals rcases hy with ⟨h2, rfl⟩ | ⟨h2, h3, rfl⟩ | ⟨h2, h3, h4, rfl⟩ | ⟨h2, h3, h4, rfl⟩
  all_goals
    go_enter Tryz.func84, Tryz.ntmps84
    go_wp2
    refine bodyPost_ret (v := .agg #[.string _, .string _]) (by simp [results, Tryz.results84, go_sem]) rfl ⟨rfl, ?_⟩
    exact (below_alloc3 _ _ _ _).alloc (by simp; omega) _
theorem rboth_any (af a_t bf bt : ByteArray) (w : World) :
    Calls Tryz.prog 84 #[.agg #[.string af, .string a_t], .agg #[.string bf, .string bt]] w fun e w' => e = .returned (.agg #[.string (Lib.maxS af bf), .string (endS a_t bt)]) ∧ Below w.heap.size w w' := by
  rw [rboth_from, rboth_to]
  refine rboth_of af a_t bf bt _ _ w ?_ ?_
  · rw [Bool.not_or]
    cases (!Op.bytesLess bf.toList af.toList && !bf.toList == af.toList)
    · exact Or.inr ⟨rfl, rfl⟩
    · exact Or.inl ⟨rfl, rfl⟩
  · cases a_t.toList.isEmpty <;> cases bt.toList.isEmpty <;> cases Op.bytesLess bt.toList a_t.toList <;> simp
end Go.Proofs.YtighpalbodhfeaaGreatDoor

/-
  What View.Scan of haywainref makes of the document's view, and returns.
-/
namespace Go.Proofs.YtighpalbodhfeaaGreatDoor
open Go.RowKit Go.Joins Go.Shelf Go.WideShapes
attribute [local go_sem ↓] Go.wp_at_zero Go.wp_at_succ

theorem seenP_in {P : Rws} (h : riseP P) (chs : List Chg) (s : ByteArray × ByteArray) : inR (appliedA P chs) s = seenP P chs s := (seen_in chs h s).symm
/-- behind a scan of the document's view: rows in memory that is none of its own, or an error -/
def ScanR (w w' : World) (e : Ending) (B rb : Nat) (G : Nat → Prop) (P : Rws) (since : Int) (chs : List Chg) (rds : Rws) (s : ByteArray × ByteArray) (m : Int) (L : Rws) : Prop :=
  (scanF L rds s m = 0 → ∃ ao cap, e = .returned (.tuple #[.slice ao (L.take m.toNat).length cap, .int .i64 0]) ∧ heldSp w' ao (L.take m.toNat) ∧ ∃ G', RW w' rb G' P since chs (scanL L rds s m) ∧ StepR w w' B rb G G' ∧ ∀ k, atB ao k → L.take m.toNat ≠ [] → w.heap.size ≤ k) ∧
  (scanF L rds s m ≠ 0 → e = .returned (.tuple #[.slice none 0 0, .int .i64 (scanF L rds s m : Nat)]) ∧ ActR w w' B rb G P since chs (scanL L rds s m))
/-- the last steps of it -/
theorem scanR_end {w T w6 : World} {e : Ending} {B rb : Nat} {G G6 : Nat → Prop} {P : Rws} {since : Int} {chs : List Chg} {rds : Rws} {s : ByteArray × ByteArray} {m : Int} {L : Rws} {ao : Option Addr} {cap : Nat} (hm : ¬ m < 1) (hB : B ≤ w.heap.size) (hb : Below w.heap.size w T) (hr6 : RW w6 rb G6 P since chs (readL rds (rdS L s m.toNat))) (hs6 : StepR T w6 B rb G G6)
    (hh : heldSp T ao (L.take m.toNat)) (hnew : ∀ k, atB ao k → L.take m.toNat ≠ [] → k ≠ rb ∧ k < T.heap.size ∧ w.heap.size ≤ k) (h0 : readF rds (rdS L s m.toNat) = 0) (he : e = .returned (.tuple #[.slice ao (L.take m.toNat).length cap, .int .i64 0])) : ScanR w w6 e B rb G P since chs rds s m L := by
  have e1 : scanF L rds s m = readF rds (rdS L s m.toNat) := if_neg hm
  have e2 : scanL L rds s m = readL rds (rdS L s m.toNat) := if_neg hm
  unfold ScanR
  rw [e1, e2]
  refine ⟨fun _ => ⟨ao, cap, he, heldSp_kept hh fun hne k e => hs6.far k (hnew k e hne).2.1 (hnew k e hne).1, G6, hr6, (StepR.on hB hb).trans hs6, fun k e hne => (hnew k e hne).2.2⟩, fun hz => absurd h0 hz⟩
theorem scanR_bad {w T w6 : World} {e : Ending} {B rb : Nat} {G G6 : Nat → Prop} {P : Rws} {since : Int} {chs : List Chg} {rds : Rws} {s : ByteArray × ByteArray} {m : Int} {L : Rws} (hm : ¬ m < 1) (hB : B ≤ w.heap.size) (hb : Below w.heap.size w T) (hr6 : RW w6 rb G6 P since chs (readL rds (rdS L s m.toNat))) (hs6 : StepR T w6 B rb G G6)
    (h0 : readF rds (rdS L s m.toNat) ≠ 0) (he : e = .returned (.tuple #[.slice none 0 0, .int .i64 (readF rds (rdS L s m.toNat) : Nat)])) : ScanR w w6 e B rb G P since chs rds s m L := by
  have e1 : scanF L rds s m = readF rds (rdS L s m.toNat) := if_neg hm
  have e2 : scanL L rds s m = readL rds (rdS L s m.toNat) := if_neg hm
  unfold ScanR
  rw [e1, e2]
  exact ⟨fun hz => absurd hz h0, fun _ => ⟨he, G6, hr6, (StepR.on hB hb).trans hs6⟩⟩
set_option maxHeartbeats 1000000 in
theorem rvscan_low (s : ByteArray × ByteArray) (m : Int) {B rb : Nat} {G : Nat → Prop} {P : Rws} {since : Int} {chs : List Chg} {rds L : Rws} (w : World) (h : RW w rb G P since chs rds) (hB : B ≤ w.heap.size) (hm : m < 1) :
    Calls Tryz.prog 34 #[.pointer (some ⟨rb, 0, none⟩), .agg #[.string s.1, .string s.2], .int .i64 m] w fun e w' => ScanR w w' e B rb G P since chs rds s m L := by
  have hB0 := below_alloc1 w (Obj.cells #[Value.string s.1, Value.string s.2] 91)
  have HW := hide h
  clear h
  go_enter Tryz.func34, Tryz.ntmps34
  go_wp2
  go_ret2
  have e1 : scanF L rds s m = 1 := if_pos hm
  have e2 : scanL L rds s m = rds := if_pos hm
  unfold ScanR
  rw [e1, e2]
  exact ⟨(fun e => by cases e), fun _ => ⟨rfl, act_same HW.out hB hB0⟩⟩
set_option maxRecDepth 4000 in
set_option maxHeartbeats 4000000 in
theorem rvscan_any (s : ByteArray × ByteArray) (m : Int) {B rb : Nat} {G : Nat → Prop} {P : Rws} {since : Int} {chs : List Chg} {rds : Rws} (w : World) (h : RW w rb G P since chs rds) (hB : B ≤ w.heap.size) (hrb : B ≤ rb) (ok : OkV P chs rds) (hm : m ≤ 9223372036854775807) :
    Calls Tryz.prog 34 #[.pointer (some ⟨rb, 0, none⟩), .agg #[.string s.1, .string s.2], .int .i64 m] w fun e w' => ScanR w w' e B rb G P since chs rds s m (seenP P chs s) := by
  by_cases hm1 : m < 1
  · exact rvscan_low s m w h hB hm1
  have HW := hide h
  obtain ⟨ra, rc, ca, cc, sa, sc, h1, hG, h2, h3, h4⟩ := h
  have HX := hide h1
  have HRB : Hid (rb < w.heap.size) := h1.lt (.inl rfl)
  obtain ⟨M, hM⟩ : ∃ M : Nat, m = (M : Int) := ⟨m.toNat, by omega⟩
  subst hM
  have hM1 : 1 ≤ M := by omega
  have hM2 : M ≤ 9223372036854775807 := by omega
  have eT : ((M : Int)).toNat = M := by omega
  have HL := hide (seenP_small ok s)
  have HE := hide (seenP_in ok.rise chs s)
  have hpl := ok.len
  have hcl := ok.cn
  have hrl := ok.rn
  clear h1 h2 h3 h4 hG ok
  have hB0 := below_alloc1 w (Obj.cells #[Value.string s.1, Value.string s.2] 91)
  have a0 : (w.alloc (Obj.cells #[Value.string s.1, Value.string s.2] 91)).cell? ⟨w.heap.size, 0, none⟩ = some (.string s.1) := cell_new _ _ _ 0
  have a1 : (w.alloc (Obj.cells #[Value.string s.1, Value.string s.2] 91)).cell? ⟨w.heap.size, 1, none⟩ = some (.string s.2) := cell_new _ _ _ 1
  have af : ∀ j, (w.alloc (Obj.cells #[Value.string s.1, Value.string s.2] 91)).frozen? ⟨w.heap.size, j, none⟩ = false := fun j => frozen_new _ _ _ j
  have c0 := cell_on hB0 HX.out.c0
  have c2 := cell_on hB0 HX.out.c2
  have HB0 := hide hB0
  have hz : w.heap.size < (w.alloc (Obj.cells #[Value.string s.1, Value.string s.2] 91)).heap.size := by simp
  have HAP := fun W (hb : Below w.heap.size w W) => hide (rapplied_any P ra rc chs ca cc W (heldSp_on hb HX.out.hP) HX.out.nP (heldCh_on hb HX.out.hC) (by omega) (by omega))
  clear hB0
  go_enter Tryz.func34, Tryz.ntmps34
  go_wp2
  generalize (w.alloc (Obj.cells #[Value.string s.1, Value.string s.2] 91)) = W0 at *
  go_region_held3 (fun w' => w'.cell? ⟨w.heap.size, 0, none⟩ = some (.string s.1) ∧ w'.cell? ⟨w.heap.size, 1, none⟩ = some (.string s.2) ∧ w'.cell? ⟨rb, 0, none⟩ = some (.slice ra P.length rc) ∧ w'.cell? ⟨rb, 2, none⟩ = some (.slice ca chs.length cc))
    (first
      | go_keep
      | exact ⟨cell_on hb3 a0, cell_on hb3 a1, cell_on hb3 c0, cell_on hb3 c2⟩
      | exact ⟨cell_on hb2 a0, cell_on hb2 a1, cell_on hb2 c0, cell_on hb2 c2⟩)
    (first
      | (go_at_call 83; refine (HAP _ HB0.out.drew).out.mono ?_; rintro e w2 ⟨v2, rfl, ho2, hb2'⟩; have hb2 : Below W0.heap.size W0 w2 := below_on (Below.refl _ _).drew (Nat.le_refl _) hb2'; obtain ⟨fa, fc, rfl, hf2⟩ := ownP_held ho2; clear hb2' ho2)
      | (go_at_call 82; refine (rin_any (appliedA P chs) fa fc s _ hf2 (by have := appliedA_len chs P; omega)).mono ?_; rintro e w3 ⟨v3, rfl, ho3, hb3'⟩; have hb3 : Below W0.heap.size W0 w3 := below_on hb2 (Nat.le_refl _) hb3'; rw [HE.out] at ho3; have hb23 := hb2.size; clear hb3')
      | fail)
  all_goals
    obtain ⟨la, lc, hlv, hh3⟩ := ownP_held ho3
    subst hlv
    have HO3 := hide ho3
    have HH3 := hide hh3
    have HB3 := hide (below_on HB0.out (Nat.le_refl _) hb3)
    have hs3 := HB3.out.size
    have hz3 : w.heap.size < w3.heap.size := by have := hb3.size; omega
    have t0 := cell_on hb3 a0
    have t1 := cell_on hb3 a1
    have tf : ∀ j, w3.frozen? ⟨w.heap.size, j, none⟩ = false := fun j => frozen_on hb3 hz (af j)
    have HLO : Hid (∀ k, (Value.slice la (seenP P chs s).length lc).ownBlock = some k → w.heap.size < k) := fun k e => by
      have := (World.ownsRow.lt HO3.out k e).1
      omega
    clear ho3 hh3 hb3 hb2 hf2 a0 a1 c0 c2 af hb23
    generalize hLE : seenP P chs s = L at *
    have HLE := hide hLE
    clear hLE
    have hLl := HL.out.1
    by_cases hML : M ≤ L.length
    · have hMI : (M : Int) ≤ (L.length : Int) := by omega
      rcases own_form HO3.out with ⟨_, h0⟩ | ⟨g, cap', e, hg1, hg2, hc1, hc2⟩
      · omega
      cases e
      have hcI : (M : Int) ≤ (lc : Int) := by omega
      have hc3 : lc ≤ 9223372036854775807 := by unfold maxLen at hc2; omega
      have k1 : (M : Int) - 1 = ((M - 1 : Nat) : Int) := by omega
      have k2 : ((M - 1 : Nat) : Int) < (M : Int) := by omega
      have hm1F : M - 1 < L.length := by omega
      have cK : w3.cell? ⟨g, (M - 1) * 2, none⟩ = some (.string L[M - 1].1) := (own_get cellP_len HO3.out (M - 1) 0 hm1F (by omega)).1
      have hks := HL.out.2 _ (List.getElem_mem hm1F)
      have hgr : w.heap.size < g := HLO.out g rfl
      have HRS : Hid (rdS L s M = (Lib.maxS s.1 ⟨#[]⟩, endS s.2 (zeroS L[M - 1].1))) := by
        unfold Hid rdS
        rw [if_pos hML, List.getElem?_eq_getElem hm1F]
        rfl
      have HTK : Hid ((L.take M).length = M ∧ spansAt w3 g 0 (L.take M)) := by
        refine ⟨by rw [List.length_take]; omega, fun i hi => ?_⟩
        have hi2 : i < L.length := by rw [List.length_take] at hi; omega
        have e1 := (own_get cellP_len HO3.out i 0 hi2 (by omega)).1
        have e2 := (own_get cellP_len HO3.out i 1 hi2 (by omega)).1
        rw [List.getElem_take, Nat.zero_add]
        exact ⟨e1, e2⟩
      have k3 : IntKind.i64.wrap ((M : Int) - 1) = ((M - 1 : Nat) : Int) := by rw [k1, IntKind.wrap_i64]; omega
      have k4 : (0 : Int) ≤ ((M - 1 : Nat) : Int) := Int.natCast_nonneg _
      have k5 : IntKind.i64.wrap ((M - 1 : Nat) : Int) = ((M - 1 : Nat) : Int) := by rw [IntKind.wrap_i64]; omega
      have k6 : (0 : Int) ≤ (M : Int) := by omega
      generalize L[M - 1].1 = k0 at *
      generalize M - 1 = j0 at *
      go_wp2
      go_region_with (first
        | (go_at_call 84; refine (rboth_any s.1 s.2 ⟨#[]⟩ (zeroS k0) _).mono ?_; rintro e w5 ⟨rfl, hb5'⟩; have hb5 : Below w3.heap.size w3 w5 := below_on (Below.refl _ _).drew (Nat.le_refl _) hb5'; have t05 := cell_on hb5 t0; have t15 := cell_on hb5 t1; have tf5 := fun j => frozen_on hb5 hz3 (tf j); clear hb5')
        | fail)
      all_goals
        have hkb : ∀ k, k ≠ w.heap.size → ((w5.setCell ⟨w.heap.size, 0, none⟩ (.string (Lib.maxS s.1 ⟨#[]⟩))).setCell ⟨w.heap.size, 1, none⟩ (.string (endS s.2 (zeroS k0)))).heap[k]? = w5.heap[k]? := fun k h => (Below.heap_setCell _ _ _ _ h).trans (Below.heap_setCell _ _ _ _ h)
        have u0 : ((w5.setCell ⟨w.heap.size, 0, none⟩ (.string (Lib.maxS s.1 ⟨#[]⟩))).setCell ⟨w.heap.size, 1, none⟩ (.string (endS s.2 (zeroS k0)))).cell? ⟨w.heap.size, 0, none⟩ = some (.string (rdS L s M).1) := by
          rw [HRS.out]; exact (World.cell?_setCell_other _ _ _ _ (by simp)).trans (World.cell?_setCell_same _ _ _ t05)
        have u1 : ((w5.setCell ⟨w.heap.size, 0, none⟩ (.string (Lib.maxS s.1 ⟨#[]⟩))).setCell ⟨w.heap.size, 1, none⟩ (.string (endS s.2 (zeroS k0)))).cell? ⟨w.heap.size, 1, none⟩ = some (.string (rdS L s M).2) := by
          rw [HRS.out]; exact World.cell?_setCell_same _ _ _ ((World.cell?_setCell_other _ _ _ _ (by simp)).trans t15)
        have HB2 : Hid (Below w.heap.size w ((w5.setCell ⟨w.heap.size, 0, none⟩ (.string (Lib.maxS s.1 ⟨#[]⟩))).setCell ⟨w.heap.size, 1, none⟩ (.string (endS s.2 (zeroS k0))))) := ((below_on HB3.out (Nat.le_refl _) hb5).setCell (p := ⟨w.heap.size, 0, none⟩) (Nat.le_refl _) _).setCell (p := ⟨w.heap.size, 1, none⟩) (Nat.le_refl _) _
        have HGT : Hid (g < ((w5.setCell ⟨w.heap.size, 0, none⟩ (.string (Lib.maxS s.1 ⟨#[]⟩))).setCell ⟨w.heap.size, 1, none⟩ (.string (endS s.2 (zeroS k0)))).heap.size) := hide (by have := hb5.size; simp only [World.size_setCell]; omega)
        have HH : Hid (heldSp ((w5.setCell ⟨w.heap.size, 0, none⟩ (.string (Lib.maxS s.1 ⟨#[]⟩))).setCell ⟨w.heap.size, 1, none⟩ (.string (endS s.2 (zeroS k0)))) (some ⟨g, 0, none⟩) (L.take M)) := .inr ⟨g, 0, rfl, fun i hi => by
          obtain ⟨e1, e2⟩ := HTK.out.2 i hi
          have eb := (hkb g (by omega)).trans (hb5.block g hg2)
          exact ⟨(World.cell?_of_block eb).trans e1, (World.cell?_of_block eb).trans e2⟩⟩
        generalize (w5.setCell ⟨w.heap.size, 0, none⟩ (.string (Lib.maxS s.1 ⟨#[]⟩))).setCell ⟨w.heap.size, 1, none⟩ (.string (endS s.2 (zeroS k0))) = T2 at u0 u1 HB2 HGT HH ⊢
        clear hkb t05 t15 tf5 hb5 t0 t1 cK
        have HNT := hide (rnote_any (rdS L s M) T2 (HW.out.on HB2.out) (Nat.le_trans hB HB2.out.size) hrb hrl)
        have HNW : Hid (∀ k, atB (some ⟨g, 0, none⟩) k → L.take M ≠ [] → k ≠ rb ∧ k < T2.heap.size ∧ w.heap.size ≤ k) := fun k e _ => by
          obtain ⟨_, e⟩ := e
          cases e
          exact ⟨by have := HRB.out; omega, HGT.out, by omega⟩
        generalize hrr : rdS L s M = r at *
        have HRR := hide hrr
        clear hrr
        by_cases hrf : readF rds r = 0
        · have HRF := hide hrf
          rw [hrf] at HNT
          clear hrf
          go_wp2_with (first
            | (go_at_call 76; refine HNT.out.mono ?_; rintro e w6 ⟨rfl, G6, hr6, hs6⟩; have HR6 := hide hr6; have HS6 := hide hs6; clear hr6 hs6))
          go_ret2
          rw [HLE.out]; exact scanR_end (by omega) hB HB2.out (by rw [eT, HRR.out]; exact HR6.out) HS6.out (by rw [eT]; exact HH.out) (by rw [eT]; exact HNW.out) (by rw [eT, HRR.out]; exact HRF.out) (by rw [eT, HTK.out.1]; rfl)
        · have HRF := hide hrf
          have hrf1 : (0 : Int) < (readF rds r : Int) := by omega
          clear hrf
          generalize hff : readF rds r = f at *
          have HFF := hide hff
          clear hff
          go_wp2_with (first
            | (go_at_call 76; refine HNT.out.mono ?_; rintro e w6 ⟨rfl, G6, hr6, hs6⟩; have HR6 := hide hr6; have HS6 := hide hs6; clear hr6 hs6))
          go_ret2
          rw [HLE.out]; exact scanR_bad (by omega) hB HB2.out (by rw [eT, HRR.out]; exact HR6.out) HS6.out (by rw [eT, HRR.out, HFF.out]; exact HRF.out) (by rw [eT, HRR.out, HFF.out]; rfl)
    · have hMI : ¬ (M : Int) ≤ (L.length : Int) := by omega
      have HTF : Hid (L.take M = L) := List.take_of_length_le (by omega)
      have HRS : Hid (rdS L s M = s) := if_neg hML
      have HNT := hide (rnote_any s w3 (HW.out.on HB3.out) (Nat.le_trans hB HB3.out.size) hrb hrl)
      have HNW : Hid (∀ k, atB la k → L ≠ [] → k ≠ rb ∧ k < w3.heap.size ∧ w.heap.size ≤ k) := fun k e hne => by
        obtain ⟨off, rfl⟩ := e
        have e2 : (Value.slice (some ⟨k, off, none⟩) L.length lc).ownBlock = some k := rfl
        exact ⟨by have a := HRB.out; have b := HLO.out k e2; omega, (World.ownsRow.lt HO3.out k e2).2, by have b := HLO.out k e2; omega⟩
      by_cases hrf : readF rds s = 0
      · have HRF := hide hrf
        rw [hrf] at HNT
        clear hrf
        go_wp2_with (first
          | (go_at_call 76; refine HNT.out.mono ?_; rintro e w6 ⟨rfl, G6, hr6, hs6⟩; have HR6 := hide hr6; have HS6 := hide hs6; clear hr6 hs6))
        go_ret2
        rw [HLE.out]; exact scanR_end (by omega) hB HB3.out (by rw [eT, HRS.out]; exact HR6.out) HS6.out (by rw [eT, HTF.out]; exact HH3.out) (by rw [eT, HTF.out]; exact HNW.out) (by rw [eT, HRS.out]; exact HRF.out) (by rw [eT, HTF.out]; rfl)
      · have HRF := hide hrf
        have hrf1 : (0 : Int) < (readF rds s : Int) := by omega
        clear hrf
        generalize hff : readF rds s = f at *
        have HFF := hide hff
        clear hff
        go_wp2_with (first
          | (go_at_call 76; refine HNT.out.mono ?_; rintro e w6 ⟨rfl, G6, hr6, hs6⟩; have HR6 := hide hr6; have HS6 := hide hs6; clear hr6 hs6))
        go_ret2
        rw [HLE.out]; exact scanR_bad (by omega) hB HB3.out (by rw [eT, HRS.out]; exact HR6.out) HS6.out (by rw [eT, HRS.out, HFF.out]; exact HRF.out) (by rw [eT, HRS.out, HFF.out]; rfl)
end Go.Proofs.YtighpalbodhfeaaGreatDoor
