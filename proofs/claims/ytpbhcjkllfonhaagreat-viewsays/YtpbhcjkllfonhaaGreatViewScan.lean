/-
  What View.Scan returns, and makes of what was read, given what View.seen returns.
-/
import Derived.Test.YtpbhcjkllfonhaaGreatVerRows
namespace Go.Proofs.YtpbhcjkllfonhaaGreat
open Go.RowKit Go.Joins Go.Shelf
attribute [local go_sem ↓] Go.wp_at_zero Go.wp_at_succ

/-- what View.seen returns, in whatever world behind this one -/
def SeenSays (w : World) (wb : Nat) (s : ByteArray × ByteArray) (P : List (ByteArray × ByteArray) → Prop) : Prop := ∀ W, Below w.heap.size w W → Calls Tryz.prog 31 #[.pointer (some ⟨wb, 0, none⟩), .agg #[.string s.1, .string s.2]] W fun e w' => ∃ v, e = .returned v ∧ Below W.heap.size W w' ∧ ∃ F, ownP w' W.heap.size v F ∧ P F
/-- what is read of a span: up to the last row that is told, or all of it -/
def rdS (F : List (ByteArray × ByteArray)) (s : ByteArray × ByteArray) (m : Nat) : ByteArray × ByteArray := if m ≤ F.length then (Lib.maxS s.1 ⟨#[]⟩, endS s.2 (zeroS ((F[m - 1]?.map (·.1)).getD ⟨#[]⟩))) else s
def ScanPost (w w' : World) (e : Ending) (B wb vb : Nat) (since : Int) (cv rv : Value) (chs : List Chg) (rds : List (ByteArray × ByteArray)) (s : ByteArray × ByteArray) (m : Nat) (F : List (ByteArray × ByteArray)) : Prop :=
  (readF rds (rdS F s m) = 0 → ∃ ao cap, e = .returned (.tuple #[.slice ao (F.take m).length cap, .nilIface]) ∧ ((F.take m).length ≤ cap ∧ cap ≤ 9223372036854775807) ∧ heldSp w' ao (F.take m) ∧ ∃ rv', VW w' B wb vb since cv rv' chs (readL rds (rdS F s m)) ∧ Below B w w' ∧ farW w w' wb cv rv cv rv' ∧ ∀ b off, ao = some ⟨b, off, none⟩ → w.heap.size ≤ b ∧ b < w'.heap.size ∧ ¬ inVW wb cv rv' b) ∧
  (readF rds (rdS F s m) ≠ 0 → e = .returned (.tuple #[.slice none 0 0, errV (readF rds (rdS F s m))]) ∧ ReadAt w w' B wb vb since cv rv chs (readL rds (rdS F s m)))
/-- the variables of View.Scan behind its first assignment -/
structure RD (w T : World) (rb : Nat) (s : ByteArray × ByteArray) (v : Value) (F : List (ByteArray × ByteArray)) : Prop where
  t0 : T.cell? ⟨rb, 0, none⟩ = some (.string s.1)
  t1 : T.cell? ⟨rb, 1, none⟩ = some (.string s.2)
  fz : ∀ j, T.frozen? ⟨rb, j, none⟩ = false
  d0 : T.cell? ⟨w.heap.size, 0, none⟩ = some (.string s.1)
  d1 : T.cell? ⟨w.heap.size, 1, none⟩ = some (.string s.2)
  bel : Below w.heap.size w T
  own : ownP T (w.heap.size + 1) v F
  lo : w.heap.size < rb
  off : ∀ k, v.ownBlock = some k → k ≠ rb
theorem rd_new {w w2 : World} {s : ByteArray × ByteArray} {v : Value} {F : List (ByteArray × ByteArray)} {B : Nat} (hb : Below w.heap.size w w2) (ho : ownP w2 B v F) (hB : w.heap.size + 1 ≤ B) (d0 : w2.cell? ⟨w.heap.size, 0, none⟩ = some (.string s.1)) (d1 : w2.cell? ⟨w.heap.size, 1, none⟩ = some (.string s.2)) :
    RD w (w2.alloc (Obj.cells #[Value.string s.1, Value.string s.2] 49)) w2.heap.size s v F := by
  have hb3 := below_alloc1 w2 (Obj.cells #[Value.string s.1, Value.string s.2] 49)
  have hl : w.heap.size < w2.heap.size := World.block_lt_of_cell? _ _ d0
  exact ⟨cell_new _ _ _ 0, cell_new _ _ _ 1, fun j => frozen_new _ _ _ j, cell_on hb3 d0, cell_on hb3 d1, below_on hb (Nat.le_refl _) hb3, own_low (own_on ho hb3) hB, hl, fun k e => by have := (World.ownsRow.lt ho k e).2; omega⟩
theorem rd_set {w w2 : World} {s : ByteArray × ByteArray} {v : Value} {F : List (ByteArray × ByteArray)} {B : Nat} (hb : Below w.heap.size w w2) (ho : ownP w2 B v F) (hB : w.heap.size + 2 ≤ B) (d0 : w2.cell? ⟨w.heap.size, 0, none⟩ = some (.string s.1)) (d1 : w2.cell? ⟨w.heap.size, 1, none⟩ = some (.string s.2))
    (z0 : w2.cell? ⟨w.heap.size + 1, 0, none⟩ = some (.string ⟨#[]⟩)) (z1 : w2.cell? ⟨w.heap.size + 1, 1, none⟩ = some (.string ⟨#[]⟩)) (zf : ∀ j, w2.frozen? ⟨w.heap.size + 1, j, none⟩ = false) :
    RD w ((w2.setCell ⟨w.heap.size + 1, 0, none⟩ (.string s.1)).setCell ⟨w.heap.size + 1, 1, none⟩ (.string s.2)) (w.heap.size + 1) s v F := by
  have hk : ∀ k, k ≠ w.heap.size + 1 → ((w2.setCell ⟨w.heap.size + 1, 0, none⟩ (.string s.1)).setCell ⟨w.heap.size + 1, 1, none⟩ (.string s.2)).heap[k]? = w2.heap[k]? := fun k h => (Below.heap_setCell _ _ _ _ h).trans (Below.heap_setCell _ _ _ _ h)
  refine ⟨(World.cell?_setCell_other _ _ _ _ (by simp)).trans (World.cell?_setCell_same _ _ _ z0), World.cell?_setCell_same _ _ _ ((World.cell?_setCell_other _ _ _ _ (by simp)).trans z1), fun j => by rw [World.frozen?_setCell, World.frozen?_setCell]; exact zf j, (World.cell?_of_block (hk w.heap.size (by omega))).trans d0, (World.cell?_of_block (hk w.heap.size (by omega))).trans d1, (hb.setCell (p := ⟨w.heap.size + 1, 0, none⟩) (by simp) _).setCell (p := ⟨w.heap.size + 1, 1, none⟩) (by simp) _, own_low (own_block ho fun k e => hk k (by have := (World.ownsRow.lt ho k e).1; omega)) (by omega), by omega, fun k e => by have := (World.ownsRow.lt ho k e).1; omega⟩
theorem scan_end {w T2 w6 : World} {B wb vb : Nat} {since : Int} {cv rv rv6 : Value} {chs : List Chg} {rds : List (ByteArray × ByteArray)} {s : ByteArray × ByteArray} {m cap : Nat} {F : List (ByteArray × ByteArray)} {ao : Option Addr} (h : VW w B wb vb since cv rv chs rds) (hB : B ≤ w.heap.size) (hb : Below w.heap.size w T2) (hw6 : VW w6 B wb vb since cv rv6 chs (readL rds (rdS F s m))) (hb6 : Below B T2 w6) (hf6 : farW T2 w6 wb cv rv cv rv6)
    (hh : heldSp T2 ao (F.take m)) (hg : ∀ b off, ao = some ⟨b, off, none⟩ → w.heap.size ≤ b ∧ b < T2.heap.size) (h0 : readF rds (rdS F s m) = 0) {e : Ending} (he : e = .returned (.tuple #[.slice ao (F.take m).length cap, .nilIface])) (hcap : (F.take m).length ≤ cap ∧ cap ≤ 9223372036854775807) : ScanPost w w6 e B wb vb since cv rv chs rds s m F := by
  have hn : ∀ b, w.heap.size ≤ b → ¬ inVW wb cv rv b := fun b hb' hin => by have := h.lt hin; omega
  refine ⟨fun _ => ⟨ao, cap, he, hcap, heldSp_block hh (fun b off e _ => (hf6 b (hg b off e).2 (hn b (hg b off e).1)).1), rv6, hw6, (hb.mono hB).trans hb6, farW.trans (farW.on hb) hb.size hf6, fun b off e => ⟨(hg b off e).1, Nat.lt_of_lt_of_le (hg b off e).2 hb6.size, (hf6 b (hg b off e).2 (hn b (hg b off e).1)).2⟩⟩, fun h => absurd h0 h⟩
theorem scan_many {w T2 w6 : World} {B wb vb : Nat} {since : Int} {cv rv rv6 : Value} {chs : List Chg} {rds : List (ByteArray × ByteArray)} {s : ByteArray × ByteArray} {m : Nat} {F : List (ByteArray × ByteArray)} (hB : B ≤ w.heap.size) (hb : Below w.heap.size w T2) (hw6 : VW w6 B wb vb since cv rv6 chs (readL rds (rdS F s m))) (hb6 : Below B T2 w6) (hf6 : farW T2 w6 wb cv rv cv rv6)
    (h0 : readF rds (rdS F s m) ≠ 0) {e : Ending} (he : e = .returned (.tuple #[.slice none 0 0, errV (readF rds (rdS F s m))])) : ScanPost w w6 e B wb vb since cv rv chs rds s m F :=
  ⟨fun h => absurd h h0, fun _ => ⟨he, rv6, hw6, (hb.mono hB).trans hb6, farW.trans (farW.on hb) hb.size hf6⟩⟩
set_option maxRecDepth 4000 in
set_option maxHeartbeats 2000000 in
theorem scan_ok (s : ByteArray × ByteArray) (m : Nat) {B wb vb : Nat} {since : Int} {cv rv : Value} {chs : List Chg} {rds : List (ByteArray × ByteArray)} {P : List (ByteArray × ByteArray) → Prop} (w : World) (h : VW w B wb vb since cv rv chs rds) (hs : SeenSays w wb s P) (hP : ∀ F, P F → F.length ≤ 1000000 ∧ ∀ r ∈ F, r.1.size ≤ 1000)
    (hB : B ≤ w.heap.size) (hn : rds.length ≤ 100) (hm : 1 ≤ m) (hm2 : m ≤ 9223372036854775807) :
    Calls Tryz.prog 14 #[.pointer (some ⟨wb, 0, none⟩), .agg #[.string s.1, .string s.2], .int .i64 m] w fun e w' => ∃ F, P F ∧ ScanPost w w' e B wb vb since cv rv chs rds s m F := by
  have HW := hide h
  have HS := hide hs
  have HP := hide hP
  have hB0 := below_alloc1 w (Obj.cells #[Value.string s.1, Value.string s.2] 49)
  have a0 : (w.alloc (Obj.cells #[Value.string s.1, Value.string s.2] 49)).cell? ⟨w.heap.size, 0, none⟩ = some (.string s.1) := cell_new _ _ _ 0
  have a1 : (w.alloc (Obj.cells #[Value.string s.1, Value.string s.2] 49)).cell? ⟨w.heap.size, 1, none⟩ = some (.string s.2) := cell_new _ _ _ 1
  have HB0 := hide hB0
  have m1 : ¬ ((m : Int) < 1) := by omega
  clear h hs hP hB0
  go_enter Tryz.func14, Tryz.ntmps14
  go_wp2
  rename_i Q K hK
  have hrest : ∀ (T : World) (rb : Nat) (ra : Option Addr) (rcap : Nat) (F : List (ByteArray × ByteArray)), RD w T rb s (.slice ra F.length rcap) F → P F → Exit.then K Q Exit.normal { tmps := #[Value.pointer (some ⟨wb, 0, none⟩), Value.agg #[Value.string s.1, Value.string s.2], Value.int .i64 (m : Int), undef, Value.pointer (some ⟨w.heap.size, 0, none⟩), undef, Value.slice none 0 0, Value.nilIface, Value.slice ra F.length rcap, Value.pointer (some ⟨rb, 0, none⟩), undef, Value.int .i64 (m : Int), Value.bool false, undef, Value.pointer (some ⟨wb, 0, none⟩), Value.agg #[Value.string s.1, Value.string s.2], Value.slice ra F.length rcap, Value.agg #[Value.string s.1, Value.string s.2], undef, undef, undef, undef, undef, undef, undef, undef, undef, undef, undef, undef, undef, undef, undef, undef, undef, undef, undef, undef, undef, undef, undef, undef], defers := [] } T := by
    intro T rb ra rcap F hrd hpf
    have HRD := hide hrd
    have HPF := hide hpf
    have hl := (HP.out F hpf).1
    have HLK := hide (HP.out F hpf).2
    have t0 := hrd.t0
    have t1 := hrd.t1
    have tf := hrd.fz
    have d0 := hrd.d0
    have d1 := hrd.d1
    clear hrd hpf a0 a1
    by_cases hmF : m ≤ F.length
    · have hmI : (m : Int) ≤ (F.length : Int) := by omega
      rcases own_form HRD.out.own with ⟨_, h0⟩ | ⟨g, cap', e, hg1, hg2, hc1, hc2⟩
      · omega
      cases e
      have hcI : (m : Int) ≤ (rcap : Int) := by omega
      have hc3 : rcap ≤ 9223372036854775807 := by unfold maxLen at hc2; omega
      have hmc : m ≤ rcap := by omega
      have hm1 : (0 : Int) ≤ (m : Int) := by omega
      have k1 : (m : Int) - 1 = ((m - 1 : Nat) : Int) := by omega
      have k2 : ((m - 1 : Nat) : Int) < (m : Int) := by omega
      have hm1F : m - 1 < F.length := by omega
      have cK : T.cell? ⟨g, (m - 1) * 2, none⟩ = some (.string F[m - 1].1) := (own_get cellP_len HRD.out.own (m - 1) 0 hm1F (by omega)).1
      have hks := HLK.out _ (List.getElem_mem hm1F)
      have hgr : g ≠ rb := HRD.out.off g rfl
      go_wp2_with (first
        | (go_at_call 32; refine (clip_any ⟨g, 0, none⟩ m rcap _ hmc hc3).mono ?_; rintro e w3 ⟨rfl, hb3⟩; have HB3 := hide hb3; replace t0 := cell_on hb3 t0; replace t1 := cell_on hb3 t1; replace d0 := cell_on hb3 d0; replace d1 := cell_on hb3 d1; replace cK := cell_on hb3 cK))
      have HRS : Hid (rdS F s m = (Lib.maxS s.1 ⟨#[]⟩, endS s.2 (zeroS F[m - 1].1))) := by
        unfold Hid rdS
        rw [if_pos hmF, List.getElem?_eq_getElem hm1F]
        rfl
      have HTK : Hid ((F.take m).length = m ∧ spansAt T g 0 (F.take m)) := by
        refine ⟨by rw [List.length_take]; omega, fun i hi => ?_⟩
        have hi2 : i < F.length := by rw [List.length_take] at hi; omega
        have e1 := (own_get cellP_len HRD.out.own i 0 hi2 (by omega)).1
        have e2 := (own_get cellP_len HRD.out.own i 1 hi2 (by omega)).1
        rw [List.getElem_take, Nat.zero_add]
        exact ⟨e1, e2⟩
      have hrl : rb < w3.heap.size := World.block_lt_of_cell? _ _ t0
      have tf3 : ∀ j, w3.frozen? ⟨rb, j, none⟩ = false := fun j => frozen_on hb3 (show rb < T.heap.size from World.block_lt_of_cell? _ _ HRD.out.t0) (tf j)
      have k3 : IntKind.i64.wrap ((m : Int) - 1) = ((m - 1 : Nat) : Int) := by rw [k1, IntKind.wrap_i64]; omega
      have k4 : (0 : Int) ≤ ((m - 1 : Nat) : Int) := Int.natCast_nonneg _
      have k5 : IntKind.i64.wrap ((m - 1 : Nat) : Int) = ((m - 1 : Nat) : Int) := by rw [IntKind.wrap_i64]; omega
      generalize F[m - 1].1 = k0 at *
      generalize m - 1 = j0 at *
      have HU := fun w => hide (upTo_any k0 w hks)
      clear tf hb3
      go_region_with (first
        | (go_at_call 34; refine (HU _).out.mono ?_; rintro e w4 ⟨rfl, hb4'⟩; have hb4 : Below w3.heap.size w3 w4 := below_on (Below.refl _ _).drew (Nat.le_refl _) hb4'; replace d0 := cell_on hb4 d0; replace d1 := cell_on hb4 d1; replace t0 := cell_on hb4 t0; replace t1 := cell_on hb4 t1; replace tf3 := fun j => frozen_on hb4 hrl (tf3 j); replace cK := cell_on hb4 cK; clear hb4')
        | (go_at_call 33; refine (both_any s.1 s.2 ⟨#[]⟩ _ _).mono ?_; rintro e w5 ⟨rfl, hb5⟩; have t05 := cell_on hb5 t0; have t15 := cell_on hb5 t1; have hrl4 : rb < w4.heap.size := World.block_lt_of_cell? _ _ t0; have tf5 := fun j => frozen_on hb5 hrl4 (tf3 j)))
      all_goals
        have hb35 := below_on (below_on HB3.out (Nat.le_refl _) hb4) (Nat.le_refl _) hb5
        have hkb : ∀ k, k ≠ rb → ((w5.setCell ⟨rb, 0, none⟩ (.string (Lib.maxS s.1 ⟨#[]⟩))).setCell ⟨rb, 1, none⟩ (.string (endS s.2 (zeroS k0)))).heap[k]? = w5.heap[k]? := fun k h => (Below.heap_setCell _ _ _ _ h).trans (Below.heap_setCell _ _ _ _ h)
        have u0 : ((w5.setCell ⟨rb, 0, none⟩ (.string (Lib.maxS s.1 ⟨#[]⟩))).setCell ⟨rb, 1, none⟩ (.string (endS s.2 (zeroS k0)))).cell? ⟨rb, 0, none⟩ = some (.string (rdS F s m).1) := by
          rw [HRS.out]; exact (World.cell?_setCell_other _ _ _ _ (by simp)).trans (World.cell?_setCell_same _ _ _ t05)
        have u1 : ((w5.setCell ⟨rb, 0, none⟩ (.string (Lib.maxS s.1 ⟨#[]⟩))).setCell ⟨rb, 1, none⟩ (.string (endS s.2 (zeroS k0)))).cell? ⟨rb, 1, none⟩ = some (.string (rdS F s m).2) := by
          rw [HRS.out]; exact World.cell?_setCell_same _ _ _ ((World.cell?_setCell_other _ _ _ _ (by simp)).trans t15)
        have hlo := HRD.out.lo
        have HB2 : Hid (Below w.heap.size w ((w5.setCell ⟨rb, 0, none⟩ (.string (Lib.maxS s.1 ⟨#[]⟩))).setCell ⟨rb, 1, none⟩ (.string (endS s.2 (zeroS k0))))) := ((below_on HRD.out.bel (Nat.le_refl _) hb35).setCell (p := ⟨rb, 0, none⟩) (by simp; omega) _).setCell (p := ⟨rb, 1, none⟩) (by simp; omega) _
        have hgl2 : g < ((w5.setCell ⟨rb, 0, none⟩ (.string (Lib.maxS s.1 ⟨#[]⟩))).setCell ⟨rb, 1, none⟩ (.string (endS s.2 (zeroS k0)))).heap.size := by have := hb35.size; simp only [World.size_setCell]; omega
        have HH : Hid (heldSp ((w5.setCell ⟨rb, 0, none⟩ (.string (Lib.maxS s.1 ⟨#[]⟩))).setCell ⟨rb, 1, none⟩ (.string (endS s.2 (zeroS k0)))) (some ⟨g, 0, none⟩) (F.take m)) := .inr ⟨g, 0, rfl, fun i hi => by
          obtain ⟨e1, e2⟩ := HTK.out.2 i hi
          have eb := (hkb g hgr).trans (hb35.block g hg2)
          exact ⟨(World.cell?_of_block eb).trans e1, (World.cell?_of_block eb).trans e2⟩⟩
        generalize (w5.setCell ⟨rb, 0, none⟩ (.string (Lib.maxS s.1 ⟨#[]⟩))).setCell ⟨rb, 1, none⟩ (.string (endS s.2 (zeroS k0))) = T2 at u0 u1 HB2 hgl2 HH ⊢
        clear hb35 hkb t05 t15 tf5 hb5 hb4 t0 t1 d0 d1 cK tf3
        generalize hrr : rdS F s m = r at *
        have HRR := hide hrr
        clear hrr
        by_cases hrf : readF rds r = 0
        · have HRF := hide hrf
          clear hrf
          go_wp2_with (first
            | (go_at_call 35; refine (vread_any r _ (HW.out.on HB2.out) (Nat.le_trans hB HB2.out.size) hn).mono ?_; rintro e w6 ⟨rfl, rv6, hw6, hb6, hf6⟩; rw [HRF.out]; simp only [errV]; have HW6 := hide hw6; have HB6 := hide hb6; have HF6 := hide hf6; clear hw6 hb6 hf6))
          go_ret2
          exact ⟨F, HPF.out, scan_end HW.out hB HB2.out (by rw [HRR.out]; exact HW6.out) HB6.out HF6.out HH.out (fun b off e => by cases e; exact ⟨by omega, hgl2⟩) (by rw [HRR.out]; exact HRF.out) (by rw [HTK.out.1]; rfl) ⟨by rw [HTK.out.1]; exact Nat.le_refl _, hm2⟩⟩
        · have HRF := hide hrf
          have he : errV (readF rds r) = .iface 77 (.int .i64 (readF rds r)) := by unfold errV; rw [if_neg hrf]
          have HER := hide he
          clear hrf he
          go_wp2_with (first
            | (go_at_call 35; refine (vread_any r _ (HW.out.on HB2.out) (Nat.le_trans hB HB2.out.size) hn).mono ?_; rintro e w6 ⟨rfl, rv6, hw6, hb6, hf6⟩; rw [HER.out]; have HW6 := hide hw6; have HB6 := hide hb6; have HF6 := hide hf6; clear hw6 hb6 hf6))
          go_ret2
          exact ⟨F, HPF.out, scan_many hB HB2.out (by rw [HRR.out]; exact HW6.out) HB6.out HF6.out (by rw [HRR.out]; exact HRF.out) (by rw [HRR.out, HER.out]; rfl)⟩
    · have hmI : ¬ (m : Int) ≤ (F.length : Int) := by omega
      have HTF : Hid (F.take m = F) := List.take_of_length_le (by omega)
      have HB2 := hide HRD.out.bel
      have HH : Hid (heldSp T ra (F.take m) ∧ ∀ b off, ra = some ⟨b, off, none⟩ → w.heap.size ≤ b ∧ b < T.heap.size) := by
        unfold Hid
        rw [HTF.out]
        refine ⟨(ownP_has HRD.out.own).1, fun b off e => ?_⟩
        rcases own_form HRD.out.own with ⟨e0, _⟩ | ⟨g, cap', e0, h1, h2, _⟩
        · rw [e] at e0; simp at e0
        · rw [e] at e0; simp at e0; obtain ⟨⟨rfl, _⟩, _⟩ := e0; exact ⟨by omega, h2⟩
      have HCP : Hid ((F.take m).length ≤ rcap ∧ rcap ≤ 9223372036854775807) := by
        unfold Hid
        rw [HTF.out]
        rcases own_form HRD.out.own with ⟨e0, h0⟩ | ⟨g, cap', e0, h1, h2, h3, h4⟩
        · rw [h0] at e0; simp at e0; rw [h0, e0.2]; exact ⟨Nat.le_refl _, by omega⟩
        · simp at e0; rw [e0.2]; unfold maxLen at h4; exact ⟨h3, by omega⟩
      have HRS : Hid (rdS F s m = s) := if_neg hmF
      have u0 : T.cell? ⟨rb, 0, none⟩ = some (.string (rdS F s m).1) := by rw [HRS.out]; exact t0
      have u1 : T.cell? ⟨rb, 1, none⟩ = some (.string (rdS F s m).2) := by rw [HRS.out]; exact t1
      clear t0 t1 HRS
      generalize hrr : rdS F s m = r at *
      have HRR := hide hrr
      clear hrr
      by_cases hrf : readF rds r = 0
      · have HRF := hide hrf
        clear hrf
        go_wp2_with (first
          | (go_at_call 35; refine (vread_any r _ (HW.out.on HB2.out) (Nat.le_trans hB HB2.out.size) hn).mono ?_; rintro e w6 ⟨rfl, rv6, hw6, hb6, hf6⟩; rw [HRF.out]; simp only [errV]; have HW6 := hide hw6; have HB6 := hide hb6; have HF6 := hide hf6; clear hw6 hb6 hf6))
        go_ret2
        exact ⟨F, HPF.out, scan_end HW.out hB HB2.out (by rw [HRR.out]; exact HW6.out) HB6.out HF6.out HH.out.1 HH.out.2 (by rw [HRR.out]; exact HRF.out) (by rw [HTF.out]; rfl) HCP.out⟩
      · have HRF := hide hrf
        have he : errV (readF rds r) = .iface 77 (.int .i64 (readF rds r)) := by unfold errV; rw [if_neg hrf]
        have HER := hide he
        clear hrf he
        go_wp2_with (first
          | (go_at_call 35; refine (vread_any r _ (HW.out.on HB2.out) (Nat.le_trans hB HB2.out.size) hn).mono ?_; rintro e w6 ⟨rfl, rv6, hw6, hb6, hf6⟩; rw [HER.out]; have HW6 := hide hw6; have HB6 := hide hb6; have HF6 := hide hf6; clear hw6 hb6 hf6))
        go_ret2
        exact ⟨F, HPF.out, scan_many hB HB2.out (by rw [HRR.out]; exact HW6.out) HB6.out HF6.out (by rw [HRR.out]; exact HRF.out) (by rw [HRR.out, HER.out]; rfl)⟩
  have HREST := hide hrest
  clear hrest
  go_region_with (first | (go_at_call 31; refine (HS.out _ ?_).mono ?_; exact below_on HB0.out (Nat.le_refl _) (by first | exact (Below.refl _ _).drew | exact (Below.refl _ _).drew.alloc (by simp) _ | exact ((Below.refl _ _).alloc (by simp) _).drew); rintro e w2 ⟨v, rfl, hb2', F, ho, hp⟩; have hb2 : Below (w.alloc (Obj.cells #[Value.string s.1, Value.string s.2] 49)).heap.size (w.alloc (Obj.cells #[Value.string s.1, Value.string s.2] 49)) w2 := below_on (by first | exact (Below.refl _ _).drew | exact (Below.refl _ _).drew.alloc (by simp) _ | exact ((Below.refl _ _).alloc (by simp) _).drew) (Nat.le_refl _) hb2'; have d0 := cell_on hb2 a0; have d1 := cell_on hb2 a1; have hlt2 : w.heap.size < w2.heap.size := World.block_lt_of_cell? _ _ d0; first | (have _ : Below (w.alloc (Obj.cells #[Value.string s.1, Value.string s.2] 49)).drew.heap.size (w.alloc (Obj.cells #[Value.string s.1, Value.string s.2] 49)).drew w2 := hb2'; skip) | (have z0 : w2.cell? ⟨w.heap.size + 1, 0, none⟩ = some (.string ⟨#[]⟩) := cell_on hb2' (by simp); have z1 : w2.cell? ⟨w.heap.size + 1, 1, none⟩ = some (.string ⟨#[]⟩) := cell_on hb2' (by simp); have zl : w.heap.size + 1 < w2.heap.size := World.block_lt_of_cell? _ _ z0; have zf : ∀ j, w2.frozen? ⟨w.heap.size + 1, j, none⟩ = false := fun j => frozen_on hb2' (by simp) (by simp))))
  all_goals
    have hb02 := below_on HB0.out (Nat.le_refl _) hb2
    obtain ⟨ra, rcap, rfl⟩ := own_shape ho
    first
    | exact HREST.out _ _ ra rcap F (rd_new hb02 ho (by simp) d0 d1) hp
    | exact HREST.out _ _ ra rcap F (rd_set hb02 ho (by simp) d0 d1 z0 z1 zf) hp
set_option maxHeartbeats 1000000 in
theorem scan_low (s : ByteArray × ByteArray) (m : Int) (wb : Nat) (w : World) (hm : m < 1) :
    Calls Tryz.prog 14 #[.pointer (some ⟨wb, 0, none⟩), .agg #[.string s.1, .string s.2], .int .i64 m] w fun e w' => e = .returned (.tuple #[.slice none 0 0, errV 1]) ∧ Below w.heap.size w w' := by
  have hB0 := below_alloc1 w (Obj.cells #[Value.string s.1, Value.string s.2] 49)
  go_enter Tryz.func14, Tryz.ntmps14
  go_wp2
  go_ret2
  exact ⟨rfl, hB0⟩
end Go.Proofs.YtpbhcjkllfonhaaGreat
