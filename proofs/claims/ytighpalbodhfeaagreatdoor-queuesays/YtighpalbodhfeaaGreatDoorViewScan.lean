/-
  What View.Scan returns, and makes of what was read, given what View.seen returns.
-/
import Derived.Test.YtighpalbodhfeaaGreatDoorVerNew
import Derived.Test.YtighpalbodhfeaaGreatDoorBase
import Derived.Test.YtighpalbodhfeaaGreatDoorRowIns3
import Derived.Test.YtighpalbodhfeaaGreatDoorChgCheck
import Derived.Test.YtighpalbodhfeaaGreatDoorChgMem
import Derived.Test.YtighpalbodhfeaaGreatDoorAppend1
namespace Go.Proofs.YtighpalbodhfeaaGreatDoor
open Go.RowKit Go.Joins Go.Shelf
attribute [local go_sem ↓] Go.wp_at_zero Go.wp_at_succ

/-- what View.seen returns, in whatever world behind this one -/
def SeenSays (w : World) (wb : Nat) (s : ByteArray × ByteArray) (P : List (ByteArray × ByteArray) → Prop) : Prop := ∀ W, Below w.heap.size w W → Calls Tryz.prog 78 #[.pointer (some ⟨wb, 0, none⟩), .agg #[.string s.1, .string s.2]] W fun e w' => ∃ v, e = .returned v ∧ Below W.heap.size W w' ∧ ∃ F, ownP w' W.heap.size v F ∧ P F
/-- what is read of a span: up to the last row that is told, or all of it -/
def rdS (F : List (ByteArray × ByteArray)) (s : ByteArray × ByteArray) (m : Nat) : ByteArray × ByteArray := if m ≤ F.length then (Lib.maxS s.1 ⟨#[]⟩, endS s.2 (zeroS ((F[m - 1]?.map (·.1)).getD ⟨#[]⟩))) else s
def ScanPost (w w' : World) (e : Ending) (B wb vb : Nat) (since : Int) (cv rv : Value) (chs : List Chg) (rds : List (ByteArray × ByteArray)) (s : ByteArray × ByteArray) (m : Nat) (F : List (ByteArray × ByteArray)) : Prop :=
  (readF rds (rdS F s m) = 0 → ∃ ao cap, e = .returned (.tuple #[.slice ao (F.take m).length cap, .nilIface]) ∧ ((F.take m).length ≤ cap ∧ cap ≤ 9223372036854775807) ∧ heldSp w' ao (F.take m) ∧ ∃ rv', VW w' B wb vb since cv rv' chs (readL rds (rdS F s m)) ∧ Below B w w' ∧ farW w w' wb cv rv cv rv' ∧ ∀ b off, ao = some ⟨b, off, none⟩ → w.heap.size ≤ b ∧ b < w'.heap.size ∧ ¬ inVW wb cv rv' b) ∧
  (readF rds (rdS F s m) ≠ 0 → e = .returned (.tuple #[.slice none 0 0, errV (readF rds (rdS F s m))]) ∧ ReadAt w w' B wb vb since cv rv chs (readL rds (rdS F s m)))
/-- the variables of View.Scan behind its first assignment -/
structure RD (w T : World) (rb : Nat) (s : ByteArray × ByteArray) (v : Value) (F : List (ByteArray × ByteArray)) : Prop where
  t0 : T.cell? ⟨rb, 0, none⟩ = some (.string s.1)
  t1 : T.cell? ⟨rb, 1, none⟩ = some (.string s.2)
  fz : ∀ j, T.frozen? ⟨rb, j, none⟩ = false
  d0 : T.cell? ⟨w.heap.size, 0, none⟩ = some (.string s.1)
  d1 : T.cell? ⟨w.heap.size, 1, none⟩ = some (.string s.2)
  bel : Below w.heap.size w T
  own : ownP T (w.heap.size + 1) v F
  lo : w.heap.size < rb
  off : ∀ k, v.ownBlock = some k → k ≠ rb
theorem rd_new {w w2 : World} {s : ByteArray × ByteArray} {v : Value} {F : List (ByteArray × ByteArray)} {B : Nat} (hb : Below w.heap.size w w2) (ho : ownP w2 B v F) (hB : w.heap.size + 1 ≤ B) (d0 : w2.cell? ⟨w.heap.size, 0, none⟩ = some (.string s.1)) (d1 : w2.cell? ⟨w.heap.size, 1, none⟩ = some (.string s.2)) :
    RD w (w2.alloc (Obj.cells #[Value.string s.1, Value.string s.2] 91)) w2.heap.size s v F := by
  have hb3 := below_alloc1 w2 (Obj.cells #[Value.string s.1, Value.string s.2] 91)
  have hl : w.heap.size < w2.heap.size := World.block_lt_of_cell? _ _ d0
  exact ⟨cell_new _ _ _ 0, cell_new _ _ _ 1, fun j => frozen_new _ _ _ j, cell_on hb3 d0, cell_on hb3 d1, below_on hb (Nat.le_refl _) hb3, own_low (own_on ho hb3) hB, hl, fun k e => by have := (World.ownsRow.lt ho k e).2; omega⟩
theorem rd_set {w w2 : World} {s : ByteArray × ByteArray} {v : Value} {F : List (ByteArray × ByteArray)} {B : Nat} (hb : Below w.heap.size w w2) (ho : ownP w2 B v F) (hB : w.heap.size + 2 ≤ B) (d0 : w2.cell? ⟨w.heap.size, 0, none⟩ = some (.string s.1)) (d1 : w2.cell? ⟨w.heap.size, 1, none⟩ = some (.string s.2))
    (z0 : w2.cell? ⟨w.heap.size + 1, 0, none⟩ = some (.string ⟨#[]⟩)) (z1 : w2.cell? ⟨w.heap.size + 1, 1, none⟩ = some (.string ⟨#[]⟩)) (zf : ∀ j, w2.frozen? ⟨w.heap.size + 1, j, none⟩ = false) :
    RD w ((w2.setCell ⟨w.heap.size + 1, 0, none⟩ (.string s.1)).setCell ⟨w.heap.size + 1, 1, none⟩ (.string s.2)) (w.heap.size + 1) s v F := by
  have hk : ∀ k, k ≠ w.heap.size + 1 → ((w2.setCell ⟨w.heap.size + 1, 0, none⟩ (.string s.1)).setCell ⟨w.heap.size + 1, 1, none⟩ (.string s.2)).heap[k]? = w2.heap[k]? := fun k h => (Below.heap_setCell _ _ _ _ h).trans (Below.heap_setCell _ _ _ _ h)
  refine ⟨(World.cell?_setCell_other _ _ _ _ (by simp)).trans (World.cell?_setCell_same _ _ _ z0), World.cell?_setCell_same _ _ _ ((World.cell?_setCell_other _ _ _ _ (by simp)).trans z1), fun j => by rw [World.frozen?_setCell, World.frozen?_setCell]; exact zf j, (World.cell?_of_block (hk w.heap.size (by omega))).trans d0, (World.cell?_of_block (hk w.heap.size (by omega))).trans d1, (hb.setCell (p := ⟨w.heap.size + 1, 0, none⟩) (by simp) _).setCell (p := ⟨w.heap.size + 1, 1, none⟩) (by simp) _, own_low (own_block ho fun k e => hk k (by have := (World.ownsRow.lt ho k e).1; omega)) (by omega), by omega, fun k e => by have := (World.ownsRow.lt ho k e).1; omega⟩
theorem scan_end {w T2 w6 : World} {B wb vb : Nat} {since : Int} {cv rv rv6 : Value} {chs : List Chg} {rds : List (ByteArray × ByteArray)} {s : ByteArray × ByteArray} {m cap : Nat} {F : List (ByteArray × ByteArray)} {ao : Option Addr} (h : VW w B wb vb since cv rv chs rds) (hB : B ≤ w.heap.size) (hb : Below w.heap.size w T2) (hw6 : VW w6 B wb vb since cv rv6 chs (readL rds (rdS F s m))) (hb6 : Below B T2 w6) (hf6 : farW T2 w6 wb cv rv cv rv6)
    (hh : heldSp T2 ao (F.take m)) (hg : ∀ b off, ao = some ⟨b, off, none⟩ → w.heap.size ≤ b ∧ b < T2.heap.size) (h0 : readF rds (rdS F s m) = 0) {e : Ending} (he : e = .returned (.tuple #[.slice ao (F.take m).length cap, .nilIface])) (hcap : (F.take m).length ≤ cap ∧ cap ≤ 9223372036854775807) : ScanPost w w6 e B wb vb since cv rv chs rds s m F := by
  have hn : ∀ b, w.heap.size ≤ b → ¬ inVW wb cv rv b := fun b hb' hin => by have := h.lt hin; omega
  refine ⟨fun _ => ⟨ao, cap, he, hcap, heldSp_block hh (fun b off e _ => (hf6 b (hg b off e).2 (hn b (hg b off e).1)).1), rv6, hw6, (hb.mono hB).trans hb6, farW.trans (farW.on hb) hb.size hf6, fun b off e => ⟨(hg b off e).1, Nat.lt_of_lt_of_le (hg b off e).2 hb6.size, (hf6 b (hg b off e).2 (hn b (hg b off e).1)).2⟩⟩, fun h => absurd h0 h⟩
theorem scan_many {w T2 w6 : World} {B wb vb : Nat} {since : Int} {cv rv rv6 : Value} {chs : List Chg} {rds : List (ByteArray × ByteArray)} {s : ByteArray × ByteArray} {m : Nat} {F : List (ByteArray × ByteArray)} (hB : B ≤ w.heap.size) (hb : Below w.heap.size w T2) (hw6 : VW w6 B wb vb since cv rv6 chs (readL rds (rdS F s m))) (hb6 : Below B T2 w6) (hf6 : farW T2 w6 wb cv rv cv rv6)
    (h0 : readF rds (rdS F s m) ≠ 0) {e : Ending} (he : e = .returned (.tuple #[.slice none 0 0, errV (readF rds (rdS F s m))])) : ScanPost w w6 e B wb vb since cv rv chs rds s m F :=
  ⟨fun h => absurd h h0, fun _ => ⟨he, rv6, hw6, (hb.mono hB).trans hb6, farW.trans (farW.on hb) hb.size hf6⟩⟩
set_option maxRecDepth 4000 in
set_option maxHeartbeats 2000000 in
theorem scan_ok (s : ByteArray × ByteArray) (m : Nat) {B wb vb : Nat} {since : Int} {cv rv : Value} {chs : List Chg} {rds : List (ByteArray × ByteArray)} {P : List (ByteArray × ByteArray) → Prop} (w : World) (h : VW w B wb vb since cv rv chs rds) (hs : SeenSays w wb s P) (hP : ∀ F, P F → F.length ≤ 1000000 ∧ ∀ r ∈ F, r.1.size ≤ 1000)
    (hB : B ≤ w.heap.size) (hn : rds.length ≤ 100) (hm : 1 ≤ m) (hm2 : m ≤ 9223372036854775807) :
    Calls Tryz.prog 33 #[.pointer (some ⟨wb, 0, none⟩), .agg #[.string s.1, .string s.2], .int .i64 m] w fun e w' => ∃ F, P F ∧ ScanPost w w' e B wb vb since cv rv chs rds s m F := by
  have HW := hide h
  have HS := hide hs
  have HP := hide hP
  have hB0 := below_alloc1 w (Obj.cells #[Value.string s.1, Value.string s.2] 91)
  have a0 : (w.alloc (Obj.cells #[Value.string s.1, Value.string s.2] 91)).cell? ⟨w.heap.size, 0, none⟩ = some (.string s.1) := cell_new _ _ _ 0
  have a1 : (w.alloc (Obj.cells #[Value.string s.1, Value.string s.2] 91)).cell? ⟨w.heap.size, 1, none⟩ = some (.string s.2) := cell_new _ _ _ 1
  have HB0 := hide hB0
  have m1 : ¬ ((m : Int) < 1) := by omega
  clear h hs hP hB0
  go_enter Tryz.func33, Tryz.ntmps33
  go_wp2
  rename_i Q K hK
  have hrest : ∀ (T : World) (rb : Nat) (ra : Option Addr) (rcap : Nat) (F : List (ByteArray × ByteArray)), RD w T rb s (.slice ra F.length rcap) F → P F → Exit.then K Q Exit.normal { tmps := #[Value.pointer (some ⟨wb, 0, none⟩), Value.agg #[Value.string s.1, Value.string s.2], Value.int .i64 (m : Int), undef, Value.pointer (some ⟨w.heap.size, 0, none⟩), undef, Value.slice none 0 0, Value.nilIface, Value.slice ra F.length rcap, Value.pointer (some ⟨rb, 0, none⟩), undef, Value.int .i64 (m : Int), Value.bool false, undef, Value.pointer (some ⟨wb, 0, none⟩), Value.agg #[Value.string s.1, Value.string s.2], Value.slice ra F.length rcap, Value.agg #[Value.string s.1, Value.string s.2], undef, undef, undef, undef, undef, undef, undef, undef, undef, undef, undef, undef, undef, undef, undef, undef, undef, undef, undef, undef, undef, undef, undef, undef], defers := [] } T := by
    intro T rb ra rcap F hrd hpf
    have HRD := hide hrd
    have HPF := hide hpf
    have hl := (HP.out F hpf).1
    have HLK := hide (HP.out F hpf).2
    have t0 := hrd.t0
    have t1 := hrd.t1
    have tf := hrd.fz
    have d0 := hrd.d0
    have d1 := hrd.d1
    clear hrd hpf a0 a1
    by_cases hmF : m ≤ F.length
    · have hmI : (m : Int) ≤ (F.length : Int) := by omega
      rcases own_form HRD.out.own with ⟨_, h0⟩ | ⟨g, cap', e, hg1, hg2, hc1, hc2⟩
      · omega
      cases e
      have hcI : (m : Int) ≤ (rcap : Int) := by omega
      have hc3 : rcap ≤ 9223372036854775807 := by unfold maxLen at hc2; omega
      have hmc : m ≤ rcap := by omega
      have hm1 : (0 : Int) ≤ (m : Int) := by omega
      have k1 : (m : Int) - 1 = ((m - 1 : Nat) : Int) := by omega
      have k2 : ((m - 1 : Nat) : Int) < (m : Int) := by omega
      have hm1F : m - 1 < F.length := by omega
      have cK : T.cell? ⟨g, (m - 1) * 2, none⟩ = some (.string F[m - 1].1) := (own_get cellP_len HRD.out.own (m - 1) 0 hm1F (by omega)).1
      have hks := HLK.out _ (List.getElem_mem hm1F)
      have hgr : g ≠ rb := HRD.out.off g rfl
      go_wp2_with (first
        | (go_at_call 79; refine (clip_any ⟨g, 0, none⟩ m rcap _ hmc hc3).mono ?_; rintro e w3 ⟨rfl, hb3⟩; have HB3 := hide hb3; replace t0 := cell_on hb3 t0; replace t1 := cell_on hb3 t1; replace d0 := cell_on hb3 d0; replace d1 := cell_on hb3 d1; replace cK := cell_on hb3 cK))
      have HRS : Hid (rdS F s m = (Lib.maxS s.1 ⟨#[]⟩, endS s.2 (zeroS F[m - 1].1))) := by
        unfold Hid rdS
        rw [if_pos hmF, List.getElem?_eq_getElem hm1F]
        rfl
      have HTK : Hid ((F.take m).length = m ∧ spansAt T g 0 (F.take m)) := by
        refine ⟨by rw [List.length_take]; omega, fun i hi => ?_⟩
        have hi2 : i < F.length := by rw [List.length_take] at hi; omega
        have e1 := (own_get cellP_len HRD.out.own i 0 hi2 (by omega)).1
        have e2 := (own_get cellP_len HRD.out.own i 1 hi2 (by omega)).1
        rw [List.getElem_take, Nat.zero_add]
        exact ⟨e1, e2⟩
      have hrl : rb < w3.heap.size := World.block_lt_of_cell? _ _ t0
      have tf3 : ∀ j, w3.frozen? ⟨rb, j, none⟩ = false := fun j => frozen_on hb3 (show rb < T.heap.size from World.block_lt_of_cell? _ _ HRD.out.t0) (tf j)
      have k3 : IntKind.i64.wrap ((m : Int) - 1) = ((m - 1 : Nat) : Int) := by rw [k1, IntKind.wrap_i64]; omega
      have k4 : (0 : Int) ≤ ((m - 1 : Nat) : Int) := Int.natCast_nonneg _
      have k5 : IntKind.i64.wrap ((m - 1 : Nat) : Int) = ((m - 1 : Nat) : Int) := by rw [IntKind.wrap_i64]; omega
      generalize F[m - 1].1 = k0 at *
      generalize m - 1 = j0 at *
      have HU := fun w => hide (upTo_any k0 w hks)
      clear tf hb3
      go_region_with (first
        | (go_at_call 81; refine (HU _).out.mono ?_; rintro e w4 ⟨rfl, hb4'⟩; have hb4 : Below w3.heap.size w3 w4 := below_on (Below.refl _ _).drew (Nat.le_refl _) hb4'; replace d0 := cell_on hb4 d0; replace d1 := cell_on hb4 d1; replace t0 := cell_on hb4 t0; replace t1 := cell_on hb4 t1; replace tf3 := fun j => frozen_on hb4 hrl (tf3 j); replace cK := cell_on hb4 cK; clear hb4')
        | (go_at_call 80; refine (both_any s.1 s.2 ⟨#[]⟩ _ _).mono ?_; rintro e w5 ⟨rfl, hb5⟩; have t05 := cell_on hb5 t0; have t15 := cell_on hb5 t1; have hrl4 : rb < w4.heap.size := World.block_lt_of_cell? _ _ t0; have tf5 := fun j => frozen_on hb5 hrl4 (tf3 j)))
      all_goals
        have hb35 := below_on (below_on HB3.out (Nat.le_refl _) hb4) (Nat.le_refl _) hb5
        have hkb : ∀ k, k ≠ rb → ((w5.setCell ⟨rb, 0, none⟩ (.string (Lib.maxS s.1 ⟨#[]⟩))).setCell ⟨rb, 1, none⟩ (.string (endS s.2 (zeroS k0)))).heap[k]? = w5.heap[k]? := fun k h => (Below.heap_setCell _ _ _ _ h).trans (Below.heap_setCell _ _ _ _ h)
        have u0 : ((w5.setCell ⟨rb, 0, none⟩ (.string (Lib.maxS s.1 ⟨#[]⟩))).setCell ⟨rb, 1, none⟩ (.string (endS s.2 (zeroS k0)))).cell? ⟨rb, 0, none⟩ = some (.string (rdS F s m).1) := by
          rw [HRS.out]; exact (World.cell?_setCell_other _ _ _ _ (by simp)).trans (World.cell?_setCell_same _ _ _ t05)
        have u1 : ((w5.setCell ⟨rb, 0, none⟩ (.string (Lib.maxS s.1 ⟨#[]⟩))).setCell ⟨rb, 1, none⟩ (.string (endS s.2 (zeroS k0)))).cell? ⟨rb, 1, none⟩ = some (.string (rdS F s m).2) := by
          rw [HRS.out]; exact World.cell?_setCell_same _ _ _ ((World.cell?_setCell_other _ _ _ _ (by simp)).trans t15)
        have hlo := HRD.out.lo
        have HB2 : Hid (Below w.heap.size w ((w5.setCell ⟨rb, 0, none⟩ (.string (Lib.maxS s.1 ⟨#[]⟩))).setCell ⟨rb, 1, none⟩ (.string (endS s.2 (zeroS k0))))) := ((below_on HRD.out.bel (Nat.le_refl _) hb35).setCell (p := ⟨rb, 0, none⟩) (by simp; omega) _).setCell (p := ⟨rb, 1, none⟩) (by simp; omega) _
        have hgl2 : g < ((w5.setCell ⟨rb, 0, none⟩ (.string (Lib.maxS s.1 ⟨#[]⟩))).setCell ⟨rb, 1, none⟩ (.string (endS s.2 (zeroS k0)))).heap.size := by have := hb35.size; simp only [World.size_setCell]; omega
        have HH : Hid (heldSp ((w5.setCell ⟨rb, 0, none⟩ (.string (Lib.maxS s.1 ⟨#[]⟩))).setCell ⟨rb, 1, none⟩ (.string (endS s.2 (zeroS k0)))) (some ⟨g, 0, none⟩) (F.take m)) := .inr ⟨g, 0, rfl, fun i hi => by
          obtain ⟨e1, e2⟩ := HTK.out.2 i hi
          have eb := (hkb g hgr).trans (hb35.block g hg2)
          exact ⟨(World.cell?_of_block eb).trans e1, (World.cell?_of_block eb).trans e2⟩⟩
        generalize (w5.setCell ⟨rb, 0, none⟩ (.string (Lib.maxS s.1 ⟨#[]⟩))).setCell ⟨rb, 1, none⟩ (.string (endS s.2 (zeroS k0))) = T2 at u0 u1 HB2 hgl2 HH ⊢
        clear hb35 hkb t05 t15 tf5 hb5 hb4 t0 t1 d0 d1 cK tf3
        generalize hrr : rdS F s m = r at *
        have HRR := hide hrr
        clear hrr
        by_cases hrf : readF rds r = 0
        · have HRF := hide hrf
          clear hrf
          go_wp2_with (first
            | (go_at_call 73; refine (vread_any r _ (HW.out.on HB2.out) (Nat.le_trans hB HB2.out.size) hn).mono ?_; rintro e w6 ⟨rfl, rv6, hw6, hb6, hf6⟩; rw [HRF.out]; simp only [errV]; have HW6 := hide hw6; have HB6 := hide hb6; have HF6 := hide hf6; clear hw6 hb6 hf6))
          go_ret2
          exact ⟨F, HPF.out, scan_end HW.out hB HB2.out (by rw [HRR.out]; exact HW6.out) HB6.out HF6.out HH.out (fun b off e => by cases e; exact ⟨by omega, hgl2⟩) (by rw [HRR.out]; exact HRF.out) (by rw [HTK.out.1]; rfl) ⟨by rw [HTK.out.1]; exact Nat.le_refl _, hm2⟩⟩
        · have HRF := hide hrf
          have he : errV (readF rds r) = .iface 108 (.int .i64 (readF rds r)) := by unfold errV; rw [if_neg hrf]
          have HER := hide he
          clear hrf he
          go_wp2_with (first
            | (go_at_call 73; refine (vread_any r _ (HW.out.on HB2.out) (Nat.le_trans hB HB2.out.size) hn).mono ?_; rintro e w6 ⟨rfl, rv6, hw6, hb6, hf6⟩; rw [HER.out]; have HW6 := hide hw6; have HB6 := hide hb6; have HF6 := hide hf6; clear hw6 hb6 hf6))
          go_ret2
          exact ⟨F, HPF.out, scan_many hB HB2.out (by rw [HRR.out]; exact HW6.out) HB6.out HF6.out (by rw [HRR.out]; exact HRF.out) (by rw [HRR.out, HER.out]; rfl)⟩
    · have hmI : ¬ (m : Int) ≤ (F.length : Int) := by omega
      have HTF : Hid (F.take m = F) := List.take_of_length_le (by omega)
      have HB2 := hide HRD.out.bel
      have HH : Hid (heldSp T ra (F.take m) ∧ ∀ b off, ra = some ⟨b, off, none⟩ → w.heap.size ≤ b ∧ b < T.heap.size) := by
        unfold Hid
        rw [HTF.out]
        refine ⟨(ownP_has HRD.out.own).1, fun b off e => ?_⟩
        rcases own_form HRD.out.own with ⟨e0, _⟩ | ⟨g, cap', e0, h1, h2, _⟩
        · rw [e] at e0; simp at e0
        · rw [e] at e0; simp at e0; obtain ⟨⟨rfl, _⟩, _⟩ := e0; exact ⟨by omega, h2⟩
      have HCP : Hid ((F.take m).length ≤ rcap ∧ rcap ≤ 9223372036854775807) := by
        unfold Hid
        rw [HTF.out]
        rcases own_form HRD.out.own with ⟨e0, h0⟩ | ⟨g, cap', e0, h1, h2, h3, h4⟩
        · rw [h0] at e0; simp at e0; rw [h0, e0.2]; exact ⟨Nat.le_refl _, by omega⟩
        · simp at e0; rw [e0.2]; unfold maxLen at h4; exact ⟨h3, by omega⟩
      have HRS : Hid (rdS F s m = s) := if_neg hmF
      have u0 : T.cell? ⟨rb, 0, none⟩ = some (.string (rdS F s m).1) := by rw [HRS.out]; exact t0
      have u1 : T.cell? ⟨rb, 1, none⟩ = some (.string (rdS F s m).2) := by rw [HRS.out]; exact t1
      clear t0 t1 HRS
      generalize hrr : rdS F s m = r at *
      have HRR := hide hrr
      clear hrr
      by_cases hrf : readF rds r = 0
      · have HRF := hide hrf
        clear hrf
        go_wp2_with (first
          | (go_at_call 73; refine (vread_any r _ (HW.out.on HB2.out) (Nat.le_trans hB HB2.out.size) hn).mono ?_; rintro e w6 ⟨rfl, rv6, hw6, hb6, hf6⟩; rw [HRF.out]; simp only [errV]; have HW6 := hide hw6; have HB6 := hide hb6; have HF6 := hide hf6; clear hw6 hb6 hf6))
        go_ret2
        exact ⟨F, HPF.out, scan_end HW.out hB HB2.out (by rw [HRR.out]; exact HW6.out) HB6.out HF6.out HH.out.1 HH.out.2 (by rw [HRR.out]; exact HRF.out) (by rw [HTF.out]; rfl) HCP.out⟩
      · have HRF := hide hrf
        have he : errV (readF rds r) = .iface 108 (.int .i64 (readF rds r)) := by unfold errV; rw [if_neg hrf]
        have HER := hide he
        clear hrf he
        go_wp2_with (first
          | (go_at_call 73; refine (vread_any r _ (HW.out.on HB2.out) (Nat.le_trans hB HB2.out.size) hn).mono ?_; rintro e w6 ⟨rfl, rv6, hw6, hb6, hf6⟩; rw [HER.out]; have HW6 := hide hw6; have HB6 := hide hb6; have HF6 := hide hf6; clear hw6 hb6 hf6))
        go_ret2
        exact ⟨F, HPF.out, scan_many hB HB2.out (by rw [HRR.out]; exact HW6.out) HB6.out HF6.out (by rw [HRR.out]; exact HRF.out) (by rw [HRR.out, HER.out]; rfl)⟩
  have HREST := hide hrest
  clear hrest
  go_region_with (first | (go_at_call 78; refine (HS.out _ ?_).mono ?_; exact below_on HB0.out (Nat.le_refl _) (by first | exact (Below.refl _ _).drew | exact (Below.refl _ _).drew.alloc (by simp) _ | exact ((Below.refl _ _).alloc (by simp) _).drew); rintro e w2 ⟨v, rfl, hb2', F, ho, hp⟩; have hb2 : Below (w.alloc (Obj.cells #[Value.string s.1, Value.string s.2] 91)).heap.size (w.alloc (Obj.cells #[Value.string s.1, Value.string s.2] 91)) w2 := below_on (by first | exact (Below.refl _ _).drew | exact (Below.refl _ _).drew.alloc (by simp) _ | exact ((Below.refl _ _).alloc (by simp) _).drew) (Nat.le_refl _) hb2'; have d0 := cell_on hb2 a0; have d1 := cell_on hb2 a1; have hlt2 : w.heap.size < w2.heap.size := World.block_lt_of_cell? _ _ d0; first | (have _ : Below (w.alloc (Obj.cells #[Value.string s.1, Value.string s.2] 91)).drew.heap.size (w.alloc (Obj.cells #[Value.string s.1, Value.string s.2] 91)).drew w2 := hb2'; skip) | (have z0 : w2.cell? ⟨w.heap.size + 1, 0, none⟩ = some (.string ⟨#[]⟩) := cell_on hb2' (by simp); have z1 : w2.cell? ⟨w.heap.size + 1, 1, none⟩ = some (.string ⟨#[]⟩) := cell_on hb2' (by simp); have zl : w.heap.size + 1 < w2.heap.size := World.block_lt_of_cell? _ _ z0; have zf : ∀ j, w2.frozen? ⟨w.heap.size + 1, j, none⟩ = false := fun j => frozen_on hb2' (by simp) (by simp))))
  all_goals
    have hb02 := below_on HB0.out (Nat.le_refl _) hb2
    obtain ⟨ra, rcap, rfl⟩ := own_shape ho
    first
    | exact HREST.out _ _ ra rcap F (rd_new hb02 ho (by simp) d0 d1) hp
    | exact HREST.out _ _ ra rcap F (rd_set hb02 ho (by simp) d0 d1 z0 z1 zf) hp
set_option maxHeartbeats 1000000 in
theorem scan_low (s : ByteArray × ByteArray) (m : Int) (wb : Nat) (w : World) (hm : m < 1) :
    Calls Tryz.prog 33 #[.pointer (some ⟨wb, 0, none⟩), .agg #[.string s.1, .string s.2], .int .i64 m] w fun e w' => e = .returned (.tuple #[.slice none 0 0, errV 1]) ∧ Below w.heap.size w w' := by
  have hB0 := below_alloc1 w (Obj.cells #[Value.string s.1, Value.string s.2] 91)
  go_enter Tryz.func33, Tryz.ntmps33
  go_wp2
  go_ret2
  exact ⟨rfl, hB0⟩
end Go.Proofs.YtighpalbodhfeaaGreatDoor

/-
  A view and the store beneath it, taken together: what its acts make of it, told by lists alone, and what they leave alone.
-/
namespace Go.Proofs.YtighpalbodhfeaaGreatDoor
open Go.RowKit Go.Joins Go.Shelf
attribute [local go_sem ↓] Go.wp_at_zero Go.wp_at_succ

abbrev Rws := List (ByteArray × ByteArray)
structure OkV (P : Rws) (chs : List Chg) (rds : Rws) : Prop where
  rise : riseP P
  len : P.length ≤ 50
  keys : ∀ r ∈ P, r.1.size ≤ 60
  cn : chs.length ≤ 12
  ck : ∀ c ∈ chs, c.key.size ≤ 60
  cr : rises chs
  rn : rds.length ≤ 40
/-- a view of rows P, since a deed, with its changes and what it has read; S: its blocks and the store's -/
def PV (w : World) (B wb : Nat) (S : Nat → Prop) (P : Rws) (since : Int) (chs : List Chg) (rds : Rws) : Prop :=
  ∃ (B0 vb mb n : Nat) (now : Int) (D : DataW Value) (g : ByteArray → Value) (R : ByteArray → List Ver) (cv rv : Value), VS w B0 vb mb now n D g R ∧ VW w B wb vb since cv rv chs rds ∧ (S = fun k => inVW wb cv rv k ∨ inVS vb mb g k) ∧ (∀ k, inVS vb mb g k → ¬ inVW wb cv rv k) ∧ sayR R since P ∧ n ≤ 1000000 ∧ (∀ key, (R key).length ≤ 1000000) ∧ OkV P chs rds ∧ B ≤ w.heap.size
theorem PV.kept {w w' : World} {B wb : Nat} {S : Nat → Prop} {P : Rws} {since : Int} {chs : List Chg} {rds : Rws} (h : PV w B wb S P since chs rds) (hs : w.heap.size ≤ w'.heap.size) (hk : ∀ k, S k → w'.heap[k]? = w.heap[k]?) : PV w' B wb S P since chs rds := by
  obtain ⟨B0, vb, mb, n, now, D, g, R, cv, rv, h1, h2, rfl, h4, h5, h6, h7, h8, h9⟩ := h
  exact ⟨B0, vb, mb, n, now, D, g, R, cv, rv, h1.kept fun k e => hk k (.inr e), h2.kept fun k e => hk k (.inl e), rfl, h4, h5, h6, h7, h8, Nat.le_trans h9 hs⟩
theorem PV.lt {w : World} {B wb : Nat} {S : Nat → Prop} {P : Rws} {since : Int} {chs : List Chg} {rds : Rws} (h : PV w B wb S P since chs rds) {k : Nat} (hk : S k) : k < w.heap.size := by
  obtain ⟨B0, vb, mb, n, now, D, g, R, cv, rv, h1, h2, rfl, h4, h5, h6, h7, h8, h9⟩ := h
  exact hk.elim (fun e => h2.lt e) fun e => h1.lt e
theorem PV.on {w w' : World} {B wb : Nat} {S : Nat → Prop} {P : Rws} {since : Int} {chs : List Chg} {rds : Rws} (h : PV w B wb S P since chs rds) (hb : Below w.heap.size w w') : PV w' B wb S P since chs rds :=
  h.kept hb.size fun k hk => hb.block k (h.lt hk)
theorem PV.ok {w : World} {B wb : Nat} {S : Nat → Prop} {P : Rws} {since : Int} {chs : List Chg} {rds : Rws} (h : PV w B wb S P since chs rds) : OkV P chs rds := by
  obtain ⟨B0, vb, mb, n, now, D, g, R, cv, rv, h1, h2, rfl, h4, h5, h6, h7, h8, h9⟩ := h
  exact h8
theorem PV.lo {w : World} {B wb : Nat} {S : Nat → Prop} {P : Rws} {since : Int} {chs : List Chg} {rds : Rws} (h : PV w B wb S P since chs rds) : B ≤ w.heap.size := by
  obtain ⟨B0, vb, mb, n, now, D, g, R, cv, rv, h1, h2, rfl, h4, h5, h6, h7, h8, h9⟩ := h
  exact h9
/-- a step of the view's own -/
theorem step_far {w w' : World} {B B0 wb vb mb n : Nat} {now since : Int} {D : DataW Value} {g : ByteArray → Value} {R : ByteArray → List Ver} {cv rv cv' rv' : Value} {P : Rws} {chs : List Chg} {rds : Rws} (h1 : VS w B0 vb mb now n D g R) (h4 : ∀ k, inVS vb mb g k → ¬ inVW wb cv rv k) (h5 : sayR R since P) (h6 : n ≤ 1000000) (h7 : ∀ key, (R key).length ≤ 1000000) (h9 : B ≤ w.heap.size)
    (hw : VW w' B wb vb since cv' rv' chs rds) (hb : Below B w w') (hf : farW w w' wb cv rv cv' rv') (ok : OkV P chs rds) :
    PV w' B wb (fun k => inVW wb cv' rv' k ∨ inVS vb mb g k) P since chs rds ∧ StepV w w' B (fun k => inVW wb cv rv k ∨ inVS vb mb g k) (fun k => inVW wb cv' rv' k ∨ inVS vb mb g k) := by
  obtain ⟨a, b⟩ := VS_farW h1 hf h4
  refine ⟨⟨B0, vb, mb, n, now, D, g, R, cv', rv', a, hw, rfl, b, h5, h6, h7, ok, Nat.le_trans h9 hb.size⟩, hb, fun j hj hn => ?_⟩
  obtain ⟨c, d⟩ := hf j hj fun e => hn (.inl e)
  exact ⟨c, fun e => e.elim d fun e => hn (.inr e)⟩
/-- behind an act of a view -/
def ActV (w w' : World) (B wb : Nat) (S : Nat → Prop) (P : Rws) (since : Int) (chs : List Chg) (rds : Rws) : Prop := ∃ S', PV w' B wb S' P since chs rds ∧ StepV w w' B S S'
theorem alter_ok {P : Rws} {chs : List Chg} {rds : Rws} {c : Chg} (h : OkV P chs rds) (hc : chgFault c = 0 → c.key.size ≤ 60) : OkV P (alterL chs c) rds := by
  unfold alterL
  split
  · rename_i hf
    have hf0 : chgFault c = 0 := by
      unfold alterF at hf
      split at hf
      · assumption
      · rename_i h'; exact absurd hf h'
    have hl : ¬ 12 < (insL chs c).length := by
      intro hl
      unfold alterF at hf
      rw [if_pos hf0, if_pos hl] at hf
      cases hf
    exact { h with cn := by omega, cr := ins_rises c h.cr, ck := fun x hx => (ins_mem hx).elim (fun e => by rw [e]; exact hc hf0) (h.ck x) }
  · exact h
theorem readL_len {l : Rws} {s : ByteArray × ByteArray} (h : l.length ≤ 40) : (readL l s).length ≤ 40 := by
  unfold readL
  split
  · exact h
  · split
    · exact h
    · rw [List.length_append, List.length_singleton]; omega
theorem pv_put (key val : ByteArray) {B wb : Nat} {S : Nat → Prop} {P : Rws} {since : Int} {chs : List Chg} {rds : Rws} (w : World) (h : PV w B wb S P since chs rds) (hk : key.size ≤ maxLen) (hf : chgFault ⟨key, val, false⟩ = 0 → key.size ≤ 60) :
    Calls Tryz.prog 28 #[.pointer (some ⟨wb, 0, none⟩), .string key, .string val] w fun e w' => e = .returned (errV (alterF chs ⟨key, val, false⟩)) ∧ ActV w w' B wb S P since (alterL chs ⟨key, val, false⟩) rds := by
  obtain ⟨B0, vb, mb, n, now, D, g, R, cv, rv, h1, h2, rfl, h4, h5, h6, h7, h8, h9⟩ := h
  refine (vput_any key val w h2 h9 (by have := h8.cn; omega) hk).mono ?_
  rintro e w' ⟨rfl, cv', hw, hb, hfar⟩
  exact ⟨rfl, _, step_far h1 h4 h5 h6 h7 h9 hw hb hfar (alter_ok h8 hf)⟩
theorem pv_delete (key : ByteArray) {B wb : Nat} {S : Nat → Prop} {P : Rws} {since : Int} {chs : List Chg} {rds : Rws} (w : World) (h : PV w B wb S P since chs rds) (hk : key.size ≤ maxLen) (hf : chgFault ⟨key, ⟨#[]⟩, true⟩ = 0 → key.size ≤ 60) :
    Calls Tryz.prog 30 #[.pointer (some ⟨wb, 0, none⟩), .string key] w fun e w' => e = .returned (errV (alterF chs ⟨key, ⟨#[]⟩, true⟩)) ∧ ActV w w' B wb S P since (alterL chs ⟨key, ⟨#[]⟩, true⟩) rds := by
  obtain ⟨B0, vb, mb, n, now, D, g, R, cv, rv, h1, h2, rfl, h4, h5, h6, h7, h8, h9⟩ := h
  refine (vdelete_any key w h2 h9 (by have := h8.cn; omega) hk).mono ?_
  rintro e w' ⟨rfl, cv', hw, hb, hfar⟩
  exact ⟨rfl, _, step_far h1 h4 h5 h6 h7 h9 hw hb hfar (alter_ok h8 hf)⟩
theorem pv_back {B2 : Nat} {mv : Value} {mk : List Chg} {B wb : Nat} {S : Nat → Prop} {P : Rws} {since : Int} {chs : List Chg} {rds : Rws} (w : World) (h : PV w B wb S P since chs rds) (hm : ownCh w B2 mv mk) (hn : mk.length ≤ 12) (hk : ∀ c ∈ mk, c.key.size ≤ 60) (hr : rises mk) :
    Calls Tryz.prog 94 #[.pointer (some ⟨wb, 0, none⟩), mv] w fun e w' => e = .returned (.tuple #[]) ∧ ActV w w' B wb S P since mk rds := by
  obtain ⟨B0, vb, mb, n, now, D, g, R, cv, rv, h1, h2, rfl, h4, h5, h6, h7, h8, h9⟩ := h
  refine (back_any w h2 h9 hm (by omega)).mono ?_
  rintro e w' ⟨rfl, cv', hw, hb, hfar⟩
  exact ⟨rfl, _, step_far h1 h4 h5 h6 h7 h9 hw hb hfar { h8 with cn := hn, ck := hk, cr := hr }⟩
theorem pv_mark {B wb : Nat} {S : Nat → Prop} {P : Rws} {since : Int} {chs : List Chg} {rds : Rws} (w : World) (h : PV w B wb S P since chs rds) :
    Calls Tryz.prog 93 #[.pointer (some ⟨wb, 0, none⟩)] w fun e w' => ∃ v, e = .returned v ∧ ownCh w' w.heap.size v chs ∧ Below w.heap.size w w' := by
  obtain ⟨B0, vb, mb, n, now, D, g, R, cv, rv, h1, h2, rfl, h4, h5, h6, h7, h8, h9⟩ := h
  exact mark_any w h2 (by have := h8.cn; omega)
theorem pv_changes {B wb : Nat} {S : Nat → Prop} {P : Rws} {since : Int} {chs : List Chg} {rds : Rws} (w : World) (h : PV w B wb S P since chs rds) :
    Calls Tryz.prog 40 #[.pointer (some ⟨wb, 0, none⟩)] w fun e w' => ∃ v, e = .returned v ∧ ownCh w' w.heap.size v chs ∧ Below w.heap.size w w' := by
  obtain ⟨B0, vb, mb, n, now, D, g, R, cv, rv, h1, h2, rfl, h4, h5, h6, h7, h8, h9⟩ := h
  exact changes_any w h2 (by have := h8.cn; omega)
theorem pv_reads {B wb : Nat} {S : Nat → Prop} {P : Rws} {since : Int} {chs : List Chg} {rds : Rws} (w : World) (h : PV w B wb S P since chs rds) :
    Calls Tryz.prog 42 #[.pointer (some ⟨wb, 0, none⟩)] w fun e w' => ∃ v, e = .returned v ∧ ownSp w' w.heap.size v rds ∧ Below w.heap.size w w' := by
  obtain ⟨B0, vb, mb, n, now, D, g, R, cv, rv, h1, h2, rfl, h4, h5, h6, h7, h8, h9⟩ := h
  exact reads_any w h2 (by have := h8.rn; omega)
/-- what is told of a key -/
def getP (chs : List Chg) (rds P : Rws) (key : ByteArray) : ByteArray × Bool × Nat :=
  if keyL key.data.toList then match findC chs key with
    | some c => (c.val, !c.gone, 0)
    | none => if readF rds (key, zeroS key) = 0 then ((valR P key).1, (valR P key).2, 0) else (⟨#[]⟩, false, readF rds (key, zeroS key))
  else (⟨#[]⟩, false, 3)
theorem getL_len {chs : List Chg} {rds : Rws} {key : ByteArray} (h : rds.length ≤ 40) : (getL chs rds key).length ≤ 40 := by
  unfold getL
  split
  · split
    · exact h
    · exact readL_len h
  · exact h
theorem getP_eq {chs : List Chg} {rds P : Rws} {R : ByteArray → List Ver} {since : Int} (h : sayR R since P) (key : ByteArray) : getR chs rds R since key = getP chs rds P key := by
  unfold getR getP
  rw [h key]
  rfl
theorem pv_get (key : ByteArray) {B wb : Nat} {S : Nat → Prop} {P : Rws} {since : Int} {chs : List Chg} {rds : Rws} (w : World) (h : PV w B wb S P since chs rds) (hk : key.size ≤ maxLen) :
    Calls Tryz.prog 31 #[.pointer (some ⟨wb, 0, none⟩), .string key] w fun e w' => e = .returned (.tuple #[.string (getP chs rds P key).1, .bool (getP chs rds P key).2.1, errV (getP chs rds P key).2.2]) ∧ ActV w w' B wb S P since chs (getL chs rds key) := by
  obtain ⟨B0, vb, mb, n, now, D, g, R, cv, rv, h1, h2, rfl, h4, h5, h6, h7, h8, h9⟩ := h
  refine (get_any key w h1 h2 h4 h9 (by have := h8.rn; omega) (by have := h8.cn; omega) hk (h7 key)).mono ?_
  rintro e w' ⟨rfl, rv', hw, hb, hfar⟩
  rw [getP_eq h5]
  exact ⟨rfl, _, step_far h1 h4 h5 h6 h7 h9 hw hb hfar { h8 with rn := getL_len h8.rn }⟩
/-- all rows of a span, as they are seen -/
def seenP (P : Rws) (chs : List Chg) (s : ByteArray × ByteArray) : Rws := seenR (inR P s) s chs
def scanF (L rds : Rws) (s : ByteArray × ByteArray) (m : Int) : Nat := if m < 1 then 1 else readF rds (rdS L s m.toNat)
def scanL (L rds : Rws) (s : ByteArray × ByteArray) (m : Int) : Rws := if m < 1 then rds else readL rds (rdS L s m.toNat)
theorem scanL_len {L rds : Rws} {s : ByteArray × ByteArray} {m : Int} (h : rds.length ≤ 40) : (scanL L rds s m).length ≤ 40 := by
  unfold scanL
  split
  · exact h
  · exact readL_len h
/-- behind a scan: rows in memory that is none of the view's, or an error -/
def ScanV (w w' : World) (e : Ending) (B wb : Nat) (S : Nat → Prop) (P : Rws) (since : Int) (chs : List Chg) (rds : Rws) (s : ByteArray × ByteArray) (m : Int) (L : Rws) : Prop :=
  (scanF L rds s m = 0 → ∃ ao cap, e = .returned (.tuple #[.slice ao (L.take m.toNat).length cap, .nilIface]) ∧ ((L.take m.toNat).length ≤ cap ∧ cap ≤ 9223372036854775807) ∧ heldSp w' ao (L.take m.toNat) ∧ ∃ S', PV w' B wb S' P since chs (scanL L rds s m) ∧ StepV w w' B S S' ∧ ∀ b off, ao = some ⟨b, off, none⟩ → w.heap.size ≤ b ∧ b < w'.heap.size ∧ ¬ S' b) ∧
  (scanF L rds s m ≠ 0 → e = .returned (.tuple #[.slice none 0 0, errV (scanF L rds s m)]) ∧ ActV w w' B wb S P since chs (scanL L rds s m))
theorem seenP_small {P : Rws} {chs : List Chg} {rds : Rws} (h : OkV P chs rds) (s : ByteArray × ByteArray) : (seenP P chs s).length ≤ 62 ∧ ∀ r ∈ seenP P chs s, r.1.size ≤ 60 := by
  refine ⟨?_, seen_keys chs (fun r hr => h.keys r (List.mem_filter.1 hr).1) h.ck⟩
  have h1 := seenR_len (inR P s) s chs
  have h2 : (inR P s).length ≤ P.length := List.length_filter_le _ _
  have h3 := h.len
  have h4 := h.cn
  unfold seenP
  omega
theorem pv_scan (s : ByteArray × ByteArray) (m : Int) {B wb : Nat} {S : Nat → Prop} {P : Rws} {since : Int} {chs : List Chg} {rds : Rws} (w : World) (h : PV w B wb S P since chs rds) (hm : m ≤ 9223372036854775807) :
    Calls Tryz.prog 33 #[.pointer (some ⟨wb, 0, none⟩), .agg #[.string s.1, .string s.2], .int .i64 m] w fun e w' => ScanV w w' e B wb S P since chs rds s m (seenP P chs s) := by
  by_cases h0 : m < 1
  · refine (scan_low s m wb w h0).mono ?_
    rintro e w' ⟨rfl, hb⟩
    have e1 : scanF (seenP P chs s) rds s m = 1 := if_pos h0
    have e2 : scanL (seenP P chs s) rds s m = rds := if_pos h0
    unfold ScanV
    rw [e1, e2]
    exact ⟨(fun e => by cases e), fun _ => ⟨rfl, S, h.on hb, .on h.lo hb⟩⟩
  · have ok := h.ok
    obtain ⟨B0, vb, mb, n, now, D, g, R, cv, rv, h1, h2, rfl, h4, h5, h6, h7, h8, h9⟩ := h
    have e0 : (m.toNat : Int) = m := by omega
    have e1 : scanF (seenP P chs s) rds s m = readF rds (rdS (seenP P chs s) s m.toNat) := if_neg h0
    have e2 : scanL (seenP P chs s) rds s m = readL rds (rdS (seenP P chs s) s m.toNat) := if_neg h0
    have hs : SeenSays w wb s (fun F => F = seenP P chs s) := fun W hb => (seen_any s W (h1.on hb) (h2.on hb) h6 h7 ok.rise (by have := ok.len; omega) (fun r hr => by have := ok.keys r hr; omega) h5 (by have := ok.cn; omega)).mono (by
      rintro e w' ⟨v, rfl, hb', ho⟩
      exact ⟨v, rfl, hb', _, ho, rfl⟩)
    have hc := scan_ok s m.toNat w h2 hs (fun F hF => by rw [hF]; exact ⟨by have := (seenP_small ok s).1; omega, fun r hr => by have := (seenP_small ok s).2 r hr; omega⟩) h9 (by have := ok.rn; omega) (by omega) (by omega)
    rw [e0] at hc
    refine hc.mono ?_
    rintro e w' ⟨F, rfl, hok, hbad⟩
    unfold ScanV
    rw [e1, e2]
    have ok2 : OkV P chs (readL rds (rdS (seenP P chs s) s m.toNat)) := { ok with rn := readL_len ok.rn }
    refine ⟨fun hz => ?_, fun hz => ?_⟩
    · obtain ⟨ao, cap, he, hcap, hh, rv', hw, hb, hfar, hnew⟩ := hok hz
      obtain ⟨q1, q2⟩ := step_far h1 h4 h5 h6 h7 h9 hw hb hfar ok2
      refine ⟨ao, cap, he, hcap, hh, _, q1, q2, fun b off e => ?_⟩
      obtain ⟨r1, r2, r3⟩ := hnew b off e
      exact ⟨r1, r2, fun e => e.elim r3 fun e => by have := h1.lt e; omega⟩
    · obtain ⟨he, rv', hw, hb, hfar⟩ := hbad hz
      exact ⟨he, _, step_far h1 h4 h5 h6 h7 h9 hw hb hfar ok2⟩
end Go.Proofs.YtighpalbodhfeaaGreatDoor

/-
  Plain facts of the document's way to put a change among others: one by one, from the left. Nothing of the program is named here.
-/
namespace Go.Proofs.YtighpalbodhfeaaGreatDoor

/-- one step: has it been laid, and what is out by now -/
def stepP (c : Chg) (s : Bool × List Chg) (x : Chg) : Bool × List Chg :=
  let s1 : Bool × List Chg := if !s.1 && leS c.key x.key then (true, s.2 ++ [c]) else s
  if eqS x.key c.key then s1 else (s1.1, s1.2 ++ [x])
def endP (c : Chg) (s : Bool × List Chg) : List Chg := if s.1 then s.2 else s.2 ++ [c]
theorem step_laid (c : Chg) (l : List Chg) (out : List Chg) (h : ∀ x ∈ l, ltS c.key x.key = true) : l.foldl (stepP c) (true, out) = (true, out ++ l) := by
  induction l generalizing out with
  | nil => simp
  | cons x l ih =>
    have hx := h x (by simp)
    have e : eqS x.key c.key = false := (eqS_comm _ _).trans (eqS_lt hx)
    rw [List.foldl_cons]
    have : stepP c (true, out) x = (true, out ++ [x]) := by simp [stepP, e]
    rw [this, ih _ (fun y hy => h y (by simp [hy]))]
    simp
theorem put_fold (c : Chg) (l : List Chg) (out : List Chg) (h : rises l) : endP c (l.foldl (stepP c) (false, out)) = out ++ insL l c := by
  induction l generalizing out with
  | nil => simp [endP, insL]
  | cons x l ih =>
    unfold rises at h
    obtain ⟨h1, h2⟩ := List.pairwise_cons.1 h
    rw [List.foldl_cons]
    rcases keys_three x.key c.key with ⟨k1, k2, k3, k4⟩ | k1 | ⟨k1, k2, k3, k4⟩
    · have e : leS c.key x.key = false := by rw [leS_not, k1]; rfl
      have : stepP c (false, out) x = (false, out ++ [x]) := by simp [stepP, e, k2]
      rw [this, ih _ h2]
      simp [insL, k1]
    · have e : leS c.key c.key = true := by rw [leS_not, ltS_irrefl]; rfl
      have : stepP c (false, out) x = (true, out ++ [c]) := by simp [stepP, e, k1, eqS_refl]
      rw [this, step_laid c l _ (fun y hy => k1 ▸ h1 y hy)]
      simp [endP, insL, k1, ltS_irrefl, eqS_refl]
    · have e : leS c.key x.key = true := by rw [leS_not, k1]; rfl
      have : stepP c (false, out) x = (true, out ++ [c] ++ [x]) := by simp [stepP, e, k2]
      rw [this, step_laid c l _ (fun y hy => ltS_trans k3 (h1 y hy))]
      simp [endP, insL, k1, k2]
theorem fold_take (c : Chg) (l : List Chg) (k : Nat) (hk : k < l.length) : (l.take (k + 1)).foldl (stepP c) (false, []) = stepP c ((l.take k).foldl (stepP c) (false, [])) l[k] := by
  rw [List.take_succ_eq_append_getElem hk, List.foldl_append]; rfl
theorem step_len (c : Chg) (s : Bool × List Chg) (x : Chg) : (stepP c s x).2.length ≤ s.2.length + 2 := by
  unfold stepP
  simp only
  split <;> split <;> simp <;> omega

/-- do they rise, up to the k-th? -/
def risesTo (l : List Chg) (k : Nat) : Prop := ∀ i (h : i + 1 < l.length), i + 1 < k → ltS l[i].key l[i + 1].key = true
theorem rises_all {l : List Chg} (h : risesTo l l.length) : rises l := by
  unfold rises
  have step : ∀ i j (hj : j < l.length), i < j → (hi : i < l.length) → ltS l[i].key l[j].key = true := by
    intro i j
    induction j with
    | zero => intro _ h; omega
    | succ j ih =>
      intro hj hij hi
      have hs := h j hj hj
      by_cases e : i = j
      · subst e; exact hs
      · exact ltS_trans (ih (by omega) (by omega) hi) hs
  exact List.pairwise_iff_getElem.2 fun i j hi hj hij => step i j hj hij hi
theorem rises_not {l : List Chg} {k : Nat} (h1 : 1 ≤ k) (hk : k < l.length) (h : ltS l[k - 1].key l[k].key = false) : ¬ rises l := fun hr => by
  have := List.pairwise_iff_getElem.1 hr (k - 1) k (by omega) hk (by omega)
  rw [h] at this; cases this
/-- found among changes that rise just if one has the key -/
theorem found_mem {l : List Chg} (h : rises l) (i : Nat) (hi : i < l.length) (key : ByteArray) (hk : l[i].key = key) : placeL l key = i ∧ foundL l key = true := by
  have hp : placeL l key = i := by
    refine placeL_eq ?_ (fun _ => by rw [hk, ltS_irrefl])
    rcases Nat.lt_or_ge (placeL l key) i with h' | h'
    · have hl : placeL l key < l.length := by omega
      have e := List.findIdx_getElem (p := fun c : Chg => !ltS c.key key) (xs := l) (w := hl)
      have := List.pairwise_iff_getElem.1 h _ i hl hi h'
      rw [hk] at this
      unfold placeL at this
      rw [this] at e
      cases e
    · exact h'
  refine ⟨hp, ?_⟩
  rw [foundL, hp, List.getElem?_eq_getElem hi]
  simp only
  rw [hk, eqS_refl]
theorem found_not {l : List Chg} {key : ByteArray} (h : ∀ i (hi : i < l.length), eqS l[i].key key = false) : foundL l key = false := by
  unfold foundL
  split
  · rename_i c hc
    obtain ⟨hi, rfl⟩ := List.getElem?_eq_some_iff.1 hc
    exact h _ hi
  · rfl
end Go.Proofs.YtighpalbodhfeaaGreatDoor

/-
  What haywainref.PutChange returns of changes that rise: a new row of them with the one put among them. What haywainlaw.rising returns.
-/
namespace Go.Proofs.YtighpalbodhfeaaGreatDoor
open Go.RowKit Go.Joins

theorem cellsC_one (c : Chg) : ∀ u ∈ cellsC c, u.oneCell' = true := by
  intro u hu
  simp only [cellsC, List.mem_cons, List.not_mem_nil, or_false] at hu
  rcases hu with rfl | rfl | rfl <;> rfl
theorem own_snoc {w : World} {B : Nat} {v : Value} {l : List Chg} {c : Chg} (h : w.ownsRow B 84 3 v (l.length + 1) (cellsL l ++ cellsC c)) : ownCh w B v (l ++ [c]) := by
  unfold ownCh
  rw [cellsL_append, List.length_append]
  simpa [cellsL] using h
theorem fold_len (c : Chg) (l : List Chg) (k : Nat) : ((l.take k).foldl (stepP c) (false, [])).2.length ≤ 2 * k := by
  induction k with
  | zero => simp
  | succ k ih =>
    by_cases hk : k < l.length
    · rw [fold_take c l k hk]
      have := step_len c ((l.take k).foldl (stepP c) (false, [])) l[k]
      omega
    · rw [List.take_of_length_le (by omega)]
      rw [List.take_of_length_le (by omega)] at ih
      omega

set_option maxHeartbeats 4000000 in
theorem rput_any (l : List Chg) (b off cap : Nat) (c : Chg) (w : World) (hl : chgsAt w b off l) (hn : l.length ≤ 1000) :
    Calls Tryz.prog 70 #[.slice (some ⟨b, off, none⟩) l.length cap, .agg #[.string c.key, .string c.val, .bool c.gone]] w fun e w' =>
      ∃ v, e = .returned v ∧ ownCh w' w.heap.size v (endP c (l.foldl (stepP c) (false, []))) ∧ Below w.heap.size w w' := by
  obtain ⟨i0, hi0, hz0, hs0, hb0⟩ := chg_info
  have hB0 := below_alloc1 w (Obj.cells #[Value.string c.key, Value.string c.val, Value.bool c.gone] 84)
  have a0 : (w.alloc (Obj.cells #[Value.string c.key, Value.string c.val, Value.bool c.gone] 84)).cell? ⟨w.heap.size, 0, none⟩ = some (.string c.key) := by simp
  have a1 : (w.alloc (Obj.cells #[Value.string c.key, Value.string c.val, Value.bool c.gone] 84)).cell? ⟨w.heap.size, 1, none⟩ = some (.string c.val) := by simp
  have a2 : (w.alloc (Obj.cells #[Value.string c.key, Value.string c.val, Value.bool c.gone] 84)).cell? ⟨w.heap.size, 2, none⟩ = some (.bool c.gone) := by simp
  have hl0 := chgsAt_on hB0 hl
  have hz1 : (w.alloc (Obj.cells #[Value.string c.key, Value.string c.val, Value.bool c.gone] 84)).heap.size = w.heap.size + 1 := by simp
  go_enter Tryz.func70, Tryz.ntmps70
  go_wp2
  generalize (w.alloc (Obj.cells #[Value.string c.key, Value.string c.val, Value.bool c.gone] 84)) = W0 at *
  go_loopw [5, 6, 7] (fun v y i wr => ∃ k : Nat, k ≤ l.length ∧ i = .int .i64 k ∧ y = .bool ((l.take k).foldl (stepP c) (false, [])).1 ∧ ownCh wr W0.heap.size v ((l.take k).foldl (stepP c) (false, [])).2 ∧ Below W0.heap.size W0 wr) (fun _ _ i _ => l.length - (intOf i).toNat)
  case atStart => exact ⟨0, Nat.zero_le _, rfl, rfl, World.ownsRow_nil _ _ _ _, Below.refl _ _⟩
  case round =>
    obtain ⟨k, hk, rfl, rfl, hown, hB⟩ := hrel
    have HF := hide (fold_take c l k)
    have hlen := fold_len c l k
    have HE : Hid (((l.take k).foldl (stepP c) (false, [])) = ((l.take k).foldl (stepP c) (false, []))) := rfl
    generalize hst : ((l.take k).foldl (stepP c) (false, [])) = st at *
    obtain ⟨laid, out⟩ := st
    replace HE := hide hst
    clear hst
    replace hlen : out.length ≤ 2 * k := hlen
    have b0 := cell_on hB a0
    have b1 := cell_on hB a1
    have b2 := cell_on hB a2
    by_cases hlt : k < l.length
    · obtain ⟨c0, c1, c2⟩ := chgsAt_on hB hl0 k hlt
      have g2 : (k : Int) < (l.length : Int) := by omega
      replace HF := hide (HF.out hlt)
      have lk : (k : Int) < (l.length : Int) := by omega
      cases hq : eqS l[k].key c.key with
      | true =>
        have q1 : (l[k].key.toList == c.key.toList) = true := hq
        have q2 : (l[k].key.toList != c.key.toList) = false := by rw [bne, q1]; rfl
        cases laid with
        | true =>
          replace HF : Hid (List.foldl (stepP c) (false, []) (List.take (k + 1) l) = (true, out)) := by
            show _ = _
            rw [HF.out]; simp [stepP, hq]
          clear hq
          go_wp2
          go_quiet (fail)
          go_wp2
          go_quiet (fail)
          go_wp2
          go_roundw
          case rel => exact ⟨k + 1, by omega, by go_num, by rw [HF.out], by rw [HF.out]; exact hown, by first | exact hB | exact hB.trans (below_draws _ _ _)⟩
          case measure => simp [intOf]; omega
        | false =>
          have hle : leS c.key l[k].key = true := by rw [leS_iff]; exact .inr ((eqS_iff _ _).1 hq).symm
          have le' : (Op.bytesLess c.key.toList l[k].key.toList || c.key.toList == l[k].key.toList) = true := hle
          replace HF : Hid (List.foldl (stepP c) (false, []) (List.take (k + 1) l) = (true, out ++ [c])) := by
            show _ = _
            rw [HF.out]; simp [stepP, hq, hle]
          clear hq hle
          go_wp2
          go_quiet (fail)
          go_wp2_with (at_builtin; refine wp_append1 rfl _ _ 32 rfl W0.heap.size 84 i0 _ 3 40 Tryz.underlying32 hi0 hz0 hs0 hb0 rfl (by omega) _ (cellsC c) rfl (cellsC_one _) _ out.length (cellsL out) hown rfl rfl (by omega) (by omega) hB.size ?_; intro v1 w1 ho1 hb1; replace hB : Below W0.heap.size W0 w1 := (by first | exact hb1 W0 hB | exact hb1 W0 (hB.trans (below_draws _ _ _))); replace hown : ownCh w1 W0.heap.size v1 (out ++ [c]) := own_snoc ho1; clear ho1 hb1; replace b0 := cell_on hB a0; replace b1 := cell_on hB a1; replace b2 := cell_on hB a2; obtain ⟨c0, c1, c2⟩ := chgsAt_on hB hl0 k hlt)
          go_quiet (fail)
          go_wp2
          go_roundw
          case rel => exact ⟨k + 1, by omega, by go_num, by rw [HF.out], by rw [HF.out]; exact hown, by first | exact hB | exact hB.trans (below_draws _ _ _)⟩
          case measure => simp [intOf]; omega
      | false =>
        have q1 : (l[k].key.toList == c.key.toList) = false := hq
        have q2 : (l[k].key.toList != c.key.toList) = true := by rw [bne, q1]; rfl
        cases laid with
        | true =>
          replace HF : Hid (List.foldl (stepP c) (false, []) (List.take (k + 1) l) = (true, out ++ [l[k]])) := by
            show _ = _
            rw [HF.out]; simp [stepP, hq]
          clear hq
          go_wp2
          go_quiet (fail)
          go_wp2
          go_quiet (fail)
          go_wp2_with (at_builtin; refine wp_append1 rfl _ _ 32 rfl W0.heap.size 84 i0 _ 3 40 Tryz.underlying32 hi0 hz0 hs0 hb0 rfl (by omega) _ (cellsC l[k]) rfl (cellsC_one _) _ out.length (cellsL out) hown rfl rfl (by omega) (by omega) hB.size ?_; intro v1 w1 ho1 hb1; replace hB : Below W0.heap.size W0 w1 := (by first | exact hb1 W0 hB | exact hb1 W0 (hB.trans (below_draws _ _ _))); replace hown : ownCh w1 W0.heap.size v1 (out ++ [l[k]]) := own_snoc ho1; clear ho1 hb1; replace b0 := cell_on hB a0; replace b1 := cell_on hB a1; replace b2 := cell_on hB a2; obtain ⟨c0, c1, c2⟩ := chgsAt_on hB hl0 k hlt)
          go_roundw
          case rel => exact ⟨k + 1, by omega, by go_num, by rw [HF.out], by rw [HF.out]; exact hown, by first | exact hB | exact hB.trans (below_draws _ _ _)⟩
          case measure => simp [intOf]; omega
        | false =>
          cases hle : leS c.key l[k].key with
          | false =>
            have le' : (Op.bytesLess c.key.toList l[k].key.toList || c.key.toList == l[k].key.toList) = false := hle
            replace HF : Hid (List.foldl (stepP c) (false, []) (List.take (k + 1) l) = (false, out ++ [l[k]])) := by
              show _ = _
              rw [HF.out]; simp [stepP, hq, hle]
            clear hq hle
            go_wp2
            go_quiet (fail)
            go_wp2
            go_quiet (fail)
            go_wp2_with (at_builtin; refine wp_append1 rfl _ _ 32 rfl W0.heap.size 84 i0 _ 3 40 Tryz.underlying32 hi0 hz0 hs0 hb0 rfl (by omega) _ (cellsC l[k]) rfl (cellsC_one _) _ out.length (cellsL out) hown rfl rfl (by omega) (by omega) hB.size ?_; intro v1 w1 ho1 hb1; replace hB : Below W0.heap.size W0 w1 := (by first | exact hb1 W0 hB | exact hb1 W0 (hB.trans (below_draws _ _ _))); replace hown : ownCh w1 W0.heap.size v1 (out ++ [l[k]]) := own_snoc ho1; clear ho1 hb1; replace b0 := cell_on hB a0; replace b1 := cell_on hB a1; replace b2 := cell_on hB a2; obtain ⟨c0, c1, c2⟩ := chgsAt_on hB hl0 k hlt)
            go_roundw
            case rel => exact ⟨k + 1, by omega, by go_num, by rw [HF.out], by rw [HF.out]; exact hown, by first | exact hB | exact hB.trans (below_draws _ _ _)⟩
            case measure => simp [intOf]; omega
          | true =>
            have le' : (Op.bytesLess c.key.toList l[k].key.toList || c.key.toList == l[k].key.toList) = true := hle
            replace HF : Hid (List.foldl (stepP c) (false, []) (List.take (k + 1) l) = (true, out ++ [c] ++ [l[k]])) := by
              show _ = _
              rw [HF.out]; simp [stepP, hq, hle]
            clear hq hle
            have hlen2 : (out ++ [c]).length ≤ 2 * k + 1 := by simp; omega
            go_wp2
            go_quiet (fail)
            go_wp2_with (at_builtin; refine wp_append1 rfl _ _ 32 rfl W0.heap.size 84 i0 _ 3 40 Tryz.underlying32 hi0 hz0 hs0 hb0 rfl (by omega) _ (cellsC c) rfl (cellsC_one _) _ out.length (cellsL out) hown rfl rfl (by omega) (by omega) hB.size ?_; intro v1 w1 ho1 hb1; replace hB : Below W0.heap.size W0 w1 := (by first | exact hb1 W0 hB | exact hb1 W0 (hB.trans (below_draws _ _ _))); replace hown : ownCh w1 W0.heap.size v1 (out ++ [c]) := own_snoc ho1; clear ho1 hb1; replace b0 := cell_on hB a0; replace b1 := cell_on hB a1; replace b2 := cell_on hB a2; obtain ⟨c0, c1, c2⟩ := chgsAt_on hB hl0 k hlt)
            go_quiet (fail)
            go_wp2_with (at_builtin; refine wp_append1 rfl _ _ 32 rfl W0.heap.size 84 i0 _ 3 40 Tryz.underlying32 hi0 hz0 hs0 hb0 rfl (by omega) _ (cellsC l[k]) rfl (cellsC_one _) _ (out ++ [c]).length (cellsL (out ++ [c])) hown rfl rfl (by omega) (by omega) hB.size ?_; intro v1 w1 ho1 hb1; replace hB : Below W0.heap.size W0 w1 := (by first | exact hb1 W0 hB | exact hb1 W0 (hB.trans (below_draws _ _ _))); replace hown : ownCh w1 W0.heap.size v1 ((out ++ [c]) ++ [l[k]]) := own_snoc ho1; clear ho1 hb1; replace b0 := cell_on hB a0; replace b1 := cell_on hB a1; replace b2 := cell_on hB a2; obtain ⟨c0, c1, c2⟩ := chgsAt_on hB hl0 k hlt)
            go_roundw
            case rel => exact ⟨k + 1, by omega, by go_num, by rw [HF.out], by rw [HF.out]; exact hown, by first | exact hB | exact hB.trans (below_draws _ _ _)⟩
            case measure => simp [intOf]; omega
    · have e : l.take k = l := List.take_of_length_le (by omega)
      rw [e] at HE
      cases laid with
      | true =>
        go_wp2
        go_ret
        exact ⟨_, rfl, by rw [HE.out]; exact ownCh_le hown (by omega), below_on hB0 (Nat.le_refl _) hB⟩
      | false =>
        go_wp2_with (at_builtin; refine wp_append1 rfl _ _ 32 rfl W0.heap.size 84 i0 _ 3 40 Tryz.underlying32 hi0 hz0 hs0 hb0 rfl (by omega) _ (cellsC c) rfl (cellsC_one _) _ out.length (cellsL out) hown rfl rfl (by omega) (by omega) hB.size ?_; intro v1 w1 ho1 hb1; replace hB : Below W0.heap.size W0 w1 := (by first | exact hb1 W0 hB | exact hb1 W0 (hB.trans (below_draws _ _ _))); replace hown : ownCh w1 W0.heap.size v1 (out ++ [c]) := own_snoc ho1; clear ho1 hb1; replace b0 := cell_on hB a0; replace b1 := cell_on hB a1; replace b2 := cell_on hB a2)
        go_ret
        exact ⟨_, rfl, by rw [HE.out]; exact ownCh_le hown (by omega), below_on hB0 (Nat.le_refl _) hB⟩
end Go.Proofs.YtighpalbodhfeaaGreatDoor
