/-
  The model's store (haywainref.Store) as it lies in memory, and what its Commit returns and leaves.
-/
import Derived.Test.YtkfpfbkdalbjoaaGreatRefAppP
import Derived.Test.YtkfpfbkdalbjoaaGreatChgCheck
import Derived.Test.YtkfpfbkdalbjoaaGreatStoPl
import Derived.Test.YtkfpfbkdalbjoaaGreatDskL
import Derived.BigQuiet
import Derived.Test.YtkfpfbkdalbjoaaGreatRowG
import Derived.Test.YtkfpfbkdalbjoaaGreatStoLaw
namespace Go.Proofs.YtkfpfbkdalbjoaaGreat
open Go.RowKit Go.Joins
attribute [local go_sem ↓] Go.wp_at_zero Go.wp_at_succ

/-- the model's store: block rb; its rows lie in a block of their own -/
structure RS (w : World) (B rb : Nat) (v : Value) (rows : List (ByteArray × ByteArray)) (u many : Nat) : Prop where
  c0 : w.cell? ⟨rb, 0, none⟩ = some v
  c1 : w.cell? ⟨rb, 1, none⟩ = some (.int .i64 (u : Int))
  c2 : w.cell? ⟨rb, 2, none⟩ = some (.int .i64 (many : Int))
  soft : ∀ j, w.frozen? ⟨rb, j, none⟩ = false
  own : ownP w B v rows
  nv : ∀ k, v.ownBlock = some k → k ≠ rb
  lo : B ≤ rb
def inRS (rb : Nat) (v : Value) (k : Nat) : Prop := k = rb ∨ v.ownBlock = some k
def RSA (w : World) (B rb : Nat) (T : Nat → Prop) (rows : List (ByteArray × ByteArray)) (u many : Nat) : Prop := ∃ v, RS w B rb v rows u many ∧ T = inRS rb v
def ActRS (w w' : World) (B rb : Nat) (T : Nat → Prop) (rows : List (ByteArray × ByteArray)) (u many : Nat) : Prop := ∃ T', RSA w' B rb T' rows u many ∧ StepV w w' B T T'
section
variable {w w' : World} {B rb u many : Nat} {v : Value} {rows : List (ByteArray × ByteArray)} {T : Nat → Prop}
theorem RS.lt (h : RS w B rb v rows u many) {k : Nat} (hk : inRS rb v k) : k < w.heap.size := by
  rcases hk with rfl | hk
  · exact World.block_lt_of_cell? _ _ h.c0
  · exact (World.ownsRow.lt h.own k hk).2
theorem RS.low (h : RS w B rb v rows u many) {k : Nat} (hk : inRS rb v k) : B ≤ k := by
  rcases hk with rfl | hk
  · exact h.lo
  · exact (World.ownsRow.lt h.own k hk).1
theorem RS.kept (h : RS w B rb v rows u many) (hk : ∀ k, inRS rb v k → w'.heap[k]? = w.heap[k]?) : RS w' B rb v rows u many := by
  have e := hk rb (.inl rfl)
  exact ⟨(World.cell?_of_block e).trans h.c0, (World.cell?_of_block e).trans h.c1, (World.cell?_of_block e).trans h.c2, fun j => (World.frozen?_of_block e).trans (h.soft j), own_block h.own fun k e => hk k (.inr e), h.nv, h.lo⟩
theorem RSA.lt (h : RSA w B rb T rows u many) {k : Nat} (hk : T k) : k < w.heap.size := by
  obtain ⟨v, h1, rfl⟩ := h
  exact h1.lt hk
theorem RSA.low (h : RSA w B rb T rows u many) {k : Nat} (hk : T k) : B ≤ k := by
  obtain ⟨v, h1, rfl⟩ := h
  exact h1.low hk
theorem RSA.kept (h : RSA w B rb T rows u many) (hk : ∀ k, T k → w'.heap[k]? = w.heap[k]?) : RSA w' B rb T rows u many := by
  obtain ⟨v, h1, rfl⟩ := h
  exact ⟨v, h1.kept hk, rfl⟩
theorem RSA.on (h : RSA w B rb T rows u many) (hb : Below w.heap.size w w') : RSA w' B rb T rows u many := h.kept fun k e => hb.block k (h.lt e)
/-- its rows, used laid anew -/
theorem RS.used (h : RS w B rb v rows u many) (u' : Nat) : ActRS w (w.setCell ⟨rb, 1, none⟩ (.int .i64 (u' : Int))) B rb (inRS rb v) rows u' many := by
  have hk2 : ∀ k, k ≠ rb → (w.setCell ⟨rb, 1, none⟩ (.int .i64 (u' : Int))).heap[k]? = w.heap[k]? := fun k hn => Below.heap_setCell _ _ _ _ hn
  refine ⟨inRS rb v, ⟨v, ⟨?_, World.cell?_setCell_same _ _ _ h.c1, ?_, fun j => by rw [World.frozen?_setCell]; exact h.soft j, own_block h.own fun k e => hk2 k (h.nv k e), h.nv, h.lo⟩, rfl⟩, (Below.refl B w).setCell (p := ⟨rb, 1, none⟩) h.lo _, fun j hj hn => ⟨hk2 j fun e => hn (.inl e), hn⟩⟩
  · exact (World.cell?_setCell_other _ _ _ _ (by simp)).trans h.c0
  · exact (World.cell?_setCell_other _ _ _ _ (by simp)).trans h.c2
/-- behind a deed: used, and new rows -/
theorem RS.turn {w1 w2 : World} {v' : Value} {rows' : List (ByteArray × ByteArray)} (h : RS w B rb v rows u many) (hB : B ≤ w.heap.size) (hb : Below w.heap.size w w1) (ho : ownP w1 w.heap.size v' rows') (u' : Nat)
    (hk : ∀ k, k ≠ rb → w2.heap[k]? = w1.heap[k]?) (hs : ∀ j, w2.frozen? ⟨rb, j, none⟩ = w1.frozen? ⟨rb, j, none⟩) (hbl : Below B w w2)
    (d0 : w2.cell? ⟨rb, 0, none⟩ = some v') (d1 : w2.cell? ⟨rb, 1, none⟩ = some (.int .i64 (u' : Int))) (d2 : w2.cell? ⟨rb, 2, none⟩ = some (.int .i64 (many : Int))) : ActRS w w2 B rb (inRS rb v) rows' u' many := by
  have hrb := h.lt (.inl rfl)
  have hge : ∀ k, v'.ownBlock = some k → w.heap.size ≤ k := fun k e => (World.ownsRow.lt ho k e).1
  have hlo : ownP w1 B v' rows' := ownsRow_low ho hB
  refine ⟨inRS rb v', ⟨v', ⟨d0, d1, d2, fun j => (hs j).trans ((World.frozen?_of_block (hb.block rb hrb)).trans (h.soft j)), own_block hlo fun k e => hk k (by have := hge k e; omega), fun k e => by have := hge k e; omega, h.lo⟩, rfl⟩, hbl, fun j hj hn => ⟨(hk j fun e => hn (.inl e)).trans (hb.block j hj), fun e => ?_⟩⟩
  rcases e with e | e
  · exact hn (.inl e)
  · have := hge j e; omega
end
def rcomF (rows : List (ByteArray × ByteArray)) (many : Nat) (l : List Chg) : Nat := if deedF l ≠ 0 then deedF l else if 40 < (appliedA rows l).length ∨ many < l.length + 1 then 8 else 0
def rcomU (u many n : Nat) : Nat := (if many - u < n + 1 then 0 else u) + n + 1
theorem rcom_same {x : SSt} (h : fineL x.rows) (l : List Chg) : rcomF (rowsL x.rows) (x.d.now.length - 50) l = comF x l := by
  unfold rcomF comF
  rw [← behind_apply h l, show (rowsL (behindL x.rows l)).length = (behindL x.rows l).length by unfold rowsL; rw [List.length_map]]
set_option maxRecDepth 8000 in
set_option maxHeartbeats 4000000 in
theorem rcommit_any {B rb u many : Nat} {T : Nat → Prop} {rows : List (ByteArray × ByteArray)} (l : List Chg) (ao : Option Addr) (cap : Nat) (w : World) (h : RSA w B rb T rows u many) (hB : B ≤ w.heap.size) (hd : heldCh w ao l) (hk : ∀ c ∈ l, c.key.size ≤ 1000) (hl : l.length ≤ 1000) (hm : many ≤ 1000) (hu : u ≤ many) (hr : rows.length ≤ 100) :
    Calls Tryz.prog 11 #[.pointer (some ⟨rb, 0, none⟩), .slice ao l.length cap] w fun e w' => e = .returned (.int .i64 (rcomF rows many l : Nat)) ∧ ActRS w w' B rb T (if rcomF rows many l = 0 then appliedA rows l else rows) (if rcomF rows many l = 0 then rcomU u many l.length else u) many := by
  have HR := hide h
  have HD := hide hd
  have HK := hide hk
  clear hd hk
  obtain ⟨v, hv, rfl⟩ := h
  have stay : ∀ w', Below w.heap.size w w' → ActRS w w' B rb (inRS rb v) rows u many := fun w' hb => ⟨_, HR.out.on hb, .on hB hb⟩
  have HST := hide stay
  clear stay
  by_cases h12 : 12 < l.length
  · have hF : rcomF rows many l = 2 := by
      have : deedF l = 2 := by unfold deedF; rw [if_pos h12]
      unfold rcomF; rw [this]; rfl
    rw [hF, if_neg (by decide), if_neg (by decide)]
    have h12' : (12 : Int) < (l.length : Int) := by omega
    go_enter Tryz.func11, Tryz.ntmps11
    go_wp2
    go_ret
    exact ⟨rfl, HST.out _ (Below.refl _ _)⟩
  have hDF : deedF l = chgsF l := by unfold deedF; rw [if_neg h12]
  have h12' : ¬ (12 : Int) < (l.length : Int) := by omega
  have HFb : Hid (chgsF l ≠ 0 → rcomF rows many l = chgsF l) := fun e => by unfold rcomF; rw [hDF, if_pos e]
  have HFg : Hid (chgsF l = 0 → rcomF rows many l = if 40 < (appliedA rows l).length ∨ many < l.length + 1 then 8 else 0) := fun e => by unfold rcomF; rw [hDF, e]; rfl
  clear hDF
  generalize hrf : rcomF rows many l = rf at *
  clear hrf
  obtain ⟨RR, hRR⟩ : ∃ RR, RR = if rf = 0 then appliedA rows l else rows := ⟨_, rfl⟩
  obtain ⟨UU, hUU⟩ : ∃ UU, UU = if rf = 0 then rcomU u many l.length else u := ⟨_, rfl⟩
  rw [← hRR, ← hUU]
  have HRR := hide hRR
  have HUU := hide hUU
  clear hRR hUU
  obtain ⟨va, vc, hva, hvh, hvn⟩ : ∃ va vc, v = .slice va rows.length vc ∧ heldSp w va rows ∧ (va = none → vc = 0 ∧ rows = []) := by
    have HO := hv.own
    rcases own_form HO with ⟨e, e2⟩ | ⟨g, cap', e, hg⟩
    · have e3 : rows = [] := List.length_eq_zero_iff.1 e2
      exact ⟨none, 0, by rw [e, e2], .inl e3, fun _ => ⟨rfl, e3⟩⟩
    · obtain ⟨a7, c7, e7, h7⟩ := ownP_held HO
      have hag : a7 = some ⟨g, 0, none⟩ := by rw [e] at e7; cases e7; rfl
      exact ⟨a7, c7, e7, h7, fun e0 => by rw [hag] at e0; cases e0⟩
  have c0 := hv.c0
  have c1 := hv.c1
  have c2 := hv.c2
  have HV := hide hv
  clear hv
  subst hva
  go_enter Tryz.func11, Tryz.ntmps11
  go_wp2
  go_loopw [5] (fun iv wr => ∃ k : Nat, k ≤ l.length ∧ iv = .int .i64 (k : Int) ∧ chgsF (l.take k) = 0 ∧ Below w.heap.size w wr) (fun iv _ => l.length - (intOf iv).toNat)
  case atStart => exact ⟨0, Nat.zero_le _, rfl, rfl, Below.refl _ _⟩
  case round =>
    obtain ⟨k, hkl, rfl, hc0, hb⟩ := hrel
    by_cases hlt : k < l.length
    · have hlt' : (k : Int) < (l.length : Int) := by omega
      have hk0 : (0 : Int) ≤ (k : Int) := by omega
      rcases HD.out with e | ⟨b, off, e, hch⟩
      · rw [e] at hlt; simp at hlt
      subst e
      obtain ⟨x0, x1, x2⟩ := hch k hlt
      have hcf := chgsF_take hlt hc0
      have hkk := HK.out _ (List.getElem_mem hlt)
      clear hch
      generalize l[k] = x at *
      replace x0 := cell_on hb x0
      replace x1 := cell_on hb x1
      replace x2 := cell_on hb x2
      have HRF := fun w' => hide (rfault_any x w' hkk)
      have HB := hide hb
      have HCF := hide hcf
      clear hb hcf hc0 c0 c1 c2
      by_cases hf : chgFault x = 0
      · have HF := hide hf
        rw [hf] at HRF
        clear hf
        go_wp2_with (go_at_call 28; refine ((HRF _).out).mono ?_; rintro e w7 ⟨rfl, hb7⟩; have HB7 := hide (below_on HB.out (Nat.le_refl _) hb7); clear hb7)
        exact ⟨⟨k + 1, by omega, by go_num, HCF.out.1.trans HF.out, HB7.out⟩, by simp [intOf]; omega⟩
      · have hall := HCF.out.2 hf
        have hne : chgsF l ≠ 0 := by rw [hall]; exact hf
        have HF : Hid (rf = chgFault x) := (HFb.out hne).trans hall
        have hf' : (0 : Int) < (chgFault x : Int) := by omega
        have HRR2 : Hid (RR = rows ∧ UU = u) := by
          have e : rf ≠ 0 := by rw [HF.out]; exact hf
          have h1 := HRR.out
          have h2 := HUU.out
          rw [if_neg e] at h1 h2
          exact ⟨h1, h2⟩
        clear hf hne hall
        generalize chgFault x = cf at *
        go_wp2_with (go_at_call 28; refine ((HRF _).out).mono ?_; rintro e w7 ⟨rfl, hb7⟩; have HB7 := hide (below_on HB.out (Nat.le_refl _) hb7); clear hb7)
        go_ret
        exact ⟨ret_int (by rw [HF.out]), by rw [HRR2.out.1, HRR2.out.2]; exact HST.out _ HB7.out⟩
    · have hlt' : ¬ (k : Int) < (l.length : Int) := by omega
      have ek : k = l.length := by omega
      rw [ek, List.take_length] at hc0
      have hrf := HFg.out hc0
      have HB := hide hb
      have y0 := cell_on hb c0
      have y1 := cell_on hb c1
      have y2 := cell_on hb c2
      have HAP := hide (rapplied_any rows va vc l ao cap wr (heldSp_on hb hvh) hvn (heldCh_on hb HD.out) (by omega) hl)
      clear hb hc0 c0 c1 c2 hvh hvn HFb HFg
      generalize appliedA rows l = ap at *
      have kl : (0 : Int) ≤ (l.length : Int) := by omega
      have kl2 : (l.length : Int) ≤ 12 := by omega
      have km : (many : Int) ≤ 1000 := by omega
      have ku : (u : Int) ≤ (many : Int) := by omega
      have ku0 : (0 : Int) ≤ (u : Int) := by omega
      go_upto_region 10 with (first
        | (go_at_call 29; refine HAP.out.mono ?_; rintro e w8 ⟨v8, rfl, ho8, hb8⟩)
        | fail)
      obtain ⟨a8, c8, rfl, h8⟩ := ownP_held ho8
      have HO8 := hide (ownsRow_low ho8 HB.out.size)
      have HB8 := hide (below_on HB.out (Nat.le_refl _) hb8)
      replace y0 := cell_on hb8 y0
      replace y1 := cell_on hb8 y1
      replace y2 := cell_on hb8 y2
      clear ho8 hb8 h8 HAP
      by_cases h40 : 40 < ap.length
      · have h40' : (40 : Int) < (ap.length : Int) := by omega
        have HF : Hid (rf = 8) := hide (by rw [hrf, if_pos (.inl h40)])
        have HRR2 : Hid (RR = rows ∧ UU = u) := by
          have e : rf ≠ 0 := by rw [HF.out]; decide
          have h1 := HRR.out
          have h2 := HUU.out
          rw [if_neg e] at h1 h2
          exact ⟨h1, h2⟩
        clear hrf
        go_wp2
        go_ret
        exact ⟨ret_int (by rw [HF.out]; rfl), by rw [HRR2.out.1, HRR2.out.2]; exact HST.out _ HB8.out⟩
      have h40' : decide ((40 : Int) < (ap.length : Int)) = false := by simp; omega
      by_cases hmy : many < l.length + 1
      · have hmy' : (many : Int) < (l.length : Int) + 1 := by omega
        have HF : Hid (rf = 8) := hide (by rw [hrf, if_pos (.inr hmy)])
        have HRR2 : Hid (RR = rows ∧ UU = u) := by
          have e : rf ≠ 0 := by rw [HF.out]; decide
          have h1 := HRR.out
          have h2 := HUU.out
          rw [if_neg e] at h1 h2
          exact ⟨h1, h2⟩
        clear hrf
        go_wp2
        go_ret
        exact ⟨ret_int (by rw [HF.out]; rfl), by rw [HRR2.out.1, HRR2.out.2]; exact HST.out _ HB8.out⟩
      have hmy' : decide ((many : Int) < (l.length : Int) + 1) = false := by simp; omega
      have hF : rf = 0 := by rw [hrf, if_neg (by omega)]
      have HF := hide hF
      have HRR2 : Hid (RR = ap ∧ UU = rcomU u many l.length) := by
        have h1 := HRR.out
        have h2 := HUU.out
        rw [if_pos hF] at h1 h2
        exact ⟨h1, h2⟩
      have HS8 := hide fun j => (World.frozen?_of_block (a := ⟨rb, j, none⟩) (HB8.out.block rb (HV.out.lt (.inl rfl)))).trans (HV.out.soft j)
      have hlo := HV.out.lo
      have sf := HS8.out
      clear hrf hF HRR HUU
      by_cases hrm : many - u < l.length + 1
      · have hrm' : (many : Int) - (u : Int) < (l.length : Int) + 1 := by omega
        have HU : Hid (rcomU u many l.length = 0 + l.length + 1) := hide (by unfold rcomU; rw [if_pos hrm])
        go_wp2_with fail
        go_quiet (fail)
        go_wp2
        go_ret
        refine ⟨ret_int (by rw [HF.out]; rfl), ?_⟩
        rw [HRR2.out.1, HRR2.out.2, HU.out]
        have hW : ∀ k, k ≠ rb → ((((w8.drewN nq).setCell ⟨rb, 1, none⟩ (Value.int IntKind.i64 0)).setCell ⟨rb, 1, none⟩ (Value.int IntKind.i64 ((l.length : Int) + 1))).setCell ⟨rb, 0, none⟩ (Value.slice a8 ap.length c8)).heap[k]? = (w8.drewN nq).heap[k]? := fun k hn => (Below.heap_setCell _ _ _ _ hn).trans ((Below.heap_setCell _ _ _ _ hn).trans (Below.heap_setCell _ _ _ _ hn))
        have hbd := below_drewN HB8.out nq
        have z0 := cell_on (below_drewN (Below.refl _ w8) nq) y0
        have z1 := cell_on (below_drewN (Below.refl _ w8) nq) y1
        have z2 := cell_on (below_drewN (Below.refl _ w8) nq) y2
        refine HV.out.turn hB hbd (own_on HO8.out (below_drewN (Below.refl _ w8) nq)) _ hW (fun j => by rw [World.frozen?_setCell, World.frozen?_setCell, World.frozen?_setCell]) ((((hbd.mono hB).setCell (p := ⟨rb, 1, none⟩) hlo _).setCell (p := ⟨rb, 1, none⟩) hlo _).setCell (p := ⟨rb, 0, none⟩) hlo _) ?_ ?_ ?_
        · exact World.cell?_setCell_same _ _ _ ((World.cell?_setCell_other _ _ _ _ (by simp)).trans ((World.cell?_setCell_other _ _ _ _ (by simp)).trans z0))
        · refine (World.cell?_setCell_other _ _ _ _ (by simp)).trans ((World.cell?_setCell_same _ _ _ (World.cell?_setCell_same _ _ _ z1)).trans ?_)
          rw [show ((0 + l.length + 1 : Nat) : Int) = (l.length : Int) + 1 by omega]
        · exact (World.cell?_setCell_other _ _ _ _ (by simp)).trans ((World.cell?_setCell_other _ _ _ _ (by simp)).trans ((World.cell?_setCell_other _ _ _ _ (by simp)).trans z2))
      · have hrm' : ¬ (many : Int) - (u : Int) < (l.length : Int) + 1 := by omega
        have HU : Hid (rcomU u many l.length = u + l.length + 1) := hide (by unfold rcomU; rw [if_neg hrm])
        go_wp2_with fail
        go_quiet (fail)
        go_wp2
        go_ret
        refine ⟨ret_int (by rw [HF.out]; rfl), ?_⟩
        rw [HRR2.out.1, HRR2.out.2, HU.out]
        have hW : ∀ k, k ≠ rb → (((w8.drewN nq).setCell ⟨rb, 1, none⟩ (Value.int IntKind.i64 ((u : Int) + (l.length : Int) + 1))).setCell ⟨rb, 0, none⟩ (Value.slice a8 ap.length c8)).heap[k]? = (w8.drewN nq).heap[k]? := fun k hn => (Below.heap_setCell _ _ _ _ hn).trans (Below.heap_setCell _ _ _ _ hn)
        have hbd := below_drewN HB8.out nq
        have z0 := cell_on (below_drewN (Below.refl _ w8) nq) y0
        have z1 := cell_on (below_drewN (Below.refl _ w8) nq) y1
        have z2 := cell_on (below_drewN (Below.refl _ w8) nq) y2
        refine HV.out.turn hB hbd (own_on HO8.out (below_drewN (Below.refl _ w8) nq)) _ hW (fun j => by rw [World.frozen?_setCell, World.frozen?_setCell]) (((hbd.mono hB).setCell (p := ⟨rb, 1, none⟩) hlo _).setCell (p := ⟨rb, 0, none⟩) hlo _) ?_ ?_ ?_
        · exact World.cell?_setCell_same _ _ _ ((World.cell?_setCell_other _ _ _ _ (by simp)).trans z0)
        · refine (World.cell?_setCell_other _ _ _ _ (by simp)).trans ((World.cell?_setCell_same _ _ _ z1).trans ?_)
          rw [show ((u + l.length + 1 : Nat) : Int) = (u : Int) + (l.length : Int) + 1 by omega]
        · exact (World.cell?_setCell_other _ _ _ _ (by simp)).trans ((World.cell?_setCell_other _ _ _ _ (by simp)).trans z2)
end Go.Proofs.YtkfpfbkdalbjoaaGreat

/-
  An act in a block of its own: 'a := acts[i]'.
-/
namespace Go.Proofs.YtkfpfbkdalbjoaaGreat
open Go.RowKit Go.Joins

structure ActIn (w : World) (blk : Nat) (x : ActL) : Prop where
  kind : w.cell? ⟨blk, 0, none⟩ = some (.string x.kind)
  a : w.cell? ⟨blk, 1, none⟩ = some (.int .i64 x.a)
  b : w.cell? ⟨blk, 2, none⟩ = some (.int .i64 x.b)
  c : w.cell? ⟨blk, 3, none⟩ = some (.int .i64 x.c)
  k : w.cell? ⟨blk, 4, none⟩ = some (.int .u64 x.k)
  s : w.cell? ⟨blk, 5, none⟩ = some (.string x.s)
  t : w.cell? ⟨blk, 6, none⟩ = some (.string x.t)
  cl : w.cell? ⟨blk, 7, none⟩ = some (.slice x.ca x.chs.length x.cc)
  sl : w.cell? ⟨blk, 8, none⟩ = some (.slice x.sa x.sps.length x.sc)
theorem ActIn.new (w : World) (x : ActL) : ActIn (w.alloc (Obj.cells #[Value.string x.kind, Value.int .i64 x.a, Value.int .i64 x.b, Value.int .i64 x.c, Value.int .u64 x.k, Value.string x.s, Value.string x.t, Value.slice x.ca x.chs.length x.cc, Value.slice x.sa x.sps.length x.sc] 43)) w.heap.size x :=
  ⟨cell_new _ _ _ 0, cell_new _ _ _ 1, cell_new _ _ _ 2, cell_new _ _ _ 3, cell_new _ _ _ 4, cell_new _ _ _ 5, cell_new _ _ _ 6, cell_new _ _ _ 7, cell_new _ _ _ 8⟩
theorem ActIn.kept {w w' : World} {b : Nat} {x : ActL} (h : ActIn w b x) (e : w'.heap[b]? = w.heap[b]?) : ActIn w' b x :=
  have c : ∀ j v, w.cell? ⟨b, j, none⟩ = some v → w'.cell? ⟨b, j, none⟩ = some v := fun j _ hv => (World.cell?_of_block (a := ⟨b, j, none⟩) e).trans hv
  ⟨c _ _ h.kind, c _ _ h.a, c _ _ h.b, c _ _ h.c, c _ _ h.k, c _ _ h.s, c _ _ h.t, c _ _ h.cl, c _ _ h.sl⟩
theorem ActIn.lt {w : World} {b : Nat} {x : ActL} (h : ActIn w b x) : b < w.heap.size := World.block_lt_of_cell? _ _ h.kind
theorem ActIn.on {w w' : World} {b : Nat} {x : ActL} (h : ActIn w b x) (hb : Below w.heap.size w w') : ActIn w' b x := h.kept (hb.block b h.lt)
end Go.Proofs.YtkfpfbkdalbjoaaGreat

/-
  What haywainlaw.StoreSays returns: true, of whatever came in.
-/
namespace Go.Proofs.YtkfpfbkdalbjoaaGreat
open Go.RowKit Go.Joins
attribute [local go_sem ↓] Go.wp_at_zero Go.wp_at_succ

theorem same_errV (n : Nat) (w : World) : Calls Tryz.prog 7 #[errV n, .int .i64 (n : Int)] w fun e w' => e = .returned (.bool true) ∧ w' = w := same_of n _ w rfl
/-- the store and its model, at the head of the loop -/
structure SSI (w wr : World) (n db sb rb : Nat) : Prop where
  ex : ∃ N T TR x, SA wr N sb db T x ∧ RSA wr w.heap.size rb TR (rowsL x.rows) x.used (n - 50) ∧ (∀ k, T k → ¬ TR k) ∧ SGood x ∧ x.d.left = -1 ∧ x.d.now.length = n ∧ w.heap.size ≤ N
  bel : Below w.heap.size w wr
theorem SSI.on {w wr w' : World} {n db sb rb : Nat} (h : SSI w wr n db sb rb) (hb : Below wr.heap.size wr w') : SSI w w' n db sb rb := by
  obtain ⟨N, T, TR, x, h1, h2, h3⟩ := h.ex
  exact ⟨⟨N, T, TR, x, h1.on hb, h2.on hb, h3⟩, below_on h.bel (Nat.le_refl _) hb⟩
/-- the model's Commit beside the store's -/
theorem rcommit_at {x : SSt} {B rb n : Nat} {TR : Nat → Prop} (l : List Chg) (ao : Option Addr) (cap : Nat) (w : World) (hg : SGood x) (hl : x.d.left = -1) (hn : x.d.now.length = n) (h : RSA w B rb TR (rowsL x.rows) x.used (n - 50)) (hB : B ≤ w.heap.size) (hd : heldCh w ao l) (hk : ∀ c ∈ l, c.key.size ≤ 1000) (hll : l.length ≤ 1000) (h2 : n ≤ 200) :
    Calls Tryz.prog 11 #[.pointer (some ⟨rb, 0, none⟩), .slice ao l.length cap] w fun e w' => e = .returned (.int .i64 (comF x l : Nat)) ∧ ActRS w w' B rb TR (rowsL (comR x l).2.rows) (comR x l).2.used (n - 50) := by
  have hfew := DRest.few hg
  have hus := DRest.us hg
  have e1 : rcomF (rowsL x.rows) (n - 50) l = comF x l := by rw [← hn]; exact rcom_same (DRest.fine hg) l
  have hrl : (rowsL x.rows).length = x.rows.length := by unfold rowsL; rw [List.length_map]
  have := rcommit_any l ao cap w h hB hd hk hll (by omega) (by rw [← hn]; exact hus) (by omega)
  rw [e1] at this
  have e2 : rowsL (comR x l).2.rows = if comF x l = 0 then appliedA (rowsL x.rows) l else rowsL x.rows := by
    rw [(never_commit hg hl l).2.2.2.2]
    split
    · exact behind_apply (DRest.fine hg) l
    · rfl
  have e3 : (comR x l).2.used = if comF x l = 0 then rcomU x.used (n - 50) l.length else x.used := by
    rw [never_used hg hl l, hn]
    rfl
  rw [e2, e3]
  exact this
set_option maxRecDepth 8000 in
set_option maxHeartbeats 16000000 in
theorem storeSays_walk (n : Int) (l : List ActL) (ao : Option Addr) (cap : Nat) (w : World) (hd : heldAc w ao l) (hn0 : -9223372036854775808 ≤ n) (hn1 : n ≤ 9223372036854775807) :
    Calls Tryz.prog 3 #[.int .i64 n, .slice ao l.length cap] w fun e w' => e = .returned (.bool true) ∧ Below w.heap.size w w' := by
  have HD := hide hd
  have nn := nil_neq_nil
  clear hd
  go_enter Tryz.func3, Tryz.ntmps3
  go_wp2_with (first
    | (go_at_call 4; refine (stores_any _).mono ?_; rintro e w1 ⟨rfl, hb1⟩; have HB1 := hide hb1; clear hb1)
    | (go_at_call 5; refine (lightAc_held l 60 cap ao _ (heldAc_on HB1.out HD.out) (by omega)).mono ?_; rintro e w2 ⟨rfl, rfl⟩; cases hla : lightActs l 60)
    | fail)
  · go_ret
    exact ⟨rfl, HB1.out⟩
  have hal : l.length ≤ 60 := by have := hla; simp only [lightActs, Bool.and_eq_true, decide_eq_true_eq] at this; exact this.1
  have HLA := hide hla
  have hsz := HB1.out.size
  clear hla
  by_cases hbad : n < 1 ∨ 200 < n
  · have he1 : errV 1 = .iface 57 (.int .i64 1) := rfl
    have HNB := hide (newDisk_bad n w2 hbad)
    rw [he1] at HNB
    clear he1
    have hbd : n < 1 ∨ (¬ n < 1 ∧ 200 < n) := by omega
    rcases hbd with h1 | ⟨h1, h2⟩
    all_goals
      go_wp2_with (first
        | (go_at_call 6; refine HNB.out.mono ?_; rintro e w3 ⟨rfl, rfl⟩)
        | (go_at_call 7; refine (same_err 1 1 _ (by decide)).mono ?_; rintro e w5 ⟨rfl, rfl⟩))
      go_ret
      exact ⟨rfl, HB1.out⟩
  obtain ⟨m, rfl⟩ := Int.eq_ofNat_of_zero_le (show 0 ≤ n by omega)
  have hm1 : 1 ≤ m := by omega
  have hm2 : m ≤ 200 := by omega
  have hm1' : decide ((m : Int) < 1) = false := by simp; omega
  have hm2' : decide ((200 : Int) < (m : Int)) = false := by simp; omega
  clear hbad hn0 hn1
  have hlen : (initD m).now.length = m := by show (List.replicate m (zerosB 96)).length = m; simp
  have hz0 : (initD m).now[0]? = some (zerosB 96) := by show (List.replicate m (zerosB 96))[0]? = _; rw [List.getElem?_replicate, if_pos (by omega)]
  have HLEN := hide hlen
  have HZ0 := hide hz0
  clear hlen hz0
  have he4 : errV 4 = .iface 57 (.int .i64 4) := rfl
  go_wp2_with fail
  refine (newDisk_good m _ hm1 hm2).mono ?_
  rintro e w3 ⟨db, rfl, ⟨S3, hk3⟩, hb3⟩
  have HOB := hide (sopen_bad w3 hk3 rfl HZ0.out)
  rw [he4] at HOB
  clear he4
  have HK3 := hide hk3
  have HB3 := hide (below_on HB1.out (Nat.le_refl _) hb3)
  clear hk3 hb3
  go_wp2_with fail
  refine HOB.out.mono ?_
  rintro e w4 ⟨rfl, hb4⟩
  have HK4 := hide (HK3.out.on hb4)
  have HB4 := hide (below_on HB3.out (Nat.le_refl _) hb4)
  clear hb4 HK3 HB3 HOB
  go_wp2_with fail
  refine (same_err 4 4 _ (by decide)).mono ?_
  rintro e w5 ⟨rfl, hw5⟩
  rw [hw5]
  clear hw5 w5
  by_cases h54 : m < 54
  · have h54' : (m : Int) < 54 := by omega
    have he8 : errV 8 = .iface 57 (.int .i64 8) := rfl
    have HFF := hide (format_full w4 HK4.out (by rw [HLEN.out]; exact h54))
    rw [he8] at HFF
    clear he8
    go_wp2_with (first
      | (go_at_call 9; refine HFF.out.mono ?_; rintro e w6 ⟨rfl, rfl⟩)
      | (go_at_call 7; refine (same_err 8 8 _ (by decide)).mono ?_; rintro e w7 ⟨rfl, rfl⟩)
      | fail)
    go_ret
    exact ⟨rfl, HB4.out⟩
  have h54' : ¬ (m : Int) < 54 := by omega
  have h54n : 54 ≤ m := by omega
  have hfg := format_good (s := initD m) rfl rfl (by rw [HLEN.out]; exact h54n)
  have HFO := hide (format_any w4 HK4.out (by rw [HLEN.out]; exact h54n))
  have HFG := hide hfg
  rw [hfg.1, errD_nil] at HFO
  clear hfg
  generalize freshN (initD m).now = fr at *
  generalize layR 0 [] (initD m) = r at *
  go_wp2_with fail
  refine HFO.out.mono ?_
  rintro e w6 ⟨rfl, S6, hk6, hs6⟩
  have HOP := hide (sopen_good w6 hk6 HFG.out.2.1)
  have HB6 := hide (HB4.out.trans (hs6.bel.mono hsz))
  clear hk6 hs6 HFO HK4
  go_wp2_with fail
  refine HOP.out.mono ?_
  rintro e w7 ⟨sb, rfl, hn7⟩
  obtain ⟨T7, hsa7, _⟩ := hn7.sa
  obtain ⟨mm, hmm⟩ : ∃ mm, mm = m - 50 := ⟨_, rfl⟩
  have km2 : (mm : Int) ≤ 150 := by omega
  have kme : (m : Int) - 50 = (mm : Int) := by omega
  have HMM := hide hmm
  clear hmm
  have HI0 : Hid (SSI w (w7.alloc (Obj.cells #[Value.slice none 0 0, Value.int .i64 0, Value.int .i64 (mm : Int)] 38)) m db sb w7.heap.size) := by
    have hbx := below_alloc1 w7 (Obj.cells #[Value.slice none 0 0, Value.int .i64 0, Value.int .i64 (mm : Int)] 38)
    have hb7 := below_on HB6.out (Nat.le_refl _) hn7.bel
    refine ⟨⟨_, T7, _, _, hsa7.on hbx, ⟨.slice none 0 0, ⟨cell_new _ _ _ 0, cell_new _ _ _ 1, by rw [← HMM.out]; exact cell_new _ _ _ 2, fun j => frozen_new _ _ _ j, World.ownsRow_nil _ _ _ _, fun k e => (by cases e), hb7.size⟩, rfl⟩, fun k e e2 => ?_, HFG.out.2.1, HFG.out.2.2.1, HFG.out.2.2.2.trans HLEN.out, ?_⟩, below_on hb7 (Nat.le_refl _) hbx⟩
    · have hk := hsa7.lt e
      rcases e2 with e2 | e2
      · omega
      · cases e2
    · exact hsz
  clear hn7 hsa7 HOP HFG HB6
  generalize hW8 : w7.alloc (Obj.cells #[Value.slice none 0 0, Value.int .i64 0, Value.int .i64 (mm : Int)] 38) = w8 at *
  generalize hRB : w7.heap.size = rb at *
  go_wp2_with fail
  clear hW8 hRB kme
  go_loopw [9, 12] (fun sv iv wr => ∃ k sb : Nat, k ≤ l.length ∧ sv = .pointer (some ⟨sb, 0, none⟩) ∧ iv = .int .i64 (k : Int) ∧ SSI w wr m db sb rb) (fun _ iv _ => l.length - (intOf iv).toNat)
  case atStart => exact ⟨0, sb, Nat.zero_le _, rfl, rfl, HI0.out⟩
  case round =>
    obtain ⟨k, sb1, hk, rfl, rfl, hI⟩ := hrel
    clear HI0
    by_cases hlt : k < l.length
    · have hlt' : (k : Int) < (l.length : Int) := by omega
      have hk0 : (0 : Int) ≤ (k : Int) := by omega
      rcases HD.out with e | ⟨b, off, e, hac⟩
      · rw [e] at hlt; simp at hlt
      subst e
      have hxw := hac k hlt
      have hlx : lightAct l[k] = true := by
        have := HLA.out
        simp only [lightActs, Bool.and_eq_true, List.all_eq_true] at this
        exact this.2 _ (List.getElem_mem hlt)
      clear hac
      generalize l[k] = x at *
      simp only [lightAct, lightChgs, Bool.and_eq_true, decide_eq_true_eq, List.all_eq_true, lightChg] at hlx
      obtain ⟨⟨⟨_, _⟩, hcl, hck⟩, _⟩ := hlx
      have HCK : Hid (∀ c ∈ x.chs, c.key.size ≤ 1000 ∧ c.val.size ≤ 1000) := fun c hc => by have := hck c hc; omega
      have HXW := hide hxw
      have hx := hxw.on hI.bel
      have x0 := hx.kind
      have x1 := hx.a
      have x2 := hx.b
      have x3 := hx.c
      have x4 := hx.k
      have x5 := hx.s
      have x6 := hx.t
      have x7 := hx.cl
      have x8 := hx.sl
      have HAI := hide (ActIn.new wr x)
      have hbx := below_alloc1 wr (Obj.cells #[Value.string x.kind, Value.int .i64 x.a, Value.int .i64 x.b, Value.int .i64 x.c, Value.int .u64 x.k, Value.string x.s, Value.string x.t, Value.slice x.ca x.chs.length x.cc, Value.slice x.sa x.sps.length x.sc] 43)
      obtain ⟨N, T, TR, y, g1, g2, gdj, gg, gl, gn, gN⟩ := hI.ex
      have HS := hide (g1.on hbx)
      have HR := hide (g2.on hbx)
      have HDJ := hide gdj
      have HG := hide (And.intro gg (And.intro gl gn))
      have HBR := hide (below_on hI.bel (Nat.le_refl _) hbx)
      have HAB : Hid (¬ T wr.heap.size ∧ ¬ TR wr.heap.size) := ⟨fun e => Nat.lt_irrefl _ (g1.lt e), fun e => Nat.lt_irrefl _ (g2.lt e)⟩
      have HAL : Hid (∀ k, T k → w.heap.size ≤ k) := fun k e => Nat.le_trans gN (g1.low e)
      have ya := HAI.out.kind
      have yc := HAI.out.cl
      clear hxw hx hI hbx g1 g2 gdj gg gl gn hck
      generalize hWX : wr.alloc (Obj.cells #[Value.string x.kind, Value.int .i64 x.a, Value.int .i64 x.b, Value.int .i64 x.c, Value.int .u64 x.k, Value.string x.s, Value.string x.t, Value.slice x.ca x.chs.length x.cc, Value.slice x.sa x.sps.length x.sc] 43) = wx at *
      cases hw : (x.kind.toList == [99, 111, 109, 109, 105, 116]) with
      | true =>
        have hnc := never_commit HG.out.1 HG.out.2.1 x.chs
        have HCM := hide (scommit_any x.chs x.ca x.cc wx.drew (HS.out.on (Below.refl _ _).drew) HG.out.1 (heldCh_on (HBR.out.drew) HXW.out.hc) (apart_of HXW.out.hc HAL.out) (by omega) HCK.out)
        rw [hnc.1] at HCM
        have HRC : Hid (∀ W TR', RSA W w.heap.size rb TR' (rowsL y.rows) y.used (m - 50) → Below w.heap.size w W → Calls Tryz.prog 11 #[.pointer (some ⟨rb, 0, none⟩), .slice x.ca x.chs.length x.cc] W fun e w' => e = .returned (.int .i64 (comF y x.chs : Nat)) ∧ ActRS W w' w.heap.size rb TR' (rowsL (comR y x.chs).2.rows) (comR y x.chs).2.used (m - 50)) := fun W TR' h hb => rcommit_at x.chs x.ca x.cc W HG.out.1 HG.out.2.1 HG.out.2.2 h hb.size (heldCh_on hb HXW.out.hc) (fun c hc => (HCK.out c hc).1) (by omega) hm2
        have HSM := fun W => hide (same_errV (comF y x.chs) W)
        have HG2 : Hid (SGood (comR y x.chs).2 ∧ (comR y x.chs).2.d.left = -1 ∧ (comR y x.chs).2.d.now.length = m) := ⟨hnc.2.2.1, hnc.2.1, hnc.2.2.2.1.trans HG.out.2.2⟩
        clear hnc
        generalize comF y x.chs = cf at *
        generalize (comR y x.chs).2 = y2 at *
        go_wp2_with fail
        go_region_held3 (fun w' => w'.cell? ⟨wr.heap.size, 7, none⟩ = some (.slice x.ca x.chs.length x.cc)) (first | exact yc | exact HC7.out | exact HC8.out)
          (first
            | (go_at_call 10; refine HCM.out.mono ?_; rintro e w7 ⟨rfl, T7, hsa7, hs7⟩; have HS7 := hide hsa7; have HR7 := hide ((HR.out.on (Below.refl _ _).drew).kept fun k e => (hs7.far k ((HR.out.on (Below.refl _ _).drew).lt e) fun e2 => HDJ.out k e2 e).1); have HDJ7 : Hid (∀ k, T7 k → ¬ TR k) := (fun k e e2 => (hs7.far k ((HR.out.on (Below.refl _ _).drew).lt e2) fun e3 => HDJ.out k e3 e2).2 e); have HB7 := hide ((HBR.out.drew).trans (hs7.bel.mono gN)); have HC7 : Hid (w7.cell? ⟨wr.heap.size, 7, none⟩ = some (.slice x.ca x.chs.length x.cc)) := (World.cell?_of_block (a := ⟨wr.heap.size, 7, none⟩) (hs7.far wr.heap.size (World.block_lt_of_cell? _ _ yc) HAB.out.1).1).trans yc; clear hsa7 hs7)
            | (go_at_call 11; refine (HRC.out _ TR HR7.out HB7.out).mono ?_; rintro e w8 ⟨rfl, TR8, hra8, hs8⟩; have HI8 : Hid (SSI w w8 m db sb1 rb) := ⟨⟨N, T7, TR8, y2, HS7.out.kept hs8.bel.size fun k e => (hs8.far k (HS7.out.lt e) (HDJ7.out k e)).1, hra8, fun k e => (hs8.far k (HS7.out.lt e) (HDJ7.out k e)).2, HG2.out.1, HG2.out.2.1, HG2.out.2.2, gN⟩, HB7.out.trans hs8.bel⟩; have HC8 : Hid (w8.cell? ⟨wr.heap.size, 7, none⟩ = some (.slice x.ca x.chs.length x.cc)) := (World.cell?_of_block (a := ⟨wr.heap.size, 7, none⟩) (hs8.far wr.heap.size (World.block_lt_of_cell? _ _ HC7.out) HAB.out.2).1).trans HC7.out; clear hra8 hs8)
            | (go_at_call 7; refine (HSM _).out.mono ?_; rintro e w9 ⟨rfl, hw9⟩; rw [hw9]; clear hw9 w9))
        clear HCM HRC HSM HG2 HS HR HDJ HG HBR HAB HAL HS7 HR7 HDJ7 HB7 HC7 HC8
        obtain ⟨N9, T9, TR9, z, h1, h2, _, hg9, _, hn9, _⟩ := HI8.out.ex
        have hfew := DRest.few hg9
        have hus := DRest.us hg9
        obtain ⟨v9, hv9, _⟩ := h2
        obtain ⟨va, vc, hva, hvh⟩ := ownP_held hv9.own
        have hrl : (rowsL z.rows).length ≤ 40 := by unfold rowsL; rw [List.length_map]; exact hfew
        subst hva
        have c0 := hv9.c0
        have c1 := hv9.c1
        have c2 := hv9.c2
        rw [← HMM.out] at c2
        have hmm := HMM.out
        have HVH := hide hvh
        have HRM : Hid (∀ W, Below w8.heap.size w8 W → Calls Tryz.prog 13 #[.pointer (some ⟨sb1, 0, none⟩)] W fun e w' => e = .returned (.int .i64 ((mm : Int) - (z.used : Int))) ∧ ∃ n, w' = W.drewN n) := fun W hb => by
          have := sroom_any W (h1.on hb)
          rw [show ((z.d.now.length - 50 - z.used : Nat) : Int) = (mm : Int) - (z.used : Int) by omega] at this
          exact this
        have HRW : Hid (∀ W, Below w8.heap.size w8 W → Calls Tryz.prog 15 #[.pointer (some ⟨sb1, 0, none⟩)] W fun e w' => ∃ v, e = .returned v ∧ ownP w' W.heap.size v (rowsL z.rows) ∧ Below W.heap.size W w') := fun W hb => srows_any W (h1.on hb) (by omega)
        have ku0 : (0 : Int) ≤ (z.used : Int) := by omega
        have ku1 : (z.used : Int) ≤ (mm : Int) := by omega
        clear h1 hv9 hg9 hvh hfew hus hmm
        generalize rowsL z.rows = rl at *
        generalize z.used = u at *
        obtain ⟨dd, hdd⟩ : ∃ dd, dd = (mm : Int) - (u : Int) := ⟨_, rfl⟩
        have hwr : IntKind.i64.wrap ((mm : Int) - (u : Int)) = dd := by rw [hdd]; simp [IntKind.wrap, IntKind.bits]; omega
        rw [← hdd] at HRM
        have hb1 : (dd == dd) = true := by simp
        have hb2 : (dd != dd) = false := by simp
        clear hdd
        go_wp2_with fail
        go_region_held3 (fun w' => w'.cell? ⟨rb, 0, none⟩ = some (.slice va rl.length vc) ∧ w'.cell? ⟨rb, 1, none⟩ = some (.int .i64 (u : Int)) ∧ w'.cell? ⟨rb, 2, none⟩ = some (.int .i64 (mm : Int)))
          (first | go_keep | exact ⟨cell_on HB12.out c0, cell_on HB12.out c1, cell_on HB12.out c2⟩ | exact ⟨cell_on HB11.out c0, cell_on HB11.out c1, cell_on HB11.out c2⟩ | exact ⟨cell_on HB10.out c0, cell_on HB10.out c1, cell_on HB10.out c2⟩ | exact ⟨c0, c1, c2⟩)
          (first
            | (go_at_call 13; refine (HRM.out _ (Below.refl _ _).drew).mono ?_; rintro e w10 ⟨rfl, n10, hw10⟩; have HB10 : Hid (Below w8.heap.size w8 w10) := (by rw [Hid, hw10]; exact below_drewN (Below.refl _ _).drew _); clear hw10)
            | (go_at_call 15; refine (HRW.out _ HB10.out).mono ?_; rintro e w11 ⟨v11, rfl, ho11, hb11⟩; obtain ⟨a11, cc11, rfl, h11⟩ := ownP_held ho11; have HB11 := hide (below_on HB10.out (Nat.le_refl _) hb11); have HO11 := hide h11; clear ho11 hb11 h11)
            | (go_at_call 14; refine (sameRows_held rl a11 va cc11 vc _ HO11.out (heldSp_on HB11.out HVH.out) (by omega)).mono ?_; rintro e w12 ⟨rfl, hb12⟩; have HB12 := hide (below_on HB11.out (Nat.le_refl _) hb12); clear hb12)
            | fail)
        all_goals
          go_wp2
          exact ⟨⟨k + 1, sb1, by omega, rfl, by go_num, HI8.out.on HB12.out⟩, by simp [intOf]; omega⟩
      | false =>
        cases hsv : (x.kind.toList == [115, 97, 118, 101]) with
        | true =>
          have hnc := never_chk HG.out.1 HG.out.2.1
          have HCM := hide (schk_any wx HS.out HG.out.1)
          rw [hnc.1, errD_nil] at HCM
          have HG2 : Hid (SGood (chkR y).2 ∧ (chkR y).2.d.left = -1 ∧ (chkR y).2.d.now.length = m ∧ (chkR y).2.rows = y.rows ∧ (chkR y).2.used = 0) := ⟨hnc.2.2.1, hnc.2.1, hnc.2.2.2.1.trans HG.out.2.2, hnc.2.2.2.2, never_chk_used HG.out.1 HG.out.2.1⟩
          clear hnc
          generalize (chkR y).2 = y2 at *
          go_wp2_with fail
          refine HCM.out.mono ?_
          rintro e w7 ⟨rfl, T7, hsa7, hs7⟩
          obtain ⟨vr, hvr, hTR⟩ := HR.out.kept (w' := w7) fun k e => (hs7.far k (HR.out.lt e) fun e2 => HDJ.out k e2 e).1
          have hdj7 : ∀ k, T7 k → ¬ TR k := fun k e e2 => (hs7.far k (HR.out.lt e2) fun e3 => HDJ.out k e3 e2).2 e
          have hb7 := HBR.out.trans (hs7.bel.mono gN)
          have HI8 : Hid (SSI w (w7.setCell ⟨rb, 1, none⟩ (.int .i64 0)) m db sb1 rb) := by
            obtain ⟨TR8, hra8, hs8⟩ := hvr.used 0
            rw [← hTR] at hs8
            exact ⟨⟨N, T7, TR8, y2, hsa7.kept hs8.bel.size fun k e => (hs8.far k (hsa7.lt e) (hdj7 k e)).1, by rw [HG2.out.2.2.2.1, HG2.out.2.2.2.2]; exact hra8, fun k e => (hs8.far k (hsa7.lt e) (hdj7 k e)).2, HG2.out.1, HG2.out.2.1, HG2.out.2.2.1, gN⟩, hb7.trans hs8.bel⟩
          have c1 := hvr.c1
          have f1 := hvr.soft 1
          clear HCM HG2 HS HR HDJ HG HBR HAB HAL hsa7 hs7 hvr hTR hdj7 hb7 ya yc
          go_wp2_with fail
          generalize w7.setCell ⟨rb, 1, none⟩ (.int .i64 0) = w8 at *
          clear c1 f1
          obtain ⟨N9, T9, TR9, z, h1, h2, _, hg9, _, hn9, _⟩ := HI8.out.ex
          have hfew := DRest.few hg9
          have hus := DRest.us hg9
          obtain ⟨v9, hv9, _⟩ := h2
          obtain ⟨va, vc, hva, hvh⟩ := ownP_held hv9.own
          have hrl : (rowsL z.rows).length ≤ 40 := by unfold rowsL; rw [List.length_map]; exact hfew
          subst hva
          have c0 := hv9.c0
          have c1 := hv9.c1
          have c2 := hv9.c2
          rw [← HMM.out] at c2
          have hmm := HMM.out
          have HVH := hide hvh
          have HRM : Hid (∀ W, Below w8.heap.size w8 W → Calls Tryz.prog 13 #[.pointer (some ⟨sb1, 0, none⟩)] W fun e w' => e = .returned (.int .i64 ((mm : Int) - (z.used : Int))) ∧ ∃ n, w' = W.drewN n) := fun W hb => by
            have := sroom_any W (h1.on hb)
            rw [show ((z.d.now.length - 50 - z.used : Nat) : Int) = (mm : Int) - (z.used : Int) by omega] at this
            exact this
          have HRW : Hid (∀ W, Below w8.heap.size w8 W → Calls Tryz.prog 15 #[.pointer (some ⟨sb1, 0, none⟩)] W fun e w' => ∃ v, e = .returned v ∧ ownP w' W.heap.size v (rowsL z.rows) ∧ Below W.heap.size W w') := fun W hb => srows_any W (h1.on hb) (by omega)
          have ku0 : (0 : Int) ≤ (z.used : Int) := by omega
          have ku1 : (z.used : Int) ≤ (mm : Int) := by omega
          clear h1 hv9 hg9 hvh hfew hus hmm
          generalize rowsL z.rows = rl at *
          generalize z.used = u at *
          obtain ⟨dd, hdd⟩ : ∃ dd, dd = (mm : Int) - (u : Int) := ⟨_, rfl⟩
          have hwr : IntKind.i64.wrap ((mm : Int) - (u : Int)) = dd := by rw [hdd]; simp [IntKind.wrap, IntKind.bits]; omega
          rw [← hdd] at HRM
          have hb1 : (dd == dd) = true := by simp
          have hb2 : (dd != dd) = false := by simp
          clear hdd
          go_wp2_with fail
          go_region_held3 (fun w' => w'.cell? ⟨rb, 0, none⟩ = some (.slice va rl.length vc) ∧ w'.cell? ⟨rb, 1, none⟩ = some (.int .i64 (u : Int)) ∧ w'.cell? ⟨rb, 2, none⟩ = some (.int .i64 (mm : Int)))
            (first | go_keep | exact ⟨cell_on HB12.out c0, cell_on HB12.out c1, cell_on HB12.out c2⟩ | exact ⟨cell_on HB11.out c0, cell_on HB11.out c1, cell_on HB11.out c2⟩ | exact ⟨cell_on HB10.out c0, cell_on HB10.out c1, cell_on HB10.out c2⟩ | exact ⟨c0, c1, c2⟩)
            (first
              | (go_at_call 13; refine (HRM.out _ (Below.refl _ _).drew).mono ?_; rintro e w10 ⟨rfl, n10, hw10⟩; have HB10 : Hid (Below w8.heap.size w8 w10) := (by rw [Hid, hw10]; exact below_drewN (Below.refl _ _).drew _); clear hw10)
              | (go_at_call 15; refine (HRW.out _ HB10.out).mono ?_; rintro e w11 ⟨v11, rfl, ho11, hb11⟩; obtain ⟨a11, cc11, rfl, h11⟩ := ownP_held ho11; have HB11 := hide (below_on HB10.out (Nat.le_refl _) hb11); have HO11 := hide h11; clear ho11 hb11 h11)
              | (go_at_call 14; refine (sameRows_held rl a11 va cc11 vc _ HO11.out (heldSp_on HB11.out HVH.out) (by omega)).mono ?_; rintro e w12 ⟨rfl, hb12⟩; have HB12 := hide (below_on HB11.out (Nat.le_refl _) hb12); clear hb12)
              | fail)
          all_goals
            go_wp2
            exact ⟨⟨k + 1, sb1, by omega, rfl, by go_num, HI8.out.on HB12.out⟩, by simp [intOf]; omega⟩
        | false =>
          obtain ⟨S1, hk1, hS1⟩ := HS.out.disk
          have HOP2 := hide (sopen_good wx hk1 HG.out.1)
          have HS1 := hide hS1
          clear hk1 hS1
          go_wp2_with fail
          refine HOP2.out.mono ?_
          rintro e w8 ⟨sb8, rfl, hn8⟩
          obtain ⟨T8, hsa8, hT8⟩ := hn8.sa
          have HI8 : Hid (SSI w w8 m db sb8 rb) := ⟨⟨N, T8, TR, y, hsa8, HR.out.on hn8.bel, fun k e e2 => (hT8 k e).elim (fun e3 => HDJ.out k (HS1.out k e3) e2) (fun e3 => by have := HR.out.lt e2; omega), HG.out.1, HG.out.2.1, HG.out.2.2, gN⟩, below_on HBR.out (Nat.le_refl _) hn8.bel⟩
          clear HOP2 HS1 HS HR HDJ HG HBR HAB HAL hn8 hsa8 hT8
          obtain ⟨N9, T9, TR9, z, h1, h2, _, hg9, _, hn9, _⟩ := HI8.out.ex
          have hfew := DRest.few hg9
          have hus := DRest.us hg9
          obtain ⟨v9, hv9, _⟩ := h2
          obtain ⟨va, vc, hva, hvh⟩ := ownP_held hv9.own
          have hrl : (rowsL z.rows).length ≤ 40 := by unfold rowsL; rw [List.length_map]; exact hfew
          subst hva
          have c0 := hv9.c0
          have c1 := hv9.c1
          have c2 := hv9.c2
          rw [← HMM.out] at c2
          have hmm := HMM.out
          have HVH := hide hvh
          have HRM : Hid (∀ W, Below w8.heap.size w8 W → Calls Tryz.prog 13 #[.pointer (some ⟨sb8, 0, none⟩)] W fun e w' => e = .returned (.int .i64 ((mm : Int) - (z.used : Int))) ∧ ∃ n, w' = W.drewN n) := fun W hb => by
            have := sroom_any W (h1.on hb)
            rw [show ((z.d.now.length - 50 - z.used : Nat) : Int) = (mm : Int) - (z.used : Int) by omega] at this
            exact this
          have HRW : Hid (∀ W, Below w8.heap.size w8 W → Calls Tryz.prog 15 #[.pointer (some ⟨sb8, 0, none⟩)] W fun e w' => ∃ v, e = .returned v ∧ ownP w' W.heap.size v (rowsL z.rows) ∧ Below W.heap.size W w') := fun W hb => srows_any W (h1.on hb) (by omega)
          have ku0 : (0 : Int) ≤ (z.used : Int) := by omega
          have ku1 : (z.used : Int) ≤ (mm : Int) := by omega
          clear h1 hv9 hg9 hvh hfew hus hmm
          generalize rowsL z.rows = rl at *
          generalize z.used = u at *
          obtain ⟨dd, hdd⟩ : ∃ dd, dd = (mm : Int) - (u : Int) := ⟨_, rfl⟩
          have hwr : IntKind.i64.wrap ((mm : Int) - (u : Int)) = dd := by rw [hdd]; simp [IntKind.wrap, IntKind.bits]; omega
          rw [← hdd] at HRM
          have hb1 : (dd == dd) = true := by simp
          have hb2 : (dd != dd) = false := by simp
          clear hdd
          go_wp2_with fail
          go_region_held3 (fun w' => w'.cell? ⟨rb, 0, none⟩ = some (.slice va rl.length vc) ∧ w'.cell? ⟨rb, 1, none⟩ = some (.int .i64 (u : Int)) ∧ w'.cell? ⟨rb, 2, none⟩ = some (.int .i64 (mm : Int)))
            (first | go_keep | exact ⟨cell_on HB12.out c0, cell_on HB12.out c1, cell_on HB12.out c2⟩ | exact ⟨cell_on HB11.out c0, cell_on HB11.out c1, cell_on HB11.out c2⟩ | exact ⟨cell_on HB10.out c0, cell_on HB10.out c1, cell_on HB10.out c2⟩ | exact ⟨c0, c1, c2⟩)
            (first
              | (go_at_call 13; refine (HRM.out _ (Below.refl _ _).drew).mono ?_; rintro e w10 ⟨rfl, n10, hw10⟩; have HB10 : Hid (Below w8.heap.size w8 w10) := (by rw [Hid, hw10]; exact below_drewN (Below.refl _ _).drew _); clear hw10)
              | (go_at_call 15; refine (HRW.out _ HB10.out).mono ?_; rintro e w11 ⟨v11, rfl, ho11, hb11⟩; obtain ⟨a11, cc11, rfl, h11⟩ := ownP_held ho11; have HB11 := hide (below_on HB10.out (Nat.le_refl _) hb11); have HO11 := hide h11; clear ho11 hb11 h11)
              | (go_at_call 14; refine (sameRows_held rl a11 va cc11 vc _ HO11.out (heldSp_on HB11.out HVH.out) (by omega)).mono ?_; rintro e w12 ⟨rfl, hb12⟩; have HB12 := hide (below_on HB11.out (Nat.le_refl _) hb12); clear hb12)
              | fail)
          all_goals
            go_wp2
            exact ⟨⟨k + 1, sb8, by omega, rfl, by go_num, HI8.out.on HB12.out⟩, by simp [intOf]; omega⟩
    · have ek : k = l.length := by omega
      subst ek
      have hlt' : ¬ (l.length : Int) < (l.length : Int) := by omega
      have HB := hide hI.bel
      clear hI
      go_wp2
      go_ret
      exact ⟨rfl, HB.out⟩
end Go.Proofs.YtkfpfbkdalbjoaaGreat
