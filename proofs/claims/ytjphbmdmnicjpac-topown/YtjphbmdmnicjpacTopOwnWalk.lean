/-
  What haywaintop.TopOwn returns: true, of whatever came in.
-/
import Derived.Test.YtjphbmdmnicjpacTopOwnL
import Derived.Test.YtjphbmdmnicjpacVerGood
import Derived.Test.YtjphbmdmnicjpacActMem
namespace Go.Proofs.Ytjphbmdmnicjpac
open Go.RowKit Go.Joins Go.Shelf
attribute [local go_sem ↓] Go.wp_at_zero Go.wp_at_succ

theorem one_alter : alterF [] ⟨⟨#[116, 47, 97]⟩, ⟨#[120]⟩, false⟩ = 0 ∧ (alterL [] ⟨⟨#[116, 47, 97]⟩, ⟨#[120]⟩, false⟩).length = 1 := by decide +kernel
/-- two views of the same rows, a mark, and all else as it was -/
structure OwnAt (w wr : World) (Bv B vb mb wb ob n : Nat) (D : DataW Value) (g : ByteArray → Value) (R : ByteArray → List Ver) (cv rv ov mv : Value) (chs : List Chg) (rds ors : List (ByteArray × ByteArray)) : Prop where
  vs : VS wr Bv vb mb 0 n D g R
  own : VW wr B wb vb 0 cv rv chs rds
  other : VW wr B ob vb 0 (.slice none 0 0) ov [] ors
  mark : ownCh wr B mv []
  bel : Below w.heap.size w wr
  lo : w.heap.size ≤ B
  hi : B ≤ wr.heap.size
  vw : ∀ k, inVS vb mb g k → ¬ inVW wb cv rv k
  vo : ∀ k, inVS vb mb g k → ¬ inVW ob (.slice none 0 0) ov k
  wo : ∀ k, inVW ob (.slice none 0 0) ov k → ¬ inVW wb cv rv k
  mw : ∀ k, mv.ownBlock = some k → ¬ inVW wb cv rv k
  mo : ∀ k, mv.ownBlock = some k → ¬ inVW ob (.slice none 0 0) ov k
theorem OwnAt.far {w wr w' : World} {Bv B vb mb wb ob n : Nat} {D : DataW Value} {g : ByteArray → Value} {R : ByteArray → List Ver} {cv rv ov mv cv' rv' : Value} {chs chs' : List Chg} {rds rds' ors : List (ByteArray × ByteArray)} (h : OwnAt w wr Bv B vb mb wb ob n D g R cv rv ov mv chs rds ors)
    (hw : VW w' B wb vb 0 cv' rv' chs' rds') (hb : Below B wr w') (hf : farW wr w' wb cv rv cv' rv') : OwnAt w w' Bv B vb mb wb ob n D g R cv' rv' ov mv chs' rds' ors where
  vs := (VS_farW h.vs hf h.vw).1
  own := hw
  other := (VW_farW h.other hf h.wo).1
  mark := own_block h.mark fun k e => (hf k (World.ownsRow.lt h.mark k e).2 (h.mw k e)).1
  bel := h.bel.trans (hb.mono h.lo)
  lo := h.lo
  hi := Nat.le_trans h.hi hb.size
  vw := (VS_farW h.vs hf h.vw).2
  vo := h.vo
  wo := (VW_farW h.other hf h.wo).2
  mw := fun k e => (hf k (World.ownsRow.lt h.mark k e).2 (h.mw k e)).2
  mo := h.mo
theorem OwnAt.on {w wr w' : World} {Bv B vb mb wb ob n : Nat} {D : DataW Value} {g : ByteArray → Value} {R : ByteArray → List Ver} {cv rv ov mv : Value} {chs : List Chg} {rds ors : List (ByteArray × ByteArray)} (h : OwnAt w wr Bv B vb mb wb ob n D g R cv rv ov mv chs rds ors) (hb : Below wr.heap.size wr w') : OwnAt w w' Bv B vb mb wb ob n D g R cv rv ov mv chs rds ors :=
  h.far (h.own.on hb) (hb.mono h.hi) (farW.on hb)
/-- the other one is read -/
theorem OwnAt.farO {w wr w' : World} {Bv B vb mb wb ob n : Nat} {D : DataW Value} {g : ByteArray → Value} {R : ByteArray → List Ver} {cv rv ov mv ov' : Value} {chs : List Chg} {rds ors ors' : List (ByteArray × ByteArray)} (h : OwnAt w wr Bv B vb mb wb ob n D g R cv rv ov mv chs rds ors)
    (hw : VW w' B ob vb 0 (.slice none 0 0) ov' [] ors') (hb : Below B wr w') (hf : farW wr w' ob (.slice none 0 0) ov (.slice none 0 0) ov') : OwnAt w w' Bv B vb mb wb ob n D g R cv rv ov' mv chs rds ors' where
  vs := (VS_farW h.vs hf h.vo).1
  own := (VW_farW h.own hf (fun k a b => h.wo k b a)).1
  other := hw
  mark := own_block h.mark fun k e => (hf k (World.ownsRow.lt h.mark k e).2 (h.mo k e)).1
  bel := h.bel.trans (hb.mono h.lo)
  lo := h.lo
  hi := Nat.le_trans h.hi hb.size
  vw := h.vw
  vo := (VS_farW h.vs hf h.vo).2
  wo := fun k a b => (VW_farW h.own hf (fun k a b => h.wo k b a)).2 k b a
  mw := h.mw
  mo := fun k e => (hf k (World.ownsRow.lt h.mark k e).2 (h.mo k e)).2

/-- a mark is set -/
theorem OwnAt.marked {w wr w' : World} {Bv B vb mb wb ob n : Nat} {D : DataW Value} {g : ByteArray → Value} {R : ByteArray → List Ver} {cv rv ov mv mv' : Value} {chs : List Chg} {rds ors : List (ByteArray × ByteArray)} (h : OwnAt w wr Bv B vb mb wb ob n D g R cv rv ov mv chs rds ors) (hb : Below wr.heap.size wr w') (ho : ownCh w' wr.heap.size mv' []) : OwnAt w w' Bv B vb mb wb ob n D g R cv rv ov mv' chs rds ors :=
  { h.on hb with
    mark := ownCh_le ho h.hi
    mw := fun k e hin => by have a := (World.ownsRow.lt ho k e).1; have b := h.own.lt hin; omega
    mo := fun k e hin => by have a := (World.ownsRow.lt ho k e).1; have b := h.other.lt hin; omega }
set_option maxRecDepth 4000 in
set_option maxHeartbeats 800000 in
theorem topOwn_walk (rows : List (ByteArray × ByteArray)) (ra : Option Addr) (rc : Nat) (acts : List ActL) (aa : Option Addr) (ac : Nat) (key : ByteArray) (w : World)
    (hr : heldSp w ra rows) (hd : heldAc w aa acts) (hkm : key.size ≤ maxLen) :
    Calls Try.prog 5 #[.slice ra rows.length rc, .slice aa acts.length ac, .string key] w fun e w' => e = .returned (.bool true) ∧ Below w.heap.size w w' := by
  have HR := hide hr
  have HD := hide hd
  clear hr hd
  go_enter Try.func5, Try.ntmps5
  go_wp2_with (first
    | (go_at_call 23; refine (new_any [] none 0 _ (.inl rfl) (by simp) (by simp)).mono ?_; rintro e w1 ⟨vb, rfl, hb1, mb, D, g, hv⟩; have HB1 := hide hb1; have HV1 := hide hv; clear hb1 hv)
    | (go_at_call 22; refine (view_new _ HV1.out).mono ?_; rintro e w2 ⟨wb, rfl, hw2, hb2⟩; have HB2 := hide (below_on HB1.out (Nat.le_refl _) hb2); have HW2 := hide hw2; have hs1 := HB1.out.size; have hs2 := hb2.size; clear hb2 hw2)
    | (go_at_call 24; refine (vput_any ⟨#[116, 47, 97]⟩ ⟨#[120]⟩ _ HW2.out hs2 (by simp) (by decide +kernel)).mono ?_; rintro e w3 ⟨rfl, cv3, hw3, hb3, _⟩; rw [one_alter.1]; simp only [errV]; have HB3 := hide (HB2.out.trans (hb3.mono hs1)); have HW3 := hide hw3; clear hb3 hw3)
    | (go_at_call 25; refine (changes_any _ HW3.out (by rw [one_alter.2]; omega)).mono ?_; rintro e w4 ⟨v4, rfl, ho4, hb4⟩; rw [ownCh, one_alter.2] at ho4; obtain ⟨a4, c4, rfl⟩ := own_shape ho4; have HB4 := hide (below_on HB3.out (Nat.le_refl _) hb4); clear hb4 ho4)
    | (go_at_call 11; refine (goodRows_any rows ra rc _ (heldSp_on HB4.out HR.out)).mono ?_; rintro e w5 ⟨v, rfl, hgood, hb5⟩; have HGD := hide hgood; have HB5 := hide (below_on HB4.out (Nat.le_refl _) hb5); clear hb5 hgood HB4; cases v))
  · go_ret
    exact ⟨rfl, HB5.out⟩
  have hgb : goodB rows := HGD.out (by trivial)
  have hrn : rows.length ≤ 1000 := by have := hgb.1; omega
  have HRK : Hid (∀ r ∈ rows, r.1.size ≤ 1000000) := fun r hr => by have := hgb.2 r hr; omega
  clear HGD hgb HB1 HV1 HB2 HW2 HB3
  go_wp2_with (first
    | (go_at_call 19; refine (lightAc_held acts 30 ac aa _ (heldAc_on HB5.out HD.out) (by omega)).mono ?_; rintro e w6 ⟨rfl, rfl⟩; cases hlA : lightActs acts 30)
    | (go_at_call 26; refine (check_any key _ hkm).mono ?_; rintro e w7 ⟨rfl, hb7⟩; have HB7 := hide (below_on HB5.out (Nat.le_refl _) hb7); clear hb7; cases hke : keyL key.data.toList <;> simp only [errV]))
  · go_ret
    exact ⟨rfl, HB5.out⟩
  · go_ret
    exact ⟨rfl, HB7.out⟩
  have HKE := hide hke
  have HLA := hide hlA
  have hR0 : ∀ key, (initR rows key).length ≤ 1000000 := fun key => by have := initR_len rows key; omega
  have HG0 : Hid (getR [] [] (initR rows) 0 key = ((behindV (initR rows key) 0).1, (behindV (initR rows key) 0).2, 0) ∧ getL [] [] key = [(key, zeroS key)]) := by
    unfold Hid getR getL
    rw [hke]
    exact ⟨rfl, rfl⟩
  have hR1 := hR0 key
  generalize hRe : initR rows = R at *
  have HRE := hide hRe
  clear hRe
  have HRR := hide hR0
  clear hke hlA hR0
  have hs7 := HB7.out.size
  refine (new_any rows ra rc _ (heldSp_on HB7.out HR.out) hrn HRK.out).mono ?_
  rintro e w8 ⟨vb8, rfl, hb8, mb8, D8, g8, hv8⟩
  rw [HRE.out] at hv8
  have HV8 := hide hv8
  have HB8 := hide (below_on HB7.out (Nat.le_refl _) hb8)
  have hs8 := hb8.size
  clear hb8 hv8
  go_wp2_with fail
  refine (view_new _ HV8.out).mono ?_
  rintro e w9 ⟨wb9, rfl, hw9, hb9⟩
  have HW9 := hide hw9
  have HV9 := hide (HV8.out.on hb9)
  have HB9 := hide (below_on HB8.out (Nat.le_refl _) hb9)
  have hs9 := hb9.size
  clear hb9 hw9
  go_wp2_with fail
  refine (view_new _ HV9.out).mono ?_
  rintro e w10 ⟨ob, rfl, hw10, hb10⟩
  have HA10 : Hid (OwnAt w w10 w7.heap.size w.heap.size vb8 mb8 wb9 ob rows.length D8 g8 R (.slice none 0 0) (.slice none 0 0) (.slice none 0 0) (.slice none 0 0) [] [] []) := by
    have hn : ∀ k, inVW wb9 (.slice none 0 0) (.slice none 0 0) k → k = wb9 := fun k h => by
      rcases h with h | h | h
      · exact h
      · simp [Value.ownBlock] at h
      · simp [Value.ownBlock] at h
    have hno : ∀ k, inVW ob (.slice none 0 0) (.slice none 0 0) k → k = ob := fun k h => by
      rcases h with h | h | h
      · exact h
      · simp [Value.ownBlock] at h
      · simp [Value.ownBlock] at h
    have l1 := HW9.out.lo
    have l2 := hw10.lo
    have l3 := HW9.out.lt (k := wb9) (.inl rfl)
    exact {
      vs := HV9.out.on hb10
      own := (HW9.out.on hb10).down (by omega)
      other := hw10.down (by omega)
      mark := World.ownsRow_nil _ _ _ _
      bel := below_on HB9.out (Nat.le_refl _) hb10
      lo := Nat.le_refl _
      hi := by have := hb10.size; omega
      vw := fun k h h' => by have a := HV8.out.lt h; have b := hn k h'; omega
      vo := fun k h h' => by have a := HV9.out.lt h; have b := hno k h'; omega
      wo := fun k h h' => by have a := hno k h; have b := hn k h'; omega
      mw := fun k e => by simp [Value.ownBlock] at e
      mo := fun k e => by simp [Value.ownBlock] at e }
  clear HW9 HV9 HV8 HB9 HB8 hb10 hw10
  go_wp2_with fail
  refine (get_any key _ HA10.out.vs HA10.out.own HA10.out.vw HA10.out.hi (by simp) (by simp) hkm hR1).mono ?_
  rintro e w11 ⟨rfl, rv11, hw11, hb11, hf11⟩
  rw [HG0.out.1]
  rw [HG0.out.2] at hw11
  have HA11 := hide (HA10.out.far hw11 hb11 hf11)
  clear hw11 hb11 hf11 HA10
  simp only [errV]
  generalize hbv : behindV (R key) 0 = bv at *
  have HBV := hide hbv
  clear hbv
  go_wp2_with fail
  refine (mark_any _ HA11.out.own (by simp)).mono ?_
  rintro e w12 ⟨mv, rfl, ho12, hb12⟩
  have HA12 := hide (HA11.out.marked hb12 ho12)
  obtain ⟨ma, mc, rfl⟩ := own_shape ho12
  clear HA11 hb12 ho12
  have hal : acts.length ≤ 30 := by have := HLA.out; simp only [lightActs, Bool.and_eq_true, decide_eq_true_eq] at this; exact this.1
  go_wp2
  go_loopw [14, 15, 16, 17] (fun la th mi i wr => ∃ (k : Nat) (chs : List Chg) (cv : Value) (mine there : Bool) (last : ByteArray), k ≤ acts.length ∧ la = .string last ∧ th = .bool there ∧ mi = .bool mine ∧ i = .int .i64 k ∧ ownI chs key mine there last ∧ OwnAt w wr w7.heap.size w.heap.size vb8 mb8 wb9 ob rows.length D8 g8 R cv rv11 (.slice none 0 0) (.slice ma ([] : List Chg).length mc) chs [(key, zeroS key)] []) (fun _ _ _ i _ => acts.length - (intOf i).toNat)
  case atStart => exact ⟨0, [], _, false, false, ⟨#[]⟩, Nat.zero_le _, rfl, rfl, rfl, rfl, ⟨by simp, rfl⟩, HA12.out⟩
  case round =>
    obtain ⟨k, chs, cv, mine, there, last, hk, rfl, rfl, rfl, rfl, hI, hA⟩ := hrel
    have HI := hide hI
    have HA := hide hA
    have hc12 := hI.1
    clear hI hA HA12
    by_cases hlt : k < acts.length
    · have hlt' : (k : Int) < (acts.length : Int) := by omega
      rcases HD.out with e | ⟨b, off, e, hac⟩
      · rw [e] at hlt; simp at hlt
      subst e
      have hx := (hac k hlt).on HA.out.bel
      have hss : acts[k].s.size ≤ 1000 := by
        have := HLA.out
        simp only [lightActs, Bool.and_eq_true, List.all_eq_true] at this
        have := this.2 _ (List.getElem_mem hlt)
        simp only [lightAct, Bool.and_eq_true, decide_eq_true_eq] at this
        omega
      clear hac
      generalize acts[k] = x at *
      have x0 := hx.kind
      have x1 := hx.a
      have x2 := hx.b
      have x3 := hx.c
      have x4 := hx.k
      have x5 := hx.s
      have x6 := hx.t
      have x7 := hx.cl
      have x8 := hx.sl
      clear hx
      have hbX := below_alloc1 wr (Obj.cells #[Value.string x.kind, Value.int .i64 x.a, Value.int .i64 x.b, Value.int .i64 x.c, Value.int .u64 x.k, Value.string x.s, Value.string x.t, Value.slice x.ca x.chs.length x.cc, Value.slice x.sa x.sps.length x.sc] 53)
      have y5 : (wr.alloc (Obj.cells #[Value.string x.kind, Value.int .i64 x.a, Value.int .i64 x.b, Value.int .i64 x.c, Value.int .u64 x.k, Value.string x.s, Value.string x.t, Value.slice x.ca x.chs.length x.cc, Value.slice x.sa x.sps.length x.sc] 53)).cell? ⟨wr.heap.size, 5, none⟩ = some (.string x.s) := cell_new _ _ _ 5
      have y6 : (wr.alloc (Obj.cells #[Value.string x.kind, Value.int .i64 x.a, Value.int .i64 x.b, Value.int .i64 x.c, Value.int .u64 x.k, Value.string x.s, Value.string x.t, Value.slice x.ca x.chs.length x.cc, Value.slice x.sa x.sps.length x.sc] 53)).cell? ⟨wr.heap.size, 6, none⟩ = some (.string x.t) := cell_new _ _ _ 6
      have HAX := hide (HA.out.on hbX)
      have hsX : wr.heap.size < (wr.alloc (Obj.cells #[Value.string x.kind, Value.int .i64 x.a, Value.int .i64 x.b, Value.int .i64 x.c, Value.int .u64 x.k, Value.string x.s, Value.string x.t, Value.slice x.ca x.chs.length x.cc, Value.slice x.sa x.sps.length x.sc] 53)).heap.size := by simp
      have nb : ¬ inVW wb9 cv rv11 wr.heap.size := fun h => by have := HA.out.own.lt h; omega
      have NB := hide nb
      have hsm : x.s.size ≤ maxLen := by unfold maxLen; omega
      have HTW := hide (alter_twice chs x.s x.t)
      have hl1 := alter_len hc12 ⟨x.s, x.t, false⟩
      clear hbX nb HA
      cases hg : (x.kind.toList == [100, 101, 108, 101, 116, 101]) with
      | false =>
        by_cases hf : alterF chs ⟨x.s, x.t, false⟩ = 0
        · have HF := hide hf
          clear hf
          cases hq : (x.s.toList == key.toList) with
          | true =>
            have HKS : Hid (x.s = key) := (eqS_iff _ _).1 hq
            go_wp2_with ((go_at_call 24; refine (vput_any x.s x.t _ HAX.out.own HAX.out.hi (by omega) hsm).mono ?_; rintro e w13 ⟨rfl, cv13, hw13, hb13, hf13⟩; have HA13 := hide (HAX.out.far hw13 hb13 hf13); have hj13 := hf13 wr.heap.size hsX NB.out; replace y5 := (World.cell?_of_block hj13.1).trans y5; replace y6 := (World.cell?_of_block hj13.1).trans y6; have hs13 := Nat.lt_of_lt_of_le hsX hb13.size; have NB13 := hide hj13.2; rw [HF.out]; simp only [errV]; clear hw13 hb13 hf13 hj13))
            have HI2 := hide (ownI_hit (v := x.t) (gone := false) HI.out (by rw [← HKS.out]; exact HF.out))
            exact ⟨⟨k + 1, _, _, true, true, x.t, by omega, rfl, rfl, rfl, by go_num, HI2.out, by have := HA13.out; rw [HKS.out] at this; exact this⟩, by simp [intOf]; omega⟩
          | false =>
            have HNE : Hid (x.s ≠ key) := fun e => by rw [e] at hq; simp at hq
            go_wp2_with ((go_at_call 24; refine (vput_any x.s x.t _ HAX.out.own HAX.out.hi (by omega) hsm).mono ?_; rintro e w13 ⟨rfl, cv13, hw13, hb13, hf13⟩; have HA13 := hide (HAX.out.far hw13 hb13 hf13); have hj13 := hf13 wr.heap.size hsX NB.out; replace y5 := (World.cell?_of_block hj13.1).trans y5; replace y6 := (World.cell?_of_block hj13.1).trans y6; have hs13 := Nat.lt_of_lt_of_le hsX hb13.size; have NB13 := hide hj13.2; rw [HF.out]; simp only [errV]; clear hw13 hb13 hf13 hj13))
            have HI2 := hide (ownI_miss HI.out (c := ⟨x.s, x.t, false⟩) (fun h0 => HNE.out))
            exact ⟨⟨k + 1, _, _, mine, there, last, by omega, rfl, rfl, rfl, by go_num, HI2.out, HA13.out⟩, by simp [intOf]; omega⟩
        · have HF := hide hf
          have HEF : Hid (errV (alterF chs ⟨x.s, x.t, false⟩) = .iface 127 (.int .i64 (alterF chs ⟨x.s, x.t, false⟩))) := by unfold Hid errV; rw [if_neg hf]
          clear hf
          go_wp2_with ((go_at_call 24; refine (vput_any x.s x.t _ HAX.out.own HAX.out.hi (by omega) hsm).mono ?_; rintro e w13 ⟨rfl, cv13, hw13, hb13, hf13⟩; have HA13 := hide (HAX.out.far hw13 hb13 hf13); have hj13 := hf13 wr.heap.size hsX NB.out; replace y5 := (World.cell?_of_block hj13.1).trans y5; replace y6 := (World.cell?_of_block hj13.1).trans y6; have hs13 := Nat.lt_of_lt_of_le hsX hb13.size; have NB13 := hide hj13.2; rw [HEF.out]; clear hw13 hb13 hf13 hj13))
          have HI2 := hide (ownI_miss HI.out (c := ⟨x.s, x.t, false⟩) (fun h0 => absurd h0 HF.out))
          exact ⟨⟨k + 1, _, _, mine, there, last, by omega, rfl, rfl, rfl, by go_num, HI2.out, HA13.out⟩, by simp [intOf]; omega⟩
      | true =>
        by_cases hf : alterF chs ⟨x.s, ⟨#[]⟩, true⟩ = 0
        · have HF := hide hf
          clear hf
          cases hq : (x.s.toList == key.toList) with
          | true =>
            have HKS : Hid (x.s = key) := (eqS_iff _ _).1 hq
            go_wp2_with (first
              | (go_at_call 24; refine (vput_any x.s x.t _ HAX.out.own HAX.out.hi (by omega) hsm).mono ?_; rintro e w13 ⟨rfl, cv13, hw13, hb13, hf13⟩; have HA13 := hide (HAX.out.far hw13 hb13 hf13); have hj13 := hf13 wr.heap.size hsX NB.out; replace y5 := (World.cell?_of_block hj13.1).trans y5; replace y6 := (World.cell?_of_block hj13.1).trans y6; have hs13 := Nat.lt_of_lt_of_le hsX hb13.size; have NB13 := hide hj13.2; skip; clear hw13 hb13 hf13 hj13)
              | (go_at_call 29; refine (vdelete_any x.s _ HA13.out.own HA13.out.hi (by omega) hsm).mono ?_; rintro e w14 ⟨rfl, cv14, hw14, hb14, hf14⟩; rw [HTW.out.1]; rw [HTW.out.2] at hw14; have HA14 := hide (HA13.out.far hw14 hb14 hf14); have hj14 := hf14 wr.heap.size hs13 NB13.out; replace y5 := (World.cell?_of_block hj14.1).trans y5; replace y6 := (World.cell?_of_block hj14.1).trans y6; rw [HF.out]; simp only [errV]; clear hw14 hb14 hf14 hj14))
            have HI2 := hide (ownI_hit (v := ⟨#[]⟩) (gone := true) HI.out (by rw [← HKS.out]; exact HF.out))
            exact ⟨⟨k + 1, _, _, true, false, ⟨#[]⟩, by omega, rfl, rfl, rfl, by go_num, HI2.out, by have := HA14.out; rw [HKS.out] at this; exact this⟩, by simp [intOf]; omega⟩
          | false =>
            have HNE : Hid (x.s ≠ key) := fun e => by rw [e] at hq; simp at hq
            go_wp2_with (first
              | (go_at_call 24; refine (vput_any x.s x.t _ HAX.out.own HAX.out.hi (by omega) hsm).mono ?_; rintro e w13 ⟨rfl, cv13, hw13, hb13, hf13⟩; have HA13 := hide (HAX.out.far hw13 hb13 hf13); have hj13 := hf13 wr.heap.size hsX NB.out; replace y5 := (World.cell?_of_block hj13.1).trans y5; replace y6 := (World.cell?_of_block hj13.1).trans y6; have hs13 := Nat.lt_of_lt_of_le hsX hb13.size; have NB13 := hide hj13.2; skip; clear hw13 hb13 hf13 hj13)
              | (go_at_call 29; refine (vdelete_any x.s _ HA13.out.own HA13.out.hi (by omega) hsm).mono ?_; rintro e w14 ⟨rfl, cv14, hw14, hb14, hf14⟩; rw [HTW.out.1]; rw [HTW.out.2] at hw14; have HA14 := hide (HA13.out.far hw14 hb14 hf14); have hj14 := hf14 wr.heap.size hs13 NB13.out; replace y5 := (World.cell?_of_block hj14.1).trans y5; replace y6 := (World.cell?_of_block hj14.1).trans y6; rw [HF.out]; simp only [errV]; clear hw14 hb14 hf14 hj14))
            have HI2 := hide (ownI_miss HI.out (c := ⟨x.s, ⟨#[]⟩, true⟩) (fun h0 => HNE.out))
            exact ⟨⟨k + 1, _, _, mine, there, last, by omega, rfl, rfl, rfl, by go_num, HI2.out, HA14.out⟩, by simp [intOf]; omega⟩
        · have HF := hide hf
          have HEF : Hid (errV (alterF chs ⟨x.s, ⟨#[]⟩, true⟩) = .iface 127 (.int .i64 (alterF chs ⟨x.s, ⟨#[]⟩, true⟩))) := by unfold Hid errV; rw [if_neg hf]
          clear hf
          go_wp2_with (first
            | (go_at_call 24; refine (vput_any x.s x.t _ HAX.out.own HAX.out.hi (by omega) hsm).mono ?_; rintro e w13 ⟨rfl, cv13, hw13, hb13, hf13⟩; have HA13 := hide (HAX.out.far hw13 hb13 hf13); have hj13 := hf13 wr.heap.size hsX NB.out; replace y5 := (World.cell?_of_block hj13.1).trans y5; replace y6 := (World.cell?_of_block hj13.1).trans y6; have hs13 := Nat.lt_of_lt_of_le hsX hb13.size; have NB13 := hide hj13.2; skip; clear hw13 hb13 hf13 hj13)
            | (go_at_call 29; refine (vdelete_any x.s _ HA13.out.own HA13.out.hi (by omega) hsm).mono ?_; rintro e w14 ⟨rfl, cv14, hw14, hb14, hf14⟩; rw [HTW.out.1]; rw [HTW.out.2] at hw14; have HA14 := hide (HA13.out.far hw14 hb14 hf14); have hj14 := hf14 wr.heap.size hs13 NB13.out; replace y5 := (World.cell?_of_block hj14.1).trans y5; replace y6 := (World.cell?_of_block hj14.1).trans y6; rw [HEF.out]; clear hw14 hb14 hf14 hj14))
          have HI2 := hide (ownI_miss HI.out (c := ⟨x.s, ⟨#[]⟩, true⟩) (fun h0 => absurd h0 HF.out))
          exact ⟨⟨k + 1, _, _, mine, there, last, by omega, rfl, rfl, rfl, by go_num, HI2.out, HA14.out⟩, by simp [intOf]; omega⟩
    · have ek : k = acts.length := by omega
      subst ek
      have hlt' : ¬ (acts.length : Int) < (acts.length : Int) := by omega
      have HG2 := hide (get_again (chs := []) HKE.out HBV.out (findC_nil key))
      cases mine
      · skip
        have HG3 : Hid (getR chs [(key, zeroS key)] R 0 key = (bv.1, bv.2, 0) ∧ getL chs [(key, zeroS key)] key = [(key, zeroS key)]) := get_again HKE.out HBV.out HI.out.2
        go_wp2_with fail
        refine (get_any key _ HA.out.vs HA.out.own HA.out.vw HA.out.hi (by simp) (by omega) hkm hR1).mono ?_
        rintro e w13 ⟨rfl, rv13, hw13, hb13, hf13⟩
        rw [HG3.out.1]
        rw [HG3.out.2] at hw13
        have HA13 := hide (HA.out.far hw13 hb13 hf13)
        clear hw13 hb13 hf13
        simp only [errV]
        go_wp2_with fail
        refine (get_any key _ HA13.out.vs HA13.out.other HA13.out.vo HA13.out.hi (by simp) (by simp) hkm hR1).mono ?_
        rintro e w14 ⟨rfl, ov14, hw14, hb14, hf14⟩
        rw [HG0.out.1]
        rw [HG0.out.2] at hw14
        have HA14 := hide (HA13.out.farO hw14 hb14 hf14)
        clear hw14 hb14 hf14
        simp only [errV]
        go_wp2_with fail
        refine (back_any _ HA14.out.own HA14.out.hi HA14.out.mark (by simp)).mono ?_
        rintro e w15 ⟨rfl, cv15, hw15, hb15, hf15⟩
        have HA15 := hide (HA14.out.far hw15 hb15 hf15)
        clear hw15 hb15 hf15
        go_wp2_with fail
        refine (get_any key _ HA15.out.vs HA15.out.own HA15.out.vw HA15.out.hi (by simp) (by simp) hkm hR1).mono ?_
        rintro e w16 ⟨rfl, rv16, hw16, hb16, hf16⟩
        rw [HG2.out.1]
        rw [HG2.out.2] at hw16
        have HA16 := hide (HA15.out.far hw16 hb16 hf16)
        clear hw16 hb16 hf16
        simp only [errV]
        go_wp2_with (go_at_call 25; refine (changes_any _ HA16.out.own (by simp)).mono ?_; rintro e w17 ⟨v17, rfl, ho17, hb17⟩; obtain ⟨a17, c17, rfl⟩ := own_shape ho17; have HB17 := hide (below_on HA16.out.bel (Nat.le_refl _) hb17); clear ho17 hb17)
        go_ret
        exact ⟨rfl, HB17.out⟩
      · skip
        have HG3 : Hid (getR chs [(key, zeroS key)] R 0 key = (last, there, 0) ∧ getL chs [(key, zeroS key)] key = [(key, zeroS key)]) := by
          have := get_own (rds := [(key, zeroS key)]) (R := R) HKE.out HI.out.2
          rw [Bool.not_not] at this
          exact this
        go_wp2_with fail
        refine (get_any key _ HA.out.vs HA.out.own HA.out.vw HA.out.hi (by simp) (by omega) hkm hR1).mono ?_
        rintro e w13 ⟨rfl, rv13, hw13, hb13, hf13⟩
        rw [HG3.out.1]
        rw [HG3.out.2] at hw13
        have HA13 := hide (HA.out.far hw13 hb13 hf13)
        clear hw13 hb13 hf13
        simp only [errV]
        go_wp2_with fail
        refine (get_any key _ HA13.out.vs HA13.out.other HA13.out.vo HA13.out.hi (by simp) (by simp) hkm hR1).mono ?_
        rintro e w14 ⟨rfl, ov14, hw14, hb14, hf14⟩
        rw [HG0.out.1]
        rw [HG0.out.2] at hw14
        have HA14 := hide (HA13.out.farO hw14 hb14 hf14)
        clear hw14 hb14 hf14
        simp only [errV]
        go_wp2_with fail
        refine (back_any _ HA14.out.own HA14.out.hi HA14.out.mark (by simp)).mono ?_
        rintro e w15 ⟨rfl, cv15, hw15, hb15, hf15⟩
        have HA15 := hide (HA14.out.far hw15 hb15 hf15)
        clear hw15 hb15 hf15
        go_wp2_with fail
        refine (get_any key _ HA15.out.vs HA15.out.own HA15.out.vw HA15.out.hi (by simp) (by simp) hkm hR1).mono ?_
        rintro e w16 ⟨rfl, rv16, hw16, hb16, hf16⟩
        rw [HG2.out.1]
        rw [HG2.out.2] at hw16
        have HA16 := hide (HA15.out.far hw16 hb16 hf16)
        clear hw16 hb16 hf16
        simp only [errV]
        go_wp2_with (go_at_call 25; refine (changes_any _ HA16.out.own (by simp)).mono ?_; rintro e w17 ⟨v17, rfl, ho17, hb17⟩; obtain ⟨a17, c17, rfl⟩ := own_shape ho17; have HB17 := hide (below_on HA16.out.bel (Nat.le_refl _) hb17); clear ho17 hb17)
        go_ret
        exact ⟨rfl, HB17.out⟩
end Go.Proofs.Ytjphbmdmnicjpac
