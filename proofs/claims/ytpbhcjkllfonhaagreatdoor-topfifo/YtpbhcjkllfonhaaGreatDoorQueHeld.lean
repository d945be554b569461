/-
  What queue.held, queue.Ack and queue.Wait return, of every view.
-/
import Derived.Test.YtpbhcjkllfonhaaGreatDoorQuePut
namespace Go.Proofs.YtpbhcjkllfonhaaGreatDoor
open Go.RowKit Go.Joins Go.Shelf
attribute [local go_sem ↓] Go.wp_at_zero Go.wp_at_succ

abbrev Msg := Int × Int × Int × ByteArray × Nat
abbrev mV (x : Msg) : Value := .agg #[.int .i64 x.1, .int .i64 x.2.1, .int .i64 x.2.2.1, .string x.2.2.2.1]
abbrev noM (f : Nat) : Msg := (0, 0, 0, ⟨#[]⟩, f)
/-- what a row holds, if its tries are those -/
noncomputable def heldT (t : ByteArray × Bool × Nat) (n tries : Int) : Msg :=
  if t.2.2 = 0 then if t.2.1 = true then if (mOf t.1 n).2.2.2.2 = 0 then if (mOf t.1 n).2.1 = tries then mOf t.1 n else noM 11 else noM (mOf t.1 n).2.2.2.2 else noM 11 else noM t.2.2
noncomputable def heldQ (P : Rws) (chs : List Chg) (rds : Rws) (name : ByteArray) (n tries : Int) : Msg × Rws :=
  if (findQ P chs rds name).2.2.2 = 0 then
    if n < 0 ∨ 999999 < n ∨ tries < 1 then (noM 1, findL chs rds name)
    else (heldT (getP chs (findL chs rds name) P (msgB name (numOf n))) n tries, getL chs (findL chs rds name) (msgB name (numOf n)))
  else (noM (findQ P chs rds name).2.2.2, findL chs rds name)
set_option maxHeartbeats 4000000 in
theorem qheld_any (name : ByteArray) (n tries : Int) {B wb : Nat} {S : Nat → Prop} {P : Rws} {since : Int} {chs : List Chg} {rds : Rws} (w : World) (h : QV w B wb S P since chs rds) (hn : name.size ≤ 1000) :
    Calls Tryz.prog 61 #[.pointer (some ⟨wb, 0, none⟩), .string name, .int .i64 n, .int .i64 tries] w fun e w' => e = .returned (.tuple #[mV (heldQ P chs rds name n tries).1, errV (heldQ P chs rds name n tries).1.2.2.2.2]) ∧ ActQ w w' B wb S P since chs (heldQ P chs rds name n tries).2 := by
  have HX := hide (BoxQ.start h #[Value.int .i64 0, Value.int .i64 0, Value.int .i64 0, Value.string ⟨#[]⟩] 51)
  have HLO := hide h.pv.lo
  have hqs := msgB_short (name := name) (numOf n) hn
  have n1 := err_neq_nil 116
  have HF := hide (fun (W : World) (hW : QV W B wb S P since chs rds) => qfind_any name W hW hn)
  have HGS := hide (getP_size h.ok (findL chs rds name) (msgB name (numOf n)))
  have HGT := hide (fun (S1 : Nat → Prop) (W : World) (hW : QV W B wb S1 P since chs (findL chs rds name)) => qv_get (msgB name (numOf n)) W hW hqs)
  have r0 : (w.alloc (Obj.cells #[Value.int .i64 0, Value.int .i64 0, Value.int .i64 0, Value.string ⟨#[]⟩] 51)).cell? ⟨w.heap.size, 0, none⟩ = some (Value.int .i64 0) := by simp
  have r1 : (w.alloc (Obj.cells #[Value.int .i64 0, Value.int .i64 0, Value.int .i64 0, Value.string ⟨#[]⟩] 51)).cell? ⟨w.heap.size, 1, none⟩ = some (Value.int .i64 0) := by simp
  have r2 : (w.alloc (Obj.cells #[Value.int .i64 0, Value.int .i64 0, Value.int .i64 0, Value.string ⟨#[]⟩] 51)).cell? ⟨w.heap.size, 2, none⟩ = some (Value.int .i64 0) := by simp
  have r3 : (w.alloc (Obj.cells #[Value.int .i64 0, Value.int .i64 0, Value.int .i64 0, Value.string ⟨#[]⟩] 51)).cell? ⟨w.heap.size, 3, none⟩ = some (Value.string ⟨#[]⟩) := by simp
  unfold heldQ
  clear h
  generalize findQ P chs rds name = q at *
  generalize getP chs (findL chs rds name) P (msgB name (numOf n)) = t at *
  generalize getL chs (findL chs rds name) (msgB name (numOf n)) = rds2 at *
  generalize findL chs rds name = rds1 at *
  obtain ⟨qx, qy, qd, er⟩ := q
  dsimp only at HF HGT ⊢
  by_cases h1 : er = 0
  · subst h1
    rw [if_pos rfl]
    have HE1 := hide errV_zero
    by_cases hb : n < 0 ∨ 999999 < n ∨ tries < 1
    · rw [if_pos hb]
      by_cases hb1 : n < 0
      · have d1 : decide (n < 0) = true := by simpa using hb1
        go_enter Tryz.func61, Tryz.ntmps61
        go_wp2_with (first
          | (go_at_call 33; refine (HF.out _ HX.out.qv).mono ?_; rintro e w1 ⟨rfl, ha⟩; obtain ⟨S1, hx1, eb⟩ := HX.out.act ha; replace r0 := (World.cell?_of_block eb).trans r0; replace r1 := (World.cell?_of_block eb).trans r1; replace r2 := (World.cell?_of_block eb).trans r2; replace r3 := (World.cell?_of_block eb).trans r3; have hbA := below_alloc1 w1 (Obj.cells #[Value.int .i64 qx, Value.int .i64 qy, Value.string qd] 87); replace r0 := cell_on hbA r0; replace r1 := cell_on hbA r1; replace r2 := cell_on hbA r2; replace r3 := cell_on hbA r3; have HX1 := hide (hx1.on hbA); have fz := (hx1.on hbA).fz; clear ha hx1 eb hbA; rw [HE1.out])
          | fail)
        exact bodyPost_ret (v := .tuple #[mV (noM 1), errV 1]) (by simp [errV, results, Tryz.results61, go_sem, r0, r1, r2, r3]) rfl ⟨rfl, ((((HX1.out.set HLO.out 0 _).set HLO.out 1 _).set HLO.out 2 _).set HLO.out 3 _).done⟩
      · have d1 : decide (n < 0) = false := by simpa using hb1
        by_cases hb2 : 999999 < n
        · have d2 : decide (999999 < n) = true := by simpa using hb2
          go_enter Tryz.func61, Tryz.ntmps61
          go_wp2_with (first
            | (go_at_call 33; refine (HF.out _ HX.out.qv).mono ?_; rintro e w1 ⟨rfl, ha⟩; obtain ⟨S1, hx1, eb⟩ := HX.out.act ha; replace r0 := (World.cell?_of_block eb).trans r0; replace r1 := (World.cell?_of_block eb).trans r1; replace r2 := (World.cell?_of_block eb).trans r2; replace r3 := (World.cell?_of_block eb).trans r3; have hbA := below_alloc1 w1 (Obj.cells #[Value.int .i64 qx, Value.int .i64 qy, Value.string qd] 87); replace r0 := cell_on hbA r0; replace r1 := cell_on hbA r1; replace r2 := cell_on hbA r2; replace r3 := cell_on hbA r3; have HX1 := hide (hx1.on hbA); have fz := (hx1.on hbA).fz; clear ha hx1 eb hbA; rw [HE1.out])
            | fail)
          exact bodyPost_ret (v := .tuple #[mV (noM 1), errV 1]) (by simp [errV, results, Tryz.results61, go_sem, r0, r1, r2, r3]) rfl ⟨rfl, ((((HX1.out.set HLO.out 0 _).set HLO.out 1 _).set HLO.out 2 _).set HLO.out 3 _).done⟩
        · have d2 : decide (999999 < n) = false := by simpa using hb2
          have hb3 : tries < 1 := by omega
          have d3 : decide (tries < 1) = true := by simpa using hb3
          go_enter Tryz.func61, Tryz.ntmps61
          go_wp2_with (first
            | (go_at_call 33; refine (HF.out _ HX.out.qv).mono ?_; rintro e w1 ⟨rfl, ha⟩; obtain ⟨S1, hx1, eb⟩ := HX.out.act ha; replace r0 := (World.cell?_of_block eb).trans r0; replace r1 := (World.cell?_of_block eb).trans r1; replace r2 := (World.cell?_of_block eb).trans r2; replace r3 := (World.cell?_of_block eb).trans r3; have hbA := below_alloc1 w1 (Obj.cells #[Value.int .i64 qx, Value.int .i64 qy, Value.string qd] 87); replace r0 := cell_on hbA r0; replace r1 := cell_on hbA r1; replace r2 := cell_on hbA r2; replace r3 := cell_on hbA r3; have HX1 := hide (hx1.on hbA); have fz := (hx1.on hbA).fz; clear ha hx1 eb hbA; rw [HE1.out])
            | fail)
          exact bodyPost_ret (v := .tuple #[mV (noM 1), errV 1]) (by simp [errV, results, Tryz.results61, go_sem, r0, r1, r2, r3]) rfl ⟨rfl, ((((HX1.out.set HLO.out 0 _).set HLO.out 1 _).set HLO.out 2 _).set HLO.out 3 _).done⟩
    · rw [if_neg hb]
      have hb1 : ¬ n < 0 := by omega
      have hb2 : ¬ 999999 < n := by omega
      have hb3 : ¬ tries < 1 := by omega
      have d1 : decide (n < 0) = false := by simpa using hb1
      have d2 : decide (999999 < n) = false := by simpa using hb2
      have d3 : decide (tries < 1) = false := by simpa using hb3
      clear hb
      obtain ⟨tx, is, eg⟩ := t
      unfold heldT
      dsimp only at HGS HGT ⊢
      by_cases h2 : eg = 0
      · subst h2
        rw [if_pos rfl]
        have HE2 := hide errV_zero
        cases is with
        | false =>
          rw [if_neg (by simp)]
          go_enter Tryz.func61, Tryz.ntmps61
          go_wp2_with (first
            | (go_at_call 33; refine (HF.out _ HX.out.qv).mono ?_; rintro e w1 ⟨rfl, ha⟩; obtain ⟨S1, hx1, eb⟩ := HX.out.act ha; replace r0 := (World.cell?_of_block eb).trans r0; replace r1 := (World.cell?_of_block eb).trans r1; replace r2 := (World.cell?_of_block eb).trans r2; replace r3 := (World.cell?_of_block eb).trans r3; have hbA := below_alloc1 w1 (Obj.cells #[Value.int .i64 qx, Value.int .i64 qy, Value.string qd] 87); replace r0 := cell_on hbA r0; replace r1 := cell_on hbA r1; replace r2 := cell_on hbA r2; replace r3 := cell_on hbA r3; have HX1 := hide (hx1.on hbA); have fz := (hx1.on hbA).fz; clear ha hx1 eb hbA; rw [HE1.out])
            | (go_at_call 62; refine (message_any name n _ (by omega) (by omega) (by omega) HX1.out.qv.laid.tab).mono ?_; rintro e w2 ⟨rfl, hb2⟩; replace r0 := cell_on hb2 r0; replace r1 := cell_on hb2 r1; replace r2 := cell_on hb2 r2; replace r3 := cell_on hb2 r3; replace HX1 := hide (HX1.out.on hb2); clear hb2 fz)
            | (go_at_call 38; refine (HGT.out _ _ HX1.out.qv).mono ?_; rintro e w3 ⟨rfl, ha⟩; obtain ⟨S2, hx2, eb⟩ := HX1.out.act ha; replace r0 := (World.cell?_of_block eb).trans r0; replace r1 := (World.cell?_of_block eb).trans r1; replace r2 := (World.cell?_of_block eb).trans r2; replace r3 := (World.cell?_of_block eb).trans r3; have HX2 := hide hx2; have fz := hx2.fz; clear ha hx2 eb; rw [HE2.out])
            | fail)
          exact bodyPost_ret (v := .tuple #[mV (noM 11), errV 11]) (by simp [errV, results, Tryz.results61, go_sem, r0, r1, r2, r3]) rfl ⟨rfl, ((((HX2.out.set HLO.out 0 _).set HLO.out 1 _).set HLO.out 2 _).set HLO.out 3 _).done⟩
        | true =>
          rw [if_pos rfl]
          have HPM := hide (fun (W : World) (hL : Laid W) => mOf_prog tx n (by have := HGS.out; omega) W hL)
          generalize mOf tx n = m at *
          obtain ⟨mk, mt, mu, md, em⟩ := m
          dsimp only at HPM ⊢
          by_cases h3 : em = 0
          · subst h3
            rw [if_pos rfl]
            have HE3 := hide errV_zero
            by_cases h4 : mt = tries
            · subst h4
              rw [if_pos rfl]
              have d4 : (mt == mt) = true := by simp
              go_enter Tryz.func61, Tryz.ntmps61
              go_wp2_with (first
                | (go_at_call 33; refine (HF.out _ HX.out.qv).mono ?_; rintro e w1 ⟨rfl, ha⟩; obtain ⟨S1, hx1, eb⟩ := HX.out.act ha; replace r0 := (World.cell?_of_block eb).trans r0; replace r1 := (World.cell?_of_block eb).trans r1; replace r2 := (World.cell?_of_block eb).trans r2; replace r3 := (World.cell?_of_block eb).trans r3; have hbA := below_alloc1 w1 (Obj.cells #[Value.int .i64 qx, Value.int .i64 qy, Value.string qd] 87); replace r0 := cell_on hbA r0; replace r1 := cell_on hbA r1; replace r2 := cell_on hbA r2; replace r3 := cell_on hbA r3; have HX1 := hide (hx1.on hbA); have fz := (hx1.on hbA).fz; clear ha hx1 eb hbA; rw [HE1.out])
                | (go_at_call 62; refine (message_any name n _ (by omega) (by omega) (by omega) HX1.out.qv.laid.tab).mono ?_; rintro e w2 ⟨rfl, hb2⟩; replace r0 := cell_on hb2 r0; replace r1 := cell_on hb2 r1; replace r2 := cell_on hb2 r2; replace r3 := cell_on hb2 r3; replace HX1 := hide (HX1.out.on hb2); clear hb2 fz)
                | (go_at_call 38; refine (HGT.out _ _ HX1.out.qv).mono ?_; rintro e w3 ⟨rfl, ha⟩; obtain ⟨S2, hx2, eb⟩ := HX1.out.act ha; replace r0 := (World.cell?_of_block eb).trans r0; replace r1 := (World.cell?_of_block eb).trans r1; replace r2 := (World.cell?_of_block eb).trans r2; replace r3 := (World.cell?_of_block eb).trans r3; have HX2 := hide hx2; have fz := hx2.fz; clear ha hx2 eb; rw [HE2.out])
                | (go_at_call 105; refine (HPM.out _ HX2.out.qv.laid).mono ?_; rintro e w4 ⟨rfl, hb4⟩; have hx3 := HX2.out.on hb4; replace r0 := cell_on hb4 r0; replace r1 := cell_on hb4 r1; replace r2 := cell_on hb4 r2; replace r3 := cell_on hb4 r3; have hbA := below_alloc1 w4 (Obj.cells #[Value.int .i64 mk, Value.int .i64 mt, Value.int .i64 mu, Value.string md] 51); replace r0 := cell_on hbA r0; replace r1 := cell_on hbA r1; replace r2 := cell_on hbA r2; replace r3 := cell_on hbA r3; have HX3 := hide (hx3.on hbA); replace fz := (hx3.on hbA).fz; clear hb4 hx3 hbA; rw [HE3.out])
                | fail)
              exact bodyPost_ret (v := .tuple #[mV ((mk, mt, mu, md, 0)), errV 0]) (by simp [errV, results, Tryz.results61, go_sem, r0, r1, r2, r3]) rfl ⟨rfl, ((((HX3.out.set HLO.out 0 _).set HLO.out 1 _).set HLO.out 2 _).set HLO.out 3 _).done⟩
            · rw [if_neg h4]
              have d4 : (mt == tries) = false := by simpa using h4
              go_enter Tryz.func61, Tryz.ntmps61
              go_wp2_with (first
                | (go_at_call 33; refine (HF.out _ HX.out.qv).mono ?_; rintro e w1 ⟨rfl, ha⟩; obtain ⟨S1, hx1, eb⟩ := HX.out.act ha; replace r0 := (World.cell?_of_block eb).trans r0; replace r1 := (World.cell?_of_block eb).trans r1; replace r2 := (World.cell?_of_block eb).trans r2; replace r3 := (World.cell?_of_block eb).trans r3; have hbA := below_alloc1 w1 (Obj.cells #[Value.int .i64 qx, Value.int .i64 qy, Value.string qd] 87); replace r0 := cell_on hbA r0; replace r1 := cell_on hbA r1; replace r2 := cell_on hbA r2; replace r3 := cell_on hbA r3; have HX1 := hide (hx1.on hbA); have fz := (hx1.on hbA).fz; clear ha hx1 eb hbA; rw [HE1.out])
                | (go_at_call 62; refine (message_any name n _ (by omega) (by omega) (by omega) HX1.out.qv.laid.tab).mono ?_; rintro e w2 ⟨rfl, hb2⟩; replace r0 := cell_on hb2 r0; replace r1 := cell_on hb2 r1; replace r2 := cell_on hb2 r2; replace r3 := cell_on hb2 r3; replace HX1 := hide (HX1.out.on hb2); clear hb2 fz)
                | (go_at_call 38; refine (HGT.out _ _ HX1.out.qv).mono ?_; rintro e w3 ⟨rfl, ha⟩; obtain ⟨S2, hx2, eb⟩ := HX1.out.act ha; replace r0 := (World.cell?_of_block eb).trans r0; replace r1 := (World.cell?_of_block eb).trans r1; replace r2 := (World.cell?_of_block eb).trans r2; replace r3 := (World.cell?_of_block eb).trans r3; have HX2 := hide hx2; have fz := hx2.fz; clear ha hx2 eb; rw [HE2.out])
                | (go_at_call 105; refine (HPM.out _ HX2.out.qv.laid).mono ?_; rintro e w4 ⟨rfl, hb4⟩; have hx3 := HX2.out.on hb4; replace r0 := cell_on hb4 r0; replace r1 := cell_on hb4 r1; replace r2 := cell_on hb4 r2; replace r3 := cell_on hb4 r3; have hbA := below_alloc1 w4 (Obj.cells #[Value.int .i64 mk, Value.int .i64 mt, Value.int .i64 mu, Value.string md] 51); replace r0 := cell_on hbA r0; replace r1 := cell_on hbA r1; replace r2 := cell_on hbA r2; replace r3 := cell_on hbA r3; have HX3 := hide (hx3.on hbA); replace fz := (hx3.on hbA).fz; clear hb4 hx3 hbA; rw [HE3.out])
                | fail)
              exact bodyPost_ret (v := .tuple #[mV (noM 11), errV 11]) (by simp [errV, results, Tryz.results61, go_sem, r0, r1, r2, r3]) rfl ⟨rfl, ((((HX3.out.set HLO.out 0 _).set HLO.out 1 _).set HLO.out 2 _).set HLO.out 3 _).done⟩
          · rw [if_neg h3]
            have HE3 := hide (errV_pos h3)
            clear h3
            go_enter Tryz.func61, Tryz.ntmps61
            go_wp2_with (first
              | (go_at_call 33; refine (HF.out _ HX.out.qv).mono ?_; rintro e w1 ⟨rfl, ha⟩; obtain ⟨S1, hx1, eb⟩ := HX.out.act ha; replace r0 := (World.cell?_of_block eb).trans r0; replace r1 := (World.cell?_of_block eb).trans r1; replace r2 := (World.cell?_of_block eb).trans r2; replace r3 := (World.cell?_of_block eb).trans r3; have hbA := below_alloc1 w1 (Obj.cells #[Value.int .i64 qx, Value.int .i64 qy, Value.string qd] 87); replace r0 := cell_on hbA r0; replace r1 := cell_on hbA r1; replace r2 := cell_on hbA r2; replace r3 := cell_on hbA r3; have HX1 := hide (hx1.on hbA); have fz := (hx1.on hbA).fz; clear ha hx1 eb hbA; rw [HE1.out])
              | (go_at_call 62; refine (message_any name n _ (by omega) (by omega) (by omega) HX1.out.qv.laid.tab).mono ?_; rintro e w2 ⟨rfl, hb2⟩; replace r0 := cell_on hb2 r0; replace r1 := cell_on hb2 r1; replace r2 := cell_on hb2 r2; replace r3 := cell_on hb2 r3; replace HX1 := hide (HX1.out.on hb2); clear hb2 fz)
              | (go_at_call 38; refine (HGT.out _ _ HX1.out.qv).mono ?_; rintro e w3 ⟨rfl, ha⟩; obtain ⟨S2, hx2, eb⟩ := HX1.out.act ha; replace r0 := (World.cell?_of_block eb).trans r0; replace r1 := (World.cell?_of_block eb).trans r1; replace r2 := (World.cell?_of_block eb).trans r2; replace r3 := (World.cell?_of_block eb).trans r3; have HX2 := hide hx2; have fz := hx2.fz; clear ha hx2 eb; rw [HE2.out])
              | (go_at_call 105; refine (HPM.out _ HX2.out.qv.laid).mono ?_; rintro e w4 ⟨rfl, hb4⟩; have hx3 := HX2.out.on hb4; replace r0 := cell_on hb4 r0; replace r1 := cell_on hb4 r1; replace r2 := cell_on hb4 r2; replace r3 := cell_on hb4 r3; have hbA := below_alloc1 w4 (Obj.cells #[Value.int .i64 mk, Value.int .i64 mt, Value.int .i64 mu, Value.string md] 51); replace r0 := cell_on hbA r0; replace r1 := cell_on hbA r1; replace r2 := cell_on hbA r2; replace r3 := cell_on hbA r3; have HX3 := hide (hx3.on hbA); replace fz := (hx3.on hbA).fz; clear hb4 hx3 hbA; rw [HE3.out])
              | fail)
            exact bodyPost_ret (v := .tuple #[mV (noM em), .iface 116 (.int .i64 em)]) (by simp [results, Tryz.results61, go_sem, r0, r1, r2, r3]) rfl ⟨HE3.out ▸ rfl, ((((HX3.out.set HLO.out 0 _).set HLO.out 1 _).set HLO.out 2 _).set HLO.out 3 _).done⟩
      · rw [if_neg h2]
        have HE2 := hide (errV_pos h2)
        clear h2
        go_enter Tryz.func61, Tryz.ntmps61
        go_wp2_with (first
          | (go_at_call 33; refine (HF.out _ HX.out.qv).mono ?_; rintro e w1 ⟨rfl, ha⟩; obtain ⟨S1, hx1, eb⟩ := HX.out.act ha; replace r0 := (World.cell?_of_block eb).trans r0; replace r1 := (World.cell?_of_block eb).trans r1; replace r2 := (World.cell?_of_block eb).trans r2; replace r3 := (World.cell?_of_block eb).trans r3; have hbA := below_alloc1 w1 (Obj.cells #[Value.int .i64 qx, Value.int .i64 qy, Value.string qd] 87); replace r0 := cell_on hbA r0; replace r1 := cell_on hbA r1; replace r2 := cell_on hbA r2; replace r3 := cell_on hbA r3; have HX1 := hide (hx1.on hbA); have fz := (hx1.on hbA).fz; clear ha hx1 eb hbA; rw [HE1.out])
          | (go_at_call 62; refine (message_any name n _ (by omega) (by omega) (by omega) HX1.out.qv.laid.tab).mono ?_; rintro e w2 ⟨rfl, hb2⟩; replace r0 := cell_on hb2 r0; replace r1 := cell_on hb2 r1; replace r2 := cell_on hb2 r2; replace r3 := cell_on hb2 r3; replace HX1 := hide (HX1.out.on hb2); clear hb2 fz)
          | (go_at_call 38; refine (HGT.out _ _ HX1.out.qv).mono ?_; rintro e w3 ⟨rfl, ha⟩; obtain ⟨S2, hx2, eb⟩ := HX1.out.act ha; replace r0 := (World.cell?_of_block eb).trans r0; replace r1 := (World.cell?_of_block eb).trans r1; replace r2 := (World.cell?_of_block eb).trans r2; replace r3 := (World.cell?_of_block eb).trans r3; have HX2 := hide hx2; have fz := hx2.fz; clear ha hx2 eb; rw [HE2.out])
          | fail)
        exact bodyPost_ret (v := .tuple #[mV (noM eg), .iface 116 (.int .i64 eg)]) (by simp [results, Tryz.results61, go_sem, r0, r1, r2, r3]) rfl ⟨HE2.out ▸ rfl, ((((HX2.out.set HLO.out 0 _).set HLO.out 1 _).set HLO.out 2 _).set HLO.out 3 _).done⟩
  · rw [if_neg h1]
    have HE1 := hide (errV_pos h1)
    clear h1
    go_enter Tryz.func61, Tryz.ntmps61
    go_wp2_with (first
      | (go_at_call 33; refine (HF.out _ HX.out.qv).mono ?_; rintro e w1 ⟨rfl, ha⟩; obtain ⟨S1, hx1, eb⟩ := HX.out.act ha; replace r0 := (World.cell?_of_block eb).trans r0; replace r1 := (World.cell?_of_block eb).trans r1; replace r2 := (World.cell?_of_block eb).trans r2; replace r3 := (World.cell?_of_block eb).trans r3; have hbA := below_alloc1 w1 (Obj.cells #[Value.int .i64 qx, Value.int .i64 qy, Value.string qd] 87); replace r0 := cell_on hbA r0; replace r1 := cell_on hbA r1; replace r2 := cell_on hbA r2; replace r3 := cell_on hbA r3; have HX1 := hide (hx1.on hbA); have fz := (hx1.on hbA).fz; clear ha hx1 eb hbA; rw [HE1.out])
      | fail)
    exact bodyPost_ret (v := .tuple #[mV (noM er), .iface 116 (.int .i64 er)]) (by simp [results, Tryz.results61, go_sem, r0, r1, r2, r3]) rfl ⟨HE1.out ▸ rfl, ((((HX1.out.set HLO.out 0 _).set HLO.out 1 _).set HLO.out 2 _).set HLO.out 3 _).done⟩
end Go.Proofs.YtpbhcjkllfonhaaGreatDoor

/-
  What queue.Ack and queue.Wait return, of every view.
-/
namespace Go.Proofs.YtpbhcjkllfonhaaGreatDoor
open Go.RowKit Go.Joins Go.Shelf
attribute [local go_sem ↓] Go.wp_at_zero Go.wp_at_succ

def timeMay (n : Int) : Bool := decide (0 ≤ n) && decide (n ≤ 1000000)
theorem qisTime_any (n : Int) (w : World) : Calls Tryz.prog 52 #[.int .i64 n] w fun e w' => e = .returned (.bool (timeMay n)) ∧ w' = w := by
  unfold timeMay
  by_cases h0 : 0 ≤ n
  · have d0 : decide (0 ≤ n) = true := by simpa using h0
    rw [d0]
    by_cases h1 : n ≤ 1000000
    · have d1 : decide (n ≤ 1000000) = true := by simpa using h1
      rw [d1]
      go_enter Tryz.func52, Tryz.ntmps52
      go_wp2
      go_ret
      exact ⟨rfl, rfl⟩
    · have d1 : decide (n ≤ 1000000) = false := by simpa using h1
      rw [d1]
      go_enter Tryz.func52, Tryz.ntmps52
      go_wp2
      go_ret
      exact ⟨rfl, rfl⟩
  · have d0 : decide (0 ≤ n) = false := by simpa using h0
    rw [d0]
    go_enter Tryz.func52, Tryz.ntmps52
    go_wp2
    go_ret
    exact ⟨rfl, rfl⟩
noncomputable def ackQ (P : Rws) (chs : List Chg) (rds : Rws) (name : ByteArray) (n tries : Int) : Nat × List Chg × Rws :=
  if (heldQ P chs rds name n tries).1.2.2.2.2 = 0 then (alterF chs ⟨msgB name (numOf n), ⟨#[]⟩, true⟩, alterL chs ⟨msgB name (numOf n), ⟨#[]⟩, true⟩, (heldQ P chs rds name n tries).2)
  else ((heldQ P chs rds name n tries).1.2.2.2.2, chs, (heldQ P chs rds name n tries).2)
set_option maxHeartbeats 4000000 in
theorem qack_any (name : ByteArray) (n tries : Int) {B wb : Nat} {S : Nat → Prop} {P : Rws} {since : Int} {chs : List Chg} {rds : Rws} (w : World) (h : QV w B wb S P since chs rds) (hn : name.size ≤ 1000) (hk0 : -9223372036854775808 ≤ n) (hk1 : n ≤ 9223372036854775807) :
    Calls Tryz.prog 21 #[.pointer (some ⟨wb, 0, none⟩), .string name, .int .i64 n, .int .i64 tries] w fun e w' => e = .returned (errV (ackQ P chs rds name n tries).1) ∧ ActQ w w' B wb S P since (ackQ P chs rds name n tries).2.1 (ackQ P chs rds name n tries).2.2 := by
  have n1 := err_neq_nil 116
  have HH := hide (qheld_any name n tries w h hn)
  have hqs := msgB_short (name := name) (numOf n) hn
  unfold ackQ
  clear h
  generalize heldQ P chs rds name n tries = q at *
  obtain ⟨⟨mk, mt, mu, md, em⟩, rds1⟩ := q
  dsimp only at HH ⊢
  by_cases h1 : em = 0
  · subst h1
    rw [if_pos rfl]
    go_enter Tryz.func21, Tryz.ntmps21
    go_wp2_with (first
      | (go_at_call 61; refine HH.out.mono ?_; rintro e w1 ⟨rfl, ha⟩; obtain ⟨S1, hq1, hs1⟩ := ha; have hbA := below_alloc1 w1 (Obj.cells #[Value.int .i64 mk, Value.int .i64 mt, Value.int .i64 mu, Value.string md] 51); have HQ1 := hide (hq1.on hbA); have HS1 := hide (hs1.trans (.on hq1.pv.lo hbA)); clear hq1 hs1 hbA; rw [errV_zero])
      | (go_at_call 62; refine (message_any name n _ (by omega) hk0 hk1 HQ1.out.laid.tab).mono ?_; rintro e w2 ⟨rfl, hb2⟩; replace HS1 := hide (HS1.out.trans (.on HQ1.out.pv.lo hb2)); replace HQ1 := hide (HQ1.out.on hb2); clear hb2)
      | (go_at_call 37; refine (qv_delete (msgB name (numOf n)) _ HQ1.out hqs).mono ?_; rintro e w3 ⟨rfl, ha⟩; have HA := hide (ActQ.after HS1.out ha); clear ha)
      | fail)
    go_ret
    exact ⟨rfl, HA.out⟩
  · rw [if_neg h1]
    have HE1 := hide (errV_pos h1)
    clear h1
    go_enter Tryz.func21, Tryz.ntmps21
    go_wp2_with (first
      | (go_at_call 61; refine HH.out.mono ?_; rintro e w1 ⟨rfl, ha⟩; obtain ⟨S1, hq1, hs1⟩ := ha; have hbA := below_alloc1 w1 (Obj.cells #[Value.int .i64 mk, Value.int .i64 mt, Value.int .i64 mu, Value.string md] 51); have HQ1 := hide (hq1.on hbA); have HS1 := hide (hs1.trans (.on hq1.pv.lo hbA)); clear hq1 hs1 hbA; rw [HE1.out])
      | fail)
    go_ret
    exact ⟨HE1.out ▸ rfl, _, HQ1.out, HS1.out⟩
noncomputable def waitQ (P : Rws) (chs : List Chg) (rds : Rws) (name : ByteArray) (n tries until_ : Int) : Nat × List Chg × Rws :=
  if (heldQ P chs rds name n tries).1.2.2.2.2 = 0 then
    if timeMay until_ = true then (putMF chs name (heldQ P chs rds name n tries).1.1 (heldQ P chs rds name n tries).1.2.1 until_ (heldQ P chs rds name n tries).1.2.2.2.1, putML chs name (heldQ P chs rds name n tries).1.1 (heldQ P chs rds name n tries).1.2.1 until_ (heldQ P chs rds name n tries).1.2.2.2.1, (heldQ P chs rds name n tries).2)
    else (1, chs, (heldQ P chs rds name n tries).2)
  else ((heldQ P chs rds name n tries).1.2.2.2.2, chs, (heldQ P chs rds name n tries).2)
theorem mOf_num (s : ByteArray) (n : Int) : (mOf s n).1 = n ∨ (mOf s n).1 = 0 := by
  rcases mOf_cases s n with ⟨t, u, d, e, _⟩ | ⟨e, _⟩
  · rw [e]; exact .inl rfl
  · rw [e]; exact .inr rfl
theorem heldQ_num (P : Rws) (chs : List Chg) (rds : Rws) (name : ByteArray) (n tries : Int) : (heldQ P chs rds name n tries).1.1 = n ∨ (heldQ P chs rds name n tries).1.1 = 0 := by
  unfold heldQ
  split
  · split
    · exact .inr rfl
    · unfold heldT
      split
      · split
        · split
          · split
            · exact mOf_num _ _
            · exact .inr rfl
          · exact .inr rfl
        · exact .inr rfl
      · exact .inr rfl
  · exact .inr rfl
set_option maxHeartbeats 4000000 in
theorem qwait_any (name : ByteArray) (n tries until_ : Int) {B wb : Nat} {S : Nat → Prop} {P : Rws} {since : Int} {chs : List Chg} {rds : Rws} (w : World) (h : QV w B wb S P since chs rds) (hn : name.size ≤ 1000) (hk0 : -9223372036854775808 ≤ n) (hk1 : n ≤ 9223372036854775807) :
    Calls Tryz.prog 22 #[.pointer (some ⟨wb, 0, none⟩), .string name, .int .i64 n, .int .i64 tries, .int .i64 until_] w fun e w' => e = .returned (errV (waitQ P chs rds name n tries until_).1) ∧ ActQ w w' B wb S P since (waitQ P chs rds name n tries until_).2.1 (waitQ P chs rds name n tries until_).2.2 := by
  have n1 := err_neq_nil 116
  have HH := hide (qheld_any name n tries w h hn)
  have hnum := heldQ_num P chs rds name n tries
  unfold waitQ
  clear h
  generalize heldQ P chs rds name n tries = q at *
  obtain ⟨⟨mk, mt, mu, md, em⟩, rds1⟩ := q
  dsimp only at HH hnum ⊢
  have hm0 : -9223372036854775808 ≤ mk := by omega
  have hm1 : mk ≤ 9223372036854775807 := by omega
  clear hnum
  by_cases h1 : em = 0
  · subst h1
    rw [if_pos rfl]
    cases htm : timeMay until_ with
    | true =>
      rw [if_pos rfl]
      have HTM := hide htm
      clear htm
      go_enter Tryz.func22, Tryz.ntmps22
      go_wp2_with (first
        | (go_at_call 61; refine HH.out.mono ?_; rintro e w1 ⟨rfl, ha⟩; obtain ⟨S1, hq1, hs1⟩ := ha; have HQ1 := hide hq1; have HS1 := hide hs1; clear hq1 hs1; rw [errV_zero])
        | (go_at_call 52; refine (qisTime_any until_ _).mono ?_; rintro e w2 ⟨rfl, rfl⟩; rw [HTM.out])
        | (go_at_call 63; have hbA := below_alloc1 w1 (Obj.cells #[Value.int .i64 mk, Value.int .i64 mt, Value.int .i64 until_, Value.string md] 51); refine (qputMessage_any name mk mt until_ md _ (HQ1.out.on hbA) hn hm0 hm1).mono ?_; rintro e w3 ⟨rfl, ha⟩; have HA := hide (ActQ.after (HS1.out.trans (.on HQ1.out.pv.lo hbA)) ha); clear ha hbA)
        | fail)
      go_ret
      exact ⟨rfl, HA.out⟩
    | false =>
      rw [if_neg (by simp)]
      have HTM := hide htm
      clear htm
      go_enter Tryz.func22, Tryz.ntmps22
      go_wp2_with (first
        | (go_at_call 61; refine HH.out.mono ?_; rintro e w1 ⟨rfl, ha⟩; obtain ⟨S1, hq1, hs1⟩ := ha; have HQ1 := hide hq1; have HS1 := hide hs1; clear hq1 hs1; rw [errV_zero])
        | (go_at_call 52; refine (qisTime_any until_ _).mono ?_; rintro e w2 ⟨rfl, rfl⟩; rw [HTM.out])
        | fail)
      go_ret
      exact ⟨rfl, _, HQ1.out.on (below_alloc1 _ _), HS1.out.trans (.on HQ1.out.pv.lo (below_alloc1 _ _))⟩
  · rw [if_neg h1]
    have HE1 := hide (errV_pos h1)
    clear h1
    go_enter Tryz.func22, Tryz.ntmps22
    go_wp2_with (first
      | (go_at_call 61; refine HH.out.mono ?_; rintro e w1 ⟨rfl, ha⟩; obtain ⟨S1, hq1, hs1⟩ := ha; have HQ1 := hide hq1; have HS1 := hide hs1; clear hq1 hs1; rw [HE1.out])
      | fail)
    go_ret
    exact ⟨HE1.out ▸ rfl, _, HQ1.out.on (below_alloc1 _ _), HS1.out.trans (.on HQ1.out.pv.lo (below_alloc1 _ _))⟩
end Go.Proofs.YtpbhcjkllfonhaaGreatDoor
