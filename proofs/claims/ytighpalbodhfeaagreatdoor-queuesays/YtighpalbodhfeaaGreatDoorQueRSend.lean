/-
  What haywainref.sendTo, badTime and SendMessage return, of every view of the document's.
-/
import Derived.Test.YtighpalbodhfeaaGreatDoorQueR
namespace Go.Proofs.YtighpalbodhfeaaGreatDoor
open Go.RowKit Go.Joins Go.Shelf
attribute [local go_sem ↓] Go.wp_at_zero Go.wp_at_succ

set_option maxRecDepth 8000 in
set_option maxHeartbeats 4000000 in
theorem rsendTo_any (name : ByteArray) (x y : Int) (d body : ByteArray) (until_ : Int) {B rb : Nat} {G : Nat → Prop} {P : Rws} {since : Int} {chs : List Chg} {rds : Rws} (w : World) (h : QR w B rb G P since chs rds) (hn : name.size ≤ 900) (hd : d.size ≤ 1000) (hx0 : 0 ≤ x) (hx1 : x ≤ 999999) :
    Calls Tryz.prog 56 #[.pointer (some ⟨rb, 0, none⟩), .string name, .agg #[.int .i64 x, .int .i64 y, .string d], .string body, .int .i64 until_] w fun e w' => e = .returned (.tuple #[.int .i64 (addQ chs name x y d body until_).1, .int .i64 ((addQ chs name x y d body until_).2.1 : Nat)]) ∧ ActP w w' B rb G P since (addQ chs name x y d body until_).2.2 rds := by
  have HO := hide ((OwnR.start h).box #[Value.int .i64 x, Value.int .i64 y, Value.string d] 76)
  have HLO := hide h.lo
  have q0 := cell_new w #[Value.int .i64 x, Value.int .i64 y, Value.string d] 76 0
  have q1 := cell_new w #[Value.int .i64 x, Value.int .i64 y, Value.string d] 76 1
  have q2 := cell_new w #[Value.int .i64 x, Value.int .i64 y, Value.string d] 76 2
  have hms : (msgB name (numOf x)).size ≤ 1000 := by rw [msg_size]; omega
  have HT := hide (fun W => mText_ref 0 0 until_ body W)
  have HP := hide (fun (v : ByteArray) (G1 : Nat → Prop) W (hW : QR W B rb G1 P since chs rds) => qr_put ⟨msgB name (numOf x), v, false⟩ W hW hms)
  rw [show numOf x = (max x 0).toNat % 1000000 from rfl] at HP
  clear h
  unfold addQ
  by_cases hx : x = 999999
  · rw [if_pos hx]
    subst hx
    go_enter Tryz.func56, Tryz.ntmps56
    go_wp2_with (fail)
    go_ret2
    exact ⟨rfl, HO.out.done⟩
  · rw [if_neg hx]
    have dx : (x == 999999) = false := by simpa using hx
    have hw1 : IntKind.i64.wrap (x + 1) = x + 1 := by rw [IntKind.wrap_i64]; omega
    have HPQ := hide (fun (c1 : List Chg) (G1 : Nat → Prop) W (hW : QR W B rb G1 P since c1 rds) => rputQueue_any name (x + 1) y d W hW hn hd)
    unfold putMF putML
    rw [show numOf x = (max x 0).toNat % 1000000 from rfl]
    generalize mText 0 until_ body = t at *
    obtain ⟨tx, et⟩ := t
    dsimp only at HT ⊢
    by_cases h0 : et = 0
    · subst h0
      rw [if_pos rfl, if_pos rfl]
      by_cases h1 : alterF chs ⟨msgB name ((max x 0).toNat % 1000000), tx, false⟩ = 0
      · rw [if_pos h1]
        have e1 : ((alterF chs ⟨msgB name ((max x 0).toNat % 1000000), tx, false⟩ : Nat) : Int) = 0 := by omega
        replace HP := hide (HP.out tx)
        rw [e1] at HP
        clear h1 e1
        generalize alterL chs ⟨msgB name ((max x 0).toNat % 1000000), tx, false⟩ = chs1 at *
        go_enter Tryz.func56, Tryz.ntmps56
        go_wp2_with (fail)
        (go_at_call 63; refine (HT.out _).mono ?_; rintro e w2 ⟨rfl, hb2⟩; have HO2 := hide (HO.out.on hb2); replace q0 := cell_on hb2 q0; replace q1 := cell_on hb2 q1; replace q2 := cell_on hb2 q2; clear hb2)
        go_wp2_with (fail)
        (go_at_call 61; refine (messageKey_any name x _ (by omega) (by omega)).mono ?_; rintro e w3 ⟨rfl, hb3⟩; have HO3 := hide (HO2.out.on hb3); replace q0 := cell_on hb3 q0; replace q1 := cell_on hb3 q1; replace q2 := cell_on hb3 q2; clear hb3)
        go_wp2_with (fail)
        (go_at_call 29; refine (HP.out _ _ HO3.out.qr).mono ?_; rintro e w4 ⟨rfl, ha⟩; obtain ⟨G4, ho4, kp⟩ := HO3.out.act ha; have HO4 := hide ho4; have fz := (ho4.ow w.heap.size (.inl rfl)).2.2.2; replace q0 := (World.cell?_of_block (kp w.heap.size (.inl rfl))).trans q0; replace q1 := (World.cell?_of_block (kp w.heap.size (.inl rfl))).trans q1; replace q2 := (World.cell?_of_block (kp w.heap.size (.inl rfl))).trans q2; clear ha ho4 kp)
        go_wp2_with (fail)
        (go_at_call 54; refine (HPQ.out _ _ _ (HO4.out.set HLO.out (b := w.heap.size) (.inl rfl) 0 (.int .i64 (x + 1))).qr).mono ?_; rintro e w5 ⟨rfl, ha⟩; have HA := hide (ActP.after (HO4.out.set HLO.out (b := w.heap.size) (.inl rfl) 0 (.int .i64 (x + 1))).st ha); clear ha)
        go_wp2_with (fail)
        go_ret2
        exact ⟨rfl, HA.out⟩
      · rw [if_neg h1]
        have d0 : decide (0 < (alterF chs ⟨msgB name ((max x 0).toNat % 1000000), tx, false⟩ : Int)) = true := decide_eq_true (by omega)
        have d1 : 0 < (alterF chs ⟨msgB name ((max x 0).toNat % 1000000), tx, false⟩ : Int) := by omega
        replace HP := hide (HP.out tx)
        clear h1
        generalize alterF chs ⟨msgB name ((max x 0).toNat % 1000000), tx, false⟩ = f1 at *
        generalize alterL chs ⟨msgB name ((max x 0).toNat % 1000000), tx, false⟩ = chs1 at *
        go_enter Tryz.func56, Tryz.ntmps56
        go_wp2_with (fail)
        (go_at_call 63; refine (HT.out _).mono ?_; rintro e w2 ⟨rfl, hb2⟩; have HO2 := hide (HO.out.on hb2); replace q0 := cell_on hb2 q0; replace q1 := cell_on hb2 q1; replace q2 := cell_on hb2 q2; clear hb2)
        go_wp2_with (fail)
        (go_at_call 61; refine (messageKey_any name x _ (by omega) (by omega)).mono ?_; rintro e w3 ⟨rfl, hb3⟩; have HO3 := hide (HO2.out.on hb3); replace q0 := cell_on hb3 q0; replace q1 := cell_on hb3 q1; replace q2 := cell_on hb3 q2; clear hb3)
        go_wp2_with (fail)
        (go_at_call 29; refine (HP.out _ _ HO3.out.qr).mono ?_; rintro e w4 ⟨rfl, ha⟩; obtain ⟨G4, ho4, kp⟩ := HO3.out.act ha; have HO4 := hide ho4; have fz := (ho4.ow w.heap.size (.inl rfl)).2.2.2; replace q0 := (World.cell?_of_block (kp w.heap.size (.inl rfl))).trans q0; replace q1 := (World.cell?_of_block (kp w.heap.size (.inl rfl))).trans q1; replace q2 := (World.cell?_of_block (kp w.heap.size (.inl rfl))).trans q2; clear ha ho4 kp)
        go_wp2_with (fail)
        go_ret2
        exact ⟨rfl, HO4.out.done⟩
    · rw [if_neg h0, if_neg h0, if_neg h0]
      have d0 : decide (0 < (et : Int)) = true := decide_eq_true (by omega)
      have d1 : 0 < (et : Int) := by omega
      clear h0
      go_enter Tryz.func56, Tryz.ntmps56
      go_wp2_with (fail)
      (go_at_call 63; refine (HT.out _).mono ?_; rintro e w2 ⟨rfl, hb2⟩; have HO2 := hide (HO.out.on hb2); replace q0 := cell_on hb2 q0; replace q1 := cell_on hb2 q1; replace q2 := cell_on hb2 q2; clear hb2)
      go_wp2_with (fail)
      go_ret2
      exact ⟨rfl, HO2.out.done⟩
set_option maxRecDepth 8000 in
set_option maxHeartbeats 4000000 in
theorem badTime_any (n : Int) (w : World) : Calls Tryz.prog 55 #[.int .i64 n] w fun e w' => e = .returned (.bool (!timeMay n)) ∧ w' = w := by
  unfold timeMay
  by_cases h0 : n < 0
  · have d0 : decide (n < 0) = true := decide_eq_true h0
    have e0 : decide (0 ≤ n) = false := decide_eq_false (by omega)
    rw [e0]
    go_enter Tryz.func55, Tryz.ntmps55
    go_wp2
    go_ret
    exact ⟨rfl, rfl⟩
  · have d0 : decide (n < 0) = false := decide_eq_false h0
    have e0 : decide (0 ≤ n) = true := decide_eq_true (by omega)
    rw [e0]
    by_cases h1 : n ≤ 1000000
    · have d1 : decide (1000000 < n) = false := decide_eq_false (by omega)
      rw [decide_eq_true h1]
      go_enter Tryz.func55, Tryz.ntmps55
      go_wp2
      go_ret
      exact ⟨rfl, rfl⟩
    · have d1 : decide (1000000 < n) = true := decide_eq_true (by omega)
      rw [decide_eq_false h1]
      go_enter Tryz.func55, Tryz.ntmps55
      go_wp2
      go_ret
      exact ⟨rfl, rfl⟩
end Go.Proofs.YtighpalbodhfeaaGreatDoor

/-
  What haywainref.mine, AckMessage and WaitMessage return, of every view of the document's.
-/
namespace Go.Proofs.YtighpalbodhfeaaGreatDoor
open Go.RowKit Go.Joins Go.Shelf
attribute [local go_sem ↓] Go.wp_at_zero Go.wp_at_succ

/-- what mine returns: the message alone where there is no error -/
def MineP (w w' : World) (e : Ending) (B rb : Nat) (G : Nat → Prop) (P : Rws) (since : Int) (chs : List Chg) (r : Msg × Rws) : Prop := ∃ m : Msg, e = .returned (.tuple #[mV m, .int .i64 (r.1.2.2.2.2 : Nat)]) ∧ (r.1.2.2.2.2 = 0 → m = r.1) ∧ ActP w w' B rb G P since chs r.2
set_option maxRecDepth 8000 in
set_option maxHeartbeats 4000000 in
theorem rmine_any (name : ByteArray) (n tries : Int) {B rb : Nat} {G : Nat → Prop} {P : Rws} {since : Int} {chs : List Chg} {rds : Rws} (w : World) (h : QR w B rb G P since chs rds) (hn : name.size ≤ 900) :
    Calls Tryz.prog 60 #[.pointer (some ⟨rb, 0, none⟩), .string name, .int .i64 n, .int .i64 tries] w fun e w' => MineP w w' e B rb G P since chs (heldQ P chs rds name n tries) := by
  have HO := hide ((OwnR.start h).box #[Value.int .i64 0, Value.int .i64 0, Value.int .i64 0, Value.string ⟨#[]⟩] 48)
  have HLO := hide h.lo
  have HF := hide (fun W (hW : QR W B rb G P since chs rds) => rfind_any name W hW hn)
  have hms : (msgB name (numOf n)).size ≤ 1000 := by rw [msg_size]; omega
  have HGS := hide (getP_size h.ok (findL chs rds name) (msgB name (numOf n)))
  have HGT := hide (fun (G1 : Nat → Prop) W (hW : QR W B rb G1 P since chs (findL chs rds name)) => qr_get (msgB name (numOf n)) W hW hms)
  have r0 : (w.alloc (Obj.cells #[Value.int .i64 0, Value.int .i64 0, Value.int .i64 0, Value.string ⟨#[]⟩] 48)).cell? ⟨w.heap.size, 0, none⟩ = some (Value.int .i64 0) := by simp
  have r1 : (w.alloc (Obj.cells #[Value.int .i64 0, Value.int .i64 0, Value.int .i64 0, Value.string ⟨#[]⟩] 48)).cell? ⟨w.heap.size, 1, none⟩ = some (Value.int .i64 0) := by simp
  have r2 : (w.alloc (Obj.cells #[Value.int .i64 0, Value.int .i64 0, Value.int .i64 0, Value.string ⟨#[]⟩] 48)).cell? ⟨w.heap.size, 2, none⟩ = some (Value.int .i64 0) := by simp
  have r3 : (w.alloc (Obj.cells #[Value.int .i64 0, Value.int .i64 0, Value.int .i64 0, Value.string ⟨#[]⟩] 48)).cell? ⟨w.heap.size, 3, none⟩ = some (Value.string ⟨#[]⟩) := by simp
  clear h
  unfold heldQ
  generalize findQ P chs rds name = q at *
  rw [show numOf n = (max n 0).toNat % 1000000 from rfl] at *
  generalize getP chs (findL chs rds name) P (msgB name ((max n 0).toNat % 1000000)) = t at *
  generalize getL chs (findL chs rds name) (msgB name ((max n 0).toNat % 1000000)) = rds2 at *
  generalize findL chs rds name = rds1 at *
  obtain ⟨qx, qy, qd, er⟩ := q
  obtain ⟨tx, is, eg⟩ := t
  dsimp only at HF HGS HGT ⊢
  by_cases h1 : er = 0
  · subst h1
    rw [if_pos rfl]
    by_cases hb : n < 0 ∨ 999999 < n ∨ tries < 1
    · rw [if_pos hb]
      by_cases hb1 : n < 0
      · have d1 : decide (n < 0) = true := decide_eq_true hb1
        go_enter Tryz.func60, Tryz.ntmps60
        go_wp2_with (fail)
        (go_at_call 27; refine (HF.out _ HO.out.qr).mono ?_; rintro e w1 ⟨rfl, ha⟩; obtain ⟨G1, ho1, kp⟩ := HO.out.act ha; have hbA := below_alloc1 w1 (Obj.cells #[Value.int .i64 qx, Value.int .i64 qy, Value.string qd] 76); have HO1 := hide (ho1.on hbA); replace r0 := cell_on hbA ((World.cell?_of_block (kp w.heap.size (.inl rfl))).trans r0); replace r1 := cell_on hbA ((World.cell?_of_block (kp w.heap.size (.inl rfl))).trans r1); replace r2 := cell_on hbA ((World.cell?_of_block (kp w.heap.size (.inl rfl))).trans r2); replace r3 := cell_on hbA ((World.cell?_of_block (kp w.heap.size (.inl rfl))).trans r3); have fz := (HO1.out.ow w.heap.size (.inl rfl)).2.2.2; clear ha ho1 kp hbA)
        go_wp2_with (fail)
        exact bodyPost_ret (v := .tuple #[mV (noM 1), .int .i64 1]) (by simp [results, Tryz.results60, go_sem, r0, r1, r2, r3]) rfl ⟨(noM 1), rfl, (fun e => by cases e), ((((HO1.out.set HLO.out (b := w.heap.size) (.inl rfl) 0 _).set HLO.out (b := w.heap.size) (.inl rfl) 1 _).set HLO.out (b := w.heap.size) (.inl rfl) 2 _).set HLO.out (b := w.heap.size) (.inl rfl) 3 _).done⟩
      · have d1 : decide (n < 0) = false := decide_eq_false hb1
        by_cases hb2 : 999999 < n
        · have d2 : decide (999999 < n) = true := decide_eq_true hb2
          go_enter Tryz.func60, Tryz.ntmps60
          go_wp2_with (fail)
          (go_at_call 27; refine (HF.out _ HO.out.qr).mono ?_; rintro e w1 ⟨rfl, ha⟩; obtain ⟨G1, ho1, kp⟩ := HO.out.act ha; have hbA := below_alloc1 w1 (Obj.cells #[Value.int .i64 qx, Value.int .i64 qy, Value.string qd] 76); have HO1 := hide (ho1.on hbA); replace r0 := cell_on hbA ((World.cell?_of_block (kp w.heap.size (.inl rfl))).trans r0); replace r1 := cell_on hbA ((World.cell?_of_block (kp w.heap.size (.inl rfl))).trans r1); replace r2 := cell_on hbA ((World.cell?_of_block (kp w.heap.size (.inl rfl))).trans r2); replace r3 := cell_on hbA ((World.cell?_of_block (kp w.heap.size (.inl rfl))).trans r3); have fz := (HO1.out.ow w.heap.size (.inl rfl)).2.2.2; clear ha ho1 kp hbA)
          go_wp2_with (fail)
          exact bodyPost_ret (v := .tuple #[mV (noM 1), .int .i64 1]) (by simp [results, Tryz.results60, go_sem, r0, r1, r2, r3]) rfl ⟨(noM 1), rfl, (fun e => by cases e), ((((HO1.out.set HLO.out (b := w.heap.size) (.inl rfl) 0 _).set HLO.out (b := w.heap.size) (.inl rfl) 1 _).set HLO.out (b := w.heap.size) (.inl rfl) 2 _).set HLO.out (b := w.heap.size) (.inl rfl) 3 _).done⟩
        · have d2 : decide (999999 < n) = false := decide_eq_false hb2
          have hb3 : tries < 1 := by omega
          have d3 : decide (tries < 1) = true := decide_eq_true hb3
          go_enter Tryz.func60, Tryz.ntmps60
          go_wp2_with (fail)
          (go_at_call 27; refine (HF.out _ HO.out.qr).mono ?_; rintro e w1 ⟨rfl, ha⟩; obtain ⟨G1, ho1, kp⟩ := HO.out.act ha; have hbA := below_alloc1 w1 (Obj.cells #[Value.int .i64 qx, Value.int .i64 qy, Value.string qd] 76); have HO1 := hide (ho1.on hbA); replace r0 := cell_on hbA ((World.cell?_of_block (kp w.heap.size (.inl rfl))).trans r0); replace r1 := cell_on hbA ((World.cell?_of_block (kp w.heap.size (.inl rfl))).trans r1); replace r2 := cell_on hbA ((World.cell?_of_block (kp w.heap.size (.inl rfl))).trans r2); replace r3 := cell_on hbA ((World.cell?_of_block (kp w.heap.size (.inl rfl))).trans r3); have fz := (HO1.out.ow w.heap.size (.inl rfl)).2.2.2; clear ha ho1 kp hbA)
          go_wp2_with (fail)
          exact bodyPost_ret (v := .tuple #[mV (noM 1), .int .i64 1]) (by simp [results, Tryz.results60, go_sem, r0, r1, r2, r3]) rfl ⟨(noM 1), rfl, (fun e => by cases e), ((((HO1.out.set HLO.out (b := w.heap.size) (.inl rfl) 0 _).set HLO.out (b := w.heap.size) (.inl rfl) 1 _).set HLO.out (b := w.heap.size) (.inl rfl) 2 _).set HLO.out (b := w.heap.size) (.inl rfl) 3 _).done⟩
    · rw [if_neg hb]
      have hb1 : ¬ n < 0 := by omega
      have hb2 : ¬ 999999 < n := by omega
      have hb3 : ¬ tries < 1 := by omega
      have d1 : decide (n < 0) = false := decide_eq_false hb1
      have d2 : decide (999999 < n) = false := decide_eq_false hb2
      have d3 : decide (tries < 1) = false := decide_eq_false hb3
      clear hb
      unfold heldT
      dsimp only
      by_cases h2 : eg = 0
      · subst h2
        rw [if_pos rfl]
        cases is with
        | false =>
          rw [if_neg (by simp)]
          go_enter Tryz.func60, Tryz.ntmps60
          go_wp2_with (fail)
          (go_at_call 27; refine (HF.out _ HO.out.qr).mono ?_; rintro e w1 ⟨rfl, ha⟩; obtain ⟨G1, ho1, kp⟩ := HO.out.act ha; have hbA := below_alloc1 w1 (Obj.cells #[Value.int .i64 qx, Value.int .i64 qy, Value.string qd] 76); have HO1 := hide (ho1.on hbA); replace r0 := cell_on hbA ((World.cell?_of_block (kp w.heap.size (.inl rfl))).trans r0); replace r1 := cell_on hbA ((World.cell?_of_block (kp w.heap.size (.inl rfl))).trans r1); replace r2 := cell_on hbA ((World.cell?_of_block (kp w.heap.size (.inl rfl))).trans r2); replace r3 := cell_on hbA ((World.cell?_of_block (kp w.heap.size (.inl rfl))).trans r3); have fz := (HO1.out.ow w.heap.size (.inl rfl)).2.2.2; clear ha ho1 kp hbA)
          go_wp2_with (fail)
          (go_at_call 61; refine (messageKey_any name n _ (by omega) (by omega)).mono ?_; rintro e w2 ⟨rfl, hb2⟩; have HO2 := hide (HO1.out.on hb2); replace r0 := cell_on hb2 r0; replace r1 := cell_on hb2 r1; replace r2 := cell_on hb2 r2; replace r3 := cell_on hb2 r3; clear hb2 fz)
          go_wp2_with (fail)
          (go_at_call 32; refine (HGT.out _ _ HO2.out.qr).mono ?_; rintro e w3 ⟨rfl, ha⟩; obtain ⟨G3, ho3, kp⟩ := HO2.out.act ha; have HO3 := hide ho3; replace r0 := (World.cell?_of_block (kp w.heap.size (.inl rfl))).trans r0; replace r1 := (World.cell?_of_block (kp w.heap.size (.inl rfl))).trans r1; replace r2 := (World.cell?_of_block (kp w.heap.size (.inl rfl))).trans r2; replace r3 := (World.cell?_of_block (kp w.heap.size (.inl rfl))).trans r3; have fz := (HO3.out.ow w.heap.size (.inl rfl)).2.2.2; clear ha ho3 kp)
          go_wp2_with (fail)
          exact bodyPost_ret (v := .tuple #[mV (noM 11), .int .i64 11]) (by simp [results, Tryz.results60, go_sem, r0, r1, r2, r3]) rfl ⟨(noM 11), rfl, (fun e => by cases e), ((((HO3.out.set HLO.out (b := w.heap.size) (.inl rfl) 0 _).set HLO.out (b := w.heap.size) (.inl rfl) 1 _).set HLO.out (b := w.heap.size) (.inl rfl) 2 _).set HLO.out (b := w.heap.size) (.inl rfl) 3 _).done⟩
        | true =>
          rw [if_pos rfl]
          have HMO := hide (fun W => mOf_ref tx n (by have := HGS.out; omega) W)
          generalize mOf tx n = m at *
          obtain ⟨mk, mt, mu, md, em⟩ := m
          dsimp only at HMO ⊢
          by_cases h3 : em = 0
          · subst h3
            rw [if_pos rfl]
            by_cases h4 : mt = tries
            · rw [if_pos h4]
              subst h4
              go_enter Tryz.func60, Tryz.ntmps60
              go_wp2_with (fail)
              (go_at_call 27; refine (HF.out _ HO.out.qr).mono ?_; rintro e w1 ⟨rfl, ha⟩; obtain ⟨G1, ho1, kp⟩ := HO.out.act ha; have hbA := below_alloc1 w1 (Obj.cells #[Value.int .i64 qx, Value.int .i64 qy, Value.string qd] 76); have HO1 := hide (ho1.on hbA); replace r0 := cell_on hbA ((World.cell?_of_block (kp w.heap.size (.inl rfl))).trans r0); replace r1 := cell_on hbA ((World.cell?_of_block (kp w.heap.size (.inl rfl))).trans r1); replace r2 := cell_on hbA ((World.cell?_of_block (kp w.heap.size (.inl rfl))).trans r2); replace r3 := cell_on hbA ((World.cell?_of_block (kp w.heap.size (.inl rfl))).trans r3); have fz := (HO1.out.ow w.heap.size (.inl rfl)).2.2.2; clear ha ho1 kp hbA)
              go_wp2_with (fail)
              (go_at_call 61; refine (messageKey_any name n _ (by omega) (by omega)).mono ?_; rintro e w2 ⟨rfl, hb2⟩; have HO2 := hide (HO1.out.on hb2); replace r0 := cell_on hb2 r0; replace r1 := cell_on hb2 r1; replace r2 := cell_on hb2 r2; replace r3 := cell_on hb2 r3; clear hb2 fz)
              go_wp2_with (fail)
              (go_at_call 32; refine (HGT.out _ _ HO2.out.qr).mono ?_; rintro e w3 ⟨rfl, ha⟩; obtain ⟨G3, ho3, kp⟩ := HO2.out.act ha; have HO3 := hide ho3; replace r0 := (World.cell?_of_block (kp w.heap.size (.inl rfl))).trans r0; replace r1 := (World.cell?_of_block (kp w.heap.size (.inl rfl))).trans r1; replace r2 := (World.cell?_of_block (kp w.heap.size (.inl rfl))).trans r2; replace r3 := (World.cell?_of_block (kp w.heap.size (.inl rfl))).trans r3; have fz := (HO3.out.ow w.heap.size (.inl rfl)).2.2.2; clear ha ho3 kp)
              go_wp2_with (fail)
              (go_at_call 88; refine (HMO.out _).mono ?_; rintro e w4 ⟨rfl, hb4⟩; have hbM := below_alloc1 w4 (Obj.cells #[Value.int .i64 mk, Value.int .i64 mt, Value.int .i64 mu, Value.string md] 48); have HO4 := hide ((HO3.out.on hb4).on hbM); replace r0 := cell_on hbM (cell_on hb4 r0); replace r1 := cell_on hbM (cell_on hb4 r1); replace r2 := cell_on hbM (cell_on hb4 r2); replace r3 := cell_on hbM (cell_on hb4 r3); clear fz; have fz := (HO4.out.ow w.heap.size (.inl rfl)).2.2.2; clear hb4 hbM)
              go_wp2_with (fail)
              exact bodyPost_ret (v := .tuple #[mV (mk, mt, mu, md, 0), .int .i64 0]) (by simp [results, Tryz.results60, go_sem, r0, r1, r2, r3]) rfl ⟨(mk, mt, mu, md, 0), rfl, fun _ => rfl, ((((HO4.out.set HLO.out (b := w.heap.size) (.inl rfl) 0 _).set HLO.out (b := w.heap.size) (.inl rfl) 1 _).set HLO.out (b := w.heap.size) (.inl rfl) 2 _).set HLO.out (b := w.heap.size) (.inl rfl) 3 _).done⟩
            · rw [if_neg h4]
              have b1 : (mt == tries) = false := beq_eq_false_iff_ne.2 h4
              have b2 : (mt != tries) = true := bne_iff_ne.2 h4
              go_enter Tryz.func60, Tryz.ntmps60
              go_wp2_with (fail)
              (go_at_call 27; refine (HF.out _ HO.out.qr).mono ?_; rintro e w1 ⟨rfl, ha⟩; obtain ⟨G1, ho1, kp⟩ := HO.out.act ha; have hbA := below_alloc1 w1 (Obj.cells #[Value.int .i64 qx, Value.int .i64 qy, Value.string qd] 76); have HO1 := hide (ho1.on hbA); replace r0 := cell_on hbA ((World.cell?_of_block (kp w.heap.size (.inl rfl))).trans r0); replace r1 := cell_on hbA ((World.cell?_of_block (kp w.heap.size (.inl rfl))).trans r1); replace r2 := cell_on hbA ((World.cell?_of_block (kp w.heap.size (.inl rfl))).trans r2); replace r3 := cell_on hbA ((World.cell?_of_block (kp w.heap.size (.inl rfl))).trans r3); have fz := (HO1.out.ow w.heap.size (.inl rfl)).2.2.2; clear ha ho1 kp hbA)
              go_wp2_with (fail)
              (go_at_call 61; refine (messageKey_any name n _ (by omega) (by omega)).mono ?_; rintro e w2 ⟨rfl, hb2⟩; have HO2 := hide (HO1.out.on hb2); replace r0 := cell_on hb2 r0; replace r1 := cell_on hb2 r1; replace r2 := cell_on hb2 r2; replace r3 := cell_on hb2 r3; clear hb2 fz)
              go_wp2_with (fail)
              (go_at_call 32; refine (HGT.out _ _ HO2.out.qr).mono ?_; rintro e w3 ⟨rfl, ha⟩; obtain ⟨G3, ho3, kp⟩ := HO2.out.act ha; have HO3 := hide ho3; replace r0 := (World.cell?_of_block (kp w.heap.size (.inl rfl))).trans r0; replace r1 := (World.cell?_of_block (kp w.heap.size (.inl rfl))).trans r1; replace r2 := (World.cell?_of_block (kp w.heap.size (.inl rfl))).trans r2; replace r3 := (World.cell?_of_block (kp w.heap.size (.inl rfl))).trans r3; have fz := (HO3.out.ow w.heap.size (.inl rfl)).2.2.2; clear ha ho3 kp)
              go_wp2_with (fail)
              (go_at_call 88; refine (HMO.out _).mono ?_; rintro e w4 ⟨rfl, hb4⟩; have hbM := below_alloc1 w4 (Obj.cells #[Value.int .i64 mk, Value.int .i64 mt, Value.int .i64 mu, Value.string md] 48); have HO4 := hide ((HO3.out.on hb4).on hbM); replace r0 := cell_on hbM (cell_on hb4 r0); replace r1 := cell_on hbM (cell_on hb4 r1); replace r2 := cell_on hbM (cell_on hb4 r2); replace r3 := cell_on hbM (cell_on hb4 r3); clear fz; have fz := (HO4.out.ow w.heap.size (.inl rfl)).2.2.2; clear hb4 hbM)
              go_wp2_with (fail)
              exact bodyPost_ret (v := .tuple #[mV (mk, mt, mu, md, 0), .int .i64 11]) (by simp [results, Tryz.results60, go_sem, r0, r1, r2, r3]) rfl ⟨(mk, mt, mu, md, 0), rfl, (fun e => by cases e), ((((HO4.out.set HLO.out (b := w.heap.size) (.inl rfl) 0 _).set HLO.out (b := w.heap.size) (.inl rfl) 1 _).set HLO.out (b := w.heap.size) (.inl rfl) 2 _).set HLO.out (b := w.heap.size) (.inl rfl) 3 _).done⟩
          · rw [if_neg h3]
            have b1 : ((em : Int) == 0) = false := beq_eq_false_iff_ne.2 (by omega)
            have c1 : ¬ (em : Int) = 0 := by omega
            have c2 : ¬ em = 0 := h3
            go_enter Tryz.func60, Tryz.ntmps60
            go_wp2_with (fail)
            (go_at_call 27; refine (HF.out _ HO.out.qr).mono ?_; rintro e w1 ⟨rfl, ha⟩; obtain ⟨G1, ho1, kp⟩ := HO.out.act ha; have hbA := below_alloc1 w1 (Obj.cells #[Value.int .i64 qx, Value.int .i64 qy, Value.string qd] 76); have HO1 := hide (ho1.on hbA); replace r0 := cell_on hbA ((World.cell?_of_block (kp w.heap.size (.inl rfl))).trans r0); replace r1 := cell_on hbA ((World.cell?_of_block (kp w.heap.size (.inl rfl))).trans r1); replace r2 := cell_on hbA ((World.cell?_of_block (kp w.heap.size (.inl rfl))).trans r2); replace r3 := cell_on hbA ((World.cell?_of_block (kp w.heap.size (.inl rfl))).trans r3); have fz := (HO1.out.ow w.heap.size (.inl rfl)).2.2.2; clear ha ho1 kp hbA)
            go_wp2_with (fail)
            (go_at_call 61; refine (messageKey_any name n _ (by omega) (by omega)).mono ?_; rintro e w2 ⟨rfl, hb2⟩; have HO2 := hide (HO1.out.on hb2); replace r0 := cell_on hb2 r0; replace r1 := cell_on hb2 r1; replace r2 := cell_on hb2 r2; replace r3 := cell_on hb2 r3; clear hb2 fz)
            go_wp2_with (fail)
            (go_at_call 32; refine (HGT.out _ _ HO2.out.qr).mono ?_; rintro e w3 ⟨rfl, ha⟩; obtain ⟨G3, ho3, kp⟩ := HO2.out.act ha; have HO3 := hide ho3; replace r0 := (World.cell?_of_block (kp w.heap.size (.inl rfl))).trans r0; replace r1 := (World.cell?_of_block (kp w.heap.size (.inl rfl))).trans r1; replace r2 := (World.cell?_of_block (kp w.heap.size (.inl rfl))).trans r2; replace r3 := (World.cell?_of_block (kp w.heap.size (.inl rfl))).trans r3; have fz := (HO3.out.ow w.heap.size (.inl rfl)).2.2.2; clear ha ho3 kp)
            go_wp2_with (fail)
            (go_at_call 88; refine (HMO.out _).mono ?_; rintro e w4 ⟨rfl, hb4⟩; have hbM := below_alloc1 w4 (Obj.cells #[Value.int .i64 mk, Value.int .i64 mt, Value.int .i64 mu, Value.string md] 48); have HO4 := hide ((HO3.out.on hb4).on hbM); replace r0 := cell_on hbM (cell_on hb4 r0); replace r1 := cell_on hbM (cell_on hb4 r1); replace r2 := cell_on hbM (cell_on hb4 r2); replace r3 := cell_on hbM (cell_on hb4 r3); clear fz; have fz := (HO4.out.ow w.heap.size (.inl rfl)).2.2.2; clear hb4 hbM)
            go_wp2_with (fail)
            exact bodyPost_ret (v := .tuple #[mV (mk, mt, mu, md, em), .int .i64 (em : Nat)]) (by simp [results, Tryz.results60, go_sem, r0, r1, r2, r3]) rfl ⟨(mk, mt, mu, md, em), rfl, fun e => absurd e h3, ((((HO4.out.set HLO.out (b := w.heap.size) (.inl rfl) 0 _).set HLO.out (b := w.heap.size) (.inl rfl) 1 _).set HLO.out (b := w.heap.size) (.inl rfl) 2 _).set HLO.out (b := w.heap.size) (.inl rfl) 3 _).done⟩
      · rw [if_neg h2]
        have d4 : decide (0 < (eg : Int)) = true := decide_eq_true (by omega)
        have d5 : 0 < (eg : Int) := by omega
        go_enter Tryz.func60, Tryz.ntmps60
        go_wp2_with (fail)
        (go_at_call 27; refine (HF.out _ HO.out.qr).mono ?_; rintro e w1 ⟨rfl, ha⟩; obtain ⟨G1, ho1, kp⟩ := HO.out.act ha; have hbA := below_alloc1 w1 (Obj.cells #[Value.int .i64 qx, Value.int .i64 qy, Value.string qd] 76); have HO1 := hide (ho1.on hbA); replace r0 := cell_on hbA ((World.cell?_of_block (kp w.heap.size (.inl rfl))).trans r0); replace r1 := cell_on hbA ((World.cell?_of_block (kp w.heap.size (.inl rfl))).trans r1); replace r2 := cell_on hbA ((World.cell?_of_block (kp w.heap.size (.inl rfl))).trans r2); replace r3 := cell_on hbA ((World.cell?_of_block (kp w.heap.size (.inl rfl))).trans r3); have fz := (HO1.out.ow w.heap.size (.inl rfl)).2.2.2; clear ha ho1 kp hbA)
        go_wp2_with (fail)
        (go_at_call 61; refine (messageKey_any name n _ (by omega) (by omega)).mono ?_; rintro e w2 ⟨rfl, hb2⟩; have HO2 := hide (HO1.out.on hb2); replace r0 := cell_on hb2 r0; replace r1 := cell_on hb2 r1; replace r2 := cell_on hb2 r2; replace r3 := cell_on hb2 r3; clear hb2 fz)
        go_wp2_with (fail)
        (go_at_call 32; refine (HGT.out _ _ HO2.out.qr).mono ?_; rintro e w3 ⟨rfl, ha⟩; obtain ⟨G3, ho3, kp⟩ := HO2.out.act ha; have HO3 := hide ho3; replace r0 := (World.cell?_of_block (kp w.heap.size (.inl rfl))).trans r0; replace r1 := (World.cell?_of_block (kp w.heap.size (.inl rfl))).trans r1; replace r2 := (World.cell?_of_block (kp w.heap.size (.inl rfl))).trans r2; replace r3 := (World.cell?_of_block (kp w.heap.size (.inl rfl))).trans r3; have fz := (HO3.out.ow w.heap.size (.inl rfl)).2.2.2; clear ha ho3 kp)
        go_wp2_with (fail)
        exact bodyPost_ret (v := .tuple #[mV (noM eg), .int .i64 (eg : Nat)]) (by simp [results, Tryz.results60, go_sem, r0, r1, r2, r3]) rfl ⟨(noM eg), rfl, fun e => absurd e h2, ((((HO3.out.set HLO.out (b := w.heap.size) (.inl rfl) 0 _).set HLO.out (b := w.heap.size) (.inl rfl) 1 _).set HLO.out (b := w.heap.size) (.inl rfl) 2 _).set HLO.out (b := w.heap.size) (.inl rfl) 3 _).done⟩
  · rw [if_neg h1]
    have d1 : decide (0 < (er : Int)) = true := decide_eq_true (by omega)
    have d2 : 0 < (er : Int) := by omega
    go_enter Tryz.func60, Tryz.ntmps60
    go_wp2_with (fail)
    (go_at_call 27; refine (HF.out _ HO.out.qr).mono ?_; rintro e w1 ⟨rfl, ha⟩; obtain ⟨G1, ho1, kp⟩ := HO.out.act ha; have hbA := below_alloc1 w1 (Obj.cells #[Value.int .i64 qx, Value.int .i64 qy, Value.string qd] 76); have HO1 := hide (ho1.on hbA); replace r0 := cell_on hbA ((World.cell?_of_block (kp w.heap.size (.inl rfl))).trans r0); replace r1 := cell_on hbA ((World.cell?_of_block (kp w.heap.size (.inl rfl))).trans r1); replace r2 := cell_on hbA ((World.cell?_of_block (kp w.heap.size (.inl rfl))).trans r2); replace r3 := cell_on hbA ((World.cell?_of_block (kp w.heap.size (.inl rfl))).trans r3); have fz := (HO1.out.ow w.heap.size (.inl rfl)).2.2.2; clear ha ho1 kp hbA)
    go_wp2_with (fail)
    exact bodyPost_ret (v := .tuple #[mV (noM er), .int .i64 (er : Nat)]) (by simp [results, Tryz.results60, go_sem, r0, r1, r2, r3]) rfl ⟨(noM er), rfl, fun e => absurd e h1, ((((HO1.out.set HLO.out (b := w.heap.size) (.inl rfl) 0 _).set HLO.out (b := w.heap.size) (.inl rfl) 1 _).set HLO.out (b := w.heap.size) (.inl rfl) 2 _).set HLO.out (b := w.heap.size) (.inl rfl) 3 _).done⟩
end Go.Proofs.YtighpalbodhfeaaGreatDoor

/-
  What haywainref.numberOf returns of a message's key, and what AckMessage and WaitMessage return.
-/
namespace Go.Proofs.YtighpalbodhfeaaGreatDoor
open Go.RowKit Go.Joins Go.Shelf
attribute [local go_sem ↓] Go.wp_at_zero Go.wp_at_succ

theorem six_at (n j : Nat) (hj : j < (six n).length) : ((six n)[j]'hj).toNat = 48 + n / 10 ^ (5 - j) % 10 := by
  match j, (show j < 6 from hj) with
  | 0, _ => exact dgt_toNat n 5
  | 1, _ => exact dgt_toNat n 4
  | 2, _ => exact dgt_toNat n 3
  | 3, _ => exact dgt_toNat n 2
  | 4, _ => exact dgt_toNat n 1
  | 5, _ => exact dgt_toNat n 0
theorem msg_byte (q : ByteArray) (n k : Nat) (h1 : q.size + 3 ≤ k) (h2 : k < (msgB q n).size) : ((msgB q n)[k]'h2).toNat = 48 + n / 10 ^ (q.size + 8 - k) % 10 := by
  have hz := msg_size q n
  have ql : q.data.toList.length = q.size := by rw [Array.length_toList]; rfl
  have hl := msgB_l q n
  have e1 : (msgB q n).data.toList[k]? = some ((msgB q n)[k]'h2) := by
    rw [List.getElem?_eq_getElem (by rw [Array.length_toList]; exact h2)]; rfl
  obtain ⟨j, rfl⟩ : ∃ j, k = q.data.toList.length + j + 3 := ⟨k - q.size - 3, by omega⟩
  have hj : j < 6 := by omega
  have e2 : (109 :: 47 :: (q.data.toList ++ 47 :: six n))[q.data.toList.length + j + 3]? = (six n)[j]? := by
    rw [List.getElem?_cons_succ, List.getElem?_cons_succ, show q.data.toList.length + j + 1 = q.data.toList.length + (j + 1) by omega, List.getElem?_append_right (by omega)]
    simp
  rw [hl, e2, List.getElem?_eq_getElem (show j < (six n).length from hj)] at e1
  refine (congrArg UInt8.toNat (Option.some.inj e1).symm).trans ((six_at n j hj).trans ?_)
  rw [show q.size + 8 - (q.data.toList.length + j + 3) = 5 - j by omega]
set_option maxRecDepth 8000 in
set_option maxHeartbeats 4000000 in
theorem rnumberOf_any (q : ByteArray) (n : Nat) (w : World) (hq : q.size ≤ 1000) (hn : n ≤ 999999) : Calls Tryz.prog 89 #[.string (msgB q n)] w fun e w' => e = .returned (.int .i64 n) ∧ w' = w := by
  have hz := msg_size q n
  have HB := hide (fun k h1 h2 => msg_byte q n k h1 h2)
  generalize msgB q n = K at *
  have hw0 : IntKind.i64.wrap ((K.size : Int) - 6) = ((q.size + 3 : Nat) : Int) := by rw [IntKind.wrap_i64]; omega
  have HZ := hide hz
  clear hz
  go_enter Tryz.func89, Tryz.ntmps89
  go_wp2
  go_loop [3, 4] (fun v i => ∃ k : Nat, q.size + 3 ≤ k ∧ k ≤ K.size ∧ i = .int .i64 (k : Int) ∧ v = .int .i64 ((n / 10 ^ (K.size - k) : Nat) : Int)) (fun _ i => K.size - (intOf i).toNat)
  case atStart => exact ⟨q.size + 3, Nat.le_refl _, by have := HZ.out; omega, rfl, by rw [show K.size - (q.size + 3) = 6 by have := HZ.out; omega, Nat.div_eq_of_lt (by omega)]; rfl⟩
  case round =>
    obtain ⟨k, hk1, hk2, rfl, rfl⟩ := hrel
    by_cases hlt : k < K.size
    · have hlt' : (k : Int) < (K.size : Int) := by omega
      have hb := HB.out k hk1 hlt
      have hd10 : n / 10 ^ (q.size + 8 - k) % 10 < 10 := Nat.mod_lt _ (by omega)
      have HS : Hid (n / 10 ^ (K.size - (k + 1)) = 10 * (n / 10 ^ (K.size - k)) + n / 10 ^ (q.size + 8 - k) % 10) := hide (by
        rw [show K.size - k = (q.size + 8 - k) + 1 by have := HZ.out; omega, show K.size - (k + 1) = q.size + 8 - k by have := HZ.out; omega, Nat.pow_succ, ← Nat.div_div_eq_div_mul]
        omega)
      have hle : n / 10 ^ (K.size - k) ≤ n := Nat.div_le_self _ _
      generalize n / 10 ^ (K.size - k) = N at *
      generalize n / 10 ^ (q.size + 8 - k) % 10 = d at *
      have w1 : IntKind.i64.wrap (10 * (N : Int)) = 10 * (N : Int) := by rw [IntKind.wrap_i64]; omega
      have w2 : IntKind.u8.wrap (((K[k]'hlt).toNat : Int) - 48) = (d : Int) := by rw [hb, show (((48 + d : Nat) : Int) - 48) = (d : Int) by omega, IntKind.wrap_u8]; omega
      have w3 : IntKind.i64.wrap (d : Int) = (d : Int) := by rw [IntKind.wrap_i64]; omega
      have w4 : IntKind.i64.wrap (10 * (N : Int) + (d : Int)) = 10 * (N : Int) + (d : Int) := by rw [IntKind.wrap_i64]; omega
      have w5 : IntKind.i64.wrap ((k : Int) + 1) = (k : Int) + 1 := by have := HZ.out; rw [IntKind.wrap_i64]; omega
      have HBB := hide hb
      clear hb
      go_wp2
      exact ⟨⟨k + 1, by omega, by omega, rfl, by rw [HS.out]; rfl⟩, by simp [intOf]; omega⟩
    · have ek : k = K.size := by omega
      subst ek
      have hlt' : ¬ (K.size : Int) < (K.size : Int) := by omega
      go_wp2
      go_ret
      exact ⟨rfl, rfl⟩
set_option maxRecDepth 8000 in
set_option maxHeartbeats 4000000 in
theorem rack_any (name : ByteArray) (n tries : Int) {B rb : Nat} {G : Nat → Prop} {P : Rws} {since : Int} {chs : List Chg} {rds : Rws} (w : World) (h : QR w B rb G P since chs rds) (hn : name.size ≤ 900) (hk1 : n ≤ 9223372036854775807) :
    Calls Tryz.prog 23 #[.pointer (some ⟨rb, 0, none⟩), .string name, .int .i64 n, .int .i64 tries] w fun e w' => e = .returned (.int .i64 ((ackQ P chs rds name n tries).1 : Nat)) ∧ ActP w w' B rb G P since (ackQ P chs rds name n tries).2.1 (ackQ P chs rds name n tries).2.2 := by
  have HH := hide (rmine_any name n tries w h hn)
  have hms : (msgB name (numOf n)).size ≤ 1000 := by rw [msg_size]; omega
  have HP := hide (fun (G1 : Nat → Prop) (r : Rws) W (hW : QR W B rb G1 P since chs r) => qr_put ⟨msgB name (numOf n), ⟨#[]⟩, true⟩ W hW hms)
  unfold ackQ
  rw [show numOf n = (max n 0).toNat % 1000000 from rfl] at *
  clear h
  generalize heldQ P chs rds name n tries = q at *
  obtain ⟨⟨qk, qt, qu, qd, em⟩, rds1⟩ := q
  dsimp only at HH ⊢
  by_cases h1 : em = 0
  · subst h1
    rw [if_pos rfl]
    go_enter Tryz.func23, Tryz.ntmps23
    go_wp2_with (fail)
    (go_at_call 60; refine HH.out.mono ?_; rintro e w1 ⟨m, rfl, hm, ha⟩; clear hm; obtain ⟨G1, hq1, hs1⟩ := ha; obtain ⟨mk, mt, mu, md, me⟩ := m; have hbA := below_alloc1 w1 (Obj.cells #[Value.int .i64 mk, Value.int .i64 mt, Value.int .i64 mu, Value.string md] 48); have HQ1 := hide (hq1.on hbA); have HS1 := hide (hs1.trans (.on hq1.lo hbA)); clear hq1 hs1 hbA; dsimp only)
    go_wp2_with (fail)
    (go_at_call 61; refine (messageKey_any name n _ (by omega) hk1).mono ?_; rintro e w2 ⟨rfl, hb2⟩; replace HS1 := hide (HS1.out.trans (.on HQ1.out.lo hb2)); replace HQ1 := hide (HQ1.out.on hb2); clear hb2)
    go_wp2_with (fail)
    (go_at_call 29; refine (HP.out _ _ _ HQ1.out).mono ?_; rintro e w3 ⟨rfl, ha⟩; have HA := hide (ActP.after HS1.out ha); clear ha)
    go_wp2_with (fail)
    go_ret
    exact ⟨rfl, HA.out⟩
  · rw [if_neg h1]
    have d0 : decide (0 < (em : Int)) = true := decide_eq_true (by omega)
    have d1 : 0 < (em : Int) := by omega
    clear h1
    go_enter Tryz.func23, Tryz.ntmps23
    go_wp2_with (fail)
    (go_at_call 60; refine HH.out.mono ?_; rintro e w1 ⟨m, rfl, hm, ha⟩; clear hm; obtain ⟨G1, hq1, hs1⟩ := ha; obtain ⟨mk, mt, mu, md, me⟩ := m; have hbA := below_alloc1 w1 (Obj.cells #[Value.int .i64 mk, Value.int .i64 mt, Value.int .i64 mu, Value.string md] 48); have HQ1 := hide (hq1.on hbA); have HS1 := hide (hs1.trans (.on hq1.lo hbA)); clear hq1 hs1 hbA; dsimp only)
    go_wp2_with (fail)
    go_ret
    exact ⟨rfl, _, HQ1.out, HS1.out⟩
theorem heldQ_zero {P : Rws} {chs : List Chg} {rds : Rws} {name : ByteArray} {n tries : Int} (h : (heldQ P chs rds name n tries).1.2.2.2.2 = 0) : (heldQ P chs rds name n tries).1.1 = n ∧ 0 ≤ n ∧ n ≤ 999999 := by
  unfold heldQ at h ⊢
  split at h
  · rename_i h0
    rw [if_pos h0]
    split at h
    · cases h
    · rename_i h1
      rw [if_neg h1]
      refine ⟨?_, by omega, by omega⟩
      dsimp only at h ⊢
      unfold heldT at h ⊢
      split at h
      · rename_i h2
        rw [if_pos h2]
        split at h
        · rename_i h3
          rw [if_pos h3]
          split at h
          · rename_i h4
            rw [if_pos h4]
            split at h
            · rename_i h5
              rw [if_pos h5]
              rcases mOf_cases (getP chs (findL chs rds name) P (msgB name (numOf n))).1 n with ⟨t, u, d, e, _⟩ | ⟨e, _⟩
              · rw [e]
              · rw [e] at h4; cases h4
            · cases h
          · exact absurd h (by assumption)
        · cases h
      · exact absurd h (by assumption)
  · rename_i h0; exact absurd h h0
set_option maxRecDepth 8000 in
set_option maxHeartbeats 4000000 in
theorem rwait_any (name : ByteArray) (n tries until_ : Int) {B rb : Nat} {G : Nat → Prop} {P : Rws} {since : Int} {chs : List Chg} {rds : Rws} (w : World) (h : QR w B rb G P since chs rds) (hn : name.size ≤ 900) (hk1 : n ≤ 9223372036854775807) :
    Calls Tryz.prog 25 #[.pointer (some ⟨rb, 0, none⟩), .string name, .int .i64 n, .int .i64 tries, .int .i64 until_] w fun e w' => e = .returned (.int .i64 ((waitQ P chs rds name n tries until_).1 : Nat)) ∧ ActP w w' B rb G P since (waitQ P chs rds name n tries until_).2.1 (waitQ P chs rds name n tries until_).2.2 := by
  have HH := hide (rmine_any name n tries w h hn)
  have HZ := hide (fun h => heldQ_zero (P := P) (chs := chs) (rds := rds) (name := name) (n := n) (tries := tries) h)
  have hms : (msgB name (numOf n)).size ≤ 1000 := by rw [msg_size]; omega
  have HP := hide (fun (v : ByteArray) (G1 : Nat → Prop) (r : Rws) W (hW : QR W B rb G1 P since chs r) => qr_put ⟨msgB name (numOf n), v, false⟩ W hW hms)
  unfold waitQ
  clear h
  generalize heldQ P chs rds name n tries = q at *
  obtain ⟨⟨qk, qt, qu, qd, em⟩, rds1⟩ := q
  dsimp only at HH HZ ⊢
  by_cases h1 : em = 0
  · subst h1
    rw [if_pos rfl]
    obtain ⟨hqk, _, _⟩ := HZ.out rfl
    subst hqk
    clear HZ
    cases htm : timeMay until_ with
    | false =>
      rw [if_neg (by simp)]
      have HTM : Hid ((!timeMay until_) = true) := hide (by rw [htm]; rfl)
      clear htm HP
      go_enter Tryz.func25, Tryz.ntmps25
      go_wp2_with (fail)
      (go_at_call 60; refine HH.out.mono ?_; rintro e w1 ⟨m, rfl, hm, ha⟩; obtain rfl := hm rfl; clear hm; obtain ⟨G1, hq1, hs1⟩ := ha; have HQ1 := hide hq1; have HS1 := hide hs1; have hbA := below_alloc1 w1 (Obj.cells #[Value.int .i64 qk, Value.int .i64 qt, Value.int .i64 qu, Value.string qd] 48); have HQ2 := hide (hq1.on hbA); have HS2 := hide (hs1.trans (.on hq1.lo hbA)); clear hq1 hs1 hbA; dsimp only)
      go_wp2_with (fail)
      (go_at_call 55; refine (badTime_any until_ _).mono ?_; rintro e wT ⟨rfl, rfl⟩; rw [HTM.out])
      go_wp2_with (fail)
      go_ret
      exact ⟨rfl, _, HQ2.out, HS2.out⟩
    | true =>
      rw [if_pos rfl]
      have HTM : Hid ((!timeMay until_) = false) := hide (by rw [htm]; rfl)
      clear htm
      have HT := hide (fun W => mText_ref qk qt until_ qd W)
      unfold putMF putML
      rw [show numOf qk = (max qk 0).toNat % 1000000 from rfl] at *
      generalize mText qt until_ qd = t at *
      obtain ⟨tx, et⟩ := t
      dsimp only at HT ⊢
      by_cases h0 : et = 0
      · subst h0
        rw [if_pos rfl, if_pos rfl]
        go_enter Tryz.func25, Tryz.ntmps25
        go_wp2_with (fail)
        (go_at_call 60; refine HH.out.mono ?_; rintro e w1 ⟨m, rfl, hm, ha⟩; obtain rfl := hm rfl; clear hm; obtain ⟨G1, hq1, hs1⟩ := ha; have HQ1 := hide hq1; have HS1 := hide hs1; have hbA := below_alloc1 w1 (Obj.cells #[Value.int .i64 qk, Value.int .i64 qt, Value.int .i64 qu, Value.string qd] 48); have HQ2 := hide (hq1.on hbA); have HS2 := hide (hs1.trans (.on hq1.lo hbA)); clear hq1 hs1 hbA; dsimp only)
        go_wp2_with (fail)
        (go_at_call 55; refine (badTime_any until_ _).mono ?_; rintro e wT ⟨rfl, rfl⟩; rw [HTM.out])
        go_wp2_with (fail)
        (go_at_call 63; have hbA := below_alloc1 w1 (Obj.cells #[Value.int .i64 qk, Value.int .i64 qt, Value.int .i64 until_, Value.string qd] 48); refine (HT.out _).mono ?_; rintro e w3 ⟨rfl, hb3⟩; have HQ3 := hide ((HQ1.out.on hbA).on hb3); have HS3 := hide ((HS1.out.trans (.on HQ1.out.lo hbA)).trans (.on (HQ1.out.on hbA).lo hb3)); clear hbA hb3)
        go_wp2_with (fail)
        (go_at_call 61; refine (messageKey_any name qk _ (by omega) hk1).mono ?_; rintro e w4 ⟨rfl, hb4⟩; have HQ4 := hide (HQ3.out.on hb4); have HS4 := hide (HS3.out.trans (.on HQ3.out.lo hb4)); clear hb4)
        go_wp2_with (fail)
        (go_at_call 29; refine (HP.out _ _ _ _ HQ4.out).mono ?_; rintro e w5 ⟨rfl, ha⟩; have HA := hide (ActP.after HS4.out ha); clear ha)
        go_wp2_with (fail)
        go_ret
        exact ⟨rfl, HA.out⟩
      · rw [if_neg h0, if_neg h0]
        have d0 : decide (0 < (et : Int)) = true := decide_eq_true (by omega)
        have d1 : 0 < (et : Int) := by omega
        clear h0
        go_enter Tryz.func25, Tryz.ntmps25
        go_wp2_with (fail)
        (go_at_call 60; refine HH.out.mono ?_; rintro e w1 ⟨m, rfl, hm, ha⟩; obtain rfl := hm rfl; clear hm; obtain ⟨G1, hq1, hs1⟩ := ha; have HQ1 := hide hq1; have HS1 := hide hs1; have hbA := below_alloc1 w1 (Obj.cells #[Value.int .i64 qk, Value.int .i64 qt, Value.int .i64 qu, Value.string qd] 48); have HQ2 := hide (hq1.on hbA); have HS2 := hide (hs1.trans (.on hq1.lo hbA)); clear hq1 hs1 hbA; dsimp only)
        go_wp2_with (fail)
        (go_at_call 55; refine (badTime_any until_ _).mono ?_; rintro e wT ⟨rfl, rfl⟩; rw [HTM.out])
        go_wp2_with (fail)
        (go_at_call 63; have hbA := below_alloc1 w1 (Obj.cells #[Value.int .i64 qk, Value.int .i64 qt, Value.int .i64 until_, Value.string qd] 48); refine (HT.out _).mono ?_; rintro e w3 ⟨rfl, hb3⟩; have HQ3 := hide ((HQ1.out.on hbA).on hb3); have HS3 := hide ((HS1.out.trans (.on HQ1.out.lo hbA)).trans (.on (HQ1.out.on hbA).lo hb3)); clear hbA hb3)
        go_wp2_with (fail)
        go_ret
        exact ⟨rfl, _, HQ3.out, HS3.out⟩
  · rw [if_neg h1]
    have d0 : decide (0 < (em : Int)) = true := decide_eq_true (by omega)
    have d1 : 0 < (em : Int) := by omega
    clear h1 HZ
    go_enter Tryz.func25, Tryz.ntmps25
    go_wp2_with (fail)
    (go_at_call 60; refine HH.out.mono ?_; rintro e w1 ⟨m, rfl, hm, ha⟩; clear hm; obtain ⟨mk, mt, mu, md, me⟩ := m; obtain ⟨G1, hq1, hs1⟩ := ha; have HQ1 := hide hq1; have HS1 := hide hs1; have hbA := below_alloc1 w1 (Obj.cells #[Value.int .i64 mk, Value.int .i64 mt, Value.int .i64 mu, Value.string md] 48); have HQ2 := hide (hq1.on hbA); have HS2 := hide (hs1.trans (.on hq1.lo hbA)); clear hq1 hs1 hbA; dsimp only)
    go_wp2_with (fail)
    go_ret
    exact ⟨rfl, _, HQ2.out, HS2.out⟩
end Go.Proofs.YtighpalbodhfeaaGreatDoor

/-
  What haywainref.SendMessage returns, of every view of the document's.
-/
namespace Go.Proofs.YtighpalbodhfeaaGreatDoor
open Go.RowKit Go.Joins Go.Shelf
attribute [local go_sem ↓] Go.wp_at_zero Go.wp_at_succ

set_option maxRecDepth 8000 in
set_option maxHeartbeats 4000000 in
theorem rsend_any (name body : ByteArray) (until_ : Int) {B rb : Nat} {G : Nat → Prop} {P : Rws} {since : Int} {chs : List Chg} {rds : Rws} (w : World) (h : QR w B rb G P since chs rds) (hn : name.size ≤ 900) :
    Calls Tryz.prog 20 #[.pointer (some ⟨rb, 0, none⟩), .string name, .string body, .int .i64 until_] w fun e w' => e = .returned (.tuple #[.int .i64 (sendQ P chs rds name body until_).1, .int .i64 ((sendQ P chs rds name body until_).2.1 : Nat)]) ∧ ActP w w' B rb G P since (sendQ P chs rds name body until_).2.2.1 (sendQ P chs rds name body until_).2.2.2 := by
  have HF := hide (rfind_any name w h hn)
  have HFO := hide (fun h => findQ_ok (P := P) (chs := chs) (rds := rds) (name := name) h)
  unfold sendQ
  clear h
  generalize findQ P chs rds name = q at *
  generalize findL chs rds name = rds1 at *
  obtain ⟨qx, qy, qd, er⟩ := q
  dsimp only at HF HFO ⊢
  by_cases h1 : er = 0
  · subst h1
    rw [if_pos rfl]
    obtain ⟨hx0, hx1, hd6, _, _⟩ := HFO.out rfl
    clear HFO
    cases htm : timeMay until_ with
    | false =>
      rw [if_neg (by simp)]
      have HTM : Hid ((!timeMay until_) = true) := hide (by rw [htm]; rfl)
      clear htm
      go_enter Tryz.func20, Tryz.ntmps20
      go_wp2_with (fail)
      (go_at_call 27; refine HF.out.mono ?_; rintro e w1 ⟨rfl, ha⟩; obtain ⟨G1, hq1, hs1⟩ := ha; have hbA := below_alloc1 w1 (Obj.cells #[Value.int .i64 qx, Value.int .i64 qy, Value.string qd] 76); have HQ1 := hide (hq1.on hbA); have HS1 := hide (hs1.trans (.on hq1.lo hbA)); have q0 := cell_new w1 #[Value.int .i64 qx, Value.int .i64 qy, Value.string qd] 76 0; have q1 := cell_new w1 #[Value.int .i64 qx, Value.int .i64 qy, Value.string qd] 76 1; have q2 := cell_new w1 #[Value.int .i64 qx, Value.int .i64 qy, Value.string qd] 76 2; obtain ⟨ca, cc, m2, hhC, hnC, hgC⟩ := HQ1.out.mark; have HHC := hide hhC; have HNC := hide hnC; have HGC := hide hgC; clear hq1 hs1 hbA hhC hnC hgC)
      go_wp2_with (fail)
      (go_at_call 55; refine (badTime_any until_ _).mono ?_; rintro e wT ⟨rfl, rfl⟩; rw [HTM.out])
      go_wp2_with (fail)
      go_ret2
      exact ⟨rfl, G1, HQ1.out, HS1.out⟩
    | true =>
      rw [if_pos rfl]
      have HTM : Hid ((!timeMay until_) = false) := hide (by rw [htm]; rfl)
      clear htm
      have HSD := hide (fun (G1 : Nat → Prop) (W : World) (hW : QR W B rb G1 P since chs rds1) => rsendTo_any name qx qy qd body until_ W hW hn (by omega) hx0 hx1)
      generalize addQ chs name qx qy qd body until_ = r at *
      obtain ⟨rk, rf, rchs⟩ := r
      dsimp only at HSD ⊢
      by_cases hz : rf = 0
      · subst hz
        rw [if_pos rfl]
        go_enter Tryz.func20, Tryz.ntmps20
        go_wp2_with (fail)
        (go_at_call 27; refine HF.out.mono ?_; rintro e w1 ⟨rfl, ha⟩; obtain ⟨G1, hq1, hs1⟩ := ha; have hbA := below_alloc1 w1 (Obj.cells #[Value.int .i64 qx, Value.int .i64 qy, Value.string qd] 76); have HQ1 := hide (hq1.on hbA); have HS1 := hide (hs1.trans (.on hq1.lo hbA)); have q0 := cell_new w1 #[Value.int .i64 qx, Value.int .i64 qy, Value.string qd] 76 0; have q1 := cell_new w1 #[Value.int .i64 qx, Value.int .i64 qy, Value.string qd] 76 1; have q2 := cell_new w1 #[Value.int .i64 qx, Value.int .i64 qy, Value.string qd] 76 2; obtain ⟨ca, cc, m2, hhC, hnC, hgC⟩ := HQ1.out.mark; have HHC := hide hhC; have HNC := hide hnC; have HGC := hide hgC; clear hq1 hs1 hbA hhC hnC hgC)
        go_wp2_with (fail)
        (go_at_call 55; refine (badTime_any until_ _).mono ?_; rintro e wT ⟨rfl, rfl⟩; rw [HTM.out])
        go_wp2_with (fail)
        (go_at_call 56; refine (HSD.out _ _ HQ1.out).mono ?_; rintro e w3 ⟨rfl, ha⟩; obtain ⟨G3, hq3, hs3⟩ := ha; have HQ3 := hide hq3; have HS3 := hide hs3; obtain ⟨fz, ⟨vb, m3⟩, hbk⟩ := back_R (cc := cc) HQ1.out HHC.out HNC.out HGC.out hq3 hs3; have HBK := hide hbk; clear hq3 hs3 hbk)
        go_wp2_with (fail)
        go_ret2
        exact ⟨rfl, ActP.after HS1.out ⟨G3, HQ3.out, HS3.out⟩⟩
      · rw [if_neg hz]
        have d0 : decide (0 < (rf : Int)) = true := decide_eq_true (by omega)
        have d1 : 0 < (rf : Int) := by omega
        clear hz
        go_enter Tryz.func20, Tryz.ntmps20
        go_wp2_with (fail)
        (go_at_call 27; refine HF.out.mono ?_; rintro e w1 ⟨rfl, ha⟩; obtain ⟨G1, hq1, hs1⟩ := ha; have hbA := below_alloc1 w1 (Obj.cells #[Value.int .i64 qx, Value.int .i64 qy, Value.string qd] 76); have HQ1 := hide (hq1.on hbA); have HS1 := hide (hs1.trans (.on hq1.lo hbA)); have q0 := cell_new w1 #[Value.int .i64 qx, Value.int .i64 qy, Value.string qd] 76 0; have q1 := cell_new w1 #[Value.int .i64 qx, Value.int .i64 qy, Value.string qd] 76 1; have q2 := cell_new w1 #[Value.int .i64 qx, Value.int .i64 qy, Value.string qd] 76 2; obtain ⟨ca, cc, m2, hhC, hnC, hgC⟩ := HQ1.out.mark; have HHC := hide hhC; have HNC := hide hnC; have HGC := hide hgC; clear hq1 hs1 hbA hhC hnC hgC)
        go_wp2_with (fail)
        (go_at_call 55; refine (badTime_any until_ _).mono ?_; rintro e wT ⟨rfl, rfl⟩; rw [HTM.out])
        go_wp2_with (fail)
        (go_at_call 56; refine (HSD.out _ _ HQ1.out).mono ?_; rintro e w3 ⟨rfl, ha⟩; obtain ⟨G3, hq3, hs3⟩ := ha; have HQ3 := hide hq3; have HS3 := hide hs3; obtain ⟨fz, ⟨vb, m3⟩, hbk⟩ := back_R (cc := cc) HQ1.out HHC.out HNC.out HGC.out hq3 hs3; have HBK := hide hbk; clear hq3 hs3 hbk)
        go_wp2_with (fail)
        go_ret2
        exact ⟨rfl, ActP.after HS1.out HBK.out⟩
  · rw [if_neg h1]
    have d0 : decide (0 < (er : Int)) = true := decide_eq_true (by omega)
    have d1 : 0 < (er : Int) := by omega
    clear h1 HFO
    go_enter Tryz.func20, Tryz.ntmps20
    go_wp2_with (fail)
    (go_at_call 27; refine HF.out.mono ?_; rintro e w1 ⟨rfl, ha⟩; obtain ⟨G1, hq1, hs1⟩ := ha; have hbA := below_alloc1 w1 (Obj.cells #[Value.int .i64 qx, Value.int .i64 qy, Value.string qd] 76); have HQ1 := hide (hq1.on hbA); have HS1 := hide (hs1.trans (.on hq1.lo hbA)); have q0 := cell_new w1 #[Value.int .i64 qx, Value.int .i64 qy, Value.string qd] 76 0; have q1 := cell_new w1 #[Value.int .i64 qx, Value.int .i64 qy, Value.string qd] 76 1; have q2 := cell_new w1 #[Value.int .i64 qx, Value.int .i64 qy, Value.string qd] 76 2; obtain ⟨ca, cc, m2, hhC, hnC, hgC⟩ := HQ1.out.mark; have HHC := hide hhC; have HNC := hide hnC; have HGC := hide hgC; clear hq1 hs1 hbA hhC hnC hgC)
    go_wp2_with (fail)
    go_ret2
    exact ⟨rfl, G1, HQ1.out, HS1.out⟩
end Go.Proofs.YtighpalbodhfeaaGreatDoor
