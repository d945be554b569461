/-
  What haywainref.ReceiveMessage returns, of every view of the document's, by what receive returns.
-/
import Derived.Test.YtighpalbodhfeaaGreatDoorQueRSend
import Derived.Test.YtighpalbodhfeaaGreatDoorQueR
import Derived.Test.YtighpalbodhfeaaGreatDoorQueMsgs
import Derived.Test.YtighpalbodhfeaaGreatDoorQueRTake0
namespace Go.Proofs.YtighpalbodhfeaaGreatDoor
open Go.RowKit Go.Joins Go.Shelf
attribute [local go_sem ↓] Go.wp_at_zero Go.wp_at_succ

/-- what receive is to return -/
def RecvSays (B rb : Nat) (P : Rws) (since : Int) : Prop := ∀ (name : ByteArray) (qx tries : Int) (dead : ByteArray) (now long : Int) (G : Nat → Prop) (chs : List Chg) (rds : Rws) (w : World), QR w B rb G P since chs rds → nameL name.data.toList = true → dead.size ≤ 900 → tries ≤ 9 → IntKind.i64.wrap (now + long) = now + long →
    Calls Tryz.prog 57 #[.pointer (some ⟨rb, 0, none⟩), .string name, .agg #[.int .i64 qx, .int .i64 tries, .string dead], .int .i64 now, .int .i64 long] w fun e w' => e = .returned (.tuple #[mV (takeQ P name tries dead now (now + long) 1000001 chs rds (fromB name)).1, .int .i64 ((takeQ P name tries dead now (now + long) 1000001 chs rds (fromB name)).1.2.2.2.2 : Nat)]) ∧ ActP w w' B rb G P since (takeQ P name tries dead now (now + long) 1000001 chs rds (fromB name)).2.1 (takeQ P name tries dead now (now + long) 1000001 chs rds (fromB name)).2.2
set_option maxRecDepth 8000 in
set_option maxHeartbeats 4000000 in
theorem rreceiveMsg_of (name : ByteArray) (now long : Int) {B rb : Nat} {G : Nat → Prop} {P : Rws} {since : Int} {chs : List Chg} {rds : Rws} (w : World) (h : QR w B rb G P since chs rds) (hn : name.size ≤ 900) (hrc : RecvSays B rb P since) :
    Calls Tryz.prog 21 #[.pointer (some ⟨rb, 0, none⟩), .string name, .int .i64 now, .int .i64 long] w fun e w' => e = .returned (.tuple #[mV (receiveQ P chs rds name now long).1, .int .i64 ((receiveQ P chs rds name now long).1.2.2.2.2 : Nat)]) ∧ ActP w w' B rb G P since (receiveQ P chs rds name now long).2.1 (receiveQ P chs rds name now long).2.2 := by
  have HO := hide ((OwnR.start h).box #[Value.int .i64 0, Value.int .i64 0, Value.int .i64 0, Value.string ⟨#[]⟩] 48)
  have HLO := hide h.lo
  have HF := hide (fun W (hW : QR W B rb G P since chs rds) => rfind_any name W hW hn)
  have HFO := hide (fun h => findQ_ok (P := P) (chs := chs) (rds := rds) (name := name) h)
  have HFN : Hid ((findQ P chs rds name).2.2.2 = 0 → nameL name.data.toList = true) := hide (fun he => by unfold findQ at he; split at he; assumption; cases he)
  have r0 : (w.alloc (Obj.cells #[Value.int .i64 0, Value.int .i64 0, Value.int .i64 0, Value.string ⟨#[]⟩] 48)).cell? ⟨w.heap.size, 0, none⟩ = some (Value.int .i64 0) := by simp
  have r1 : (w.alloc (Obj.cells #[Value.int .i64 0, Value.int .i64 0, Value.int .i64 0, Value.string ⟨#[]⟩] 48)).cell? ⟨w.heap.size, 1, none⟩ = some (Value.int .i64 0) := by simp
  have r2 : (w.alloc (Obj.cells #[Value.int .i64 0, Value.int .i64 0, Value.int .i64 0, Value.string ⟨#[]⟩] 48)).cell? ⟨w.heap.size, 2, none⟩ = some (Value.int .i64 0) := by simp
  have r3 : (w.alloc (Obj.cells #[Value.int .i64 0, Value.int .i64 0, Value.int .i64 0, Value.string ⟨#[]⟩] 48)).cell? ⟨w.heap.size, 3, none⟩ = some (Value.string ⟨#[]⟩) := by simp
  clear h
  unfold receiveQ
  generalize findQ P chs rds name = q at *
  generalize findL chs rds name = rds1 at *
  obtain ⟨qx, qy, qd, er⟩ := q
  dsimp only at HF HFO HFN ⊢
  by_cases h1 : er = 0
  · subst h1
    rw [if_pos rfl]
    obtain ⟨hx0, hx1, hd6, hy0, hy9⟩ := HFO.out rfl
    have HNM := hide (HFN.out rfl)
    clear HFO HFN
    by_cases ht : timeMay now = true ∧ timeMay long = true
    · rw [if_pos ht]
      obtain ⟨ht1, ht2⟩ := ht
      obtain ⟨t0, t1⟩ := timeMay_bd ht1
      obtain ⟨t2, t3⟩ := timeMay_bd ht2
      have HT1 : Hid ((!timeMay now) = false) := hide (by rw [ht1]; rfl)
      have HT2 : Hid ((!timeMay long) = false) := hide (by rw [ht2]; rfl)
      clear ht1 ht2
      have HRC := hide (fun (G1 : Nat → Prop) (W : World) (hW : QR W B rb G1 P since chs rds1) => hrc name qx qy qd now long G1 chs rds1 W hW HNM.out (by omega) hy9 (by rw [IntKind.wrap_i64]; omega))
      clear hrc
      generalize takeQ P name qy qd now (now + long) 1000001 chs rds1 (fromB name) = r at *
      obtain ⟨⟨mk, mt, mu, md, em⟩, chs2, rds2⟩ := r
      dsimp only at HRC ⊢
      by_cases hz : em = 0
      · subst hz
        rw [if_pos rfl]
        go_enter Tryz.func21, Tryz.ntmps21
        go_wp2_with (fail)
        (go_at_call 27; refine (HF.out _ HO.out.qr).mono ?_; rintro e w1 ⟨rfl, ha⟩; obtain ⟨G1, ho1, kp⟩ := HO.out.act ha; have hbA := below_alloc1 w1 (Obj.cells #[Value.int .i64 qx, Value.int .i64 qy, Value.string qd] 76); have HO1 := hide (ho1.on hbA); replace r0 := cell_on hbA ((World.cell?_of_block (kp w.heap.size (.inl rfl))).trans r0); replace r1 := cell_on hbA ((World.cell?_of_block (kp w.heap.size (.inl rfl))).trans r1); replace r2 := cell_on hbA ((World.cell?_of_block (kp w.heap.size (.inl rfl))).trans r2); replace r3 := cell_on hbA ((World.cell?_of_block (kp w.heap.size (.inl rfl))).trans r3); have fz := (HO1.out.ow w.heap.size (.inl rfl)).2.2.2; have q0 := cell_new w1 #[Value.int .i64 qx, Value.int .i64 qy, Value.string qd] 76 0; have q1 := cell_new w1 #[Value.int .i64 qx, Value.int .i64 qy, Value.string qd] 76 1; have q2 := cell_new w1 #[Value.int .i64 qx, Value.int .i64 qy, Value.string qd] 76 2; obtain ⟨ca, cc, m2, hhC, hnC, hgC⟩ := HO1.out.qr.mark; have HHC := hide hhC; have HNC := hide hnC; have HGC := hide hgC; clear ha ho1 kp hbA hhC hnC hgC)
        go_wp2_with (fail)
        (go_at_call 55; refine (badTime_any now _).mono ?_; rintro e wT ⟨rfl, rfl⟩; rw [HT1.out])
        go_wp2_with (fail)
        (go_at_call 55; refine (badTime_any long _).mono ?_; rintro e wT ⟨rfl, rfl⟩; rw [HT2.out])
        go_wp2_with (fail)
        (go_at_call 57; refine (HRC.out _ _ HO1.out.qr).mono ?_; rintro e w3 ⟨rfl, ha⟩; obtain ⟨G3, hq3, hs3⟩ := ha; obtain ⟨ho3, kp3⟩ := HO1.out.keep hq3 hs3; have hbM := below_alloc1 w3 (Obj.cells #[Value.int .i64 mk, Value.int .i64 mt, Value.int .i64 mu, Value.string md] 48); have HO3 := hide (ho3.on hbM); clear fz; have fz := (HO3.out.ow w.heap.size (.inl rfl)).2.2.2; obtain ⟨fzb, ⟨vb, m3⟩, hbk⟩ := back_R (cc := cc) HO1.out.qr HHC.out HNC.out HGC.out (hq3.on hbM) (hs3.trans (.on hq3.lo hbM)); obtain ⟨G4, ho4, kp4⟩ := HO1.out.act hbk; have HO4 := hide ho4; have fz4 := (HO4.out.ow w.heap.size (.inl rfl)).2.2.2; have p0 := (World.cell?_of_block (kp4 w.heap.size (.inl rfl))).trans r0; have p1 := (World.cell?_of_block (kp4 w.heap.size (.inl rfl))).trans r1; have p2 := (World.cell?_of_block (kp4 w.heap.size (.inl rfl))).trans r2; have p3 := (World.cell?_of_block (kp4 w.heap.size (.inl rfl))).trans r3; replace r0 := cell_on hbM ((World.cell?_of_block (kp3 w.heap.size (.inl rfl))).trans r0); replace r1 := cell_on hbM ((World.cell?_of_block (kp3 w.heap.size (.inl rfl))).trans r1); replace r2 := cell_on hbM ((World.cell?_of_block (kp3 w.heap.size (.inl rfl))).trans r2); replace r3 := cell_on hbM ((World.cell?_of_block (kp3 w.heap.size (.inl rfl))).trans r3); clear hq3 hs3 ho3 kp3 hbM hbk ho4 kp4)
        go_wp2_with (fail)
        exact bodyPost_ret (v := .tuple #[mV (mk, mt, mu, md, 0), .int .i64 0]) (by simp [results, Tryz.results21, go_sem, r0, r1, r2, r3]) rfl ⟨rfl, ((((HO3.out.set HLO.out (b := w.heap.size) (.inl rfl) 0 _).set HLO.out (b := w.heap.size) (.inl rfl) 1 _).set HLO.out (b := w.heap.size) (.inl rfl) 2 _).set HLO.out (b := w.heap.size) (.inl rfl) 3 _).done⟩
      · rw [if_neg hz]
        have d0 : decide (0 < (em : Int)) = true := decide_eq_true (by omega)
        have d1 : 0 < (em : Int) := by omega
        clear hz
        go_enter Tryz.func21, Tryz.ntmps21
        go_wp2_with (fail)
        (go_at_call 27; refine (HF.out _ HO.out.qr).mono ?_; rintro e w1 ⟨rfl, ha⟩; obtain ⟨G1, ho1, kp⟩ := HO.out.act ha; have hbA := below_alloc1 w1 (Obj.cells #[Value.int .i64 qx, Value.int .i64 qy, Value.string qd] 76); have HO1 := hide (ho1.on hbA); replace r0 := cell_on hbA ((World.cell?_of_block (kp w.heap.size (.inl rfl))).trans r0); replace r1 := cell_on hbA ((World.cell?_of_block (kp w.heap.size (.inl rfl))).trans r1); replace r2 := cell_on hbA ((World.cell?_of_block (kp w.heap.size (.inl rfl))).trans r2); replace r3 := cell_on hbA ((World.cell?_of_block (kp w.heap.size (.inl rfl))).trans r3); have fz := (HO1.out.ow w.heap.size (.inl rfl)).2.2.2; have q0 := cell_new w1 #[Value.int .i64 qx, Value.int .i64 qy, Value.string qd] 76 0; have q1 := cell_new w1 #[Value.int .i64 qx, Value.int .i64 qy, Value.string qd] 76 1; have q2 := cell_new w1 #[Value.int .i64 qx, Value.int .i64 qy, Value.string qd] 76 2; obtain ⟨ca, cc, m2, hhC, hnC, hgC⟩ := HO1.out.qr.mark; have HHC := hide hhC; have HNC := hide hnC; have HGC := hide hgC; clear ha ho1 kp hbA hhC hnC hgC)
        go_wp2_with (fail)
        (go_at_call 55; refine (badTime_any now _).mono ?_; rintro e wT ⟨rfl, rfl⟩; rw [HT1.out])
        go_wp2_with (fail)
        (go_at_call 55; refine (badTime_any long _).mono ?_; rintro e wT ⟨rfl, rfl⟩; rw [HT2.out])
        go_wp2_with (fail)
        (go_at_call 57; refine (HRC.out _ _ HO1.out.qr).mono ?_; rintro e w3 ⟨rfl, ha⟩; obtain ⟨G3, hq3, hs3⟩ := ha; obtain ⟨ho3, kp3⟩ := HO1.out.keep hq3 hs3; have hbM := below_alloc1 w3 (Obj.cells #[Value.int .i64 mk, Value.int .i64 mt, Value.int .i64 mu, Value.string md] 48); have HO3 := hide (ho3.on hbM); clear fz; have fz := (HO3.out.ow w.heap.size (.inl rfl)).2.2.2; obtain ⟨fzb, ⟨vb, m3⟩, hbk⟩ := back_R (cc := cc) HO1.out.qr HHC.out HNC.out HGC.out (hq3.on hbM) (hs3.trans (.on hq3.lo hbM)); obtain ⟨G4, ho4, kp4⟩ := HO1.out.act hbk; have HO4 := hide ho4; have fz4 := (HO4.out.ow w.heap.size (.inl rfl)).2.2.2; have p0 := (World.cell?_of_block (kp4 w.heap.size (.inl rfl))).trans r0; have p1 := (World.cell?_of_block (kp4 w.heap.size (.inl rfl))).trans r1; have p2 := (World.cell?_of_block (kp4 w.heap.size (.inl rfl))).trans r2; have p3 := (World.cell?_of_block (kp4 w.heap.size (.inl rfl))).trans r3; replace r0 := cell_on hbM ((World.cell?_of_block (kp3 w.heap.size (.inl rfl))).trans r0); replace r1 := cell_on hbM ((World.cell?_of_block (kp3 w.heap.size (.inl rfl))).trans r1); replace r2 := cell_on hbM ((World.cell?_of_block (kp3 w.heap.size (.inl rfl))).trans r2); replace r3 := cell_on hbM ((World.cell?_of_block (kp3 w.heap.size (.inl rfl))).trans r3); clear hq3 hs3 ho3 kp3 hbM hbk ho4 kp4)
        go_wp2_with (fail)
        exact bodyPost_ret (v := .tuple #[mV (noM em), .int .i64 (em : Nat)]) (by simp [results, Tryz.results21, go_sem, p0, p1, p2, p3]) rfl ⟨rfl, ((((HO4.out.set HLO.out (b := w.heap.size) (.inl rfl) 0 _).set HLO.out (b := w.heap.size) (.inl rfl) 1 _).set HLO.out (b := w.heap.size) (.inl rfl) 2 _).set HLO.out (b := w.heap.size) (.inl rfl) 3 _).done⟩
    · rw [if_neg ht]
      cases ht1 : timeMay now with
      | false =>
        have HT1 : Hid ((!timeMay now) = true) := hide (by rw [ht1]; rfl)
        cases ht2 : timeMay long with
        | false =>
          have HT2 : Hid ((!timeMay long) = true) := hide (by rw [ht2]; rfl)
          clear ht ht1 ht2 hrc
          go_enter Tryz.func21, Tryz.ntmps21
          go_wp2_with (fail)
          (go_at_call 27; refine (HF.out _ HO.out.qr).mono ?_; rintro e w1 ⟨rfl, ha⟩; obtain ⟨G1, ho1, kp⟩ := HO.out.act ha; have hbA := below_alloc1 w1 (Obj.cells #[Value.int .i64 qx, Value.int .i64 qy, Value.string qd] 76); have HO1 := hide (ho1.on hbA); replace r0 := cell_on hbA ((World.cell?_of_block (kp w.heap.size (.inl rfl))).trans r0); replace r1 := cell_on hbA ((World.cell?_of_block (kp w.heap.size (.inl rfl))).trans r1); replace r2 := cell_on hbA ((World.cell?_of_block (kp w.heap.size (.inl rfl))).trans r2); replace r3 := cell_on hbA ((World.cell?_of_block (kp w.heap.size (.inl rfl))).trans r3); have fz := (HO1.out.ow w.heap.size (.inl rfl)).2.2.2; have q0 := cell_new w1 #[Value.int .i64 qx, Value.int .i64 qy, Value.string qd] 76 0; have q1 := cell_new w1 #[Value.int .i64 qx, Value.int .i64 qy, Value.string qd] 76 1; have q2 := cell_new w1 #[Value.int .i64 qx, Value.int .i64 qy, Value.string qd] 76 2; obtain ⟨ca, cc, m2, hhC, hnC, hgC⟩ := HO1.out.qr.mark; have HHC := hide hhC; have HNC := hide hnC; have HGC := hide hgC; clear ha ho1 kp hbA hhC hnC hgC)
          go_wp2_with (fail)
          (go_at_call 55; refine (badTime_any now _).mono ?_; rintro e wT ⟨rfl, rfl⟩; rw [HT1.out])
          go_wp2_with (fail)
          (go_at_call 55; refine (badTime_any long _).mono ?_; rintro e wT ⟨rfl, rfl⟩; rw [HT2.out])
          go_wp2_with (fail)
          exact bodyPost_ret (v := .tuple #[mV (noM 1), .int .i64 1]) (by simp [results, Tryz.results21, go_sem, r0, r1, r2, r3]) rfl ⟨rfl, ((((HO1.out.set HLO.out (b := w.heap.size) (.inl rfl) 0 _).set HLO.out (b := w.heap.size) (.inl rfl) 1 _).set HLO.out (b := w.heap.size) (.inl rfl) 2 _).set HLO.out (b := w.heap.size) (.inl rfl) 3 _).done⟩
        | true =>
          have HT2 : Hid ((!timeMay long) = false) := hide (by rw [ht2]; rfl)
          clear ht ht1 ht2 hrc
          go_enter Tryz.func21, Tryz.ntmps21
          go_wp2_with (fail)
          (go_at_call 27; refine (HF.out _ HO.out.qr).mono ?_; rintro e w1 ⟨rfl, ha⟩; obtain ⟨G1, ho1, kp⟩ := HO.out.act ha; have hbA := below_alloc1 w1 (Obj.cells #[Value.int .i64 qx, Value.int .i64 qy, Value.string qd] 76); have HO1 := hide (ho1.on hbA); replace r0 := cell_on hbA ((World.cell?_of_block (kp w.heap.size (.inl rfl))).trans r0); replace r1 := cell_on hbA ((World.cell?_of_block (kp w.heap.size (.inl rfl))).trans r1); replace r2 := cell_on hbA ((World.cell?_of_block (kp w.heap.size (.inl rfl))).trans r2); replace r3 := cell_on hbA ((World.cell?_of_block (kp w.heap.size (.inl rfl))).trans r3); have fz := (HO1.out.ow w.heap.size (.inl rfl)).2.2.2; have q0 := cell_new w1 #[Value.int .i64 qx, Value.int .i64 qy, Value.string qd] 76 0; have q1 := cell_new w1 #[Value.int .i64 qx, Value.int .i64 qy, Value.string qd] 76 1; have q2 := cell_new w1 #[Value.int .i64 qx, Value.int .i64 qy, Value.string qd] 76 2; obtain ⟨ca, cc, m2, hhC, hnC, hgC⟩ := HO1.out.qr.mark; have HHC := hide hhC; have HNC := hide hnC; have HGC := hide hgC; clear ha ho1 kp hbA hhC hnC hgC)
          go_wp2_with (fail)
          (go_at_call 55; refine (badTime_any now _).mono ?_; rintro e wT ⟨rfl, rfl⟩; rw [HT1.out])
          go_wp2_with (fail)
          (go_at_call 55; refine (badTime_any long _).mono ?_; rintro e wT ⟨rfl, rfl⟩; rw [HT2.out])
          go_wp2_with (fail)
          exact bodyPost_ret (v := .tuple #[mV (noM 1), .int .i64 1]) (by simp [results, Tryz.results21, go_sem, r0, r1, r2, r3]) rfl ⟨rfl, ((((HO1.out.set HLO.out (b := w.heap.size) (.inl rfl) 0 _).set HLO.out (b := w.heap.size) (.inl rfl) 1 _).set HLO.out (b := w.heap.size) (.inl rfl) 2 _).set HLO.out (b := w.heap.size) (.inl rfl) 3 _).done⟩
      | true =>
        have ht2 : timeMay long = false := by
          cases e : timeMay long with
          | false => rfl
          | true => exact absurd ⟨ht1, e⟩ ht
        have HT1 : Hid ((!timeMay now) = false) := hide (by rw [ht1]; rfl)
        have HT2 : Hid ((!timeMay long) = true) := hide (by rw [ht2]; rfl)
        clear ht ht1 ht2 hrc
        go_enter Tryz.func21, Tryz.ntmps21
        go_wp2_with (fail)
        (go_at_call 27; refine (HF.out _ HO.out.qr).mono ?_; rintro e w1 ⟨rfl, ha⟩; obtain ⟨G1, ho1, kp⟩ := HO.out.act ha; have hbA := below_alloc1 w1 (Obj.cells #[Value.int .i64 qx, Value.int .i64 qy, Value.string qd] 76); have HO1 := hide (ho1.on hbA); replace r0 := cell_on hbA ((World.cell?_of_block (kp w.heap.size (.inl rfl))).trans r0); replace r1 := cell_on hbA ((World.cell?_of_block (kp w.heap.size (.inl rfl))).trans r1); replace r2 := cell_on hbA ((World.cell?_of_block (kp w.heap.size (.inl rfl))).trans r2); replace r3 := cell_on hbA ((World.cell?_of_block (kp w.heap.size (.inl rfl))).trans r3); have fz := (HO1.out.ow w.heap.size (.inl rfl)).2.2.2; have q0 := cell_new w1 #[Value.int .i64 qx, Value.int .i64 qy, Value.string qd] 76 0; have q1 := cell_new w1 #[Value.int .i64 qx, Value.int .i64 qy, Value.string qd] 76 1; have q2 := cell_new w1 #[Value.int .i64 qx, Value.int .i64 qy, Value.string qd] 76 2; obtain ⟨ca, cc, m2, hhC, hnC, hgC⟩ := HO1.out.qr.mark; have HHC := hide hhC; have HNC := hide hnC; have HGC := hide hgC; clear ha ho1 kp hbA hhC hnC hgC)
        go_wp2_with (fail)
        (go_at_call 55; refine (badTime_any now _).mono ?_; rintro e wT ⟨rfl, rfl⟩; rw [HT1.out])
        go_wp2_with (fail)
        (go_at_call 55; refine (badTime_any long _).mono ?_; rintro e wT ⟨rfl, rfl⟩; rw [HT2.out])
        go_wp2_with (fail)
        exact bodyPost_ret (v := .tuple #[mV (noM 1), .int .i64 1]) (by simp [results, Tryz.results21, go_sem, r0, r1, r2, r3]) rfl ⟨rfl, ((((HO1.out.set HLO.out (b := w.heap.size) (.inl rfl) 0 _).set HLO.out (b := w.heap.size) (.inl rfl) 1 _).set HLO.out (b := w.heap.size) (.inl rfl) 2 _).set HLO.out (b := w.heap.size) (.inl rfl) 3 _).done⟩
  · rw [if_neg h1]
    have d0 : decide (0 < (er : Int)) = true := decide_eq_true (by omega)
    have d1 : 0 < (er : Int) := by omega
    clear h1 HFO HFN hrc
    go_enter Tryz.func21, Tryz.ntmps21
    go_wp2_with (fail)
    (go_at_call 27; refine (HF.out _ HO.out.qr).mono ?_; rintro e w1 ⟨rfl, ha⟩; obtain ⟨G1, ho1, kp⟩ := HO.out.act ha; have hbA := below_alloc1 w1 (Obj.cells #[Value.int .i64 qx, Value.int .i64 qy, Value.string qd] 76); have HO1 := hide (ho1.on hbA); replace r0 := cell_on hbA ((World.cell?_of_block (kp w.heap.size (.inl rfl))).trans r0); replace r1 := cell_on hbA ((World.cell?_of_block (kp w.heap.size (.inl rfl))).trans r1); replace r2 := cell_on hbA ((World.cell?_of_block (kp w.heap.size (.inl rfl))).trans r2); replace r3 := cell_on hbA ((World.cell?_of_block (kp w.heap.size (.inl rfl))).trans r3); have fz := (HO1.out.ow w.heap.size (.inl rfl)).2.2.2; have q0 := cell_new w1 #[Value.int .i64 qx, Value.int .i64 qy, Value.string qd] 76 0; have q1 := cell_new w1 #[Value.int .i64 qx, Value.int .i64 qy, Value.string qd] 76 1; have q2 := cell_new w1 #[Value.int .i64 qx, Value.int .i64 qy, Value.string qd] 76 2; obtain ⟨ca, cc, m2, hhC, hnC, hgC⟩ := HO1.out.qr.mark; have HHC := hide hhC; have HNC := hide hnC; have HGC := hide hgC; clear ha ho1 kp hbA hhC hnC hgC)
    go_wp2_with (fail)
    exact bodyPost_ret (v := .tuple #[mV (noM er), .int .i64 (er : Nat)]) (by simp [results, Tryz.results21, go_sem, r0, r1, r2, r3]) rfl ⟨rfl, ((((HO1.out.set HLO.out (b := w.heap.size) (.inl rfl) 0 _).set HLO.out (b := w.heap.size) (.inl rfl) 1 _).set HLO.out (b := w.heap.size) (.inl rfl) 2 _).set HLO.out (b := w.heap.size) (.inl rfl) 3 _).done⟩
end Go.Proofs.YtighpalbodhfeaaGreatDoor

/-
  What haywainref.SameMessages returns of two rows of the same messages: true.
-/
namespace Go.Proofs.YtighpalbodhfeaaGreatDoor
open Go.RowKit Go.Joins Go.Shelf
attribute [local go_sem ↓] Go.wp_at_zero Go.wp_at_succ

theorem cellM_get : ∀ (l : List Msg) (i c : Nat) (hi : i < l.length), c < 4 → (l.flatMap cellM)[i * 4 + c]? = (cellM l[i])[c]?
  | [], _, _, hi, _ => by cases hi
  | m :: l, 0, c, _, hc => by
    rw [List.flatMap_cons, Nat.zero_mul, Nat.zero_add, List.getElem?_append_left (show c < (cellM m).length from hc)]; rfl
  | m :: l, i + 1, c, hi, hc => by
    have e := cellM_get l i c (by simpa using hi) hc
    rw [List.flatMap_cons, List.getElem?_append_right (show (cellM m).length ≤ (i + 1) * 4 + c by show 4 ≤ _; omega), show (i + 1) * 4 + c - (cellM m).length = i * 4 + c by show (i + 1) * 4 + c - 4 = _; omega, e]
    rfl
theorem ownM_cells {w : World} {B g n cap : Nat} {l : List Msg} (h : ownM w B (.slice (some ⟨g, 0, none⟩) n cap) l) {i : Nat} (hi : i < l.length) :
    w.cell? ⟨g, i * 4, none⟩ = some (.int .i64 l[i].1) ∧ w.cell? ⟨g, i * 4 + 1, none⟩ = some (.int .i64 l[i].2.1) ∧ w.cell? ⟨g, i * 4 + 2, none⟩ = some (.int .i64 l[i].2.2.1) ∧ w.cell? ⟨g, i * 4 + 3, none⟩ = some (.string l[i].2.2.2.1) := by
  have one : ∀ c u, c < 4 → (cellM l[i])[c]? = some u → w.cell? ⟨g, i * 4 + c, none⟩ = some u := fun c u hc hu => by
    have e := World.ownsRow.cells h (g := g) rfl (i * 4 + c) u ((cellM_get l i c hi hc).trans hu)
    rw [Go.WideShapes.add_plain, Nat.zero_add] at e
    exact e
  exact ⟨one 0 _ (by omega) rfl, one 1 _ (by omega) rfl, one 2 _ (by omega) rfl, one 3 _ (by omega) rfl⟩
set_option maxRecDepth 8000 in
set_option maxHeartbeats 4000000 in
theorem sameMsgs_some (l : List Msg) {B1 B2 g1 g2 c1 c2 : Nat} (w : World) (h1 : ownM w B1 (.slice (some ⟨g1, 0, none⟩) l.length c1) l) (h2 : ownM w B2 (.slice (some ⟨g2, 0, none⟩) l.length c2) l) (hn : l.length ≤ 1000) :
    Calls Tryz.prog 38 #[.slice (some ⟨g1, 0, none⟩) l.length c1, .slice (some ⟨g2, 0, none⟩) l.length c2] w fun e w' => e = .returned (.bool true) ∧ Below w.heap.size w w' := by
  have H1 := hide h1
  have H2 := hide h2
  clear h1 h2
  go_enter Tryz.func38, Tryz.ntmps38
  go_wp2
  go_loopw [5] (fun i wr => ∃ k : Nat, k ≤ l.length ∧ i = .int .i64 (k : Int) ∧ Below w.heap.size w wr) (fun i _ => l.length - (intOf i).toNat)
  case atStart => exact ⟨0, Nat.zero_le _, rfl, Below.refl _ _⟩
  case round =>
    obtain ⟨k, hk, rfl, hB⟩ := hrel
    by_cases hlt : k < l.length
    · have lk : (k : Int) < (l.length : Int) := by omega
      obtain ⟨a0, a1, a2, a3⟩ := ownM_cells H1.out hlt
      obtain ⟨b0, b1, b2, b3⟩ := ownM_cells H2.out hlt
      replace a0 := cell_on hB a0
      replace a1 := cell_on hB a1
      replace a2 := cell_on hB a2
      replace a3 := cell_on hB a3
      replace b0 := cell_on hB b0
      replace b1 := cell_on hB b1
      replace b2 := cell_on hB b2
      replace b3 := cell_on hB b3
      generalize l[k].1 = m0 at *
      generalize l[k].2.1 = m1 at *
      generalize l[k].2.2.1 = m2 at *
      generalize l[k].2.2.2.1 = m3 at *
      have ebb : (m3.toList == m3.toList) = true := by simp
      have hw1 : IntKind.i64.wrap ((k : Int) + 1) = (k : Int) + 1 := by rw [IntKind.wrap_i64]; omega
      go_wp2
      go_quiet (fail)
      go_wp2
      exact ⟨⟨k + 1, by omega, rfl, hB.trans ((below_draws _ _ _).mono hB.size)⟩, by simp [intOf]; omega⟩
    · have ek : k = l.length := by omega
      subst ek
      have lk : ¬ (l.length : Int) < (l.length : Int) := by omega
      go_wp2
      go_ret
      exact ⟨rfl, hB⟩
end Go.Proofs.YtighpalbodhfeaaGreatDoor

/-
  What haywainref.MessagesOf returns, of every view of the document's.
-/
namespace Go.Proofs.YtighpalbodhfeaaGreatDoor
open Go.RowKit Go.Joins Go.Shelf Go.WideShapes
attribute [local go_sem ↓] Go.wp_at_zero Go.wp_at_succ

def MsgsR (w w' : World) (v : Value) (B rb : Nat) (G : Nat → Prop) (P : Rws) (since : Int) (chs : List Chg) (rds : Rws) (l : List Msg) : Prop := ∃ G', ownM w' w.heap.size v l ∧ QR w' B rb G' P since chs rds ∧ StepR w w' B rb G G'
def MsgsF (w w' : World) (e : Ending) (B rb : Nat) (G : Nat → Prop) (P : Rws) (since : Int) (chs : List Chg) (r : Nat × List Msg × Rws) : Prop :=
  (r.1 = 0 → ∃ v, e = .returned (.tuple #[v, .int .i64 0]) ∧ MsgsR w w' v B rb G P since chs r.2.2 r.2.1) ∧ (r.1 ≠ 0 → e = .returned (.tuple #[.slice none 0 0, .int .i64 (r.1 : Nat)]) ∧ ActP w w' B rb G P since chs r.2.2)
theorem MsgsF.bad {w w' : World} {B rb : Nat} {G : Nat → Prop} {P : Rws} {since : Int} {chs : List Chg} {f : Nat} {l : List Msg} {rds : Rws} (hf : f ≠ 0) (ha : ActP w w' B rb G P since chs rds) : MsgsF w w' (.returned (.tuple #[.slice none 0 0, .int .i64 (f : Nat)])) B rb G P since chs (f, l, rds) := ⟨fun h => absurd h hf, fun _ => ⟨rfl, ha⟩⟩
theorem MsgsF.good {w w' : World} {B rb : Nat} {G G' : Nat → Prop} {P : Rws} {since : Int} {chs : List Chg} {l : Rws} {rds : Rws} {v : Value} (hf : msgsF l = 0) (ho : ownM w' w.heap.size v (msgsL l)) (hq : QR w' B rb G' P since chs rds) (hs : StepR w w' B rb G G') : MsgsF w w' (.returned (.tuple #[v, .int .i64 0])) B rb G P since chs (if msgsF l = 0 then (0, msgsL l, rds) else (msgsF l, [], rds)) := by
  rw [if_pos hf]
  exact ⟨fun _ => ⟨v, rfl, G', ho, hq, hs⟩, fun h => absurd rfl h⟩
theorem MsgsF.worse {w w' : World} {B rb : Nat} {G : Nat → Prop} {P : Rws} {since : Int} {chs : List Chg} {f : Nat} {l : Rws} {rds : Rws} (hl : msgsF l = f) (hf : f ≠ 0) (ha : ActP w w' B rb G P since chs rds) : MsgsF w w' (.returned (.tuple #[.slice none 0 0, .int .i64 (f : Nat)])) B rb G P since chs (if msgsF l = 0 then (0, msgsL l, rds) else (msgsF l, [], rds)) := by
  rw [if_neg (by rw [hl]; exact hf), hl]
  exact .bad hf ha
set_option maxRecDepth 8000 in
set_option maxHeartbeats 8000000 in
theorem rmessages_any (name : ByteArray) {B rb : Nat} {G : Nat → Prop} {P : Rws} {since : Int} {chs : List Chg} {rds : Rws} (w : World) (h : QR w B rb G P since chs rds) (hn : name.size ≤ 900) :
    Calls Tryz.prog 37 #[.pointer (some ⟨rb, 0, none⟩), .string name] w fun e w' => MsgsF w w' e B rb G P since chs (messagesQ P chs rds name) := by
  obtain ⟨i0, hi0, hz0, hs0, hb0⟩ := info_parts msg_info
  have HF := hide (rfind_any name w h hn)
  have HQ := hide h
  have HFN : Hid ((findQ P chs rds name).2.2.2 = 0 → nameL name.data.toList = true) := hide (fun he => by unfold findQ at he; split at he; assumption; cases he)
  unfold messagesQ
  generalize findQ P chs rds name = q at *
  generalize findL chs rds name = rds1 at *
  obtain ⟨qx, qy, qd, er⟩ := q
  dsimp only at HF HFN ⊢
  by_cases h1 : er = 0
  · subst h1
    rw [if_pos rfl]
    have hnm := HFN.out rfl
    have HLF : Hid (∀ r ∈ (seenP P chs (fromB name, toB name)).take 53, ∃ n, n ≤ 999999 ∧ r.1 = msgB name n ∧ r.2.size ≤ 40) := hide (fun r hr => by
      have hm := List.mem_of_mem_take hr
      obtain ⟨a1, a2⟩ := seenQ_in HQ.out.ok (fromB name, toB name) r hm
      obtain ⟨n, hn', e⟩ := key_in hnm a1 (seenP_has HQ.out.ov.rise hm)
      exact ⟨n, hn', e, a2⟩)
    have hl53 : ((seenP P chs (fromB name, toB name)).take 53).length ≤ 53 := by rw [List.length_take]; omega
    clear HFN h
    by_cases hsf : scanF (seenP P chs (fromB name, toB name)) rds1 (fromB name, toB name) 53 = 0
    · rw [if_pos hsf]
      have HSC := hide (fun (G1 : Nat → Prop) (W : World) (hW : QR W B rb G1 P since chs rds1) => qr_scan_ok (fromB name, toB name) 53 W hW (by omega) hsf)
      rw [show ((53 : Int).toNat) = 53 from rfl] at HSC
      clear hsf hnm
      generalize scanL (seenP P chs (fromB name, toB name)) rds1 (fromB name, toB name) 53 = rds2 at *
      generalize (seenP P chs (fromB name, toB name)).take 53 = l at *
      generalize hr : (if msgsF l = 0 then (0, msgsL l, rds2) else (msgsF l, [], rds2)) = r
      have HR := hide hr
      clear hr
      go_enter Tryz.func37, Tryz.ntmps37
      go_wp2_with (fail)
      (go_at_call 27; refine HF.out.mono ?_; rintro e w1 ⟨rfl, ha⟩; obtain ⟨G1, hq1, hs1⟩ := ha; have hbQ := below_alloc1 w1 (Obj.cells #[Value.int .i64 qx, Value.int .i64 qy, Value.string qd] 76); have HQ1 := hide (hq1.on hbQ); have HS1 := hide (hs1.trans (.on hq1.lo hbQ)); clear hq1 hs1 hbQ)
      go_wp2_with (fail)
      (go_at_call 87; refine (messagesSpan_any name _ (by omega)).mono ?_; rintro e w2 ⟨rfl, hb2⟩; have HQ2 := hide (HQ1.out.on hb2); have HS2 := hide (HS1.out.trans (.on HQ1.out.lo hb2)); clear hb2)
      go_wp2_with (fail)
      (go_at_call 34; refine (HSC.out _ _ HQ2.out).mono ?_; rintro e w3 ⟨v, rfl, ha⟩; obtain ⟨ao, cap, G3, rfl, hh, hq3, hs3, _⟩ := ha; have HQ3 := hide hq3; have HS3 := hide (HS2.out.trans hs3); have HH := hide hh; have hsz3 := (HS2.out.trans hs3).bel.size; clear hq3 hs3 hh)
      go_wp2_with (fail)
      go_loopw [9, 10] (fun v i wr => ∃ k : Nat, k ≤ l.length ∧ i = .int .i64 k ∧ ownM wr w3.heap.size v (msgsL (l.take k)) ∧ Below w3.heap.size w3 wr ∧ msgsF (l.take k) = 0) (fun _ i _ => l.length - (intOf i).toNat)
      case atStart => exact ⟨0, Nat.zero_le _, rfl, World.ownsRow_nil _ _ _ _, Below.refl _ _, rfl⟩
      case round =>
        obtain ⟨k, hk, rfl, hown, hB, hM⟩ := hrel
        by_cases hlt : k < l.length
        · rcases HH.out with e | ⟨b, off, rfl, hsp⟩
          · rw [e] at hlt; cases hlt
          obtain ⟨c0, c1⟩ := spansAt_on hB hsp k hlt
          have lk : (k : Int) < (l.length : Int) := by omega
          obtain ⟨n, hn9, ek, hv40⟩ := HLF.out l[k] (List.getElem_mem hlt)
          have hnk : numK l[k].1 = n := by rw [ek]; exact numK_msg name hn9
          have HNO : Hid (∀ W : World, Calls Tryz.prog 89 #[.string l[k].1] W fun e w' => e = .returned (.int .i64 n) ∧ w' = W) := hide (by rw [ek]; exact fun W => rnumberOf_any name n W (by omega) hn9)
          have HMO := hide (fun W => mOf_ref l[k].2 n (by omega) W)
          rw [← hnk] at HMO HNO
          have HMT := hide (msgsF_take hlt hM)
          have HMF := hide (msgsF_first hlt hM)
          have HML := hide (msgsL_take hlt)
          have HOWN0 := hide hown
          have HB := hide hB
          have hlen : (msgsL (l.take k)).length ≤ 53 := by unfold msgsL; rw [List.length_map, List.length_take]; omega
          have hblt := World.block_lt_of_cell? _ _ c0
          clear hnk ek hM hown hB hv40 HLF hsp hn9 n
          generalize mOf l[k].2 (numK l[k].1) = m at *
          generalize numK l[k].1 = nn at *
          generalize msgsL (l.take k) = out at *
          generalize l[k].1 = rk at *
          generalize l[k].2 = rv at *
          obtain ⟨mk, mt, mu, md, em⟩ := m
          dsimp only at HMO HMT HMF HML
          by_cases hem : em = 0
          · subst hem
            go_wp2_with (fail)
            go_region_with (first
              | (go_at_call 89; refine (HNO.out _).mono ?_; rintro e wn ⟨rfl, rfl⟩)
              | (go_at_call 88; refine (HMO.out _).mono ?_; rintro e w4 ⟨rfl, hb4⟩; first | (have z0 : w4.cell? ⟨wr.heap.size, 0, none⟩ = some (.int .i64 0) := cell_on hb4 (by simp); have z1 : w4.cell? ⟨wr.heap.size, 1, none⟩ = some (.int .i64 0) := cell_on hb4 (by simp); have z2 : w4.cell? ⟨wr.heap.size, 2, none⟩ = some (.int .i64 0) := cell_on hb4 (by simp); have z3 : w4.cell? ⟨wr.heap.size, 3, none⟩ = some (.string ⟨#[]⟩) := cell_on hb4 (by simp); have zf : ∀ j, w4.frozen? ⟨wr.heap.size, j, none⟩ = false := fun j => frozen_on hb4 (by simp) (by exact frozen_new _ _ _ j)) | skip)
              | fail)
            all_goals
              first
              | (have hq : Below wr.heap.size wr w4 := ((Below.refl wr.heap.size wr).drew).trans hb4
                 have hbM := below_alloc1 w4 (Obj.cells #[Value.int .i64 mk, Value.int .i64 mt, Value.int .i64 mu, Value.string md] 48)
                 have HB5 := hide ((HB.out.trans (hq.mono HB.out.size)).trans (hbM.mono (HB.out.trans (hq.mono HB.out.size)).size))
                 have HOWN := hide (own_on (own_on HOWN0.out hq) hbM)
                 have m0 := cell_new w4 #[Value.int .i64 mk, Value.int .i64 mt, Value.int .i64 mu, Value.string md] 48 0
                 have m1 := cell_new w4 #[Value.int .i64 mk, Value.int .i64 mt, Value.int .i64 mu, Value.string md] 48 1
                 have m2 := cell_new w4 #[Value.int .i64 mk, Value.int .i64 mt, Value.int .i64 mu, Value.string md] 48 2
                 have m3 := cell_new w4 #[Value.int .i64 mk, Value.int .i64 mt, Value.int .i64 mu, Value.string md] 48 3
                 clear hb4 hq hbM
                 generalize (w4.alloc (Obj.cells #[Value.int .i64 mk, Value.int .i64 mt, Value.int .i64 mu, Value.string md] 48)) = W5 at *
                 generalize w4.heap.size = mb at *)
              | (have hq : Below (wr.alloc (Obj.cells #[Value.int .i64 0, Value.int .i64 0, Value.int .i64 0, Value.string ⟨#[]⟩] 48)).heap.size (wr.alloc (Obj.cells #[Value.int .i64 0, Value.int .i64 0, Value.int .i64 0, Value.string ⟨#[]⟩] 48)) w4 := ((Below.refl _ (wr.alloc (Obj.cells #[Value.int .i64 0, Value.int .i64 0, Value.int .i64 0, Value.string ⟨#[]⟩] 48))).drew).trans hb4
                 have hbZ := below_alloc1 wr (Obj.cells #[Value.int .i64 0, Value.int .i64 0, Value.int .i64 0, Value.string ⟨#[]⟩] 48)
                 have S4 := set4 w4 wr.heap.size (.int .i64 mk) (.int .i64 mt) (.int .i64 mu) (.string md) z0 z1 z2 z3
                 have HBz := hide ((HB.out.trans (hbZ.mono HB.out.size)).trans (hq.mono (HB.out.trans (hbZ.mono HB.out.size)).size))
                 have hwr := HB.out.size
                 have HB5 := hide ((((HBz.out.setCell (p := ⟨wr.heap.size, 0, none⟩) hwr (.int .i64 mk)).setCell (p := ⟨wr.heap.size, 1, none⟩) hwr (.int .i64 mt)).setCell (p := ⟨wr.heap.size, 2, none⟩) hwr (.int .i64 mu)).setCell (p := ⟨wr.heap.size, 3, none⟩) hwr (.string md))
                 have HOWN := hide (own_block (own_on (own_on HOWN0.out hbZ) hq) fun x e => S4.2.2.2.2 x (by have := (World.ownsRow.lt HOWN0.out x e).2; omega))
                 obtain ⟨m0, m1, m2, m3, _⟩ := S4
                 clear hb4 hq hbZ HBz z0 z1 z2 z3 zf hwr
                 generalize ((((w4.setCell ⟨wr.heap.size, 0, none⟩ (.int .i64 mk)).setCell ⟨wr.heap.size, 1, none⟩ (.int .i64 mt)).setCell ⟨wr.heap.size, 2, none⟩ (.int .i64 mu)).setCell ⟨wr.heap.size, 3, none⟩ (.string md)) = W5 at *
                 generalize wr.heap.size = mb at *)
            all_goals
              go_wp2_with (at_builtin; refine wp_append1 rfl _ _ 97 rfl w3.heap.size 48 i0 _ 4 40 Tryz.underlying97 hi0 hz0 hs0 hb0 rfl (by omega) W5 (cellM (mk, mt, mu, md, 0)) rfl (cellM_one _) _ out.length (out.flatMap cellM) HOWN.out rfl rfl (by omega) (by omega) HB5.out.size ?_; intro v1 w7 ho1 hb7; have HB7 : Hid (Below w3.heap.size w3 w7) := (by first | exact hb7 w3 HB5.out | exact hb7 w3 (HB5.out.trans (below_draws _ _ _))); have HO7 : Hid (ownM w7 w3.heap.size v1 (out ++ [(mk, mt, mu, md, 0)])) := ownM_snoc ho1; clear ho1 hb7)
              exact ⟨⟨k + 1, by omega, by go_num, by rw [HML.out]; exact HO7.out, HB7.out, HMT.out⟩, by simp [intOf]; omega⟩
          · have d0 : decide (0 < (em : Int)) = true := decide_eq_true (by omega)
            have d1 : 0 < (em : Int) := by omega
            have HNZ := hide hem
            clear hem
            go_wp2_with (fail)
            go_region_with (first
              | (go_at_call 89; refine (HNO.out _).mono ?_; rintro e wn ⟨rfl, rfl⟩)
              | (go_at_call 88; refine (HMO.out _).mono ?_; rintro e w4 ⟨rfl, hb4⟩; first | (have z0 : w4.cell? ⟨wr.heap.size, 0, none⟩ = some (.int .i64 0) := cell_on hb4 (by simp); have z1 : w4.cell? ⟨wr.heap.size, 1, none⟩ = some (.int .i64 0) := cell_on hb4 (by simp); have z2 : w4.cell? ⟨wr.heap.size, 2, none⟩ = some (.int .i64 0) := cell_on hb4 (by simp); have z3 : w4.cell? ⟨wr.heap.size, 3, none⟩ = some (.string ⟨#[]⟩) := cell_on hb4 (by simp); have zf : ∀ j, w4.frozen? ⟨wr.heap.size, j, none⟩ = false := fun j => frozen_on hb4 (by simp) (by exact frozen_new _ _ _ j)) | skip)
              | fail)
            all_goals
              first
              | (have hq : Below wr.heap.size wr w4 := ((Below.refl wr.heap.size wr).drew).trans hb4
                 have hbM := below_alloc1 w4 (Obj.cells #[Value.int .i64 mk, Value.int .i64 mt, Value.int .i64 mu, Value.string md] 48)
                 have HB5 := hide ((HB.out.trans (hq.mono HB.out.size)).trans (hbM.mono (HB.out.trans (hq.mono HB.out.size)).size))
                 have HOWN := hide (own_on (own_on HOWN0.out hq) hbM)
                 have m0 := cell_new w4 #[Value.int .i64 mk, Value.int .i64 mt, Value.int .i64 mu, Value.string md] 48 0
                 have m1 := cell_new w4 #[Value.int .i64 mk, Value.int .i64 mt, Value.int .i64 mu, Value.string md] 48 1
                 have m2 := cell_new w4 #[Value.int .i64 mk, Value.int .i64 mt, Value.int .i64 mu, Value.string md] 48 2
                 have m3 := cell_new w4 #[Value.int .i64 mk, Value.int .i64 mt, Value.int .i64 mu, Value.string md] 48 3
                 clear hb4 hq hbM
                 generalize (w4.alloc (Obj.cells #[Value.int .i64 mk, Value.int .i64 mt, Value.int .i64 mu, Value.string md] 48)) = W5 at *
                 generalize w4.heap.size = mb at *)
              | (have hq : Below (wr.alloc (Obj.cells #[Value.int .i64 0, Value.int .i64 0, Value.int .i64 0, Value.string ⟨#[]⟩] 48)).heap.size (wr.alloc (Obj.cells #[Value.int .i64 0, Value.int .i64 0, Value.int .i64 0, Value.string ⟨#[]⟩] 48)) w4 := ((Below.refl _ (wr.alloc (Obj.cells #[Value.int .i64 0, Value.int .i64 0, Value.int .i64 0, Value.string ⟨#[]⟩] 48))).drew).trans hb4
                 have hbZ := below_alloc1 wr (Obj.cells #[Value.int .i64 0, Value.int .i64 0, Value.int .i64 0, Value.string ⟨#[]⟩] 48)
                 have S4 := set4 w4 wr.heap.size (.int .i64 mk) (.int .i64 mt) (.int .i64 mu) (.string md) z0 z1 z2 z3
                 have HBz := hide ((HB.out.trans (hbZ.mono HB.out.size)).trans (hq.mono (HB.out.trans (hbZ.mono HB.out.size)).size))
                 have hwr := HB.out.size
                 have HB5 := hide ((((HBz.out.setCell (p := ⟨wr.heap.size, 0, none⟩) hwr (.int .i64 mk)).setCell (p := ⟨wr.heap.size, 1, none⟩) hwr (.int .i64 mt)).setCell (p := ⟨wr.heap.size, 2, none⟩) hwr (.int .i64 mu)).setCell (p := ⟨wr.heap.size, 3, none⟩) hwr (.string md))
                 have HOWN := hide (own_block (own_on (own_on HOWN0.out hbZ) hq) fun x e => S4.2.2.2.2 x (by have := (World.ownsRow.lt HOWN0.out x e).2; omega))
                 obtain ⟨m0, m1, m2, m3, _⟩ := S4
                 clear hb4 hq hbZ HBz z0 z1 z2 z3 zf hwr
                 generalize ((((w4.setCell ⟨wr.heap.size, 0, none⟩ (.int .i64 mk)).setCell ⟨wr.heap.size, 1, none⟩ (.int .i64 mt)).setCell ⟨wr.heap.size, 2, none⟩ (.int .i64 mu)).setCell ⟨wr.heap.size, 3, none⟩ (.string md)) = W5 at *
                 generalize wr.heap.size = mb at *)
            all_goals
              go_wp2_with (fail)
              go_ret2
              refine HR.out ▸ ?_
              exact .worse (HMF.out HNZ.out) HNZ.out ⟨_, HQ3.out.on HB5.out, HS3.out.trans (.on HQ3.out.lo HB5.out)⟩
        · have ek : k = l.length := by omega
          subst ek
          have hlt' : ¬ (l.length : Int) < (l.length : Int) := by omega
          rw [List.take_length] at hown hM
          have HM := hide hM
          have HOWN := hide hown
          clear hM hown
          go_wp2
          go_ret2
          refine HR.out ▸ ?_
          exact .good HM.out (ownsRow_le HOWN.out hsz3) (HQ3.out.on hB) (HS3.out.trans (.on HQ3.out.lo hB))
    · rw [if_neg hsf]
      have HSC := hide (fun (G1 : Nat → Prop) (W : World) (hW : QR W B rb G1 P since chs rds1) => qr_scan_bad (fromB name, toB name) 53 W hW (by omega) hsf)
      generalize scanL (seenP P chs (fromB name, toB name)) rds1 (fromB name, toB name) 53 = rds2 at *
      generalize scanF (seenP P chs (fromB name, toB name)) rds1 (fromB name, toB name) 53 = f at *
      have d0 : decide (0 < (f : Int)) = true := decide_eq_true (by omega)
      have d1 : 0 < (f : Int) := by omega
      have HSF := hide hsf
      clear hsf hnm
      go_enter Tryz.func37, Tryz.ntmps37
      go_wp2_with (fail)
      (go_at_call 27; refine HF.out.mono ?_; rintro e w1 ⟨rfl, ha⟩; obtain ⟨G1, hq1, hs1⟩ := ha; have hbQ := below_alloc1 w1 (Obj.cells #[Value.int .i64 qx, Value.int .i64 qy, Value.string qd] 76); have HQ1 := hide (hq1.on hbQ); have HS1 := hide (hs1.trans (.on hq1.lo hbQ)); clear hq1 hs1 hbQ)
      go_wp2_with (fail)
      (go_at_call 87; refine (messagesSpan_any name _ (by omega)).mono ?_; rintro e w2 ⟨rfl, hb2⟩; have HQ2 := hide (HQ1.out.on hb2); have HS2 := hide (HS1.out.trans (.on HQ1.out.lo hb2)); clear hb2)
      go_wp2_with (fail)
      (go_at_call 34; refine (HSC.out _ _ HQ2.out).mono ?_; rintro e w3 ⟨rfl, ha⟩; have HA := hide (ActP.after HS2.out ha); clear ha)
      go_wp2_with (fail)
      go_ret2
      exact .bad HSF.out HA.out
  · rw [if_neg h1]
    have d0 : decide (0 < (er : Int)) = true := decide_eq_true (by omega)
    have d1 : 0 < (er : Int) := by omega
    have HER := hide h1
    clear h1 HFN
    go_enter Tryz.func37, Tryz.ntmps37
    go_wp2_with (fail)
    (go_at_call 27; refine HF.out.mono ?_; rintro e w1 ⟨rfl, ha⟩; obtain ⟨G1, hq1, hs1⟩ := ha; have hbQ := below_alloc1 w1 (Obj.cells #[Value.int .i64 qx, Value.int .i64 qy, Value.string qd] 76); have HQ1 := hide (hq1.on hbQ); have HS1 := hide (hs1.trans (.on hq1.lo hbQ)); clear hq1 hs1 hbQ)
    go_wp2_with (fail)
    go_ret2
    exact .bad HER.out ⟨_, HQ1.out, HS1.out⟩
end Go.Proofs.YtighpalbodhfeaaGreatDoor
