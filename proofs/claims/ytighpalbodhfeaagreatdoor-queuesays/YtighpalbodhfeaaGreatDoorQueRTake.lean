/-
  What haywainref.receive returns, of every view of the document's.
-/
import Derived.Test.YtighpalbodhfeaaGreatDoorQueRSend
import Derived.Test.YtighpalbodhfeaaGreatDoorQueOwn
import Derived.Test.YtighpalbodhfeaaGreatDoorQueRTake0
namespace Go.Proofs.YtighpalbodhfeaaGreatDoor
open Go.RowKit Go.Joins Go.Shelf
attribute [local go_sem ↓] Go.wp_at_zero Go.wp_at_succ

def TakeR (w W : World) (B rb b0 b1 b2 : Nat) (G : Nat → Prop) (P : Rws) (since : Int) (name : ByteArray) (qx tries : Int) (dead : ByteArray) (now until_ : Int) (R : Msg × List Chg × Rws) (k : Nat) : Prop :=
  ∃ G' chs rds at_, OwnR w W B rb (TakeO b0 b1 b2) G G' P since chs rds ∧ AtQ name k at_ ∧ takeQ P name tries dead now until_ k chs rds at_ = R ∧ TakeC W b0 b1 b2 qx tries dead at_ (toB name)
set_option maxRecDepth 8000 in
set_option maxHeartbeats 8000000 in
theorem rreceive_any (name : ByteArray) (qx tries : Int) (dead : ByteArray) (now long : Int) {B rb : Nat} {G : Nat → Prop} {P : Rws} {since : Int} {chs : List Chg} {rds : Rws} (w : World) (h : QR w B rb G P since chs rds) (hn : nameL name.data.toList = true) (hd : dead.size ≤ 900) (ht : tries ≤ 9) (hnw : IntKind.i64.wrap (now + long) = now + long) :
    Calls Tryz.prog 57 #[.pointer (some ⟨rb, 0, none⟩), .string name, .agg #[.int .i64 qx, .int .i64 tries, .string dead], .int .i64 now, .int .i64 long] w fun e w' => e = .returned (.tuple #[mV (takeQ P name tries dead now (now + long) 1000001 chs rds (fromB name)).1, .int .i64 ((takeQ P name tries dead now (now + long) 1000001 chs rds (fromB name)).1.2.2.2.2 : Nat)]) ∧ ActP w w' B rb G P since (takeQ P name tries dead now (now + long) 1000001 chs rds (fromB name)).2.1 (takeQ P name tries dead now (now + long) 1000001 chs rds (fromB name)).2.2 := by
  have hns := name_size hn
  have HLO := hide h.lo
  have HN := hide hn
  have HOa := hide ((OwnR.start h).box #[Value.int .i64 qx, Value.int .i64 tries, Value.string dead] 76)
  have HOb := hide (HOa.out.box #[Value.int .i64 0, Value.int .i64 0, Value.int .i64 0, Value.string ⟨#[]⟩] 48)
  have hb2 := below_alloc1 (w.alloc (Obj.cells #[Value.int .i64 qx, Value.int .i64 tries, Value.string dead] 76)) (Obj.cells #[Value.int .i64 0, Value.int .i64 0, Value.int .i64 0, Value.string ⟨#[]⟩] 48)
  have q0 := cell_on hb2 (cell_new w #[Value.int .i64 qx, Value.int .i64 tries, Value.string dead] 76 0)
  have q1 := cell_on hb2 (cell_new w #[Value.int .i64 qx, Value.int .i64 tries, Value.string dead] 76 1)
  have q2 := cell_on hb2 (cell_new w #[Value.int .i64 qx, Value.int .i64 tries, Value.string dead] 76 2)
  have r0 : ((w.alloc (Obj.cells #[Value.int .i64 qx, Value.int .i64 tries, Value.string dead] 76)).alloc (Obj.cells #[Value.int .i64 0, Value.int .i64 0, Value.int .i64 0, Value.string ⟨#[]⟩] 48)).cell? ⟨w.heap.size + 1, 0, none⟩ = some (.int .i64 0) := by simp
  have r1 : ((w.alloc (Obj.cells #[Value.int .i64 qx, Value.int .i64 tries, Value.string dead] 76)).alloc (Obj.cells #[Value.int .i64 0, Value.int .i64 0, Value.int .i64 0, Value.string ⟨#[]⟩] 48)).cell? ⟨w.heap.size + 1, 1, none⟩ = some (.int .i64 0) := by simp
  have r2 : ((w.alloc (Obj.cells #[Value.int .i64 qx, Value.int .i64 tries, Value.string dead] 76)).alloc (Obj.cells #[Value.int .i64 0, Value.int .i64 0, Value.int .i64 0, Value.string ⟨#[]⟩] 48)).cell? ⟨w.heap.size + 1, 2, none⟩ = some (.int .i64 0) := by simp
  have r3 : ((w.alloc (Obj.cells #[Value.int .i64 qx, Value.int .i64 tries, Value.string dead] 76)).alloc (Obj.cells #[Value.int .i64 0, Value.int .i64 0, Value.int .i64 0, Value.string ⟨#[]⟩] 48)).cell? ⟨w.heap.size + 1, 3, none⟩ = some (.string ⟨#[]⟩) := by simp
  have hz : (w.alloc (Obj.cells #[Value.int .i64 qx, Value.int .i64 tries, Value.string dead] 76)).heap.size = w.heap.size + 1 := by simp
  rw [hz] at HOb
  clear h hn HOa hb2 hz
  generalize hR0 : takeQ P name tries dead now (now + long) 1000001 chs rds (fromB name) = R
  have HR0 := hide hR0
  clear hR0
  go_enter Tryz.func57, Tryz.ntmps57
  go_wp2_with (first
    | (go_at_call 87; refine (messagesSpan_any name _ (by omega)).mono ?_; rintro e w1 ⟨rfl, hb1⟩; have HNE : Hid (w.heap.size ≠ w1.heap.size ∧ w.heap.size + 1 ≠ w1.heap.size) := hide (by have := hb1.size; simp at this; omega); have HO1 := hide ((HOb.out.on hb1).box #[Value.string (fromB name), Value.string (toB name)] 91); have hb3 := below_alloc1 w1 (Obj.cells #[Value.string (fromB name), Value.string (toB name)] 91); have HC := hide (TakeC.mk (cell_on hb3 (cell_on hb1 q0)) (cell_on hb3 (cell_on hb1 q1)) (cell_on hb3 (cell_on hb1 q2)) (cell_on hb3 (cell_on hb1 r0)) (cell_on hb3 (cell_on hb1 r1)) (cell_on hb3 (cell_on hb1 r2)) (cell_on hb3 (cell_on hb1 r3)) (cell_new w1 #[Value.string (fromB name), Value.string (toB name)] 91 0) (cell_new w1 #[Value.string (fromB name), Value.string (toB name)] 91 1)); clear q0 q1 q2 r0 r1 r2 r3 HOb hb1 hb3)
    | fail)
  have HI : Hid (TakeR w (w1.alloc (Obj.cells #[Value.string (fromB name), Value.string (toB name)] 91)) B rb w.heap.size (w.heap.size + 1) w1.heap.size G P since name qx tries dead now (now + long) R 1000001) := hide ⟨G, chs, rds, fromB name, HO1.out.less (fun b hb => by rcases hb with rfl | rfl | rfl; exact .inr (.inr (.inl rfl)); exact .inr (.inl rfl); exact .inl rfl), .inl ⟨rfl, Nat.le_refl _⟩, HR0.out, HC.out⟩
  clear HR0 HO1 HC
  generalize (w1.alloc (Obj.cells #[Value.string (fromB name), Value.string (toB name)] 91)) = W0 at *
  generalize w1.heap.size = b2 at *
  go_loopg [] 1000001 (fun k wr => TakeR w wr B rb w.heap.size (w.heap.size + 1) b2 G P since name qx tries dead now (now + long) R k)
  case atStart => exact HI.out
  case round =>
    clear HI
    obtain ⟨G', chs, rds, at_, ho, hat, hR, hC⟩ := hrel
    obtain ⟨k, rfl⟩ : ∃ k, gk = k + 1 := ⟨gk - 1, by have := hat.pos; omega⟩
    have HK : Hid (∀ r L, seenP P chs (at_, toB name) = r :: L → ∃ n, n ≤ 999999 ∧ r.1 = msgB name n ∧ AtQ name k (zeroS r.1) ∧ r.2.size ≤ 40) := hide (fun r L e => by
      have hm : r ∈ seenP P chs (at_, toB name) := by rw [e]; exact List.mem_cons_self ..
      obtain ⟨h1, h2⟩ := seenQ_in ho.qr.ok (at_, toB name) _ hm
      obtain ⟨n, hn, e, ha⟩ := hat.next HN.out h1 (seenP_has ho.qr.ov.rise hm)
      exact ⟨n, hn, e, ha, h2⟩)
    rw [takeQ] at hR
    dsimp only at hR
    unfold firstF firstR firstL at hR
    have HO := hide ho
    have HC := hide hC
    obtain ⟨q0, q1, q2, r0, r1, r2, r3, s0, s1⟩ := hC
    clear hat
    by_cases hf : readF rds (rdS (seenP P chs (at_, toB name)) (at_, toB name) 1) = 0
    · have HSC := hide (qr_scan_ok (at_, toB name) 1 wr ho.qr (by omega) ((scanF_one _ _ _).trans hf))
      rw [scanL_one, show ((1 : Int).toNat) = 1 from rfl] at HSC
      rw [if_pos hf, if_pos hf] at hR
      clear ho hf
      generalize readL rds (rdS (seenP P chs (at_, toB name)) (at_, toB name) 1) = rds1 at *
      generalize seenP P chs (at_, toB name) = L at *
      cases L with
      | nil =>
        dsimp only at hR
        rw [if_neg (by simp)] at hR
        subst hR
        rw [List.take_nil] at HSC
        go_wp2_with (fail)
        (go_at_call 34; refine HSC.out.mono ?_; rintro e w2 ⟨v, rfl, ha⟩; obtain ⟨ao, cap, G2, rfl, hh, hq2, hs2, _⟩ := ha; obtain ⟨ho2, kp⟩ := HO.out.keep hq2 hs2; have HO2 := hide ho2; have HC2 := hide (HC.out.keep kp); clear q0 q1 q2 r0 r1 r2 r3 s0 s1; obtain ⟨q0, q1, q2, r0, r1, r2, r3, s0, s1⟩ := HC2.out; have fz1 := (ho2.ow (w.heap.size + 1) (.inr (.inl rfl))).2.2.2; clear ho2 kp hq2 hs2 hh; rw [List.length_nil])
        go_wp2_with (fail)
        exact bodyPost_ret (v := .tuple #[mV (noM 12), .int .i64 12]) (by simp [results, Tryz.results57, go_sem, r0, r1, r2, r3]) rfl ⟨rfl, ((((HO2.out.set HLO.out (b := w.heap.size + 1) (.inr (.inl rfl)) 0 _).set HLO.out (b := w.heap.size + 1) (.inr (.inl rfl)) 1 _).set HLO.out (b := w.heap.size + 1) (.inr (.inl rfl)) 2 _).set HLO.out (b := w.heap.size + 1) (.inr (.inl rfl)) 3 _).done⟩
      | cons r L =>
        dsimp only at hR
        rw [if_pos rfl] at hR
        rw [show (r :: L).take 1 = [r] from rfl] at HSC
        obtain ⟨n, hn9, hrk, hat, hrv⟩ := HK.out r L rfl
        clear HK
        obtain ⟨rk, rv⟩ := r
        dsimp only at hrk hat hrv hR
        have hrs : rk.size ≤ 900 := by rw [hrk, msg_size]; omega
        have HNO : Hid (∀ W : World, Calls Tryz.prog 89 #[.string rk] W fun e w' => e = .returned (.int .i64 n) ∧ w' = W) := hide (by rw [hrk]; exact fun W => rnumberOf_any name n W (by omega) hn9)
        have hnk : numK rk = n := by rw [hrk]; exact numK_msg name hn9
        rw [hnk] at hR
        have HMO := hide (fun W => mOf_ref rv n (by omega) W)
        have HMF : Hid ((mOf rv n).2.2.2.2 = 0 → (mOf rv n).1 = n ∧ 0 ≤ (mOf rv n).2.1 ∧ (mOf rv n).2.1 ≤ 9) := hide (fun he => by
          rcases mOf_cases rv n with ⟨t, u, d, e, hm, _⟩ | ⟨e, _⟩
          · rw [e]; exact ⟨rfl, Int.natCast_nonneg _, by have := hm.1; show (t : Int) ≤ 9; omega⟩
          · rw [e] at he; cases he)
        have HAT := hide hat
        have HRK := hide hrk
        clear hnk hrk hat hrv
        generalize mOf rv n = m at *
        obtain ⟨mk, mt, mu, md, em⟩ := m
        dsimp only at hR HMO HMF
        have HR := hide hR
        clear hR
        go_wp2_with (fail)
        (go_at_call 34; refine HSC.out.mono ?_; rintro e w2 ⟨v, rfl, ha⟩; obtain ⟨ao, cap, G2, rfl, hh, hq2, hs2, hnwN⟩ := ha; obtain ⟨ho2, kp⟩ := HO.out.keep hq2 hs2; have HO2 := hide ho2; have HC2 := hide (HC.out.keep kp); clear q0 q1 q2 r0 r1 r2 r3 s0 s1; rcases hh with hh | ⟨b, off, rfl, hh⟩; exact absurd hh (by simp); have a0 := (hh 0 (by simp)).1; have a1 := (hh 0 (by simp)).2; clear ho2 kp hq2 hs2 hh; rw [List.length_singleton]; simp only [Nat.zero_mul, Nat.add_zero, List.getElem_cons_zero] at a0 a1)
        go_wp2_with (fail)
        rename_i QQ JJ K1 a2 a1' K0 a0'
        have HBN := hide (hnwN b ⟨off, rfl⟩ (by simp))
        clear hnwN
        have hrest : ∀ (mb : Nat) (W5 : World), OwnR w W5 B rb (fun x => x = mb ∨ (TakeO w.heap.size (w.heap.size + 1) b2) x) G G2 P since chs rds1 → TakeC W5 w.heap.size (w.heap.size + 1) b2 qx tries dead at_ (toB name) → mb ≠ b2 → b ≠ b2 → mb ≠ b → mb ≠ w.heap.size + 1 → W5.cell? ⟨mb, 0, none⟩ = some (.int .i64 mk) → W5.cell? ⟨mb, 1, none⟩ = some (.int .i64 mt) → W5.cell? ⟨mb, 2, none⟩ = some (.int .i64 mu) → W5.cell? ⟨mb, 3, none⟩ = some (.string md) → W5.cell? ⟨b, off, none⟩ = some (.string rk) → Exit.then K0 (Exit.inBlock 1 (Exit.then K1 (Exit.inBlock 0 QQ))) Exit.normal { tmps := #[Value.pointer (some ⟨rb, 0, none⟩), Value.string name, Value.agg #[Value.int .i64 qx, Value.int .i64 tries, Value.string dead], Value.int .i64 now, Value.int .i64 long, undef, undef, Value.pointer (some ⟨w.heap.size, 0, none⟩), undef, undef, Value.pointer (some ⟨w.heap.size + 1, 0, none⟩), u11, Value.pointer (some ⟨b2, 0, none⟩), Value.slice (some ⟨b, off, none⟩) 1 cap, Value.int .i64 (em : Nat), Value.pointer (some ⟨mb, 0, none⟩), u16, u17, u18, Value.string name, Value.agg #[Value.string (fromB name), Value.string (toB name)], Value.tuple #[Value.slice (some ⟨b, off, none⟩) 1 cap, Value.int .i64 0], Value.pointer (some ⟨rb, 0, none⟩), Value.agg #[Value.string at_, Value.string (toB name)], Value.tuple #[Value.slice (some ⟨b, off, none⟩) 1 cap, Value.int .i64 0], Value.slice (some ⟨b, off, none⟩) 1 cap, Value.int .i64 0, Value.int .i64 0, Value.bool false, u29, u30, Value.slice (some ⟨b, off, none⟩) 1 cap, Value.int .i64 1, Value.bool false, u34, Value.tuple #[Value.agg #[Value.int .i64 mk, Value.int .i64 mt, Value.int .i64 mu, Value.string md], Value.int .i64 (em : Nat)], Value.slice (some ⟨b, off, none⟩) 1 cap, Value.pointer (some ⟨b, off, none⟩), Value.pointer (some ⟨b, off, none⟩), Value.string rk, Value.int .i64 (n : Int), Value.slice (some ⟨b, off, none⟩) 1 cap, Value.pointer (some ⟨b, off, none⟩), Value.pointer (some ⟨b, off + 1, none⟩), Value.string rv, Value.tuple #[Value.agg #[Value.int .i64 mk, Value.int .i64 mt, Value.int .i64 mu, Value.string md], Value.int .i64 (em : Nat)], Value.agg #[Value.int .i64 mk, Value.int .i64 mt, Value.int .i64 mu, Value.string md], Value.int .i64 (em : Nat), u48, u49, u50, u51, u52, u53, u54, u55, u56, u57, u58, u59, u60, u61, u62, u63, u64, u65, u66, u67, u68, u69, u70, u71, u72, u73, u74, u75, u76, u77, u78, u79, u80, u81, u82, u83, u84, u85, u86, u87, u88, u89, u90, u91, u92, u93, u94, u95, u96, u97, u98, u99, u100, u101, u102, u103, u104, u105, u106, u107, u108, u109, u110, u111, u112, u113, u114, u115, u116, u117, u118, u119, u120, u121, u122, u123, u124, u125, u126, u127, u128], defers := [] } W5 := by
          intro mb W5 ho5 hc5 hmb hbb hbm' hm1' m0 m1 m2 m3 c0
          have hbm : b ≠ mb := fun e => hbm' e.symm
          have hm1 : w.heap.size + 1 ≠ mb := fun e => hm1' e.symm
          have HO5 := hide ho5
          have HC5 := hide hc5
          obtain ⟨q0, q1, q2, r0, r1, r2, r3, s0, s1⟩ := hc5
          have fz1 := (ho5.ow (w.heap.size + 1) (.inr (.inr (.inl rfl)))).2.2.2
          have fz2 := (ho5.ow b2 (.inr (.inr (.inr rfl)))).2.2.2
          have fzm := (ho5.ow mb (.inl rfl)).2.2.2
          clear ho5
          refine a0' _ _ ?_
          by_cases hem : em = 0
          · subst hem
            have hR := HR.out
            rw [if_pos rfl] at hR
            obtain ⟨hmk, hmt0, hmt9⟩ := HMF.out rfl
            subst hmk
            have x0 : (W5.setCell ⟨b2, 0, none⟩ (.string (rk ++ ⟨#[0]⟩))).cell? ⟨mb, 0, none⟩ = _ := (World.cell?_setCell_other _ _ _ _ (fun e => hmb (congrArg Addr.block e).symm)).trans m0
            have x1 : (W5.setCell ⟨b2, 0, none⟩ (.string (rk ++ ⟨#[0]⟩))).cell? ⟨mb, 1, none⟩ = _ := (World.cell?_setCell_other _ _ _ _ (fun e => hmb (congrArg Addr.block e).symm)).trans m1
            have x2 : (W5.setCell ⟨b2, 0, none⟩ (.string (rk ++ ⟨#[0]⟩))).cell? ⟨mb, 2, none⟩ = _ := (World.cell?_setCell_other _ _ _ _ (fun e => hmb (congrArg Addr.block e).symm)).trans m2
            have x3 : (W5.setCell ⟨b2, 0, none⟩ (.string (rk ++ ⟨#[0]⟩))).cell? ⟨mb, 3, none⟩ = _ := (World.cell?_setCell_other _ _ _ _ (fun e => hmb (congrArg Addr.block e).symm)).trans m3
            have xc : (W5.setCell ⟨b2, 0, none⟩ (.string (rk ++ ⟨#[0]⟩))).cell? ⟨b, off, none⟩ = _ := (World.cell?_setCell_other _ _ _ _ (fun e => hbb (congrArg Addr.block e).symm)).trans c0
            have HO6 := hide (HO5.out.set HLO.out (b := b2) (.inr (.inr (.inr rfl))) 0 (.string (rk ++ ⟨#[0]⟩)))
            have HC6 := hide (HC5.out.next HNE.out.1 HNE.out.2 (rk ++ ⟨#[0]⟩))
            by_cases hu : now < mu
            · rw [if_pos hu] at hR
              have HR2 := hide hR
              have d1 : decide (now < mu) = true := decide_eq_true hu
              clear hR hu HR
              go_wp2_with (fail)
              go_roundg k
              case measure => omega
              case rel => exact ⟨G2, chs, rds1, zeroS rk, HO6.out.less (fun b hb => .inr hb), HAT.out, HR2.out, HC6.out⟩
            · rw [if_neg hu] at hR
              have d1 : decide (now < mu) = false := decide_eq_false hu
              by_cases hmt : mt < tries
              · rw [if_pos hmt] at hR
                have d2 : decide (mt < tries) = true := decide_eq_true hmt
                have hw1 : IntKind.i64.wrap (mt + 1) = mt + 1 := by rw [IntKind.wrap_i64]; omega
                have HKE : Hid (msgB name (numOf (n : Int)) = rk) := hide (by rw [HRK.out, show numOf (n : Int) = n by unfold numOf; omega])
                unfold putMF putML at hR
                rw [HKE.out] at hR
                have HT := hide (fun W => mText_ref n (mt + 1) (now + long) md W)
                have HP := hide (fun (v : ByteArray) (G1 : Nat → Prop) W (hW : QR W B rb G1 P since chs rds1) => qr_put ⟨rk, v, false⟩ W hW (show rk.size ≤ 1000 by omega))
                have HO7 := hide ((HO6.out.set HLO.out (b := mb) (.inl rfl) 1 (.int .i64 (mt + 1))).set HLO.out (b := mb) (.inl rfl) 2 (.int .i64 (now + long)))
                have y0 : (((W5.setCell ⟨b2, 0, none⟩ (.string (rk ++ ⟨#[0]⟩))).setCell ⟨mb, 1, none⟩ (.int .i64 (mt + 1))).setCell ⟨mb, 2, none⟩ (.int .i64 (now + long))).cell? ⟨mb, 0, none⟩ = _ := ((World.cell?_setCell_other _ _ _ _ (fun e => by cases e)).trans (World.cell?_setCell_other _ _ _ _ (fun e => by cases e))).trans x0
                have y1 : (((W5.setCell ⟨b2, 0, none⟩ (.string (rk ++ ⟨#[0]⟩))).setCell ⟨mb, 1, none⟩ (.int .i64 (mt + 1))).setCell ⟨mb, 2, none⟩ (.int .i64 (now + long))).cell? ⟨mb, 1, none⟩ = _ := (World.cell?_setCell_other _ _ _ _ (fun e => by cases e)).trans (World.cell?_setCell_same _ _ _ x1)
                have y2 : (((W5.setCell ⟨b2, 0, none⟩ (.string (rk ++ ⟨#[0]⟩))).setCell ⟨mb, 1, none⟩ (.int .i64 (mt + 1))).setCell ⟨mb, 2, none⟩ (.int .i64 (now + long))).cell? ⟨mb, 2, none⟩ = _ := World.cell?_setCell_same _ _ _ ((World.cell?_setCell_other _ _ _ _ (fun e => by cases e)).trans x2)
                have y3 : (((W5.setCell ⟨b2, 0, none⟩ (.string (rk ++ ⟨#[0]⟩))).setCell ⟨mb, 1, none⟩ (.int .i64 (mt + 1))).setCell ⟨mb, 2, none⟩ (.int .i64 (now + long))).cell? ⟨mb, 3, none⟩ = _ := ((World.cell?_setCell_other _ _ _ _ (fun e => by cases e)).trans (World.cell?_setCell_other _ _ _ _ (fun e => by cases e))).trans x3
                have yc : (((W5.setCell ⟨b2, 0, none⟩ (.string (rk ++ ⟨#[0]⟩))).setCell ⟨mb, 1, none⟩ (.int .i64 (mt + 1))).setCell ⟨mb, 2, none⟩ (.int .i64 (now + long))).cell? ⟨b, off, none⟩ = _ := ((World.cell?_setCell_other _ _ _ _ (fun e => hbm (congrArg Addr.block e).symm)).trans (World.cell?_setCell_other _ _ _ _ (fun e => hbm (congrArg Addr.block e).symm))).trans xc
                have yr0 : (((W5.setCell ⟨b2, 0, none⟩ (.string (rk ++ ⟨#[0]⟩))).setCell ⟨mb, 1, none⟩ (.int .i64 (mt + 1))).setCell ⟨mb, 2, none⟩ (.int .i64 (now + long))).cell? ⟨w.heap.size + 1, 0, none⟩ = _ := (((World.cell?_setCell_other _ _ _ _ (fun e => hm1 (congrArg Addr.block e).symm)).trans (World.cell?_setCell_other _ _ _ _ (fun e => hm1 (congrArg Addr.block e).symm))).trans (World.cell?_setCell_other _ _ _ _ (fun e => HNE.out.2 (congrArg Addr.block e).symm))).trans r0
                have yr1 : (((W5.setCell ⟨b2, 0, none⟩ (.string (rk ++ ⟨#[0]⟩))).setCell ⟨mb, 1, none⟩ (.int .i64 (mt + 1))).setCell ⟨mb, 2, none⟩ (.int .i64 (now + long))).cell? ⟨w.heap.size + 1, 1, none⟩ = _ := (((World.cell?_setCell_other _ _ _ _ (fun e => hm1 (congrArg Addr.block e).symm)).trans (World.cell?_setCell_other _ _ _ _ (fun e => hm1 (congrArg Addr.block e).symm))).trans (World.cell?_setCell_other _ _ _ _ (fun e => HNE.out.2 (congrArg Addr.block e).symm))).trans r1
                have yr2 : (((W5.setCell ⟨b2, 0, none⟩ (.string (rk ++ ⟨#[0]⟩))).setCell ⟨mb, 1, none⟩ (.int .i64 (mt + 1))).setCell ⟨mb, 2, none⟩ (.int .i64 (now + long))).cell? ⟨w.heap.size + 1, 2, none⟩ = _ := (((World.cell?_setCell_other _ _ _ _ (fun e => hm1 (congrArg Addr.block e).symm)).trans (World.cell?_setCell_other _ _ _ _ (fun e => hm1 (congrArg Addr.block e).symm))).trans (World.cell?_setCell_other _ _ _ _ (fun e => HNE.out.2 (congrArg Addr.block e).symm))).trans r2
                have yr3 : (((W5.setCell ⟨b2, 0, none⟩ (.string (rk ++ ⟨#[0]⟩))).setCell ⟨mb, 1, none⟩ (.int .i64 (mt + 1))).setCell ⟨mb, 2, none⟩ (.int .i64 (now + long))).cell? ⟨w.heap.size + 1, 3, none⟩ = _ := (((World.cell?_setCell_other _ _ _ _ (fun e => hm1 (congrArg Addr.block e).symm)).trans (World.cell?_setCell_other _ _ _ _ (fun e => hm1 (congrArg Addr.block e).symm))).trans (World.cell?_setCell_other _ _ _ _ (fun e => HNE.out.2 (congrArg Addr.block e).symm))).trans r3
                generalize mText (mt + 1) (now + long) md = t at *
                obtain ⟨tx, et⟩ := t
                dsimp only at hR HT
                by_cases het : et = 0
                · subst het
                  rw [if_pos rfl, if_pos rfl] at hR
                  subst hR
                  clear HR
                  go_wp2_with (fail)
                  (go_at_call 63; refine (HT.out _).mono ?_; rintro e w8 ⟨rfl, hb8⟩; have HO8 := hide (HO7.out.on hb8); have v0 := cell_on hb8 y0; have v1 := cell_on hb8 y1; have v2 := cell_on hb8 y2; have v3 := cell_on hb8 y3; have v4 := cell_on hb8 yc; have p0 := cell_on hb8 yr0; have p1 := cell_on hb8 yr1; have p2 := cell_on hb8 yr2; have p3 := cell_on hb8 yr3; have fz8 := (HO8.out.ow (w.heap.size + 1) (.inr (.inr (.inl rfl)))).2.2.2; clear hb8)
                  go_wp2_with (fail)
                  (go_at_call 29; refine (HP.out _ _ _ HO8.out.qr).mono ?_; rintro e w9 ⟨rfl, ha⟩; obtain ⟨G9, ho9, kp⟩ := HO8.out.act ha; have HO9 := hide ho9; have fz9 := (ho9.ow (w.heap.size + 1) (.inr (.inr (.inl rfl)))).2.2.2; have g0 := (World.cell?_of_block (kp mb (.inl rfl))).trans v0; have g1 := (World.cell?_of_block (kp mb (.inl rfl))).trans v1; have g2 := (World.cell?_of_block (kp mb (.inl rfl))).trans v2; have g3 := (World.cell?_of_block (kp mb (.inl rfl))).trans v3; have h0 := (World.cell?_of_block (kp (w.heap.size + 1) (.inr (.inr (.inl rfl))))).trans p0; have h1 := (World.cell?_of_block (kp (w.heap.size + 1) (.inr (.inr (.inl rfl))))).trans p1; have h2 := (World.cell?_of_block (kp (w.heap.size + 1) (.inr (.inr (.inl rfl))))).trans p2; have h3 := (World.cell?_of_block (kp (w.heap.size + 1) (.inr (.inr (.inl rfl))))).trans p3; clear ha ho9 kp)
                  go_wp2_with (fail)
                  exact bodyPost_ret (v := .tuple #[mV ((n : Int), mt + 1, now + long, md, alterF chs ⟨rk, tx, false⟩), .int .i64 (alterF chs ⟨rk, tx, false⟩ : Nat)]) (by simp [results, Tryz.results57, go_sem, h0, h1, h2, h3]) rfl ⟨rfl, ((((HO9.out.set HLO.out (b := w.heap.size + 1) (.inr (.inr (.inl rfl))) 0 _).set HLO.out (b := w.heap.size + 1) (.inr (.inr (.inl rfl))) 1 _).set HLO.out (b := w.heap.size + 1) (.inr (.inr (.inl rfl))) 2 _).set HLO.out (b := w.heap.size + 1) (.inr (.inr (.inl rfl))) 3 _).done⟩
                · rw [if_neg het, if_neg het] at hR
                  subst hR
                  have b0 : ((et : Int) == 0) = false := beq_eq_false_iff_ne.2 (by omega)
                  have b1 : ¬ (et : Int) = 0 := by omega
                  clear HR
                  go_wp2_with (fail)
                  (go_at_call 63; refine (HT.out _).mono ?_; rintro e w8 ⟨rfl, hb8⟩; have HO8 := hide (HO7.out.on hb8); have v0 := cell_on hb8 y0; have v1 := cell_on hb8 y1; have v2 := cell_on hb8 y2; have v3 := cell_on hb8 y3; have v4 := cell_on hb8 yc; have p0 := cell_on hb8 yr0; have p1 := cell_on hb8 yr1; have p2 := cell_on hb8 yr2; have p3 := cell_on hb8 yr3; have fz8 := (HO8.out.ow (w.heap.size + 1) (.inr (.inr (.inl rfl)))).2.2.2; clear hb8)
                  go_wp2_with (fail)
                  exact bodyPost_ret (v := .tuple #[mV ((n : Int), mt + 1, now + long, md, et), .int .i64 (et : Nat)]) (by simp [results, Tryz.results57, go_sem, p0, p1, p2, p3]) rfl ⟨rfl, ((((HO8.out.set HLO.out (b := w.heap.size + 1) (.inr (.inr (.inl rfl))) 0 _).set HLO.out (b := w.heap.size + 1) (.inr (.inr (.inl rfl))) 1 _).set HLO.out (b := w.heap.size + 1) (.inr (.inr (.inl rfl))) 2 _).set HLO.out (b := w.heap.size + 1) (.inr (.inr (.inl rfl))) 3 _).done⟩
              · rw [if_neg hmt] at hR
                have d2 : decide (mt < tries) = false := decide_eq_false hmt
                have HPG := hide (fun (G1 : Nat → Prop) W (hW : QR W B rb G1 P since chs rds1) => qr_put ⟨rk, ⟨#[]⟩, true⟩ W hW (show rk.size ≤ 1000 by omega))
                unfold buryQ at hR
                have HFD := hide (fun (c1 : List Chg) (G1 : Nat → Prop) (W : World) (hW : QR W B rb G1 P since c1 rds1) => rfind_any dead W hW hd)
                have HFO := hide (fun (c1 : List Chg) h => findQ_ok (P := P) (chs := c1) (rds := rds1) (name := dead) h)
                have HSD := hide (fun (c1 : List Chg) (r1 : Rws) (a c : Int) (e : ByteArray) (G1 : Nat → Prop) (W : World) (hW : QR W B rb G1 P since c1 r1) (he : e.size ≤ 1000) (ha0 : 0 ≤ a) (ha1 : a ≤ 999999) => rsendTo_any dead a c e md 0 W hW hd he ha0 ha1)
                generalize alterF chs ⟨rk, ⟨#[]⟩, true⟩ = f1 at *
                generalize alterL chs ⟨rk, ⟨#[]⟩, true⟩ = chs1 at *
                by_cases hf1 : f1 = 0
                · subst hf1
                  cases hde : nilS dead with
                  | true =>
                    have hde' : (dead.toList == []) = true := by rw [List.isEmpty_iff.1 hde]; rfl
                    rw [if_pos rfl, if_pos hde, if_pos rfl] at hR
                    have HR2 := hide hR
                    clear hR HR hde HFD HFO HSD
                    go_wp2_with (fail)
                    (go_at_call 29; refine (HPG.out _ _ HO6.out.qr).mono ?_; rintro e w8 ⟨rfl, ha⟩; obtain ⟨G8, ho8, kp⟩ := HO6.out.act ha; have HO8 := hide ho8; have HC8 := hide (HC6.out.keep fun x hx => kp x (.inr hx)); have k3 := (World.cell?_of_block (kp mb (.inl rfl))).trans x3; clear q0 q1 q2 r0 r1 r2 r3 s0 s1; obtain ⟨q0, q1, q2, r0, r1, r2, r3, s0, s1⟩ := HC8.out; have fz8 := (ho8.ow (w.heap.size + 1) (.inr (.inr (.inl rfl)))).2.2.2; clear ha ho8 kp)
                    go_wp2_with (fail)
                    go_roundg k
                    case measure => omega
                    case rel => exact ⟨G8, chs1, rds1, zeroS rk, HO8.out.less (fun b hb => .inr hb), HAT.out, HR2.out, HC8.out⟩
                  | false =>
                    have hde' : (dead.toList == []) = false := by unfold nilS at hde; cases e : dead.toList with | nil => rw [e] at hde; cases hde | cons a l => rfl
                    rw [if_pos rfl] at hR; simp only [if_neg (show ¬ (nilS dead = true) from (by rw [hde]; simp))] at hR
                    clear hde
                    replace HFD := hide (HFD.out chs1)
                    replace HFO := hide (HFO.out chs1)
                    generalize findQ P chs1 rds1 dead = dq at *
                    generalize findL chs1 rds1 dead = rds3 at *
                    obtain ⟨dx, dy, de, f2⟩ := dq
                    dsimp only at hR HFD HFO
                    by_cases hf2 : f2 = 0
                    · subst hf2
                      obtain ⟨hx0, hx1, hd6, _, _⟩ := HFO.out rfl
                      rw [if_pos rfl] at hR
                      have HSD2 := hide (fun (G1 : Nat → Prop) (W : World) (hW : QR W B rb G1 P since chs1 rds3) => HSD.out chs1 rds3 dx dy de G1 W hW (by omega) hx0 hx1)
                      clear HSD HFO
                      generalize addQ chs1 dead dx dy de md 0 = aq at *
                      obtain ⟨ak, f3, chs3⟩ := aq
                      dsimp only at hR HSD2
                      by_cases hf3 : f3 = 0
                      · subst hf3
                        rw [if_pos rfl] at hR
                        have HR2 := hide hR
                        clear hR HR
                        go_wp2_with (fail)
                        (go_at_call 29; refine (HPG.out _ _ HO6.out.qr).mono ?_; rintro e w8 ⟨rfl, ha⟩; obtain ⟨G8, ho8, kp⟩ := HO6.out.act ha; have HO8 := hide ho8; have HC8 := hide (HC6.out.keep fun x hx => kp x (.inr hx)); have k3 := (World.cell?_of_block (kp mb (.inl rfl))).trans x3; clear q0 q1 q2 r0 r1 r2 r3 s0 s1; obtain ⟨q0, q1, q2, r0, r1, r2, r3, s0, s1⟩ := HC8.out; have fz8 := (ho8.ow (w.heap.size + 1) (.inr (.inr (.inl rfl)))).2.2.2; clear ha ho8 kp)
                        go_wp2_with (fail)
                        (go_at_call 27; refine (HFD.out _ _ HO8.out.qr).mono ?_; rintro e w9 ⟨rfl, ha⟩; obtain ⟨G9, ho9, kp⟩ := HO8.out.act ha; have hbD := below_alloc1 w9 (Obj.cells #[Value.int .i64 dx, Value.int .i64 dy, Value.string de] 76); have HO9 := hide (ho9.on hbD); have HC9 := hide ((HC8.out.keep fun x hx => kp x (.inr hx)).on hbD); replace k3 := cell_on hbD ((World.cell?_of_block (kp mb (.inl rfl))).trans k3); have e0 := cell_new w9 #[Value.int .i64 dx, Value.int .i64 dy, Value.string de] 76 0; have e1 := cell_new w9 #[Value.int .i64 dx, Value.int .i64 dy, Value.string de] 76 1; have e2 := cell_new w9 #[Value.int .i64 dx, Value.int .i64 dy, Value.string de] 76 2; clear q0 q1 q2 r0 r1 r2 r3 s0 s1 fz8; obtain ⟨q0, q1, q2, r0, r1, r2, r3, s0, s1⟩ := HC9.out; have fz9 := (HO9.out.ow (w.heap.size + 1) (.inr (.inr (.inl rfl)))).2.2.2; clear ha ho9 kp hbD)
                        go_wp2_with (fail)
                        (go_at_call 56; refine (HSD2.out _ _ HO9.out.qr).mono ?_; rintro e w10 ⟨rfl, ha⟩; obtain ⟨G10, ho10, kp⟩ := HO9.out.act ha; have HO10 := hide ho10; have HC10 := hide (HC9.out.keep fun x hx => kp x (.inr hx)); clear q0 q1 q2 r0 r1 r2 r3 s0 s1 fz9; obtain ⟨q0, q1, q2, r0, r1, r2, r3, s0, s1⟩ := HC10.out; have fz10 := (HO10.out.ow (w.heap.size + 1) (.inr (.inr (.inl rfl)))).2.2.2; clear ha ho10 kp)
                        go_wp2_with (fail)
                        go_roundg k
                        case measure => omega
                        case rel => exact ⟨G10, chs3, rds3, zeroS rk, HO10.out.less (fun b hb => .inr hb), HAT.out, HR2.out, HC10.out⟩
                      · rw [if_neg hf3] at hR
                        subst hR
                        have d3 : decide (0 < (f3 : Int)) = true := decide_eq_true (by omega)
                        have d4 : 0 < (f3 : Int) := by omega
                        clear HR hf3
                        go_wp2_with (fail)
                        (go_at_call 29; refine (HPG.out _ _ HO6.out.qr).mono ?_; rintro e w8 ⟨rfl, ha⟩; obtain ⟨G8, ho8, kp⟩ := HO6.out.act ha; have HO8 := hide ho8; have HC8 := hide (HC6.out.keep fun x hx => kp x (.inr hx)); have k3 := (World.cell?_of_block (kp mb (.inl rfl))).trans x3; clear q0 q1 q2 r0 r1 r2 r3 s0 s1; obtain ⟨q0, q1, q2, r0, r1, r2, r3, s0, s1⟩ := HC8.out; have fz8 := (ho8.ow (w.heap.size + 1) (.inr (.inr (.inl rfl)))).2.2.2; clear ha ho8 kp)
                        go_wp2_with (fail)
                        (go_at_call 27; refine (HFD.out _ _ HO8.out.qr).mono ?_; rintro e w9 ⟨rfl, ha⟩; obtain ⟨G9, ho9, kp⟩ := HO8.out.act ha; have hbD := below_alloc1 w9 (Obj.cells #[Value.int .i64 dx, Value.int .i64 dy, Value.string de] 76); have HO9 := hide (ho9.on hbD); have HC9 := hide ((HC8.out.keep fun x hx => kp x (.inr hx)).on hbD); replace k3 := cell_on hbD ((World.cell?_of_block (kp mb (.inl rfl))).trans k3); have e0 := cell_new w9 #[Value.int .i64 dx, Value.int .i64 dy, Value.string de] 76 0; have e1 := cell_new w9 #[Value.int .i64 dx, Value.int .i64 dy, Value.string de] 76 1; have e2 := cell_new w9 #[Value.int .i64 dx, Value.int .i64 dy, Value.string de] 76 2; clear q0 q1 q2 r0 r1 r2 r3 s0 s1 fz8; obtain ⟨q0, q1, q2, r0, r1, r2, r3, s0, s1⟩ := HC9.out; have fz9 := (HO9.out.ow (w.heap.size + 1) (.inr (.inr (.inl rfl)))).2.2.2; clear ha ho9 kp hbD)
                        go_wp2_with (fail)
                        (go_at_call 56; refine (HSD2.out _ _ HO9.out.qr).mono ?_; rintro e w10 ⟨rfl, ha⟩; obtain ⟨G10, ho10, kp⟩ := HO9.out.act ha; have HO10 := hide ho10; have HC10 := hide (HC9.out.keep fun x hx => kp x (.inr hx)); clear q0 q1 q2 r0 r1 r2 r3 s0 s1 fz9; obtain ⟨q0, q1, q2, r0, r1, r2, r3, s0, s1⟩ := HC10.out; have fz10 := (HO10.out.ow (w.heap.size + 1) (.inr (.inr (.inl rfl)))).2.2.2; clear ha ho10 kp)
                        go_wp2_with (fail)
                        exact bodyPost_ret (v := .tuple #[mV (noM f3), .int .i64 (f3 : Nat)]) (by simp [results, Tryz.results57, go_sem, r0, r1, r2, r3]) rfl ⟨rfl, ((((HO10.out.set HLO.out (b := w.heap.size + 1) (.inr (.inr (.inl rfl))) 0 _).set HLO.out (b := w.heap.size + 1) (.inr (.inr (.inl rfl))) 1 _).set HLO.out (b := w.heap.size + 1) (.inr (.inr (.inl rfl))) 2 _).set HLO.out (b := w.heap.size + 1) (.inr (.inr (.inl rfl))) 3 _).done⟩
                    · rw [if_neg hf2] at hR; dsimp only at hR; rw [if_neg hf2] at hR
                      subst hR
                      have b0 : ((f2 : Int) == 0) = false := beq_eq_false_iff_ne.2 (by omega)
                      have b1 : ¬ (f2 : Int) = 0 := by omega
                      have d3 : decide (0 < (f2 : Int)) = true := decide_eq_true (by omega)
                      have d4 : 0 < (f2 : Int) := by omega
                      clear HR hf2 HSD HFO
                      go_wp2_with (fail)
                      (go_at_call 29; refine (HPG.out _ _ HO6.out.qr).mono ?_; rintro e w8 ⟨rfl, ha⟩; obtain ⟨G8, ho8, kp⟩ := HO6.out.act ha; have HO8 := hide ho8; have HC8 := hide (HC6.out.keep fun x hx => kp x (.inr hx)); have k3 := (World.cell?_of_block (kp mb (.inl rfl))).trans x3; clear q0 q1 q2 r0 r1 r2 r3 s0 s1; obtain ⟨q0, q1, q2, r0, r1, r2, r3, s0, s1⟩ := HC8.out; have fz8 := (ho8.ow (w.heap.size + 1) (.inr (.inr (.inl rfl)))).2.2.2; clear ha ho8 kp)
                      go_wp2_with (fail)
                      (go_at_call 27; refine (HFD.out _ _ HO8.out.qr).mono ?_; rintro e w9 ⟨rfl, ha⟩; obtain ⟨G9, ho9, kp⟩ := HO8.out.act ha; have hbD := below_alloc1 w9 (Obj.cells #[Value.int .i64 dx, Value.int .i64 dy, Value.string de] 76); have HO9 := hide (ho9.on hbD); have HC9 := hide ((HC8.out.keep fun x hx => kp x (.inr hx)).on hbD); replace k3 := cell_on hbD ((World.cell?_of_block (kp mb (.inl rfl))).trans k3); have e0 := cell_new w9 #[Value.int .i64 dx, Value.int .i64 dy, Value.string de] 76 0; have e1 := cell_new w9 #[Value.int .i64 dx, Value.int .i64 dy, Value.string de] 76 1; have e2 := cell_new w9 #[Value.int .i64 dx, Value.int .i64 dy, Value.string de] 76 2; clear q0 q1 q2 r0 r1 r2 r3 s0 s1 fz8; obtain ⟨q0, q1, q2, r0, r1, r2, r3, s0, s1⟩ := HC9.out; have fz9 := (HO9.out.ow (w.heap.size + 1) (.inr (.inr (.inl rfl)))).2.2.2; clear ha ho9 kp hbD)
                      go_wp2_with (fail)
                      exact bodyPost_ret (v := .tuple #[mV (noM f2), .int .i64 (f2 : Nat)]) (by simp [results, Tryz.results57, go_sem, r0, r1, r2, r3]) rfl ⟨rfl, ((((HO9.out.set HLO.out (b := w.heap.size + 1) (.inr (.inr (.inl rfl))) 0 _).set HLO.out (b := w.heap.size + 1) (.inr (.inr (.inl rfl))) 1 _).set HLO.out (b := w.heap.size + 1) (.inr (.inr (.inl rfl))) 2 _).set HLO.out (b := w.heap.size + 1) (.inr (.inr (.inl rfl))) 3 _).done⟩
                · rw [if_neg hf1, if_neg hf1] at hR
                  subst hR
                  have d3 : decide (0 < (f1 : Int)) = true := decide_eq_true (by omega)
                  have d4 : 0 < (f1 : Int) := by omega
                  clear HR hf1 HSD HFO HFD
                  go_wp2_with (fail)
                  (go_at_call 29; refine (HPG.out _ _ HO6.out.qr).mono ?_; rintro e w8 ⟨rfl, ha⟩; obtain ⟨G8, ho8, kp⟩ := HO6.out.act ha; have HO8 := hide ho8; have HC8 := hide (HC6.out.keep fun x hx => kp x (.inr hx)); have k3 := (World.cell?_of_block (kp mb (.inl rfl))).trans x3; clear q0 q1 q2 r0 r1 r2 r3 s0 s1; obtain ⟨q0, q1, q2, r0, r1, r2, r3, s0, s1⟩ := HC8.out; have fz8 := (ho8.ow (w.heap.size + 1) (.inr (.inr (.inl rfl)))).2.2.2; clear ha ho8 kp)
                  go_wp2_with (fail)
                  exact bodyPost_ret (v := .tuple #[mV (noM f1), .int .i64 (f1 : Nat)]) (by simp [results, Tryz.results57, go_sem, r0, r1, r2, r3]) rfl ⟨rfl, ((((HO8.out.set HLO.out (b := w.heap.size + 1) (.inr (.inr (.inl rfl))) 0 _).set HLO.out (b := w.heap.size + 1) (.inr (.inr (.inl rfl))) 1 _).set HLO.out (b := w.heap.size + 1) (.inr (.inr (.inl rfl))) 2 _).set HLO.out (b := w.heap.size + 1) (.inr (.inr (.inl rfl))) 3 _).done⟩
          · have hR := HR.out
            rw [if_neg hem] at hR
            subst hR
            have d0 : decide (0 < (em : Int)) = true := decide_eq_true (by omega)
            have d1 : 0 < (em : Int) := by omega
            clear hem HR
            go_wp2_with (fail)
            exact bodyPost_ret (v := .tuple #[mV (noM em), .int .i64 (em : Nat)]) (by simp [results, Tryz.results57, go_sem, r0, r1, r2, r3]) rfl ⟨rfl, ((((HO5.out.set HLO.out (b := w.heap.size + 1) (.inr (.inr (.inl rfl))) 0 _).set HLO.out (b := w.heap.size + 1) (.inr (.inr (.inl rfl))) 1 _).set HLO.out (b := w.heap.size + 1) (.inr (.inr (.inl rfl))) 2 _).set HLO.out (b := w.heap.size + 1) (.inr (.inr (.inl rfl))) 3 _).done⟩
        have HREST := hide hrest
        clear hrest a0' a1' a2
        have hblt := World.block_lt_of_cell? _ _ a0
        go_region_with (first
          | (go_at_call 89; refine (HNO.out _).mono ?_; rintro e wn ⟨rfl, rfl⟩)
          | (go_at_call 88; refine (HMO.out _).mono ?_; rintro e w4 ⟨rfl, hb4⟩; first | (have z0 : w4.cell? ⟨w2.heap.size, 0, none⟩ = some (.int .i64 0) := cell_on hb4 (by simp); have z1 : w4.cell? ⟨w2.heap.size, 1, none⟩ = some (.int .i64 0) := cell_on hb4 (by simp); have z2 : w4.cell? ⟨w2.heap.size, 2, none⟩ = some (.int .i64 0) := cell_on hb4 (by simp); have z3 : w4.cell? ⟨w2.heap.size, 3, none⟩ = some (.string ⟨#[]⟩) := cell_on hb4 (by simp); have zf : ∀ j, w4.frozen? ⟨w2.heap.size, j, none⟩ = false := fun j => frozen_on hb4 (by simp) (by exact frozen_new _ _ _ j)) | skip)
          | fail)
        all_goals first
          | (have hq : Below w2.heap.size w2 w4 := ((Below.refl w2.heap.size w2).drew).trans hb4
             have hbw := HBN.out
             have hb2w := (HO.out.ow b2 (.inr (.inr rfl))).2.2.1
             have hbM := below_alloc1 w4 (Obj.cells #[Value.int .i64 mk, Value.int .i64 mt, Value.int .i64 mu, Value.string md] 48)
             have hso' := (HO2.out.ow (w.heap.size + 1) (.inr (.inl rfl))).2.2.1
             have hsz := (HO2.out.ow b2 (.inr (.inr rfl))).2.2.1
             exact HREST.out w4.heap.size _ (((HO2.out.on hq).box #[Value.int .i64 mk, Value.int .i64 mt, Value.int .i64 mu, Value.string md] 48).less (fun x hx => hx)) ((HC2.out.on hq).on hbM) (by have := hq.size; omega) (by omega) (by have := hq.size; omega) (by have := hq.size; have := HO.out.st.bel.size; have := hso' ; omega) (cell_new w4 _ _ 0) (cell_new w4 _ _ 1) (cell_new w4 _ _ 2) (cell_new w4 _ _ 3) (cell_on hbM (cell_on hq a0)))
          | (have hq : Below (w2.alloc (Obj.cells #[Value.int .i64 0, Value.int .i64 0, Value.int .i64 0, Value.string ⟨#[]⟩] 48)).heap.size (w2.alloc (Obj.cells #[Value.int .i64 0, Value.int .i64 0, Value.int .i64 0, Value.string ⟨#[]⟩] 48)) w4 := ((Below.refl _ (w2.alloc (Obj.cells #[Value.int .i64 0, Value.int .i64 0, Value.int .i64 0, Value.string ⟨#[]⟩] 48))).drew).trans hb4
             have hbw := HBN.out
             have hb2w := (HO.out.ow b2 (.inr (.inr rfl))).2.2.1
             have hbZ := below_alloc1 w2 (Obj.cells #[Value.int .i64 0, Value.int .i64 0, Value.int .i64 0, Value.string ⟨#[]⟩] 48)
             have hsz := (HO2.out.ow b2 (.inr (.inr rfl))).2.2.1
             have hoz := ((HO2.out.box #[Value.int .i64 0, Value.int .i64 0, Value.int .i64 0, Value.string ⟨#[]⟩] 48).on hq)
             have hcz := ((HC2.out.on hbZ).on hq)
             have hso := fun x (hx : TakeO w.heap.size (w.heap.size + 1) b2 x) => (HO2.out.ow x hx).2.2.1
             have az := cell_on hq (cell_on hbZ a0)
             have S4 := set4 w4 w2.heap.size (.int .i64 mk) (.int .i64 mt) (.int .i64 mu) (.string md) z0 z1 z2 z3
             exact HREST.out w2.heap.size _ ((((hoz.set HLO.out (b := w2.heap.size) (.inl rfl) 0 (.int .i64 mk)).set HLO.out (b := w2.heap.size) (.inl rfl) 1 (.int .i64 mt)).set HLO.out (b := w2.heap.size) (.inl rfl) 2 (.int .i64 mu)).set HLO.out (b := w2.heap.size) (.inl rfl) 3 (.string md)) (hcz.keep fun x hx => S4.2.2.2.2 x (by have := hso x hx; omega)) (by omega) (by omega) (by omega) (by have := hso (w.heap.size + 1) (.inr (.inl rfl)); omega) S4.1 S4.2.1 S4.2.2.1 S4.2.2.2.1 ((World.cell?_of_block (S4.2.2.2.2 b (by omega))).trans az))
    · have HSC := hide (qr_scan_bad (at_, toB name) 1 wr ho.qr (by omega) (fun e => hf ((scanF_one _ _ _).symm.trans e)))
      rw [scanL_one, scanF_one] at HSC
      simp only [if_neg hf] at hR
      clear ho HK
      generalize readL rds (rdS (seenP P chs (at_, toB name)) (at_, toB name) 1) = rds1 at *
      generalize readF rds (rdS (seenP P chs (at_, toB name)) (at_, toB name) 1) = f at *
      subst hR
      have d0 : decide (0 < (f : Int)) = true := decide_eq_true (by omega)
      have d1 : 0 < (f : Int) := by omega
      clear hf
      go_wp2_with (fail)
      (go_at_call 34; refine HSC.out.mono ?_; rintro e w2 ⟨rfl, ha⟩; obtain ⟨G2, ho2, kp⟩ := HO.out.act ha; have HO2 := hide ho2; have HC2 := hide (HC.out.keep kp); clear q0 q1 q2 r0 r1 r2 r3 s0 s1; obtain ⟨q0, q1, q2, r0, r1, r2, r3, s0, s1⟩ := HC2.out; have fz1 := (ho2.ow (w.heap.size + 1) (.inr (.inl rfl))).2.2.2; clear ho2 kp ha)
      go_wp2_with (fail)
      exact bodyPost_ret (v := .tuple #[mV (noM f), .int .i64 (f : Nat)]) (by simp [results, Tryz.results57, go_sem, r0, r1, r2, r3]) rfl ⟨rfl, ((((HO2.out.set HLO.out (b := w.heap.size + 1) (.inr (.inl rfl)) 0 _).set HLO.out (b := w.heap.size + 1) (.inr (.inl rfl)) 1 _).set HLO.out (b := w.heap.size + 1) (.inr (.inl rfl)) 2 _).set HLO.out (b := w.heap.size + 1) (.inr (.inl rfl)) 3 _).done⟩
end Go.Proofs.YtighpalbodhfeaaGreatDoor
