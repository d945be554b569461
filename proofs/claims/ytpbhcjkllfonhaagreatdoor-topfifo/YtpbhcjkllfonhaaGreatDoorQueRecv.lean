/-
  What queue.whole makes of an act that takes up a message, and what queue.Receive returns.
-/
import Derived.Test.YtpbhcjkllfonhaaGreatDoorQueOwn
import Derived.Test.YtpbhcjkllfonhaaGreatDoorQueAdd
namespace Go.Proofs.YtpbhcjkllfonhaaGreatDoor
open Go.RowKit Go.Joins Go.Shelf
attribute [local go_sem ↓] Go.wp_at_zero Go.wp_at_succ

set_option maxHeartbeats 4000000 in
theorem qwholeM_any {a0 a1 a2 a3 a4 : Value} {m : Msg} {chs' : List Chg} {rds' : Rws} {B wb : Nat} {S : Nat → Prop} {P : Rws} {since : Int} {chs : List Chg} {rds : Rws} (w : World) (h : QV w B wb S P since chs rds)
    (hc : ∀ W, Below w.heap.size w W → Calls Tryz.prog 57 #[a0, a1, a2, a3, a4] W fun e w' => e = .returned (.tuple #[mV m, errV m.2.2.2.2]) ∧ ActQ W w' B wb S P since chs' rds') :
    Calls Tryz.prog 56 #[.pointer (some ⟨wb, 0, none⟩), .func (.func 57) #[] #[a0, a1, a2, a3, a4]] w fun e w' => e = .returned (.tuple #[mV (if m.2.2.2.2 = 0 then m else noM m.2.2.2.2), errV m.2.2.2.2]) ∧ ActQ w w' B wb S P since (if m.2.2.2.2 = 0 then chs' else chs) rds' := by
  have n1 := err_neq_nil 116
  have HQ := hide h
  have HC := hide hc
  have HLO := hide h.pv.lo
  have hbR := below_alloc1 w (Obj.cells #[Value.int .i64 0, Value.int .i64 0, Value.int .i64 0, Value.string ⟨#[]⟩] 51)
  have HX := hide (BoxQ.start h #[Value.int .i64 0, Value.int .i64 0, Value.int .i64 0, Value.string ⟨#[]⟩] 51)
  have HBR := hide hbR
  have HMK := hide (pv_mark _ HX.out.qv.pv)
  have r0 : (w.alloc (Obj.cells #[Value.int .i64 0, Value.int .i64 0, Value.int .i64 0, Value.string ⟨#[]⟩] 51)).cell? ⟨w.heap.size, 0, none⟩ = some (Value.int .i64 0) := by simp
  have r1 : (w.alloc (Obj.cells #[Value.int .i64 0, Value.int .i64 0, Value.int .i64 0, Value.string ⟨#[]⟩] 51)).cell? ⟨w.heap.size, 1, none⟩ = some (Value.int .i64 0) := by simp
  have r2 : (w.alloc (Obj.cells #[Value.int .i64 0, Value.int .i64 0, Value.int .i64 0, Value.string ⟨#[]⟩] 51)).cell? ⟨w.heap.size, 2, none⟩ = some (Value.int .i64 0) := by simp
  have r3 : (w.alloc (Obj.cells #[Value.int .i64 0, Value.int .i64 0, Value.int .i64 0, Value.string ⟨#[]⟩] 51)).cell? ⟨w.heap.size, 3, none⟩ = some (Value.string ⟨#[]⟩) := by simp
  obtain ⟨mk, mt, mu, md, em⟩ := m
  dsimp only at HC ⊢
  clear h hc hbR
  by_cases hf : em = 0
  · subst hf
    rw [if_pos rfl, if_pos rfl]
    go_enter Tryz.func56, Tryz.ntmps56
    go_wp2_with (first
      | (go_at_call 99; refine HMK.out.mono ?_; rintro e w1 ⟨mv, rfl, ho, hb1⟩; obtain ⟨ma1, mc1, hmv, _, _⟩ := ownCh_has ho; subst hmv; have HB1 := hide hb1; have HX1 := hide (HX.out.on hb1); replace r0 := cell_on hb1 r0; replace r1 := cell_on hb1 r1; replace r2 := cell_on hb1 r2; replace r3 := cell_on hb1 r3; clear ho hb1)
      | (go_at_call 57; refine (HC.out _ (below_on HBR.out (Nat.le_refl _) HB1.out)).mono ?_; rintro e w2 ⟨rfl, ha⟩; obtain ⟨S2, hx2, eb⟩ := HX1.out.act ha; have hbA := below_alloc1 w2 (Obj.cells #[Value.int .i64 mk, Value.int .i64 mt, Value.int .i64 mu, Value.string md] 51); have HX2 := hide (hx2.on hbA); have fz := HX2.out.fz; replace r0 := cell_on hbA ((World.cell?_of_block eb).trans r0); replace r1 := cell_on hbA ((World.cell?_of_block eb).trans r1); replace r2 := cell_on hbA ((World.cell?_of_block eb).trans r2); replace r3 := cell_on hbA ((World.cell?_of_block eb).trans r3); clear ha hx2 eb hbA; rw [errV_zero])
      | fail)
    exact bodyPost_ret (v := .tuple #[mV (mk, mt, mu, md, 0), errV 0]) (by simp [errV, results, Tryz.results56, go_sem, r0, r1, r2, r3]) rfl ⟨rfl, ((((HX2.out.set HLO.out 0 _).set HLO.out 1 _).set HLO.out 2 _).set HLO.out 3 _).done⟩
  · rw [if_neg hf, if_neg hf]
    have HE := hide (errV_pos hf)
    clear hf
    go_enter Tryz.func56, Tryz.ntmps56
    go_wp2_with (first
      | (go_at_call 99; refine HMK.out.mono ?_; rintro e w1 ⟨mv, rfl, ho, hb1⟩; obtain ⟨ma1, mc1, hmv, _, _⟩ := ownCh_has ho; subst hmv; have HB1 := hide hb1; have HO := hide ho; have HX1 := hide (HX.out.on hb1); replace r0 := cell_on hb1 r0; replace r1 := cell_on hb1 r1; replace r2 := cell_on hb1 r2; replace r3 := cell_on hb1 r3; clear ho hb1)
      | (go_at_call 57; refine (HC.out _ (below_on HBR.out (Nat.le_refl _) HB1.out)).mono ?_; rintro e w2 ⟨rfl, ha⟩; obtain ⟨S2, hq2, hs2⟩ := ha; have HO2 := hide (own_block HO.out fun k e => ((HX.out.qv.new hs2 (World.ownsRow.lt HO.out k e).1 (World.ownsRow.lt HO.out k e).2).1)); obtain ⟨hx2, eb⟩ := HX1.out.go hq2 hs2; have hbA := below_alloc1 w2 (Obj.cells #[Value.int .i64 mk, Value.int .i64 mt, Value.int .i64 mu, Value.string md] 51); have HX2 := hide (hx2.on hbA); have HO3 := hide (own_on HO2.out hbA); replace r0 := cell_on hbA ((World.cell?_of_block eb).trans r0); replace r1 := cell_on hbA ((World.cell?_of_block eb).trans r1); replace r2 := cell_on hbA ((World.cell?_of_block eb).trans r2); replace r3 := cell_on hbA ((World.cell?_of_block eb).trans r3); clear hq2 hs2 hx2 eb hbA; rw [HE.out])
      | (go_at_call 100; refine (qv_back _ HX2.out.qv HO3.out HQ.out.pv.ok.cn HQ.out.pv.ok.ck HQ.out.pv.ok.cr HQ.out.ok).mono ?_; rintro e w3 ⟨rfl, ha⟩; obtain ⟨S3, hx3, eb⟩ := HX2.out.act ha; have hbA := below_alloc1 w3 (Obj.cells #[Value.int .i64 0, Value.int .i64 0, Value.int .i64 0, Value.string ⟨#[]⟩] 51); have HX3 := hide (hx3.on hbA); have fz := HX3.out.fz; replace r0 := cell_on hbA ((World.cell?_of_block eb).trans r0); replace r1 := cell_on hbA ((World.cell?_of_block eb).trans r1); replace r2 := cell_on hbA ((World.cell?_of_block eb).trans r2); replace r3 := cell_on hbA ((World.cell?_of_block eb).trans r3); clear ha hx3 eb hbA)
      | fail)
    exact bodyPost_ret (v := .tuple #[mV (noM em), errV em]) (by simp [results, Tryz.results56, go_sem, r0, r1, r2, r3, HE.out]) rfl ⟨rfl, ((((HX3.out.set HLO.out 0 _).set HLO.out 1 _).set HLO.out 2 _).set HLO.out 3 _).done⟩
end Go.Proofs.YtpbhcjkllfonhaaGreatDoor

/-
  What queue.Receive returns, of every view.
-/
namespace Go.Proofs.YtpbhcjkllfonhaaGreatDoor
open Go.RowKit Go.Joins Go.Shelf
attribute [local go_sem ↓] Go.wp_at_zero Go.wp_at_succ

set_option maxHeartbeats 4000000 in
theorem qrecvFn_any (pb nb qb ob lb : Nat) (name : ByteArray) (qx tries : Int) (dead : ByteArray) (now long : Int) {B wb : Nat} {S : Nat → Prop} {P : Rws} {since : Int} {chs : List Chg} {rds : Rws} (w : World) (h : QV w B wb S P since chs rds) (hn : nameL name.data.toList = true) (hd : dead.size ≤ 1000) (ht : tries ≤ 9) (h0 : 0 ≤ now) (h1 : now ≤ 1000000) (h2 : 0 ≤ long) (h3 : long ≤ 1000000)
    (c0 : w.cell? ⟨pb, 0, none⟩ = some (.pointer (some ⟨wb, 0, none⟩))) (c1 : w.cell? ⟨nb, 0, none⟩ = some (.string name)) (c2 : w.cell? ⟨qb, 0, none⟩ = some (.int .i64 qx)) (c3 : w.cell? ⟨qb, 1, none⟩ = some (.int .i64 tries)) (c4 : w.cell? ⟨qb, 2, none⟩ = some (.string dead)) (c5 : w.cell? ⟨ob, 0, none⟩ = some (.int .i64 now)) (c6 : w.cell? ⟨lb, 0, none⟩ = some (.int .i64 long)) :
    Calls Tryz.prog 57 #[.pointer (some ⟨pb, 0, none⟩), .pointer (some ⟨nb, 0, none⟩), .pointer (some ⟨qb, 0, none⟩), .pointer (some ⟨ob, 0, none⟩), .pointer (some ⟨lb, 0, none⟩)] w fun e w' => e = .returned (.tuple #[mV (takeQ P name tries dead now (now + long) 1000001 chs rds (fromB name)).1, errV (takeQ P name tries dead now (now + long) 1000001 chs rds (fromB name)).1.2.2.2.2]) ∧ ActQ w w' B wb S P since (takeQ P name tries dead now (now + long) 1000001 chs rds (fromB name)).2.1 (takeQ P name tries dead now (now + long) 1000001 chs rds (fromB name)).2.2 := by
  have HX := hide (BoxQ.start h #[Value.int .i64 0, Value.int .i64 0, Value.int .i64 0, Value.string ⟨#[]⟩] 51)
  have HLO := hide h.pv.lo
  have hbA := below_alloc1 w (Obj.cells #[Value.int .i64 0, Value.int .i64 0, Value.int .i64 0, Value.string ⟨#[]⟩] 51)
  replace c0 := cell_on hbA c0
  replace c1 := cell_on hbA c1
  replace c2 := cell_on hbA c2
  replace c3 := cell_on hbA c3
  replace c4 := cell_on hbA c4
  replace c5 := cell_on hbA c5
  replace c6 := cell_on hbA c6
  have r0 : (w.alloc (Obj.cells #[Value.int .i64 0, Value.int .i64 0, Value.int .i64 0, Value.string ⟨#[]⟩] 51)).cell? ⟨w.heap.size, 0, none⟩ = some (Value.int .i64 0) := by simp
  have r1 : (w.alloc (Obj.cells #[Value.int .i64 0, Value.int .i64 0, Value.int .i64 0, Value.string ⟨#[]⟩] 51)).cell? ⟨w.heap.size, 1, none⟩ = some (Value.int .i64 0) := by simp
  have r2 : (w.alloc (Obj.cells #[Value.int .i64 0, Value.int .i64 0, Value.int .i64 0, Value.string ⟨#[]⟩] 51)).cell? ⟨w.heap.size, 2, none⟩ = some (Value.int .i64 0) := by simp
  have r3 : (w.alloc (Obj.cells #[Value.int .i64 0, Value.int .i64 0, Value.int .i64 0, Value.string ⟨#[]⟩] 51)).cell? ⟨w.heap.size, 3, none⟩ = some (Value.string ⟨#[]⟩) := by simp
  have hw1 : IntKind.i64.wrap (now + long) = now + long := by rw [IntKind.wrap_i64]; omega
  have HT := hide (qtake_any name qx tries dead now (now + long) _ HX.out.qv hn hd ht)
  clear h hbA hn
  generalize takeQ P name tries dead now (now + long) 1000001 chs rds (fromB name) = r at *
  obtain ⟨⟨mk, mt, mu, md, em⟩, chs1, rds1⟩ := r
  dsimp only at HT ⊢
  go_enter Tryz.func57, Tryz.ntmps57
  go_wp2_with (first
    | (go_at_call 58; refine HT.out.mono ?_; rintro e w1 ⟨rfl, ha⟩; obtain ⟨S1, hx1, eb⟩ := HX.out.act ha; have fz := hx1.fz; replace r0 := (World.cell?_of_block eb).trans r0; replace r1 := (World.cell?_of_block eb).trans r1; replace r2 := (World.cell?_of_block eb).trans r2; replace r3 := (World.cell?_of_block eb).trans r3; have HX1 := hide hx1; clear ha hx1 eb c0 c1 c2 c3 c4 c5 c6)
    | fail)
  exact bodyPost_ret (v := .tuple #[mV (mk, mt, mu, md, em), errV em]) (by simp [results, Tryz.results57, go_sem, r0, r1, r2, r3]) rfl ⟨rfl, ((((HX1.out.set HLO.out 0 _).set HLO.out 1 _).set HLO.out 2 _).set HLO.out 3 _).done⟩
theorem timeMay_bd {n : Int} (h : timeMay n = true) : 0 ≤ n ∧ n ≤ 1000000 := by unfold timeMay at h; rw [Bool.and_eq_true, decide_eq_true_eq, decide_eq_true_eq] at h; exact h
def RecvO (s b : Nat) : Prop := s ≤ b ∧ b < s + 5
set_option maxHeartbeats 8000000 in
theorem qreceive_any (name : ByteArray) (now long : Int) {B wb : Nat} {S : Nat → Prop} {P : Rws} {since : Int} {chs : List Chg} {rds : Rws} (w : World) (h : QV w B wb S P since chs rds) (hn : name.size ≤ 1000) :
    Calls Tryz.prog 18 #[.pointer (some ⟨wb, 0, none⟩), .string name, .int .i64 now, .int .i64 long] w fun e w' => e = .returned (.tuple #[mV (receiveQ P chs rds name now long).1, errV (receiveQ P chs rds name now long).1.2.2.2.2]) ∧ ActQ w w' B wb S P since (receiveQ P chs rds name now long).2.1 (receiveQ P chs rds name now long).2.2 := by
  have n1 := err_neq_nil 116
  have hmf : ∀ (fn : Fn) (first cap : Array Value) (w : World), (Instr.makeFunc fn first cap).run Tryz.prog w = .ok (.func fn first cap) w := fun _ _ _ _ => rfl
  have HLO := hide h.pv.lo
  have HFO := hide (fun h => findQ_ok (P := P) (chs := chs) (rds := rds) (name := name) h)
  have HFN : Hid ((findQ P chs rds name).2.2.2 = 0 → nameL name.data.toList = true) := hide (fun he => by unfold findQ at he; split at he; assumption; cases he)
  have z1 : (w.alloc (Obj.cells #[Value.pointer (some ⟨wb, 0, none⟩)] 27)).heap.size = w.heap.size + 1 := by simp
  have z2 : ((w.alloc (Obj.cells #[Value.pointer (some ⟨wb, 0, none⟩)] 27)).alloc (Obj.cells #[Value.string name] 9)).heap.size = w.heap.size + 1 + 1 := by simp
  have z3 : (((w.alloc (Obj.cells #[Value.pointer (some ⟨wb, 0, none⟩)] 27)).alloc (Obj.cells #[Value.string name] 9)).alloc (Obj.cells #[Value.int .i64 now] 3)).heap.size = w.heap.size + 1 + 1 + 1 := by simp
  have z4 : ((((w.alloc (Obj.cells #[Value.pointer (some ⟨wb, 0, none⟩)] 27)).alloc (Obj.cells #[Value.string name] 9)).alloc (Obj.cells #[Value.int .i64 now] 3)).alloc (Obj.cells #[Value.int .i64 long] 3)).heap.size = w.heap.size + 1 + 1 + 1 + 1 := by simp
  have z5 : (((((w.alloc (Obj.cells #[Value.pointer (some ⟨wb, 0, none⟩)] 27)).alloc (Obj.cells #[Value.string name] 9)).alloc (Obj.cells #[Value.int .i64 now] 3)).alloc (Obj.cells #[Value.int .i64 long] 3)).alloc (Obj.cells #[Value.int .i64 0, Value.int .i64 0, Value.int .i64 0, Value.string ⟨#[]⟩] 51)).heap.size = w.heap.size + 1 + 1 + 1 + 1 + 1 := by simp
  have HOx := hide (((((OwnQ.start h).box #[Value.pointer (some ⟨wb, 0, none⟩)] 27).box #[Value.string name] 9).box #[Value.int .i64 now] 3).box #[Value.int .i64 long] 3 |>.box #[Value.int .i64 0, Value.int .i64 0, Value.int .i64 0, Value.string ⟨#[]⟩] 51)
  rw [z1, z2, z3, z4] at HOx
  have HO := hide (HOx.out.less (O' := RecvO w.heap.size) (fun b hb => by unfold RecvO at hb; show b = w.heap.size + 1 + 1 + 1 + 1 ∨ b = w.heap.size + 1 + 1 + 1 ∨ b = w.heap.size + 1 + 1 ∨ b = w.heap.size + 1 ∨ b = w.heap.size ∨ False; omega))
  have hb1 := below_alloc1 w (Obj.cells #[Value.pointer (some ⟨wb, 0, none⟩)] 27)
  have hb2 := below_alloc1 (w.alloc (Obj.cells #[Value.pointer (some ⟨wb, 0, none⟩)] 27)) (Obj.cells #[Value.string name] 9)
  have hb3 := below_alloc1 ((w.alloc (Obj.cells #[Value.pointer (some ⟨wb, 0, none⟩)] 27)).alloc (Obj.cells #[Value.string name] 9)) (Obj.cells #[Value.int .i64 now] 3)
  have hb4 := below_alloc1 (((w.alloc (Obj.cells #[Value.pointer (some ⟨wb, 0, none⟩)] 27)).alloc (Obj.cells #[Value.string name] 9)).alloc (Obj.cells #[Value.int .i64 now] 3)) (Obj.cells #[Value.int .i64 long] 3)
  have hb5 := below_alloc1 ((((w.alloc (Obj.cells #[Value.pointer (some ⟨wb, 0, none⟩)] 27)).alloc (Obj.cells #[Value.string name] 9)).alloc (Obj.cells #[Value.int .i64 now] 3)).alloc (Obj.cells #[Value.int .i64 long] 3)) (Obj.cells #[Value.int .i64 0, Value.int .i64 0, Value.int .i64 0, Value.string ⟨#[]⟩] 51)
  have c0 : (((((w.alloc (Obj.cells #[Value.pointer (some ⟨wb, 0, none⟩)] 27)).alloc (Obj.cells #[Value.string name] 9)).alloc (Obj.cells #[Value.int .i64 now] 3)).alloc (Obj.cells #[Value.int .i64 long] 3)).alloc (Obj.cells #[Value.int .i64 0, Value.int .i64 0, Value.int .i64 0, Value.string ⟨#[]⟩] 51)).cell? ⟨w.heap.size, 0, none⟩ = some (.pointer (some ⟨wb, 0, none⟩)) := (cell_on hb5 (cell_on hb4 (cell_on hb3 (cell_on hb2 (cell_new w _ _ 0)))))
  have c1 : (((((w.alloc (Obj.cells #[Value.pointer (some ⟨wb, 0, none⟩)] 27)).alloc (Obj.cells #[Value.string name] 9)).alloc (Obj.cells #[Value.int .i64 now] 3)).alloc (Obj.cells #[Value.int .i64 long] 3)).alloc (Obj.cells #[Value.int .i64 0, Value.int .i64 0, Value.int .i64 0, Value.string ⟨#[]⟩] 51)).cell? ⟨w.heap.size + 1, 0, none⟩ = some (.string name) := (cell_on hb5 (cell_on hb4 (cell_on hb3 (by rw [← z1]; exact cell_new _ _ _ 0))))
  have c2 : (((((w.alloc (Obj.cells #[Value.pointer (some ⟨wb, 0, none⟩)] 27)).alloc (Obj.cells #[Value.string name] 9)).alloc (Obj.cells #[Value.int .i64 now] 3)).alloc (Obj.cells #[Value.int .i64 long] 3)).alloc (Obj.cells #[Value.int .i64 0, Value.int .i64 0, Value.int .i64 0, Value.string ⟨#[]⟩] 51)).cell? ⟨w.heap.size + 1 + 1, 0, none⟩ = some (.int .i64 now) := (cell_on hb5 (cell_on hb4 (by rw [← z2]; exact cell_new _ _ _ 0)))
  have c3 : (((((w.alloc (Obj.cells #[Value.pointer (some ⟨wb, 0, none⟩)] 27)).alloc (Obj.cells #[Value.string name] 9)).alloc (Obj.cells #[Value.int .i64 now] 3)).alloc (Obj.cells #[Value.int .i64 long] 3)).alloc (Obj.cells #[Value.int .i64 0, Value.int .i64 0, Value.int .i64 0, Value.string ⟨#[]⟩] 51)).cell? ⟨w.heap.size + 1 + 1 + 1, 0, none⟩ = some (.int .i64 long) := (cell_on hb5 (by rw [← z3]; exact cell_new _ _ _ 0))
  have r0 : (((((w.alloc (Obj.cells #[Value.pointer (some ⟨wb, 0, none⟩)] 27)).alloc (Obj.cells #[Value.string name] 9)).alloc (Obj.cells #[Value.int .i64 now] 3)).alloc (Obj.cells #[Value.int .i64 long] 3)).alloc (Obj.cells #[Value.int .i64 0, Value.int .i64 0, Value.int .i64 0, Value.string ⟨#[]⟩] 51)).cell? ⟨w.heap.size + 1 + 1 + 1 + 1, 0, none⟩ = some (.int .i64 0) := (by rw [← z4]; exact cell_new _ _ _ 0)
  have r1 : (((((w.alloc (Obj.cells #[Value.pointer (some ⟨wb, 0, none⟩)] 27)).alloc (Obj.cells #[Value.string name] 9)).alloc (Obj.cells #[Value.int .i64 now] 3)).alloc (Obj.cells #[Value.int .i64 long] 3)).alloc (Obj.cells #[Value.int .i64 0, Value.int .i64 0, Value.int .i64 0, Value.string ⟨#[]⟩] 51)).cell? ⟨w.heap.size + 1 + 1 + 1 + 1, 1, none⟩ = some (.int .i64 0) := (by rw [← z4]; exact cell_new _ _ _ 1)
  have r2 : (((((w.alloc (Obj.cells #[Value.pointer (some ⟨wb, 0, none⟩)] 27)).alloc (Obj.cells #[Value.string name] 9)).alloc (Obj.cells #[Value.int .i64 now] 3)).alloc (Obj.cells #[Value.int .i64 long] 3)).alloc (Obj.cells #[Value.int .i64 0, Value.int .i64 0, Value.int .i64 0, Value.string ⟨#[]⟩] 51)).cell? ⟨w.heap.size + 1 + 1 + 1 + 1, 2, none⟩ = some (.int .i64 0) := (by rw [← z4]; exact cell_new _ _ _ 2)
  have r3 : (((((w.alloc (Obj.cells #[Value.pointer (some ⟨wb, 0, none⟩)] 27)).alloc (Obj.cells #[Value.string name] 9)).alloc (Obj.cells #[Value.int .i64 now] 3)).alloc (Obj.cells #[Value.int .i64 long] 3)).alloc (Obj.cells #[Value.int .i64 0, Value.int .i64 0, Value.int .i64 0, Value.string ⟨#[]⟩] 51)).cell? ⟨w.heap.size + 1 + 1 + 1 + 1, 3, none⟩ = some (.string ⟨#[]⟩) := (by rw [← z4]; exact cell_new _ _ _ 3)
  have HF := hide (qfind_any name _ HO.out.qv hn)
  clear h HOx hb1 hb2 hb3 hb4 hb5 z1 z2 z3 z4 z5
  unfold receiveQ
  generalize findQ P chs rds name = q at *
  generalize findL chs rds name = rds1 at *
  obtain ⟨qx, qy, qd, er⟩ := q
  dsimp only at HF HFO HFN ⊢
  by_cases h1 : er = 0
  · subst h1
    rw [if_pos rfl]
    obtain ⟨hx0, hx1, hd6, hy0, hy9⟩ := HFO.out rfl
    have hnm := HFN.out rfl
    have HE1 := hide errV_zero
    clear HFO HFN
    by_cases ht : timeMay now = true ∧ timeMay long = true
    · rw [if_pos ht]
      obtain ⟨ht1, ht2⟩ := ht
      obtain ⟨t0, t1⟩ := timeMay_bd ht1
      obtain ⟨t2, t3⟩ := timeMay_bd ht2
      have HT1 := hide ht1
      have HT2 := hide ht2
      have HNM := hide hnm
      clear ht1 ht2 hnm
      have HWH := hide (fun (W0 : World) (S1 : Nat → Prop) (hQ : QV W0 B wb S1 P since chs rds1) (qb : Nat) (e0 : W0.cell? ⟨w.heap.size, 0, none⟩ = some (.pointer (some ⟨wb, 0, none⟩))) (e1 : W0.cell? ⟨w.heap.size + 1, 0, none⟩ = some (.string name)) (e2 : W0.cell? ⟨qb, 0, none⟩ = some (.int .i64 qx)) (e3 : W0.cell? ⟨qb, 1, none⟩ = some (.int .i64 qy)) (e4 : W0.cell? ⟨qb, 2, none⟩ = some (.string qd)) (e5 : W0.cell? ⟨w.heap.size + 1 + 1, 0, none⟩ = some (.int .i64 now)) (e6 : W0.cell? ⟨w.heap.size + 1 + 1 + 1, 0, none⟩ = some (.int .i64 long)) => qwholeM_any W0 hQ (fun W hb => qrecvFn_any w.heap.size (w.heap.size + 1) qb (w.heap.size + 1 + 1) (w.heap.size + 1 + 1 + 1) name qx qy qd now long W (hQ.on hb) HNM.out (by omega) hy9 t0 t1 t2 t3 (cell_on hb e0) (cell_on hb e1) (cell_on hb e2) (cell_on hb e3) (cell_on hb e4) (cell_on hb e5) (cell_on hb e6)))
      generalize takeQ P name qy qd now (now + long) 1000001 chs rds1 (fromB name) = r at *
      obtain ⟨⟨mk, mt, mu, md, em⟩, chs2, rds2⟩ := r
      dsimp only at HWH ⊢
      by_cases hz : em = 0
      · subst hz
        rw [if_pos rfl]
        simp only [if_true] at HWH
        go_enter Tryz.func18, Tryz.ntmps18
        go_wp2_with (first
          | (go_at_call 33; refine HF.out.mono ?_; rintro e w1 ⟨rfl, ha⟩; obtain ⟨S1, ho1, kp⟩ := HO.out.act ha; have hbQ := below_alloc1 w1 (Obj.cells #[Value.int .i64 qx, Value.int .i64 qy, Value.string qd] 87); have HO1 := hide (ho1.on hbQ); replace c0 := cell_on hbQ ((World.cell?_of_block (kp (w.heap.size) ⟨by omega, by omega⟩)).trans c0); replace c1 := cell_on hbQ ((World.cell?_of_block (kp (w.heap.size + 1) ⟨by omega, by omega⟩)).trans c1); replace c2 := cell_on hbQ ((World.cell?_of_block (kp (w.heap.size + 1 + 1) ⟨by omega, by omega⟩)).trans c2); replace c3 := cell_on hbQ ((World.cell?_of_block (kp (w.heap.size + 1 + 1 + 1) ⟨by omega, by omega⟩)).trans c3); replace r0 := cell_on hbQ ((World.cell?_of_block (kp (w.heap.size + 1 + 1 + 1 + 1) ⟨by omega, by omega⟩)).trans r0); replace r1 := cell_on hbQ ((World.cell?_of_block (kp (w.heap.size + 1 + 1 + 1 + 1) ⟨by omega, by omega⟩)).trans r1); replace r2 := cell_on hbQ ((World.cell?_of_block (kp (w.heap.size + 1 + 1 + 1 + 1) ⟨by omega, by omega⟩)).trans r2); replace r3 := cell_on hbQ ((World.cell?_of_block (kp (w.heap.size + 1 + 1 + 1 + 1) ⟨by omega, by omega⟩)).trans r3); have fz := (HO1.out.ow (w.heap.size + 1 + 1 + 1 + 1) ⟨by omega, by omega⟩).2.2.2; clear ha ho1 kp hbQ; rw [HE1.out])
          | (go_at_call 52; refine (qisTime_any _ _).mono ?_; rintro e w2 ⟨rfl, rfl⟩; first | rw [HT1.out] | rw [HT2.out])
          | (go_at_call 56; refine (HWH.out _ _ HO1.out.qv w1.heap.size c0 c1 (cell_new w1 _ _ 0) (cell_new w1 _ _ 1) (cell_new w1 _ _ 2) c2 c3).mono ?_; rintro e w3 ⟨rfl, ha⟩; obtain ⟨S3, ho3, kp3⟩ := HO1.out.act ha; replace r0 := (World.cell?_of_block (kp3 (w.heap.size + 1 + 1 + 1 + 1) ⟨by omega, by omega⟩)).trans r0; replace r1 := (World.cell?_of_block (kp3 (w.heap.size + 1 + 1 + 1 + 1) ⟨by omega, by omega⟩)).trans r1; replace r2 := (World.cell?_of_block (kp3 (w.heap.size + 1 + 1 + 1 + 1) ⟨by omega, by omega⟩)).trans r2; replace r3 := (World.cell?_of_block (kp3 (w.heap.size + 1 + 1 + 1 + 1) ⟨by omega, by omega⟩)).trans r3; have HO3 := hide ho3; clear fz; have fz := (HO3.out.ow (w.heap.size + 1 + 1 + 1 + 1) ⟨by omega, by omega⟩).2.2.2; clear ha ho3 kp3 c0 c1 c2 c3)
          | fail)
        exact bodyPost_ret (v := .tuple #[mV (mk, mt, mu, md, 0), errV 0]) (by simp [errV, results, Tryz.results18, go_sem, r0, r1, r2, r3]) rfl ⟨rfl, ((((HO3.out.set HLO.out (b := w.heap.size + 1 + 1 + 1 + 1) ⟨by omega, by omega⟩ 0 _).set HLO.out (b := w.heap.size + 1 + 1 + 1 + 1) ⟨by omega, by omega⟩ 1 _).set HLO.out (b := w.heap.size + 1 + 1 + 1 + 1) ⟨by omega, by omega⟩ 2 _).set HLO.out (b := w.heap.size + 1 + 1 + 1 + 1) ⟨by omega, by omega⟩ 3 _).done⟩
      · rw [if_neg hz]
        simp only [if_neg hz] at HWH
        clear hz
        go_enter Tryz.func18, Tryz.ntmps18
        go_wp2_with (first
          | (go_at_call 33; refine HF.out.mono ?_; rintro e w1 ⟨rfl, ha⟩; obtain ⟨S1, ho1, kp⟩ := HO.out.act ha; have hbQ := below_alloc1 w1 (Obj.cells #[Value.int .i64 qx, Value.int .i64 qy, Value.string qd] 87); have HO1 := hide (ho1.on hbQ); replace c0 := cell_on hbQ ((World.cell?_of_block (kp (w.heap.size) ⟨by omega, by omega⟩)).trans c0); replace c1 := cell_on hbQ ((World.cell?_of_block (kp (w.heap.size + 1) ⟨by omega, by omega⟩)).trans c1); replace c2 := cell_on hbQ ((World.cell?_of_block (kp (w.heap.size + 1 + 1) ⟨by omega, by omega⟩)).trans c2); replace c3 := cell_on hbQ ((World.cell?_of_block (kp (w.heap.size + 1 + 1 + 1) ⟨by omega, by omega⟩)).trans c3); replace r0 := cell_on hbQ ((World.cell?_of_block (kp (w.heap.size + 1 + 1 + 1 + 1) ⟨by omega, by omega⟩)).trans r0); replace r1 := cell_on hbQ ((World.cell?_of_block (kp (w.heap.size + 1 + 1 + 1 + 1) ⟨by omega, by omega⟩)).trans r1); replace r2 := cell_on hbQ ((World.cell?_of_block (kp (w.heap.size + 1 + 1 + 1 + 1) ⟨by omega, by omega⟩)).trans r2); replace r3 := cell_on hbQ ((World.cell?_of_block (kp (w.heap.size + 1 + 1 + 1 + 1) ⟨by omega, by omega⟩)).trans r3); have fz := (HO1.out.ow (w.heap.size + 1 + 1 + 1 + 1) ⟨by omega, by omega⟩).2.2.2; clear ha ho1 kp hbQ; rw [HE1.out])
          | (go_at_call 52; refine (qisTime_any _ _).mono ?_; rintro e w2 ⟨rfl, rfl⟩; first | rw [HT1.out] | rw [HT2.out])
          | (go_at_call 56; refine (HWH.out _ _ HO1.out.qv w1.heap.size c0 c1 (cell_new w1 _ _ 0) (cell_new w1 _ _ 1) (cell_new w1 _ _ 2) c2 c3).mono ?_; rintro e w3 ⟨rfl, ha⟩; obtain ⟨S3, ho3, kp3⟩ := HO1.out.act ha; replace r0 := (World.cell?_of_block (kp3 (w.heap.size + 1 + 1 + 1 + 1) ⟨by omega, by omega⟩)).trans r0; replace r1 := (World.cell?_of_block (kp3 (w.heap.size + 1 + 1 + 1 + 1) ⟨by omega, by omega⟩)).trans r1; replace r2 := (World.cell?_of_block (kp3 (w.heap.size + 1 + 1 + 1 + 1) ⟨by omega, by omega⟩)).trans r2; replace r3 := (World.cell?_of_block (kp3 (w.heap.size + 1 + 1 + 1 + 1) ⟨by omega, by omega⟩)).trans r3; have HO3 := hide ho3; clear fz; have fz := (HO3.out.ow (w.heap.size + 1 + 1 + 1 + 1) ⟨by omega, by omega⟩).2.2.2; clear ha ho3 kp3 c0 c1 c2 c3)
          | fail)
        exact bodyPost_ret (v := .tuple #[mV (noM em), errV em]) (by simp [results, Tryz.results18, go_sem, r0, r1, r2, r3]) rfl ⟨rfl, ((((HO3.out.set HLO.out (b := w.heap.size + 1 + 1 + 1 + 1) ⟨by omega, by omega⟩ 0 _).set HLO.out (b := w.heap.size + 1 + 1 + 1 + 1) ⟨by omega, by omega⟩ 1 _).set HLO.out (b := w.heap.size + 1 + 1 + 1 + 1) ⟨by omega, by omega⟩ 2 _).set HLO.out (b := w.heap.size + 1 + 1 + 1 + 1) ⟨by omega, by omega⟩ 3 _).done⟩
    · rw [if_neg ht]
      cases ht1 : timeMay now with
      | false =>
        have HT1 := hide ht1
        have HT2 := hide ht1
        clear ht ht1
        go_enter Tryz.func18, Tryz.ntmps18
        go_wp2_with (first
          | (go_at_call 33; refine HF.out.mono ?_; rintro e w1 ⟨rfl, ha⟩; obtain ⟨S1, ho1, kp⟩ := HO.out.act ha; have hbQ := below_alloc1 w1 (Obj.cells #[Value.int .i64 qx, Value.int .i64 qy, Value.string qd] 87); have HO1 := hide (ho1.on hbQ); replace c0 := cell_on hbQ ((World.cell?_of_block (kp (w.heap.size) ⟨by omega, by omega⟩)).trans c0); replace c1 := cell_on hbQ ((World.cell?_of_block (kp (w.heap.size + 1) ⟨by omega, by omega⟩)).trans c1); replace c2 := cell_on hbQ ((World.cell?_of_block (kp (w.heap.size + 1 + 1) ⟨by omega, by omega⟩)).trans c2); replace c3 := cell_on hbQ ((World.cell?_of_block (kp (w.heap.size + 1 + 1 + 1) ⟨by omega, by omega⟩)).trans c3); replace r0 := cell_on hbQ ((World.cell?_of_block (kp (w.heap.size + 1 + 1 + 1 + 1) ⟨by omega, by omega⟩)).trans r0); replace r1 := cell_on hbQ ((World.cell?_of_block (kp (w.heap.size + 1 + 1 + 1 + 1) ⟨by omega, by omega⟩)).trans r1); replace r2 := cell_on hbQ ((World.cell?_of_block (kp (w.heap.size + 1 + 1 + 1 + 1) ⟨by omega, by omega⟩)).trans r2); replace r3 := cell_on hbQ ((World.cell?_of_block (kp (w.heap.size + 1 + 1 + 1 + 1) ⟨by omega, by omega⟩)).trans r3); have fz := (HO1.out.ow (w.heap.size + 1 + 1 + 1 + 1) ⟨by omega, by omega⟩).2.2.2; clear ha ho1 kp hbQ; rw [HE1.out])
          | (go_at_call 52; refine (qisTime_any _ _).mono ?_; rintro e w2 ⟨rfl, rfl⟩; first | rw [HT1.out] | rw [HT2.out])
          | fail)
        exact bodyPost_ret (v := .tuple #[mV (noM 1), errV 1]) (by simp [errV, results, Tryz.results18, go_sem, r0, r1, r2, r3]) rfl ⟨rfl, ((((HO1.out.set HLO.out (b := w.heap.size + 1 + 1 + 1 + 1) ⟨by omega, by omega⟩ 0 _).set HLO.out (b := w.heap.size + 1 + 1 + 1 + 1) ⟨by omega, by omega⟩ 1 _).set HLO.out (b := w.heap.size + 1 + 1 + 1 + 1) ⟨by omega, by omega⟩ 2 _).set HLO.out (b := w.heap.size + 1 + 1 + 1 + 1) ⟨by omega, by omega⟩ 3 _).done⟩
      | true =>
        have ht2 : timeMay long = false := by
          cases e : timeMay long with
          | false => rfl
          | true => exact absurd ⟨ht1, e⟩ ht
        have HT1 := hide ht1
        have HT2 := hide ht2
        clear ht ht1 ht2
        go_enter Tryz.func18, Tryz.ntmps18
        go_wp2_with (first
          | (go_at_call 33; refine HF.out.mono ?_; rintro e w1 ⟨rfl, ha⟩; obtain ⟨S1, ho1, kp⟩ := HO.out.act ha; have hbQ := below_alloc1 w1 (Obj.cells #[Value.int .i64 qx, Value.int .i64 qy, Value.string qd] 87); have HO1 := hide (ho1.on hbQ); replace c0 := cell_on hbQ ((World.cell?_of_block (kp (w.heap.size) ⟨by omega, by omega⟩)).trans c0); replace c1 := cell_on hbQ ((World.cell?_of_block (kp (w.heap.size + 1) ⟨by omega, by omega⟩)).trans c1); replace c2 := cell_on hbQ ((World.cell?_of_block (kp (w.heap.size + 1 + 1) ⟨by omega, by omega⟩)).trans c2); replace c3 := cell_on hbQ ((World.cell?_of_block (kp (w.heap.size + 1 + 1 + 1) ⟨by omega, by omega⟩)).trans c3); replace r0 := cell_on hbQ ((World.cell?_of_block (kp (w.heap.size + 1 + 1 + 1 + 1) ⟨by omega, by omega⟩)).trans r0); replace r1 := cell_on hbQ ((World.cell?_of_block (kp (w.heap.size + 1 + 1 + 1 + 1) ⟨by omega, by omega⟩)).trans r1); replace r2 := cell_on hbQ ((World.cell?_of_block (kp (w.heap.size + 1 + 1 + 1 + 1) ⟨by omega, by omega⟩)).trans r2); replace r3 := cell_on hbQ ((World.cell?_of_block (kp (w.heap.size + 1 + 1 + 1 + 1) ⟨by omega, by omega⟩)).trans r3); have fz := (HO1.out.ow (w.heap.size + 1 + 1 + 1 + 1) ⟨by omega, by omega⟩).2.2.2; clear ha ho1 kp hbQ; rw [HE1.out])
          | (go_at_call 52; refine (qisTime_any _ _).mono ?_; rintro e w2 ⟨rfl, rfl⟩; first | rw [HT1.out] | rw [HT2.out])
          | fail)
        exact bodyPost_ret (v := .tuple #[mV (noM 1), errV 1]) (by simp [errV, results, Tryz.results18, go_sem, r0, r1, r2, r3]) rfl ⟨rfl, ((((HO1.out.set HLO.out (b := w.heap.size + 1 + 1 + 1 + 1) ⟨by omega, by omega⟩ 0 _).set HLO.out (b := w.heap.size + 1 + 1 + 1 + 1) ⟨by omega, by omega⟩ 1 _).set HLO.out (b := w.heap.size + 1 + 1 + 1 + 1) ⟨by omega, by omega⟩ 2 _).set HLO.out (b := w.heap.size + 1 + 1 + 1 + 1) ⟨by omega, by omega⟩ 3 _).done⟩
  · rw [if_neg h1]
    have HE1 := hide (errV_pos h1)
    clear h1 HFO HFN
    go_enter Tryz.func18, Tryz.ntmps18
    go_wp2_with (first
      | (go_at_call 33; refine HF.out.mono ?_; rintro e w1 ⟨rfl, ha⟩; obtain ⟨S1, ho1, kp⟩ := HO.out.act ha; have hbQ := below_alloc1 w1 (Obj.cells #[Value.int .i64 qx, Value.int .i64 qy, Value.string qd] 87); have HO1 := hide (ho1.on hbQ); replace c0 := cell_on hbQ ((World.cell?_of_block (kp (w.heap.size) ⟨by omega, by omega⟩)).trans c0); replace c1 := cell_on hbQ ((World.cell?_of_block (kp (w.heap.size + 1) ⟨by omega, by omega⟩)).trans c1); replace c2 := cell_on hbQ ((World.cell?_of_block (kp (w.heap.size + 1 + 1) ⟨by omega, by omega⟩)).trans c2); replace c3 := cell_on hbQ ((World.cell?_of_block (kp (w.heap.size + 1 + 1 + 1) ⟨by omega, by omega⟩)).trans c3); replace r0 := cell_on hbQ ((World.cell?_of_block (kp (w.heap.size + 1 + 1 + 1 + 1) ⟨by omega, by omega⟩)).trans r0); replace r1 := cell_on hbQ ((World.cell?_of_block (kp (w.heap.size + 1 + 1 + 1 + 1) ⟨by omega, by omega⟩)).trans r1); replace r2 := cell_on hbQ ((World.cell?_of_block (kp (w.heap.size + 1 + 1 + 1 + 1) ⟨by omega, by omega⟩)).trans r2); replace r3 := cell_on hbQ ((World.cell?_of_block (kp (w.heap.size + 1 + 1 + 1 + 1) ⟨by omega, by omega⟩)).trans r3); have fz := (HO1.out.ow (w.heap.size + 1 + 1 + 1 + 1) ⟨by omega, by omega⟩).2.2.2; clear ha ho1 kp hbQ; rw [HE1.out])
      | fail)
    exact bodyPost_ret (v := .tuple #[mV (noM er), errV er]) (by simp [results, Tryz.results18, go_sem, r0, r1, r2, r3, HE1.out]) rfl ⟨rfl, ((((HO1.out.set HLO.out (b := w.heap.size + 1 + 1 + 1 + 1) ⟨by omega, by omega⟩ 0 _).set HLO.out (b := w.heap.size + 1 + 1 + 1 + 1) ⟨by omega, by omega⟩ 1 _).set HLO.out (b := w.heap.size + 1 + 1 + 1 + 1) ⟨by omega, by omega⟩ 2 _).set HLO.out (b := w.heap.size + 1 + 1 + 1 + 1) ⟨by omega, by omega⟩ 3 _).done⟩
end Go.Proofs.YtpbhcjkllfonhaaGreatDoor
