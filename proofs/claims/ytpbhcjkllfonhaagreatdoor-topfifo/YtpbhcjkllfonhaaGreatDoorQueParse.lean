/-
  What queue.parse returns of a message's row.
-/
import Derived.Test.YtpbhcjkllfonhaaGreatDoorQueTakeL
import Derived.Test.YtpbhcjkllfonhaaGreatDoorShelfL
namespace Go.Proofs.YtpbhcjkllfonhaaGreatDoor
open Go.RowKit Go.Joins Go.Shelf
attribute [local go_sem ↓] Go.wp_at_zero Go.wp_at_succ

theorem atoi_key (s : ByteArray) (n : Nat) (w : World) (hn : n ≤ 999999) (hs : s.data.toList = six n) : Calls Tryz.prog 104 #[.string s] w fun e w' => e = .returned (.tuple #[.int .i64 n, .nilIface]) ∧ Below w.heap.size w w' :=
  (Tryz.strconv_Atoi s n (by rw [Lib.size_eq, hs]; show 6 ≤ _; omega) (by rw [hs]; exact atoi_six n hn) w).mono fun e w' ⟨he, t, hw⟩ =>
    ⟨he, by rw [hw]; exact below_bytesWorld _ w 5 t (Nat.le_refl _)⟩
set_option maxHeartbeats 4000000 in
theorem qparse_any (q : ByteArray) (n : Nat) (val : ByteArray) (w : World) (hq : q.size ≤ 1000) (hn : n ≤ 999999) (hv : val.size ≤ 100) (hL : ∀ W, Below w.heap.size w W → Laid W) :
    Calls Tryz.prog 60 #[.agg #[.string (msgB q n), .string val]] w fun e w' => e = .returned (.tuple #[mV (mOf val n), errV (mOf val n).2.2.2.2]) ∧ Below w.heap.size w w' := by
  have hks := msg_size q n
  have HLI := hide (fun W => call_val (Tryz.strings_LastIndexByte (msgB q n) 47 (by omega) W) (congrArg (Value.int .i64) (last_stroke (q := q) n)))
  have HDG := hide (digits_of (q := q) n)
  have hb1 := below_alloc1 w (Obj.cells #[Value.string (msgB q n), Value.string val] 68)
  have hb2 := below_alloc1 (w.alloc (Obj.cells #[Value.string (msgB q n), Value.string val] 68)) (Obj.cells #[Value.int .i64 0, Value.int .i64 0, Value.int .i64 0, Value.string ⟨#[]⟩] 51)
  have HB := hide (below_on hb1 (Nat.le_refl _) hb2)
  have HM := hide (fun W (hW : Below w.heap.size w W) => mOf_prog val n hv W (hL W hW))
  have k0 : ((w.alloc (Obj.cells #[Value.string (msgB q n), Value.string val] 68)).alloc (Obj.cells #[Value.int .i64 0, Value.int .i64 0, Value.int .i64 0, Value.string ⟨#[]⟩] 51)).cell? ⟨w.heap.size, 0, none⟩ = some (.string (msgB q n)) := cell_on hb2 (cell_new w _ _ 0)
  have k1 : ((w.alloc (Obj.cells #[Value.string (msgB q n), Value.string val] 68)).alloc (Obj.cells #[Value.int .i64 0, Value.int .i64 0, Value.int .i64 0, Value.string ⟨#[]⟩] 51)).cell? ⟨w.heap.size, 1, none⟩ = some (.string val) := cell_on hb2 (cell_new w _ _ 1)
  have hz : (w.alloc (Obj.cells #[Value.string (msgB q n), Value.string val] 68)).heap.size = w.heap.size + 1 := by simp
  have r0 : ((w.alloc (Obj.cells #[Value.string (msgB q n), Value.string val] 68)).alloc (Obj.cells #[Value.int .i64 0, Value.int .i64 0, Value.int .i64 0, Value.string ⟨#[]⟩] 51)).cell? ⟨w.heap.size + 1, 0, none⟩ = some (.int .i64 0) := by simp
  have r1 : ((w.alloc (Obj.cells #[Value.string (msgB q n), Value.string val] 68)).alloc (Obj.cells #[Value.int .i64 0, Value.int .i64 0, Value.int .i64 0, Value.string ⟨#[]⟩] 51)).cell? ⟨w.heap.size + 1, 1, none⟩ = some (.int .i64 0) := by simp
  have r2 : ((w.alloc (Obj.cells #[Value.string (msgB q n), Value.string val] 68)).alloc (Obj.cells #[Value.int .i64 0, Value.int .i64 0, Value.int .i64 0, Value.string ⟨#[]⟩] 51)).cell? ⟨w.heap.size + 1, 2, none⟩ = some (.int .i64 0) := by simp
  have r3 : ((w.alloc (Obj.cells #[Value.string (msgB q n), Value.string val] 68)).alloc (Obj.cells #[Value.int .i64 0, Value.int .i64 0, Value.int .i64 0, Value.string ⟨#[]⟩] 51)).cell? ⟨w.heap.size + 1, 3, none⟩ = some (.string ⟨#[]⟩) := by simp
  have fz0 : ∀ j, ((w.alloc (Obj.cells #[Value.string (msgB q n), Value.string val] 68)).alloc (Obj.cells #[Value.int .i64 0, Value.int .i64 0, Value.int .i64 0, Value.string ⟨#[]⟩] 51)).frozen? ⟨w.heap.size + 1, j, none⟩ = false := by rw [← hz]; exact frozen_new _ _ _
  have hsz : ((w.alloc (Obj.cells #[Value.string (msgB q n), Value.string val] 68)).alloc (Obj.cells #[Value.int .i64 0, Value.int .i64 0, Value.int .i64 0, Value.string ⟨#[]⟩] 51)).heap.size = w.heap.size + 2 := by simp
  clear hb1 hb2 hz hL
  generalize mOf val n = m at *
  obtain ⟨mk, mt, mu, md, em⟩ := m
  dsimp only at HM ⊢
  go_enter Tryz.func60, Tryz.ntmps60
  go_wp2
  generalize (w.alloc (Obj.cells #[Value.string (msgB q n), Value.string val] 68)).alloc (Obj.cells #[Value.int .i64 0, Value.int .i64 0, Value.int .i64 0, Value.string ⟨#[]⟩] 51) = X at *
  generalize hK : msgB q n = K at *
  clear hK
  have nS := OnW.some X
  have n0 : ∀ m : OnW X, m.w.cell? ⟨w.heap.size, 0, none⟩ = some (.string K) := fun m => m.cell k0
  have hw1 : IntKind.i64.wrap ((q.size : Int) + 2 + 1) = (q.size : Int) + 3 := by rw [IntKind.wrap_i64]; omega
  have h03 : (0 : Int) ≤ (q.size : Int) + 3 := by omega
  have h3l : (q.size : Int) + 3 ≤ (K.size : Int) := by omega
  have h3t : ((q.size : Int) + 3).toNat = q.size + 3 := by omega
  refine wp_region_on (by kernel_rfl) (by kernel_rfl) ?_
  repeat (go_big_quiet_step ((first
    | (go_at_call 103; rename_i m; exact on_same (HLI.out _)))))
  refine wpQuiet_nil ?_
  intro w3 hw3
  replace hw3 := on_end hw3
  have HB3 := hide (below_on HB.out (Nat.le_refl _) hw3)
  have HS := hide (show w.heap.size + 1 < X.heap.size by omega)
  replace k1 := cell_on hw3 k1
  replace r0 := cell_on hw3 r0
  replace r1 := cell_on hw3 r1
  replace r2 := cell_on hw3 r2
  replace r3 := cell_on hw3 r3
  have fz3 : ∀ j, w3.frozen? ⟨w.heap.size + 1, j, none⟩ = false := fun j => frozen_on hw3 HS.out (fz0 j)
  have hs3 : w.heap.size + 1 < w3.heap.size := Nat.lt_of_lt_of_le HS.out hw3.size
  clear fz0 k0 n0 nS hw3 hsz
  go_wp2_with (first
    | (go_at_call 104; refine (atoi_key _ n _ hn HDG.out).mono ?_; rintro e w4 ⟨rfl, hb4⟩; have HB4 := hide (below_on HB3.out (Nat.le_refl _) hb4); replace k1 := cell_on hb4 k1; replace r0 := cell_on hb4 r0; replace r1 := cell_on hb4 r1; replace r2 := cell_on hb4 r2; replace r3 := cell_on hb4 r3; have fz4 : ∀ j, w4.frozen? ⟨w.heap.size + 1, j, none⟩ = false := fun j => frozen_on hb4 hs3 (fz3 j); have hs4 := Nat.lt_of_lt_of_le hs3 hb4.size; clear hb4 fz3 hs3)
    | (go_at_call 105; refine (HM.out _ HB4.out).mono ?_; rintro e w5 ⟨rfl, hb5⟩; have HB5 := hide (below_on HB4.out (Nat.le_refl _) hb5); replace r0 := cell_on hb5 r0; replace r1 := cell_on hb5 r1; replace r2 := cell_on hb5 r2; replace r3 := cell_on hb5 r3; have fz5 : ∀ j, w5.frozen? ⟨w.heap.size + 1, j, none⟩ = false := fun j => frozen_on hb5 hs4 (fz4 j); clear hb5 fz4 hs4)
    | fail)
  exact bodyPost_ret (v := .tuple #[mV (mk, mt, mu, md, em), errV em]) (by simp [results, Tryz.results60, go_sem, r0, r1, r2, r3]) rfl ⟨rfl, (((HB5.out.setCell (p := ⟨w.heap.size + 1, 0, none⟩) (Nat.le_succ _) _).setCell (p := ⟨w.heap.size + 1, 1, none⟩) (Nat.le_succ _) _).setCell (p := ⟨w.heap.size + 1, 2, none⟩) (Nat.le_succ _) _).setCell (p := ⟨w.heap.size + 1, 3, none⟩) (Nat.le_succ _) _⟩
end Go.Proofs.YtpbhcjkllfonhaaGreatDoor

/-
  What queue.bury returns, of every view.
-/
namespace Go.Proofs.YtpbhcjkllfonhaaGreatDoor
open Go.RowKit Go.Joins Go.Shelf
attribute [local go_sem ↓] Go.wp_at_zero Go.wp_at_succ

set_option maxHeartbeats 4000000 in
theorem qbury_any (key dead body : ByteArray) {B wb : Nat} {S : Nat → Prop} {P : Rws} {since : Int} {chs : List Chg} {rds : Rws} (w : World) (h : QV w B wb S P since chs rds) (hk : key.size ≤ maxLen) (hd : dead.size ≤ 1000) :
    Calls Tryz.prog 102 #[.pointer (some ⟨wb, 0, none⟩), .string key, .string dead, .string body] w fun e w' => e = .returned (errV (buryQ P chs rds key dead body).1) ∧ ActQ w w' B wb S P since (buryQ P chs rds key dead body).2.1 (buryQ P chs rds key dead body).2.2 := by
  have n1 := err_neq_nil 116
  have HD := hide (qv_delete key w h hk)
  have HF := hide (fun (S1 : Nat → Prop) (W : World) (hW : QV W B wb S1 P since (alterL chs ⟨key, ⟨#[]⟩, true⟩) rds) => qfind_any dead W hW hd)
  have HFO := hide (fun h => findQ_ok (P := P) (chs := alterL chs ⟨key, ⟨#[]⟩, true⟩) (rds := rds) (name := dead) h)
  unfold buryQ
  clear h
  generalize alterF chs ⟨key, ⟨#[]⟩, true⟩ = f1 at *
  generalize alterL chs ⟨key, ⟨#[]⟩, true⟩ = chs1 at *
  generalize findQ P chs1 rds dead = q at *
  generalize findL chs1 rds dead = rds1 at *
  obtain ⟨qx, qy, qd, er⟩ := q
  dsimp only at HF HFO ⊢
  by_cases h1 : f1 = 0
  · subst h1
    rw [if_pos rfl]
    have HE1 := hide errV_zero
    cases hde : nilS dead with
    | true =>
      have hde' : (dead.toList == []) = true := by rw [List.isEmpty_iff.1 hde]; rfl
      rw [if_pos rfl]
      clear hde
      go_enter Tryz.func102, Tryz.ntmps102
      go_wp2_with (first
        | (go_at_call 37; refine HD.out.mono ?_; rintro e w1 ⟨rfl, ha⟩; have HA := hide ha; clear ha; rw [HE1.out])
        | fail)
      go_ret
      exact ⟨rfl, HA.out⟩
    | false =>
      have hde' : (dead.toList == []) = false := by unfold nilS at hde; cases e : dead.toList with | nil => rw [e] at hde; cases hde | cons a l => rfl
      rw [if_neg (by simp)]
      clear hde
      by_cases h2 : er = 0
      · subst h2
        rw [if_pos rfl]
        have HE2 := hide errV_zero
        obtain ⟨hx0, hx1, hd6, _, _⟩ := HFO.out rfl
        have HADD := hide (fun (S2 : Nat → Prop) (W : World) (hW : QV W B wb S2 P since chs1 rds1) => qadd_any dead qx qy qd body 0 W hW hd (by omega) hx0 hx1)
        clear HFO
        generalize addQ chs1 dead qx qy qd body 0 = r at *
        go_enter Tryz.func102, Tryz.ntmps102
        go_wp2_with (first
          | (go_at_call 37; refine HD.out.mono ?_; rintro e w1 ⟨rfl, ha⟩; obtain ⟨S1, hq1, hs1⟩ := ha; have HQ1 := hide hq1; have HS1 := hide hs1; clear hq1 hs1; rw [HE1.out])
          | (go_at_call 33; refine (HF.out _ _ HQ1.out).mono ?_; rintro e w2 ⟨rfl, ha⟩; obtain ⟨S2, hq2, hs2⟩ := ha; have hbA := below_alloc1 w2 (Obj.cells #[Value.int .i64 qx, Value.int .i64 qy, Value.string qd] 87); have HQ2 := hide (hq2.on hbA); have HS2 := hide ((HS1.out.trans hs2).trans (.on hq2.pv.lo hbA)); clear hq2 hs2 hbA; rw [HE2.out])
          | (go_at_call 55; refine (HADD.out _ _ HQ2.out).mono ?_; rintro e w3 ⟨rfl, ha⟩; have HA := hide (ActQ.after HS2.out ha); clear ha)
          | fail)
        go_ret
        exact ⟨rfl, HA.out⟩
      · rw [if_neg h2]
        have HE2 := hide (errV_pos h2)
        clear h2 HFO
        go_enter Tryz.func102, Tryz.ntmps102
        go_wp2_with (first
          | (go_at_call 37; refine HD.out.mono ?_; rintro e w1 ⟨rfl, ha⟩; obtain ⟨S1, hq1, hs1⟩ := ha; have HQ1 := hide hq1; have HS1 := hide hs1; clear hq1 hs1; rw [HE1.out])
          | (go_at_call 33; refine (HF.out _ _ HQ1.out).mono ?_; rintro e w2 ⟨rfl, ha⟩; obtain ⟨S2, hq2, hs2⟩ := ha; have hbA := below_alloc1 w2 (Obj.cells #[Value.int .i64 qx, Value.int .i64 qy, Value.string qd] 87); have HQ2 := hide (hq2.on hbA); have HS2 := hide ((HS1.out.trans hs2).trans (.on hq2.pv.lo hbA)); clear hq2 hs2 hbA; rw [HE2.out])
          | fail)
        go_ret
        exact ⟨HE2.out ▸ rfl, _, HQ2.out, HS2.out⟩
  · rw [if_neg h1]
    have HE1 := hide (errV_pos h1)
    clear h1 HFO
    go_enter Tryz.func102, Tryz.ntmps102
    go_wp2_with (first
      | (go_at_call 37; refine HD.out.mono ?_; rintro e w1 ⟨rfl, ha⟩; have HA := hide ha; clear ha; rw [HE1.out])
      | fail)
    go_ret
    exact ⟨HE1.out ▸ rfl, HA.out⟩
end Go.Proofs.YtpbhcjkllfonhaaGreatDoor
