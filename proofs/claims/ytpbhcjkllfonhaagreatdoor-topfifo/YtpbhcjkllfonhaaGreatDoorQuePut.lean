/-
  What queue.putQueue, putMessage, missing and Create return, of every view.
-/
import Derived.Test.YtpbhcjkllfonhaaGreatDoorQueMem
namespace Go.Proofs.YtpbhcjkllfonhaaGreatDoor
open Go.RowKit Go.Joins Go.Shelf
attribute [local go_sem ↓] Go.wp_at_zero Go.wp_at_succ

def putQF (chs : List Chg) (name : ByteArray) (x y : Int) (d : ByteArray) : Nat := if (qText x y d).2 = 0 then alterF chs ⟨queB name, (qText x y d).1, false⟩ else (qText x y d).2
def putQL (chs : List Chg) (name : ByteArray) (x y : Int) (d : ByteArray) : List Chg := if (qText x y d).2 = 0 then alterL chs ⟨queB name, (qText x y d).1, false⟩ else chs
def putMF (chs : List Chg) (name : ByteArray) (k x y : Int) (d : ByteArray) : Nat := if (mText x y d).2 = 0 then alterF chs ⟨msgB name (numOf k), (mText x y d).1, false⟩ else (mText x y d).2
def putML (chs : List Chg) (name : ByteArray) (k x y : Int) (d : ByteArray) : List Chg := if (mText x y d).2 = 0 then alterL chs ⟨msgB name (numOf k), (mText x y d).1, false⟩ else chs
theorem errV_zero : errV 0 = .nilIface := rfl
set_option maxHeartbeats 4000000 in
theorem qputQueue_any (name : ByteArray) (x y : Int) (d : ByteArray) {B wb : Nat} {S : Nat → Prop} {P : Rws} {since : Int} {chs : List Chg} {rds : Rws} (w : World) (h : QV w B wb S P since chs rds) (hn : name.size ≤ 1000) (hd : d.size ≤ 1000) :
    Calls Tryz.prog 51 #[.pointer (some ⟨wb, 0, none⟩), .string name, .agg #[.int .i64 x, .int .i64 y, .string d]] w fun e w' => e = .returned (errV (putQF chs name x y d)) ∧ ActQ w w' B wb S P since (putQL chs name x y d) rds := by
  have HX := hide (BoxQ.start h #[Value.int .i64 x, Value.int .i64 y, Value.string d] 87)
  have hqs : (queB name).size ≤ maxLen := by rw [queB_size]; unfold maxLen; omega
  have n1 := err_neq_nil 116
  unfold putQF putQL
  have HT := hide (fun W hL => qText_prog x y d hd W hL)
  generalize qText x y d = qt at *
  obtain ⟨tx, er⟩ := qt
  dsimp only at HT ⊢
  clear h
  by_cases h0 : er = 0
  · subst h0
    rw [if_pos rfl, if_pos rfl]
    go_enter Tryz.func51, Tryz.ntmps51
    go_wp2_with (first
      | (go_at_call 98; refine (HT.out _ HX.out.qv.laid).mono ?_; rintro e w1 ⟨rfl, hb1⟩; have HX1 := hide (HX.out.on hb1); clear hb1; rw [errV_zero])
      | (go_at_call 73; refine (queue_any name _ (by omega)).mono ?_; rintro e w2 ⟨rfl, rfl⟩)
      | (go_at_call 35; refine (qv_put (queB name) tx _ HX1.out.qv hqs).mono ?_; rintro e w3 ⟨rfl, ha⟩; obtain ⟨S2, hx2, _⟩ := HX1.out.act ha; have HX2 := hide hx2; clear ha hx2)
      | fail)
    go_ret
    exact ⟨rfl, HX2.out.done⟩
  · rw [if_neg h0, if_neg h0, errV_pos h0]
    have HER := hide (errV_pos h0)
    clear h0
    go_enter Tryz.func51, Tryz.ntmps51
    go_wp2_with (first
      | (go_at_call 98; refine (HT.out _ HX.out.qv.laid).mono ?_; rintro e w1 ⟨rfl, hb1⟩; have HX1 := hide (HX.out.on hb1); clear hb1; rw [HER.out])
      | fail)
    go_ret
    exact ⟨rfl, HX1.out.done⟩
theorem msgB_short {name : ByteArray} (n : Nat) (h : name.size ≤ 1000) : (msgB name n).size ≤ maxLen := by rw [msg_size]; unfold maxLen; omega
set_option maxHeartbeats 4000000 in
theorem qputMessage_any (name : ByteArray) (k x y : Int) (d : ByteArray) {B wb : Nat} {S : Nat → Prop} {P : Rws} {since : Int} {chs : List Chg} {rds : Rws} (w : World) (h : QV w B wb S P since chs rds) (hn : name.size ≤ 1000) (hk0 : -9223372036854775808 ≤ k) (hk1 : k ≤ 9223372036854775807) :
    Calls Tryz.prog 63 #[.pointer (some ⟨wb, 0, none⟩), .string name, .agg #[.int .i64 k, .int .i64 x, .int .i64 y, .string d]] w fun e w' => e = .returned (errV (putMF chs name k x y d)) ∧ ActQ w w' B wb S P since (putML chs name k x y d) rds := by
  have HX := hide (BoxQ.start h #[Value.int .i64 k, Value.int .i64 x, Value.int .i64 y, Value.string d] 51)
  have hqs := msgB_short (name := name) (numOf k) hn
  have n1 := err_neq_nil 116
  unfold putMF putML
  have HT := hide (fun W hL => mText_prog k x y d W hL)
  generalize mText x y d = qt at *
  obtain ⟨tx, er⟩ := qt
  dsimp only at HT ⊢
  clear h
  by_cases h0 : er = 0
  · subst h0
    rw [if_pos rfl, if_pos rfl]
    have r0 : (w.alloc (Obj.cells #[Value.int .i64 k, Value.int .i64 x, Value.int .i64 y, Value.string d] 51)).cell? ⟨w.heap.size, 0, none⟩ = some (Value.int .i64 k) := by simp
    go_enter Tryz.func63, Tryz.ntmps63
    go_wp2_with (first
      | (go_at_call 108; refine (HT.out _ HX.out.qv.laid).mono ?_; rintro e w1 ⟨rfl, hb1⟩; have HX1 := hide (HX.out.on hb1); replace r0 := cell_on hb1 r0; clear hb1; rw [errV_zero])
      | (go_at_call 62; refine (message_any name k _ (by omega) hk0 hk1 HX1.out.qv.laid.tab).mono ?_; rintro e w2 ⟨rfl, hb2⟩; replace HX1 := hide (HX1.out.on hb2); replace r0 := cell_on hb2 r0; clear hb2)
      | (go_at_call 35; refine (qv_put (msgB name (numOf k)) tx _ HX1.out.qv hqs).mono ?_; rintro e w3 ⟨rfl, ha⟩; obtain ⟨S2, hx2, _⟩ := HX1.out.act ha; have HX2 := hide hx2; clear ha hx2)
      | fail)
    go_ret
    exact ⟨rfl, HX2.out.done⟩
  · rw [if_neg h0, if_neg h0, errV_pos h0]
    have HER := hide (errV_pos h0)
    clear h0
    go_enter Tryz.func63, Tryz.ntmps63
    go_wp2_with (first
      | (go_at_call 108; refine (HT.out _ HX.out.qv.laid).mono ?_; rintro e w1 ⟨rfl, hb1⟩; have HX1 := hide (HX.out.on hb1); clear hb1; rw [HER.out])
      | fail)
    go_ret
    exact ⟨rfl, HX1.out.done⟩
end Go.Proofs.YtpbhcjkllfonhaaGreatDoor

/-
  What queue.missing and queue.Create return, of every view.
-/
namespace Go.Proofs.YtpbhcjkllfonhaaGreatDoor
open Go.RowKit Go.Joins Go.Shelf
attribute [local go_sem ↓] Go.wp_at_zero Go.wp_at_succ

def missN (f : Nat) : Nat := if f = 0 then 6 else if f = 5 then 0 else f
theorem errno_eql (a b : Int) (W : World) : (binOp .eql 46 (.iface 116 (.int .i64 a)) (.iface 116 (.int .i64 b))).run Tryz.prog W = .ok (.bool (a == b)) W := by
  kernel_rfl
set_option maxHeartbeats 4000000 in
theorem qmissing_any (name : ByteArray) {B wb : Nat} {S : Nat → Prop} {P : Rws} {since : Int} {chs : List Chg} {rds : Rws} (w : World) (h : QV w B wb S P since chs rds) (hn : name.size ≤ 1000) :
    Calls Tryz.prog 50 #[.pointer (some ⟨wb, 0, none⟩), .string name] w fun e w' => e = .returned (errV (missN (findQ P chs rds name).2.2.2)) ∧ ActQ w w' B wb S P since chs (findL chs rds name) := by
  have n1 := err_not_nil 116
  have n2 := errno_eql
  have HQ := hide h
  have HF := hide (qfind_any name w h hn)
  clear h
  generalize findQ P chs rds name = q at *
  obtain ⟨qx, qy, qd, er⟩ := q
  dsimp only at HF ⊢
  by_cases h0 : er = 0
  · subst h0
    go_enter Tryz.func50, Tryz.ntmps50
    go_wp2_with (first
      | (go_at_call 33; refine HF.out.mono ?_; rintro e w1 ⟨rfl, ha⟩; have HA := hide ha; clear ha; rw [errV_zero])
      | fail)
    go_ret
    exact ⟨rfl, HA.out.post (below_alloc1 _ _)⟩
  · by_cases h5 : er = 5
    · subst h5
      clear h0
      have HER : Hid (errV 5 = .iface 116 (.int .i64 5)) := rfl
      go_enter Tryz.func50, Tryz.ntmps50
      go_wp2_with (first
        | (go_at_call 33; refine HF.out.mono ?_; rintro e w1 ⟨rfl, ha⟩; have HA := hide ha; clear ha; rw [HER.out])
        | fail)
      go_ret
      exact ⟨rfl, HA.out.post (below_alloc1 _ _)⟩
    · have em : missN er = er := by unfold missN; rw [if_neg h0, if_neg h5]
      rw [em, errV_pos h0]
      have HER := hide (errV_pos h0)
      have e5 : ((er : Int) == 5) = false := by simp; omega
      clear h0 h5 em
      go_enter Tryz.func50, Tryz.ntmps50
      go_wp2_with (first
        | (go_at_call 33; refine HF.out.mono ?_; rintro e w1 ⟨rfl, ha⟩; have HA := hide ha; clear ha; rw [HER.out])
        | fail)
      go_ret
      exact ⟨rfl, HA.out.post (below_alloc1 _ _)⟩
open Classical in
noncomputable def createQ (P : Rws) (chs : List Chg) (rds : Rws) (name : ByteArray) (tries : Int) (dead : ByteArray) : Nat × List Chg × Rws :=
  if missN (findQ P chs rds name).2.2.2 = 0 then
    if eqS dead name = true then (3, chs, findL chs rds name)
    else if dead.toList.isEmpty = true then (putQF chs name 0 tries dead, putQL chs name 0 tries dead, findL chs rds name)
    else if (findQ P chs (findL chs rds name) dead).2.2.2 = 0 then (putQF chs name 0 tries dead, putQL chs name 0 tries dead, findL chs (findL chs rds name) dead)
    else ((findQ P chs (findL chs rds name) dead).2.2.2, chs, findL chs (findL chs rds name) dead)
  else (missN (findQ P chs rds name).2.2.2, chs, findL chs rds name)
set_option maxHeartbeats 4000000 in
theorem qcreate_any (name : ByteArray) (tries : Int) (dead : ByteArray) {B wb : Nat} {S : Nat → Prop} {P : Rws} {since : Int} {chs : List Chg} {rds : Rws} (w : World) (h : QV w B wb S P since chs rds) (hn : name.size ≤ 1000) (hd : dead.size ≤ 1000) :
    Calls Tryz.prog 16 #[.pointer (some ⟨wb, 0, none⟩), .string name, .int .i64 tries, .string dead] w fun e w' => e = .returned (errV (createQ P chs rds name tries dead).1) ∧ ActQ w w' B wb S P since (createQ P chs rds name tries dead).2.1 (createQ P chs rds name tries dead).2.2 := by
  have n1 := err_neq_nil 116
  have HM := hide (qmissing_any name w h hn)
  have HF := hide (fun (S1 : Nat → Prop) (W : World) (hW : QV W B wb S1 P since chs (findL chs rds name)) => qfind_any dead W hW hd)
  unfold createQ
  clear h
  generalize findQ P chs (findL chs rds name) dead = q2 at *
  generalize missN (findQ P chs rds name).2.2.2 = f1 at *
  generalize hr2 : findL chs (findL chs rds name) dead = rds2 at *
  generalize findL chs rds name = rds1 at *
  obtain ⟨qx, qy, qd, er⟩ := q2
  dsimp only at HF ⊢
  clear hr2
  by_cases h1 : f1 = 0
  · subst h1
    rw [if_pos rfl]
    have HE1 := hide errV_zero
    cases hdn : eqS dead name with
    | true =>
      have hdn' : (dead.toList == name.toList) = true := hdn
      rw [if_pos rfl]
      clear hdn
      go_enter Tryz.func16, Tryz.ntmps16
      go_wp2_with (first
        | (go_at_call 50; refine HM.out.mono ?_; rintro e w1 ⟨rfl, ha⟩; obtain ⟨S1, hq1, hs1⟩ := ha; have HQ1 := hide hq1; have HS1 := hide hs1; clear hq1 hs1; rw [HE1.out])
        | fail)
      go_ret
      exact ⟨rfl, S1, HQ1.out, HS1.out⟩
    | false =>
      have hdn' : (dead.toList == name.toList) = false := hdn
      rw [if_neg (by simp)]
      clear hdn
      cases hde : dead.toList.isEmpty with
      | true =>
        have hde' : (dead.toList == []) = true := by rw [List.isEmpty_iff.1 hde]; rfl
        rw [if_pos rfl]
        clear hde
        go_enter Tryz.func16, Tryz.ntmps16
        go_wp2_with (first
          | (go_at_call 50; refine HM.out.mono ?_; rintro e w1 ⟨rfl, ha⟩; obtain ⟨S1, hq1, hs1⟩ := ha; have HQ1 := hide hq1; have HS1 := hide hs1; clear hq1 hs1; rw [HE1.out])
          | (go_at_call 51; refine (qputQueue_any name 0 tries dead _ HQ1.out hn hd).mono ?_; rintro e w3 ⟨rfl, ha⟩; have HA := hide (ActQ.after HS1.out ha); clear ha)
          | fail)
        go_ret
        exact ⟨rfl, HA.out⟩
      | false =>
        have hde' : (dead.toList == []) = false := by cases e : dead.toList with | nil => rw [e] at hde; cases hde | cons a l => rfl
        rw [if_neg (by simp)]
        clear hde
        by_cases h2 : er = 0
        · subst h2
          rw [if_pos rfl]
          have HE2 := hide errV_zero
          go_enter Tryz.func16, Tryz.ntmps16
          go_wp2_with (first
            | (go_at_call 50; refine HM.out.mono ?_; rintro e w1 ⟨rfl, ha⟩; obtain ⟨S1, hq1, hs1⟩ := ha; have HQ1 := hide hq1; have HS1 := hide hs1; clear hq1 hs1; rw [HE1.out])
            | (go_at_call 33; refine (HF.out _ _ HQ1.out).mono ?_; rintro e w2 ⟨rfl, ha⟩; obtain ⟨S2, hq2, hs2⟩ := ha; have hbA := below_alloc1 w2 (Obj.cells #[Value.int .i64 qx, Value.int .i64 qy, Value.string qd] 87); have HQ2 := hide (hq2.on hbA); have HS2 := hide ((HS1.out.trans hs2).trans (.on hq2.pv.lo hbA)); clear hq2 hs2 hbA; rw [HE2.out])
            | (go_at_call 51; refine (qputQueue_any name 0 tries dead _ HQ2.out hn hd).mono ?_; rintro e w3 ⟨rfl, ha⟩; have HA := hide (ActQ.after HS2.out ha); clear ha)
            | fail)
          go_ret
          exact ⟨rfl, HA.out⟩
        · rw [if_neg h2]
          have HE2 := hide (errV_pos h2)
          clear h2
          go_enter Tryz.func16, Tryz.ntmps16
          go_wp2_with (first
            | (go_at_call 50; refine HM.out.mono ?_; rintro e w1 ⟨rfl, ha⟩; obtain ⟨S1, hq1, hs1⟩ := ha; have HQ1 := hide hq1; have HS1 := hide hs1; clear hq1 hs1; rw [HE1.out])
            | (go_at_call 33; refine (HF.out _ _ HQ1.out).mono ?_; rintro e w2 ⟨rfl, ha⟩; obtain ⟨S2, hq2, hs2⟩ := ha; have hbA := below_alloc1 w2 (Obj.cells #[Value.int .i64 qx, Value.int .i64 qy, Value.string qd] 87); have HQ2 := hide (hq2.on hbA); have HS2 := hide ((HS1.out.trans hs2).trans (.on hq2.pv.lo hbA)); clear hq2 hs2 hbA; rw [HE2.out])
            | fail)
          go_ret
          exact ⟨HE2.out ▸ rfl, _, HQ2.out, HS2.out⟩
  · rw [if_neg h1]
    have HE1 := hide (errV_pos h1)
    clear h1
    go_enter Tryz.func16, Tryz.ntmps16
    go_wp2_with (first
      | (go_at_call 50; refine HM.out.mono ?_; rintro e w1 ⟨rfl, ha⟩; obtain ⟨S1, hq1, hs1⟩ := ha; have HQ1 := hide hq1; have HS1 := hide hs1; clear hq1 hs1; rw [HE1.out])
      | fail)
    go_ret
    exact ⟨HE1.out ▸ rfl, S1, HQ1.out, HS1.out⟩
end Go.Proofs.YtpbhcjkllfonhaaGreatDoor
