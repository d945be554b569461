/-
  What queue.add returns, of every view.
-/
import Derived.Test.YtpbhcjkllfonhaaGreatDoorQueHeld
namespace Go.Proofs.YtpbhcjkllfonhaaGreatDoor
open Go.RowKit Go.Joins Go.Shelf
attribute [local go_sem ↓] Go.wp_at_zero Go.wp_at_succ

/-- number, error, changes -/
def addQ (chs : List Chg) (name : ByteArray) (x y : Int) (d body : ByteArray) (until_ : Int) : Int × Nat × List Chg :=
  if x = 999999 then (0, 8, chs)
  else if putMF chs name x 0 until_ body = 0 then (x, putQF (putML chs name x 0 until_ body) name (x + 1) y d, putQL (putML chs name x 0 until_ body) name (x + 1) y d)
  else (0, putMF chs name x 0 until_ body, putML chs name x 0 until_ body)
theorem QV.new {w w1 w2 : World} {B wb : Nat} {S S2 : Nat → Prop} {P : Rws} {since : Int} {chs : List Chg} {rds : Rws} (h : QV w B wb S P since chs rds) (hs : StepV w1 w2 B S S2) {k : Nat} (h1 : w.heap.size ≤ k) (h2 : k < w1.heap.size) : w2.heap[k]? = w1.heap[k]? ∧ ¬ S2 k :=
  hs.far k h2 fun e => by have := h.pv.lt e; omega
theorem BoxQ.go {w w1 w2 : World} {B wb bx : Nat} {S S' S2 : Nat → Prop} {P : Rws} {since : Int} {chs chs' : List Chg} {rds rds' : Rws} (h : BoxQ w w1 B wb bx S S' P since chs rds) (hq : QV w2 B wb S2 P since chs' rds') (hs : StepV w1 w2 B S' S2) : BoxQ w w2 B wb bx S S2 P since chs' rds' ∧ w2.heap[bx]? = w1.heap[bx]? := by
  obtain ⟨e, n⟩ := hs.far bx h.hi h.nb
  exact ⟨⟨hq, h.st.trans hs, n, h.lo, Nat.lt_of_lt_of_le h.hi hs.bel.size, fun j => (World.frozen?_of_block (w := w1) e).trans (h.fz j)⟩, e⟩
set_option maxHeartbeats 4000000 in
theorem qadd_any (name : ByteArray) (x y : Int) (d body : ByteArray) (until_ : Int) {B wb : Nat} {S : Nat → Prop} {P : Rws} {since : Int} {chs : List Chg} {rds : Rws} (w : World) (h : QV w B wb S P since chs rds) (hn : name.size ≤ 1000) (hd : d.size ≤ 1000) (hx0 : 0 ≤ x) (hx1 : x ≤ 999999) :
    Calls Tryz.prog 55 #[.pointer (some ⟨wb, 0, none⟩), .string name, .agg #[.int .i64 x, .int .i64 y, .string d], .string body, .int .i64 until_] w fun e w' => e = .returned (.tuple #[.int .i64 (addQ chs name x y d body until_).1, errV (addQ chs name x y d body until_).2.1]) ∧ ActQ w w' B wb S P since (addQ chs name x y d body until_).2.2 rds := by
  have n1 := err_neq_nil 116
  have HQ := hide h
  have HLO := hide h.pv.lo
  have HX := hide (BoxQ.start h #[Value.int .i64 x, Value.int .i64 y, Value.string d] 87)
  have hbM := below_alloc1 (w.alloc (Obj.cells #[Value.int .i64 x, Value.int .i64 y, Value.string d] 87)) (Obj.cells #[Value.int .i64 x, Value.int .i64 0, Value.int .i64 until_, Value.string body] 51)
  have HXM := hide (HX.out.on hbM)
  have HPM := hide (fun W (hW : QV W B wb S P since chs rds) => qputMessage_any name x 0 until_ body W hW hn (by omega) (by omega))
  have HPQ := hide (fun (S1 : Nat → Prop) W (hW : QV W B wb S1 P since (putML chs name x 0 until_ body) rds) => qputQueue_any name (x + 1) y d W hW hn hd)
  have q0 : ((w.alloc (Obj.cells #[Value.int .i64 x, Value.int .i64 y, Value.string d] 87)).alloc (Obj.cells #[Value.int .i64 x, Value.int .i64 0, Value.int .i64 until_, Value.string body] 51)).cell? ⟨w.heap.size, 0, none⟩ = some (.int .i64 x) := cell_on hbM (cell_new w _ _ 0)
  have q1 : ((w.alloc (Obj.cells #[Value.int .i64 x, Value.int .i64 y, Value.string d] 87)).alloc (Obj.cells #[Value.int .i64 x, Value.int .i64 0, Value.int .i64 until_, Value.string body] 51)).cell? ⟨w.heap.size, 1, none⟩ = some (.int .i64 y) := cell_on hbM (cell_new w _ _ 1)
  have q2 : ((w.alloc (Obj.cells #[Value.int .i64 x, Value.int .i64 y, Value.string d] 87)).alloc (Obj.cells #[Value.int .i64 x, Value.int .i64 0, Value.int .i64 until_, Value.string body] 51)).cell? ⟨w.heap.size, 2, none⟩ = some (.string d) := cell_on hbM (cell_new w _ _ 2)
  have m0 : ((w.alloc (Obj.cells #[Value.int .i64 x, Value.int .i64 y, Value.string d] 87)).alloc (Obj.cells #[Value.int .i64 x, Value.int .i64 0, Value.int .i64 until_, Value.string body] 51)).cell? ⟨w.heap.size + 1, 0, none⟩ = some (.int .i64 x) := by simp
  unfold addQ
  clear h hbM
  by_cases hx : x = 999999
  · rw [if_pos hx]
    subst hx
    go_enter Tryz.func55, Tryz.ntmps55
    go_wp2
    go_ret2
    exact ⟨rfl, HX.out.done⟩
  · rw [if_neg hx]
    have dx : (x == 999999) = false := by simpa using hx
    have hw1 : IntKind.i64.wrap (x + 1) = x + 1 := by rw [IntKind.wrap_i64]; omega
    clear hx
    generalize putML chs name x 0 until_ body = chs1 at *
    generalize putMF chs name x 0 until_ body = f1 at *
    generalize putQL chs1 name (x + 1) y d = chs2 at *
    generalize putQF chs1 name (x + 1) y d = f2 at *
    by_cases h1 : f1 = 0
    · subst h1
      rw [if_pos rfl]
      go_enter Tryz.func55, Tryz.ntmps55
      go_wp2_with (first
        | (go_at_call 63; refine (HPM.out _ HXM.out.qv).mono ?_; rintro e w1 ⟨rfl, ha⟩; obtain ⟨S1, hq1, hs1⟩ := ha; obtain ⟨hx1, eb⟩ := HXM.out.go hq1 hs1; obtain ⟨em, nm⟩ := HQ.out.new hs1 (k := w.heap.size + 1) (by omega) (by simp); replace q0 := (World.cell?_of_block eb).trans q0; replace q1 := (World.cell?_of_block eb).trans q1; replace q2 := (World.cell?_of_block eb).trans q2; replace m0 := (World.cell?_of_block em).trans m0; have fz := hx1.fz; have HX1 := hide hx1; have HNM := hide nm; clear hx1 eb em nm hq1 hs1; rw [errV_zero])
        | fail)
      have HX2 := hide (HX1.out.set HLO.out 0 (.int .i64 (x + 1)))
      have hz1 := HX1.out.hi
      have u0 : (w1.setCell ⟨w.heap.size, 0, none⟩ (.int .i64 (x + 1))).cell? ⟨w.heap.size, 0, none⟩ = some (.int .i64 (x + 1)) := World.cell?_setCell_same _ _ _ q0
      have u1 : (w1.setCell ⟨w.heap.size, 0, none⟩ (.int .i64 (x + 1))).cell? ⟨w.heap.size, 1, none⟩ = some (.int .i64 y) := (World.cell?_setCell_other _ _ _ _ (by simp)).trans q1
      have u2 : (w1.setCell ⟨w.heap.size, 0, none⟩ (.int .i64 (x + 1))).cell? ⟨w.heap.size, 2, none⟩ = some (.string d) := (World.cell?_setCell_other _ _ _ _ (by simp)).trans q2
      have v0 : (w1.setCell ⟨w.heap.size, 0, none⟩ (.int .i64 (x + 1))).cell? ⟨w.heap.size + 1, 0, none⟩ = some (.int .i64 x) := (World.cell?_setCell_other _ _ _ _ (by simp)).trans m0
      generalize (w1.setCell ⟨w.heap.size, 0, none⟩ (.int .i64 (x + 1))) = W at *
      clear q0 q1 q2 m0 fz HX1 hz1
      go_region_with (first
        | (go_at_call 51; refine (HPQ.out _ _ (HX2.out.qv.on (Below.refl _ _).drew)).mono ?_; rintro e w4 ⟨rfl, ha⟩; obtain ⟨S4, hq4, hs4⟩ := ha; obtain ⟨hx4, _⟩ := (HX2.out.on (Below.refl _ _).drew).go hq4 hs4; have v4 : w4.cell? ⟨w.heap.size + 1, 0, none⟩ = some (.int .i64 x) := (World.cell?_of_block (hs4.far (w.heap.size + 1) (World.block_lt_of_cell? _ _ v0) HNM.out).1).trans v0; have HX4 := hide hx4; clear hx4 hq4 hs4)
        | fail)
      all_goals
        go_wp2
        go_ret2
        exact ⟨rfl, HX4.out.done⟩
    · rw [if_neg h1]
      have HE1 := hide (errV_pos h1)
      clear h1
      go_enter Tryz.func55, Tryz.ntmps55
      go_wp2_with (first
        | (go_at_call 63; refine (HPM.out _ HXM.out.qv).mono ?_; rintro e w1 ⟨rfl, ha⟩; obtain ⟨S1, hx1, eb⟩ := HXM.out.act ha; have HX1 := hide hx1; clear hx1 eb ha; rw [HE1.out])
        | fail)
      go_ret2
      exact ⟨HE1.out ▸ rfl, HX1.out.done⟩
end Go.Proofs.YtpbhcjkllfonhaaGreatDoor

/-
  What queue.whole makes of an act that adds a message: all or nothing.
-/
namespace Go.Proofs.YtpbhcjkllfonhaaGreatDoor
open Go.RowKit Go.Joins Go.Shelf
attribute [local go_sem ↓] Go.wp_at_zero Go.wp_at_succ

theorem qv_back {B2 : Nat} {mv : Value} {mk : List Chg} {B wb : Nat} {S : Nat → Prop} {P : Rws} {since : Int} {chs : List Chg} {rds : Rws} (w : World) (h : QV w B wb S P since chs rds) (hm : ownCh w B2 mv mk) (hn : mk.length ≤ 12) (hk : ∀ c ∈ mk, c.key.size ≤ 60) (hr : rises mk) (ho : OkQ P mk) :
    Calls Tryz.prog 100 #[.pointer (some ⟨wb, 0, none⟩), mv] w fun e w' => e = .returned (.tuple #[]) ∧ ActQ w w' B wb S P since mk rds :=
  (pv_back w h.pv hm hn hk hr).mono fun _ _ ⟨he, ha⟩ => ⟨he, h.act ho ha⟩
set_option maxHeartbeats 4000000 in
theorem qwholeI_any {a0 a1 a2 a3 a4 : Value} {n : Int} {f : Nat} {chs' : List Chg} {rds' : Rws} {B wb : Nat} {S : Nat → Prop} {P : Rws} {since : Int} {chs : List Chg} {rds : Rws} (w : World) (h : QV w B wb S P since chs rds)
    (hc : ∀ W, Below w.heap.size w W → Calls Tryz.prog 54 #[a0, a1, a2, a3, a4] W fun e w' => e = .returned (.tuple #[.int .i64 n, errV f]) ∧ ActQ W w' B wb S P since chs' rds') :
    Calls Tryz.prog 53 #[.pointer (some ⟨wb, 0, none⟩), .func (.func 54) #[] #[a0, a1, a2, a3, a4]] w fun e w' => e = .returned (.tuple #[.int .i64 (if f = 0 then n else 0), errV f]) ∧ ActQ w w' B wb S P since (if f = 0 then chs' else chs) rds' := by
  have n1 := err_neq_nil 116
  have HQ := hide h
  have HC := hide hc
  have HMK := hide (pv_mark w h.pv)
  clear h hc
  by_cases hf : f = 0
  · subst hf
    rw [if_pos rfl, if_pos rfl]
    go_enter Tryz.func53, Tryz.ntmps53
    go_wp2_with (first
      | (go_at_call 99; refine HMK.out.mono ?_; rintro e w1 ⟨mv, rfl, ho, hb1⟩; obtain ⟨ma1, mc1, hmv, _, _⟩ := ownCh_has ho; subst hmv; have HB1 := hide hb1; clear ho hb1)
      | (go_at_call 54; refine (HC.out _ HB1.out).mono ?_; rintro e w2 ⟨rfl, ha⟩; have HA := hide (HQ.out.pre HB1.out ha); clear ha; rw [errV_zero])
      | fail)
    go_ret2
    exact ⟨rfl, HA.out⟩
  · rw [if_neg hf, if_neg hf]
    have HE := hide (errV_pos hf)
    clear hf
    go_enter Tryz.func53, Tryz.ntmps53
    go_wp2_with (first
      | (go_at_call 99; refine HMK.out.mono ?_; rintro e w1 ⟨mv, rfl, ho, hb1⟩; obtain ⟨ma1, mc1, hmv, _, _⟩ := ownCh_has ho; subst hmv; have HB1 := hide hb1; have HO := hide ho; clear ho hb1)
      | (go_at_call 54; refine (HC.out _ HB1.out).mono ?_; rintro e w2 ⟨rfl, ha⟩; obtain ⟨S2, hq2, hs2⟩ := ha; have HO2 := hide (own_block HO.out fun k e => (HQ.out.new hs2 (World.ownsRow.lt HO.out k e).1 (World.ownsRow.lt HO.out k e).2).1); have HQ2 := hide hq2; have HS2 := hide hs2; clear hq2 hs2; rw [HE.out])
      | (go_at_call 100; refine (qv_back _ HQ2.out HO2.out HQ.out.pv.ok.cn HQ.out.pv.ok.ck HQ.out.pv.ok.cr HQ.out.ok).mono ?_; rintro e w3 ⟨rfl, ha⟩; have HA := hide (HQ.out.pre HB1.out (ActQ.after HS2.out ha)); clear ha)
      | fail)
    go_ret2
    exact ⟨HE.out ▸ rfl, HA.out⟩
end Go.Proofs.YtpbhcjkllfonhaaGreatDoor
