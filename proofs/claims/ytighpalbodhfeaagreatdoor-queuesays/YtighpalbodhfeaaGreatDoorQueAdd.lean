/-
  What queue.add returns, of every view.
-/
import Derived.Test.YtighpalbodhfeaaGreatDoorQueMem
import Derived.Test.YtighpalbodhfeaaGreatDoorKeyB
import Derived.Lib.LastIndexByte
namespace Go.Proofs.YtighpalbodhfeaaGreatDoor
open Go.RowKit Go.Joins Go.Shelf
attribute [local go_sem ↓] Go.wp_at_zero Go.wp_at_succ

/-- number, error, changes -/
def addQ (chs : List Chg) (name : ByteArray) (x y : Int) (d body : ByteArray) (until_ : Int) : Int × Nat × List Chg :=
  if x = 999999 then (0, 8, chs)
  else if putMF chs name x 0 until_ body = 0 then (x, putQF (putML chs name x 0 until_ body) name (x + 1) y d, putQL (putML chs name x 0 until_ body) name (x + 1) y d)
  else (0, putMF chs name x 0 until_ body, putML chs name x 0 until_ body)
theorem QV.new {w w1 w2 : World} {B wb : Nat} {S S2 : Nat → Prop} {P : Rws} {since : Int} {chs : List Chg} {rds : Rws} (h : QV w B wb S P since chs rds) (hs : StepV w1 w2 B S S2) {k : Nat} (h1 : w.heap.size ≤ k) (h2 : k < w1.heap.size) : w2.heap[k]? = w1.heap[k]? ∧ ¬ S2 k :=
  hs.far k h2 fun e => by have := h.pv.lt e; omega
theorem BoxQ.go {w w1 w2 : World} {B wb bx : Nat} {S S' S2 : Nat → Prop} {P : Rws} {since : Int} {chs chs' : List Chg} {rds rds' : Rws} (h : BoxQ w w1 B wb bx S S' P since chs rds) (hq : QV w2 B wb S2 P since chs' rds') (hs : StepV w1 w2 B S' S2) : BoxQ w w2 B wb bx S S2 P since chs' rds' ∧ w2.heap[bx]? = w1.heap[bx]? := by
  obtain ⟨e, n⟩ := hs.far bx h.hi h.nb
  exact ⟨⟨hq, h.st.trans hs, n, h.lo, Nat.lt_of_lt_of_le h.hi hs.bel.size, fun j => (World.frozen?_of_block (w := w1) e).trans (h.fz j)⟩, e⟩
set_option maxHeartbeats 4000000 in
theorem qadd_any (name : ByteArray) (x y : Int) (d body : ByteArray) (until_ : Int) {B wb : Nat} {S : Nat → Prop} {P : Rws} {since : Int} {chs : List Chg} {rds : Rws} (w : World) (h : QV w B wb S P since chs rds) (hn : name.size ≤ 1000) (hd : d.size ≤ 1000) (hx0 : 0 ≤ x) (hx1 : x ≤ 999999) :
    Calls Tryz.prog 49 #[.pointer (some ⟨wb, 0, none⟩), .string name, .agg #[.int .i64 x, .int .i64 y, .string d], .string body, .int .i64 until_] w fun e w' => e = .returned (.tuple #[.int .i64 (addQ chs name x y d body until_).1, errV (addQ chs name x y d body until_).2.1]) ∧ ActQ w w' B wb S P since (addQ chs name x y d body until_).2.2 rds := by
  have n1 := err_neq_nil 108
  have HQ := hide h
  have HLO := hide h.pv.lo
  have HX := hide (BoxQ.start h #[Value.int .i64 x, Value.int .i64 y, Value.string d] 76)
  have hbM := below_alloc1 (w.alloc (Obj.cells #[Value.int .i64 x, Value.int .i64 y, Value.string d] 76)) (Obj.cells #[Value.int .i64 x, Value.int .i64 0, Value.int .i64 until_, Value.string body] 48)
  have HXM := hide (HX.out.on hbM)
  have HPM := hide (fun W (hW : QV W B wb S P since chs rds) => qputMessage_any name x 0 until_ body W hW hn (by omega) (by omega))
  have HPQ := hide (fun (S1 : Nat → Prop) W (hW : QV W B wb S1 P since (putML chs name x 0 until_ body) rds) => qputQueue_any name (x + 1) y d W hW hn hd)
  have q0 : ((w.alloc (Obj.cells #[Value.int .i64 x, Value.int .i64 y, Value.string d] 76)).alloc (Obj.cells #[Value.int .i64 x, Value.int .i64 0, Value.int .i64 until_, Value.string body] 48)).cell? ⟨w.heap.size, 0, none⟩ = some (.int .i64 x) := cell_on hbM (cell_new w _ _ 0)
  have q1 : ((w.alloc (Obj.cells #[Value.int .i64 x, Value.int .i64 y, Value.string d] 76)).alloc (Obj.cells #[Value.int .i64 x, Value.int .i64 0, Value.int .i64 until_, Value.string body] 48)).cell? ⟨w.heap.size, 1, none⟩ = some (.int .i64 y) := cell_on hbM (cell_new w _ _ 1)
  have q2 : ((w.alloc (Obj.cells #[Value.int .i64 x, Value.int .i64 y, Value.string d] 76)).alloc (Obj.cells #[Value.int .i64 x, Value.int .i64 0, Value.int .i64 until_, Value.string body] 48)).cell? ⟨w.heap.size, 2, none⟩ = some (.string d) := cell_on hbM (cell_new w _ _ 2)
  have m0 : ((w.alloc (Obj.cells #[Value.int .i64 x, Value.int .i64 y, Value.string d] 76)).alloc (Obj.cells #[Value.int .i64 x, Value.int .i64 0, Value.int .i64 until_, Value.string body] 48)).cell? ⟨w.heap.size + 1, 0, none⟩ = some (.int .i64 x) := by simp
  unfold addQ
  clear h hbM
  by_cases hx : x = 999999
  · rw [if_pos hx]
    subst hx
    go_enter Tryz.func49, Tryz.ntmps49
    go_wp2
    go_ret2
    exact ⟨rfl, HX.out.done⟩
  · rw [if_neg hx]
    have dx : (x == 999999) = false := by simpa using hx
    have hw1 : IntKind.i64.wrap (x + 1) = x + 1 := by rw [IntKind.wrap_i64]; omega
    clear hx
    generalize putML chs name x 0 until_ body = chs1 at *
    generalize putMF chs name x 0 until_ body = f1 at *
    generalize putQL chs1 name (x + 1) y d = chs2 at *
    generalize putQF chs1 name (x + 1) y d = f2 at *
    by_cases h1 : f1 = 0
    · subst h1
      rw [if_pos rfl]
      go_enter Tryz.func49, Tryz.ntmps49
      go_wp2_with (first
        | (go_at_call 62; refine (HPM.out _ HXM.out.qv).mono ?_; rintro e w1 ⟨rfl, ha⟩; obtain ⟨S1, hq1, hs1⟩ := ha; obtain ⟨hx1, eb⟩ := HXM.out.go hq1 hs1; obtain ⟨em, nm⟩ := HQ.out.new hs1 (k := w.heap.size + 1) (by omega) (by simp); replace q0 := (World.cell?_of_block eb).trans q0; replace q1 := (World.cell?_of_block eb).trans q1; replace q2 := (World.cell?_of_block eb).trans q2; replace m0 := (World.cell?_of_block em).trans m0; have fz := hx1.fz; have HX1 := hide hx1; have HNM := hide nm; clear hx1 eb em nm hq1 hs1; rw [errV_zero])
        | fail)
      have HX2 := hide (HX1.out.set HLO.out 0 (.int .i64 (x + 1)))
      have hz1 := HX1.out.hi
      have u0 : (w1.setCell ⟨w.heap.size, 0, none⟩ (.int .i64 (x + 1))).cell? ⟨w.heap.size, 0, none⟩ = some (.int .i64 (x + 1)) := World.cell?_setCell_same _ _ _ q0
      have u1 : (w1.setCell ⟨w.heap.size, 0, none⟩ (.int .i64 (x + 1))).cell? ⟨w.heap.size, 1, none⟩ = some (.int .i64 y) := (World.cell?_setCell_other _ _ _ _ (by simp)).trans q1
      have u2 : (w1.setCell ⟨w.heap.size, 0, none⟩ (.int .i64 (x + 1))).cell? ⟨w.heap.size, 2, none⟩ = some (.string d) := (World.cell?_setCell_other _ _ _ _ (by simp)).trans q2
      have v0 : (w1.setCell ⟨w.heap.size, 0, none⟩ (.int .i64 (x + 1))).cell? ⟨w.heap.size + 1, 0, none⟩ = some (.int .i64 x) := (World.cell?_setCell_other _ _ _ _ (by simp)).trans m0
      generalize (w1.setCell ⟨w.heap.size, 0, none⟩ (.int .i64 (x + 1))) = W at *
      clear q0 q1 q2 m0 fz HX1 hz1
      go_region_with (first
        | (go_at_call 45; refine (HPQ.out _ _ (HX2.out.qv.on (Below.refl _ _).drew)).mono ?_; rintro e w4 ⟨rfl, ha⟩; obtain ⟨S4, hq4, hs4⟩ := ha; obtain ⟨hx4, _⟩ := (HX2.out.on (Below.refl _ _).drew).go hq4 hs4; have v4 : w4.cell? ⟨w.heap.size + 1, 0, none⟩ = some (.int .i64 x) := (World.cell?_of_block (hs4.far (w.heap.size + 1) (World.block_lt_of_cell? _ _ v0) HNM.out).1).trans v0; have HX4 := hide hx4; clear hx4 hq4 hs4)
        | fail)
      all_goals
        go_wp2
        go_ret2
        exact ⟨rfl, HX4.out.done⟩
    · rw [if_neg h1]
      have HE1 := hide (errV_pos h1)
      clear h1
      go_enter Tryz.func49, Tryz.ntmps49
      go_wp2_with (first
        | (go_at_call 62; refine (HPM.out _ HXM.out.qv).mono ?_; rintro e w1 ⟨rfl, ha⟩; obtain ⟨S1, hx1, eb⟩ := HXM.out.act ha; have HX1 := hide hx1; clear hx1 eb ha; rw [HE1.out])
        | fail)
      go_ret2
      exact ⟨HE1.out ▸ rfl, HX1.out.done⟩
end Go.Proofs.YtighpalbodhfeaaGreatDoor

/-
  What queue.whole makes of an act that adds a message: all or nothing.
-/
namespace Go.Proofs.YtighpalbodhfeaaGreatDoor
open Go.RowKit Go.Joins Go.Shelf
attribute [local go_sem ↓] Go.wp_at_zero Go.wp_at_succ

theorem qv_back {B2 : Nat} {mv : Value} {mk : List Chg} {B wb : Nat} {S : Nat → Prop} {P : Rws} {since : Int} {chs : List Chg} {rds : Rws} (w : World) (h : QV w B wb S P since chs rds) (hm : ownCh w B2 mv mk) (hn : mk.length ≤ 12) (hk : ∀ c ∈ mk, c.key.size ≤ 60) (hr : rises mk) (ho : OkQ P mk) :
    Calls Tryz.prog 94 #[.pointer (some ⟨wb, 0, none⟩), mv] w fun e w' => e = .returned (.tuple #[]) ∧ ActQ w w' B wb S P since mk rds :=
  (pv_back w h.pv hm hn hk hr).mono fun _ _ ⟨he, ha⟩ => ⟨he, h.act ho ha⟩
set_option maxHeartbeats 4000000 in
theorem qwholeI_any {a0 a1 a2 a3 a4 : Value} {n : Int} {f : Nat} {chs' : List Chg} {rds' : Rws} {B wb : Nat} {S : Nat → Prop} {P : Rws} {since : Int} {chs : List Chg} {rds : Rws} (w : World) (h : QV w B wb S P since chs rds)
    (hc : ∀ W, Below w.heap.size w W → Calls Tryz.prog 48 #[a0, a1, a2, a3, a4] W fun e w' => e = .returned (.tuple #[.int .i64 n, errV f]) ∧ ActQ W w' B wb S P since chs' rds') :
    Calls Tryz.prog 47 #[.pointer (some ⟨wb, 0, none⟩), .func (.func 48) #[] #[a0, a1, a2, a3, a4]] w fun e w' => e = .returned (.tuple #[.int .i64 (if f = 0 then n else 0), errV f]) ∧ ActQ w w' B wb S P since (if f = 0 then chs' else chs) rds' := by
  have n1 := err_neq_nil 108
  have HQ := hide h
  have HC := hide hc
  have HMK := hide (pv_mark w h.pv)
  clear h hc
  by_cases hf : f = 0
  · subst hf
    rw [if_pos rfl, if_pos rfl]
    go_enter Tryz.func47, Tryz.ntmps47
    go_wp2_with (first
      | (go_at_call 93; refine HMK.out.mono ?_; rintro e w1 ⟨mv, rfl, ho, hb1⟩; obtain ⟨ma1, mc1, hmv, _, _⟩ := ownCh_has ho; subst hmv; have HB1 := hide hb1; clear ho hb1)
      | (go_at_call 48; refine (HC.out _ HB1.out).mono ?_; rintro e w2 ⟨rfl, ha⟩; have HA := hide (HQ.out.pre HB1.out ha); clear ha; rw [errV_zero])
      | fail)
    go_ret2
    exact ⟨rfl, HA.out⟩
  · rw [if_neg hf, if_neg hf]
    have HE := hide (errV_pos hf)
    clear hf
    go_enter Tryz.func47, Tryz.ntmps47
    go_wp2_with (first
      | (go_at_call 93; refine HMK.out.mono ?_; rintro e w1 ⟨mv, rfl, ho, hb1⟩; obtain ⟨ma1, mc1, hmv, _, _⟩ := ownCh_has ho; subst hmv; have HB1 := hide hb1; have HO := hide ho; clear ho hb1)
      | (go_at_call 48; refine (HC.out _ HB1.out).mono ?_; rintro e w2 ⟨rfl, ha⟩; obtain ⟨S2, hq2, hs2⟩ := ha; have HO2 := hide (own_block HO.out fun k e => (HQ.out.new hs2 (World.ownsRow.lt HO.out k e).1 (World.ownsRow.lt HO.out k e).2).1); have HQ2 := hide hq2; have HS2 := hide hs2; clear hq2 hs2; rw [HE.out])
      | (go_at_call 94; refine (qv_back _ HQ2.out HO2.out HQ.out.pv.ok.cn HQ.out.pv.ok.ck HQ.out.pv.ok.cr HQ.out.ok).mono ?_; rintro e w3 ⟨rfl, ha⟩; have HA := hide (HQ.out.pre HB1.out (ActQ.after HS2.out ha)); clear ha)
      | fail)
    go_ret2
    exact ⟨HE.out ▸ rfl, HA.out⟩
end Go.Proofs.YtighpalbodhfeaaGreatDoor

/-
  What queue.Send returns, of every view.
-/
namespace Go.Proofs.YtighpalbodhfeaaGreatDoor
open Go.RowKit Go.Joins Go.Shelf
attribute [local go_sem ↓] Go.wp_at_zero Go.wp_at_succ

theorem findQ_ok {P : Rws} {chs : List Chg} {rds : Rws} {name : ByteArray} (h : (findQ P chs rds name).2.2.2 = 0) : 0 ≤ (findQ P chs rds name).1 ∧ (findQ P chs rds name).1 ≤ 999999 ∧ (findQ P chs rds name).2.2.1.size ≤ 6 ∧ 0 ≤ (findQ P chs rds name).2.1 ∧ (findQ P chs rds name).2.1 ≤ 9 := by
  unfold findQ at h ⊢
  split at h
  · split at h
    · split at h
      · rename_i h1 h2 h3
        rw [if_pos h1, if_pos h2, if_pos h3]
        rcases qOf_cases (getP chs rds P (queB name)).1 with ⟨n, t, d, e, hq, _⟩ | ⟨e, _⟩
        · rw [e]
          have := hq.1
          have := hq.2.2.1
          exact ⟨by dsimp only; omega, by dsimp only; omega, may_size hq, by dsimp only; omega, by dsimp only; omega⟩
        · rw [e] at h; cases h
      · cases h
    · rename_i h2; exact absurd h h2
  · cases h
set_option maxHeartbeats 4000000 in
theorem qsendFn_any (pb nb qb bb ub : Nat) (name : ByteArray) (x y : Int) (d body : ByteArray) (until_ : Int) {B wb : Nat} {S : Nat → Prop} {P : Rws} {since : Int} {chs : List Chg} {rds : Rws} (w : World) (h : QV w B wb S P since chs rds) (hn : name.size ≤ 1000) (hd : d.size ≤ 1000) (hx0 : 0 ≤ x) (hx1 : x ≤ 999999)
    (c0 : w.cell? ⟨pb, 0, none⟩ = some (.pointer (some ⟨wb, 0, none⟩))) (c1 : w.cell? ⟨nb, 0, none⟩ = some (.string name)) (c2 : w.cell? ⟨qb, 0, none⟩ = some (.int .i64 x)) (c3 : w.cell? ⟨qb, 1, none⟩ = some (.int .i64 y)) (c4 : w.cell? ⟨qb, 2, none⟩ = some (.string d)) (c5 : w.cell? ⟨bb, 0, none⟩ = some (.string body)) (c6 : w.cell? ⟨ub, 0, none⟩ = some (.int .i64 until_)) :
    Calls Tryz.prog 48 #[.pointer (some ⟨pb, 0, none⟩), .pointer (some ⟨nb, 0, none⟩), .pointer (some ⟨qb, 0, none⟩), .pointer (some ⟨bb, 0, none⟩), .pointer (some ⟨ub, 0, none⟩)] w fun e w' => e = .returned (.tuple #[.int .i64 (addQ chs name x y d body until_).1, errV (addQ chs name x y d body until_).2.1]) ∧ ActQ w w' B wb S P since (addQ chs name x y d body until_).2.2 rds := by
  have HA := hide (qadd_any name x y d body until_ w h hn hd hx0 hx1)
  clear h
  generalize addQ chs name x y d body until_ = r at *
  go_enter Tryz.func48, Tryz.ntmps48
  go_wp2_with (first
    | (go_at_call 49; refine HA.out.mono ?_; rintro e w1 ⟨rfl, ha⟩; have HB := hide ha; clear ha)
    | fail)
  go_ret2
  exact ⟨rfl, HB.out⟩
/-- number, error, changes, reads -/
noncomputable def sendQ (P : Rws) (chs : List Chg) (rds : Rws) (name body : ByteArray) (until_ : Int) : Int × Nat × List Chg × Rws :=
  if (findQ P chs rds name).2.2.2 = 0 then
    if timeMay until_ = true then
      if (addQ chs name (findQ P chs rds name).1 (findQ P chs rds name).2.1 (findQ P chs rds name).2.2.1 body until_).2.1 = 0 then ((addQ chs name (findQ P chs rds name).1 (findQ P chs rds name).2.1 (findQ P chs rds name).2.2.1 body until_).1, 0, (addQ chs name (findQ P chs rds name).1 (findQ P chs rds name).2.1 (findQ P chs rds name).2.2.1 body until_).2.2, findL chs rds name)
      else (0, (addQ chs name (findQ P chs rds name).1 (findQ P chs rds name).2.1 (findQ P chs rds name).2.2.1 body until_).2.1, chs, findL chs rds name)
    else (0, 1, chs, findL chs rds name)
  else (0, (findQ P chs rds name).2.2.2, chs, findL chs rds name)
set_option maxHeartbeats 4000000 in
theorem qsend_any (name body : ByteArray) (until_ : Int) {B wb : Nat} {S : Nat → Prop} {P : Rws} {since : Int} {chs : List Chg} {rds : Rws} (w : World) (h : QV w B wb S P since chs rds) (hn : name.size ≤ 1000) :
    Calls Tryz.prog 12 #[.pointer (some ⟨wb, 0, none⟩), .string name, .string body, .int .i64 until_] w fun e w' => e = .returned (.tuple #[.int .i64 (sendQ P chs rds name body until_).1, errV (sendQ P chs rds name body until_).2.1]) ∧ ActQ w w' B wb S P since (sendQ P chs rds name body until_).2.2.1 (sendQ P chs rds name body until_).2.2.2 := by
  have n1 := err_neq_nil 108
  have hmf : ∀ (fn : Fn) (first cap : Array Value) (w : World), (Instr.makeFunc fn first cap).run Tryz.prog w = .ok (.func fn first cap) w := fun _ _ _ _ => rfl
  have HFO := hide (fun h => findQ_ok (P := P) (chs := chs) (rds := rds) (name := name) h)
  have hb1 := below_alloc1 w (Obj.cells #[Value.pointer (some ⟨wb, 0, none⟩)] 27)
  have hb2 := below_alloc1 (w.alloc (Obj.cells #[Value.pointer (some ⟨wb, 0, none⟩)] 27)) (Obj.cells #[Value.string name] 9)
  have hb3 := below_alloc1 ((w.alloc (Obj.cells #[Value.pointer (some ⟨wb, 0, none⟩)] 27)).alloc (Obj.cells #[Value.string name] 9)) (Obj.cells #[Value.string body] 9)
  have hb4 := below_alloc1 (((w.alloc (Obj.cells #[Value.pointer (some ⟨wb, 0, none⟩)] 27)).alloc (Obj.cells #[Value.string name] 9)).alloc (Obj.cells #[Value.string body] 9)) (Obj.cells #[Value.int .i64 until_] 3)
  have hbA := below_on (below_on (below_on hb1 (Nat.le_refl _) hb2) (Nat.le_refl _) hb3) (Nat.le_refl _) hb4
  have hsz : ((((w.alloc (Obj.cells #[Value.pointer (some ⟨wb, 0, none⟩)] 27)).alloc (Obj.cells #[Value.string name] 9)).alloc (Obj.cells #[Value.string body] 9)).alloc (Obj.cells #[Value.int .i64 until_] 3)).heap.size = w.heap.size + 4 := by simp
  have c0 : ((((w.alloc (Obj.cells #[Value.pointer (some ⟨wb, 0, none⟩)] 27)).alloc (Obj.cells #[Value.string name] 9)).alloc (Obj.cells #[Value.string body] 9)).alloc (Obj.cells #[Value.int .i64 until_] 3)).cell? ⟨w.heap.size, 0, none⟩ = some (.pointer (some ⟨wb, 0, none⟩)) := cell_on hb4 (cell_on hb3 (cell_on hb2 (cell_new w _ _ 0)))
  have c1 : ((((w.alloc (Obj.cells #[Value.pointer (some ⟨wb, 0, none⟩)] 27)).alloc (Obj.cells #[Value.string name] 9)).alloc (Obj.cells #[Value.string body] 9)).alloc (Obj.cells #[Value.int .i64 until_] 3)).cell? ⟨w.heap.size + 1, 0, none⟩ = some (.string name) := cell_on hb4 (cell_on hb3 (by simp))
  have z2 : ((w.alloc (Obj.cells #[Value.pointer (some ⟨wb, 0, none⟩)] 27)).alloc (Obj.cells #[Value.string name] 9)).heap.size = w.heap.size + 1 + 1 := by simp
  have z3 : (((w.alloc (Obj.cells #[Value.pointer (some ⟨wb, 0, none⟩)] 27)).alloc (Obj.cells #[Value.string name] 9)).alloc (Obj.cells #[Value.string body] 9)).heap.size = w.heap.size + 1 + 1 + 1 := by simp
  have c5 : ((((w.alloc (Obj.cells #[Value.pointer (some ⟨wb, 0, none⟩)] 27)).alloc (Obj.cells #[Value.string name] 9)).alloc (Obj.cells #[Value.string body] 9)).alloc (Obj.cells #[Value.int .i64 until_] 3)).cell? ⟨w.heap.size + 1 + 1, 0, none⟩ = some (.string body) := cell_on hb4 (by rw [← z2]; exact cell_new _ _ _ 0)
  have c6 : ((((w.alloc (Obj.cells #[Value.pointer (some ⟨wb, 0, none⟩)] 27)).alloc (Obj.cells #[Value.string name] 9)).alloc (Obj.cells #[Value.string body] 9)).alloc (Obj.cells #[Value.int .i64 until_] 3)).cell? ⟨w.heap.size + 1 + 1 + 1, 0, none⟩ = some (.int .i64 until_) := by rw [← z3]; exact cell_new _ _ _ 0
  have HF := hide (qfind_any name _ (h.on hbA) hn)
  have HQ := hide h
  have HBA := hide hbA
  unfold sendQ
  clear h hb1 hb2 hb3 hb4 hbA z2 z3
  generalize findQ P chs rds name = q at *
  generalize findL chs rds name = rds1 at *
  obtain ⟨qx, qy, qd, er⟩ := q
  dsimp only at HF HFO ⊢
  by_cases h1 : er = 0
  · subst h1
    rw [if_pos rfl]
    obtain ⟨hx0, hx1, hd6, _, _⟩ := HFO.out rfl
    have HE1 := hide errV_zero
    clear HFO
    cases htm : timeMay until_ with
    | false =>
      rw [if_neg (by simp)]
      have HTM := hide htm
      clear htm
      go_enter Tryz.func12, Tryz.ntmps12
      go_wp2_with (first
        | (go_at_call 26; refine HF.out.mono ?_; rintro e w1 ⟨rfl, ha⟩; obtain ⟨S1, hq1, hs1⟩ := ha; have hbQ := below_alloc1 w1 (Obj.cells #[Value.int .i64 qx, Value.int .i64 qy, Value.string qd] 76); have c0' := (World.cell?_of_block (HQ.out.new hs1 (k := w.heap.size) (by omega) (by rw [hsz]; omega)).1).trans c0; replace c0' := cell_on hbQ c0'; have c1' := (World.cell?_of_block (HQ.out.new hs1 (k := w.heap.size + 1) (by omega) (by rw [hsz]; omega)).1).trans c1; replace c1' := cell_on hbQ c1'; have c5' := (World.cell?_of_block (HQ.out.new hs1 (k := w.heap.size + 1 + 1) (by omega) (by rw [hsz]; omega)).1).trans c5; replace c5' := cell_on hbQ c5'; have c6' := (World.cell?_of_block (HQ.out.new hs1 (k := w.heap.size + 1 + 1 + 1) (by omega) (by rw [hsz]; omega)).1).trans c6; replace c6' := cell_on hbQ c6'; have HQ1 := hide (hq1.on hbQ); have HS1 := hide ((StepV.on HQ.out.pv.lo HBA.out).trans (hs1.trans (.on hq1.pv.lo hbQ))); have HA2 : Hid (ActQ w (w1.alloc (Obj.cells #[Value.int .i64 qx, Value.int .i64 qy, Value.string qd] 76)) B wb S P since chs rds1) := ⟨S1, HQ1.out, HS1.out⟩; clear hq1 hs1 hbQ; rw [HE1.out])
        | (go_at_call 46; refine (qisTime_any until_ _).mono ?_; rintro e w2 ⟨rfl, rfl⟩; rw [HTM.out])
        | fail)
      go_ret2
      exact ⟨rfl, HA2.out⟩
    | true =>
      rw [if_pos rfl]
      have HTM := hide htm
      clear htm
      have HW := hide (fun (W W0 : World) (S1 : Nat → Prop) (hQ : QV W0 B wb S1 P since chs rds1) (hb : Below W0.heap.size W0 W) (qb : Nat) (e0 : W0.cell? ⟨w.heap.size, 0, none⟩ = some (.pointer (some ⟨wb, 0, none⟩))) (e1 : W0.cell? ⟨w.heap.size + 1, 0, none⟩ = some (.string name)) (e2 : W0.cell? ⟨qb, 0, none⟩ = some (.int .i64 qx)) (e3 : W0.cell? ⟨qb, 1, none⟩ = some (.int .i64 qy)) (e4 : W0.cell? ⟨qb, 2, none⟩ = some (.string qd)) (e5 : W0.cell? ⟨w.heap.size + 1 + 1, 0, none⟩ = some (.string body)) (e6 : W0.cell? ⟨w.heap.size + 1 + 1 + 1, 0, none⟩ = some (.int .i64 until_)) => qsendFn_any w.heap.size (w.heap.size + 1) qb (w.heap.size + 1 + 1) (w.heap.size + 1 + 1 + 1) name qx qy qd body until_ W (hQ.on hb) hn (by omega) hx0 hx1 (cell_on hb e0) (cell_on hb e1) (cell_on hb e2) (cell_on hb e3) (cell_on hb e4) (cell_on hb e5) (cell_on hb e6))
      generalize addQ chs name qx qy qd body until_ = r at *
      have HWH := hide (fun (W0 : World) (S1 : Nat → Prop) (hQ : QV W0 B wb S1 P since chs rds1) (qb : Nat) (e0 : W0.cell? ⟨w.heap.size, 0, none⟩ = some (.pointer (some ⟨wb, 0, none⟩))) (e1 : W0.cell? ⟨w.heap.size + 1, 0, none⟩ = some (.string name)) (e2 : W0.cell? ⟨qb, 0, none⟩ = some (.int .i64 qx)) (e3 : W0.cell? ⟨qb, 1, none⟩ = some (.int .i64 qy)) (e4 : W0.cell? ⟨qb, 2, none⟩ = some (.string qd)) (e5 : W0.cell? ⟨w.heap.size + 1 + 1, 0, none⟩ = some (.string body)) (e6 : W0.cell? ⟨w.heap.size + 1 + 1 + 1, 0, none⟩ = some (.int .i64 until_)) => qwholeI_any W0 hQ (fun W hb => HW.out W W0 S1 hQ hb qb e0 e1 e2 e3 e4 e5 e6))
      clear HW
      by_cases hz : r.2.1 = 0
      · rw [if_pos hz]
        simp only [if_pos hz] at HWH
        have HZ := hide hz
        clear hz
        go_enter Tryz.func12, Tryz.ntmps12
        go_wp2_with (first
          | (go_at_call 26; refine HF.out.mono ?_; rintro e w1 ⟨rfl, ha⟩; obtain ⟨S1, hq1, hs1⟩ := ha; have hbQ := below_alloc1 w1 (Obj.cells #[Value.int .i64 qx, Value.int .i64 qy, Value.string qd] 76); have c0' := (World.cell?_of_block (HQ.out.new hs1 (k := w.heap.size) (by omega) (by rw [hsz]; omega)).1).trans c0; replace c0' := cell_on hbQ c0'; have c1' := (World.cell?_of_block (HQ.out.new hs1 (k := w.heap.size + 1) (by omega) (by rw [hsz]; omega)).1).trans c1; replace c1' := cell_on hbQ c1'; have c5' := (World.cell?_of_block (HQ.out.new hs1 (k := w.heap.size + 1 + 1) (by omega) (by rw [hsz]; omega)).1).trans c5; replace c5' := cell_on hbQ c5'; have c6' := (World.cell?_of_block (HQ.out.new hs1 (k := w.heap.size + 1 + 1 + 1) (by omega) (by rw [hsz]; omega)).1).trans c6; replace c6' := cell_on hbQ c6'; have HQ1 := hide (hq1.on hbQ); have HS1 := hide ((StepV.on HQ.out.pv.lo HBA.out).trans (hs1.trans (.on hq1.pv.lo hbQ))); have HA2 : Hid (ActQ w (w1.alloc (Obj.cells #[Value.int .i64 qx, Value.int .i64 qy, Value.string qd] 76)) B wb S P since chs rds1) := ⟨S1, HQ1.out, HS1.out⟩; clear hq1 hs1 hbQ; rw [HE1.out])
          | (go_at_call 46; refine (qisTime_any until_ _).mono ?_; rintro e w2 ⟨rfl, rfl⟩; rw [HTM.out])
          | (go_at_call 47; refine (HWH.out _ S1 HQ1.out w1.heap.size c0' c1' (cell_new w1 _ _ 0) (cell_new w1 _ _ 1) (cell_new w1 _ _ 2) c5' c6').mono ?_; rintro e w3 ⟨rfl, ha⟩; have HA3 := hide (ActQ.after HS1.out ha); clear ha)
          | fail)
        go_ret2
        exact ⟨by rw [HZ.out]; rfl, HA3.out⟩
      · rw [if_neg hz]
        simp only [if_neg hz] at HWH
        clear hz
        go_enter Tryz.func12, Tryz.ntmps12
        go_wp2_with (first
          | (go_at_call 26; refine HF.out.mono ?_; rintro e w1 ⟨rfl, ha⟩; obtain ⟨S1, hq1, hs1⟩ := ha; have hbQ := below_alloc1 w1 (Obj.cells #[Value.int .i64 qx, Value.int .i64 qy, Value.string qd] 76); have c0' := (World.cell?_of_block (HQ.out.new hs1 (k := w.heap.size) (by omega) (by rw [hsz]; omega)).1).trans c0; replace c0' := cell_on hbQ c0'; have c1' := (World.cell?_of_block (HQ.out.new hs1 (k := w.heap.size + 1) (by omega) (by rw [hsz]; omega)).1).trans c1; replace c1' := cell_on hbQ c1'; have c5' := (World.cell?_of_block (HQ.out.new hs1 (k := w.heap.size + 1 + 1) (by omega) (by rw [hsz]; omega)).1).trans c5; replace c5' := cell_on hbQ c5'; have c6' := (World.cell?_of_block (HQ.out.new hs1 (k := w.heap.size + 1 + 1 + 1) (by omega) (by rw [hsz]; omega)).1).trans c6; replace c6' := cell_on hbQ c6'; have HQ1 := hide (hq1.on hbQ); have HS1 := hide ((StepV.on HQ.out.pv.lo HBA.out).trans (hs1.trans (.on hq1.pv.lo hbQ))); have HA2 : Hid (ActQ w (w1.alloc (Obj.cells #[Value.int .i64 qx, Value.int .i64 qy, Value.string qd] 76)) B wb S P since chs rds1) := ⟨S1, HQ1.out, HS1.out⟩; clear hq1 hs1 hbQ; rw [HE1.out])
          | (go_at_call 46; refine (qisTime_any until_ _).mono ?_; rintro e w2 ⟨rfl, rfl⟩; rw [HTM.out])
          | (go_at_call 47; refine (HWH.out _ S1 HQ1.out w1.heap.size c0' c1' (cell_new w1 _ _ 0) (cell_new w1 _ _ 1) (cell_new w1 _ _ 2) c5' c6').mono ?_; rintro e w3 ⟨rfl, ha⟩; have HA3 := hide (ActQ.after HS1.out ha); clear ha)
          | fail)
        go_ret2
        exact ⟨rfl, HA3.out⟩
  · rw [if_neg h1]
    have HE1 := hide (errV_pos h1)
    clear h1 HFO
    go_enter Tryz.func12, Tryz.ntmps12
    go_wp2_with (first
      | (go_at_call 26; refine HF.out.mono ?_; rintro e w1 ⟨rfl, ha⟩; obtain ⟨S1, hq1, hs1⟩ := ha; have hbQ := below_alloc1 w1 (Obj.cells #[Value.int .i64 qx, Value.int .i64 qy, Value.string qd] 76); have c0' := (World.cell?_of_block (HQ.out.new hs1 (k := w.heap.size) (by omega) (by rw [hsz]; omega)).1).trans c0; replace c0' := cell_on hbQ c0'; have c1' := (World.cell?_of_block (HQ.out.new hs1 (k := w.heap.size + 1) (by omega) (by rw [hsz]; omega)).1).trans c1; replace c1' := cell_on hbQ c1'; have c5' := (World.cell?_of_block (HQ.out.new hs1 (k := w.heap.size + 1 + 1) (by omega) (by rw [hsz]; omega)).1).trans c5; replace c5' := cell_on hbQ c5'; have c6' := (World.cell?_of_block (HQ.out.new hs1 (k := w.heap.size + 1 + 1 + 1) (by omega) (by rw [hsz]; omega)).1).trans c6; replace c6' := cell_on hbQ c6'; have HQ1 := hide (hq1.on hbQ); have HS1 := hide ((StepV.on HQ.out.pv.lo HBA.out).trans (hs1.trans (.on hq1.pv.lo hbQ))); have HA2 : Hid (ActQ w (w1.alloc (Obj.cells #[Value.int .i64 qx, Value.int .i64 qy, Value.string qd] 76)) B wb S P since chs rds1) := ⟨S1, HQ1.out, HS1.out⟩; clear hq1 hs1 hbQ; rw [HE1.out])
      | fail)
    go_ret2
    exact ⟨HE1.out ▸ rfl, HA2.out⟩
end Go.Proofs.YtighpalbodhfeaaGreatDoor

/-
  Plain facts on the rows of a queue's messages: the key of a row that lies in their span is that of one of its messages; the digits behind the last stroke are its number.
-/
namespace Go.Proofs.YtighpalbodhfeaaGreatDoor

theorem six_of {l : List UInt8} (h : sixL l = true) : ∃ n, n ≤ 999999 ∧ l = six n := by
  simp only [sixL, Bool.and_eq_true, decide_eq_true_eq] at h
  obtain ⟨h6, hd⟩ := h
  match l, h6 with
  | [a, b, c, d, e, f], _ =>
    have g : ∀ i, i < 6 → isDig ([a, b, c, d, e, f].getD i 0) = true := fun i hi => List.all_eq_true.1 hd i (List.mem_range.2 hi)
    have g' : ∀ x : UInt8, isDig x = true → 48 ≤ x.toNat ∧ x.toNat ≤ 57 := fun x hx => by simpa [isDig] using hx
    have ha := g' a (g 0 (by omega))
    have hb := g' b (g 1 (by omega))
    have hc := g' c (g 2 (by omega))
    have hd := g' d (g 3 (by omega))
    have he := g' e (g 4 (by omega))
    have hf := g' f (g 5 (by omega))
    refine ⟨100000 * (a.toNat - 48) + 10000 * (b.toNat - 48) + 1000 * (c.toNat - 48) + 100 * (d.toNat - 48) + 10 * (e.toNat - 48) + (f.toNat - 48), by omega, ?_⟩
    have one : ∀ (x : UInt8) (n i : Nat), 48 ≤ x.toNat → n / 10 ^ i % 10 = x.toNat - 48 → x = dgt n i := fun x n i h48 h => UInt8.toNat_inj.1 (by rw [dgt_toNat, h]; omega)
    simp only [six]
    rw [← one a _ 5 ha.1 (by omega), ← one b _ 4 hb.1 (by omega), ← one c _ 3 hc.1 (by omega), ← one d _ 2 hd.1 (by omega), ← one e _ 1 he.1 (by omega), ← one f _ 0 hf.1 (by omega)]
/-- a row's key in the span of a queue's messages -/
theorem key_in {q k : ByteArray} (hq : nameL q.data.toList = true) (hk : keyL k.data.toList = true) (hs : hasS (fromB q) (toB q) k = true) : ∃ n, n ≤ 999999 ∧ k = msgB q n := by
  rw [span_has, fromB_l] at hs
  obtain ⟨r, hr⟩ := List.isPrefixOf_iff_prefix.1 hs
  have e : k.data.toList = 109 :: 47 :: (q.data.toList ++ 47 :: r) := by rw [← hr]; simp
  have t : Lib.trimPrefix k.data.toList [109, 47] = q.data.toList ++ 47 :: r := by rw [e, Lib.trimPrefix]; simp [Lib.hasPrefix]
  have m : messageL k.data.toList = true := by
    rw [keyL, Bool.or_eq_true, Bool.or_eq_true] at hk
    rcases hk with h | h | h
    · rw [e, namedL] at h; simp [Lib.hasPrefix] at h
    · rw [e, namedL] at h; simp [Lib.hasPrefix] at h
    · exact h
  rw [messageL, t, index_name (name_mem hq), messageOf, Bool.and_eq_true, Bool.and_eq_true, Bool.and_eq_true] at m
  have hx := m.2.2.2
  have d : (q.data.toList ++ 47 :: r).drop (q.data.toList.length + 1) = r := by rw [List.drop_append]; simp
  rw [Int.toNat_natCast, d] at hx
  obtain ⟨n, hn, rfl⟩ := six_of hx
  exact ⟨n, hn, data_inj (by rw [e, msgB_l])⟩
theorem last_stroke {q : ByteArray} (n : Nat) : Lib.lastIndexByte (msgB q n) 47 = (q.size : Int) + 2 := by
  have hl := msgB_l q n
  have hz := msg_size q n
  have at_ : ∀ j : Nat, (msgB q n).data[j]! = (109 :: 47 :: (q.data.toList ++ 47 :: six n))[j]?.getD (default : UInt8) := by
    intro j
    rw [← hl, Array.getElem?_toList, Array.getElem!_eq_getD, Array.getD_eq_getD_getElem?]
  have ql : q.data.toList.length = q.size := by rw [Array.length_toList]; rfl
  rcases Lib.lastIndexByte_spec (msgB q n) 47 with ⟨_, hno⟩ | ⟨i, hi, he, hc, hno⟩
  · exfalso
    refine hno (q.size + 2) (by omega) ?_
    rw [at_, ← ql]; simp
  · rw [he]
    have : i = q.size + 2 := by
      rcases Nat.lt_trichotomy i (q.size + 2) with h | h | h
      · exfalso
        refine hno (q.size + 2) h (by omega) ?_
        rw [at_, ← ql]; simp
      · exact h
      · exfalso
        rw [at_] at hc
        obtain ⟨j, rfl⟩ : ∃ j, i = q.data.toList.length + j + 3 := ⟨i - q.size - 3, by omega⟩
        have e2 : (109 :: 47 :: (q.data.toList ++ 47 :: six n))[q.data.toList.length + j + 3]? = (six n)[j]? := by
          rw [List.getElem?_cons_succ, List.getElem?_cons_succ, show q.data.toList.length + j + 1 = q.data.toList.length + (j + 1) by omega, List.getElem?_append_right (by omega)]
          simp
        rw [e2] at hc
        have hj : j < 6 := by omega
        have h6 : ∀ x ∈ six n, x.toNat ≠ 47 := by
          intro x hx
          simp only [six, List.mem_cons, List.not_mem_nil, or_false] at hx
          have g := fun i => dgt_toNat n i
          rcases hx with rfl | rfl | rfl | rfl | rfl | rfl <;> rw [dgt_toNat] <;> omega
        have hjl : j < (six n).length := hj
        rw [List.getElem?_eq_getElem hjl] at hc
        have hh : ((six n)[j]).toNat = 47 := by simp only [Option.getD_some] at hc; omega
        exact h6 _ (List.getElem_mem hjl) hh
    omega
theorem digits_of {q : ByteArray} (n : Nat) : ((msgB q n).extract (q.size + 3) (q.size + 9)).data.toList = six n := by
  have ql : q.data.toList.length = q.size := by rw [Array.length_toList]; rfl
  rw [ByteArray.data_extract, Array.toList_extract, msgB_l]
  have : (109 :: 47 :: (q.data.toList ++ 47 :: six n)).extract (q.size + 3) (q.size + 9) = six n := by
    rw [List.extract_eq_take_drop, ← ql]
    have d : (109 :: 47 :: (q.data.toList ++ 47 :: six n)).drop (q.data.toList.length + 3) = six n := by
      rw [List.drop_succ_cons, List.drop_succ_cons, List.drop_append]; simp
    rw [d, show q.data.toList.length + 9 - (q.data.toList.length + 3) = 6 by omega]
    rfl
  exact this
theorem dec_zeros (k : Nat) (l : List UInt8) : Lib.decFrom 0 (List.replicate k 48 ++ l) = Lib.decFrom 0 l := by
  induction k with
  | zero => rfl
  | succ k ih => rw [List.replicate_succ, List.cons_append, Lib.decFrom]; exact ih
theorem atoi_six (n : Nat) (hn : n ≤ 999999) : Lib.atoi (six n) = some (n : Int) := by
  have h : Lib.decFrom 0 (six n) = some n := by rw [← pad_six n hn, dec_zeros, dec_from]
  have hb := dgt_dig n 5
  have n1 : (dgt n 5 == 45) = false := beq_eq_false_iff_ne.2 (dig_ne hb 45 (by decide))
  have n2 : (dgt n 5 == 43) = false := beq_eq_false_iff_ne.2 (dig_ne hb 43 (by decide))
  rw [six] at h
  simp only [Lib.atoi, six, n1, n2, Lib.decNat, h]
  rfl
end Go.Proofs.YtighpalbodhfeaaGreatDoor
