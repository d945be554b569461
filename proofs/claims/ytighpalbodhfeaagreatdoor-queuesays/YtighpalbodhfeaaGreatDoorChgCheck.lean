/-
  What change.Check returns of every change: no fault, a wrong shape, or a value beyond the bound. It makes new memory alone.
-/
import Derived.Test.YtighpalbodhfeaaGreatDoorChgMem
import Derived.Test.YtighpalbodhfeaaGreatDoorRefRow
import Derived.Test.YtighpalbodhfeaaGreatDoorVerBehind
import Derived.Test.YtighpalbodhfeaaGreatDoorChgPlace
import Derived.Deep.RegionHeld3
namespace Go.Proofs.YtighpalbodhfeaaGreatDoor
open Go.RowKit Go.Joins

def chgFault (c : Chg) : Nat := if !keyL c.key.data.toList then 3 else if c.gone && !c.val.toList.isEmpty then 3 else if 40 < c.val.size then 1 else 0

set_option maxHeartbeats 2000000 in
theorem chg_check (c : Chg) (w : World) (hk : c.key.size ≤ maxLen) :
    Calls Tryz.prog 109 #[.agg #[.string c.key, .string c.val, .bool c.gone]] w fun e w' => e = .returned (errV (chgFault c)) ∧ Below w.heap.size w w' := by
  have HK := fun w' => hide (check_any c.key w' hk)
  unfold chgFault
  generalize keyL c.key.data.toList = kl at *
  have hB := below_alloc1 w (Obj.cells #[Value.string c.key, Value.string c.val, Value.bool c.gone] 84)
  have a1 : (w.alloc (Obj.cells #[Value.string c.key, Value.string c.val, Value.bool c.gone] 84)).cell? ⟨w.heap.size, 1, none⟩ = some (.string c.val) := by simp
  have a2 : (w.alloc (Obj.cells #[Value.string c.key, Value.string c.val, Value.bool c.gone] 84)).cell? ⟨w.heap.size, 2, none⟩ = some (.bool c.gone) := by simp
  cases kl
  · go_enter Tryz.func109, Tryz.ntmps109
    go_wp2_with fail
    refine ((HK _).out).mono ?_
    rintro e w1 ⟨rfl, hb⟩
    replace hB := below_on hB (Nat.le_refl _) hb
    simp only [Bool.false_eq_true, if_false, errV]
    go_wp2
    go_ret
    exact ⟨rfl, hB⟩
  · generalize c.gone = g at *
    cases g
    all_goals
      go_enter Tryz.func109, Tryz.ntmps109
      go_wp2_with fail
      refine ((HK _).out).mono ?_
      rintro e w1 ⟨rfl, hb⟩
      replace hB := below_on hB (Nat.le_refl _) hb
      replace a1 := cell_on hb a1
      replace a2 := cell_on hb a2
      clear HK hb
      simp only [if_true, errV]
      by_cases h40 : 40 < c.val.size
      · have j40 : (40 : Int) < (c.val.size : Int) := by omega
        go_wp2
        all_goals
          go_ret
          exact ⟨by simp_all [errV], hB⟩
      · have j40 : ¬ (40 : Int) < (c.val.size : Int) := by omega
        go_wp2
        all_goals
          go_ret
          exact ⟨by simp_all [errV], hB⟩
end Go.Proofs.YtighpalbodhfeaaGreatDoor

/-
  What Versions.Now and Versions.Read return of versions that lie in memory. Nothing that was there is changed.
-/
namespace Go.Proofs.YtighpalbodhfeaaGreatDoor
open Go.RowKit Go.Joins

theorem now_any {B vb mb n : Nat} {now : Int} {D : DataW Value} {g : ByteArray → Value} {R : ByteArray → List Ver} (w : World) (h : VS w B vb mb now n D g R) :
    Calls Tryz.prog 18 #[.pointer (some ⟨vb, 0, none⟩)] w fun e w' => e = .returned (.int .i64 now) ∧ w' = w := by
  have c := h.num
  go_enter Tryz.func18, Tryz.ntmps18
  go_wp2
  go_ret
  exact ⟨rfl, rfl⟩
set_option maxHeartbeats 1000000 in
theorem read_any {B vb mb n : Nat} {now : Int} {D : DataW Value} {g : ByteArray → Value} {R : ByteArray → List Ver} (key : ByteArray) (at_ : Int) (w : World) (h : VS w B vb mb now n D g R) (hk : key.size ≤ maxLen) (hR : (R key).length ≤ 1000000) :
    Calls Tryz.prog 75 #[.pointer (some ⟨vb, 0, none⟩), .string key, .int .i64 at_] w fun e w' => e = .returned (.tuple #[.string (behindV (R key) at_).1, .bool (behindV (R key) at_).2]) ∧ Below w.heap.size w w' := by
  have c := h.mp
  have hl := h.looked hk
  obtain ⟨ao, cap, e, hI, _, _⟩ := ownV_in (h.rows key)
  rw [e] at hl
  have HI := hide hI
  clear hI e
  generalize R key = vs at *
  go_enter Tryz.func75, Tryz.ntmps75
  go_wp2_with (go_at_call 115; refine (behind_any ao cap vs at_ _ hR HI.out).mono ?_; rintro e w1 ⟨rfl, hb⟩)
  go_ret2
  exact ⟨rfl, hb⟩
end Go.Proofs.YtighpalbodhfeaaGreatDoor

/-
  What view.New, View.Put, View.Delete, View.Changes, View.Reads, View.Mark and View.Back make of a view that lies in memory.
-/
namespace Go.Proofs.YtighpalbodhfeaaGreatDoor
open Go.RowKit Go.Joins Go.Shelf
attribute [local go_sem ↓] Go.wp_at_zero Go.wp_at_succ

set_option maxHeartbeats 1000000 in
theorem view_new {B vb mb n : Nat} {now : Int} {D : DataW Value} {g : ByteArray → Value} {R : ByteArray → List Ver} (w : World) (h : VS w B vb mb now n D g R) :
    Calls Tryz.prog 7 #[.pointer (some ⟨vb, 0, none⟩)] w fun e w' => ∃ wb, e = .returned (.pointer (some ⟨wb, 0, none⟩)) ∧ VW w' w.heap.size wb vb now (.slice none 0 0) (.slice none 0 0) [] [] ∧ Below w.heap.size w w' := by
  have HV := hide h
  clear h
  go_enter Tryz.func7, Tryz.ntmps7
  go_wp2_with (go_at_call 18; refine (now_any _ HV.out).mono ?_; rintro e w1 ⟨rfl, rfl⟩)
  go_ret
  refine ⟨_, rfl, ⟨cell_new _ _ _ 0, cell_new _ _ _ 1, cell_new _ _ _ 2, cell_new _ _ _ 3, fun j => frozen_new _ _ _ j, World.ownsRow_nil _ _ _ _, World.ownsRow_nil _ _ _ _, Nat.le_refl _, by simp [Value.ownBlock], by simp [Value.ownBlock], fun k e => by simp [Value.ownBlock] at e⟩, below_alloc1 _ _⟩
/-- what is wrong with a change more -/
def alterF (l : List Chg) (c : Chg) : Nat := if chgFault c = 0 then if 12 < (insL l c).length then 2 else 0 else chgFault c
def alterL (l : List Chg) (c : Chg) : List Chg := if alterF l c = 0 then insL l c else l
/-- behind an act that changes no more than changes -/
def AlterAt (w w' : World) (B wb vb : Nat) (since : Int) (cv rv : Value) (chs : List Chg) (rds : List (ByteArray × ByteArray)) : Prop := ∃ cv', VW w' B wb vb since cv' rv chs rds ∧ Below B w w' ∧ farW w w' wb cv rv cv' rv
theorem alter_same {w w' : World} {B wb vb : Nat} {since : Int} {cv rv : Value} {chs : List Chg} {rds : List (ByteArray × ByteArray)} (h : VW w B wb vb since cv rv chs rds) (hB : B ≤ w.heap.size) (hb : Below w.heap.size w w') : AlterAt w w' B wb vb since cv rv chs rds := ⟨cv, h.on hb, hb.mono hB, farW.on hb⟩
theorem alter_set {w w1 : World} {B wb vb : Nat} {since : Int} {cv rv cv' : Value} {chs chs' : List Chg} {rds : List (ByteArray × ByteArray)} (h : VW w B wb vb since cv rv chs rds) (hB : B ≤ w.heap.size) (hb : Below w.heap.size w w1) (ho : ownCh w1 w.heap.size cv' chs') : AlterAt w (w1.setCell ⟨wb, 2, none⟩ cv') B wb vb since cv rv chs' rds := by
  have hf : ∀ k, cv'.ownBlock = some k → w.heap.size ≤ k := fun k e => (World.ownsRow.lt ho k e).1
  refine ⟨cv', (h.on hb).setC (ownCh_le ho hB) (fun k e hin => by have := hf k e; have := h.lt hin; omega), (hb.mono hB).setCell (p := ⟨wb, 2, none⟩) h.lo _, fun j hj hn => ?_⟩
  obtain ⟨a, b⟩ := farW.setC (w := w1) (wb := wb) (cv := cv) (rv := rv) (cv' := cv') hf (u := cv') j hj hn
  exact ⟨a.trans (hb.block j hj), b⟩
set_option maxHeartbeats 2000000 in
theorem alter_any (c : Chg) {B wb vb : Nat} {since : Int} {cv rv : Value} {chs : List Chg} {rds : List (ByteArray × ByteArray)} (w : World) (h : VW w B wb vb since cv rv chs rds) (hB : B ≤ w.heap.size) (hn : chs.length ≤ 100) (hk : c.key.size ≤ maxLen) :
    Calls Tryz.prog 68 #[.pointer (some ⟨wb, 0, none⟩), .agg #[.string c.key, .string c.val, .bool c.gone]] w fun e w' => e = .returned (errV (alterF chs c)) ∧ AlterAt w w' B wb vb since cv rv (alterL chs c) rds := by
  have HV := hide h
  have hB0 := below_alloc1 w (Obj.cells #[Value.string c.key, Value.string c.val, Value.bool c.gone] 84)
  have a0 : (w.alloc (Obj.cells #[Value.string c.key, Value.string c.val, Value.bool c.gone] 84)).cell? ⟨w.heap.size, 0, none⟩ = some (.string c.key) := cell_new _ _ _ 0
  have a1 : (w.alloc (Obj.cells #[Value.string c.key, Value.string c.val, Value.bool c.gone] 84)).cell? ⟨w.heap.size, 1, none⟩ = some (.string c.val) := cell_new _ _ _ 1
  have a2 : (w.alloc (Obj.cells #[Value.string c.key, Value.string c.val, Value.bool c.gone] 84)).cell? ⟨w.heap.size, 2, none⟩ = some (.bool c.gone) := cell_new _ _ _ 2
  have c2 := cell_on hB0 h.c2
  have f2 := frozen_on hB0 (h.lt (.inl rfl)) (h.soft 2)
  have hwb := h.lt (k := wb) (.inl rfl)
  have HB0 := hide hB0
  clear h hB0
  unfold alterL
  by_cases hf : chgFault c = 0
  · have HF := hide hf
    have hlen := ins_length chs c
    have hae : alterF chs c = if 12 < (insL chs c).length then 2 else 0 := if_pos hf
    rw [hae]
    clear hf hae
    by_cases h12 : 12 < (insL chs c).length
    · have h12' : (12 : Int) < ((insL chs c).length : Int) := by omega
      rw [if_pos h12, if_neg (by decide)]
      have HP := fun w1 (hb : Below w.heap.size w w1) => hide (put_own chs c cv B w1 ((HV.out.on hb).chs) (by omega))
      generalize (insL chs c).length = m at *
      go_enter Tryz.func68, Tryz.ntmps68
      go_wp2_with (first
        | (go_at_call 109; refine (chg_check c _ hk).mono ?_; rintro e w1 ⟨rfl, hb1⟩; rw [HF.out]; simp only [errV]; have HB1 := hide (below_on HB0.out (Nat.le_refl _) hb1); replace a0 := cell_on hb1 a0; replace a1 := cell_on hb1 a1; replace a2 := cell_on hb1 a2; replace c2 := cell_on hb1 c2; clear hb1))
      go_region_held3 (fun w' => w'.cell? ⟨w.heap.size, 0, none⟩ = some (.string c.key) ∧ w'.cell? ⟨w.heap.size, 1, none⟩ = some (.string c.val) ∧ w'.cell? ⟨w.heap.size, 2, none⟩ = some (.bool c.gone) ∧ w'.cell? ⟨wb, 2, none⟩ = some cv)
        (first | go_keep | exact ⟨cell_on hb2 a0, cell_on hb2 a1, cell_on hb2 a2, cell_on hb2 c2⟩) (first | (go_at_call 110; refine (HP _ HB1.out.drew).out.mono ?_; rintro e w2 ⟨g, cap, rfl, ho, hb2'⟩; have hb2 := below_on (Below.refl _ w1).drew (Nat.le_refl _) hb2'; clear hb2'; dsimp only))
      all_goals
        go_wp2
        go_ret
        exact ⟨rfl, alter_same HV.out hB (below_on HB1.out (Nat.le_refl _) hb2)⟩
    · have h12' : ¬ (12 : Int) < ((insL chs c).length : Int) := by omega
      rw [if_neg h12, if_pos rfl]
      have HP := fun w1 (hb : Below w.heap.size w w1) => hide (put_own chs c cv B w1 ((HV.out.on hb).chs) (by omega))
      generalize hl : insL chs c = l2 at *
      clear hl
      go_enter Tryz.func68, Tryz.ntmps68
      go_wp2_with (first
        | (go_at_call 109; refine (chg_check c _ hk).mono ?_; rintro e w1 ⟨rfl, hb1⟩; rw [HF.out]; simp only [errV]; have HB1 := hide (below_on HB0.out (Nat.le_refl _) hb1); replace a0 := cell_on hb1 a0; replace a1 := cell_on hb1 a1; replace a2 := cell_on hb1 a2; replace c2 := cell_on hb1 c2; replace f2 := frozen_on HB1.out hwb (HV.out.soft 2); clear hb1))
      go_region_held3 (fun w' => w'.cell? ⟨w.heap.size, 0, none⟩ = some (.string c.key) ∧ w'.cell? ⟨w.heap.size, 1, none⟩ = some (.string c.val) ∧ w'.cell? ⟨w.heap.size, 2, none⟩ = some (.bool c.gone) ∧ w'.cell? ⟨wb, 2, none⟩ = some cv)
        (first | go_keep | exact ⟨cell_on hb2 a0, cell_on hb2 a1, cell_on hb2 a2, cell_on hb2 c2⟩) (first | (go_at_call 110; refine (HP _ HB1.out.drew).out.mono ?_; rintro e w2 ⟨g, cap, rfl, ho, hb2'⟩; have hb2 := below_on (Below.refl _ w1).drew (Nat.le_refl _) hb2'; clear hb2'; dsimp only))
      all_goals
        have c2' := cell_on hb2 c2
        have f2' := frozen_on (below_on HB1.out (Nat.le_refl _) hb2) hwb (HV.out.soft 2)
        go_wp2
        go_ret
        exact ⟨rfl, alter_set HV.out hB (below_on HB1.out (Nat.le_refl _) hb2) (ownCh_le ho HB1.out.size)⟩
  · have hae : alterF chs c = chgFault c := if_neg hf
    rw [hae, if_neg hf]
    generalize hfe : chgFault c = f at *
    have HFE := hide hfe
    have he : errV f = .iface 108 (.int .i64 f) := by unfold errV; rw [if_neg hf]
    have HE := hide he
    clear hae hf hfe he
    go_enter Tryz.func68, Tryz.ntmps68
    go_wp2_with (first
      | (go_at_call 109; refine (chg_check c _ hk).mono ?_; rintro e w1 ⟨rfl, hb1⟩; rw [HFE.out, HE.out]; have HB1 := hide (below_on HB0.out (Nat.le_refl _) hb1); clear hb1))
    go_ret
    exact ⟨by rw [HE.out]; rfl, alter_same HV.out hB HB1.out⟩
end Go.Proofs.YtighpalbodhfeaaGreatDoor

/-
  What View.Put, View.Delete, View.Changes, View.Reads, View.Mark and View.Back make of a view that lies in memory.
-/
namespace Go.Proofs.YtighpalbodhfeaaGreatDoor
open Go.RowKit Go.Joins Go.Shelf
attribute [local go_sem ↓] Go.wp_at_zero Go.wp_at_succ

set_option maxHeartbeats 1000000 in
theorem vput_any (key val : ByteArray) {B wb vb : Nat} {since : Int} {cv rv : Value} {chs : List Chg} {rds : List (ByteArray × ByteArray)} (w : World) (h : VW w B wb vb since cv rv chs rds) (hB : B ≤ w.heap.size) (hn : chs.length ≤ 100) (hk : key.size ≤ maxLen) :
    Calls Tryz.prog 28 #[.pointer (some ⟨wb, 0, none⟩), .string key, .string val] w fun e w' => e = .returned (errV (alterF chs ⟨key, val, false⟩)) ∧ AlterAt w w' B wb vb since cv rv (alterL chs ⟨key, val, false⟩) rds := by
  have HV := hide h
  clear h
  go_enter Tryz.func28, Tryz.ntmps28
  go_wp2_with (go_at_call 68; refine (alter_any ⟨key, val, false⟩ _ HV.out hB hn hk).mono ?_; rintro e w1 ⟨rfl, ha⟩; have HA := hide ha; clear ha)
  go_ret
  exact ⟨rfl, HA.out⟩
set_option maxHeartbeats 1000000 in
theorem vdelete_any (key : ByteArray) {B wb vb : Nat} {since : Int} {cv rv : Value} {chs : List Chg} {rds : List (ByteArray × ByteArray)} (w : World) (h : VW w B wb vb since cv rv chs rds) (hB : B ≤ w.heap.size) (hn : chs.length ≤ 100) (hk : key.size ≤ maxLen) :
    Calls Tryz.prog 30 #[.pointer (some ⟨wb, 0, none⟩), .string key] w fun e w' => e = .returned (errV (alterF chs ⟨key, ⟨#[]⟩, true⟩)) ∧ AlterAt w w' B wb vb since cv rv (alterL chs ⟨key, ⟨#[]⟩, true⟩) rds := by
  have HV := hide h
  clear h
  go_enter Tryz.func30, Tryz.ntmps30
  go_wp2_with (go_at_call 68; refine (alter_any ⟨key, ⟨#[]⟩, true⟩ _ HV.out hB hn hk).mono ?_; rintro e w1 ⟨rfl, ha⟩; have HA := hide ha; clear ha)
  go_ret
  exact ⟨rfl, HA.out⟩
set_option maxHeartbeats 1000000 in
theorem changes_any {B wb vb : Nat} {since : Int} {cv rv : Value} {chs : List Chg} {rds : List (ByteArray × ByteArray)} (w : World) (h : VW w B wb vb since cv rv chs rds) (hn : chs.length ≤ 100) :
    Calls Tryz.prog 40 #[.pointer (some ⟨wb, 0, none⟩)] w fun e w' => ∃ v, e = .returned v ∧ ownCh w' w.heap.size v chs ∧ Below w.heap.size w w' := by
  have HC := hide h.chs
  have c2 := h.c2
  clear h
  go_enter Tryz.func40, Tryz.ntmps40
  go_wp2_with (go_at_call 90; refine (clone_own chs cv B _ HC.out (by omega)).mono ?_; rintro e w1 ⟨v, rfl, ho, hb⟩; have HO := hide ho; clear ho)
  go_ret
  exact ⟨v, rfl, HO.out, hb⟩
set_option maxHeartbeats 1000000 in
theorem mark_any {B wb vb : Nat} {since : Int} {cv rv : Value} {chs : List Chg} {rds : List (ByteArray × ByteArray)} (w : World) (h : VW w B wb vb since cv rv chs rds) (hn : chs.length ≤ 100) :
    Calls Tryz.prog 93 #[.pointer (some ⟨wb, 0, none⟩)] w fun e w' => ∃ v, e = .returned v ∧ ownCh w' w.heap.size v chs ∧ Below w.heap.size w w' := by
  have HV := hide h
  clear h
  go_enter Tryz.func93, Tryz.ntmps93
  go_wp2_with (go_at_call 40; refine (changes_any _ HV.out hn).mono ?_; rintro e w1 ⟨v, rfl, ho, hb⟩; have HO := hide ho; clear ho)
  go_ret
  exact ⟨v, rfl, HO.out, hb⟩
set_option maxHeartbeats 1000000 in
theorem reads_any {B wb vb : Nat} {since : Int} {cv rv : Value} {chs : List Chg} {rds : List (ByteArray × ByteArray)} (w : World) (h : VW w B wb vb since cv rv chs rds) (hn : rds.length ≤ 100) :
    Calls Tryz.prog 42 #[.pointer (some ⟨wb, 0, none⟩)] w fun e w' => ∃ v, e = .returned v ∧ ownSp w' w.heap.size v rds ∧ Below w.heap.size w w' := by
  have HC := hide h.rds
  have c3 := h.c3
  clear h
  go_enter Tryz.func42, Tryz.ntmps42
  go_wp2_with (go_at_call 91; refine (clone_sp rds rv B _ HC.out (by omega)).mono ?_; rintro e w1 ⟨v, rfl, ho, hb⟩; have HO := hide ho; clear ho)
  go_ret
  exact ⟨v, rfl, HO.out, hb⟩
set_option maxHeartbeats 1000000 in
theorem back_any {B wb vb B2 : Nat} {since : Int} {cv rv mv : Value} {chs mk : List Chg} {rds : List (ByteArray × ByteArray)} (w : World) (h : VW w B wb vb since cv rv chs rds) (hB : B ≤ w.heap.size) (hm : ownCh w B2 mv mk) (hn : mk.length ≤ 100) :
    Calls Tryz.prog 94 #[.pointer (some ⟨wb, 0, none⟩), mv] w fun e w' => e = .returned (.tuple #[]) ∧ AlterAt w w' B wb vb since cv rv mk rds := by
  have HV := hide h
  have HM := hide hm
  have c2 := h.c2
  have f2 := h.soft 2
  have hwb := h.lt (k := wb) (.inl rfl)
  clear h hm
  go_enter Tryz.func94, Tryz.ntmps94
  go_wp2_with (go_at_call 90; refine (clone_own mk mv B2 _ HM.out (by omega)).mono ?_; rintro e w1 ⟨v, rfl, ho, hb⟩; have HO := hide ho; obtain ⟨va, vc, rfl⟩ := own_shape ho; replace c2 := cell_on hb c2; replace f2 := frozen_on hb hwb f2; clear ho)
  go_end0
  exact ⟨rfl, alter_set HV.out hB hb HO.out⟩
end Go.Proofs.YtighpalbodhfeaaGreatDoor
