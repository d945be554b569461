/-
  What span.Both, lesserEnd, Point and All return, for every span and key, in whatever memory; nothing that was there is changed.
-/
import Derived.Test.YtighpalbodhfeaaGreatDoorRows
import Derived.Test.YtighpalbodhfeaaGreatDoorBase
import Derived.Test.YtighpalbodhfeaaGreatDoorRowBoth
import Derived.Deep.QuietTactic
import Derived.BigQuiet
import Derived.Deep.RegionHeld3
import Derived.Deep.DrawnRows
import Derived.Test.YtighpalbodhfeaaGreatDoorChgCheck
import Derived.OwnWalk
import Derived.Deep.RegionLaw
import Derived.Test.YtighpalbodhfeaaGreatDoorVerBehind
import Derived.Maps.RangeWalk
import Derived.Deep.AppendLies
namespace Go.Proofs.YtighpalbodhfeaaGreatDoor
open Go.RowKit Go.Joins
attribute [local go_sem ↓] Go.wp_at_zero Go.wp_at_succ

set_option maxHeartbeats 400000 in
theorem end_any (a b : ByteArray) (w : World) :
    Calls Tryz.prog 119 #[.string a, .string b] w fun e w' => e = .returned (.string (endS a b)) ∧ w' = w := by
  have hm := fun (w : World) (ts : Array TypeId) (t : TypeId) => Lib.run_min_strs (P := Tryz.prog) w ts t a b
  go_enter Tryz.func119, Tryz.ntmps119
  go_wp2
  all_goals
    go_ret
    refine ⟨?_, rfl⟩
    simp_all [endS, nilS]

set_option maxHeartbeats 400000 in
theorem point_any (k : ByteArray) (w : World) (hk : k.size ≤ 1000) :
    Calls Tryz.prog 74 #[.string k] w fun e w' => e = .returned (.agg #[.string k, .string (zeroS k)]) ∧ Below w.heap.size w w' := by
  go_enter Tryz.func74, Tryz.ntmps74
  go_wp2
  exact bodyPost_ret (v := .agg #[.string k, .string (k ++ ⟨#[0]⟩)]) (by simp [results, Tryz.results74, go_sem]) rfl ⟨rfl, below_alloc1 _ _⟩

set_option maxHeartbeats 1000000 in
theorem both_any (af a_t bf bt : ByteArray) (w : World) :
    Calls Tryz.prog 80 #[.agg #[.string af, .string a_t], .agg #[.string bf, .string bt]] w fun e w' => e = .returned (.agg #[.string (Lib.maxS af bf), .string (endS a_t bt)]) ∧ Below w.heap.size w w' := by
  have hm := fun (w : World) (ts : Array TypeId) (t : TypeId) => Lib.run_max_strs (P := Tryz.prog) w ts t af bf
  go_enter Tryz.func80, Tryz.ntmps80
  go_wp2
  go_region_held3 (fun w' => w'.cell? ⟨w.heap.size, 0, none⟩ = some (.string af) ∧ w'.cell? ⟨w.heap.size, 1, none⟩ = some (.string a_t) ∧ w'.cell? ⟨w.heap.size + 1, 0, none⟩ = some (.string bf) ∧ w'.cell? ⟨w.heap.size + 1, 1, none⟩ = some (.string bt)) (go_keep) (first | (go_at_call 119; refine (end_any _ _ _).mono ?_; rintro e w' ⟨rfl, rfl⟩))
  all_goals
    go_wp2
    exact bodyPost_ret (v := .agg #[.string (Lib.maxS af bf), .string (endS a_t bt)]) (by simp [results, Tryz.results80, go_sem]) rfl ⟨rfl, (below_alloc3 _ _ _ _).drew⟩
end Go.Proofs.YtighpalbodhfeaaGreatDoor

/-
  What View.read and View.Get make of a view that lies in memory.
-/
namespace Go.Proofs.YtighpalbodhfeaaGreatDoor
open Go.RowKit Go.Joins Go.Shelf
attribute [local go_sem ↓] Go.wp_at_zero Go.wp_at_succ

def readF (l : List (ByteArray × ByteArray)) (s : ByteArray × ByteArray) : Nat := if hasSp l s then 0 else if 40 ≤ l.length then 2 else 0
def readL (l : List (ByteArray × ByteArray)) (s : ByteArray × ByteArray) : List (ByteArray × ByteArray) := if hasSp l s then l else if 40 ≤ l.length then l else l ++ [s]
/-- behind an act that changes no more than what is read -/
def ReadAt (w w' : World) (B wb vb : Nat) (since : Int) (cv rv : Value) (chs : List Chg) (rds : List (ByteArray × ByteArray)) : Prop := ∃ rv', VW w' B wb vb since cv rv' chs rds ∧ Below B w w' ∧ farW w w' wb cv rv cv rv'
theorem read_same {w w' : World} {B wb vb : Nat} {since : Int} {cv rv : Value} {chs : List Chg} {rds : List (ByteArray × ByteArray)} (h : VW w B wb vb since cv rv chs rds) (hB : B ≤ w.heap.size) (hb : Below w.heap.size w w') : ReadAt w w' B wb vb since cv rv chs rds := ⟨rv, h.on hb, hb.mono hB, farW.on hb⟩

theorem read_push {w W w3 : World} {B wb vb gk ck : Nat} {since : Int} {cv rv : Value} {chs : List Chg} {rds : List (ByteArray × ByteArray)} {s : ByteArray × ByteArray} (h : VW w B wb vb since cv rv chs rds) (hB : B ≤ w.heap.size) (hb : Below w.heap.size w W) (hg : W.grownBy w3 rv.ownBlock)
    (ho : w3.ownsRow B 91 2 (.slice (some ⟨gk, 0, none⟩) (rds.length + 1) ck) (rds.length + 1) (rds.flatMap cellS ++ [.string s.1, .string s.2])) (hat : rv.ownBlock = some gk ∨ gk = W.heap.size) :
    ReadAt w (w3.setCell ⟨wb, 3, none⟩ (.slice (some ⟨gk, 0, none⟩) (rds.length + 1) ck)) B wb vb since cv rv chs (rds ++ [s]) := by
  have ho' : ownSp w3 B (.slice (some ⟨gk, 0, none⟩) (rds.length + 1) ck) (rds ++ [s]) := by
    unfold ownSp
    rw [List.length_append, List.flatMap_append]
    exact ho
  have hs := hb.size
  refine ⟨_, (h.on hb).setR hg ho' (fun k e => ?_), (((hb.mono hB).grown hg (Nat.le_trans hB hs) (fun k e => (World.ownsRow.lt h.rds k e).1)).setCell (p := ⟨wb, 3, none⟩) h.lo _), fun j hj hn => ⟨?_, ?_⟩⟩
  · simp [Value.ownBlock] at e
    subst e
    exact hat.imp id (fun e => by omega)
  · exact (Below.heap_setCell _ _ _ _ (fun e => hn (.inl e))).trans ((hg.block j (by omega) (fun e => hn (.inr (.inr e.symm)))).trans (hb.block j hj))
  · rintro (e | e | e)
    · exact hn (.inl e)
    · exact hn (.inr (.inl e))
    · simp [Value.ownBlock] at e
      subst e
      rcases hat with e | e
      · exact hn (.inr (.inr e))
      · omega
set_option maxRecDepth 4000 in
set_option maxHeartbeats 2000000 in
theorem vread_any (s : ByteArray × ByteArray) {B wb vb : Nat} {since : Int} {cv rv : Value} {chs : List Chg} {rds : List (ByteArray × ByteArray)} (w : World) (h : VW w B wb vb since cv rv chs rds) (hB : B ≤ w.heap.size) (hn : rds.length ≤ 100) :
    Calls Tryz.prog 73 #[.pointer (some ⟨wb, 0, none⟩), .agg #[.string s.1, .string s.2]] w fun e w' => e = .returned (errV (readF rds s)) ∧ ReadAt w w' B wb vb since cv rv chs (readL rds s) := by
  have HV := hide h
  have hB0 := below_alloc1 w (Obj.cells #[Value.string s.1, Value.string s.2] 91)
  have a0 : (w.alloc (Obj.cells #[Value.string s.1, Value.string s.2] 91)).cell? ⟨w.heap.size, 0, none⟩ = some (.string s.1) := cell_new _ _ _ 0
  have a1 : (w.alloc (Obj.cells #[Value.string s.1, Value.string s.2] 91)).cell? ⟨w.heap.size, 1, none⟩ = some (.string s.2) := cell_new _ _ _ 1
  have c3 := cell_on hB0 h.c3
  have hwb := h.lt (k := wb) (.inl rfl)
  have HB0 := hide hB0
  obtain ⟨ra, rc, rfl⟩ := own_shape h.rds
  clear h hB0
  have HCT := fun w1 (hb : Below w.heap.size w w1) => hide (contains_sp rds _ B s w1 ((HV.out.on hb).rds))
  unfold readF readL
  generalize hasSp rds s = hs at *
  cases hs
  · by_cases h40 : 40 ≤ rds.length
    · have h40' : (40 : Int) ≤ (rds.length : Int) := by omega
      go_enter Tryz.func73, Tryz.ntmps73
      go_wp2
      go_region_held3 (fun w' => w'.cell? ⟨w.heap.size, 0, none⟩ = some (.string s.1) ∧ w'.cell? ⟨w.heap.size, 1, none⟩ = some (.string s.2) ∧ w'.cell? ⟨wb, 3, none⟩ = some (.slice ra rds.length rc))
        (first | go_keep | exact ⟨cell_on hb2 a0, cell_on hb2 a1, cell_on hb2 c3⟩) (first | (go_at_call 114; refine (HCT _ HB0.out.drew).out.mono ?_; rintro e w2 ⟨rfl, hb2'⟩; have hb2 := below_on (Below.refl _ (w.alloc (Obj.cells #[Value.string s.1, Value.string s.2] 91))).drew (Nat.le_refl _) hb2'; clear hb2'; dsimp only))
      all_goals
        replace c3 := cell_on hb2 c3
        go_wp2
        go_ret
        exact ⟨rfl, read_same HV.out hB (below_on HB0.out (Nat.le_refl _) hb2)⟩
    · have h40' : ¬ (40 : Int) ≤ (rds.length : Int) := by omega
      go_enter Tryz.func73, Tryz.ntmps73
      go_wp2
      go_region_held3 (fun w' => w'.cell? ⟨w.heap.size, 0, none⟩ = some (.string s.1) ∧ w'.cell? ⟨w.heap.size, 1, none⟩ = some (.string s.2) ∧ w'.cell? ⟨wb, 3, none⟩ = some (.slice ra rds.length rc))
        (first | go_keep | exact ⟨cell_on hb2 a0, cell_on hb2 a1, cell_on hb2 c3⟩) (first | (go_at_call 114; refine (HCT _ HB0.out.drew).out.mono ?_; rintro e w2 ⟨rfl, hb2'⟩; have hb2 := below_on (Below.refl _ (w.alloc (Obj.cells #[Value.string s.1, Value.string s.2] 91))).drew (Nat.le_refl _) hb2'; clear hb2'; dsimp only))
      all_goals
        replace a0 := cell_on hb2 a0
        replace a1 := cell_on hb2 a1
        replace c3 := cell_on hb2 c3
        have hb02 := below_on HB0.out (Nat.le_refl _) hb2
        have f3 := frozen_on hb02 hwb (HV.out.soft 3)
        have HO2 := hide (HV.out.on hb02).rds
        have HB02 := hide hb02
        have hs2 := hb02.size
        have hwb2 : wb < w2.heap.size := by omega
        have hsb : w.heap.size < w2.heap.size := World.block_lt_of_cell? _ _ a0
        have av : some wb ≠ (Value.slice ra rds.length rc).ownBlock := Ne.symm HV.out.nr
        have asx : some w.heap.size ≠ (Value.slice ra rds.length rc).ownBlock := fun e => by have := HV.out.lt (.inr (.inr e.symm)); omega
        obtain ⟨i0, hi0, hz0, hz1, hz2⟩ := info_parts span_info
        have HNW : Hid (∀ j u, [Value.string s.1, Value.string s.2][j]? = some u → (w2.alloc (Obj.cells #[Value.string s.1, Value.string s.2] 91)).drew.cell? ((⟨w2.heap.size, 0, none⟩ : Addr).add j) = some u) :=
          World.news_of_block (cs := #[.string s.1, .string s.2]) (t := 91) (fr := (0, 0)) (heap_alloc_new w2 _)
        have hfr : ∀ o, (w2.alloc o).frozen? ⟨wb, 3, none⟩ = false := fun o => frozen_on (below_alloc1 _ _) (by show wb < _; omega) f3
        clear hb2 hb02
        go_wp2
        go_region_law ((refine step_append_lies _ (by rfl) _ _ _ (by rfl) B 91 i0 _ 2 32 Tryz.underlying33 hi0 hz0 hz1 hz2 rfl (by omega) (.slice ra rds.length rc) _ _ (by rfl) ((HO2.out.alloc _).drew) ⟨w2.heap.size, 0, none⟩ 1 1 [.string s.1, .string s.2] (by rfl) (by rfl) HNW.out (by simp [Value.oneCell']) (by omega) (by unfold maxLen; omega) (by omega) (by simp; omega) (w2.heap.size + 1) (by simp) ?_; intro gk ck w3 ho3 hgrow hat3 hlt3; have k3 : w3.cell? ⟨wb, 3, none⟩ = some (.slice ra rds.length rc) := hgrow.cell (cell_on (below_alloc1 _ _).drew c3) av; have k2 : w3.frozen? ⟨wb, 3, none⟩ = false := (hgrow.frozen_far _ (by simp; omega) av).trans (hfr _)))
        all_goals
          have HRP := hide (read_push HV.out hB (below_on HB02.out (Nat.le_refl _) (below_alloc1 w2 (Obj.cells #[Value.string s.1, Value.string s.2] 91)).drew) hgrow ho3 (hat3.imp id fun e => by rw [e]; simp))
          clear k3 k2 ho3 hgrow hat3 hlt3 a0 a1 c3 f3 hfr
          go_wp2
          go_ret
          exact ⟨rfl, HRP.out⟩
  · go_enter Tryz.func73, Tryz.ntmps73
    go_wp2
    go_region_held3 (fun w' => w'.cell? ⟨w.heap.size, 0, none⟩ = some (.string s.1) ∧ w'.cell? ⟨w.heap.size, 1, none⟩ = some (.string s.2) ∧ w'.cell? ⟨wb, 3, none⟩ = some (.slice ra rds.length rc))
      (first | go_keep | exact ⟨cell_on hb2 a0, cell_on hb2 a1, cell_on hb2 c3⟩) (first | (go_at_call 114; refine (HCT _ HB0.out.drew).out.mono ?_; rintro e w2 ⟨rfl, hb2'⟩; have hb2 := below_on (Below.refl _ (w.alloc (Obj.cells #[Value.string s.1, Value.string s.2] 91))).drew (Nat.le_refl _) hb2'; clear hb2'; dsimp only))
    all_goals
      go_wp2
      go_ret
      exact ⟨rfl, read_same HV.out hB (below_on HB0.out (Nat.le_refl _) hb2)⟩
end Go.Proofs.YtighpalbodhfeaaGreatDoor

/-
  What View.Get makes of a view that lies in memory, and returns.
-/
namespace Go.Proofs.YtighpalbodhfeaaGreatDoor
open Go.RowKit Go.Joins Go.Shelf
attribute [local go_sem ↓] Go.wp_at_zero Go.wp_at_succ

theorem trim_len (k head : List UInt8) : k.length ≤ (Lib.trimPrefix k head).length + head.length := by
  unfold Lib.trimPrefix
  split
  · rw [List.length_drop]; omega
  · omega
theorem named_len {k head : List UInt8} (h : namedL k head = true) : k.length ≤ head.length + 6 := by
  unfold namedL nameL at h
  simp only [Bool.and_eq_true, decide_eq_true_eq] at h
  have := trim_len k head
  omega
theorem key_len {k : List UInt8} (h : keyL k = true) : k.length ≤ 15 := by
  unfold keyL at h
  simp only [Bool.or_eq_true] at h
  rcases h with h | h | h
  · have := named_len h; simp at this; omega
  · have := named_len h; simp at this; omega
  · unfold messageL messageOf nameL sixL at h
    simp only [Bool.and_eq_true, decide_eq_true_eq] at h
    have h1 := trim_len k [109, 47]
    obtain ⟨_, _, ⟨⟨h2, h3⟩, _⟩, h4, _⟩ := h
    rw [List.length_take] at h2 h3
    rw [List.length_drop] at h4
    simp only [List.length_cons, List.length_nil] at h1
    omega
/-- what is told of a key -/
def getR (chs : List Chg) (rds : List (ByteArray × ByteArray)) (R : ByteArray → List Ver) (since : Int) (key : ByteArray) : ByteArray × Bool × Nat :=
  if keyL key.data.toList then match findC chs key with
    | some c => (c.val, !c.gone, 0)
    | none => if readF rds (key, zeroS key) = 0 then ((behindV (R key) since).1, (behindV (R key) since).2, 0) else (⟨#[]⟩, false, readF rds (key, zeroS key))
  else (⟨#[]⟩, false, 3)
def getL (chs : List Chg) (rds : List (ByteArray × ByteArray)) (key : ByteArray) : List (ByteArray × ByteArray) :=
  if keyL key.data.toList then match findC chs key with
    | some _ => rds
    | none => readL rds (key, zeroS key)
  else rds
set_option maxRecDepth 4000 in
set_option maxHeartbeats 2000000 in
theorem get_any (key : ByteArray) {B0 B wb vb mb n : Nat} {now since : Int} {D : DataW Value} {g : ByteArray → Value} {R : ByteArray → List Ver} {cv rv : Value} {chs : List Chg} {rds : List (ByteArray × ByteArray)} (w : World) (hv : VS w B0 vb mb now n D g R) (h : VW w B wb vb since cv rv chs rds) (ha : ∀ k, inVS vb mb g k → ¬ inVW wb cv rv k)
    (hB : B ≤ w.heap.size) (hn : rds.length ≤ 100) (hc : chs.length ≤ 100) (hk : key.size ≤ maxLen) (hR : (R key).length ≤ 1000000) :
    Calls Tryz.prog 31 #[.pointer (some ⟨wb, 0, none⟩), .string key] w fun e w' => e = .returned (.tuple #[.string (getR chs rds R since key).1, .bool (getR chs rds R since key).2.1, errV (getR chs rds R since key).2.2]) ∧ ReadAt w w' B wb vb since cv rv chs (getL chs rds key) := by
  have HV := hide hv
  have HW := hide h
  have HA := hide ha
  have c0 := h.c0
  have c1 := h.c1
  have c2 := h.c2
  clear h hv ha
  unfold getR getL
  cases hke : keyL key.data.toList with
  | false =>
    have HE : Hid (errV (if keyL key.data.toList then 0 else 3) = .iface 108 (.int .i64 3)) := by unfold Hid; rw [hke]; rfl
    clear hke
    go_enter Tryz.func31, Tryz.ntmps31
    go_wp2_with (go_at_call 71; refine (check_any key _ hk).mono ?_; rintro e w1 ⟨rfl, hb1⟩; rw [HE.out]; have HB1 := hide hb1; clear hb1)
    go_ret3
    exact ⟨rfl, read_same HW.out hB HB1.out⟩
  | true =>
    have HE : Hid (errV (if keyL key.data.toList then 0 else 3) = .nilIface) := by unfold Hid; rw [hke]; rfl
    have hks : key.size ≤ 1000 := by have := key_len hke; rw [Array.length_toList] at this; have e : key.size = key.data.size := rfl; omega
    clear hke
    simp only [if_true]
    have HF := fun w1 (hb : Below w.heap.size w w1) => hide (find_own chs cv B key w1 ((HW.out.on hb).chs) (by omega))
    cases hf : findC chs key with
    | some c =>
      rw [hf] at HF
      simp only at HF
      clear hf
      go_enter Tryz.func31, Tryz.ntmps31
      go_wp2_with (first
        | (go_at_call 71; refine (check_any key _ hk).mono ?_; rintro e w1 ⟨rfl, hb1⟩; rw [HE.out]; have HB1 := hide hb1; replace c0 := cell_on hb1 c0; replace c1 := cell_on hb1 c1; replace c2 := cell_on hb1 c2; clear hb1)
        | (go_at_call 72; refine (HF _ HB1.out).out.mono ?_; rintro e w2 ⟨rfl, hb2⟩; have HB2 := hide (below_on HB1.out (Nat.le_refl _) hb2); clear hb2))
      have hbc := below_alloc1 w2 (Obj.cells #[Value.string c.key, Value.string c.val, Value.bool c.gone] 84)
      have e1 : (w2.alloc (Obj.cells #[Value.string c.key, Value.string c.val, Value.bool c.gone] 84)).cell? ⟨w2.heap.size, 1, none⟩ = some (.string c.val) := cell_new _ _ _ 1
      have e2 : (w2.alloc (Obj.cells #[Value.string c.key, Value.string c.val, Value.bool c.gone] 84)).cell? ⟨w2.heap.size, 2, none⟩ = some (.bool c.gone) := cell_new _ _ _ 2
      go_quiet (fail)
      go_wp2
      go_ret3
      exact ⟨rfl, read_same HW.out hB ((below_on HB2.out (Nat.le_refl _) hbc).trans (below_draws _ _ _))⟩
    | none =>
      rw [hf] at HF
      simp only at HF
      clear hf
      by_cases hrf : readF rds (key, zeroS key) = 0
      · have HRF := hide hrf
        rw [if_pos hrf]
        clear hrf
        go_enter Tryz.func31, Tryz.ntmps31
        go_wp2_with (first
          | (go_at_call 71; refine (check_any key _ hk).mono ?_; rintro e w1 ⟨rfl, hb1⟩; rw [HE.out]; have HB1 := hide hb1; replace c0 := cell_on hb1 c0; replace c1 := cell_on hb1 c1; replace c2 := cell_on hb1 c2; clear hb1)
          | (go_at_call 72; refine (HF _ HB1.out).out.mono ?_; rintro e w2 ⟨rfl, hb2⟩; have HB2 := hide (below_on HB1.out (Nat.le_refl _) hb2); clear hb2)
          | (go_at_call 74; have hbc := below_alloc1 w2 (Obj.cells #[Value.string ⟨#[]⟩, Value.string ⟨#[]⟩, Value.bool false] 84); refine (point_any key _ hks).mono ?_; rintro e w3 ⟨rfl, hb3⟩; have HB3 := hide (below_on (below_on HB2.out (Nat.le_refl _) hbc) (Nat.le_refl _) hb3); clear hb3 hbc)
          | (go_at_call 73; refine (vread_any (key, zeroS key) _ (HW.out.on HB3.out) (Nat.le_trans hB HB3.out.size) hn).mono ?_; rintro e w4 ⟨rfl, rv', hw4, hb4, hf4⟩; rw [HRF.out]; simp only [errV]; have HW4 := hide hw4; have HB4 := hide ((HB3.out.mono hB).trans hb4); have HF4 := hide (farW.trans (farW.on HB3.out) HB3.out.size hf4); replace c0 := hw4.c0; replace c1 := hw4.c1; clear hw4 hb4 hf4))
        have HV4 := hide (VS_farW HV.out HF4.out HA.out).1
        have hB4 : B ≤ w4.heap.size := Nat.le_trans hB HB4.out.size
        have nS := OnW.some w4
        have n0 : ∀ m : OnW w4, m.w.cell? ⟨wb, 0, none⟩ = some (.pointer (some ⟨vb, 0, none⟩)) := fun m => m.cell c0
        have n1 : ∀ m : OnW w4, m.w.cell? ⟨wb, 1, none⟩ = some (.int .i64 since) := fun m => m.cell c1
        refine wp_region_on (by kernel_rfl) (by kernel_rfl) ?_
        repeat (go_big_quiet_step ((first
          | (go_at_call 75; exact on_call (read_any key since _ (HV4.out.on (OnW.on _)) hk hR)))))
        refine wpQuiet_nil ?_
        intro w5 hw5
        replace hw5 := on_end hw5
        have HB5 := hide hw5
        clear hw5
        go_wp2
        go_ret3
        exact ⟨rfl, rv', HW4.out.on HB5.out, HB4.out.trans (HB5.out.mono hB4), farW.trans HF4.out HB4.out.size (farW.on HB5.out)⟩
      · have he : errV (readF rds (key, zeroS key)) = .iface 108 (.int .i64 (readF rds (key, zeroS key))) := by unfold errV; rw [if_neg hrf]
        have HER := hide he
        rw [if_neg hrf]
        clear hrf he
        go_enter Tryz.func31, Tryz.ntmps31
        go_wp2_with (first
          | (go_at_call 71; refine (check_any key _ hk).mono ?_; rintro e w1 ⟨rfl, hb1⟩; rw [HE.out]; have HB1 := hide hb1; replace c0 := cell_on hb1 c0; replace c1 := cell_on hb1 c1; replace c2 := cell_on hb1 c2; clear hb1)
          | (go_at_call 72; refine (HF _ HB1.out).out.mono ?_; rintro e w2 ⟨rfl, hb2⟩; have HB2 := hide (below_on HB1.out (Nat.le_refl _) hb2); clear hb2)
          | (go_at_call 74; have hbc := below_alloc1 w2 (Obj.cells #[Value.string ⟨#[]⟩, Value.string ⟨#[]⟩, Value.bool false] 84); refine (point_any key _ hks).mono ?_; rintro e w3 ⟨rfl, hb3⟩; have HB3 := hide (below_on (below_on HB2.out (Nat.le_refl _) hbc) (Nat.le_refl _) hb3); clear hb3 hbc)
          | (go_at_call 73; refine (vread_any (key, zeroS key) _ (HW.out.on HB3.out) (Nat.le_trans hB HB3.out.size) hn).mono ?_; rintro e w4 ⟨rfl, rv', hw4, hb4, hf4⟩; rw [HER.out]; have HW4 := hide hw4; have HB4 := hide ((HB3.out.mono hB).trans hb4); have HF4 := hide (farW.trans (farW.on HB3.out) HB3.out.size hf4); clear hw4 hb4 hf4))
        go_ret3
        exact ⟨by rw [HER.out]; rfl, rv', HW4.out, HB4.out, HF4.out⟩
end Go.Proofs.YtighpalbodhfeaaGreatDoor

/-
  What Versions.Scan gathers of versions that lie in memory, ahead of the sorting: plain facts, and rows as they lie.
-/
namespace Go.Proofs.YtighpalbodhfeaaGreatDoor
open Go.RowKit Go.Joins

def cellP (r : ByteArray × ByteArray) : List Value := [.string r.1, .string r.2]
theorem cellP_len (r : ByteArray × ByteArray) : (cellP r).length = 2 := rfl
def ownP (w : World) (B : Nat) (v : Value) (F : List (ByteArray × ByteArray)) : Prop := w.ownsRow B 55 2 v F.length (F.flatMap cellP)
theorem row_info : (Tryz.prog.info? 55).map (fun i => (i.zero, i.size, i.bytes)) = some (some (.agg #[.string ⟨#[]⟩, .string ⟨#[]⟩]), 2, 32) := by kernel_rfl
/-- what is told of a key behind a deed -/
def told (R : ByteArray → List Ver) (n : Int) (s : ByteArray × ByteArray) (r : ByteArray × ByteArray) : Prop := r.1.size ≤ maxLen ∧ hasS s.1 s.2 r.1 = true ∧ behindV (R r.1) n = (r.2, true)
/-- what has been gathered while some keys are still to come -/
structure Got (D : DataW Value) (R : ByteArray → List Ver) (n : Int) (s : ByteArray × ByteArray) (left : Lit → Bool) (F : List (ByteArray × ByteArray)) : Prop where
  mem : ∀ r, r ∈ F ↔ told R n s r ∧ left (kL r.1) = false
  nodup : (F.map (·.1)).Nodup
theorem key_inv {key : Value} {kl : Lit} (h : keyOf Tryz.prog 9 key = some kl) : ∃ s, key = .string s ∧ kl = kL s ∧ s.size ≤ maxLen := by
  cases key <;> simp [keyOf, Tryz.underlying9, mapKey] at h
  obtain ⟨hs, rfl⟩ := h
  exact ⟨_, rfl, rfl, hs⟩
theorem left_strike {left : Lit → Bool} {x k : ByteArray} : (left (kL k) && !(kL k).sameKey (kL x)) = if k = x then false else left (kL k) := by
  by_cases e : k = x
  · subst e; rw [WideAt.sameKey_self (key_lit k)]; simp
  · rw [if_neg e, Maps.sameKey_ne (kL_ne e)]; simp
theorem got_skip {D : DataW Value} {R : ByteArray → List Ver} {n : Int} {s : ByteArray × ByteArray} {left : Lit → Bool} {F : List (ByteArray × ByteArray)} (h : Got D R n s left F) {x : ByteArray} (hx : ∀ v, ¬ told R n s (x, v)) : Got D R n s (fun z => left z && !z.sameKey (kL x)) F where
  mem := fun r => by
    rw [h.mem r]
    show _ ↔ _ ∧ (left (kL r.1) && !(kL r.1).sameKey (kL x)) = false
    rw [left_strike]
    by_cases e : r.1 = x
    · obtain ⟨r1, r2⟩ := r
      subst e
      exact ⟨fun h' => absurd h'.1 (hx r2), fun h' => absurd h'.1 (hx r2)⟩
    · rw [if_neg e]
  nodup := h.nodup
theorem got_take {D : DataW Value} {R : ByteArray → List Ver} {n : Int} {s : ByteArray × ByteArray} {left : Lit → Bool} {F : List (ByteArray × ByteArray)} (h : Got D R n s left F) {x v : ByteArray} (hl : left (kL x) = true) (hx : told R n s (x, v)) : Got D R n s (fun z => left z && !z.sameKey (kL x)) (F ++ [(x, v)]) where
  mem := fun r => by
    rw [List.mem_append, h.mem r, List.mem_singleton]
    show _ ↔ _ ∧ (left (kL r.1) && !(kL r.1).sameKey (kL x)) = false
    rw [left_strike]
    by_cases e : r.1 = x
    · obtain ⟨r1, r2⟩ := r
      subst e
      rw [if_pos rfl]
      constructor
      · rintro (⟨h1, h2⟩ | h2)
        · exact ⟨h1, rfl⟩
        · rw [h2]; exact ⟨hx, rfl⟩
      · rintro ⟨h1, _⟩
        right
        have := h1.2.2.symm.trans hx.2.2
        simp at this
        rw [this]
    · rw [if_neg e]
      constructor
      · rintro (h' | h')
        · exact h'
        · exact absurd (by rw [h']) e
      · exact fun h' => .inl h'
  nodup := by
    rw [List.map_append, List.nodup_append]
    refine ⟨h.nodup, by simp, fun a ha b hb => ?_⟩
    obtain ⟨r, hr, rfl⟩ := List.mem_map.1 ha
    simp at hb
    subst hb
    intro e
    have := ((h.mem r).1 hr).2
    rw [e, hl] at this
    cases this
end Go.Proofs.YtighpalbodhfeaaGreatDoor
