/-
  What View.read and View.Get make of a view that lies in memory.
-/
import Derived.Test.YtpbhcjkllfonhaaGreatViewPut
import Derived.Test.YtpbhcjkllfonhaaGreatSpanPt
import Derived.OwnWalk
import Derived.Deep.RegionLaw
namespace Go.Proofs.YtpbhcjkllfonhaaGreat
open Go.RowKit Go.Joins Go.Shelf
attribute [local go_sem ↓] Go.wp_at_zero Go.wp_at_succ

def readF (l : List (ByteArray × ByteArray)) (s : ByteArray × ByteArray) : Nat := if hasSp l s then 0 else if 40 ≤ l.length then 2 else 0
def readL (l : List (ByteArray × ByteArray)) (s : ByteArray × ByteArray) : List (ByteArray × ByteArray) := if hasSp l s then l else if 40 ≤ l.length then l else l ++ [s]
/-- behind an act that changes no more than what is read -/
def ReadAt (w w' : World) (B wb vb : Nat) (since : Int) (cv rv : Value) (chs : List Chg) (rds : List (ByteArray × ByteArray)) : Prop := ∃ rv', VW w' B wb vb since cv rv' chs rds ∧ Below B w w' ∧ farW w w' wb cv rv cv rv'
theorem read_same {w w' : World} {B wb vb : Nat} {since : Int} {cv rv : Value} {chs : List Chg} {rds : List (ByteArray × ByteArray)} (h : VW w B wb vb since cv rv chs rds) (hB : B ≤ w.heap.size) (hb : Below w.heap.size w w') : ReadAt w w' B wb vb since cv rv chs rds := ⟨rv, h.on hb, hb.mono hB, farW.on hb⟩

theorem read_push {w W w3 : World} {B wb vb gk ck : Nat} {since : Int} {cv rv : Value} {chs : List Chg} {rds : List (ByteArray × ByteArray)} {s : ByteArray × ByteArray} (h : VW w B wb vb since cv rv chs rds) (hB : B ≤ w.heap.size) (hb : Below w.heap.size w W) (hg : W.grownBy w3 rv.ownBlock)
    (ho : w3.ownsRow B 49 2 (.slice (some ⟨gk, 0, none⟩) (rds.length + 1) ck) (rds.length + 1) (rds.flatMap cellS ++ [.string s.1, .string s.2])) (hat : rv.ownBlock = some gk ∨ gk = W.heap.size) :
    ReadAt w (w3.setCell ⟨wb, 3, none⟩ (.slice (some ⟨gk, 0, none⟩) (rds.length + 1) ck)) B wb vb since cv rv chs (rds ++ [s]) := by
  have ho' : ownSp w3 B (.slice (some ⟨gk, 0, none⟩) (rds.length + 1) ck) (rds ++ [s]) := by
    unfold ownSp
    rw [List.length_append, List.flatMap_append]
    exact ho
  have hs := hb.size
  refine ⟨_, (h.on hb).setR hg ho' (fun k e => ?_), (((hb.mono hB).grown hg (Nat.le_trans hB hs) (fun k e => (World.ownsRow.lt h.rds k e).1)).setCell (p := ⟨wb, 3, none⟩) h.lo _), fun j hj hn => ⟨?_, ?_⟩⟩
  · simp [Value.ownBlock] at e
    subst e
    exact hat.imp id (fun e => by omega)
  · exact (Below.heap_setCell _ _ _ _ (fun e => hn (.inl e))).trans ((hg.block j (by omega) (fun e => hn (.inr (.inr e.symm)))).trans (hb.block j hj))
  · rintro (e | e | e)
    · exact hn (.inl e)
    · exact hn (.inr (.inl e))
    · simp [Value.ownBlock] at e
      subst e
      rcases hat with e | e
      · exact hn (.inr (.inr e))
      · omega
set_option maxRecDepth 4000 in
set_option maxHeartbeats 2000000 in
theorem vread_any (s : ByteArray × ByteArray) {B wb vb : Nat} {since : Int} {cv rv : Value} {chs : List Chg} {rds : List (ByteArray × ByteArray)} (w : World) (h : VW w B wb vb since cv rv chs rds) (hB : B ≤ w.heap.size) (hn : rds.length ≤ 100) :
    Calls Tryz.prog 35 #[.pointer (some ⟨wb, 0, none⟩), .agg #[.string s.1, .string s.2]] w fun e w' => e = .returned (errV (readF rds s)) ∧ ReadAt w w' B wb vb since cv rv chs (readL rds s) := by
  have HV := hide h
  have hB0 := below_alloc1 w (Obj.cells #[Value.string s.1, Value.string s.2] 49)
  have a0 : (w.alloc (Obj.cells #[Value.string s.1, Value.string s.2] 49)).cell? ⟨w.heap.size, 0, none⟩ = some (.string s.1) := cell_new _ _ _ 0
  have a1 : (w.alloc (Obj.cells #[Value.string s.1, Value.string s.2] 49)).cell? ⟨w.heap.size, 1, none⟩ = some (.string s.2) := cell_new _ _ _ 1
  have c3 := cell_on hB0 h.c3
  have hwb := h.lt (k := wb) (.inl rfl)
  have HB0 := hide hB0
  obtain ⟨ra, rc, rfl⟩ := own_shape h.rds
  clear h hB0
  have HCT := fun w1 (hb : Below w.heap.size w w1) => hide (contains_sp rds _ B s w1 ((HV.out.on hb).rds))
  unfold readF readL
  generalize hasSp rds s = hs at *
  cases hs
  · by_cases h40 : 40 ≤ rds.length
    · have h40' : (40 : Int) ≤ (rds.length : Int) := by omega
      go_enter Tryz.func35, Tryz.ntmps35
      go_wp2
      go_region_held3 (fun w' => w'.cell? ⟨w.heap.size, 0, none⟩ = some (.string s.1) ∧ w'.cell? ⟨w.heap.size, 1, none⟩ = some (.string s.2) ∧ w'.cell? ⟨wb, 3, none⟩ = some (.slice ra rds.length rc))
        (first | go_keep | exact ⟨cell_on hb2 a0, cell_on hb2 a1, cell_on hb2 c3⟩) (first | (go_at_call 56; refine (HCT _ HB0.out.drew).out.mono ?_; rintro e w2 ⟨rfl, hb2'⟩; have hb2 := below_on (Below.refl _ (w.alloc (Obj.cells #[Value.string s.1, Value.string s.2] 49))).drew (Nat.le_refl _) hb2'; clear hb2'; dsimp only))
      all_goals
        replace c3 := cell_on hb2 c3
        go_wp2
        go_ret
        exact ⟨rfl, read_same HV.out hB (below_on HB0.out (Nat.le_refl _) hb2)⟩
    · have h40' : ¬ (40 : Int) ≤ (rds.length : Int) := by omega
      go_enter Tryz.func35, Tryz.ntmps35
      go_wp2
      go_region_held3 (fun w' => w'.cell? ⟨w.heap.size, 0, none⟩ = some (.string s.1) ∧ w'.cell? ⟨w.heap.size, 1, none⟩ = some (.string s.2) ∧ w'.cell? ⟨wb, 3, none⟩ = some (.slice ra rds.length rc))
        (first | go_keep | exact ⟨cell_on hb2 a0, cell_on hb2 a1, cell_on hb2 c3⟩) (first | (go_at_call 56; refine (HCT _ HB0.out.drew).out.mono ?_; rintro e w2 ⟨rfl, hb2'⟩; have hb2 := below_on (Below.refl _ (w.alloc (Obj.cells #[Value.string s.1, Value.string s.2] 49))).drew (Nat.le_refl _) hb2'; clear hb2'; dsimp only))
      all_goals
        replace a0 := cell_on hb2 a0
        replace a1 := cell_on hb2 a1
        replace c3 := cell_on hb2 c3
        have hb02 := below_on HB0.out (Nat.le_refl _) hb2
        have f3 := frozen_on hb02 hwb (HV.out.soft 3)
        have HO2 := hide (HV.out.on hb02).rds
        have HB02 := hide hb02
        have hs2 := hb02.size
        have hwb2 : wb < w2.heap.size := by omega
        have hsb : w.heap.size < w2.heap.size := World.block_lt_of_cell? _ _ a0
        have av : some wb ≠ (Value.slice ra rds.length rc).ownBlock := Ne.symm HV.out.nr
        have asx : some w.heap.size ≠ (Value.slice ra rds.length rc).ownBlock := fun e => by have := HV.out.lt (.inr (.inr e.symm)); omega
        obtain ⟨i0, hi0, hz0, hz1, hz2⟩ := info_parts span_info
        have HNW : Hid (∀ j u, [Value.string s.1, Value.string s.2][j]? = some u → (w2.alloc (Obj.cells #[Value.string s.1, Value.string s.2] 49)).drew.cell? ((⟨w2.heap.size, 0, none⟩ : Addr).add j) = some u) :=
          World.news_of_block (cs := #[.string s.1, .string s.2]) (t := 49) (fr := (0, 0)) (heap_alloc_new w2 _)
        have hfr : ∀ o, (w2.alloc o).frozen? ⟨wb, 3, none⟩ = false := fun o => frozen_on (below_alloc1 _ _) (by show wb < _; omega) f3
        clear hb2 hb02
        go_wp2
        go_region_law ((refine step_append_lies _ (by rfl) _ _ _ (by rfl) B 49 i0 _ 2 32 Tryz.underlying33 hi0 hz0 hz1 hz2 rfl (by omega) (.slice ra rds.length rc) _ _ (by rfl) ((HO2.out.alloc _).drew) ⟨w2.heap.size, 0, none⟩ 1 1 [.string s.1, .string s.2] (by rfl) (by rfl) HNW.out (by simp [Value.oneCell']) (by omega) (by unfold maxLen; omega) (by omega) (by simp; omega) (w2.heap.size + 1) (by simp) ?_; intro gk ck w3 ho3 hgrow hat3 hlt3; have k3 : w3.cell? ⟨wb, 3, none⟩ = some (.slice ra rds.length rc) := hgrow.cell (cell_on (below_alloc1 _ _).drew c3) av; have k2 : w3.frozen? ⟨wb, 3, none⟩ = false := (hgrow.frozen_far _ (by simp; omega) av).trans (hfr _)))
        all_goals
          have HRP := hide (read_push HV.out hB (below_on HB02.out (Nat.le_refl _) (below_alloc1 w2 (Obj.cells #[Value.string s.1, Value.string s.2] 49)).drew) hgrow ho3 (hat3.imp id fun e => by rw [e]; simp))
          clear k3 k2 ho3 hgrow hat3 hlt3 a0 a1 c3 f3 hfr
          go_wp2
          go_ret
          exact ⟨rfl, HRP.out⟩
  · go_enter Tryz.func35, Tryz.ntmps35
    go_wp2
    go_region_held3 (fun w' => w'.cell? ⟨w.heap.size, 0, none⟩ = some (.string s.1) ∧ w'.cell? ⟨w.heap.size, 1, none⟩ = some (.string s.2) ∧ w'.cell? ⟨wb, 3, none⟩ = some (.slice ra rds.length rc))
      (first | go_keep | exact ⟨cell_on hb2 a0, cell_on hb2 a1, cell_on hb2 c3⟩) (first | (go_at_call 56; refine (HCT _ HB0.out.drew).out.mono ?_; rintro e w2 ⟨rfl, hb2'⟩; have hb2 := below_on (Below.refl _ (w.alloc (Obj.cells #[Value.string s.1, Value.string s.2] 49))).drew (Nat.le_refl _) hb2'; clear hb2'; dsimp only))
    all_goals
      go_wp2
      go_ret
      exact ⟨rfl, read_same HV.out hB (below_on HB0.out (Nat.le_refl _) hb2)⟩
end Go.Proofs.YtpbhcjkllfonhaaGreat
