/-
  A log as it is read: what reading.take returns and leaves.
-/
import Derived.Test.YtkfpfbkdalbjoaaGreatLogParL
import Derived.Test.YtkfpfbkdalbjoaaGreatChgGrow
import Derived.Test.YtkfpfbkdalbjoaaGreatChgMem
import Derived.Deep.AppendLies
import Derived.Deep.DeepCutAuto
import Derived.Test.YtkfpfbkdalbjoaaGreatLogEnc
namespace Go.Proofs.YtkfpfbkdalbjoaaGreat
open Go.RowKit Go.Joins
attribute [local go_sem ↓] Go.wp_at_zero Go.wp_at_succ

theorem chl_facts : (Tryz.prog.info? 40).map (fun i => (i.zero, i.size, i.bytes)) = some (some (.slice none 0 0), 1, 24) := by kernel_rfl
def ddV (d : Dd) : Value := .slice d.ao d.chs.length d.cap
/-- a deed in a block of its own -/
def ddOwn (w : World) (B : Nat) (d : Dd) : Prop := ownCh w B (ddV d) d.chs
/-- what is read so far -/
structure RdI (w : World) (B rb : Nat) (dv av : Value) (ds : List Dd) (ah : List Chg) : Prop where
  c0 : w.cell? ⟨rb, 0, none⟩ = some dv
  c1 : w.cell? ⟨rb, 1, none⟩ = some av
  soft : ∀ j, w.frozen? ⟨rb, j, none⟩ = false
  od : w.ownsRow B 40 1 dv ds.length (ds.map ddV)
  oa : ownCh w B av ah
  hd : ∀ d ∈ ds, ddOwn w B d
  ap : (∀ k, dv.ownBlock = some k → k ≠ rb ∧ av.ownBlock ≠ some k) ∧ ∀ k, av.ownBlock = some k → k ≠ rb
  an : ∀ d ∈ ds, ∀ k, (ddV d).ownBlock = some k → k ≠ rb ∧ dv.ownBlock ≠ some k ∧ av.ownBlock ≠ some k
  lo : B ≤ rb
  dz : ds = [] → dv = .slice none 0 0
theorem ownCh_kept {w w' : World} {B : Nat} {v : Value} {l : List Chg} (h : ownCh w B v l) (hk : ∀ k, v.ownBlock = some k → w'.heap[k]? = w.heap[k]?) : ownCh w' B v l := by
  refine ⟨h.1, ?_⟩
  rcases h.2 with e | ⟨g, cap, cur, rfl, hB, hg, h3⟩
  · exact .inl e
  · exact .inr ⟨g, cap, cur, rfl, hB, (hk g rfl).trans hg, h3⟩
theorem ownD_kept {w w' : World} {B : Nat} {v : Value} {l : List Value} {n : Nat} (h : w.ownsRow B 40 1 v n l) (hk : ∀ k, v.ownBlock = some k → w'.heap[k]? = w.heap[k]?) : w'.ownsRow B 40 1 v n l := by
  refine ⟨h.1, ?_⟩
  rcases h.2 with e | ⟨g, cap, cur, rfl, hB, hg, h3⟩
  · exact .inl e
  · exact .inr ⟨g, cap, cur, rfl, hB, (hk g rfl).trans hg, h3⟩
def inRd (rb : Nat) (dv av : Value) (ds : List Dd) (k : Nat) : Prop := k = rb ∨ dv.ownBlock = some k ∨ av.ownBlock = some k ∨ ∃ d ∈ ds, (ddV d).ownBlock = some k
section
variable {w w' w5 : World} {B rb g cap5 : Nat} {dv av : Value} {ds : List Dd} {ah : List Chg}
theorem RdI.lt (h : RdI w B rb dv av ds ah) {k : Nat} (hk : inRd rb dv av ds k) : k < w.heap.size := by
  rcases hk with rfl | e | e | ⟨d, hd, e⟩
  · exact World.block_lt_of_cell? _ _ h.c0
  · exact (World.ownsRow.lt h.od k e).2
  · exact (World.ownsRow.lt h.oa k e).2
  · exact (World.ownsRow.lt (h.hd d hd) k e).2
theorem RdI.kept (h : RdI w B rb dv av ds ah) (hk : ∀ k, inRd rb dv av ds k → w'.heap[k]? = w.heap[k]?) : RdI w' B rb dv av ds ah :=
  have e := hk rb (.inl rfl)
  ⟨(World.cell?_of_block (a := ⟨rb, 0, none⟩) e).trans h.c0, (World.cell?_of_block (a := ⟨rb, 1, none⟩) e).trans h.c1, fun j => (World.frozen?_of_block (a := ⟨rb, j, none⟩) e).trans (h.soft j), ownD_kept h.od fun k e => hk k (.inr (.inl e)), ownCh_kept h.oa fun k e => hk k (.inr (.inr (.inl e))), fun d hd => ownCh_kept (h.hd d hd) fun k e => hk k (.inr (.inr (.inr ⟨d, hd, e⟩))), h.ap, h.an, h.lo, h.dz⟩
theorem RdI.on (h : RdI w B rb dv av ds ah) (hb : Below w.heap.size w w') : RdI w' B rb dv av ds ah := h.kept fun k hk => hb.block k (h.lt hk)
/-- a change more -/
theorem RdI.push {c : Chg} (h : RdI w B rb dv av ds ah) (h7 : B ≤ w.heap.size) (ho : w5.ownsRow B 54 3 (.slice (some ⟨g, 0, none⟩) (ah.length + 1) cap5) (ah.length + 1) (cellsL ah ++ cellsC c)) (hgrow : World.grownBy (w.alloc (.cells (cellsC c).toArray 54)).drew w5 av.ownBlock) (hat : av.ownBlock = some g ∨ g = w.heap.size + 1) :
    RdI (w5.setCell ⟨rb, 1, none⟩ (.slice (some ⟨g, 0, none⟩) (ah.length + 1) cap5)) B rb dv (.slice (some ⟨g, 0, none⟩) (ah.length + 1) cap5) ds (ah ++ [c]) ∧ Below B w (w5.setCell ⟨rb, 1, none⟩ (.slice (some ⟨g, 0, none⟩) (ah.length + 1) cap5)) := by
  have hza : (w.alloc (.cells (cellsC c).toArray 54)).drew.heap.size = w.heap.size + 1 := by simp
  have ltr : rb < w.heap.size := h.lt (.inl rfl)
  have f5 : ∀ k, k < w.heap.size → av.ownBlock ≠ some k → w5.heap[k]? = w.heap[k]? := fun k hk hn => by
    rw [hgrow.block k (by rw [hza]; omega) (Ne.symm hn), (below_alloc1 w _).drew.block k hk]
  have hkr : av.ownBlock ≠ some rb := fun e => h.ap.2 rb e rfl
  have e5 := f5 rb ltr hkr
  have hgr : g ≠ rb := by
    rcases hat with e | e
    · exact fun e2 => hkr (e2 ▸ e)
    · omega
  have hgl : ∀ k, k < w.heap.size → av.ownBlock ≠ some k → g ≠ k := fun k hk hn => by
    rcases hat with e | e
    · exact fun e2 => hn (e2 ▸ e)
    · omega
  have k6 : ∀ k, k ≠ rb → (w5.setCell ⟨rb, 1, none⟩ (.slice (some ⟨g, 0, none⟩) (ah.length + 1) cap5)).heap[k]? = w5.heap[k]? := fun k hk => Below.heap_setCell _ _ _ _ hk
  have cc : ∀ j v, w.cell? ⟨rb, j, none⟩ = some v → w5.cell? ⟨rb, j, none⟩ = some v := fun j v hv => (World.cell?_of_block (a := ⟨rb, j, none⟩) e5).trans hv
  refine ⟨⟨(World.cell?_setCell_other _ _ _ _ (by simp)).trans (cc 0 _ h.c0), World.cell?_setCell_same _ _ _ (cc 1 _ h.c1), fun j => by rw [World.frozen?_setCell, World.frozen?_of_block (a := ⟨rb, j, none⟩) e5]; exact h.soft j, ?_, ?_, fun d hd => ?_, ⟨fun k e => ?_, fun k e => ?_⟩, fun d hd k e => ?_, h.lo, h.dz⟩, ?_⟩
  · exact ownD_kept h.od fun k e => (k6 k (h.ap.1 k e).1).trans (f5 k (h.lt (.inr (.inl e))) (h.ap.1 k e).2)
  · have : ownCh w5 B (.slice (some ⟨g, 0, none⟩) (ah.length + 1) cap5) (ah ++ [c]) := by
      unfold ownCh
      rw [List.length_append, cellsL_append]
      show w5.ownsRow B _ 3 _ (ah.length + 1) (cellsL ah ++ (cellsC c ++ []))
      rw [List.append_nil]
      exact ho
    exact ownCh_kept this fun k e => by cases e; exact k6 g hgr
  · exact ownCh_kept (h.hd d hd) fun k e => (k6 k (h.an d hd k e).1).trans (f5 k (h.lt (.inr (.inr (.inr ⟨d, hd, e⟩)))) (h.an d hd k e).2.2)
  · exact ⟨(h.ap.1 k e).1, fun e2 => hgl k (h.lt (.inr (.inl e))) (h.ap.1 k e).2 (by cases e2; rfl)⟩
  · cases e; exact hgr
  · obtain ⟨p1, p2, p3⟩ := h.an d hd k e
    exact ⟨p1, p2, fun e2 => hgl k (h.lt (.inr (.inr (.inr ⟨d, hd, e⟩)))) p3 (by cases e2; rfl)⟩
  · exact (((below_alloc1 w (.cells (cellsC c).toArray 54)).mono h7).drew.grown hgrow (by rw [hza]; omega) (fun k hk => (World.ownsRow.lt h.oa k hk).1)).setCell (p := ⟨rb, 1, none⟩) h.lo _
/-- a deed more -/
theorem RdI.close {ao : Option Addr} {cap : Nat} (h : RdI w B rb dv (.slice ao ah.length cap) ds ah) (h7 : B ≤ w.heap.size) (ho : w5.ownsRow B 40 1 (.slice (some ⟨g, 0, none⟩) (ds.length + 1) cap5) (ds.length + 1) (ds.map ddV ++ [.slice ao ah.length cap])) (hgrow : World.grownBy (w.alloc (.cells #[.slice ao ah.length cap] 40)).drew w5 dv.ownBlock) (hat : dv.ownBlock = some g ∨ g = w.heap.size + 1) :
    RdI ((w5.setCell ⟨rb, 0, none⟩ (.slice (some ⟨g, 0, none⟩) (ds.length + 1) cap5)).setCell ⟨rb, 1, none⟩ (.slice none 0 0)) B rb (.slice (some ⟨g, 0, none⟩) (ds.length + 1) cap5) (.slice none 0 0) (ds ++ [⟨ao, cap, ah⟩]) [] ∧ Below B w ((w5.setCell ⟨rb, 0, none⟩ (.slice (some ⟨g, 0, none⟩) (ds.length + 1) cap5)).setCell ⟨rb, 1, none⟩ (.slice none 0 0)) := by
  have hza : (w.alloc (.cells #[.slice ao ah.length cap] 40)).drew.heap.size = w.heap.size + 1 := by simp
  have ltr : rb < w.heap.size := h.lt (.inl rfl)
  have f5 : ∀ k, k < w.heap.size → dv.ownBlock ≠ some k → w5.heap[k]? = w.heap[k]? := fun k hk hn => by
    rw [hgrow.block k (by rw [hza]; omega) (Ne.symm hn), (below_alloc1 w _).drew.block k hk]
  have hkr : dv.ownBlock ≠ some rb := fun e => (h.ap.1 rb e).1 rfl
  have e5 := f5 rb ltr hkr
  have hgr : g ≠ rb := by
    rcases hat with e | e
    · exact fun e2 => hkr (e2 ▸ e)
    · omega
  have hgl : ∀ k, k < w.heap.size → dv.ownBlock ≠ some k → g ≠ k := fun k hk hn => by
    rcases hat with e | e
    · exact fun e2 => hn (e2 ▸ e)
    · omega
  have k6 : ∀ k, k ≠ rb → ((w5.setCell ⟨rb, 0, none⟩ (.slice (some ⟨g, 0, none⟩) (ds.length + 1) cap5)).setCell ⟨rb, 1, none⟩ (.slice none 0 0)).heap[k]? = w5.heap[k]? := fun k hk => (Below.heap_setCell _ _ _ _ hk).trans (Below.heap_setCell _ _ _ _ hk)
  have cc : ∀ j v, w.cell? ⟨rb, j, none⟩ = some v → w5.cell? ⟨rb, j, none⟩ = some v := fun j v hv => (World.cell?_of_block (a := ⟨rb, j, none⟩) e5).trans hv
  have avd : ∀ k, (Value.slice ao ah.length cap).ownBlock = some k → dv.ownBlock ≠ some k := fun k e e2 => (h.ap.1 k e2).2 e
  refine ⟨⟨(World.cell?_setCell_other _ _ _ _ (by simp)).trans (World.cell?_setCell_same _ _ _ (cc 0 _ h.c0)), World.cell?_setCell_same _ _ _ ((World.cell?_setCell_other _ _ _ _ (by simp)).trans (cc 1 _ h.c1)), fun j => by rw [World.frozen?_setCell, World.frozen?_setCell, World.frozen?_of_block (a := ⟨rb, j, none⟩) e5]; exact h.soft j, ?_, ⟨rfl, .inl ⟨rfl, rfl⟩⟩, fun d hd => ?_, ⟨fun k e => ?_, nofun⟩, fun d hd k e => ?_, h.lo, fun e => absurd e (by simp)⟩, ?_⟩
  · have : w5.ownsRow B 40 1 (.slice (some ⟨g, 0, none⟩) (ds.length + 1) cap5) (ds ++ [(⟨ao, cap, ah⟩ : Dd)]).length ((ds ++ [(⟨ao, cap, ah⟩ : Dd)]).map ddV) := by
      rw [List.length_append, List.map_append]
      exact ho
    exact ownD_kept this fun k e => by cases e; exact k6 g hgr
  · rcases List.mem_append.1 hd with hd | hd
    · exact ownCh_kept (h.hd d hd) fun k e => (k6 k (h.an d hd k e).1).trans (f5 k (h.lt (.inr (.inr (.inr ⟨d, hd, e⟩)))) (h.an d hd k e).2.1)
    · rw [List.mem_singleton] at hd
      subst hd
      exact ownCh_kept h.oa fun k e => (k6 k (h.ap.2 k e)).trans (f5 k (h.lt (.inr (.inr (.inl e)))) (avd k e))
  · cases e; exact ⟨hgr, nofun⟩
  · rcases List.mem_append.1 hd with hd | hd
    · obtain ⟨p1, p2, p3⟩ := h.an d hd k e
      exact ⟨p1, fun e2 => hgl k (h.lt (.inr (.inr (.inr ⟨d, hd, e⟩)))) p2 (by cases e2; rfl), nofun⟩
    · rw [List.mem_singleton] at hd
      subst hd
      exact ⟨h.ap.2 k e, fun e2 => hgl k (h.lt (.inr (.inr (.inl e)))) (avd k e) (by cases e2; rfl), nofun⟩
  · exact ((((below_alloc1 w (.cells #[.slice ao ah.length cap] 40)).mono h7).drew.grown hgrow (by rw [hza]; omega) (fun k hk => (World.ownsRow.lt h.od k hk).1)).setCell (p := ⟨rb, 0, none⟩) h.lo _).setCell (p := ⟨rb, 1, none⟩) h.lo _
end
end Go.Proofs.YtkfpfbkdalbjoaaGreat

/-
  What reading.take returns and leaves.
-/
namespace Go.Proofs.YtkfpfbkdalbjoaaGreat
open Go.RowKit Go.Joins
attribute [local go_sem ↓] Go.wp_at_zero Go.wp_at_succ

def TakeAt (w w' : World) (B rb : Nat) (ds : List (List Chg)) (ah : List Chg) : Prop := ∃ dv av l, RdI w' B rb dv av l ah ∧ l.map (·.chs) = ds ∧ Below B w w'
section
variable {w : World} {B rb : Nat} {dv av : Value} {ds : List Dd} {ah : List Chg}
set_option maxRecDepth 8000 in
set_option maxHeartbeats 2000000 in
theorem take_bad (d : ByteArray) (hd : d.size ≤ 300) (hp : parseF d ≠ 0) (w : World) (h : RdI w B rb dv av ds ah) (h7 : B ≤ w.heap.size) :
    Calls Tryz.prog 77 #[.pointer (some ⟨rb, 0, none⟩), .int .u8 111, .string d] w fun e w' => e = .returned (.bool false) ∧ TakeAt w w' B rb (ds.map (·.chs)) ah := by
  have HP := hide (parse_any d hd w)
  rw [errD_pos hp] at HP
  have H := hide h
  clear h hp
  generalize parseC d = c at *
  generalize parseF d = pf at *
  go_enter Tryz.func77, Tryz.ntmps77
  go_wp2_with (go_at_call 86; refine HP.out.mono ?_; rintro e w1 ⟨rfl, hb1⟩; have HB1 := hide hb1; clear hb1)
  go_ret
  have hbb := below_on HB1.out (Nat.le_refl _) (below_alloc1 w1 (Obj.cells #[Value.string c.key, Value.string c.val, Value.bool c.gone] 54))
  exact ⟨rfl, dv, av, ds, H.out.on hbb, rfl, hbb.mono h7⟩
set_option maxRecDepth 8000 in
set_option maxHeartbeats 4000000 in
theorem take_change (d : ByteArray) (hd : d.size ≤ 300) (hp : parseF d = 0) (w : World) (h : RdI w B rb dv av ds ah) (h7 : B ≤ w.heap.size) (hah : ah.length ≤ 1000) :
    Calls Tryz.prog 77 #[.pointer (some ⟨rb, 0, none⟩), .int .u8 111, .string d] w fun e w' => e = .returned (.bool true) ∧ TakeAt w w' B rb (ds.map (·.chs)) (ah ++ [parseC d]) := by
  have HP := hide (parse_any d hd w)
  rw [hp, errD_nil] at HP
  have H := hide h
  have hrl : rb < w.heap.size := h.lt (.inl rfl)
  have hav : some rb ≠ av.ownBlock := fun e => h.ap.2 rb e.symm rfl
  clear h hp
  generalize parseC d = c at *
  obtain ⟨i0, hi0, hz0, hz1, hz2⟩ := info_parts chg_facts
  go_enter Tryz.func77, Tryz.ntmps77
  go_wp2_with (go_at_call 86; refine HP.out.mono ?_; rintro e w1 ⟨rfl, hb1⟩; have HB1 := hide hb1; clear hb1)
  have HB2 := hide (below_on HB1.out (Nat.le_refl _) (below_alloc1 w1 (Obj.cells #[Value.string c.key, Value.string c.val, Value.bool c.gone] 54)))
  have a0 : (w1.alloc (Obj.cells #[Value.string c.key, Value.string c.val, Value.bool c.gone] 54)).cell? ⟨w1.heap.size, 0, none⟩ = some (.string c.key) := cell_new _ _ _ 0
  have a1 : (w1.alloc (Obj.cells #[Value.string c.key, Value.string c.val, Value.bool c.gone] 54)).cell? ⟨w1.heap.size, 1, none⟩ = some (.string c.val) := cell_new _ _ _ 1
  have a2 : (w1.alloc (Obj.cells #[Value.string c.key, Value.string c.val, Value.bool c.gone] 54)).cell? ⟨w1.heap.size, 2, none⟩ = some (.bool c.gone) := cell_new _ _ _ 2
  have H2 := hide (H.out.on HB2.out)
  have hr2 : rb < (w1.alloc (Obj.cells #[Value.string c.key, Value.string c.val, Value.bool c.gone] 54)).heap.size := H2.out.lt (.inl rfl)
  have c1 := H2.out.c1
  have f1 := H2.out.soft 1
  have hB2 : B ≤ (w1.alloc (Obj.cells #[Value.string c.key, Value.string c.val, Value.bool c.gone] 54)).heap.size := Nat.le_trans h7 HB2.out.size
  generalize hcb : w1.heap.size = cb at *
  generalize w1.alloc (Obj.cells #[Value.string c.key, Value.string c.val, Value.bool c.gone] 54) = W at *
  have HNW : Hid (∀ j u, (cellsC c)[j]? = some u → (W.alloc (Obj.cells (cellsC c).toArray 54)).drew.cell? ((⟨W.heap.size, 0, none⟩ : Addr).add j) = some u) :=
    World.news_of_block (cs := (cellsC c).toArray) (t := 54) (fr := (0, 0)) (heap_alloc_new W _)
  clear hcb
  have d1 := cell_on (below_alloc1 W (Obj.cells (cellsC c).toArray 54)).drew c1
  go_region_law ((refine step_append_lies _ (by rfl) _ _ _ (by rfl) B 54 i0 _ 3 40 Tryz.underlying40 hi0 hz0 hz1 hz2 rfl (by omega) av ah.length (cellsL ah) (by rfl) ((H2.out.oa.alloc _).drew) ⟨W.heap.size, 0, none⟩ 1 1 (cellsC c) (by rfl) (by rfl) HNW.out (by simp [cellsC, Value.oneCell']) (by omega) (by unfold maxLen; omega) (by omega) (by simp; omega) (W.heap.size + 1) (by simp) ?_; intro g5 cap5 w5 ho5 hgr5 hat5 hlt5; have e5 : w5.heap[rb]? = W.heap[rb]? := (hgr5.block rb (by simp; omega) hav).trans ((below_alloc1 W _).drew.block rb hr2); have d5 := (World.cell?_of_block (a := ⟨rb, 1, none⟩) e5).trans c1; have g5' := (World.frozen?_of_block (a := ⟨rb, 1, none⟩) e5).trans f1))
  all_goals
    obtain ⟨hq1, hq2⟩ := H2.out.push (c := c) hB2 ho5 hgr5 hat5
    have HQ1 := hide hq1
    have HQ2 := hide hq2
    clear hq1 hq2 e5 d5 g5' ho5 hgr5 hat5 hlt5
    go_wp2
    go_ret
    exact ⟨rfl, _, _, ds, HQ1.out, rfl, (HB2.out.mono h7).trans HQ2.out⟩
theorem av_form {w : World} {B : Nat} {v : Value} {l : List Chg} (h : ownCh w B v l) : ∃ ao cap, v = .slice ao l.length cap := by
  rcases h.2 with ⟨e, e2⟩ | ⟨g, cap, cur, e, _⟩
  · exact ⟨none, 0, by rw [e, e2]⟩
  · exact ⟨_, cap, e⟩
set_option maxRecDepth 8000 in
set_option maxHeartbeats 2000000 in
theorem take_wrong (d : ByteArray) (hp : (d.toList == (fourB ah.length).toList) = false) (w : World) (h : RdI w B rb dv av ds ah) (h7 : B ≤ w.heap.size) (hah : ah.length ≤ 1000) :
    Calls Tryz.prog 77 #[.pointer (some ⟨rb, 0, none⟩), .int .u8 99, .string d] w fun e w' => e = .returned (.bool false) ∧ TakeAt w w' B rb (ds.map (·.chs)) ah := by
  have HF := hide (four_any ah.length (by omega) w)
  have H := hide h
  obtain ⟨ao, cap, rfl⟩ := av_form h.oa
  have c1 := h.c1
  clear h
  generalize fourB ah.length = ff at *
  go_enter Tryz.func77, Tryz.ntmps77
  go_wp2_with (go_at_call 69; refine HF.out.mono ?_; rintro e w1 ⟨rfl, hb1⟩; have HB1 := hide hb1; clear hb1)
  go_ret
  exact ⟨rfl, dv, _, ds, H.out.on HB1.out, rfl, HB1.out.mono h7⟩
set_option maxRecDepth 8000 in
set_option maxHeartbeats 4000000 in
theorem take_close (d : ByteArray) (hp : (d.toList == (fourB ah.length).toList) = true) (w : World) (h : RdI w B rb dv av ds ah) (h7 : B ≤ w.heap.size) (hah : ah.length ≤ 1000) (hds : ds.length ≤ 1000) :
    Calls Tryz.prog 77 #[.pointer (some ⟨rb, 0, none⟩), .int .u8 99, .string d] w fun e w' => e = .returned (.bool true) ∧ TakeAt w w' B rb (ds.map (·.chs) ++ [ah]) [] := by
  have HF := hide (four_any ah.length (by omega) w)
  have H := hide h
  obtain ⟨ao, cap, rfl⟩ := av_form h.oa
  have c1 := h.c1
  have hdv : some rb ≠ dv.ownBlock := fun e => (h.ap.1 rb e.symm).1 rfl
  clear h
  generalize fourB ah.length = ff at *
  obtain ⟨i0, hi0, hz0, hz1, hz2⟩ := info_parts chl_facts
  go_enter Tryz.func77, Tryz.ntmps77
  go_wp2_with (go_at_call 69; refine HF.out.mono ?_; rintro e W ⟨rfl, hb1⟩; have HB1 := hide hb1; clear hb1)
  have H2 := hide (H.out.on HB1.out)
  replace c1 := H2.out.c1
  have c0 := H2.out.c0
  have f0 := H2.out.soft 0
  have hr2 : rb < W.heap.size := H2.out.lt (.inl rfl)
  have hB2 : B ≤ W.heap.size := Nat.le_trans h7 HB1.out.size
  have HNW : Hid (∀ j u, [Value.slice ao ah.length cap][j]? = some u → (W.alloc (Obj.cells #[Value.slice ao ah.length cap] 40)).drew.cell? ((⟨W.heap.size, 0, none⟩ : Addr).add j) = some u) :=
    World.news_of_block (cs := #[Value.slice ao ah.length cap]) (t := 40) (fr := (0, 0)) (heap_alloc_new W _)
  have d0 := cell_on (below_alloc1 W (Obj.cells #[Value.slice ao ah.length cap] 40)).drew c0
  have d1 := cell_on (below_alloc1 W (Obj.cells #[Value.slice ao ah.length cap] 40)).drew c1
  go_region_law ((refine step_append_lies _ (by rfl) _ _ _ (by rfl) B 40 i0 _ 1 24 Tryz.underlying70 hi0 hz0 hz1 hz2 rfl (by omega) dv ds.length (ds.map ddV) (by rfl) ((H2.out.od.alloc _).drew) ⟨W.heap.size, 0, none⟩ 1 1 [Value.slice ao ah.length cap] (by rfl) (by rfl) HNW.out (by simp [Value.oneCell']) (by omega) (by unfold maxLen; omega) (by omega) (by simp; omega) (W.heap.size + 1) (by simp) ?_; intro g5 cap5 w5 ho5 hgr5 hat5 hlt5; have e5 : w5.heap[rb]? = W.heap[rb]? := (hgr5.block rb (by simp; omega) hdv).trans ((below_alloc1 W _).drew.block rb hr2); have d5 := (World.cell?_of_block (a := ⟨rb, 0, none⟩) e5).trans c0; have d6 := (World.cell?_of_block (a := ⟨rb, 1, none⟩) e5).trans c1; have g5' := (World.frozen?_of_block (a := ⟨rb, 0, none⟩) e5).trans f0; have g6' := (World.frozen?_of_block (a := ⟨rb, 1, none⟩) e5).trans (H2.out.soft 1)))
  all_goals
    obtain ⟨hq1, hq2⟩ := H2.out.close hB2 ho5 hgr5 hat5
    have HQ1 := hide hq1
    have HQ2 := hide hq2
    clear hq1 hq2 e5 ho5 hgr5 hat5 hlt5
    go_wp2
    go_ret
    exact ⟨rfl, _, _, _, HQ1.out, by simp, (HB1.out.mono h7).trans HQ2.out⟩
end
end Go.Proofs.YtkfpfbkdalbjoaaGreat
