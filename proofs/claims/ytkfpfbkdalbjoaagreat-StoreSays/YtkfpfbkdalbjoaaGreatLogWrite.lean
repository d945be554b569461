/-
  Steps of adding a deed: what adding.write, cut, layRest, layEnd and layFirst return and leave.
-/
import Derived.Test.YtkfpfbkdalbjoaaGreatLogRead
import Derived.Test.YtkfpfbkdalbjoaaGreatLogOps
import Derived.Test.YtkfpfbkdalbjoaaGreatDskNew
namespace Go.Proofs.YtkfpfbkdalbjoaaGreat
open Go.RowKit Go.Joins
attribute [local go_sem ↓] Go.wp_at_zero Go.wp_at_succ

/-- a log, its disk, and a deed's sectors -/
structure AddI (w : World) (B lb db : Nat) (S : Nat → Prop) (fr many first used sb cap : Nat) (secs : List ByteArray) (s : DSt) : Prop where
  dk : DK w B db S s
  hd : LHd w lb db fr many first used
  nl : ¬ S lb
  ce : ∀ i (h : i < secs.length), w.cell? ⟨sb, i, none⟩ = some (.string secs[i])
  ns : ¬ S sb
  pos : 0 < secs.length
  fit : used + secs.length ≤ many ∧ fr + many ≤ s.now.length
section
variable {w w' : World} {B lb db : Nat} {S : Nat → Prop} {fr many first used sb cap : Nat} {secs : List ByteArray} {s s' : DSt}
theorem AddI.lt (h : AddI w B lb db S fr many first used sb cap secs s) : sb < w.heap.size := World.block_lt_of_cell? _ _ (h.ce 0 h.pos)
theorem AddI.on (h : AddI w B lb db S fr many first used sb cap secs s) (hb : Below w.heap.size w w') : AddI w' B lb db S fr many first used sb cap secs s :=
  ⟨h.dk.on hb, h.hd.kept (hb.block lb h.hd.lt), h.nl, fun i hi => cell_on hb (h.ce i hi), h.ns, h.pos, h.fit⟩
theorem AddI.step {S' : Nat → Prop} (h : AddI w B lb db S fr many first used sb cap secs s) (hk : DK w' B db S' s') (hs : StepV w w' B S S') (hl : s'.now.length = s.now.length) : AddI w' B lb db S' fr many first used sb cap secs s' :=
  have f1 := hs.far lb h.hd.lt h.nl
  have f2 := hs.far sb h.lt h.ns
  ⟨hk, h.hd.kept f1.1, f1.2, fun i hi => (World.cell?_of_block (a := ⟨sb, i, none⟩) f2.1).trans (h.ce i hi), f2.2, h.pos, by rw [hl]; exact h.fit⟩
set_option maxRecDepth 8000 in
set_option maxHeartbeats 4000000 in
theorem awrite_any (i : Nat) (d : ByteArray) (w : World) (h : AddI w B lb db S fr many first used sb cap secs s) (hi : i ≤ many) :
    Calls Tryz.prog 84 #[.agg #[.pointer (some ⟨lb, 0, none⟩), .slice (some ⟨sb, 0, none⟩) secs.length cap], .int .i64 (i : Int), .string d] w fun e w' => e = .returned (errV (opF (.wr (fr + used + i) d) s)) ∧ ActD w w' B db S (opD (.wr (fr + used + i) d) s) := by
  have hmany := h.dk.many
  have hfit := h.fit
  have HB := hide (below_alloc1 w (Obj.cells #[.pointer (some ⟨lb, 0, none⟩), .slice (some ⟨sb, 0, none⟩) secs.length cap] 112))
  have H2 := hide (h.on HB.out)
  have c0 := H2.out.hd.c0
  have c1 := H2.out.hd.c1
  have c4 := H2.out.hd.c4
  have a0 : (w.alloc (Obj.cells #[.pointer (some ⟨lb, 0, none⟩), .slice (some ⟨sb, 0, none⟩) secs.length cap] 112)).cell? ⟨w.heap.size, 0, none⟩ = some (.pointer (some ⟨lb, 0, none⟩)) := cell_new _ _ _ 0
  have HNW : Hid (¬ S w.heap.size) := fun e => by have := h.dk.lt e; omega
  have HST : Hid (StepV w (w.alloc (Obj.cells #[.pointer (some ⟨lb, 0, none⟩), .slice (some ⟨sb, 0, none⟩) secs.length cap] 112)) B S S) := .on h.dk.lo HB.out
  clear h
  generalize hW : w.alloc (Obj.cells #[.pointer (some ⟨lb, 0, none⟩), .slice (some ⟨sb, 0, none⟩) secs.length cap] 112) = W at *
  have HWR := hide (dwrite_any ((fr : Int) + (used : Int) + (i : Int)) d W.drew (H2.out.dk.on (Below.refl _ W).drew))
  have e : (fr : Int) + (used : Int) + (i : Int) = ((fr + used + i : Nat) : Int) := by omega
  have HE : Hid (opF (.wr (fr + used + i) d) s = dwriteF s ((fr : Int) + (used : Int) + (i : Int)) d ∧ opD (.wr (fr + used + i) d) s = dwriteD s ((fr : Int) + (used : Int) + (i : Int)) d) := by rw [e]; exact ⟨rfl, rfl⟩
  rw [HE.out.1, HE.out.2]
  generalize dwriteF s ((fr : Int) + (used : Int) + (i : Int)) d = ff at *
  generalize dwriteD s ((fr : Int) + (used : Int) + (i : Int)) d = s2 at *
  have k1 : IntKind.i64.wrap ((fr : Int) + (used : Int)) = (fr : Int) + (used : Int) := by rw [IntKind.wrap_i64]; omega
  have k2 : IntKind.i64.wrap ((fr : Int) + (used : Int) + (i : Int)) = (fr : Int) + (used : Int) + (i : Int) := by rw [IntKind.wrap_i64]; omega
  clear HE e HB
  go_enter Tryz.func84, Tryz.ntmps84
  go_wp2
  go_region_held3 (fun w' => w'.cell? ⟨w.heap.size, 0, none⟩ = some (.pointer (some ⟨lb, 0, none⟩)) ∧ w'.cell? ⟨lb, 0, none⟩ = some (.pointer (some ⟨db, 0, none⟩)) ∧ w'.cell? ⟨lb, 1, none⟩ = some (.int .i64 (fr : Int)) ∧ w'.cell? ⟨lb, 4, none⟩ = some (.int .i64 (used : Int))) (first | exact ⟨a0, c0, c1, c4⟩ | exact HS3.out)
    ((go_at_call 47; refine HWR.out.mono ?_; rintro e w7 ⟨rfl, ha7⟩; obtain ⟨S7, hk7, hs7⟩ := ha7; have f1 := (hs7.far lb H2.out.hd.lt H2.out.nl).1; have f2 := (hs7.far w.heap.size (World.block_lt_of_cell? _ _ a0) HNW.out).1; have HS3 : Hid (w7.cell? ⟨w.heap.size, 0, none⟩ = some (.pointer (some ⟨lb, 0, none⟩)) ∧ w7.cell? ⟨lb, 0, none⟩ = some (.pointer (some ⟨db, 0, none⟩)) ∧ w7.cell? ⟨lb, 1, none⟩ = some (.int .i64 (fr : Int)) ∧ w7.cell? ⟨lb, 4, none⟩ = some (.int .i64 (used : Int))) := ⟨(World.cell?_of_block (a := ⟨w.heap.size, 0, none⟩) f2).trans a0, (World.cell?_of_block (a := ⟨lb, 0, none⟩) f1).trans c0, (World.cell?_of_block (a := ⟨lb, 1, none⟩) f1).trans c1, (World.cell?_of_block (a := ⟨lb, 4, none⟩) f1).trans c4⟩; have HA7 : Hid (ActD W.drew w7 B db S s2) := ⟨S7, hk7, hs7⟩; clear hk7 hs7 f1 f2))
  go_wp2
  go_ret
  exact ⟨rfl, ActD.after HST.out (ActD.after (.on H2.out.dk.lo (Below.refl _ W).drew) HA7.out)⟩
end
end Go.Proofs.YtkfpfbkdalbjoaaGreat

/-
  Steps of adding a deed: what adding.cut, layRest, layEnd and layFirst return and leave.
-/
namespace Go.Proofs.YtkfpfbkdalbjoaaGreat
open Go.RowKit Go.Joins
attribute [local go_sem ↓] Go.wp_at_zero Go.wp_at_succ

section
variable {w w' : World} {B lb db : Nat} {S : Nat → Prop} {fr many first used sb cap : Nat} {secs : List ByteArray} {s s' : DSt}
theorem AddI.box (h : AddI w B lb db S fr many first used sb cap secs s) : AddI (w.alloc (Obj.cells #[.pointer (some ⟨lb, 0, none⟩), .slice (some ⟨sb, 0, none⟩) secs.length cap] 112)) B lb db S fr many first used sb cap secs s ∧ StepV w (w.alloc (Obj.cells #[.pointer (some ⟨lb, 0, none⟩), .slice (some ⟨sb, 0, none⟩) secs.length cap] 112)) B S S ∧ ¬ S w.heap.size :=
  ⟨h.on (below_alloc1 _ _), .on h.dk.lo (below_alloc1 _ _), fun e => by have := h.dk.lt e; omega⟩
set_option maxRecDepth 8000 in
set_option maxHeartbeats 4000000 in
theorem acut_any (w : World) (h : AddI w B lb db S fr many first used sb cap secs s) :
    Calls Tryz.prog 70 #[.agg #[.pointer (some ⟨lb, 0, none⟩), .slice (some ⟨sb, 0, none⟩) secs.length cap]] w fun e w' => e = .returned (errV (runD [.wr (fr + used) emptyB] s).1) ∧ ActD w w' B db S (runD [.wr (fr + used) emptyB] s).2 := by
  obtain ⟨h2, hst, _⟩ := h.box
  have HW := hide (awrite_any 0 emptyB _ h2 (Nat.zero_le _))
  have HST := hide hst
  have a0 : (w.alloc (Obj.cells #[.pointer (some ⟨lb, 0, none⟩), .slice (some ⟨sb, 0, none⟩) secs.length cap] 112)).cell? ⟨w.heap.size, 0, none⟩ = some (.pointer (some ⟨lb, 0, none⟩)) := cell_new _ _ _ 0
  have a1 : (w.alloc (Obj.cells #[.pointer (some ⟨lb, 0, none⟩), .slice (some ⟨sb, 0, none⟩) secs.length cap] 112)).cell? ⟨w.heap.size, 1, none⟩ = some (.slice (some ⟨sb, 0, none⟩) secs.length cap) := cell_new _ _ _ 1
  rw [runD_one]
  rw [Nat.add_zero] at HW
  unfold emptyB at *
  generalize opF (.wr (fr + used) ⟨#[]⟩) s = ff at *
  generalize opD (.wr (fr + used) ⟨#[]⟩) s = s2 at *
  clear h h2 hst
  go_enter Tryz.func70, Tryz.ntmps70
  go_wp2_with (go_at_call 84; refine HW.out.mono ?_; rintro e w7 ⟨rfl, ha7⟩; have HA7 := hide ha7; clear ha7)
  go_ret
  exact ⟨rfl, ActD.after HST.out HA7.out⟩
set_option maxRecDepth 8000 in
set_option maxHeartbeats 4000000 in
theorem afirst_any (w : World) (h : AddI w B lb db S fr many first used sb cap secs s) :
    Calls Tryz.prog 73 #[.agg #[.pointer (some ⟨lb, 0, none⟩), .slice (some ⟨sb, 0, none⟩) secs.length cap]] w fun e w' => e = .returned (errV (runD [.wr (fr + used) (secs.headD emptyB)] s).1) ∧ ActD w w' B db S (runD [.wr (fr + used) (secs.headD emptyB)] s).2 := by
  obtain ⟨h2, hst, hnw⟩ := h.box
  have hpos := h.pos
  have hpos' : (0 : Int) < (secs.length : Int) := by omega
  obtain ⟨t, hq⟩ : ∃ t, secs.headD emptyB = t ∧ secs[0] = t := by
    cases secs with
    | nil => simp at hpos
    | cons t l => exact ⟨t, rfl, rfl⟩
  have a0 : (w.alloc (Obj.cells #[.pointer (some ⟨lb, 0, none⟩), .slice (some ⟨sb, 0, none⟩) secs.length cap] 112)).cell? ⟨w.heap.size, 0, none⟩ = some (.pointer (some ⟨lb, 0, none⟩)) := cell_new _ _ _ 0
  have a1 : (w.alloc (Obj.cells #[.pointer (some ⟨lb, 0, none⟩), .slice (some ⟨sb, 0, none⟩) secs.length cap] 112)).cell? ⟨w.heap.size, 1, none⟩ = some (.slice (some ⟨sb, 0, none⟩) secs.length cap) := cell_new _ _ _ 1
  have c0 := h2.ce 0 hpos
  rw [hq.2] at c0
  rw [hq.1]
  have HST := hide hst
  have HNW := hide hnw
  have H2 := hide h2
  clear h h2 hst hq hnw
  generalize hW : w.alloc (Obj.cells #[.pointer (some ⟨lb, 0, none⟩), .slice (some ⟨sb, 0, none⟩) secs.length cap] 112) = W at *
  have HW := hide (awrite_any 0 t _ (H2.out.on (Below.refl _ W).drew) (Nat.zero_le _))
  rw [runD_one]
  rw [Nat.add_zero] at HW
  generalize opF (.wr (fr + used) t) s = ff at *
  generalize opD (.wr (fr + used) t) s = s2 at *
  go_enter Tryz.func73, Tryz.ntmps73
  go_wp2
  go_region_held3 (fun w' => w'.cell? ⟨w.heap.size, 0, none⟩ = some (.pointer (some ⟨lb, 0, none⟩)) ∧ w'.cell? ⟨w.heap.size, 1, none⟩ = some (.slice (some ⟨sb, 0, none⟩) secs.length cap) ∧ w'.cell? ⟨sb, 0, none⟩ = some (.string t)) (first | exact ⟨a0, a1, c0⟩ | exact HS3.out)
  ((go_at_call 84; refine HW.out.mono ?_; rintro e w7 ⟨rfl, ha7⟩; obtain ⟨S7, hk7, hs7⟩ := ha7; have f1 := (hs7.far sb H2.out.lt H2.out.ns).1; have f2 := (hs7.far w.heap.size (World.block_lt_of_cell? _ _ a0) HNW.out).1; have HS3 : Hid (w7.cell? ⟨w.heap.size, 0, none⟩ = some (.pointer (some ⟨lb, 0, none⟩)) ∧ w7.cell? ⟨w.heap.size, 1, none⟩ = some (.slice (some ⟨sb, 0, none⟩) secs.length cap) ∧ w7.cell? ⟨sb, 0, none⟩ = some (.string t)) := ⟨(World.cell?_of_block (a := ⟨w.heap.size, 0, none⟩) f2).trans a0, (World.cell?_of_block (a := ⟨w.heap.size, 1, none⟩) f2).trans a1, (World.cell?_of_block (a := ⟨sb, 0, none⟩) f1).trans c0⟩; have HA7 : Hid (ActD W.drew w7 B db S s2) := ⟨S7, hk7, hs7⟩; clear hk7 hs7 f1 f2))
  go_wp2
  go_ret
  exact ⟨rfl, ActD.after HST.out (ActD.after (.on H2.out.dk.lo (Below.refl _ W).drew) HA7.out)⟩
theorem lroom_any (w : World) (h : LHd w lb db fr many first used) (hu : used ≤ many) (hm : many ≤ 1000) : Calls Tryz.prog 30 #[.pointer (some ⟨lb, 0, none⟩)] w fun e w' => e = .returned (.int .i64 ((many - used : Nat) : Int)) ∧ ∃ n, w' = w.drewN n := by
  have c2 := h.c2
  have c4 := h.c4
  have e : ((many - used : Nat) : Int) = (many : Int) - (used : Int) := by omega
  have k0 : (0 : Int) ≤ (used : Int) := by omega
  have k1 : (many : Int) ≤ 1000 := by omega
  have k2 : (used : Int) ≤ (many : Int) := by omega
  rw [e]
  clear h e
  go_enter Tryz.func30, Tryz.ntmps30
  go_wp2
  go_quiet (fail)
  go_wp2
  go_ret
  exact ⟨rfl, _, rfl⟩
set_option maxRecDepth 8000 in
set_option maxHeartbeats 4000000 in
theorem aend_any (w : World) (h : AddI w B lb db S fr many first used sb cap secs s) :
    Calls Tryz.prog 72 #[.agg #[.pointer (some ⟨lb, 0, none⟩), .slice (some ⟨sb, 0, none⟩) secs.length cap]] w fun e w' => e = .returned (errV (runD (if secs.length = many - used then [] else [.wr (fr + used + secs.length) emptyB]) s).1) ∧ ActD w w' B db S (runD (if secs.length = many - used then [] else [.wr (fr + used + secs.length) emptyB]) s).2 := by
  obtain ⟨h2, hst, hnw⟩ := h.box
  have hmany := h.dk.many
  have hfit := h.fit
  have a0 : (w.alloc (Obj.cells #[.pointer (some ⟨lb, 0, none⟩), .slice (some ⟨sb, 0, none⟩) secs.length cap] 112)).cell? ⟨w.heap.size, 0, none⟩ = some (.pointer (some ⟨lb, 0, none⟩)) := cell_new _ _ _ 0
  have a1 : (w.alloc (Obj.cells #[.pointer (some ⟨lb, 0, none⟩), .slice (some ⟨sb, 0, none⟩) secs.length cap] 112)).cell? ⟨w.heap.size, 1, none⟩ = some (.slice (some ⟨sb, 0, none⟩) secs.length cap) := cell_new _ _ _ 1
  have HST := hide hst
  have H2 := hide h2
  clear h h2 hst hnw
  generalize hW : w.alloc (Obj.cells #[.pointer (some ⟨lb, 0, none⟩), .slice (some ⟨sb, 0, none⟩) secs.length cap] 112) = W at *
  have HRM := hide (fun n => (lroom_any (W.drewN n) (H2.out.hd.kept rfl) (by omega) (by omega)))
  by_cases hr : secs.length = many - used
  · rw [if_pos hr]
    have hr' : ((secs.length : Int) == ((many - used : Nat) : Int)) = true := by rw [hr]; simp
    have HR := hide hr
    clear hr hmany hfit
    generalize many - used = room at *
    go_enter Tryz.func72, Tryz.ntmps72
    go_wp2
    go_quiet ((go_at_call 30; exact Calls.quiet_of (HRM.out _)))
    go_wp2
    go_ret
    exact ⟨rfl, ActD.after HST.out (H2.out.dk.stay (below_drewN (Below.refl _ _) _))⟩
  · rw [if_neg hr, runD_one]
    have hr' : ((secs.length : Int) == ((many - used : Nat) : Int)) = false := by simp; omega
    have HW := hide (fun n => awrite_any secs.length emptyB _ (H2.out.on (below_drewN (Below.refl _ W) n)) (by omega))
    unfold emptyB at *
    generalize opF (.wr (fr + used + secs.length) ⟨#[]⟩) s = ff at *
    generalize opD (.wr (fr + used + secs.length) ⟨#[]⟩) s = s2 at *
    clear hr hmany hfit
    generalize many - used = room at *
    go_enter Tryz.func72, Tryz.ntmps72
    go_wp2
    go_quiet ((go_at_call 30; exact Calls.quiet_of (HRM.out _)))
    go_wp2_with (go_at_call 84; refine (HW.out _).mono ?_; rintro e w7 ⟨rfl, ha7⟩; have HA7 := hide ha7; clear ha7)
    go_ret
    exact ⟨rfl, ActD.after HST.out (ActD.after (.on H2.out.dk.lo (below_drewN (Below.refl _ W) _)) HA7.out)⟩
theorem rest_cons {a i : Nat} {secs : List ByteArray} (hi : i < secs.length) : restFrom (a + i) (secs.drop i) = .wr (a + i) secs[i] :: restFrom (a + (i + 1)) (secs.drop (i + 1)) := by
  rw [List.drop_eq_getElem_cons hi]
  rfl
theorem rest_tail (a : Nat) (secs : List ByteArray) : restFrom (a + 1) secs.tail = restFrom (a + 1) (secs.drop 1) := by rw [List.drop_one]
set_option maxRecDepth 8000 in
set_option maxHeartbeats 4000000 in
theorem arest_any (w : World) (h : AddI w B lb db S fr many first used sb cap secs s) :
    Calls Tryz.prog 71 #[.agg #[.pointer (some ⟨lb, 0, none⟩), .slice (some ⟨sb, 0, none⟩) secs.length cap]] w fun e w' => e = .returned (errV (runD (restFrom (fr + used + 1) secs.tail) s).1) ∧ ActD w w' B db S (runD (restFrom (fr + used + 1) secs.tail) s).2 := by
  obtain ⟨h2, hst, hnw⟩ := h.box
  have hmany := h.dk.many
  have hfit := h.fit
  have hpos := h.pos
  have a0 : (w.alloc (Obj.cells #[.pointer (some ⟨lb, 0, none⟩), .slice (some ⟨sb, 0, none⟩) secs.length cap] 112)).cell? ⟨w.heap.size, 0, none⟩ = some (.pointer (some ⟨lb, 0, none⟩)) := cell_new _ _ _ 0
  have a1 : (w.alloc (Obj.cells #[.pointer (some ⟨lb, 0, none⟩), .slice (some ⟨sb, 0, none⟩) secs.length cap] 112)).cell? ⟨w.heap.size, 1, none⟩ = some (.slice (some ⟨sb, 0, none⟩) secs.length cap) := cell_new _ _ _ 1
  have HA0 := hide a0
  have HA1 := hide a1
  have HXL : Hid (w.heap.size < (w.alloc (Obj.cells #[.pointer (some ⟨lb, 0, none⟩), .slice (some ⟨sb, 0, none⟩) secs.length cap] 112)).heap.size) := hide (by simp)
  have HST := hide hst
  have HNW := hide hnw
  have H2 := hide h2
  clear h h2 hst hnw a0 a1
  generalize hW : w.alloc (Obj.cells #[.pointer (some ⟨lb, 0, none⟩), .slice (some ⟨sb, 0, none⟩) secs.length cap] 112) = W at *
  rw [rest_tail]
  generalize hres : runD (restFrom (fr + used + 1) (secs.drop 1)) s = res
  have HRES := hide hres
  clear hres
  go_enter Tryz.func71, Tryz.ntmps71
  go_wp2
  go_loopw [3] (fun iv wr => ∃ (i : Nat) (S' : Nat → Prop) (s' : DSt), 1 ≤ i ∧ i ≤ secs.length ∧ iv = .int .i64 (i : Int) ∧ AddI wr B lb db S' fr many first used sb cap secs s' ∧ StepV W wr B S S' ∧ runD (restFrom (fr + used + i) (secs.drop i)) s' = res) (fun iv _ => secs.length - (intOf iv).toNat)
  case atStart => exact ⟨1, S, s, Nat.le_refl _, hpos, rfl, H2.out, .refl H2.out.dk.lo, HRES.out⟩
  case round =>
    obtain ⟨i, S', s', hi1, hi, rfl, hA, hV, hr⟩ := hrel
    have fW := hV.far w.heap.size HXL.out HNW.out
    have a0 := (World.cell?_of_block (a := ⟨w.heap.size, 0, none⟩) fW.1).trans HA0.out
    have a1 := (World.cell?_of_block (a := ⟨w.heap.size, 1, none⟩) fW.1).trans HA1.out
    have HNW2 := hide fW.2
    clear fW
    by_cases hlt : i < secs.length
    · have hlt' : (i : Int) < (secs.length : Int) := by omega
      have hi0 : (0 : Int) ≤ (i : Int) := by omega
      rw [rest_cons hlt] at hr
      have c0 := hA.ce i hlt
      generalize secs[i] = t at *
      have HW := hide (awrite_any i t _ (hA.on (Below.refl _ wr).drew) (by omega))
      have H3 := hide hA
      have HV := hide hV
      have HR := hide hr
      have HLN := hide (opD_len (.wr (fr + used + i) t) s')
      clear hA hV hr
      by_cases hf : opF (.wr (fr + used + i) t) s' = 0
      · rw [hf, errD_nil] at HW
        have HR2 : Hid (runD (restFrom (fr + used + (i + 1)) (secs.drop (i + 1))) (opD (.wr (fr + used + i) t) s') = res) := by
          have := HR.out
          unfold runD at this
          rw [if_pos hf] at this
          exact this
        clear hf HR
        generalize opD (.wr (fr + used + i) t) s' = s2 at *
        go_wp2
        go_region_held3 (fun w' => w'.cell? ⟨w.heap.size, 0, none⟩ = some (.pointer (some ⟨lb, 0, none⟩)) ∧ w'.cell? ⟨w.heap.size, 1, none⟩ = some (.slice (some ⟨sb, 0, none⟩) secs.length cap) ∧ w'.cell? ⟨sb, i, none⟩ = some (.string t)) (first | exact ⟨a0, a1, c0⟩ | exact HS3.out)
          ((go_at_call 84; refine HW.out.mono ?_; rintro e w7 ⟨rfl, ha7⟩; obtain ⟨S7, hk7, hs7⟩ := ha7; have f1 := (hs7.far sb H3.out.lt H3.out.ns).1; have f2 := (hs7.far w.heap.size (World.block_lt_of_cell? _ _ a0) HNW2.out).1; have HS3 : Hid (w7.cell? ⟨w.heap.size, 0, none⟩ = some (.pointer (some ⟨lb, 0, none⟩)) ∧ w7.cell? ⟨w.heap.size, 1, none⟩ = some (.slice (some ⟨sb, 0, none⟩) secs.length cap) ∧ w7.cell? ⟨sb, i, none⟩ = some (.string t)) := ⟨(World.cell?_of_block (a := ⟨w.heap.size, 0, none⟩) f2).trans a0, (World.cell?_of_block (a := ⟨w.heap.size, 1, none⟩) f2).trans a1, (World.cell?_of_block (a := ⟨sb, i, none⟩) f1).trans c0⟩; have HA7 : Hid (ActD wr.drew w7 B db S' s2) := ⟨S7, hk7, hs7⟩; clear hk7 hs7 f1 f2))
        go_wp2
        obtain ⟨S8, hk8, hs8⟩ := HA7.out
        have hst8 : StepV wr w7 B S' S8 := (StepV.on H3.out.dk.lo (Below.refl _ wr).drew).trans hs8
        exact ⟨⟨i + 1, S8, s2, by omega, by omega, by go_num, H3.out.step hk8 hst8 HLN.out, HV.out.trans hst8, HR2.out⟩, by simp [intOf]; omega⟩
      · rw [errD_pos hf] at HW
        have HR2 : Hid ((opF (.wr (fr + used + i) t) s', opD (.wr (fr + used + i) t) s') = res) := by
          have := HR.out
          unfold runD at this
          rw [if_neg hf] at this
          exact this
        have HF := hide hf
        clear hf HR
        generalize opD (.wr (fr + used + i) t) s' = s2 at *
        generalize opF (.wr (fr + used + i) t) s' = ff at *
        go_wp2
        go_region_held3 (fun w' => w'.cell? ⟨w.heap.size, 0, none⟩ = some (.pointer (some ⟨lb, 0, none⟩)) ∧ w'.cell? ⟨w.heap.size, 1, none⟩ = some (.slice (some ⟨sb, 0, none⟩) secs.length cap) ∧ w'.cell? ⟨sb, i, none⟩ = some (.string t)) (first | exact ⟨a0, a1, c0⟩ | exact HS3.out)
          ((go_at_call 84; refine HW.out.mono ?_; rintro e w7 ⟨rfl, ha7⟩; obtain ⟨S7, hk7, hs7⟩ := ha7; have f1 := (hs7.far sb H3.out.lt H3.out.ns).1; have f2 := (hs7.far w.heap.size (World.block_lt_of_cell? _ _ a0) HNW2.out).1; have HS3 : Hid (w7.cell? ⟨w.heap.size, 0, none⟩ = some (.pointer (some ⟨lb, 0, none⟩)) ∧ w7.cell? ⟨w.heap.size, 1, none⟩ = some (.slice (some ⟨sb, 0, none⟩) secs.length cap) ∧ w7.cell? ⟨sb, i, none⟩ = some (.string t)) := ⟨(World.cell?_of_block (a := ⟨w.heap.size, 0, none⟩) f2).trans a0, (World.cell?_of_block (a := ⟨w.heap.size, 1, none⟩) f2).trans a1, (World.cell?_of_block (a := ⟨sb, i, none⟩) f1).trans c0⟩; have HA7 : Hid (ActD wr.drew w7 B db S' s2) := ⟨S7, hk7, hs7⟩; clear hk7 hs7 f1 f2))
        go_wp2
        go_ret
        rw [← HR2.out]
        exact ⟨by show _ = Ending.returned (errV ff); rw [errD_pos HF.out]; rfl, ActD.after (HST.out.trans HV.out) (ActD.after (.on H3.out.dk.lo (Below.refl _ wr).drew) HA7.out)⟩
    · have ei : i = secs.length := by omega
      subst ei
      have hlt' : ¬ (secs.length : Int) < (secs.length : Int) := by omega
      rw [List.drop_eq_nil_of_le (Nat.le_refl _)] at hr
      have HR : Hid ((0, s') = res) := hr
      have HV := hide hV
      have H3 := hide hA
      clear hV hA hr
      go_wp2
      go_ret
      rw [← HR.out]
      exact ⟨rfl, S', H3.out.dk, HST.out.trans HV.out⟩
end
end Go.Proofs.YtkfpfbkdalbjoaaGreat

/-
  What adding.run returns and leaves.
-/
namespace Go.Proofs.YtkfpfbkdalbjoaaGreat
open Go.RowKit Go.Joins
attribute [local go_sem ↓] Go.wp_at_zero Go.wp_at_succ

section
variable {w w' : World} {B lb db : Nat} {S : Nat → Prop} {fr many first used sb cap : Nat} {secs : List ByteArray} {s s' : DSt}
theorem aflush_any (w : World) (h : AddI w B lb db S fr many first used sb cap secs s) : Calls Tryz.prog 45 #[.pointer (some ⟨db, 0, none⟩)] w fun e w' => e = .returned (errV (runD [.fl] s).1) ∧ ActD w w' B db S (runD [.fl] s).2 := by
  rw [runD_one]
  exact dflush_any w h.dk
set_option maxRecDepth 8000 in
set_option maxHeartbeats 8000000 in
theorem arun_any (w : World) (h : AddI w B lb db S fr many first used sb cap secs s) :
    Calls Tryz.prog 51 #[.agg #[.pointer (some ⟨lb, 0, none⟩), .slice (some ⟨sb, 0, none⟩) secs.length cap]] w fun e w' => e = .returned (errV (runD (addOps (fr + used) secs (many - used)) s).1) ∧ ActD w w' B db S (runD (addOps (fr + used) secs (many - used)) s).2 := by
  obtain ⟨h2, hst, hnw⟩ := h.box
  have hmany := h.dk.many
  have hfit := h.fit
  have hpos := h.pos
  have a0 : (w.alloc (Obj.cells #[.pointer (some ⟨lb, 0, none⟩), .slice (some ⟨sb, 0, none⟩) secs.length cap] 112)).cell? ⟨w.heap.size, 0, none⟩ = some (.pointer (some ⟨lb, 0, none⟩)) := cell_new _ _ _ 0
  have a1 : (w.alloc (Obj.cells #[.pointer (some ⟨lb, 0, none⟩), .slice (some ⟨sb, 0, none⟩) secs.length cap] 112)).cell? ⟨w.heap.size, 1, none⟩ = some (.slice (some ⟨sb, 0, none⟩) secs.length cap) := cell_new _ _ _ 1
  have c0 := h2.hd.c0
  have HST := hide hst
  have HNW := hide hnw
  have H2 := hide h2
  clear h h2 hst hnw
  generalize hW : w.alloc (Obj.cells #[.pointer (some ⟨lb, 0, none⟩), .slice (some ⟨sb, 0, none⟩) secs.length cap] 112) = W at *
  have HF : Hid (∀ i (hi : i < 7), (W.alloc (Obj.cells #[Value.func (Fn.func 70) #[Value.agg #[.pointer (some ⟨lb, 0, none⟩), .slice (some ⟨sb, 0, none⟩) secs.length cap]] #[], Value.func (Fn.func 45) #[Value.pointer (some ⟨db, 0, none⟩)] #[], Value.func (Fn.func 71) #[Value.agg #[.pointer (some ⟨lb, 0, none⟩), .slice (some ⟨sb, 0, none⟩) secs.length cap]] #[], Value.func (Fn.func 72) #[Value.agg #[.pointer (some ⟨lb, 0, none⟩), .slice (some ⟨sb, 0, none⟩) secs.length cap]] #[], Value.func (Fn.func 45) #[Value.pointer (some ⟨db, 0, none⟩)] #[], Value.func (Fn.func 73) #[Value.agg #[.pointer (some ⟨lb, 0, none⟩), .slice (some ⟨sb, 0, none⟩) secs.length cap]] #[], Value.func (Fn.func 45) #[Value.pointer (some ⟨db, 0, none⟩)] #[]] 46)).cell? ⟨W.heap.size, i, none⟩ = some ((#[Value.func (Fn.func 70) #[Value.agg #[.pointer (some ⟨lb, 0, none⟩), .slice (some ⟨sb, 0, none⟩) secs.length cap]] #[], Value.func (Fn.func 45) #[Value.pointer (some ⟨db, 0, none⟩)] #[], Value.func (Fn.func 71) #[Value.agg #[.pointer (some ⟨lb, 0, none⟩), .slice (some ⟨sb, 0, none⟩) secs.length cap]] #[], Value.func (Fn.func 72) #[Value.agg #[.pointer (some ⟨lb, 0, none⟩), .slice (some ⟨sb, 0, none⟩) secs.length cap]] #[], Value.func (Fn.func 45) #[Value.pointer (some ⟨db, 0, none⟩)] #[], Value.func (Fn.func 73) #[Value.agg #[.pointer (some ⟨lb, 0, none⟩), .slice (some ⟨sb, 0, none⟩) secs.length cap]] #[], Value.func (Fn.func 45) #[Value.pointer (some ⟨db, 0, none⟩)] #[]] : Array Value)[i]'hi)) := fun i hi => by
    rw [cell_new]
    exact Array.getElem?_eq_getElem hi
  have HWB := hide (below_alloc1 W (Obj.cells #[Value.func (Fn.func 70) #[Value.agg #[.pointer (some ⟨lb, 0, none⟩), .slice (some ⟨sb, 0, none⟩) secs.length cap]] #[], Value.func (Fn.func 45) #[Value.pointer (some ⟨db, 0, none⟩)] #[], Value.func (Fn.func 71) #[Value.agg #[.pointer (some ⟨lb, 0, none⟩), .slice (some ⟨sb, 0, none⟩) secs.length cap]] #[], Value.func (Fn.func 72) #[Value.agg #[.pointer (some ⟨lb, 0, none⟩), .slice (some ⟨sb, 0, none⟩) secs.length cap]] #[], Value.func (Fn.func 45) #[Value.pointer (some ⟨db, 0, none⟩)] #[], Value.func (Fn.func 73) #[Value.agg #[.pointer (some ⟨lb, 0, none⟩), .slice (some ⟨sb, 0, none⟩) secs.length cap]] #[], Value.func (Fn.func 45) #[Value.pointer (some ⟨db, 0, none⟩)] #[]] 46))
  have HFN : Hid (¬ S W.heap.size) := fun e => by have := H2.out.dk.lt e; omega
  have HFL : Hid (W.heap.size < (W.alloc (Obj.cells #[Value.func (Fn.func 70) #[Value.agg #[.pointer (some ⟨lb, 0, none⟩), .slice (some ⟨sb, 0, none⟩) secs.length cap]] #[], Value.func (Fn.func 45) #[Value.pointer (some ⟨db, 0, none⟩)] #[], Value.func (Fn.func 71) #[Value.agg #[.pointer (some ⟨lb, 0, none⟩), .slice (some ⟨sb, 0, none⟩) secs.length cap]] #[], Value.func (Fn.func 72) #[Value.agg #[.pointer (some ⟨lb, 0, none⟩), .slice (some ⟨sb, 0, none⟩) secs.length cap]] #[], Value.func (Fn.func 45) #[Value.pointer (some ⟨db, 0, none⟩)] #[], Value.func (Fn.func 73) #[Value.agg #[.pointer (some ⟨lb, 0, none⟩), .slice (some ⟨sb, 0, none⟩) secs.length cap]] #[], Value.func (Fn.func 45) #[Value.pointer (some ⟨db, 0, none⟩)] #[]] 46)).heap.size) := hide (by simp)
  have HRES0 : Hid (∃ res, runD (addOps (fr + used) secs (many - used)) s = res) := ⟨_, rfl⟩
  obtain ⟨res, hres⟩ := HRES0.out
  rw [hres]
  have HRES := hide hres
  clear hres HRES0
  have HSS : Hid (StepV w (W.alloc (Obj.cells #[Value.func (Fn.func 70) #[Value.agg #[.pointer (some ⟨lb, 0, none⟩), .slice (some ⟨sb, 0, none⟩) secs.length cap]] #[], Value.func (Fn.func 45) #[Value.pointer (some ⟨db, 0, none⟩)] #[], Value.func (Fn.func 71) #[Value.agg #[.pointer (some ⟨lb, 0, none⟩), .slice (some ⟨sb, 0, none⟩) secs.length cap]] #[], Value.func (Fn.func 72) #[Value.agg #[.pointer (some ⟨lb, 0, none⟩), .slice (some ⟨sb, 0, none⟩) secs.length cap]] #[], Value.func (Fn.func 45) #[Value.pointer (some ⟨db, 0, none⟩)] #[], Value.func (Fn.func 73) #[Value.agg #[.pointer (some ⟨lb, 0, none⟩), .slice (some ⟨sb, 0, none⟩) secs.length cap]] #[], Value.func (Fn.func 45) #[Value.pointer (some ⟨db, 0, none⟩)] #[]] 46)) B S S) := HST.out.trans (.on H2.out.dk.lo HWB.out)
  have H3 := hide (H2.out.on HWB.out)
  generalize hfb : W.heap.size = fb at *
  have HFB := hide hfb
  go_enter Tryz.func51, Tryz.ntmps51
  go_wp2
  generalize (W.alloc (Obj.cells #[Value.func (Fn.func 70) #[Value.agg #[.pointer (some ⟨lb, 0, none⟩), .slice (some ⟨sb, 0, none⟩) secs.length cap]] #[], Value.func (Fn.func 45) #[Value.pointer (some ⟨db, 0, none⟩)] #[], Value.func (Fn.func 71) #[Value.agg #[.pointer (some ⟨lb, 0, none⟩), .slice (some ⟨sb, 0, none⟩) secs.length cap]] #[], Value.func (Fn.func 72) #[Value.agg #[.pointer (some ⟨lb, 0, none⟩), .slice (some ⟨sb, 0, none⟩) secs.length cap]] #[], Value.func (Fn.func 45) #[Value.pointer (some ⟨db, 0, none⟩)] #[], Value.func (Fn.func 73) #[Value.agg #[.pointer (some ⟨lb, 0, none⟩), .slice (some ⟨sb, 0, none⟩) secs.length cap]] #[], Value.func (Fn.func 45) #[Value.pointer (some ⟨db, 0, none⟩)] #[]] 46)) = W2 at *
  clear hfb
  go_loopw [26] (fun iv wr => ∃ (i : Nat) (S' : Nat → Prop) (s' : DSt), i ≤ 7 ∧ iv = .int .i64 (i : Int) ∧ AddI wr B lb db S' fr many first used sb cap secs s' ∧ StepV W2 wr B S S' ∧ runD ((addSteps (fr + used) secs (many - used)).drop i).flatten s' = res) (fun iv _ => 7 - (intOf iv).toNat)
  case atStart => exact ⟨0, S, s, Nat.zero_le _, rfl, H3.out, .refl H3.out.dk.lo, HRES.out⟩
  case round =>
    obtain ⟨i, S', s', hi, rfl, hA, hV, hr⟩ := hrel
    have fW := hV.far fb HFL.out HFN.out
    have HA := hide hA
    have HV := hide hV
    have HR := hide hr
    clear hA hV hr
    by_cases hlt : i < 7
    · have ca := (World.cell?_of_block (a := ⟨fb, i, none⟩) fW.1).trans (HF.out i hlt)
      clear fW
      rcases (show i = 0 ∨ i = 1 ∨ i = 2 ∨ i = 3 ∨ i = 4 ∨ i = 5 ∨ i = 6 by omega) with rfl | rfl | rfl | rfl | rfl | rfl | rfl
      · have hR2 := HR.out
        have eS : ((addSteps (fr + used) secs (many - used)).drop 0).flatten = [.wr (fr + used) emptyB] ++ ((addSteps (fr + used) secs (many - used)).drop 1).flatten := rfl
        rw [eS] at hR2
        have HC : Hid (Calls Tryz.prog 70 #[.agg #[.pointer (some ⟨lb, 0, none⟩), .slice (some ⟨sb, 0, none⟩) secs.length cap]] wr fun e w' => e = .returned (errV (runD ([.wr (fr + used) emptyB]) s').1) ∧ ActD wr w' B db S' (runD ([.wr (fr + used) emptyB]) s').2) := (by have h := HA.out; exact acut_any _ h)
        have HLN := hide (runD_len ([.wr (fr + used) emptyB]) s')
        have ca' : wr.cell? ⟨fb, 0, none⟩ = some (Value.func (Fn.func 70) #[Value.agg #[.pointer (some ⟨lb, 0, none⟩), .slice (some ⟨sb, 0, none⟩) secs.length cap]] #[]) := ca
        clear ca eS
        by_cases hf : (runD ([.wr (fr + used) emptyB]) s').1 = 0
        · have HR3 := hide (hR2.symm.trans (runD_good hf)).symm
          rw [hf, errD_nil] at HC
          clear hf hR2 HR
          generalize (runD ([.wr (fr + used) emptyB]) s').2 = s2 at *
          go_wp2_with (go_at_call 70; refine HC.out.mono ?_; rintro e w7 ⟨rfl, ha7⟩; have HA7 := hide ha7; clear ha7)
          obtain ⟨S8, hk8, hs8⟩ := HA7.out
          exact ⟨⟨1, S8, s2, by omega, rfl, HA.out.step hk8 hs8 HLN.out, HV.out.trans hs8, HR3.out⟩, by simp [intOf]⟩
        · have HR3 := hide (hR2.symm.trans (runD_stop hf)).symm
          rw [errD_pos hf] at HC
          have HFF := hide hf
          clear hf hR2 HR
          generalize runD ([.wr (fr + used) emptyB]) s' = r2 at *
          go_wp2_with (go_at_call 70; refine HC.out.mono ?_; rintro e w7 ⟨rfl, ha7⟩; have HA7 := hide ha7; clear ha7)
          go_ret
          rw [← HR3.out]
          exact ⟨by show _ = Ending.returned (errV r2.1); rw [errD_pos HFF.out]; rfl, ActD.after HSS.out (ActD.after HV.out HA7.out)⟩
      · have hR2 := HR.out
        have eS : ((addSteps (fr + used) secs (many - used)).drop 1).flatten = [.fl] ++ ((addSteps (fr + used) secs (many - used)).drop 2).flatten := rfl
        rw [eS] at hR2
        have HC : Hid (Calls Tryz.prog 45 #[.pointer (some ⟨db, 0, none⟩)] wr fun e w' => e = .returned (errV (runD ([.fl]) s').1) ∧ ActD wr w' B db S' (runD ([.fl]) s').2) := (by have h := HA.out; exact aflush_any _ h)
        have HLN := hide (runD_len ([.fl]) s')
        have ca' : wr.cell? ⟨fb, 1, none⟩ = some (Value.func (Fn.func 45) #[Value.pointer (some ⟨db, 0, none⟩)] #[]) := ca
        clear ca eS
        by_cases hf : (runD ([.fl]) s').1 = 0
        · have HR3 := hide (hR2.symm.trans (runD_good hf)).symm
          rw [hf, errD_nil] at HC
          clear hf hR2 HR
          generalize (runD ([.fl]) s').2 = s2 at *
          go_wp2_with (go_at_call 45; refine HC.out.mono ?_; rintro e w7 ⟨rfl, ha7⟩; have HA7 := hide ha7; clear ha7)
          obtain ⟨S8, hk8, hs8⟩ := HA7.out
          exact ⟨⟨2, S8, s2, by omega, rfl, HA.out.step hk8 hs8 HLN.out, HV.out.trans hs8, HR3.out⟩, by simp [intOf]⟩
        · have HR3 := hide (hR2.symm.trans (runD_stop hf)).symm
          rw [errD_pos hf] at HC
          have HFF := hide hf
          clear hf hR2 HR
          generalize runD ([.fl]) s' = r2 at *
          go_wp2_with (go_at_call 45; refine HC.out.mono ?_; rintro e w7 ⟨rfl, ha7⟩; have HA7 := hide ha7; clear ha7)
          go_ret
          rw [← HR3.out]
          exact ⟨by show _ = Ending.returned (errV r2.1); rw [errD_pos HFF.out]; rfl, ActD.after HSS.out (ActD.after HV.out HA7.out)⟩
      · have hR2 := HR.out
        have eS : ((addSteps (fr + used) secs (many - used)).drop 2).flatten = restFrom (fr + used + 1) secs.tail ++ ((addSteps (fr + used) secs (many - used)).drop 3).flatten := rfl
        rw [eS] at hR2
        have HC : Hid (Calls Tryz.prog 71 #[.agg #[.pointer (some ⟨lb, 0, none⟩), .slice (some ⟨sb, 0, none⟩) secs.length cap]] wr fun e w' => e = .returned (errV (runD (restFrom (fr + used + 1) secs.tail) s').1) ∧ ActD wr w' B db S' (runD (restFrom (fr + used + 1) secs.tail) s').2) := (by have h := HA.out; exact arest_any _ h)
        have HLN := hide (runD_len (restFrom (fr + used + 1) secs.tail) s')
        have ca' : wr.cell? ⟨fb, 2, none⟩ = some (Value.func (Fn.func 71) #[Value.agg #[.pointer (some ⟨lb, 0, none⟩), .slice (some ⟨sb, 0, none⟩) secs.length cap]] #[]) := ca
        clear ca eS
        by_cases hf : (runD (restFrom (fr + used + 1) secs.tail) s').1 = 0
        · have HR3 := hide (hR2.symm.trans (runD_good hf)).symm
          rw [hf, errD_nil] at HC
          clear hf hR2 HR
          generalize (runD (restFrom (fr + used + 1) secs.tail) s').2 = s2 at *
          go_wp2_with (go_at_call 71; refine HC.out.mono ?_; rintro e w7 ⟨rfl, ha7⟩; have HA7 := hide ha7; clear ha7)
          obtain ⟨S8, hk8, hs8⟩ := HA7.out
          exact ⟨⟨3, S8, s2, by omega, rfl, HA.out.step hk8 hs8 HLN.out, HV.out.trans hs8, HR3.out⟩, by simp [intOf]⟩
        · have HR3 := hide (hR2.symm.trans (runD_stop hf)).symm
          rw [errD_pos hf] at HC
          have HFF := hide hf
          clear hf hR2 HR
          generalize runD (restFrom (fr + used + 1) secs.tail) s' = r2 at *
          go_wp2_with (go_at_call 71; refine HC.out.mono ?_; rintro e w7 ⟨rfl, ha7⟩; have HA7 := hide ha7; clear ha7)
          go_ret
          rw [← HR3.out]
          exact ⟨by show _ = Ending.returned (errV r2.1); rw [errD_pos HFF.out]; rfl, ActD.after HSS.out (ActD.after HV.out HA7.out)⟩
      · have hR2 := HR.out
        have eS : ((addSteps (fr + used) secs (many - used)).drop 3).flatten = (if secs.length = many - used then [] else [.wr (fr + used + secs.length) emptyB]) ++ ((addSteps (fr + used) secs (many - used)).drop 4).flatten := rfl
        rw [eS] at hR2
        have HC : Hid (Calls Tryz.prog 72 #[.agg #[.pointer (some ⟨lb, 0, none⟩), .slice (some ⟨sb, 0, none⟩) secs.length cap]] wr fun e w' => e = .returned (errV (runD ((if secs.length = many - used then [] else [.wr (fr + used + secs.length) emptyB])) s').1) ∧ ActD wr w' B db S' (runD ((if secs.length = many - used then [] else [.wr (fr + used + secs.length) emptyB])) s').2) := (by have h := HA.out; exact aend_any _ h)
        have HLN := hide (runD_len ((if secs.length = many - used then [] else [.wr (fr + used + secs.length) emptyB])) s')
        have ca' : wr.cell? ⟨fb, 3, none⟩ = some (Value.func (Fn.func 72) #[Value.agg #[.pointer (some ⟨lb, 0, none⟩), .slice (some ⟨sb, 0, none⟩) secs.length cap]] #[]) := ca
        clear ca eS
        by_cases hf : (runD ((if secs.length = many - used then [] else [.wr (fr + used + secs.length) emptyB])) s').1 = 0
        · have HR3 := hide (hR2.symm.trans (runD_good hf)).symm
          rw [hf, errD_nil] at HC
          clear hf hR2 HR
          generalize (runD ((if secs.length = many - used then [] else [.wr (fr + used + secs.length) emptyB])) s').2 = s2 at *
          go_wp2_with (go_at_call 72; refine HC.out.mono ?_; rintro e w7 ⟨rfl, ha7⟩; have HA7 := hide ha7; clear ha7)
          obtain ⟨S8, hk8, hs8⟩ := HA7.out
          exact ⟨⟨4, S8, s2, by omega, rfl, HA.out.step hk8 hs8 HLN.out, HV.out.trans hs8, HR3.out⟩, by simp [intOf]⟩
        · have HR3 := hide (hR2.symm.trans (runD_stop hf)).symm
          rw [errD_pos hf] at HC
          have HFF := hide hf
          clear hf hR2 HR
          generalize runD ((if secs.length = many - used then [] else [.wr (fr + used + secs.length) emptyB])) s' = r2 at *
          go_wp2_with (go_at_call 72; refine HC.out.mono ?_; rintro e w7 ⟨rfl, ha7⟩; have HA7 := hide ha7; clear ha7)
          go_ret
          rw [← HR3.out]
          exact ⟨by show _ = Ending.returned (errV r2.1); rw [errD_pos HFF.out]; rfl, ActD.after HSS.out (ActD.after HV.out HA7.out)⟩
      · have hR2 := HR.out
        have eS : ((addSteps (fr + used) secs (many - used)).drop 4).flatten = [.fl] ++ ((addSteps (fr + used) secs (many - used)).drop 5).flatten := rfl
        rw [eS] at hR2
        have HC : Hid (Calls Tryz.prog 45 #[.pointer (some ⟨db, 0, none⟩)] wr fun e w' => e = .returned (errV (runD ([.fl]) s').1) ∧ ActD wr w' B db S' (runD ([.fl]) s').2) := (by have h := HA.out; exact aflush_any _ h)
        have HLN := hide (runD_len ([.fl]) s')
        have ca' : wr.cell? ⟨fb, 4, none⟩ = some (Value.func (Fn.func 45) #[Value.pointer (some ⟨db, 0, none⟩)] #[]) := ca
        clear ca eS
        by_cases hf : (runD ([.fl]) s').1 = 0
        · have HR3 := hide (hR2.symm.trans (runD_good hf)).symm
          rw [hf, errD_nil] at HC
          clear hf hR2 HR
          generalize (runD ([.fl]) s').2 = s2 at *
          go_wp2_with (go_at_call 45; refine HC.out.mono ?_; rintro e w7 ⟨rfl, ha7⟩; have HA7 := hide ha7; clear ha7)
          obtain ⟨S8, hk8, hs8⟩ := HA7.out
          exact ⟨⟨5, S8, s2, by omega, rfl, HA.out.step hk8 hs8 HLN.out, HV.out.trans hs8, HR3.out⟩, by simp [intOf]⟩
        · have HR3 := hide (hR2.symm.trans (runD_stop hf)).symm
          rw [errD_pos hf] at HC
          have HFF := hide hf
          clear hf hR2 HR
          generalize runD ([.fl]) s' = r2 at *
          go_wp2_with (go_at_call 45; refine HC.out.mono ?_; rintro e w7 ⟨rfl, ha7⟩; have HA7 := hide ha7; clear ha7)
          go_ret
          rw [← HR3.out]
          exact ⟨by show _ = Ending.returned (errV r2.1); rw [errD_pos HFF.out]; rfl, ActD.after HSS.out (ActD.after HV.out HA7.out)⟩
      · have hR2 := HR.out
        have eS : ((addSteps (fr + used) secs (many - used)).drop 5).flatten = [.wr (fr + used) (secs.headD emptyB)] ++ ((addSteps (fr + used) secs (many - used)).drop 6).flatten := rfl
        rw [eS] at hR2
        have HC : Hid (Calls Tryz.prog 73 #[.agg #[.pointer (some ⟨lb, 0, none⟩), .slice (some ⟨sb, 0, none⟩) secs.length cap]] wr fun e w' => e = .returned (errV (runD ([.wr (fr + used) (secs.headD emptyB)]) s').1) ∧ ActD wr w' B db S' (runD ([.wr (fr + used) (secs.headD emptyB)]) s').2) := (by have h := HA.out; exact afirst_any _ h)
        have HLN := hide (runD_len ([.wr (fr + used) (secs.headD emptyB)]) s')
        have ca' : wr.cell? ⟨fb, 5, none⟩ = some (Value.func (Fn.func 73) #[Value.agg #[.pointer (some ⟨lb, 0, none⟩), .slice (some ⟨sb, 0, none⟩) secs.length cap]] #[]) := ca
        clear ca eS
        by_cases hf : (runD ([.wr (fr + used) (secs.headD emptyB)]) s').1 = 0
        · have HR3 := hide (hR2.symm.trans (runD_good hf)).symm
          rw [hf, errD_nil] at HC
          clear hf hR2 HR
          generalize (runD ([.wr (fr + used) (secs.headD emptyB)]) s').2 = s2 at *
          go_wp2_with (go_at_call 73; refine HC.out.mono ?_; rintro e w7 ⟨rfl, ha7⟩; have HA7 := hide ha7; clear ha7)
          obtain ⟨S8, hk8, hs8⟩ := HA7.out
          exact ⟨⟨6, S8, s2, by omega, rfl, HA.out.step hk8 hs8 HLN.out, HV.out.trans hs8, HR3.out⟩, by simp [intOf]⟩
        · have HR3 := hide (hR2.symm.trans (runD_stop hf)).symm
          rw [errD_pos hf] at HC
          have HFF := hide hf
          clear hf hR2 HR
          generalize runD ([.wr (fr + used) (secs.headD emptyB)]) s' = r2 at *
          go_wp2_with (go_at_call 73; refine HC.out.mono ?_; rintro e w7 ⟨rfl, ha7⟩; have HA7 := hide ha7; clear ha7)
          go_ret
          rw [← HR3.out]
          exact ⟨by show _ = Ending.returned (errV r2.1); rw [errD_pos HFF.out]; rfl, ActD.after HSS.out (ActD.after HV.out HA7.out)⟩
      · have hR2 := HR.out
        have eS : ((addSteps (fr + used) secs (many - used)).drop 6).flatten = [.fl] ++ ((addSteps (fr + used) secs (many - used)).drop 7).flatten := rfl
        rw [eS] at hR2
        have HC : Hid (Calls Tryz.prog 45 #[.pointer (some ⟨db, 0, none⟩)] wr fun e w' => e = .returned (errV (runD ([.fl]) s').1) ∧ ActD wr w' B db S' (runD ([.fl]) s').2) := (by have h := HA.out; exact aflush_any _ h)
        have HLN := hide (runD_len ([.fl]) s')
        have ca' : wr.cell? ⟨fb, 6, none⟩ = some (Value.func (Fn.func 45) #[Value.pointer (some ⟨db, 0, none⟩)] #[]) := ca
        clear ca eS
        by_cases hf : (runD ([.fl]) s').1 = 0
        · have HR3 := hide (hR2.symm.trans (runD_good hf)).symm
          rw [hf, errD_nil] at HC
          clear hf hR2 HR
          generalize (runD ([.fl]) s').2 = s2 at *
          go_wp2_with (go_at_call 45; refine HC.out.mono ?_; rintro e w7 ⟨rfl, ha7⟩; have HA7 := hide ha7; clear ha7)
          obtain ⟨S8, hk8, hs8⟩ := HA7.out
          exact ⟨⟨7, S8, s2, by omega, rfl, HA.out.step hk8 hs8 HLN.out, HV.out.trans hs8, HR3.out⟩, by simp [intOf]⟩
        · have HR3 := hide (hR2.symm.trans (runD_stop hf)).symm
          rw [errD_pos hf] at HC
          have HFF := hide hf
          clear hf hR2 HR
          generalize runD ([.fl]) s' = r2 at *
          go_wp2_with (go_at_call 45; refine HC.out.mono ?_; rintro e w7 ⟨rfl, ha7⟩; have HA7 := hide ha7; clear ha7)
          go_ret
          rw [← HR3.out]
          exact ⟨by show _ = Ending.returned (errV r2.1); rw [errD_pos HFF.out]; rfl, ActD.after HSS.out (ActD.after HV.out HA7.out)⟩
    · have ei : i = 7 := by omega
      subst ei
      have hR2 : (0, s') = res := HR.out
      have HR2 := hide hR2
      clear hR2 HR fW
      go_wp2
      go_ret
      rw [← HR2.out]
      exact ⟨rfl, S', HA.out.dk, HSS.out.trans HV.out⟩
end
end Go.Proofs.YtkfpfbkdalbjoaaGreat
