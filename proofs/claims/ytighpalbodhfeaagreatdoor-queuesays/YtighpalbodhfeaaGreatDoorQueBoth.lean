/-
  A view and the document's own side by side, of rows that may be: what an act of the one or the other makes of both.
-/
import Derived.Test.YtighpalbodhfeaaGreatDoorQueMsgs
import Derived.Test.YtighpalbodhfeaaGreatDoorQueR
import Derived.Test.YtighpalbodhfeaaGreatDoorRefView
import Derived.Test.YtighpalbodhfeaaGreatDoorRefPut0
import Derived.Test.YtighpalbodhfeaaGreatDoorQueMem
import Derived.Test.YtighpalbodhfeaaGreatDoorQueRSend
import Derived.Test.YtighpalbodhfeaaGreatDoorRowErr
namespace Go.Proofs.YtighpalbodhfeaaGreatDoor
open Go.RowKit Go.Joins Go.Shelf

structure TB (w : World) (B wb rb : Nat) (S G : Nat → Prop) (P : Rws) (since : Int) (chs : List Chg) (rds : Rws) (chs' : List Chg) (rds' : Rws) : Prop where
  qv : QV w B wb S P since chs rds
  qr : QR w B rb G P since chs' rds'
  ap : ∀ k, G k → ¬ S k
section
variable {w w' : World} {B wb rb : Nat} {S S' G G' : Nat → Prop} {P : Rws} {since : Int} {chs chs' c2 : List Chg} {rds rds' r2 : Rws}
theorem TB.vb (h : TB w B wb rb S G P since chs rds chs' rds') : VB w B wb rb S G P since chs rds chs' rds' := ⟨h.qv.pv, h.qr.rw, h.ap, h.qr.rl⟩
theorem TB.view' (h : TB w B wb rb S G P since chs rds chs' rds') (hq : QV w' B wb S' P since c2 r2) (hs : StepV w w' B S S') : TB w' B wb rb S' G P since c2 r2 chs' rds' ∧ Fr w w' B rb S S' := by
  obtain ⟨hv, hf⟩ := h.vb.view' hq.pv hs
  exact ⟨⟨hq, ⟨hv.rw, h.qr.ov, h.qr.ok, Nat.le_trans h.qr.lo hs.bel.size, h.qr.rl⟩, hv.ap⟩, hf⟩
theorem TB.view (h : TB w B wb rb S G P since chs rds chs' rds') (ha : ActQ w w' B wb S P since c2 r2) : ∃ S', TB w' B wb rb S' G P since c2 r2 chs' rds' ∧ Fr w w' B rb S S' := by
  obtain ⟨S', hq, hs⟩ := ha
  exact ⟨S', h.view' hq hs⟩
theorem TB.ref' (h : TB w B wb rb S G P since chs rds chs' rds') (hq : QR w' B rb G' P since c2 r2) (hs : StepR w w' B rb G G') : TB w' B wb rb S G' P since chs rds c2 r2 ∧ Fr w w' B rb S S := by
  obtain ⟨hv, hf⟩ := h.vb.ref' hq.rw hs
  exact ⟨⟨⟨hv.pv, h.qv.ok, fun W hW => h.qv.la W (hs.bel.trans hW)⟩, hq, hv.ap⟩, hf⟩
theorem TB.ref (h : TB w B wb rb S G P since chs rds chs' rds') (ha : ActP w w' B rb G P since c2 r2) : ∃ G', TB w' B wb rb S G' P since chs rds c2 r2 ∧ Fr w w' B rb S S := by
  obtain ⟨G', hq, hs⟩ := ha
  exact ⟨G', h.ref' hq hs⟩
theorem TB.viewP (h : TB w B wb rb S G P since chs rds chs' rds') (hp : PV w' B wb S' P since c2 r2) (hk : OkQ P c2) (hs : StepV w w' B S S') : TB w' B wb rb S' G P since c2 r2 chs' rds' ∧ Fr w w' B rb S S' := h.view' ⟨hp, hk, fun W hW => h.qv.la W (hs.bel.trans hW)⟩ hs
theorem TB.refP (h : TB w B wb rb S G P since chs rds chs' rds') (hr : RW w' rb G' P since c2 r2) (ov : OkV P c2 r2) (hk : OkQ P c2) (hs : StepR w w' B rb G G') : TB w' B wb rb S G' P since chs rds c2 r2 ∧ Fr w w' B rb S S := h.ref' ⟨hr, ov, hk, Nat.le_trans h.qr.lo hs.bel.size, h.qr.rl⟩ hs
theorem TB.on (h : TB w B wb rb S G P since chs rds chs' rds') (hb : Below w.heap.size w w') : TB w' B wb rb S G P since chs rds chs' rds' := ⟨h.qv.on hb, h.qr.on hb, h.ap⟩
end
/-- what a turn leaves: both, alike again; all else as it was -/
def TurnP (w w' : World) (B wb rb : Nat) (S : Nat → Prop) (P : Rws) (since : Int) : Prop := ∃ S' G' chs' rds', TB w' B wb rb S' G' P since chs' rds' chs' rds' ∧ Fr w w' B rb S S'
/-- an act that is light -/
def LightX (x : ActL) : Prop := x.s.size ≤ 120 ∧ x.t.size ≤ 100 ∧ -9223372036854775808 ≤ x.a ∧ x.a ≤ 9223372036854775807
theorem errQ_of (f : Nat) : errV f = if f = 0 then Value.nilIface else .iface 108 (.int .i64 f) := rfl
end Go.Proofs.YtighpalbodhfeaaGreatDoor

/-
  What haywainlaw.Turn returns at create, ack, wait, put and delete: true, and both sides are alike again.
-/
namespace Go.Proofs.YtighpalbodhfeaaGreatDoor
open Go.RowKit Go.Joins Go.Shelf
attribute [local go_sem ↓] Go.wp_at_zero Go.wp_at_succ

set_option maxRecDepth 8000 in
set_option maxHeartbeats 4000000 in
theorem turn_create (x : ActL) {B wb rb : Nat} {S G : Nat → Prop} {P : Rws} {since : Int} {chs : List Chg} {rds : Rws} (w : World) (h : TB w B wb rb S G P since chs rds chs rds) (k0 : (x.kind.toList == [99, 114, 101, 97, 116, 101]) = true) (hl : LightX x) :
    Calls Tryz.prog 9 #[.pointer (some ⟨wb, 0, none⟩), .pointer (some ⟨rb, 0, none⟩), .agg #[Value.string x.kind, Value.int .i64 x.a, Value.int .i64 x.b, Value.int .i64 x.c, Value.int .u64 x.k, Value.string x.s, Value.string x.t, Value.slice x.ca x.chs.length x.cc, Value.slice x.sa x.sps.length x.sc]] w fun e w' => e = .returned (.bool true) ∧ TurnP w w' B wb rb S P since := by
  have hs := hl.1
  have ht := hl.2.1
  have ha0 := hl.2.2.1
  have ha1 := hl.2.2.2
  have y0 : (w.alloc (Obj.cells #[Value.string x.kind, Value.int .i64 x.a, Value.int .i64 x.b, Value.int .i64 x.c, Value.int .u64 x.k, Value.string x.s, Value.string x.t, Value.slice x.ca x.chs.length x.cc, Value.slice x.sa x.sps.length x.sc] 39)).cell? ⟨w.heap.size, 0, none⟩ = some (.string x.kind) := cell_new _ _ _ 0
  have y5 : (w.alloc (Obj.cells #[Value.string x.kind, Value.int .i64 x.a, Value.int .i64 x.b, Value.int .i64 x.c, Value.int .u64 x.k, Value.string x.s, Value.string x.t, Value.slice x.ca x.chs.length x.cc, Value.slice x.sa x.sps.length x.sc] 39)).cell? ⟨w.heap.size, 5, none⟩ = some (.string x.s) := cell_new _ _ _ 5
  have y1 : (w.alloc (Obj.cells #[Value.string x.kind, Value.int .i64 x.a, Value.int .i64 x.b, Value.int .i64 x.c, Value.int .u64 x.k, Value.string x.s, Value.string x.t, Value.slice x.ca x.chs.length x.cc, Value.slice x.sa x.sps.length x.sc] 39)).cell? ⟨w.heap.size, 1, none⟩ = some (.int .i64 x.a) := cell_new _ _ _ 1
  have y6 : (w.alloc (Obj.cells #[Value.string x.kind, Value.int .i64 x.a, Value.int .i64 x.b, Value.int .i64 x.c, Value.int .u64 x.k, Value.string x.s, Value.string x.t, Value.slice x.ca x.chs.length x.cc, Value.slice x.sa x.sps.length x.sc] 39)).cell? ⟨w.heap.size, 6, none⟩ = some (.string x.t) := cell_new _ _ _ 6
  have HNS : Hid (¬ S w.heap.size) := fun e => by have := h.qv.pv.lt e; omega
  have HNR : Hid (w.heap.size ≠ rb) := fun e => by have := h.qr.rw.rb_in; omega
  have HF0 : Hid (Fr w (w.alloc (Obj.cells #[Value.string x.kind, Value.int .i64 x.a, Value.int .i64 x.b, Value.int .i64 x.c, Value.int .u64 x.k, Value.string x.s, Value.string x.t, Value.slice x.ca x.chs.length x.cc, Value.slice x.sa x.sps.length x.sc] 39)) B rb S S) := .on h.qr.lo (below_alloc1 _ _)
  have HB := hide (h.on (below_alloc1 w (Obj.cells #[Value.string x.kind, Value.int .i64 x.a, Value.int .i64 x.b, Value.int .i64 x.c, Value.int .u64 x.k, Value.string x.s, Value.string x.t, Value.slice x.ca x.chs.length x.cc, Value.slice x.sa x.sps.length x.sc] 39)))
  have hsz : (w.alloc (Obj.cells #[Value.string x.kind, Value.int .i64 x.a, Value.int .i64 x.b, Value.int .i64 x.c, Value.int .u64 x.k, Value.string x.s, Value.string x.t, Value.slice x.ca x.chs.length x.cc, Value.slice x.sa x.sps.length x.sc] 39)).heap.size = w.heap.size + 1 := by simp
  have HRL := hide h.qr.rl
  clear h
  have HSO := fun W => hide (same_of ((createQ P chs rds x.s x.a x.t).1) _ W (errQ_of _))
  go_enter Tryz.func9, Tryz.ntmps9
  go_wp2_with fail
  generalize w.alloc (Obj.cells #[Value.string x.kind, Value.int .i64 x.a, Value.int .i64 x.b, Value.int .i64 x.c, Value.int .u64 x.k, Value.string x.s, Value.string x.t, Value.slice x.ca x.chs.length x.cc, Value.slice x.sa x.sps.length x.sc] 39) = wx at *
  have hv0 := HB.out.on (Below.refl _ wx).drew
  have hf0 : Fr wx wx.drew B rb S S := .on HB.out.qr.lo (Below.refl _ wx).drew
  go_region_held3 (fun w' => w'.cell? ⟨w.heap.size, 5, none⟩ = some (.string x.s) ∧ w'.cell? ⟨w.heap.size, 1, none⟩ = some (.int .i64 x.a) ∧ w'.cell? ⟨w.heap.size, 6, none⟩ = some (.string x.t))
    (first
      | go_keep
      | exact ⟨(HE2.out).cell y5 HNS.out HNR.out, (HE2.out).cell y1 HNS.out HNR.out, (HE2.out).cell y6 HNS.out HNR.out⟩
      | exact ⟨(hf0.trans hfV).cell y5 HNS.out HNR.out, (hf0.trans hfV).cell y1 HNS.out HNR.out, (hf0.trans hfV).cell y6 HNS.out HNR.out⟩
      | exact ⟨(hf0.trans hfR).cell y5 HNS.out HNR.out, (hf0.trans hfR).cell y1 HNS.out HNR.out, (hf0.trans hfR).cell y6 HNS.out HNR.out⟩)
    (first
      | (go_at_call 11; refine (qcreate_any x.s x.a x.t _ hvR.qv (by omega) (by omega)).mono ?_; rintro e w1 ⟨rfl, ha⟩; obtain ⟨S1, hvE, hfE⟩ := hvR.view ha; have HE1 := hide hvE; have HE2 := hide ((hf0.trans hfR).trans hfE); clear hvE hfE ha)
      | (go_at_call 11; refine (qcreate_any x.s x.a x.t _ hv0.qv (by omega) (by omega)).mono ?_; rintro e w1 ⟨rfl, ha⟩; obtain ⟨S1, hvV, hfV⟩ := hv0.view ha; clear ha)
      | (go_at_call 19; refine (rcreate_any x.s x.a x.t _ hvV.qr (by omega) (by omega)).mono ?_; rintro e w2 ⟨rfl, hr⟩; obtain ⟨G2, hvE, hfE⟩ := hvV.ref hr; have HE1 := hide hvE; have HE2 := hide ((hf0.trans hfV).trans hfE); clear hvE hfE hr)
      | (go_at_call 19; refine (rcreate_any x.s x.a x.t _ hv0.qr (by omega) (by omega)).mono ?_; rintro e w2 ⟨rfl, hr⟩; obtain ⟨G2, hvR, hfR⟩ := hv0.ref hr; clear hr)
      | (go_at_call 14; refine (HSO _).out.mono ?_; rintro e w3 ⟨rfl, rfl⟩)
      | fail)
  all_goals
    have HE3 := hide (HF0.out.trans HE2.out)
    go_wp2
    go_ret
    exact ⟨rfl, _, _, _, _, HE1.out, HE3.out⟩
set_option maxRecDepth 8000 in
set_option maxHeartbeats 4000000 in
theorem turn_ack (x : ActL) {B wb rb : Nat} {S G : Nat → Prop} {P : Rws} {since : Int} {chs : List Chg} {rds : Rws} (w : World) (h : TB w B wb rb S G P since chs rds chs rds) (k0 : (x.kind.toList == [99, 114, 101, 97, 116, 101]) = false) (k1 : (x.kind.toList == [115, 101, 110, 100]) = false) (k2 : (x.kind.toList == [114, 101, 99, 101, 105, 118, 101]) = false) (k3 : (x.kind.toList == [97, 99, 107]) = true) (hl : LightX x) :
    Calls Tryz.prog 9 #[.pointer (some ⟨wb, 0, none⟩), .pointer (some ⟨rb, 0, none⟩), .agg #[Value.string x.kind, Value.int .i64 x.a, Value.int .i64 x.b, Value.int .i64 x.c, Value.int .u64 x.k, Value.string x.s, Value.string x.t, Value.slice x.ca x.chs.length x.cc, Value.slice x.sa x.sps.length x.sc]] w fun e w' => e = .returned (.bool true) ∧ TurnP w w' B wb rb S P since := by
  have hs := hl.1
  have ht := hl.2.1
  have ha0 := hl.2.2.1
  have ha1 := hl.2.2.2
  have y0 : (w.alloc (Obj.cells #[Value.string x.kind, Value.int .i64 x.a, Value.int .i64 x.b, Value.int .i64 x.c, Value.int .u64 x.k, Value.string x.s, Value.string x.t, Value.slice x.ca x.chs.length x.cc, Value.slice x.sa x.sps.length x.sc] 39)).cell? ⟨w.heap.size, 0, none⟩ = some (.string x.kind) := cell_new _ _ _ 0
  have y5 : (w.alloc (Obj.cells #[Value.string x.kind, Value.int .i64 x.a, Value.int .i64 x.b, Value.int .i64 x.c, Value.int .u64 x.k, Value.string x.s, Value.string x.t, Value.slice x.ca x.chs.length x.cc, Value.slice x.sa x.sps.length x.sc] 39)).cell? ⟨w.heap.size, 5, none⟩ = some (.string x.s) := cell_new _ _ _ 5
  have y1 : (w.alloc (Obj.cells #[Value.string x.kind, Value.int .i64 x.a, Value.int .i64 x.b, Value.int .i64 x.c, Value.int .u64 x.k, Value.string x.s, Value.string x.t, Value.slice x.ca x.chs.length x.cc, Value.slice x.sa x.sps.length x.sc] 39)).cell? ⟨w.heap.size, 1, none⟩ = some (.int .i64 x.a) := cell_new _ _ _ 1
  have y2 : (w.alloc (Obj.cells #[Value.string x.kind, Value.int .i64 x.a, Value.int .i64 x.b, Value.int .i64 x.c, Value.int .u64 x.k, Value.string x.s, Value.string x.t, Value.slice x.ca x.chs.length x.cc, Value.slice x.sa x.sps.length x.sc] 39)).cell? ⟨w.heap.size, 2, none⟩ = some (.int .i64 x.b) := cell_new _ _ _ 2
  have HNS : Hid (¬ S w.heap.size) := fun e => by have := h.qv.pv.lt e; omega
  have HNR : Hid (w.heap.size ≠ rb) := fun e => by have := h.qr.rw.rb_in; omega
  have HF0 : Hid (Fr w (w.alloc (Obj.cells #[Value.string x.kind, Value.int .i64 x.a, Value.int .i64 x.b, Value.int .i64 x.c, Value.int .u64 x.k, Value.string x.s, Value.string x.t, Value.slice x.ca x.chs.length x.cc, Value.slice x.sa x.sps.length x.sc] 39)) B rb S S) := .on h.qr.lo (below_alloc1 _ _)
  have HB := hide (h.on (below_alloc1 w (Obj.cells #[Value.string x.kind, Value.int .i64 x.a, Value.int .i64 x.b, Value.int .i64 x.c, Value.int .u64 x.k, Value.string x.s, Value.string x.t, Value.slice x.ca x.chs.length x.cc, Value.slice x.sa x.sps.length x.sc] 39)))
  have hsz : (w.alloc (Obj.cells #[Value.string x.kind, Value.int .i64 x.a, Value.int .i64 x.b, Value.int .i64 x.c, Value.int .u64 x.k, Value.string x.s, Value.string x.t, Value.slice x.ca x.chs.length x.cc, Value.slice x.sa x.sps.length x.sc] 39)).heap.size = w.heap.size + 1 := by simp
  have HRL := hide h.qr.rl
  clear h
  have HSO := fun W => hide (same_of ((ackQ P chs rds x.s x.a x.b).1) _ W (errQ_of _))
  go_enter Tryz.func9, Tryz.ntmps9
  go_wp2_with fail
  generalize w.alloc (Obj.cells #[Value.string x.kind, Value.int .i64 x.a, Value.int .i64 x.b, Value.int .i64 x.c, Value.int .u64 x.k, Value.string x.s, Value.string x.t, Value.slice x.ca x.chs.length x.cc, Value.slice x.sa x.sps.length x.sc] 39) = wx at *
  have hv0 := HB.out.on (Below.refl _ wx).drew
  have hf0 : Fr wx wx.drew B rb S S := .on HB.out.qr.lo (Below.refl _ wx).drew
  go_region_held3 (fun w' => w'.cell? ⟨w.heap.size, 5, none⟩ = some (.string x.s) ∧ w'.cell? ⟨w.heap.size, 1, none⟩ = some (.int .i64 x.a) ∧ w'.cell? ⟨w.heap.size, 2, none⟩ = some (.int .i64 x.b))
    (first
      | go_keep
      | exact ⟨(HE2.out).cell y5 HNS.out HNR.out, (HE2.out).cell y1 HNS.out HNR.out, (HE2.out).cell y2 HNS.out HNR.out⟩
      | exact ⟨(hf0.trans hfV).cell y5 HNS.out HNR.out, (hf0.trans hfV).cell y1 HNS.out HNR.out, (hf0.trans hfV).cell y2 HNS.out HNR.out⟩
      | exact ⟨(hf0.trans hfR).cell y5 HNS.out HNR.out, (hf0.trans hfR).cell y1 HNS.out HNR.out, (hf0.trans hfR).cell y2 HNS.out HNR.out⟩)
    (first
      | (go_at_call 22; refine (qack_any x.s x.a x.b _ hvR.qv (by omega) ha0 ha1).mono ?_; rintro e w1 ⟨rfl, ha⟩; obtain ⟨S1, hvE, hfE⟩ := hvR.view ha; have HE1 := hide hvE; have HE2 := hide ((hf0.trans hfR).trans hfE); clear hvE hfE ha)
      | (go_at_call 22; refine (qack_any x.s x.a x.b _ hv0.qv (by omega) ha0 ha1).mono ?_; rintro e w1 ⟨rfl, ha⟩; obtain ⟨S1, hvV, hfV⟩ := hv0.view ha; clear ha)
      | (go_at_call 23; refine (rack_any x.s x.a x.b _ hvV.qr (by omega) ha1).mono ?_; rintro e w2 ⟨rfl, hr⟩; obtain ⟨G2, hvE, hfE⟩ := hvV.ref hr; have HE1 := hide hvE; have HE2 := hide ((hf0.trans hfV).trans hfE); clear hvE hfE hr)
      | (go_at_call 23; refine (rack_any x.s x.a x.b _ hv0.qr (by omega) ha1).mono ?_; rintro e w2 ⟨rfl, hr⟩; obtain ⟨G2, hvR, hfR⟩ := hv0.ref hr; clear hr)
      | (go_at_call 14; refine (HSO _).out.mono ?_; rintro e w3 ⟨rfl, rfl⟩)
      | fail)
  all_goals
    have HE3 := hide (HF0.out.trans HE2.out)
    go_wp2
    go_ret
    exact ⟨rfl, _, _, _, _, HE1.out, HE3.out⟩
set_option maxRecDepth 8000 in
set_option maxHeartbeats 4000000 in
theorem turn_wait (x : ActL) {B wb rb : Nat} {S G : Nat → Prop} {P : Rws} {since : Int} {chs : List Chg} {rds : Rws} (w : World) (h : TB w B wb rb S G P since chs rds chs rds) (k0 : (x.kind.toList == [99, 114, 101, 97, 116, 101]) = false) (k1 : (x.kind.toList == [115, 101, 110, 100]) = false) (k2 : (x.kind.toList == [114, 101, 99, 101, 105, 118, 101]) = false) (k3 : (x.kind.toList == [97, 99, 107]) = false) (k4 : (x.kind.toList == [119, 97, 105, 116]) = true) (hl : LightX x) :
    Calls Tryz.prog 9 #[.pointer (some ⟨wb, 0, none⟩), .pointer (some ⟨rb, 0, none⟩), .agg #[Value.string x.kind, Value.int .i64 x.a, Value.int .i64 x.b, Value.int .i64 x.c, Value.int .u64 x.k, Value.string x.s, Value.string x.t, Value.slice x.ca x.chs.length x.cc, Value.slice x.sa x.sps.length x.sc]] w fun e w' => e = .returned (.bool true) ∧ TurnP w w' B wb rb S P since := by
  have hs := hl.1
  have ht := hl.2.1
  have ha0 := hl.2.2.1
  have ha1 := hl.2.2.2
  have y0 : (w.alloc (Obj.cells #[Value.string x.kind, Value.int .i64 x.a, Value.int .i64 x.b, Value.int .i64 x.c, Value.int .u64 x.k, Value.string x.s, Value.string x.t, Value.slice x.ca x.chs.length x.cc, Value.slice x.sa x.sps.length x.sc] 39)).cell? ⟨w.heap.size, 0, none⟩ = some (.string x.kind) := cell_new _ _ _ 0
  have y5 : (w.alloc (Obj.cells #[Value.string x.kind, Value.int .i64 x.a, Value.int .i64 x.b, Value.int .i64 x.c, Value.int .u64 x.k, Value.string x.s, Value.string x.t, Value.slice x.ca x.chs.length x.cc, Value.slice x.sa x.sps.length x.sc] 39)).cell? ⟨w.heap.size, 5, none⟩ = some (.string x.s) := cell_new _ _ _ 5
  have y1 : (w.alloc (Obj.cells #[Value.string x.kind, Value.int .i64 x.a, Value.int .i64 x.b, Value.int .i64 x.c, Value.int .u64 x.k, Value.string x.s, Value.string x.t, Value.slice x.ca x.chs.length x.cc, Value.slice x.sa x.sps.length x.sc] 39)).cell? ⟨w.heap.size, 1, none⟩ = some (.int .i64 x.a) := cell_new _ _ _ 1
  have y2 : (w.alloc (Obj.cells #[Value.string x.kind, Value.int .i64 x.a, Value.int .i64 x.b, Value.int .i64 x.c, Value.int .u64 x.k, Value.string x.s, Value.string x.t, Value.slice x.ca x.chs.length x.cc, Value.slice x.sa x.sps.length x.sc] 39)).cell? ⟨w.heap.size, 2, none⟩ = some (.int .i64 x.b) := cell_new _ _ _ 2
  have y3 : (w.alloc (Obj.cells #[Value.string x.kind, Value.int .i64 x.a, Value.int .i64 x.b, Value.int .i64 x.c, Value.int .u64 x.k, Value.string x.s, Value.string x.t, Value.slice x.ca x.chs.length x.cc, Value.slice x.sa x.sps.length x.sc] 39)).cell? ⟨w.heap.size, 3, none⟩ = some (.int .i64 x.c) := cell_new _ _ _ 3
  have HNS : Hid (¬ S w.heap.size) := fun e => by have := h.qv.pv.lt e; omega
  have HNR : Hid (w.heap.size ≠ rb) := fun e => by have := h.qr.rw.rb_in; omega
  have HF0 : Hid (Fr w (w.alloc (Obj.cells #[Value.string x.kind, Value.int .i64 x.a, Value.int .i64 x.b, Value.int .i64 x.c, Value.int .u64 x.k, Value.string x.s, Value.string x.t, Value.slice x.ca x.chs.length x.cc, Value.slice x.sa x.sps.length x.sc] 39)) B rb S S) := .on h.qr.lo (below_alloc1 _ _)
  have HB := hide (h.on (below_alloc1 w (Obj.cells #[Value.string x.kind, Value.int .i64 x.a, Value.int .i64 x.b, Value.int .i64 x.c, Value.int .u64 x.k, Value.string x.s, Value.string x.t, Value.slice x.ca x.chs.length x.cc, Value.slice x.sa x.sps.length x.sc] 39)))
  have hsz : (w.alloc (Obj.cells #[Value.string x.kind, Value.int .i64 x.a, Value.int .i64 x.b, Value.int .i64 x.c, Value.int .u64 x.k, Value.string x.s, Value.string x.t, Value.slice x.ca x.chs.length x.cc, Value.slice x.sa x.sps.length x.sc] 39)).heap.size = w.heap.size + 1 := by simp
  have HRL := hide h.qr.rl
  clear h
  have HSO := fun W => hide (same_of ((waitQ P chs rds x.s x.a x.b x.c).1) _ W (errQ_of _))
  go_enter Tryz.func9, Tryz.ntmps9
  go_wp2_with fail
  generalize w.alloc (Obj.cells #[Value.string x.kind, Value.int .i64 x.a, Value.int .i64 x.b, Value.int .i64 x.c, Value.int .u64 x.k, Value.string x.s, Value.string x.t, Value.slice x.ca x.chs.length x.cc, Value.slice x.sa x.sps.length x.sc] 39) = wx at *
  have hv0 := HB.out.on (Below.refl _ wx).drew
  have hf0 : Fr wx wx.drew B rb S S := .on HB.out.qr.lo (Below.refl _ wx).drew
  go_region_held3 (fun w' => w'.cell? ⟨w.heap.size, 5, none⟩ = some (.string x.s) ∧ w'.cell? ⟨w.heap.size, 1, none⟩ = some (.int .i64 x.a) ∧ w'.cell? ⟨w.heap.size, 2, none⟩ = some (.int .i64 x.b) ∧ w'.cell? ⟨w.heap.size, 3, none⟩ = some (.int .i64 x.c))
    (first
      | go_keep
      | exact ⟨(HE2.out).cell y5 HNS.out HNR.out, (HE2.out).cell y1 HNS.out HNR.out, (HE2.out).cell y2 HNS.out HNR.out, (HE2.out).cell y3 HNS.out HNR.out⟩
      | exact ⟨(hf0.trans hfV).cell y5 HNS.out HNR.out, (hf0.trans hfV).cell y1 HNS.out HNR.out, (hf0.trans hfV).cell y2 HNS.out HNR.out, (hf0.trans hfV).cell y3 HNS.out HNR.out⟩
      | exact ⟨(hf0.trans hfR).cell y5 HNS.out HNR.out, (hf0.trans hfR).cell y1 HNS.out HNR.out, (hf0.trans hfR).cell y2 HNS.out HNR.out, (hf0.trans hfR).cell y3 HNS.out HNR.out⟩)
    (first
      | (go_at_call 24; refine (qwait_any x.s x.a x.b x.c _ hvR.qv (by omega) ha0 ha1).mono ?_; rintro e w1 ⟨rfl, ha⟩; obtain ⟨S1, hvE, hfE⟩ := hvR.view ha; have HE1 := hide hvE; have HE2 := hide ((hf0.trans hfR).trans hfE); clear hvE hfE ha)
      | (go_at_call 24; refine (qwait_any x.s x.a x.b x.c _ hv0.qv (by omega) ha0 ha1).mono ?_; rintro e w1 ⟨rfl, ha⟩; obtain ⟨S1, hvV, hfV⟩ := hv0.view ha; clear ha)
      | (go_at_call 25; refine (rwait_any x.s x.a x.b x.c _ hvV.qr (by omega) ha1).mono ?_; rintro e w2 ⟨rfl, hr⟩; obtain ⟨G2, hvE, hfE⟩ := hvV.ref hr; have HE1 := hide hvE; have HE2 := hide ((hf0.trans hfV).trans hfE); clear hvE hfE hr)
      | (go_at_call 25; refine (rwait_any x.s x.a x.b x.c _ hv0.qr (by omega) ha1).mono ?_; rintro e w2 ⟨rfl, hr⟩; obtain ⟨G2, hvR, hfR⟩ := hv0.ref hr; clear hr)
      | (go_at_call 14; refine (HSO _).out.mono ?_; rintro e w3 ⟨rfl, rfl⟩)
      | fail)
  all_goals
    have HE3 := hide (HF0.out.trans HE2.out)
    go_wp2
    go_ret
    exact ⟨rfl, _, _, _, _, HE1.out, HE3.out⟩
set_option maxRecDepth 8000 in
set_option maxHeartbeats 4000000 in
theorem turn_put (x : ActL) {B wb rb : Nat} {S G : Nat → Prop} {P : Rws} {since : Int} {chs : List Chg} {rds : Rws} (w : World) (h : TB w B wb rb S G P since chs rds chs rds) (k0 : (x.kind.toList == [99, 114, 101, 97, 116, 101]) = false) (k1 : (x.kind.toList == [115, 101, 110, 100]) = false) (k2 : (x.kind.toList == [114, 101, 99, 101, 105, 118, 101]) = false) (k3 : (x.kind.toList == [97, 99, 107]) = false) (k4 : (x.kind.toList == [119, 97, 105, 116]) = false) (k5 : (x.kind.toList == [102, 105, 110, 100]) = false) (k6 : (x.kind.toList == [112, 117, 116]) = true) (hl : LightX x) :
    Calls Tryz.prog 9 #[.pointer (some ⟨wb, 0, none⟩), .pointer (some ⟨rb, 0, none⟩), .agg #[Value.string x.kind, Value.int .i64 x.a, Value.int .i64 x.b, Value.int .i64 x.c, Value.int .u64 x.k, Value.string x.s, Value.string x.t, Value.slice x.ca x.chs.length x.cc, Value.slice x.sa x.sps.length x.sc]] w fun e w' => e = .returned (.bool true) ∧ TurnP w w' B wb rb S P since := by
  have hs := hl.1
  have ht := hl.2.1
  have ha0 := hl.2.2.1
  have ha1 := hl.2.2.2
  have y0 : (w.alloc (Obj.cells #[Value.string x.kind, Value.int .i64 x.a, Value.int .i64 x.b, Value.int .i64 x.c, Value.int .u64 x.k, Value.string x.s, Value.string x.t, Value.slice x.ca x.chs.length x.cc, Value.slice x.sa x.sps.length x.sc] 39)).cell? ⟨w.heap.size, 0, none⟩ = some (.string x.kind) := cell_new _ _ _ 0
  have y5 : (w.alloc (Obj.cells #[Value.string x.kind, Value.int .i64 x.a, Value.int .i64 x.b, Value.int .i64 x.c, Value.int .u64 x.k, Value.string x.s, Value.string x.t, Value.slice x.ca x.chs.length x.cc, Value.slice x.sa x.sps.length x.sc] 39)).cell? ⟨w.heap.size, 5, none⟩ = some (.string x.s) := cell_new _ _ _ 5
  have y6 : (w.alloc (Obj.cells #[Value.string x.kind, Value.int .i64 x.a, Value.int .i64 x.b, Value.int .i64 x.c, Value.int .u64 x.k, Value.string x.s, Value.string x.t, Value.slice x.ca x.chs.length x.cc, Value.slice x.sa x.sps.length x.sc] 39)).cell? ⟨w.heap.size, 6, none⟩ = some (.string x.t) := cell_new _ _ _ 6
  have HNS : Hid (¬ S w.heap.size) := fun e => by have := h.qv.pv.lt e; omega
  have HNR : Hid (w.heap.size ≠ rb) := fun e => by have := h.qr.rw.rb_in; omega
  have HF0 : Hid (Fr w (w.alloc (Obj.cells #[Value.string x.kind, Value.int .i64 x.a, Value.int .i64 x.b, Value.int .i64 x.c, Value.int .u64 x.k, Value.string x.s, Value.string x.t, Value.slice x.ca x.chs.length x.cc, Value.slice x.sa x.sps.length x.sc] 39)) B rb S S) := .on h.qr.lo (below_alloc1 _ _)
  have HB := hide (h.on (below_alloc1 w (Obj.cells #[Value.string x.kind, Value.int .i64 x.a, Value.int .i64 x.b, Value.int .i64 x.c, Value.int .u64 x.k, Value.string x.s, Value.string x.t, Value.slice x.ca x.chs.length x.cc, Value.slice x.sa x.sps.length x.sc] 39)))
  have hsz : (w.alloc (Obj.cells #[Value.string x.kind, Value.int .i64 x.a, Value.int .i64 x.b, Value.int .i64 x.c, Value.int .u64 x.k, Value.string x.s, Value.string x.t, Value.slice x.ca x.chs.length x.cc, Value.slice x.sa x.sps.length x.sc] 39)).heap.size = w.heap.size + 1 := by simp
  have HRL := hide h.qr.rl
  clear h
  have HSO := fun W => hide (same_of (alterF chs ⟨x.s, x.t, false⟩) _ W (errQ_of _))
  go_enter Tryz.func9, Tryz.ntmps9
  go_wp2_with fail
  generalize w.alloc (Obj.cells #[Value.string x.kind, Value.int .i64 x.a, Value.int .i64 x.b, Value.int .i64 x.c, Value.int .u64 x.k, Value.string x.s, Value.string x.t, Value.slice x.ca x.chs.length x.cc, Value.slice x.sa x.sps.length x.sc] 39) = wx at *
  have hv0 := HB.out.on (Below.refl _ wx).drew
  have hf0 : Fr wx wx.drew B rb S S := .on HB.out.qr.lo (Below.refl _ wx).drew
  go_region_held3 (fun w' => w'.cell? ⟨w.heap.size, 5, none⟩ = some (.string x.s) ∧ w'.cell? ⟨w.heap.size, 6, none⟩ = some (.string x.t))
    (first
      | go_keep
      | exact ⟨(HE2.out).cell y5 HNS.out HNR.out, (HE2.out).cell y6 HNS.out HNR.out⟩
      | exact ⟨(hf0.trans hfV).cell y5 HNS.out HNR.out, (hf0.trans hfV).cell y6 HNS.out HNR.out⟩
      | exact ⟨(hf0.trans hfR).cell y5 HNS.out HNR.out, (hf0.trans hfR).cell y6 HNS.out HNR.out⟩)
    (first
      | (go_at_call 28; refine (qv_put x.s x.t _ hvR.qv (by unfold maxLen; omega)).mono ?_; rintro e w1 ⟨rfl, ha⟩; obtain ⟨S1, hvE, hfE⟩ := hvR.view ha; have HE1 := hide hvE; have HE2 := hide ((hf0.trans hfR).trans hfE); clear hvE hfE ha)
      | (go_at_call 28; refine (qv_put x.s x.t _ hv0.qv (by unfold maxLen; omega)).mono ?_; rintro e w1 ⟨rfl, ha⟩; obtain ⟨S1, hvV, hfV⟩ := hv0.view ha; clear ha)
      | (go_at_call 29; refine (qr_put ⟨x.s, x.t, false⟩ _ hvV.qr (by show x.s.size ≤ 1000; omega)).mono ?_; rintro e w2 ⟨rfl, hr⟩; obtain ⟨G2, hvE, hfE⟩ := hvV.ref hr; have HE1 := hide hvE; have HE2 := hide ((hf0.trans hfV).trans hfE); clear hvE hfE hr)
      | (go_at_call 29; refine (qr_put ⟨x.s, x.t, false⟩ _ hv0.qr (by show x.s.size ≤ 1000; omega)).mono ?_; rintro e w2 ⟨rfl, hr⟩; obtain ⟨G2, hvR, hfR⟩ := hv0.ref hr; clear hr)
      | (go_at_call 14; refine (HSO _).out.mono ?_; rintro e w3 ⟨rfl, rfl⟩)
      | fail)
  all_goals
    have HE3 := hide (HF0.out.trans HE2.out)
    go_wp2
    go_ret
    exact ⟨rfl, _, _, _, _, HE1.out, HE3.out⟩
set_option maxRecDepth 8000 in
set_option maxHeartbeats 4000000 in
theorem turn_delete (x : ActL) {B wb rb : Nat} {S G : Nat → Prop} {P : Rws} {since : Int} {chs : List Chg} {rds : Rws} (w : World) (h : TB w B wb rb S G P since chs rds chs rds) (k0 : (x.kind.toList == [99, 114, 101, 97, 116, 101]) = false) (k1 : (x.kind.toList == [115, 101, 110, 100]) = false) (k2 : (x.kind.toList == [114, 101, 99, 101, 105, 118, 101]) = false) (k3 : (x.kind.toList == [97, 99, 107]) = false) (k4 : (x.kind.toList == [119, 97, 105, 116]) = false) (k5 : (x.kind.toList == [102, 105, 110, 100]) = false) (k6 : (x.kind.toList == [112, 117, 116]) = false) (k7 : (x.kind.toList == [100, 101, 108, 101, 116, 101]) = true) (hl : LightX x) :
    Calls Tryz.prog 9 #[.pointer (some ⟨wb, 0, none⟩), .pointer (some ⟨rb, 0, none⟩), .agg #[Value.string x.kind, Value.int .i64 x.a, Value.int .i64 x.b, Value.int .i64 x.c, Value.int .u64 x.k, Value.string x.s, Value.string x.t, Value.slice x.ca x.chs.length x.cc, Value.slice x.sa x.sps.length x.sc]] w fun e w' => e = .returned (.bool true) ∧ TurnP w w' B wb rb S P since := by
  have hs := hl.1
  have ht := hl.2.1
  have ha0 := hl.2.2.1
  have ha1 := hl.2.2.2
  have y0 : (w.alloc (Obj.cells #[Value.string x.kind, Value.int .i64 x.a, Value.int .i64 x.b, Value.int .i64 x.c, Value.int .u64 x.k, Value.string x.s, Value.string x.t, Value.slice x.ca x.chs.length x.cc, Value.slice x.sa x.sps.length x.sc] 39)).cell? ⟨w.heap.size, 0, none⟩ = some (.string x.kind) := cell_new _ _ _ 0
  have y5 : (w.alloc (Obj.cells #[Value.string x.kind, Value.int .i64 x.a, Value.int .i64 x.b, Value.int .i64 x.c, Value.int .u64 x.k, Value.string x.s, Value.string x.t, Value.slice x.ca x.chs.length x.cc, Value.slice x.sa x.sps.length x.sc] 39)).cell? ⟨w.heap.size, 5, none⟩ = some (.string x.s) := cell_new _ _ _ 5
  have HNS : Hid (¬ S w.heap.size) := fun e => by have := h.qv.pv.lt e; omega
  have HNR : Hid (w.heap.size ≠ rb) := fun e => by have := h.qr.rw.rb_in; omega
  have HF0 : Hid (Fr w (w.alloc (Obj.cells #[Value.string x.kind, Value.int .i64 x.a, Value.int .i64 x.b, Value.int .i64 x.c, Value.int .u64 x.k, Value.string x.s, Value.string x.t, Value.slice x.ca x.chs.length x.cc, Value.slice x.sa x.sps.length x.sc] 39)) B rb S S) := .on h.qr.lo (below_alloc1 _ _)
  have HB := hide (h.on (below_alloc1 w (Obj.cells #[Value.string x.kind, Value.int .i64 x.a, Value.int .i64 x.b, Value.int .i64 x.c, Value.int .u64 x.k, Value.string x.s, Value.string x.t, Value.slice x.ca x.chs.length x.cc, Value.slice x.sa x.sps.length x.sc] 39)))
  have hsz : (w.alloc (Obj.cells #[Value.string x.kind, Value.int .i64 x.a, Value.int .i64 x.b, Value.int .i64 x.c, Value.int .u64 x.k, Value.string x.s, Value.string x.t, Value.slice x.ca x.chs.length x.cc, Value.slice x.sa x.sps.length x.sc] 39)).heap.size = w.heap.size + 1 := by simp
  have HRL := hide h.qr.rl
  clear h
  have HSO := fun W => hide (same_of (alterF chs ⟨x.s, ⟨#[]⟩, true⟩) _ W (errQ_of _))
  go_enter Tryz.func9, Tryz.ntmps9
  go_wp2_with fail
  generalize w.alloc (Obj.cells #[Value.string x.kind, Value.int .i64 x.a, Value.int .i64 x.b, Value.int .i64 x.c, Value.int .u64 x.k, Value.string x.s, Value.string x.t, Value.slice x.ca x.chs.length x.cc, Value.slice x.sa x.sps.length x.sc] 39) = wx at *
  have hv0 := HB.out.on (Below.refl _ wx).drew
  have hf0 : Fr wx wx.drew B rb S S := .on HB.out.qr.lo (Below.refl _ wx).drew
  go_region_held3 (fun w' => w'.cell? ⟨w.heap.size, 5, none⟩ = some (.string x.s))
    (first
      | go_keep
      | exact (HE2.out).cell y5 HNS.out HNR.out
      | exact (hf0.trans hfV).cell y5 HNS.out HNR.out
      | exact (hf0.trans hfR).cell y5 HNS.out HNR.out)
    (first
      | (go_at_call 30; refine (qv_delete x.s _ hvR.qv (by unfold maxLen; omega)).mono ?_; rintro e w1 ⟨rfl, ha⟩; obtain ⟨S1, hvE, hfE⟩ := hvR.view ha; have HE1 := hide hvE; have HE2 := hide ((hf0.trans hfR).trans hfE); clear hvE hfE ha)
      | (go_at_call 30; refine (qv_delete x.s _ hv0.qv (by unfold maxLen; omega)).mono ?_; rintro e w1 ⟨rfl, ha⟩; obtain ⟨S1, hvV, hfV⟩ := hv0.view ha; clear ha)
      | (go_at_call 29; refine (qr_put ⟨x.s, ⟨#[]⟩, true⟩ _ hvV.qr (by show x.s.size ≤ 1000; omega)).mono ?_; rintro e w2 ⟨rfl, hr⟩; obtain ⟨G2, hvE, hfE⟩ := hvV.ref hr; have HE1 := hide hvE; have HE2 := hide ((hf0.trans hfV).trans hfE); clear hvE hfE hr)
      | (go_at_call 29; refine (qr_put ⟨x.s, ⟨#[]⟩, true⟩ _ hv0.qr (by show x.s.size ≤ 1000; omega)).mono ?_; rintro e w2 ⟨rfl, hr⟩; obtain ⟨G2, hvR, hfR⟩ := hv0.ref hr; clear hr)
      | (go_at_call 14; refine (HSO _).out.mono ?_; rintro e w3 ⟨rfl, rfl⟩)
      | fail)
  all_goals
    have HE3 := hide (HF0.out.trans HE2.out)
    go_wp2
    go_ret
    exact ⟨rfl, _, _, _, _, HE1.out, HE3.out⟩
end Go.Proofs.YtighpalbodhfeaaGreatDoor
