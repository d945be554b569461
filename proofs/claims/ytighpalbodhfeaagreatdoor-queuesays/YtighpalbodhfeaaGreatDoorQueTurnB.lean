/-
  What haywainlaw.Turn returns at send, get, receive and find: true, and both sides are alike again.
-/
import Derived.Test.YtighpalbodhfeaaGreatDoorQueBoth
import Derived.Test.YtighpalbodhfeaaGreatDoorQueMsgs
import Derived.Test.YtighpalbodhfeaaGreatDoorQueRRecv
import Derived.Test.YtighpalbodhfeaaGreatDoorQueRTake
import Derived.Test.YtighpalbodhfeaaGreatDoorQueRSend
import Derived.Test.YtighpalbodhfeaaGreatDoorRowErr
import Derived.Test.YtighpalbodhfeaaGreatDoorVerNew
import Derived.Test.YtighpalbodhfeaaGreatDoorQueEval
import Derived.Test.YtighpalbodhfeaaGreatDoorVerSaysC
import Derived.Test.YtighpalbodhfeaaGreatDoorRefPut0
namespace Go.Proofs.YtighpalbodhfeaaGreatDoor
open Go.RowKit Go.Joins Go.Shelf
attribute [local go_sem ↓] Go.wp_at_zero Go.wp_at_succ

set_option maxRecDepth 8000 in
set_option maxHeartbeats 4000000 in
theorem turn_send (x : ActL) {B wb rb : Nat} {S G : Nat → Prop} {P : Rws} {since : Int} {chs : List Chg} {rds : Rws} (w : World) (h : TB w B wb rb S G P since chs rds chs rds) (k0 : (x.kind.toList == [99, 114, 101, 97, 116, 101]) = false) (k1 : (x.kind.toList == [115, 101, 110, 100]) = true) (hl : LightX x) :
    Calls Tryz.prog 9 #[.pointer (some ⟨wb, 0, none⟩), .pointer (some ⟨rb, 0, none⟩), .agg #[Value.string x.kind, Value.int .i64 x.a, Value.int .i64 x.b, Value.int .i64 x.c, Value.int .u64 x.k, Value.string x.s, Value.string x.t, Value.slice x.ca x.chs.length x.cc, Value.slice x.sa x.sps.length x.sc]] w fun e w' => e = .returned (.bool true) ∧ TurnP w w' B wb rb S P since := by
  have hs := hl.1
  have ht := hl.2.1
  have ha0 := hl.2.2.1
  have ha1 := hl.2.2.2
  have y0 : (w.alloc (Obj.cells #[Value.string x.kind, Value.int .i64 x.a, Value.int .i64 x.b, Value.int .i64 x.c, Value.int .u64 x.k, Value.string x.s, Value.string x.t, Value.slice x.ca x.chs.length x.cc, Value.slice x.sa x.sps.length x.sc] 39)).cell? ⟨w.heap.size, 0, none⟩ = some (.string x.kind) := cell_new _ _ _ 0
  have y5 : (w.alloc (Obj.cells #[Value.string x.kind, Value.int .i64 x.a, Value.int .i64 x.b, Value.int .i64 x.c, Value.int .u64 x.k, Value.string x.s, Value.string x.t, Value.slice x.ca x.chs.length x.cc, Value.slice x.sa x.sps.length x.sc] 39)).cell? ⟨w.heap.size, 5, none⟩ = some (.string x.s) := cell_new _ _ _ 5
  have y6 : (w.alloc (Obj.cells #[Value.string x.kind, Value.int .i64 x.a, Value.int .i64 x.b, Value.int .i64 x.c, Value.int .u64 x.k, Value.string x.s, Value.string x.t, Value.slice x.ca x.chs.length x.cc, Value.slice x.sa x.sps.length x.sc] 39)).cell? ⟨w.heap.size, 6, none⟩ = some (.string x.t) := cell_new _ _ _ 6
  have y1 : (w.alloc (Obj.cells #[Value.string x.kind, Value.int .i64 x.a, Value.int .i64 x.b, Value.int .i64 x.c, Value.int .u64 x.k, Value.string x.s, Value.string x.t, Value.slice x.ca x.chs.length x.cc, Value.slice x.sa x.sps.length x.sc] 39)).cell? ⟨w.heap.size, 1, none⟩ = some (.int .i64 x.a) := cell_new _ _ _ 1
  have HNS : Hid (¬ S w.heap.size) := fun e => by have := h.qv.pv.lt e; omega
  have HNR : Hid (w.heap.size ≠ rb) := fun e => by have := h.qr.rw.rb_in; omega
  have HF0 : Hid (Fr w (w.alloc (Obj.cells #[Value.string x.kind, Value.int .i64 x.a, Value.int .i64 x.b, Value.int .i64 x.c, Value.int .u64 x.k, Value.string x.s, Value.string x.t, Value.slice x.ca x.chs.length x.cc, Value.slice x.sa x.sps.length x.sc] 39)) B rb S S) := .on h.qr.lo (below_alloc1 _ _)
  have HB := hide (h.on (below_alloc1 w (Obj.cells #[Value.string x.kind, Value.int .i64 x.a, Value.int .i64 x.b, Value.int .i64 x.c, Value.int .u64 x.k, Value.string x.s, Value.string x.t, Value.slice x.ca x.chs.length x.cc, Value.slice x.sa x.sps.length x.sc] 39)))
  have hsz : (w.alloc (Obj.cells #[Value.string x.kind, Value.int .i64 x.a, Value.int .i64 x.b, Value.int .i64 x.c, Value.int .u64 x.k, Value.string x.s, Value.string x.t, Value.slice x.ca x.chs.length x.cc, Value.slice x.sa x.sps.length x.sc] 39)).heap.size = w.heap.size + 1 := by simp
  have HRL := hide h.qr.rl
  clear h
  have HP := hide (fun (W : World) (hW : QV W B wb S P since chs rds) => qsend_any x.s x.t x.a W hW (by omega))
  have HR := hide (fun (G1 : Nat → Prop) (W : World) (hW : QR W B rb G1 P since chs rds) => rsend_any x.s x.t x.a W hW (by omega))
  have HSO := fun W => hide (same_of (sendQ P chs rds x.s x.t x.a).2.1 _ W (errQ_of _))
  generalize sendQ P chs rds x.s x.t x.a = r at *
  go_enter Tryz.func9, Tryz.ntmps9
  go_wp2_with fail
  generalize w.alloc (Obj.cells #[Value.string x.kind, Value.int .i64 x.a, Value.int .i64 x.b, Value.int .i64 x.c, Value.int .u64 x.k, Value.string x.s, Value.string x.t, Value.slice x.ca x.chs.length x.cc, Value.slice x.sa x.sps.length x.sc] 39) = wx at *
  go_wp2_with (first
    | (go_at_call 12; refine (HP.out _ HB.out.qv).mono ?_; rintro e w1 ⟨rfl, ha⟩; obtain ⟨S1, hv1, hf1⟩ := HB.out.view ha; have HV1 := hide hv1; have HF1 := hide (HF0.out.trans hf1); replace y5 := hf1.cell y5 HNS.out HNR.out; replace y6 := hf1.cell y6 HNS.out HNR.out; replace y1 := hf1.cell y1 HNS.out HNR.out; clear hv1 hf1 ha)
    | (go_at_call 20; refine (HR.out _ _ HV1.out.qr).mono ?_; rintro e w2 ⟨rfl, hr⟩; obtain ⟨G2, hv2, hf2⟩ := HV1.out.ref hr; have HV2 := hide hv2; have HF2 := hide (HF1.out.trans hf2); clear hv2 hf2 hr)
    | (go_at_call 14; refine (HSO _).out.mono ?_; rintro e w3 ⟨rfl, rfl⟩))
  go_ret
  exact ⟨rfl, _, _, _, _, HV2.out, HF2.out⟩
set_option maxRecDepth 8000 in
set_option maxHeartbeats 4000000 in
theorem turn_get (x : ActL) {B wb rb : Nat} {S G : Nat → Prop} {P : Rws} {since : Int} {chs : List Chg} {rds : Rws} (w : World) (h : TB w B wb rb S G P since chs rds chs rds) (k0 : (x.kind.toList == [99, 114, 101, 97, 116, 101]) = false) (k1 : (x.kind.toList == [115, 101, 110, 100]) = false) (k2 : (x.kind.toList == [114, 101, 99, 101, 105, 118, 101]) = false) (k3 : (x.kind.toList == [97, 99, 107]) = false) (k4 : (x.kind.toList == [119, 97, 105, 116]) = false) (k5 : (x.kind.toList == [102, 105, 110, 100]) = false) (k6 : (x.kind.toList == [112, 117, 116]) = false) (k7 : (x.kind.toList == [100, 101, 108, 101, 116, 101]) = false) (k8 : (x.kind.toList == [103, 101, 116]) = true) (hl : LightX x) :
    Calls Tryz.prog 9 #[.pointer (some ⟨wb, 0, none⟩), .pointer (some ⟨rb, 0, none⟩), .agg #[Value.string x.kind, Value.int .i64 x.a, Value.int .i64 x.b, Value.int .i64 x.c, Value.int .u64 x.k, Value.string x.s, Value.string x.t, Value.slice x.ca x.chs.length x.cc, Value.slice x.sa x.sps.length x.sc]] w fun e w' => e = .returned (.bool true) ∧ TurnP w w' B wb rb S P since := by
  have hs := hl.1
  have ht := hl.2.1
  have ha0 := hl.2.2.1
  have ha1 := hl.2.2.2
  have y0 : (w.alloc (Obj.cells #[Value.string x.kind, Value.int .i64 x.a, Value.int .i64 x.b, Value.int .i64 x.c, Value.int .u64 x.k, Value.string x.s, Value.string x.t, Value.slice x.ca x.chs.length x.cc, Value.slice x.sa x.sps.length x.sc] 39)).cell? ⟨w.heap.size, 0, none⟩ = some (.string x.kind) := cell_new _ _ _ 0
  have y5 : (w.alloc (Obj.cells #[Value.string x.kind, Value.int .i64 x.a, Value.int .i64 x.b, Value.int .i64 x.c, Value.int .u64 x.k, Value.string x.s, Value.string x.t, Value.slice x.ca x.chs.length x.cc, Value.slice x.sa x.sps.length x.sc] 39)).cell? ⟨w.heap.size, 5, none⟩ = some (.string x.s) := cell_new _ _ _ 5
  have HNS : Hid (¬ S w.heap.size) := fun e => by have := h.qv.pv.lt e; omega
  have HNR : Hid (w.heap.size ≠ rb) := fun e => by have := h.qr.rw.rb_in; omega
  have HF0 : Hid (Fr w (w.alloc (Obj.cells #[Value.string x.kind, Value.int .i64 x.a, Value.int .i64 x.b, Value.int .i64 x.c, Value.int .u64 x.k, Value.string x.s, Value.string x.t, Value.slice x.ca x.chs.length x.cc, Value.slice x.sa x.sps.length x.sc] 39)) B rb S S) := .on h.qr.lo (below_alloc1 _ _)
  have HB := hide (h.on (below_alloc1 w (Obj.cells #[Value.string x.kind, Value.int .i64 x.a, Value.int .i64 x.b, Value.int .i64 x.c, Value.int .u64 x.k, Value.string x.s, Value.string x.t, Value.slice x.ca x.chs.length x.cc, Value.slice x.sa x.sps.length x.sc] 39)))
  have hsz : (w.alloc (Obj.cells #[Value.string x.kind, Value.int .i64 x.a, Value.int .i64 x.b, Value.int .i64 x.c, Value.int .u64 x.k, Value.string x.s, Value.string x.t, Value.slice x.ca x.chs.length x.cc, Value.slice x.sa x.sps.length x.sc] 39)).heap.size = w.heap.size + 1 := by simp
  have HRL := hide h.qr.rl
  clear h
  have HP := hide (fun (W : World) (hW : QV W B wb S P since chs rds) => qv_get x.s W hW (by unfold maxLen; omega))
  have HR := hide (fun (G1 : Nat → Prop) (W : World) (hW : QR W B rb G1 P since chs rds) => qr_get x.s W hW (by omega))
  have HSO := fun W => hide (same_of (getP chs rds P x.s).2.2 _ W (errQ_of _))
  generalize getP chs rds P x.s = r at *
  go_enter Tryz.func9, Tryz.ntmps9
  go_wp2_with fail
  generalize w.alloc (Obj.cells #[Value.string x.kind, Value.int .i64 x.a, Value.int .i64 x.b, Value.int .i64 x.c, Value.int .u64 x.k, Value.string x.s, Value.string x.t, Value.slice x.ca x.chs.length x.cc, Value.slice x.sa x.sps.length x.sc] 39) = wx at *
  go_wp2_with (first
    | (go_at_call 31; refine (HP.out _ HB.out.qv).mono ?_; rintro e w1 ⟨rfl, ha⟩; obtain ⟨S1, hv1, hf1⟩ := HB.out.view ha; have HV1 := hide hv1; have HF1 := hide (HF0.out.trans hf1); replace y5 := hf1.cell y5 HNS.out HNR.out; clear hv1 hf1 ha)
    | (go_at_call 32; refine (HR.out _ _ HV1.out.qr).mono ?_; rintro e w2 ⟨rfl, hr⟩; obtain ⟨G2, hv2, hf2⟩ := HV1.out.ref hr; have HV2 := hide hv2; have HF2 := hide (HF1.out.trans hf2); clear hv2 hf2 hr)
    | (go_at_call 14; refine (HSO _).out.mono ?_; rintro e w3 ⟨rfl, rfl⟩))
  go_ret
  exact ⟨rfl, _, _, _, _, HV2.out, HF2.out⟩
set_option maxRecDepth 8000 in
set_option maxHeartbeats 4000000 in
theorem turn_receive (x : ActL) {B wb rb : Nat} {S G : Nat → Prop} {P : Rws} {since : Int} {chs : List Chg} {rds : Rws} (w : World) (h : TB w B wb rb S G P since chs rds chs rds) (k0 : (x.kind.toList == [99, 114, 101, 97, 116, 101]) = false) (k1 : (x.kind.toList == [115, 101, 110, 100]) = false) (k2 : (x.kind.toList == [114, 101, 99, 101, 105, 118, 101]) = true) (hl : LightX x) :
    Calls Tryz.prog 9 #[.pointer (some ⟨wb, 0, none⟩), .pointer (some ⟨rb, 0, none⟩), .agg #[Value.string x.kind, Value.int .i64 x.a, Value.int .i64 x.b, Value.int .i64 x.c, Value.int .u64 x.k, Value.string x.s, Value.string x.t, Value.slice x.ca x.chs.length x.cc, Value.slice x.sa x.sps.length x.sc]] w fun e w' => e = .returned (.bool true) ∧ TurnP w w' B wb rb S P since := by
  have hs := hl.1
  have ht := hl.2.1
  have ha0 := hl.2.2.1
  have ha1 := hl.2.2.2
  have y0 : (w.alloc (Obj.cells #[Value.string x.kind, Value.int .i64 x.a, Value.int .i64 x.b, Value.int .i64 x.c, Value.int .u64 x.k, Value.string x.s, Value.string x.t, Value.slice x.ca x.chs.length x.cc, Value.slice x.sa x.sps.length x.sc] 39)).cell? ⟨w.heap.size, 0, none⟩ = some (.string x.kind) := cell_new _ _ _ 0
  have y5 : (w.alloc (Obj.cells #[Value.string x.kind, Value.int .i64 x.a, Value.int .i64 x.b, Value.int .i64 x.c, Value.int .u64 x.k, Value.string x.s, Value.string x.t, Value.slice x.ca x.chs.length x.cc, Value.slice x.sa x.sps.length x.sc] 39)).cell? ⟨w.heap.size, 5, none⟩ = some (.string x.s) := cell_new _ _ _ 5
  have y1 : (w.alloc (Obj.cells #[Value.string x.kind, Value.int .i64 x.a, Value.int .i64 x.b, Value.int .i64 x.c, Value.int .u64 x.k, Value.string x.s, Value.string x.t, Value.slice x.ca x.chs.length x.cc, Value.slice x.sa x.sps.length x.sc] 39)).cell? ⟨w.heap.size, 1, none⟩ = some (.int .i64 x.a) := cell_new _ _ _ 1
  have y2 : (w.alloc (Obj.cells #[Value.string x.kind, Value.int .i64 x.a, Value.int .i64 x.b, Value.int .i64 x.c, Value.int .u64 x.k, Value.string x.s, Value.string x.t, Value.slice x.ca x.chs.length x.cc, Value.slice x.sa x.sps.length x.sc] 39)).cell? ⟨w.heap.size, 2, none⟩ = some (.int .i64 x.b) := cell_new _ _ _ 2
  have HNS : Hid (¬ S w.heap.size) := fun e => by have := h.qv.pv.lt e; omega
  have HNR : Hid (w.heap.size ≠ rb) := fun e => by have := h.qr.rw.rb_in; omega
  have HF0 : Hid (Fr w (w.alloc (Obj.cells #[Value.string x.kind, Value.int .i64 x.a, Value.int .i64 x.b, Value.int .i64 x.c, Value.int .u64 x.k, Value.string x.s, Value.string x.t, Value.slice x.ca x.chs.length x.cc, Value.slice x.sa x.sps.length x.sc] 39)) B rb S S) := .on h.qr.lo (below_alloc1 _ _)
  have HB := hide (h.on (below_alloc1 w (Obj.cells #[Value.string x.kind, Value.int .i64 x.a, Value.int .i64 x.b, Value.int .i64 x.c, Value.int .u64 x.k, Value.string x.s, Value.string x.t, Value.slice x.ca x.chs.length x.cc, Value.slice x.sa x.sps.length x.sc] 39)))
  have hsz : (w.alloc (Obj.cells #[Value.string x.kind, Value.int .i64 x.a, Value.int .i64 x.b, Value.int .i64 x.c, Value.int .u64 x.k, Value.string x.s, Value.string x.t, Value.slice x.ca x.chs.length x.cc, Value.slice x.sa x.sps.length x.sc] 39)).heap.size = w.heap.size + 1 := by simp
  have HRL := hide h.qr.rl
  clear h
  have HP := hide (fun (W : World) (hW : QV W B wb S P since chs rds) => qreceive_any x.s x.a x.b W hW (by omega))
  have HR := hide (fun (G1 : Nat → Prop) (W : World) (hW : QR W B rb G1 P since chs rds) => rreceiveMsg_of x.s x.a x.b W hW (by omega) (fun name qx tries dead now long G chs rds w h1 h2 h3 h4 h5 => rreceive_any name qx tries dead now long w h1 h2 h3 h4 h5))
  have HSO := fun W => hide (same_of (receiveQ P chs rds x.s x.a x.b).1.2.2.2.2 _ W (errQ_of _))
  generalize receiveQ P chs rds x.s x.a x.b = r at *
  obtain ⟨⟨m0, m1, m2, m3, me⟩, c9, r9⟩ := r
  dsimp only at *
  go_enter Tryz.func9, Tryz.ntmps9
  go_wp2_with fail
  generalize w.alloc (Obj.cells #[Value.string x.kind, Value.int .i64 x.a, Value.int .i64 x.b, Value.int .i64 x.c, Value.int .u64 x.k, Value.string x.s, Value.string x.t, Value.slice x.ca x.chs.length x.cc, Value.slice x.sa x.sps.length x.sc] 39) = wx at *
  refine (HP.out _ HB.out.qv).mono ?_
  rintro e w1 ⟨rfl, ha⟩
  obtain ⟨S1, hv1, hf1⟩ := HB.out.view ha
  have HV1 := hide (hv1.on (below_alloc1 w1 (Obj.cells #[Value.int .i64 m0, Value.int .i64 m1, Value.int .i64 m2, Value.string m3] 48)))
  have HF1 := hide ((HF0.out.trans hf1).trans (Fr.on (rb := rb) (S := S1) hv1.qr.lo (below_alloc1 w1 (Obj.cells #[Value.int .i64 m0, Value.int .i64 m1, Value.int .i64 m2, Value.string m3] 48))))
  have hz1 : rb < w1.heap.size := hv1.qr.rw.rb_in
  have HN1 : Hid (¬ S1 w1.heap.size) := fun e => by have := hv1.qv.pv.lt e; omega
  replace y5 := cell_on (below_alloc1 w1 (Obj.cells #[Value.int .i64 m0, Value.int .i64 m1, Value.int .i64 m2, Value.string m3] 48)) (hf1.cell y5 HNS.out HNR.out)
  replace y1 := cell_on (below_alloc1 w1 (Obj.cells #[Value.int .i64 m0, Value.int .i64 m1, Value.int .i64 m2, Value.string m3] 48)) (hf1.cell y1 HNS.out HNR.out)
  replace y2 := cell_on (below_alloc1 w1 (Obj.cells #[Value.int .i64 m0, Value.int .i64 m1, Value.int .i64 m2, Value.string m3] 48)) (hf1.cell y2 HNS.out HNR.out)
  have z0 : (w1.alloc (Obj.cells #[Value.int .i64 m0, Value.int .i64 m1, Value.int .i64 m2, Value.string m3] 48)).cell? ⟨w1.heap.size, 0, none⟩ = some (Value.int .i64 m0) := cell_new _ _ _ 0
  have z1 : (w1.alloc (Obj.cells #[Value.int .i64 m0, Value.int .i64 m1, Value.int .i64 m2, Value.string m3] 48)).cell? ⟨w1.heap.size, 1, none⟩ = some (Value.int .i64 m1) := cell_new _ _ _ 1
  have z2 : (w1.alloc (Obj.cells #[Value.int .i64 m0, Value.int .i64 m1, Value.int .i64 m2, Value.string m3] 48)).cell? ⟨w1.heap.size, 2, none⟩ = some (Value.int .i64 m2) := cell_new _ _ _ 2
  have z3 : (w1.alloc (Obj.cells #[Value.int .i64 m0, Value.int .i64 m1, Value.int .i64 m2, Value.string m3] 48)).cell? ⟨w1.heap.size, 3, none⟩ = some (Value.string m3) := cell_new _ _ _ 3
  clear hv1 hf1 ha
  go_wp2_with fail
  generalize w1.alloc (Obj.cells #[Value.int .i64 m0, Value.int .i64 m1, Value.int .i64 m2, Value.string m3] 48) = wy at *
  refine (HR.out _ _ HV1.out.qr).mono ?_
  rintro e w2 ⟨rfl, hr⟩
  obtain ⟨G2, hv2, hf2⟩ := HV1.out.ref hr
  have HV2 := hide (hv2.on (below_alloc1 w2 (Obj.cells #[Value.int .i64 m0, Value.int .i64 m1, Value.int .i64 m2, Value.string m3] 48)))
  have HF2 := hide ((HF1.out.trans hf2).trans (Fr.on (rb := rb) (S := S1) hv2.qr.lo (below_alloc1 w2 (Obj.cells #[Value.int .i64 m0, Value.int .i64 m1, Value.int .i64 m2, Value.string m3] 48))))
  replace z0 := cell_on (below_alloc1 w2 (Obj.cells #[Value.int .i64 m0, Value.int .i64 m1, Value.int .i64 m2, Value.string m3] 48)) (hf2.cell z0 HN1.out (by show w1.heap.size ≠ rb; omega))
  replace z1 := cell_on (below_alloc1 w2 (Obj.cells #[Value.int .i64 m0, Value.int .i64 m1, Value.int .i64 m2, Value.string m3] 48)) (hf2.cell z1 HN1.out (by show w1.heap.size ≠ rb; omega))
  replace z2 := cell_on (below_alloc1 w2 (Obj.cells #[Value.int .i64 m0, Value.int .i64 m1, Value.int .i64 m2, Value.string m3] 48)) (hf2.cell z2 HN1.out (by show w1.heap.size ≠ rb; omega))
  replace z3 := cell_on (below_alloc1 w2 (Obj.cells #[Value.int .i64 m0, Value.int .i64 m1, Value.int .i64 m2, Value.string m3] 48)) (hf2.cell z3 HN1.out (by show w1.heap.size ≠ rb; omega))
  have ebb : (m3.toList == m3.toList) = true := by simp
  clear hv2 hf2 hr
  go_wp2_with (first
    | (go_at_call 14; refine (HSO _).out.mono ?_; rintro e w3 ⟨rfl, rfl⟩))
  go_ret
  exact ⟨rfl, _, _, _, _, HV2.out, HF2.out⟩
set_option maxRecDepth 8000 in
set_option maxHeartbeats 4000000 in
theorem turn_find (x : ActL) {B wb rb : Nat} {S G : Nat → Prop} {P : Rws} {since : Int} {chs : List Chg} {rds : Rws} (w : World) (h : TB w B wb rb S G P since chs rds chs rds) (k0 : (x.kind.toList == [99, 114, 101, 97, 116, 101]) = false) (k1 : (x.kind.toList == [115, 101, 110, 100]) = false) (k2 : (x.kind.toList == [114, 101, 99, 101, 105, 118, 101]) = false) (k3 : (x.kind.toList == [97, 99, 107]) = false) (k4 : (x.kind.toList == [119, 97, 105, 116]) = false) (k5 : (x.kind.toList == [102, 105, 110, 100]) = true) (hl : LightX x) :
    Calls Tryz.prog 9 #[.pointer (some ⟨wb, 0, none⟩), .pointer (some ⟨rb, 0, none⟩), .agg #[Value.string x.kind, Value.int .i64 x.a, Value.int .i64 x.b, Value.int .i64 x.c, Value.int .u64 x.k, Value.string x.s, Value.string x.t, Value.slice x.ca x.chs.length x.cc, Value.slice x.sa x.sps.length x.sc]] w fun e w' => e = .returned (.bool true) ∧ TurnP w w' B wb rb S P since := by
  have hs := hl.1
  have ht := hl.2.1
  have ha0 := hl.2.2.1
  have ha1 := hl.2.2.2
  have y0 : (w.alloc (Obj.cells #[Value.string x.kind, Value.int .i64 x.a, Value.int .i64 x.b, Value.int .i64 x.c, Value.int .u64 x.k, Value.string x.s, Value.string x.t, Value.slice x.ca x.chs.length x.cc, Value.slice x.sa x.sps.length x.sc] 39)).cell? ⟨w.heap.size, 0, none⟩ = some (.string x.kind) := cell_new _ _ _ 0
  have y5 : (w.alloc (Obj.cells #[Value.string x.kind, Value.int .i64 x.a, Value.int .i64 x.b, Value.int .i64 x.c, Value.int .u64 x.k, Value.string x.s, Value.string x.t, Value.slice x.ca x.chs.length x.cc, Value.slice x.sa x.sps.length x.sc] 39)).cell? ⟨w.heap.size, 5, none⟩ = some (.string x.s) := cell_new _ _ _ 5
  have HNS : Hid (¬ S w.heap.size) := fun e => by have := h.qv.pv.lt e; omega
  have HNR : Hid (w.heap.size ≠ rb) := fun e => by have := h.qr.rw.rb_in; omega
  have HF0 : Hid (Fr w (w.alloc (Obj.cells #[Value.string x.kind, Value.int .i64 x.a, Value.int .i64 x.b, Value.int .i64 x.c, Value.int .u64 x.k, Value.string x.s, Value.string x.t, Value.slice x.ca x.chs.length x.cc, Value.slice x.sa x.sps.length x.sc] 39)) B rb S S) := .on h.qr.lo (below_alloc1 _ _)
  have HB := hide (h.on (below_alloc1 w (Obj.cells #[Value.string x.kind, Value.int .i64 x.a, Value.int .i64 x.b, Value.int .i64 x.c, Value.int .u64 x.k, Value.string x.s, Value.string x.t, Value.slice x.ca x.chs.length x.cc, Value.slice x.sa x.sps.length x.sc] 39)))
  have hsz : (w.alloc (Obj.cells #[Value.string x.kind, Value.int .i64 x.a, Value.int .i64 x.b, Value.int .i64 x.c, Value.int .u64 x.k, Value.string x.s, Value.string x.t, Value.slice x.ca x.chs.length x.cc, Value.slice x.sa x.sps.length x.sc] 39)).heap.size = w.heap.size + 1 := by simp
  have HRL := hide h.qr.rl
  clear h
  have HP := hide (fun (W : World) (hW : QV W B wb S P since chs rds) => qfind_any x.s W hW (by omega))
  have HR := hide (fun (G1 : Nat → Prop) (W : World) (hW : QR W B rb G1 P since chs rds) => rfind_any x.s W hW (by omega))
  have HSO := fun W => hide (same_of (findQ P chs rds x.s).2.2.2 _ W (errQ_of _))
  generalize findQ P chs rds x.s = r at *
  obtain ⟨m0, m1, m2, me⟩ := r
  dsimp only at *
  go_enter Tryz.func9, Tryz.ntmps9
  go_wp2_with fail
  generalize w.alloc (Obj.cells #[Value.string x.kind, Value.int .i64 x.a, Value.int .i64 x.b, Value.int .i64 x.c, Value.int .u64 x.k, Value.string x.s, Value.string x.t, Value.slice x.ca x.chs.length x.cc, Value.slice x.sa x.sps.length x.sc] 39) = wx at *
  refine (HP.out _ HB.out.qv).mono ?_
  rintro e w1 ⟨rfl, ha⟩
  obtain ⟨S1, hv1, hf1⟩ := HB.out.view ha
  have HV1 := hide (hv1.on (below_alloc1 w1 (Obj.cells #[Value.int .i64 m0, Value.int .i64 m1, Value.string m2] 76)))
  have HF1 := hide ((HF0.out.trans hf1).trans (Fr.on (rb := rb) (S := S1) hv1.qr.lo (below_alloc1 w1 (Obj.cells #[Value.int .i64 m0, Value.int .i64 m1, Value.string m2] 76))))
  have hz1 : rb < w1.heap.size := hv1.qr.rw.rb_in
  have HN1 : Hid (¬ S1 w1.heap.size) := fun e => by have := hv1.qv.pv.lt e; omega
  replace y5 := cell_on (below_alloc1 w1 (Obj.cells #[Value.int .i64 m0, Value.int .i64 m1, Value.string m2] 76)) (hf1.cell y5 HNS.out HNR.out)
  have z0 : (w1.alloc (Obj.cells #[Value.int .i64 m0, Value.int .i64 m1, Value.string m2] 76)).cell? ⟨w1.heap.size, 0, none⟩ = some (Value.int .i64 m0) := cell_new _ _ _ 0
  have z1 : (w1.alloc (Obj.cells #[Value.int .i64 m0, Value.int .i64 m1, Value.string m2] 76)).cell? ⟨w1.heap.size, 1, none⟩ = some (Value.int .i64 m1) := cell_new _ _ _ 1
  have z2 : (w1.alloc (Obj.cells #[Value.int .i64 m0, Value.int .i64 m1, Value.string m2] 76)).cell? ⟨w1.heap.size, 2, none⟩ = some (Value.string m2) := cell_new _ _ _ 2
  clear hv1 hf1 ha
  go_wp2_with fail
  generalize w1.alloc (Obj.cells #[Value.int .i64 m0, Value.int .i64 m1, Value.string m2] 76) = wy at *
  refine (HR.out _ _ HV1.out.qr).mono ?_
  rintro e w2 ⟨rfl, hr⟩
  obtain ⟨G2, hv2, hf2⟩ := HV1.out.ref hr
  have HV2 := hide (hv2.on (below_alloc1 w2 (Obj.cells #[Value.int .i64 m0, Value.int .i64 m1, Value.string m2] 76)))
  have HF2 := hide ((HF1.out.trans hf2).trans (Fr.on (rb := rb) (S := S1) hv2.qr.lo (below_alloc1 w2 (Obj.cells #[Value.int .i64 m0, Value.int .i64 m1, Value.string m2] 76))))
  replace z0 := cell_on (below_alloc1 w2 (Obj.cells #[Value.int .i64 m0, Value.int .i64 m1, Value.string m2] 76)) (hf2.cell z0 HN1.out (by show w1.heap.size ≠ rb; omega))
  replace z1 := cell_on (below_alloc1 w2 (Obj.cells #[Value.int .i64 m0, Value.int .i64 m1, Value.string m2] 76)) (hf2.cell z1 HN1.out (by show w1.heap.size ≠ rb; omega))
  replace z2 := cell_on (below_alloc1 w2 (Obj.cells #[Value.int .i64 m0, Value.int .i64 m1, Value.string m2] 76)) (hf2.cell z2 HN1.out (by show w1.heap.size ≠ rb; omega))
  have ebb : (m2.toList == m2.toList) = true := by simp
  clear hv2 hf2 hr
  go_wp2_with (first
    | (go_at_call 14; refine (HSO _).out.mono ?_; rintro e w3 ⟨rfl, rfl⟩))
  go_ret
  exact ⟨rfl, _, _, _, _, HV2.out, HF2.out⟩
end Go.Proofs.YtighpalbodhfeaaGreatDoor

/-
  What haywainlaw.Turn returns at scan, and at what is none of its words: true, and both sides are alike again.
-/
namespace Go.Proofs.YtighpalbodhfeaaGreatDoor
open Go.RowKit Go.Joins Go.Shelf
attribute [local go_sem ↓] Go.wp_at_zero Go.wp_at_succ

set_option maxHeartbeats 1000000 in
theorem sameMsgs_nil (ao ao2 : Option Addr) (cap cap2 : Nat) (w : World) :
    Calls Tryz.prog 38 #[.slice ao 0 cap, .slice ao2 0 cap2] w fun e w' => e = .returned (.bool true) ∧ Below w.heap.size w w' := by
  go_enter Tryz.func38, Tryz.ntmps38
  go_wp2
  refine wp_loop_rounds 1 ?_
  rw [rounds_succ]
  go_wp2
  go_ret
  exact ⟨rfl, Below.refl _ _⟩
theorem ownM_slice {w : World} {B : Nat} {v : Value} {l : List Msg} (h : ownM w B v l) : ∃ a n c, v = .slice a n c := by
  rcases h.2 with ⟨e, _⟩ | ⟨g, cap, cur, e, _⟩
  · exact ⟨_, _, _, e⟩
  · exact ⟨_, _, _, e⟩
theorem ownM_kept {w w' : World} {B : Nat} {v : Value} {l : List Msg} (h : ownM w B v l) (hk : ∀ k, v.ownBlock = some k → w'.heap[k]? = w.heap[k]?) : ownM w' B v l := by
  refine ⟨h.1, ?_⟩
  rcases h.2 with e | ⟨g, cap, cur, rfl, hB, hg, h3⟩
  · exact .inl e
  · exact .inr ⟨g, cap, cur, rfl, hB, (hk g rfl).trans hg, h3⟩
theorem sameMsgs_any (l : List Msg) {B1 B2 : Nat} {v1 v2 : Value} (w : World) (h1 : ownM w B1 v1 l) (h2 : ownM w B2 v2 l) (hn : l.length ≤ 1000) :
    Calls Tryz.prog 38 #[v1, v2] w fun e w' => e = .returned (.bool true) ∧ Below w.heap.size w w' := by
  rcases h1.2 with ⟨e, e0⟩ | ⟨g, cap, cur, e, _⟩
  · rcases h2.2 with ⟨f, _⟩ | ⟨g2, cap2, cur2, f, _⟩
    · subst e f; exact sameMsgs_nil _ _ _ _ _
    · subst e f; rw [e0]; exact sameMsgs_nil _ _ _ _ _
  · rcases h2.2 with ⟨f, f0⟩ | ⟨g2, cap2, cur2, f, _⟩
    · subst e f; rw [f0]; exact sameMsgs_nil _ _ _ _ _
    · subst e f; exact sameMsgs_some l w h1 h2 hn
theorem messagesQ_short (P : Rws) (chs : List Chg) (rds : Rws) (name : ByteArray) (h : OkV P chs rds) : (messagesQ P chs rds name).2.1.length ≤ 1000 := by
  unfold messagesQ
  split
  · split
    · split
      · show (msgsL _).length ≤ 1000
        have h1 := (seenP_small h (fromB name, toB name)).1
        rw [show ∀ l : Rws, (msgsL l).length = l.length from fun l => by unfold msgsL; rw [List.length_map]]
        have h2 := List.length_take_le 53 (seenP P chs (fromB name, toB name))
        omega
      · exact Nat.zero_le _
    · exact Nat.zero_le _
  · exact Nat.zero_le _
set_option maxRecDepth 8000 in
set_option maxHeartbeats 4000000 in
theorem turn_scan_none (x : ActL) {B wb rb : Nat} {S G : Nat → Prop} {P : Rws} {since : Int} {chs : List Chg} {rds : Rws} (w : World) (h : TB w B wb rb S G P since chs rds chs rds) (k0 : (x.kind.toList == [99, 114, 101, 97, 116, 101]) = false) (k1 : (x.kind.toList == [115, 101, 110, 100]) = false) (k2 : (x.kind.toList == [114, 101, 99, 101, 105, 118, 101]) = false) (k3 : (x.kind.toList == [97, 99, 107]) = false) (k4 : (x.kind.toList == [119, 97, 105, 116]) = false) (k5 : (x.kind.toList == [102, 105, 110, 100]) = false) (k6 : (x.kind.toList == [112, 117, 116]) = false) (k7 : (x.kind.toList == [100, 101, 108, 101, 116, 101]) = false) (k8 : (x.kind.toList == [103, 101, 116]) = false) (k9 : (x.kind.toList == [115, 99, 97, 110]) = true) (hl : LightX x) (hn : ¬ 0 < x.sps.length) :
    Calls Tryz.prog 9 #[.pointer (some ⟨wb, 0, none⟩), .pointer (some ⟨rb, 0, none⟩), .agg #[Value.string x.kind, Value.int .i64 x.a, Value.int .i64 x.b, Value.int .i64 x.c, Value.int .u64 x.k, Value.string x.s, Value.string x.t, Value.slice x.ca x.chs.length x.cc, Value.slice x.sa x.sps.length x.sc]] w fun e w' => e = .returned (.bool true) ∧ TurnP w w' B wb rb S P since := by
  have hs := hl.1
  have ht := hl.2.1
  have ha0 := hl.2.2.1
  have ha1 := hl.2.2.2
  have y0 : (w.alloc (Obj.cells #[Value.string x.kind, Value.int .i64 x.a, Value.int .i64 x.b, Value.int .i64 x.c, Value.int .u64 x.k, Value.string x.s, Value.string x.t, Value.slice x.ca x.chs.length x.cc, Value.slice x.sa x.sps.length x.sc] 39)).cell? ⟨w.heap.size, 0, none⟩ = some (.string x.kind) := cell_new _ _ _ 0
  have y1 : (w.alloc (Obj.cells #[Value.string x.kind, Value.int .i64 x.a, Value.int .i64 x.b, Value.int .i64 x.c, Value.int .u64 x.k, Value.string x.s, Value.string x.t, Value.slice x.ca x.chs.length x.cc, Value.slice x.sa x.sps.length x.sc] 39)).cell? ⟨w.heap.size, 1, none⟩ = some (.int .i64 x.a) := cell_new _ _ _ 1
  have y8 : (w.alloc (Obj.cells #[Value.string x.kind, Value.int .i64 x.a, Value.int .i64 x.b, Value.int .i64 x.c, Value.int .u64 x.k, Value.string x.s, Value.string x.t, Value.slice x.ca x.chs.length x.cc, Value.slice x.sa x.sps.length x.sc] 39)).cell? ⟨w.heap.size, 8, none⟩ = some (.slice x.sa x.sps.length x.sc) := cell_new _ _ _ 8
  have HNS : Hid (¬ S w.heap.size) := fun e => by have := h.qv.pv.lt e; omega
  have HNR : Hid (w.heap.size ≠ rb) := fun e => by have := h.qr.rw.rb_in; omega
  have HF0 : Hid (Fr w (w.alloc (Obj.cells #[Value.string x.kind, Value.int .i64 x.a, Value.int .i64 x.b, Value.int .i64 x.c, Value.int .u64 x.k, Value.string x.s, Value.string x.t, Value.slice x.ca x.chs.length x.cc, Value.slice x.sa x.sps.length x.sc] 39)) B rb S S) := .on h.qr.lo (below_alloc1 _ _)
  have HB := hide (h.on (below_alloc1 w (Obj.cells #[Value.string x.kind, Value.int .i64 x.a, Value.int .i64 x.b, Value.int .i64 x.c, Value.int .u64 x.k, Value.string x.s, Value.string x.t, Value.slice x.ca x.chs.length x.cc, Value.slice x.sa x.sps.length x.sc] 39)))
  have hsz : (w.alloc (Obj.cells #[Value.string x.kind, Value.int .i64 x.a, Value.int .i64 x.b, Value.int .i64 x.c, Value.int .u64 x.k, Value.string x.s, Value.string x.t, Value.slice x.ca x.chs.length x.cc, Value.slice x.sa x.sps.length x.sc] 39)).heap.size = w.heap.size + 1 := by simp
  have HRL := hide h.qr.rl
  clear h
  have hsl' : ¬ (0 : Int) < (x.sps.length : Int) := by omega
  clear hn
  go_enter Tryz.func9, Tryz.ntmps9
  go_wp2_with fail
  have z0 : ((w.alloc (Obj.cells #[Value.string x.kind, Value.int .i64 x.a, Value.int .i64 x.b, Value.int .i64 x.c, Value.int .u64 x.k, Value.string x.s, Value.string x.t, Value.slice x.ca x.chs.length x.cc, Value.slice x.sa x.sps.length x.sc] 39)).alloc (Obj.cells #[Value.string ⟨#[]⟩, Value.string ⟨#[]⟩] 91)).cell? ⟨w.heap.size + 1, 0, none⟩ = some (.string ⟨#[]⟩) := by rw [← hsz]; exact cell_new _ _ _ 0
  have z1 : ((w.alloc (Obj.cells #[Value.string x.kind, Value.int .i64 x.a, Value.int .i64 x.b, Value.int .i64 x.c, Value.int .u64 x.k, Value.string x.s, Value.string x.t, Value.slice x.ca x.chs.length x.cc, Value.slice x.sa x.sps.length x.sc] 39)).alloc (Obj.cells #[Value.string ⟨#[]⟩, Value.string ⟨#[]⟩] 91)).cell? ⟨w.heap.size + 1, 1, none⟩ = some (.string ⟨#[]⟩) := by rw [← hsz]; exact cell_new _ _ _ 1
  have hbS := below_alloc1 (w.alloc (Obj.cells #[Value.string x.kind, Value.int .i64 x.a, Value.int .i64 x.b, Value.int .i64 x.c, Value.int .u64 x.k, Value.string x.s, Value.string x.t, Value.slice x.ca x.chs.length x.cc, Value.slice x.sa x.sps.length x.sc] 39)) (Obj.cells #[Value.string ⟨#[]⟩, Value.string ⟨#[]⟩] 91)
  have HNB : Hid (¬ S (w.heap.size + 1)) := fun e => by have := HB.out.qv.pv.lt e; omega
  have HNBR : Hid (w.heap.size + 1 ≠ rb) := fun e => by have := HB.out.qr.rw.rb_in; omega
  replace HF0 := hide (HF0.out.trans (Fr.on (rb := rb) (S := S) HB.out.qr.lo hbS))
  replace HB := hide (HB.out.on hbS)
  replace y1 := cell_on hbS y1
  clear hbS hsz y0 y8
  generalize (w.alloc (Obj.cells #[Value.string x.kind, Value.int .i64 x.a, Value.int .i64 x.b, Value.int .i64 x.c, Value.int .u64 x.k, Value.string x.s, Value.string x.t, Value.slice x.ca x.chs.length x.cc, Value.slice x.sa x.sps.length x.sc] 39)).alloc (Obj.cells #[Value.string ⟨#[]⟩, Value.string ⟨#[]⟩] 91) = wx at *
  refine (pv_scan (⟨#[]⟩, ⟨#[]⟩) x.a _ HB.out.qv.pv ha1).mono ?_
  rintro e w1 ⟨hok, hbad⟩
  have hrbx := HB.out.qr.rw.rb_in
  by_cases hf : scanF (seenP P chs (⟨#[]⟩, ⟨#[]⟩)) rds (⟨#[]⟩, ⟨#[]⟩) x.a = 0
  · obtain ⟨ao, cap, rfl, _, hh1, S9, hp1, hs1, hnew⟩ := hok hf
    obtain ⟨hv1, hf1⟩ := HB.out.viewP hp1 HB.out.qv.ok hs1
    have HOV := hide hp1.ok
    have HV1 := hide hv1
    have HF1 := hide (HF0.out.trans hf1)
    have HH1 := hide hh1
    have HNW := hide hnew
    have HSF := hide hf
    have HNT := hide (rvscan_any (⟨#[]⟩, ⟨#[]⟩) x.a _ hv1.qr.rw hv1.qr.lo hv1.qr.rl HB.out.qv.pv.ok ha1)
    replace z0 := hf1.cell z0 HNB.out HNBR.out
    replace z1 := hf1.cell z1 HNB.out HNBR.out
    replace y1 := hf1.cell y1 HNS.out HNR.out
    have HTL : Hid (((seenP P chs (⟨#[]⟩, ⟨#[]⟩)).take x.a.toNat).length ≤ 9223372036854775807) := hide (by have h1 := List.length_take_le x.a.toNat (seenP P chs (⟨#[]⟩, ⟨#[]⟩)); have h2 := (seenP_small HB.out.qv.pv.ok (⟨#[]⟩, ⟨#[]⟩)).1; generalize (seenP P chs (⟨#[]⟩, ⟨#[]⟩)).take x.a.toNat = q at h1 ⊢; omega)
    have HQ := hide HB.out.qv.ok
    clear hok hbad hv1 hf1 hp1 hs1 hnew hh1 hf
    generalize hTT : (seenP P chs (⟨#[]⟩, ⟨#[]⟩)).take x.a.toNat = T at *
    have HTT := hide hTT
    clear hTT
    go_wp2_with (first
      | (go_at_call 34; refine HNT.out.mono ?_; rintro e w2 ⟨hok2, _⟩; obtain ⟨ao2, cap2, rfl, hh2, G9, hr2, hs2, _⟩ := hok2 HSF.out; obtain ⟨hv2, hf2⟩ := HV1.out.refP hr2 HOV.out HQ.out hs2; have HV2 := hide hv2; have HF2 := hide (HF1.out.trans hf2); rw [HTT.out] at hh2 ⊢; have HH2 := hide hh2; have HH3 : Hid (heldSp w2 ao T) := heldSp_kept HH1.out (fun _ k e => by obtain ⟨off, rfl⟩ := e; obtain ⟨q1, q2, _⟩ := HNW.out k off rfl; exact hs2.far k q2 (by omega)); clear hok2 hv2 hf2 hr2 hs2 hh2)
      | (go_at_call 14; refine (same_nil 0 _).mono ?_; rintro e w3 ⟨rfl, rfl⟩)
      | (go_at_call 35; refine (sameRows_held T ao ao2 cap cap2 _ HH3.out HH2.out HTL.out).mono ?_; rintro e w4 ⟨rfl, hb4⟩; replace HF2 := hide (HF2.out.trans (Fr.on (rb := rb) HV2.out.qr.lo hb4)); replace HV2 := hide (HV2.out.on hb4); clear hb4))
    go_ret
    exact ⟨rfl, _, _, _, _, HV2.out, HF2.out⟩
  · obtain ⟨rfl, S9, hp1, hs1⟩ := hbad hf
    obtain ⟨hv1, hf1⟩ := HB.out.viewP hp1 HB.out.qv.ok hs1
    have HOV := hide hp1.ok
    have HV1 := hide hv1
    have HF1 := hide (HF0.out.trans hf1)
    have HSF := hide hf
    have HNT := hide (rvscan_any (⟨#[]⟩, ⟨#[]⟩) x.a _ hv1.qr.rw hv1.qr.lo hv1.qr.rl HB.out.qv.pv.ok ha1)
    replace z0 := hf1.cell z0 HNB.out HNBR.out
    replace z1 := hf1.cell z1 HNB.out HNBR.out
    replace y1 := hf1.cell y1 HNS.out HNR.out
    have HSO := fun W => hide (same_of (scanF (seenP P chs (⟨#[]⟩, ⟨#[]⟩)) rds (⟨#[]⟩, ⟨#[]⟩) x.a) _ W (errQ_of _))
    have HQ := hide HB.out.qv.ok
    clear hok hbad hv1 hf1 hp1 hs1 hf
    go_wp2_with (first
      | (go_at_call 34; refine HNT.out.mono ?_; rintro e w2 ⟨_, hbad2⟩; obtain ⟨rfl, G9, hr2, hs2⟩ := hbad2 HSF.out; obtain ⟨hv2, hf2⟩ := HV1.out.refP hr2 HOV.out HQ.out hs2; have HV2 := hide hv2; have HF2 := hide (HF1.out.trans hf2); clear hbad2 hv2 hf2 hr2 hs2)
      | (go_at_call 14; refine (HSO _).out.mono ?_; rintro e w3 ⟨rfl, rfl⟩)
      | (go_at_call 35; refine (sameRows_nil _ _ _ _ _).mono ?_; rintro e w4 ⟨rfl, hb4⟩; replace HF2 := hide (HF2.out.trans (Fr.on (rb := rb) HV2.out.qr.lo hb4)); replace HV2 := hide (HV2.out.on hb4); clear hb4))
    go_ret
    exact ⟨rfl, _, _, _, _, HV2.out, HF2.out⟩
set_option maxRecDepth 8000 in
set_option maxHeartbeats 4000000 in
theorem turn_scan_some (x : ActL) {B wb rb : Nat} {S G : Nat → Prop} {P : Rws} {since : Int} {chs : List Chg} {rds : Rws} (w : World) (h : TB w B wb rb S G P since chs rds chs rds) (k0 : (x.kind.toList == [99, 114, 101, 97, 116, 101]) = false) (k1 : (x.kind.toList == [115, 101, 110, 100]) = false) (k2 : (x.kind.toList == [114, 101, 99, 101, 105, 118, 101]) = false) (k3 : (x.kind.toList == [97, 99, 107]) = false) (k4 : (x.kind.toList == [119, 97, 105, 116]) = false) (k5 : (x.kind.toList == [102, 105, 110, 100]) = false) (k6 : (x.kind.toList == [112, 117, 116]) = false) (k7 : (x.kind.toList == [100, 101, 108, 101, 116, 101]) = false) (k8 : (x.kind.toList == [103, 101, 116]) = false) (k9 : (x.kind.toList == [115, 99, 97, 110]) = true) (hl : LightX x) (sp : ByteArray × ByteArray) (b off : Nat) (hsa : x.sa = some ⟨b, off, none⟩) (hn : 0 < x.sps.length) (s0 : w.cell? ⟨b, off, none⟩ = some (.string sp.1)) (s1 : w.cell? ⟨b, off + 1, none⟩ = some (.string sp.2)) :
    Calls Tryz.prog 9 #[.pointer (some ⟨wb, 0, none⟩), .pointer (some ⟨rb, 0, none⟩), .agg #[Value.string x.kind, Value.int .i64 x.a, Value.int .i64 x.b, Value.int .i64 x.c, Value.int .u64 x.k, Value.string x.s, Value.string x.t, Value.slice x.ca x.chs.length x.cc, Value.slice x.sa x.sps.length x.sc]] w fun e w' => e = .returned (.bool true) ∧ TurnP w w' B wb rb S P since := by
  have hs := hl.1
  have ht := hl.2.1
  have ha0 := hl.2.2.1
  have ha1 := hl.2.2.2
  have y0 : (w.alloc (Obj.cells #[Value.string x.kind, Value.int .i64 x.a, Value.int .i64 x.b, Value.int .i64 x.c, Value.int .u64 x.k, Value.string x.s, Value.string x.t, Value.slice x.ca x.chs.length x.cc, Value.slice x.sa x.sps.length x.sc] 39)).cell? ⟨w.heap.size, 0, none⟩ = some (.string x.kind) := cell_new _ _ _ 0
  have y1 : (w.alloc (Obj.cells #[Value.string x.kind, Value.int .i64 x.a, Value.int .i64 x.b, Value.int .i64 x.c, Value.int .u64 x.k, Value.string x.s, Value.string x.t, Value.slice x.ca x.chs.length x.cc, Value.slice x.sa x.sps.length x.sc] 39)).cell? ⟨w.heap.size, 1, none⟩ = some (.int .i64 x.a) := cell_new _ _ _ 1
  have y8 : (w.alloc (Obj.cells #[Value.string x.kind, Value.int .i64 x.a, Value.int .i64 x.b, Value.int .i64 x.c, Value.int .u64 x.k, Value.string x.s, Value.string x.t, Value.slice x.ca x.chs.length x.cc, Value.slice x.sa x.sps.length x.sc] 39)).cell? ⟨w.heap.size, 8, none⟩ = some (.slice x.sa x.sps.length x.sc) := cell_new _ _ _ 8
  have HNS : Hid (¬ S w.heap.size) := fun e => by have := h.qv.pv.lt e; omega
  have HNR : Hid (w.heap.size ≠ rb) := fun e => by have := h.qr.rw.rb_in; omega
  have HF0 : Hid (Fr w (w.alloc (Obj.cells #[Value.string x.kind, Value.int .i64 x.a, Value.int .i64 x.b, Value.int .i64 x.c, Value.int .u64 x.k, Value.string x.s, Value.string x.t, Value.slice x.ca x.chs.length x.cc, Value.slice x.sa x.sps.length x.sc] 39)) B rb S S) := .on h.qr.lo (below_alloc1 _ _)
  have HB := hide (h.on (below_alloc1 w (Obj.cells #[Value.string x.kind, Value.int .i64 x.a, Value.int .i64 x.b, Value.int .i64 x.c, Value.int .u64 x.k, Value.string x.s, Value.string x.t, Value.slice x.ca x.chs.length x.cc, Value.slice x.sa x.sps.length x.sc] 39)))
  have hsz : (w.alloc (Obj.cells #[Value.string x.kind, Value.int .i64 x.a, Value.int .i64 x.b, Value.int .i64 x.c, Value.int .u64 x.k, Value.string x.s, Value.string x.t, Value.slice x.ca x.chs.length x.cc, Value.slice x.sa x.sps.length x.sc] 39)).heap.size = w.heap.size + 1 := by simp
  have HRL := hide h.qr.rl
  clear h
  have hsl' : (0 : Int) < (x.sps.length : Int) := by omega
  have s0' := cell_on (below_alloc1 (w.alloc (Obj.cells #[Value.string x.kind, Value.int .i64 x.a, Value.int .i64 x.b, Value.int .i64 x.c, Value.int .u64 x.k, Value.string x.s, Value.string x.t, Value.slice x.ca x.chs.length x.cc, Value.slice x.sa x.sps.length x.sc] 39)) (Obj.cells #[Value.string ⟨#[]⟩, Value.string ⟨#[]⟩] 91)) (cell_on (below_alloc1 w (Obj.cells #[Value.string x.kind, Value.int .i64 x.a, Value.int .i64 x.b, Value.int .i64 x.c, Value.int .u64 x.k, Value.string x.s, Value.string x.t, Value.slice x.ca x.chs.length x.cc, Value.slice x.sa x.sps.length x.sc] 39)) s0)
  have s1' := cell_on (below_alloc1 (w.alloc (Obj.cells #[Value.string x.kind, Value.int .i64 x.a, Value.int .i64 x.b, Value.int .i64 x.c, Value.int .u64 x.k, Value.string x.s, Value.string x.t, Value.slice x.ca x.chs.length x.cc, Value.slice x.sa x.sps.length x.sc] 39)) (Obj.cells #[Value.string ⟨#[]⟩, Value.string ⟨#[]⟩] 91)) (cell_on (below_alloc1 w (Obj.cells #[Value.string x.kind, Value.int .i64 x.a, Value.int .i64 x.b, Value.int .i64 x.c, Value.int .u64 x.k, Value.string x.s, Value.string x.t, Value.slice x.ca x.chs.length x.cc, Value.slice x.sa x.sps.length x.sc] 39)) s1)
  clear s0 s1
  rw [hsa] at HB HF0 hsz y0 y1 y8 s0' s1' ⊢
  clear hsa
  go_enter Tryz.func9, Tryz.ntmps9
  go_wp2_with fail
  have z0 : ((w.alloc (Obj.cells #[Value.string x.kind, Value.int .i64 x.a, Value.int .i64 x.b, Value.int .i64 x.c, Value.int .u64 x.k, Value.string x.s, Value.string x.t, Value.slice x.ca x.chs.length x.cc, Value.slice (some ⟨b, off, none⟩) x.sps.length x.sc] 39)).alloc (Obj.cells #[Value.string sp.1, Value.string sp.2] 91)).cell? ⟨w.heap.size + 1, 0, none⟩ = some (.string sp.1) := by rw [← hsz]; exact cell_new _ _ _ 0
  have z1 : ((w.alloc (Obj.cells #[Value.string x.kind, Value.int .i64 x.a, Value.int .i64 x.b, Value.int .i64 x.c, Value.int .u64 x.k, Value.string x.s, Value.string x.t, Value.slice x.ca x.chs.length x.cc, Value.slice (some ⟨b, off, none⟩) x.sps.length x.sc] 39)).alloc (Obj.cells #[Value.string sp.1, Value.string sp.2] 91)).cell? ⟨w.heap.size + 1, 1, none⟩ = some (.string sp.2) := by rw [← hsz]; exact cell_new _ _ _ 1
  have hbS := below_alloc1 (w.alloc (Obj.cells #[Value.string x.kind, Value.int .i64 x.a, Value.int .i64 x.b, Value.int .i64 x.c, Value.int .u64 x.k, Value.string x.s, Value.string x.t, Value.slice x.ca x.chs.length x.cc, Value.slice (some ⟨b, off, none⟩) x.sps.length x.sc] 39)) (Obj.cells #[Value.string sp.1, Value.string sp.2] 91)
  have HNB : Hid (¬ S (w.heap.size + 1)) := fun e => by have := HB.out.qv.pv.lt e; omega
  have HNBR : Hid (w.heap.size + 1 ≠ rb) := fun e => by have := HB.out.qr.rw.rb_in; omega
  replace HF0 := hide (HF0.out.trans (Fr.on (rb := rb) (S := S) HB.out.qr.lo hbS))
  replace HB := hide (HB.out.on hbS)
  replace y1 := cell_on hbS y1
  clear hbS hsz y0 y8
  generalize (w.alloc (Obj.cells #[Value.string x.kind, Value.int .i64 x.a, Value.int .i64 x.b, Value.int .i64 x.c, Value.int .u64 x.k, Value.string x.s, Value.string x.t, Value.slice x.ca x.chs.length x.cc, Value.slice (some ⟨b, off, none⟩) x.sps.length x.sc] 39)).alloc (Obj.cells #[Value.string sp.1, Value.string sp.2] 91) = wx at *
  refine (pv_scan sp x.a _ HB.out.qv.pv ha1).mono ?_
  rintro e w1 ⟨hok, hbad⟩
  have hrbx := HB.out.qr.rw.rb_in
  by_cases hf : scanF (seenP P chs sp) rds sp x.a = 0
  · obtain ⟨ao, cap, rfl, _, hh1, S9, hp1, hs1, hnew⟩ := hok hf
    obtain ⟨hv1, hf1⟩ := HB.out.viewP hp1 HB.out.qv.ok hs1
    have HOV := hide hp1.ok
    have HV1 := hide hv1
    have HF1 := hide (HF0.out.trans hf1)
    have HH1 := hide hh1
    have HNW := hide hnew
    have HSF := hide hf
    have HNT := hide (rvscan_any sp x.a _ hv1.qr.rw hv1.qr.lo hv1.qr.rl HB.out.qv.pv.ok ha1)
    replace z0 := hf1.cell z0 HNB.out HNBR.out
    replace z1 := hf1.cell z1 HNB.out HNBR.out
    replace y1 := hf1.cell y1 HNS.out HNR.out
    have HTL : Hid (((seenP P chs sp).take x.a.toNat).length ≤ 9223372036854775807) := hide (by have h1 := List.length_take_le x.a.toNat (seenP P chs sp); have h2 := (seenP_small HB.out.qv.pv.ok sp).1; generalize (seenP P chs sp).take x.a.toNat = q at h1 ⊢; omega)
    have HQ := hide HB.out.qv.ok
    clear hok hbad hv1 hf1 hp1 hs1 hnew hh1 hf
    generalize hTT : (seenP P chs sp).take x.a.toNat = T at *
    have HTT := hide hTT
    clear hTT
    go_wp2_with (first
      | (go_at_call 34; refine HNT.out.mono ?_; rintro e w2 ⟨hok2, _⟩; obtain ⟨ao2, cap2, rfl, hh2, G9, hr2, hs2, _⟩ := hok2 HSF.out; obtain ⟨hv2, hf2⟩ := HV1.out.refP hr2 HOV.out HQ.out hs2; have HV2 := hide hv2; have HF2 := hide (HF1.out.trans hf2); rw [HTT.out] at hh2 ⊢; have HH2 := hide hh2; have HH3 : Hid (heldSp w2 ao T) := heldSp_kept HH1.out (fun _ k e => by obtain ⟨off, rfl⟩ := e; obtain ⟨q1, q2, _⟩ := HNW.out k off rfl; exact hs2.far k q2 (by omega)); clear hok2 hv2 hf2 hr2 hs2 hh2)
      | (go_at_call 14; refine (same_nil 0 _).mono ?_; rintro e w3 ⟨rfl, rfl⟩)
      | (go_at_call 35; refine (sameRows_held T ao ao2 cap cap2 _ HH3.out HH2.out HTL.out).mono ?_; rintro e w4 ⟨rfl, hb4⟩; replace HF2 := hide (HF2.out.trans (Fr.on (rb := rb) HV2.out.qr.lo hb4)); replace HV2 := hide (HV2.out.on hb4); clear hb4))
    go_ret
    exact ⟨rfl, _, _, _, _, HV2.out, HF2.out⟩
  · obtain ⟨rfl, S9, hp1, hs1⟩ := hbad hf
    obtain ⟨hv1, hf1⟩ := HB.out.viewP hp1 HB.out.qv.ok hs1
    have HOV := hide hp1.ok
    have HV1 := hide hv1
    have HF1 := hide (HF0.out.trans hf1)
    have HSF := hide hf
    have HNT := hide (rvscan_any sp x.a _ hv1.qr.rw hv1.qr.lo hv1.qr.rl HB.out.qv.pv.ok ha1)
    replace z0 := hf1.cell z0 HNB.out HNBR.out
    replace z1 := hf1.cell z1 HNB.out HNBR.out
    replace y1 := hf1.cell y1 HNS.out HNR.out
    have HSO := fun W => hide (same_of (scanF (seenP P chs sp) rds sp x.a) _ W (errQ_of _))
    have HQ := hide HB.out.qv.ok
    clear hok hbad hv1 hf1 hp1 hs1 hf
    go_wp2_with (first
      | (go_at_call 34; refine HNT.out.mono ?_; rintro e w2 ⟨_, hbad2⟩; obtain ⟨rfl, G9, hr2, hs2⟩ := hbad2 HSF.out; obtain ⟨hv2, hf2⟩ := HV1.out.refP hr2 HOV.out HQ.out hs2; have HV2 := hide hv2; have HF2 := hide (HF1.out.trans hf2); clear hbad2 hv2 hf2 hr2 hs2)
      | (go_at_call 14; refine (HSO _).out.mono ?_; rintro e w3 ⟨rfl, rfl⟩)
      | (go_at_call 35; refine (sameRows_nil _ _ _ _ _).mono ?_; rintro e w4 ⟨rfl, hb4⟩; replace HF2 := hide (HF2.out.trans (Fr.on (rb := rb) HV2.out.qr.lo hb4)); replace HV2 := hide (HV2.out.on hb4); clear hb4))
    go_ret
    exact ⟨rfl, _, _, _, _, HV2.out, HF2.out⟩
set_option maxRecDepth 8000 in
set_option maxHeartbeats 4000000 in
theorem turn_messages (x : ActL) {B wb rb : Nat} {S G : Nat → Prop} {P : Rws} {since : Int} {chs : List Chg} {rds : Rws} (w : World) (h : TB w B wb rb S G P since chs rds chs rds) (k0 : (x.kind.toList == [99, 114, 101, 97, 116, 101]) = false) (k1 : (x.kind.toList == [115, 101, 110, 100]) = false) (k2 : (x.kind.toList == [114, 101, 99, 101, 105, 118, 101]) = false) (k3 : (x.kind.toList == [97, 99, 107]) = false) (k4 : (x.kind.toList == [119, 97, 105, 116]) = false) (k5 : (x.kind.toList == [102, 105, 110, 100]) = false) (k6 : (x.kind.toList == [112, 117, 116]) = false) (k7 : (x.kind.toList == [100, 101, 108, 101, 116, 101]) = false) (k8 : (x.kind.toList == [103, 101, 116]) = false) (k9 : (x.kind.toList == [115, 99, 97, 110]) = false) (hl : LightX x) :
    Calls Tryz.prog 9 #[.pointer (some ⟨wb, 0, none⟩), .pointer (some ⟨rb, 0, none⟩), .agg #[Value.string x.kind, Value.int .i64 x.a, Value.int .i64 x.b, Value.int .i64 x.c, Value.int .u64 x.k, Value.string x.s, Value.string x.t, Value.slice x.ca x.chs.length x.cc, Value.slice x.sa x.sps.length x.sc]] w fun e w' => e = .returned (.bool true) ∧ TurnP w w' B wb rb S P since := by
  have hs := hl.1
  have ht := hl.2.1
  have ha0 := hl.2.2.1
  have ha1 := hl.2.2.2
  have y0 : (w.alloc (Obj.cells #[Value.string x.kind, Value.int .i64 x.a, Value.int .i64 x.b, Value.int .i64 x.c, Value.int .u64 x.k, Value.string x.s, Value.string x.t, Value.slice x.ca x.chs.length x.cc, Value.slice x.sa x.sps.length x.sc] 39)).cell? ⟨w.heap.size, 0, none⟩ = some (.string x.kind) := cell_new _ _ _ 0
  have y5 : (w.alloc (Obj.cells #[Value.string x.kind, Value.int .i64 x.a, Value.int .i64 x.b, Value.int .i64 x.c, Value.int .u64 x.k, Value.string x.s, Value.string x.t, Value.slice x.ca x.chs.length x.cc, Value.slice x.sa x.sps.length x.sc] 39)).cell? ⟨w.heap.size, 5, none⟩ = some (.string x.s) := cell_new _ _ _ 5
  have HNS : Hid (¬ S w.heap.size) := fun e => by have := h.qv.pv.lt e; omega
  have HNR : Hid (w.heap.size ≠ rb) := fun e => by have := h.qr.rw.rb_in; omega
  have HF0 : Hid (Fr w (w.alloc (Obj.cells #[Value.string x.kind, Value.int .i64 x.a, Value.int .i64 x.b, Value.int .i64 x.c, Value.int .u64 x.k, Value.string x.s, Value.string x.t, Value.slice x.ca x.chs.length x.cc, Value.slice x.sa x.sps.length x.sc] 39)) B rb S S) := .on h.qr.lo (below_alloc1 _ _)
  have HB := hide (h.on (below_alloc1 w (Obj.cells #[Value.string x.kind, Value.int .i64 x.a, Value.int .i64 x.b, Value.int .i64 x.c, Value.int .u64 x.k, Value.string x.s, Value.string x.t, Value.slice x.ca x.chs.length x.cc, Value.slice x.sa x.sps.length x.sc] 39)))
  have hsz : (w.alloc (Obj.cells #[Value.string x.kind, Value.int .i64 x.a, Value.int .i64 x.b, Value.int .i64 x.c, Value.int .u64 x.k, Value.string x.s, Value.string x.t, Value.slice x.ca x.chs.length x.cc, Value.slice x.sa x.sps.length x.sc] 39)).heap.size = w.heap.size + 1 := by simp
  have HRL := hide h.qr.rl
  clear h
  have HP := hide (qmessages_any x.s _ HB.out.qv (by omega))
  have HR := hide (fun (G1 : Nat → Prop) (W : World) (hW : QR W B rb G1 P since chs rds) => rmessages_any x.s W hW (by omega))
  have HML := hide (messagesQ_short P chs rds x.s HB.out.qv.pv.ok)
  generalize messagesQ P chs rds x.s = r at *
  obtain ⟨f, l, rds9⟩ := r
  go_enter Tryz.func9, Tryz.ntmps9
  go_wp2_with fail
  generalize w.alloc (Obj.cells #[Value.string x.kind, Value.int .i64 x.a, Value.int .i64 x.b, Value.int .i64 x.c, Value.int .u64 x.k, Value.string x.s, Value.string x.t, Value.slice x.ca x.chs.length x.cc, Value.slice x.sa x.sps.length x.sc] 39) = wx at *
  by_cases hf : f = 0
  · subst hf
    refine HP.out.mono ?_
    rintro e w1 ⟨hok, _⟩
    obtain ⟨v1, rfl, S1, ho1, hq1, hs1, hn1⟩ := hok rfl
    obtain ⟨hv1, hf1⟩ := HB.out.view' hq1 hs1
    have HV1 := hide hv1
    have HF1 := hide (HF0.out.trans hf1)
    have HO1 := hide ho1
    have HN1 := hide hn1
    replace y5 := hf1.cell y5 HNS.out HNR.out
    obtain ⟨a1, n1, c1, hv⟩ := ownM_slice ho1
    subst hv
    have hrb1 := hv1.qr.rw.rb_in
    have hrbx := HB.out.qr.rw.rb_in
    clear hok hv1 hf1 ho1 hq1 hs1 hn1 HP
    go_wp2_with fail
    refine (HR.out _ _ HV1.out.qr).mono ?_
    rintro e w2 ⟨hok2, _⟩
    obtain ⟨v2, rfl, G2, ho2, hq2, hs2⟩ := hok2 rfl
    obtain ⟨hv2, hf2⟩ := HV1.out.ref' hq2 hs2
    have HV2 := hide hv2
    have HF2 := hide (HF1.out.trans hf2)
    have HO3 : Hid (ownM w2 wx.heap.size (.slice a1 n1 c1) l) := ownM_kept HO1.out fun k e => hs2.far k (World.ownsRow.lt HO1.out k e).2 (by have := (World.ownsRow.lt HO1.out k e).1; omega)
    have HO2 := hide ho2
    obtain ⟨a2, n2, c2, hv⟩ := ownM_slice ho2
    subst hv
    clear hok2 hv2 hf2 ho2 hq2 hs2
    go_wp2_with (first
      | (go_at_call 38; refine (sameMsgs_any l _ HO3.out HO2.out (HML.out)).mono ?_; rintro e w4 ⟨rfl, hb4⟩; replace HF2 := hide (HF2.out.trans (Fr.on (rb := rb) HV2.out.qr.lo hb4)); replace HV2 := hide (HV2.out.on hb4); clear hb4)
      | (go_at_call 14; refine (same_nil 0 _).mono ?_; rintro e w3 ⟨rfl, rfl⟩))
    go_ret
    exact ⟨rfl, _, _, _, _, HV2.out, HF2.out⟩
  · have HSO := fun W => hide (same_of f _ W (errQ_of _))
    refine HP.out.mono ?_
    rintro e w1 ⟨_, hbad⟩
    obtain ⟨rfl, ha⟩ := hbad hf
    obtain ⟨S1, hv1, hf1⟩ := HB.out.view ha
    have HV1 := hide hv1
    have HF1 := hide (HF0.out.trans hf1)
    replace y5 := hf1.cell y5 HNS.out HNR.out
    have HNF := hide hf
    clear hbad hv1 hf1 ha HP hf
    go_wp2_with (first
      | (go_at_call 37; refine (HR.out _ _ HV1.out.qr).mono ?_; rintro e w2 ⟨_, hbad2⟩; obtain ⟨rfl, hr⟩ := hbad2 HNF.out; obtain ⟨G2, hv2, hf2⟩ := HV1.out.ref hr; have HV2 := hide hv2; have HF2 := hide (HF1.out.trans hf2); clear hbad2 hv2 hf2 hr)
      | (go_at_call 38; refine (sameMsgs_nil _ _ _ _ _).mono ?_; rintro e w4 ⟨rfl, hb4⟩; replace HF2 := hide (HF2.out.trans (Fr.on (rb := rb) HV2.out.qr.lo hb4)); replace HV2 := hide (HV2.out.on hb4); clear hb4)
      | (go_at_call 14; refine (HSO _).out.mono ?_; rintro e w3 ⟨rfl, rfl⟩))
    go_ret
    exact ⟨rfl, _, _, _, _, HV2.out, HF2.out⟩
end Go.Proofs.YtighpalbodhfeaaGreatDoor

/-
  What haywainlaw.Turn returns of a view and the document's own that are alike, at any act: true, and both are alike again.
-/
namespace Go.Proofs.YtighpalbodhfeaaGreatDoor
open Go.RowKit Go.Joins Go.Shelf

theorem turn_any (x : ActL) {B wb rb : Nat} {S G : Nat → Prop} {P : Rws} {since : Int} {chs : List Chg} {rds : Rws} (w : World) (h : TB w B wb rb S G P since chs rds chs rds) (hl : LightX x) (hxs : heldSp w x.sa x.sps) :
    Calls Tryz.prog 9 #[.pointer (some ⟨wb, 0, none⟩), .pointer (some ⟨rb, 0, none⟩), .agg #[Value.string x.kind, Value.int .i64 x.a, Value.int .i64 x.b, Value.int .i64 x.c, Value.int .u64 x.k, Value.string x.s, Value.string x.t, Value.slice x.ca x.chs.length x.cc, Value.slice x.sa x.sps.length x.sc]] w fun e w' => e = .returned (.bool true) ∧ TurnP w w' B wb rb S P since := by
  cases k0 : (x.kind.toList == [99, 114, 101, 97, 116, 101])
  case true => exact turn_create x w h k0 hl
  cases k1 : (x.kind.toList == [115, 101, 110, 100])
  case true => exact turn_send x w h k0 k1 hl
  cases k2 : (x.kind.toList == [114, 101, 99, 101, 105, 118, 101])
  case true => exact turn_receive x w h k0 k1 k2 hl
  cases k3 : (x.kind.toList == [97, 99, 107])
  case true => exact turn_ack x w h k0 k1 k2 k3 hl
  cases k4 : (x.kind.toList == [119, 97, 105, 116])
  case true => exact turn_wait x w h k0 k1 k2 k3 k4 hl
  cases k5 : (x.kind.toList == [102, 105, 110, 100])
  case true => exact turn_find x w h k0 k1 k2 k3 k4 k5 hl
  cases k6 : (x.kind.toList == [112, 117, 116])
  case true => exact turn_put x w h k0 k1 k2 k3 k4 k5 k6 hl
  cases k7 : (x.kind.toList == [100, 101, 108, 101, 116, 101])
  case true => exact turn_delete x w h k0 k1 k2 k3 k4 k5 k6 k7 hl
  cases k8 : (x.kind.toList == [103, 101, 116])
  case true => exact turn_get x w h k0 k1 k2 k3 k4 k5 k6 k7 k8 hl
  cases k9 : (x.kind.toList == [115, 99, 97, 110])
  case true => 
    by_cases hn : 0 < x.sps.length
    · rcases hxs with e | ⟨b, off, e, hsp⟩
      · rw [e] at hn; simp at hn
      · obtain ⟨s0, s1⟩ := hsp 0 hn
        simp only [Nat.zero_mul, Nat.add_zero] at s0 s1
        exact turn_scan_some x w h k0 k1 k2 k3 k4 k5 k6 k7 k8 k9 hl (x.sps[0]) b off e hn s0 s1
    · exact turn_scan_none x w h k0 k1 k2 k3 k4 k5 k6 k7 k8 k9 hl hn
  exact turn_messages x w h k0 k1 k2 k3 k4 k5 k6 k7 k8 k9 hl
end Go.Proofs.YtighpalbodhfeaaGreatDoor

/-
  What haywainlaw.QueueSays returns: true, of whatever came in.
-/
namespace Go.Proofs.YtighpalbodhfeaaGreatDoor
open Go.RowKit Go.Joins Go.Shelf
attribute [local go_sem ↓] Go.wp_at_zero Go.wp_at_succ

/-- at the beginning -/
theorem tb_start {w w3 w4 w5 : World} {wb : Nat} {rows : Rws} {ra : Option Addr} {rc : Nat} {S : Nat → Prop} (hL : Laid w) (hr : heldSp w ra rows) (hnil : ra = none → rc = 0 ∧ rows = []) (hb3 : Below w.heap.size w w3) (hb4 : Below w3.heap.size w3 w4) (hb5 : Below w4.heap.size w4 w5) (hp : PV w5 w4.heap.size wb S rows 0 [] []) (hS : ∀ k, S k → w3.heap.size ≤ k) (hk : ∀ r ∈ rows, keyL r.1.data.toList = true ∧ r.2.size ≤ 40) :
    ∃ G, TB (w5.alloc (Obj.cells #[Value.slice ra rows.length rc, Value.int .i64 0, Value.slice none 0 0, Value.slice none 0 0] 35)) w4.heap.size wb w5.heap.size S G rows 0 [] [] [] [] ∧ Below w.heap.size w (w5.alloc (Obj.cells #[Value.slice ra rows.length rc, Value.int .i64 0, Value.slice none 0 0, Value.slice none 0 0] 35)) := by
  have hb6 := below_alloc1 w5 (Obj.cells #[Value.slice ra rows.length rc, Value.int .i64 0, Value.slice none 0 0, Value.slice none 0 0] 35)
  have s3 := hb3.size
  have s4 := hb4.size
  have s5 := hb5.size
  have h35 := below_on (below_on hb3 (Nat.le_refl _) hb4) (Nat.le_refl _) hb5
  have hbx := below_on h35 (Nat.le_refl _) hb6
  have hz : (w5.alloc (Obj.cells #[Value.slice ra rows.length rc, Value.int .i64 0, Value.slice none 0 0, Value.slice none 0 0] 35)).heap.size = w5.heap.size + 1 := by simp
  have hQ : OkQ rows [] := ⟨hk, by simp⟩
  refine ⟨inRW w5.heap.size ra none none rows [] [], ⟨⟨hp.on hb6, hQ, fun W hW => laid_on hL (hbx.trans (hW.mono (by omega)))⟩, ⟨⟨ra, rc, none, 0, none, 0, ⟨cell_new _ _ _ 0, cell_new _ _ _ 1, cell_new _ _ _ 2, cell_new _ _ _ 3, fun j => frozen_new _ _ _ j, heldSp_on hbx hr, hnil, .inl rfl, .inl rfl⟩, rfl, fun k e hne => ?_, (fun k e => by obtain ⟨_, e⟩ := e; cases e), (fun k e => by obtain ⟨_, e⟩ := e; cases e)⟩, hp.ok, hQ, by omega, by omega⟩, fun k hk hs => ?_⟩, hbx⟩
  · have := heldSp_lt hr hne e; omega
  · have hlt := hp.lt hs
    have hge := hS k hs
    rcases hk with rfl | ⟨hne, e⟩ | ⟨hne, _⟩ | ⟨hne, _⟩
    · omega
    · have := heldSp_lt hr hne e; omega
    · exact hne rfl
    · exact hne rfl
set_option maxRecDepth 4000 in
set_option maxHeartbeats 4000000 in
theorem queueSays_walk (rows : List (ByteArray × ByteArray)) (ra : Option Addr) (rc : Nat) (acts : List ActL) (aa : Option Addr) (ac : Nat) (w : World) (hL : Laid w)
    (hr : heldSp w ra rows) (hnil : ra = none → rc = 0 ∧ rows = []) (hd : heldAc w aa acts) :
    Calls Tryz.prog 3 #[.slice ra rows.length rc, .slice aa acts.length ac] w fun e w' => e = .returned (.bool true) ∧ Below w.heap.size w w' := by
  have HL := hide hL
  have HR := hide hr
  have HD := hide hd
  have HNIL := hide hnil
  clear hr hd hnil hL
  go_enter Tryz.func3, Tryz.ntmps3
  go_wp2_with (first
    | (go_at_call 4; refine (lines_any _ HL.out).mono ?_; rintro e w1 ⟨rfl, hb1⟩; have HB1 := hide hb1; clear hb1)
    | (go_at_call 5; refine (lightAc_held acts 40 ac aa _ (heldAc_on HB1.out HD.out) (by omega)).mono ?_; rintro e w2 ⟨rfl, rfl⟩; cases hlA : lightActs acts 40)
    | (go_at_call 6; refine (lawRows_full rows ra rc _ (heldSp_on HB1.out HR.out)).mono ?_; rintro e w3 ⟨v, rfl, hgood, hb3⟩; have HGD := hide hgood; have HB3 := hide (below_on HB1.out (Nat.le_refl _) hb3); clear hb3 hgood; cases v))
  · go_ret
    exact ⟨rfl, HB1.out⟩
  · go_ret
    exact ⟨rfl, HB3.out⟩
  obtain ⟨hgb, hri, hkk⟩ := HGD.out (by trivial)
  have hrn : rows.length ≤ 50 := hgb.1
  have HRK : Hid (∀ r ∈ rows, r.1.size ≤ 60) := hgb.2
  have HPR := hide (riseA_pair hri)
  have HKK := hide hkk
  have HLA := hide hlA
  clear HGD hgb hri hlA HB1 hkk
  refine (new_any rows ra rc _ (heldSp_on HB3.out HR.out) (by omega) (fun r hr => by have := HRK.out r hr; omega)).mono ?_
  rintro e w4 ⟨vb, rfl, hb4, mb, D4, g4, hv4⟩
  have HV4 := hide hv4
  have HB4 := hide hb4
  clear hv4 hb4
  go_wp2_with fail
  refine (view_new _ HV4.out).mono ?_
  rintro e w5 ⟨wb, rfl, hw5, hb5⟩
  obtain ⟨S0, hp5, hS0⟩ := pv_make HV4.out hw5 hb5 HB4.out.size HPR.out hrn HRK.out
  obtain ⟨G0, htb, hbl⟩ := tb_start (rc := rc) HL.out HR.out HNIL.out HB3.out HB4.out hb5 hp5 hS0 HKK.out
  have HTB := hide htb
  have HBL := hide hbl
  have hBw : w.heap.size ≤ w4.heap.size := by have h1 := HB3.out.size; have h2 := HB4.out.size; omega
  clear hw5 hb5 hp5 hS0 htb hbl HV4
  generalize w4.heap.size = B at *
  go_wp2
  generalize hwx : w5.alloc (Obj.cells #[Value.slice ra rows.length rc, Value.int .i64 0, Value.slice none 0 0, Value.slice none 0 0] 35) = wx at *
  clear hwx
  generalize w5.heap.size = rb at *
  have hal : acts.length ≤ 40 := by have := HLA.out; simp only [lightActs, Bool.and_eq_true, decide_eq_true_eq] at this; exact this.1
  go_loopw [8] (fun iv wr => ∃ (k : Nat) (S G : Nat → Prop) (chs : List Chg) (rds : Rws), k ≤ acts.length ∧ iv = .int .i64 k ∧ TB wr B wb rb S G rows 0 chs rds chs rds ∧ Below w.heap.size w wr) (fun iv _ => acts.length - (intOf iv).toNat)
  case atStart => exact ⟨0, S0, G0, [], [], Nat.zero_le _, rfl, HTB.out, HBL.out⟩
  case round =>
    obtain ⟨k, S, G, chs, rds, hk, rfl, htb, hbl⟩ := hrel
    replace HTB := hide htb
    replace HBL := hide hbl
    clear htb hbl
    by_cases hlt : k < acts.length
    · have hlt' : (k : Int) < (acts.length : Int) := by omega
      rcases HD.out with e | ⟨b, off, e, hac⟩
      · rw [e] at hlt; simp at hlt
      subst e
      have hx := (hac k hlt).on HBL.out
      have HLX : Hid (LightX acts[k]) := by
        have := HLA.out
        simp only [lightActs, Bool.and_eq_true, List.all_eq_true] at this
        have h1 := this.2 _ (List.getElem_mem hlt)
        simp only [lightAct, Bool.and_eq_true, decide_eq_true_eq] at h1
        exact ⟨h1.1.1.1, h1.1.1.2, hx.ai.1, hx.ai.2⟩
      clear hac
      generalize acts[k] = x at *
      have x0 := hx.kind
      have x1 := hx.a
      have x2 := hx.b
      have x3 := hx.c
      have x4 := hx.k
      have x5 := hx.s
      have x6 := hx.t
      have x7 := hx.cl
      have x8 := hx.sl
      have HXS := hide hx.hs
      clear hx
      go_wp2_with (first
        | (go_at_call 9; refine (turn_any x _ HTB.out HLX.out HXS.out).mono ?_; rintro e w7 ⟨rfl, hT⟩; obtain ⟨S9, G9, chs9, rds9, htb9, hf9⟩ := hT; have HT9 := hide htb9; have HB9 := hide (HBL.out.trans (hf9.bel.mono hBw)); clear htb9 hf9)
        | (go_at_call 10; refine (asView_any _ HT9.out.qv.pv HT9.out.qr.rw).mono ?_; rintro e w9 ⟨rfl, hb9⟩; replace HB9 := hide (below_on HB9.out (Nat.le_refl _) hb9); replace HT9 := hide (HT9.out.on hb9); clear hb9))
      exact ⟨⟨k + 1, S9, G9, _, _, by omega, by go_num, HT9.out, HB9.out⟩, by simp [intOf]; omega⟩
    · have ek : k = acts.length := by omega
      subst ek
      have hlt' : ¬ (acts.length : Int) < (acts.length : Int) := by omega
      go_wp2
      go_ret
      exact ⟨rfl, HBL.out⟩
end Go.Proofs.YtighpalbodhfeaaGreatDoor
