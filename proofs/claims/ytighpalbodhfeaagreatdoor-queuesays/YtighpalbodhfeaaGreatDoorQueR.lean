/-
  The document's view of rows that may be: what its acts make of it, with blocks of one's own.
-/
import Derived.Test.YtighpalbodhfeaaGreatDoorQueTakeL
import Derived.Test.YtighpalbodhfeaaGreatDoorRefBoth
import Derived.Test.YtighpalbodhfeaaGreatDoorRefAct
namespace Go.Proofs.YtighpalbodhfeaaGreatDoor
open Go.RowKit Go.Joins Go.Shelf

structure QR (w : World) (B rb : Nat) (G : Nat → Prop) (P : Rws) (since : Int) (chs : List Chg) (rds : Rws) : Prop where
  rw : RW w rb G P since chs rds
  ov : OkV P chs rds
  ok : OkQ P chs
  lo : B ≤ w.heap.size
  rl : B ≤ rb
def ActP (w w' : World) (B rb : Nat) (G : Nat → Prop) (P : Rws) (since : Int) (chs : List Chg) (rds : Rws) : Prop := ∃ G', QR w' B rb G' P since chs rds ∧ StepR w w' B rb G G'
structure OwnR (w W : World) (B rb : Nat) (O G G' : Nat → Prop) (P : Rws) (since : Int) (chs : List Chg) (rds : Rws) : Prop where
  qr : QR W B rb G' P since chs rds
  st : StepR w W B rb G G'
  ow : ∀ b, O b → ¬ G' b ∧ w.heap.size ≤ b ∧ b < W.heap.size ∧ ∀ j, W.frozen? ⟨b, j, none⟩ = false
  rh : rb < w.heap.size
section
variable {w w1 w2 : World} {B rb : Nat} {O O' G G' G2 : Nat → Prop} {P : Rws} {since : Int} {chs chs' : List Chg} {rds rds' : Rws}
theorem RW.rb_in (h : RW w rb G P since chs rds) : rb < w.heap.size := by
  obtain ⟨ra, rc, ca, cc, sa, sc, h1, rfl, _⟩ := h
  exact h1.lt (.inl rfl)
theorem QR.on (h : QR w B rb G P since chs rds) (hb : Below w.heap.size w w1) : QR w1 B rb G P since chs rds := ⟨h.rw.on hb, h.ov, h.ok, Nat.le_trans h.lo hb.size, h.rl⟩
theorem QR.act (h : QR w B rb G P since chs rds) (hv : OkV P chs' rds') (hk : OkQ P chs') (ha : ActR w w1 B rb G P since chs' rds') : ActP w w1 B rb G P since chs' rds' := by
  obtain ⟨G', hr, hs⟩ := ha
  exact ⟨G', ⟨hr, hv, hk, Nat.le_trans h.lo hs.bel.size, h.rl⟩, hs⟩
theorem ActP.after (hs : StepR w w1 B rb G G') (ha : ActP w1 w2 B rb G' P since chs rds) : ActP w w2 B rb G P since chs rds := by
  obtain ⟨G2, hq, h2⟩ := ha
  exact ⟨G2, hq, hs.trans h2⟩
theorem OwnR.start (h : QR w B rb G P since chs rds) : OwnR w w B rb (fun _ => False) G G P since chs rds := ⟨h, .on h.lo (Below.refl _ _), fun _ h => h.elim, h.rw.rb_in⟩
theorem OwnR.on (h : OwnR w w1 B rb O G G' P since chs rds) (hb : Below w1.heap.size w1 w2) : OwnR w w2 B rb O G G' P since chs rds :=
  ⟨h.qr.on hb, h.st.trans (.on h.qr.lo hb), fun b ho => by
    obtain ⟨a, b1, c, d⟩ := h.ow b ho
    exact ⟨a, b1, Nat.lt_of_lt_of_le c hb.size, fun j => frozen_on hb c (d j)⟩, h.rh⟩
theorem OwnR.box (h : OwnR w w1 B rb O G G' P since chs rds) (vs : Array Value) (t : TypeId) : OwnR w (w1.alloc (.cells vs t)) B rb (fun b => b = w1.heap.size ∨ O b) G G' P since chs rds := by
  have hb := below_alloc1 w1 (.cells vs t)
  have h1 := h.on hb
  refine ⟨h1.qr, h1.st, fun b ho => ?_, h.rh⟩
  rcases ho with rfl | ho
  · exact ⟨fun e => by have := h.qr.rw.lt e; omega, h.st.bel.size, by simp, fun j => frozen_new _ _ _ j⟩
  · exact h1.ow b ho
theorem OwnR.keep (h : OwnR w w1 B rb O G G' P since chs rds) (hq : QR w2 B rb G2 P since chs' rds') (hs : StepR w1 w2 B rb G' G2) : OwnR w w2 B rb O G G2 P since chs' rds' ∧ ∀ b, O b → w2.heap[b]? = w1.heap[b]? := by
  have hr := h.rh
  have e : ∀ b, O b → w2.heap[b]? = w1.heap[b]? := fun b ho => by
    obtain ⟨_, b1, c, _⟩ := h.ow b ho
    exact hs.far b c (by omega)
  refine ⟨⟨hq, h.st.trans hs, fun b ho => ?_, hr⟩, e⟩
  obtain ⟨a, b1, c, d⟩ := h.ow b ho
  exact ⟨hs.out b c a, b1, Nat.lt_of_lt_of_le c hs.bel.size, fun j => (World.frozen?_of_block (w := w1) (e b ho)).trans (d j)⟩
theorem OwnR.act (h : OwnR w w1 B rb O G G' P since chs rds) (ha : ActP w1 w2 B rb G' P since chs' rds') : ∃ G2, OwnR w w2 B rb O G G2 P since chs' rds' ∧ ∀ b, O b → w2.heap[b]? = w1.heap[b]? := by
  obtain ⟨G2, hq, hs⟩ := ha
  exact ⟨G2, h.keep hq hs⟩
theorem OwnR.set (h : OwnR w w1 B rb O G G' P since chs rds) (hB : B ≤ w.heap.size) {b : Nat} (ho : O b) (j : Nat) (v : Value) : OwnR w (w1.setCell ⟨b, j, none⟩ v) B rb O G G' P since chs rds := by
  have hs : ∀ k, k ≠ b → (w1.setCell ⟨b, j, none⟩ v).heap[k]? = w1.heap[k]? := fun k hk => Below.heap_setCell _ _ _ _ hk
  obtain ⟨a, b1, c, d⟩ := h.ow b ho
  have hr := h.rh
  refine ⟨⟨h.qr.rw.kept fun k hk => hs k fun e => a (e ▸ hk), h.qr.ov, h.qr.ok, by simpa using h.qr.lo, h.qr.rl⟩, ⟨h.st.bel.setCell (p := ⟨b, j, none⟩) (by show B ≤ b; omega) v, fun k hk hn => (hs k (by omega)).trans (h.st.far k hk hn), h.st.out⟩, fun b' ho' => ?_, hr⟩
  obtain ⟨a', b1', c', d'⟩ := h.ow b' ho'
  exact ⟨a', b1', by simpa using c', fun k => by rw [World.frozen?_setCell]; exact d' k⟩
theorem OwnR.less (h : OwnR w w1 B rb O G G' P since chs rds) (hs : ∀ b, O' b → O b) : OwnR w w1 B rb O' G G' P since chs rds := ⟨h.qr, h.st, fun b hb => h.ow b (hs b hb), h.rh⟩
theorem OwnR.done (h : OwnR w w1 B rb O G G' P since chs rds) : ActP w w1 B rb G P since chs rds := ⟨G', h.qr, h.st⟩
theorem alter_okV {c : Chg} (h : OkV P chs rds) : OkV P (alterL chs c) rds := alter_ok h fault_small
end
section
variable {B rb : Nat} {G : Nat → Prop} {P : Rws} {since : Int} {chs : List Chg} {rds : Rws}
theorem qr_put (c : Chg) (w : World) (h : QR w B rb G P since chs rds) (hk : c.key.size ≤ 1000) :
    Calls Tryz.prog 29 #[.pointer (some ⟨rb, 0, none⟩), .agg #[.string c.key, .string c.val, .bool c.gone]] w fun e w' => e = .returned (.int .i64 (alterF chs c : Nat)) ∧ ActP w w' B rb G P since (alterL chs c) rds :=
  (rvput_any c w h.rw h.lo h.rl h.ov.cn h.ov.cr hk).mono fun _ _ ⟨he, ha⟩ => ⟨he, h.act (alter_okV h.ov) (h.ok.alter c) ha⟩
theorem qr_get (key : ByteArray) (w : World) (h : QR w B rb G P since chs rds) (hk : key.size ≤ 1000) :
    Calls Tryz.prog 32 #[.pointer (some ⟨rb, 0, none⟩), .string key] w fun e w' => e = .returned (.tuple #[.string (getP chs rds P key).1, .bool (getP chs rds P key).2.1, .int .i64 ((getP chs rds P key).2.2 : Nat)]) ∧ ActP w w' B rb G P since chs (getL chs rds key) :=
  (rvget_any key w h.rw h.lo h.rl h.ov.cn h.ov.cr h.ov.rn (by have := h.ov.len; omega) hk).mono fun _ _ ⟨he, ha⟩ => ⟨he, h.act { h.ov with rn := getL_len h.ov.rn } h.ok ha⟩
theorem qr_scan_bad (s : ByteArray × ByteArray) (m : Int) (w : World) (h : QR w B rb G P since chs rds) (hm : m ≤ 9223372036854775807) (hf : scanF (seenP P chs s) rds s m ≠ 0) :
    Calls Tryz.prog 34 #[.pointer (some ⟨rb, 0, none⟩), .agg #[.string s.1, .string s.2], .int .i64 m] w fun e w' => e = .returned (.tuple #[.slice none 0 0, .int .i64 (scanF (seenP P chs s) rds s m : Nat)]) ∧ ActP w w' B rb G P since chs (scanL (seenP P chs s) rds s m) :=
  (rvscan_any s m w h.rw h.lo h.rl h.ov hm).mono fun _ _ hv => ⟨(hv.2 hf).1, h.act { h.ov with rn := scanL_len h.ov.rn } h.ok (hv.2 hf).2⟩
def RowsR (w w' : World) (v : Value) (B rb : Nat) (G : Nat → Prop) (P : Rws) (since : Int) (chs : List Chg) (rds l : Rws) : Prop :=
  ∃ ao cap G', v = .slice ao l.length cap ∧ heldSp w' ao l ∧ QR w' B rb G' P since chs rds ∧ StepR w w' B rb G G' ∧ ∀ k, atB ao k → l ≠ [] → w.heap.size ≤ k
theorem qr_scan_ok (s : ByteArray × ByteArray) (m : Int) (w : World) (h : QR w B rb G P since chs rds) (hm : m ≤ 9223372036854775807) (hf : scanF (seenP P chs s) rds s m = 0) :
    Calls Tryz.prog 34 #[.pointer (some ⟨rb, 0, none⟩), .agg #[.string s.1, .string s.2], .int .i64 m] w fun e w' => ∃ v, e = .returned (.tuple #[v, .int .i64 0]) ∧ RowsR w w' v B rb G P since chs (scanL (seenP P chs s) rds s m) ((seenP P chs s).take m.toNat) :=
  (rvscan_any s m w h.rw h.lo h.rl h.ov hm).mono fun _ _ hv => by
    obtain ⟨ao, cap, he, hh, G', hr, hs, hnw⟩ := hv.1 hf
    exact ⟨_, he, ao, cap, G', rfl, hh, ⟨hr, { h.ov with rn := scanL_len h.ov.rn }, h.ok, Nat.le_trans h.lo hs.bel.size, h.rl⟩, hs, hnw⟩
end
end Go.Proofs.YtighpalbodhfeaaGreatDoor

/-
  What haywainref.FindQueue, putQueue and CreateQueue return, of every view of the document's.
-/
namespace Go.Proofs.YtighpalbodhfeaaGreatDoor
open Go.RowKit Go.Joins Go.Shelf
attribute [local go_sem ↓] Go.wp_at_zero Go.wp_at_succ

set_option maxRecDepth 8000 in
set_option maxHeartbeats 4000000 in
theorem rfind_any (name : ByteArray) {B rb : Nat} {G : Nat → Prop} {P : Rws} {since : Int} {chs : List Chg} {rds : Rws} (w : World) (h : QR w B rb G P since chs rds) (hn : name.size ≤ 900) :
    Calls Tryz.prog 27 #[.pointer (some ⟨rb, 0, none⟩), .string name] w fun e w' => e = .returned (.tuple #[qV (findQ P chs rds name), .int .i64 ((findQ P chs rds name).2.2.2 : Nat)]) ∧ ActP w w' B rb G P since chs (findL chs rds name) := by
  have HO := hide ((OwnR.start h).box #[Value.int .i64 0, Value.int .i64 0, Value.string ⟨#[]⟩] 76)
  have HLO := hide h.lo
  have hqs : (queB name).size ≤ 1000 := by rw [queB_size]; omega
  have HGS := hide (getP_size h.ok rds (queB name))
  have HGT := hide (fun W (hW : QR W B rb G P since chs rds) => qr_get (queB name) W hW hqs)
  have r0 : (w.alloc (Obj.cells #[Value.int .i64 0, Value.int .i64 0, Value.string ⟨#[]⟩] 76)).cell? ⟨w.heap.size, 0, none⟩ = some (Value.int .i64 0) := by simp
  have r1 : (w.alloc (Obj.cells #[Value.int .i64 0, Value.int .i64 0, Value.string ⟨#[]⟩] 76)).cell? ⟨w.heap.size, 1, none⟩ = some (Value.int .i64 0) := by simp
  have r2 : (w.alloc (Obj.cells #[Value.int .i64 0, Value.int .i64 0, Value.string ⟨#[]⟩] 76)).cell? ⟨w.heap.size, 2, none⟩ = some (Value.string ⟨#[]⟩) := by simp
  clear h
  cases hnm : nameL name.data.toList with
  | false =>
    have eF : findQ P chs rds name = (0, 0, ⟨#[]⟩, 3) := by unfold findQ; rw [hnm]; rfl
    have eL : findL chs rds name = rds := by unfold findL; rw [hnm]; rfl
    rw [eF, eL]
    have HNM := hide hnm
    clear hnm eF eL HGS HGT
    go_enter Tryz.func27, Tryz.ntmps27
    go_wp2_with (fail)
    (go_at_call 53; refine (nameMay_any name _).mono ?_; rintro e wN ⟨rfl, rfl⟩; rw [HNM.out])
    go_wp2_with (fail)
    exact bodyPost_ret (v := .tuple #[qV (0, 0, ⟨#[]⟩, 3), .int .i64 3]) (by simp [results, Tryz.results27, go_sem]) rfl ⟨rfl, HO.out.done⟩
  | true =>
    have eL : findL chs rds name = getL chs rds (queB name) := by unfold findL; rw [hnm]; rfl
    have eF : findQ P chs rds name = if (getP chs rds P (queB name)).2.2 = 0 then (if (getP chs rds P (queB name)).2.1 then qOf (getP chs rds P (queB name)).1 else (0, 0, ⟨#[]⟩, 5)) else (0, 0, ⟨#[]⟩, (getP chs rds P (queB name)).2.2) := by unfold findQ; rw [hnm]; rfl
    rw [eF, eL]
    have HNM := hide hnm
    clear hnm eF eL
    rw [show queB name = ⟨#[113, 47]⟩ ++ name from rfl] at *
    generalize getL chs rds (⟨#[113, 47]⟩ ++ name) = rds1 at *
    generalize getP chs rds P (⟨#[113, 47]⟩ ++ name) = gp at *
    obtain ⟨tx, is, er⟩ := gp
    dsimp only at HGS HGT ⊢
    by_cases h0 : er = 0
    · subst h0
      rw [if_pos rfl]
      cases is with
      | false =>
        rw [if_neg (by simp)]
        go_enter Tryz.func27, Tryz.ntmps27
        go_wp2_with (fail)
        (go_at_call 53; refine (nameMay_any name _).mono ?_; rintro e wN ⟨rfl, rfl⟩; rw [HNM.out])
        go_wp2_with (fail)
        (go_at_call 32; refine (HGT.out _ HO.out.qr).mono ?_; rintro e w2 ⟨rfl, ha⟩; obtain ⟨G2, ho2, kp⟩ := HO.out.act ha; have HO2 := hide ho2; have fz := (ho2.ow w.heap.size (.inl rfl)).2.2.2; replace r0 := (World.cell?_of_block (kp w.heap.size (.inl rfl))).trans r0; replace r1 := (World.cell?_of_block (kp w.heap.size (.inl rfl))).trans r1; replace r2 := (World.cell?_of_block (kp w.heap.size (.inl rfl))).trans r2; clear ha ho2 kp)
        go_wp2_with (fail)
        exact bodyPost_ret (v := .tuple #[qV (0, 0, ⟨#[]⟩, 5), .int .i64 5]) (by simp [results, Tryz.results27, go_sem, r0, r1, r2]) rfl ⟨rfl, (((HO2.out.set HLO.out (b := w.heap.size) (.inl rfl) 0 _).set HLO.out (b := w.heap.size) (.inl rfl) 1 _).set HLO.out (b := w.heap.size) (.inl rfl) 2 _).done⟩
      | true =>
        rw [if_pos rfl]
        have HQO := hide (fun W => qOf_ref tx (by have := HGS.out; omega) W)
        generalize qOf tx = q at *
        obtain ⟨qx, qy, qd, eq⟩ := q
        dsimp only at HQO ⊢
        go_enter Tryz.func27, Tryz.ntmps27
        go_wp2_with (fail)
        (go_at_call 53; refine (nameMay_any name _).mono ?_; rintro e wN ⟨rfl, rfl⟩; rw [HNM.out])
        go_wp2_with (fail)
        (go_at_call 32; refine (HGT.out _ HO.out.qr).mono ?_; rintro e w2 ⟨rfl, ha⟩; obtain ⟨G2, ho2, kp⟩ := HO.out.act ha; have HO2 := hide ho2; have fz := (ho2.ow w.heap.size (.inl rfl)).2.2.2; replace r0 := (World.cell?_of_block (kp w.heap.size (.inl rfl))).trans r0; replace r1 := (World.cell?_of_block (kp w.heap.size (.inl rfl))).trans r1; replace r2 := (World.cell?_of_block (kp w.heap.size (.inl rfl))).trans r2; clear ha ho2 kp)
        go_wp2_with (fail)
        (go_at_call 67; refine (HQO.out _).mono ?_; rintro e w3 ⟨rfl, hb3⟩; have HO3 := hide (HO2.out.on hb3); clear fz; have fz := (HO3.out.ow w.heap.size (.inl rfl)).2.2.2; replace r0 := cell_on hb3 r0; replace r1 := cell_on hb3 r1; replace r2 := cell_on hb3 r2; clear hb3)
        go_wp2_with (fail)
        exact bodyPost_ret (v := .tuple #[qV (qx, qy, qd, eq), .int .i64 (eq : Nat)]) (by simp [results, Tryz.results27, go_sem, r0, r1, r2]) rfl ⟨rfl, (((HO3.out.set HLO.out (b := w.heap.size) (.inl rfl) 0 _).set HLO.out (b := w.heap.size) (.inl rfl) 1 _).set HLO.out (b := w.heap.size) (.inl rfl) 2 _).done⟩
    · rw [if_neg h0]
      have d0 : decide (0 < (er : Int)) = true := decide_eq_true (by omega)
      have d1 : 0 < (er : Int) := by omega
      clear h0
      go_enter Tryz.func27, Tryz.ntmps27
      go_wp2_with (fail)
      (go_at_call 53; refine (nameMay_any name _).mono ?_; rintro e wN ⟨rfl, rfl⟩; rw [HNM.out])
      go_wp2_with (fail)
      (go_at_call 32; refine (HGT.out _ HO.out.qr).mono ?_; rintro e w2 ⟨rfl, ha⟩; obtain ⟨G2, ho2, kp⟩ := HO.out.act ha; have HO2 := hide ho2; have fz := (ho2.ow w.heap.size (.inl rfl)).2.2.2; replace r0 := (World.cell?_of_block (kp w.heap.size (.inl rfl))).trans r0; replace r1 := (World.cell?_of_block (kp w.heap.size (.inl rfl))).trans r1; replace r2 := (World.cell?_of_block (kp w.heap.size (.inl rfl))).trans r2; clear ha ho2 kp)
      go_wp2_with (fail)
      exact bodyPost_ret (v := .tuple #[qV (0, 0, ⟨#[]⟩, er), .int .i64 (er : Nat)]) (by simp [results, Tryz.results27, go_sem, r0, r1, r2]) rfl ⟨rfl, (((HO2.out.set HLO.out (b := w.heap.size) (.inl rfl) 0 _).set HLO.out (b := w.heap.size) (.inl rfl) 1 _).set HLO.out (b := w.heap.size) (.inl rfl) 2 _).done⟩
set_option maxRecDepth 8000 in
set_option maxHeartbeats 4000000 in
theorem rputQueue_any (name : ByteArray) (x y : Int) (d : ByteArray) {B rb : Nat} {G : Nat → Prop} {P : Rws} {since : Int} {chs : List Chg} {rds : Rws} (w : World) (h : QR w B rb G P since chs rds) (hn : name.size ≤ 900) (hd : d.size ≤ 1000) :
    Calls Tryz.prog 54 #[.pointer (some ⟨rb, 0, none⟩), .string name, .agg #[.int .i64 x, .int .i64 y, .string d]] w fun e w' => e = .returned (.int .i64 (putQF chs name x y d : Nat)) ∧ ActP w w' B rb G P since (putQL chs name x y d) rds := by
  have HO := hide ((OwnR.start h).box #[Value.int .i64 x, Value.int .i64 y, Value.string d] 76)
  have hqs : (queB name).size ≤ 1000 := by rw [queB_size]; omega
  have HT := hide (fun W => qText_ref x y d hd W)
  have HP := hide (fun (v : ByteArray) W (hW : QR W B rb G P since chs rds) => qr_put ⟨queB name, v, false⟩ W hW hqs)
  rw [show queB name = ⟨#[113, 47]⟩ ++ name from rfl] at HP hqs
  unfold putQF putQL
  rw [show queB name = ⟨#[113, 47]⟩ ++ name from rfl]
  clear h
  generalize qText x y d = t at *
  obtain ⟨tx, et⟩ := t
  dsimp only at HT ⊢
  by_cases h0 : et = 0
  · subst h0
    rw [if_pos rfl, if_pos rfl]
    go_enter Tryz.func54, Tryz.ntmps54
    go_wp2_with (fail)
    (go_at_call 97; refine (HT.out _).mono ?_; rintro e w2 ⟨rfl, hb2⟩; have HO2 := hide (HO.out.on hb2); clear hb2)
    go_wp2_with (fail)
    (go_at_call 29; refine (HP.out _ _ HO2.out.qr).mono ?_; rintro e w3 ⟨rfl, ha⟩; have HA := hide (ActP.after HO2.out.st ha); clear ha)
    go_wp2_with (fail)
    go_ret
    exact ⟨rfl, HA.out⟩
  · rw [if_neg h0, if_neg h0]
    have d0 : decide (0 < (et : Int)) = true := decide_eq_true (by omega)
    have d1 : 0 < (et : Int) := by omega
    clear h0
    go_enter Tryz.func54, Tryz.ntmps54
    go_wp2_with (fail)
    (go_at_call 97; refine (HT.out _).mono ?_; rintro e w2 ⟨rfl, hb2⟩; have HO2 := hide (HO.out.on hb2); clear hb2)
    go_wp2_with (fail)
    go_ret
    exact ⟨rfl, HO2.out.done⟩
end Go.Proofs.YtighpalbodhfeaaGreatDoor

/-
  What haywainref.CreateQueue returns, of every view of the document's.
-/
namespace Go.Proofs.YtighpalbodhfeaaGreatDoor
open Go.RowKit Go.Joins Go.Shelf
attribute [local go_sem ↓] Go.wp_at_zero Go.wp_at_succ

set_option maxRecDepth 8000 in
set_option maxHeartbeats 4000000 in
theorem rcreate_any (name : ByteArray) (tries : Int) (dead : ByteArray) {B rb : Nat} {G : Nat → Prop} {P : Rws} {since : Int} {chs : List Chg} {rds : Rws} (w : World) (h : QR w B rb G P since chs rds) (hn : name.size ≤ 900) (hd : dead.size ≤ 900) :
    Calls Tryz.prog 19 #[.pointer (some ⟨rb, 0, none⟩), .string name, .int .i64 tries, .string dead] w fun e w' => e = .returned (.int .i64 ((createQ P chs rds name tries dead).1 : Nat)) ∧ ActP w w' B rb G P since (createQ P chs rds name tries dead).2.1 (createQ P chs rds name tries dead).2.2 := by
  have HF := hide (rfind_any name w h hn)
  have HF2 := hide (fun (G1 : Nat → Prop) (W : World) (hW : QR W B rb G1 P since chs (findL chs rds name)) => rfind_any dead W hW hd)
  unfold createQ
  clear h
  generalize findQ P chs (findL chs rds name) dead = q2 at *
  generalize findQ P chs rds name = q1 at *
  generalize hr2 : findL chs (findL chs rds name) dead = rds2 at *
  generalize findL chs rds name = rds1 at *
  clear hr2
  unfold missN
  by_cases h1 : q1.2.2.2 = 0
  · rw [if_pos h1, if_neg (by omega)]
    have e0 : ((q1.2.2.2 : Nat) : Int) = 0 := by omega
    rw [e0] at HF
    clear h1 e0
    go_enter Tryz.func19, Tryz.ntmps19
    go_wp2_with (fail)
    (go_at_call 27; refine HF.out.mono ?_; rintro e w1 ⟨rfl, ha⟩; obtain ⟨G1, hq1, hs1⟩ := ha; have hbA := below_alloc1 w1 (Obj.cells #[Value.int .i64 q1.1, Value.int .i64 q1.2.1, Value.string q1.2.2.1] 76); have HQ1 := hide (hq1.on hbA); have HS1 := hide (hs1.trans (.on hq1.lo hbA)); clear hq1 hs1 hbA)
    go_wp2_with (fail)
    go_ret
    exact ⟨rfl, G1, HQ1.out, HS1.out⟩
  · rw [if_neg h1]
    by_cases h5 : q1.2.2.2 = 5
    · rw [if_pos h5, if_pos rfl]
      have e0 : ((q1.2.2.2 : Nat) : Int) = 5 := by omega
      rw [e0] at HF
      clear h1 e0 h5
      cases hdn : eqS dead name with
      | true =>
        have hdn' : (dead.toList == name.toList) = true := hdn
        rw [if_pos rfl]
        clear hdn
        go_enter Tryz.func19, Tryz.ntmps19
        go_wp2_with (fail)
        (go_at_call 27; refine HF.out.mono ?_; rintro e w1 ⟨rfl, ha⟩; obtain ⟨G1, hq1, hs1⟩ := ha; have hbA := below_alloc1 w1 (Obj.cells #[Value.int .i64 q1.1, Value.int .i64 q1.2.1, Value.string q1.2.2.1] 76); have HQ1 := hide (hq1.on hbA); have HS1 := hide (hs1.trans (.on hq1.lo hbA)); clear hq1 hs1 hbA)
        go_wp2_with (fail)
        go_ret
        exact ⟨rfl, G1, HQ1.out, HS1.out⟩
      | false =>
        have hdn' : (dead.toList == name.toList) = false := hdn
        rw [if_neg (by simp)]
        clear hdn
        cases hde : dead.toList.isEmpty with
        | true =>
          have hde' : (dead.toList == []) = true := by rw [List.isEmpty_iff.1 hde]; rfl
          rw [if_pos rfl]
          clear hde
          go_enter Tryz.func19, Tryz.ntmps19
          go_wp2_with (fail)
          (go_at_call 27; refine HF.out.mono ?_; rintro e w1 ⟨rfl, ha⟩; obtain ⟨G1, hq1, hs1⟩ := ha; have hbA := below_alloc1 w1 (Obj.cells #[Value.int .i64 q1.1, Value.int .i64 q1.2.1, Value.string q1.2.2.1] 76); have HQ1 := hide (hq1.on hbA); have HS1 := hide (hs1.trans (.on hq1.lo hbA)); clear hq1 hs1 hbA)
          go_wp2_with (fail)
          (go_at_call 54; refine (rputQueue_any name 0 tries dead _ HQ1.out hn (by omega)).mono ?_; rintro e w3 ⟨rfl, ha⟩; have HA := hide (ActP.after HS1.out ha); clear ha)
          go_wp2_with (fail)
          go_ret
          exact ⟨rfl, HA.out⟩
        | false =>
          have hde' : (dead.toList == []) = false := by cases e : dead.toList with | nil => rw [e] at hde; cases hde | cons a l => rfl
          rw [if_neg (by simp)]
          clear hde
          by_cases h2 : q2.2.2.2 = 0
          · rw [if_pos h2]
            have e2 : ((q2.2.2.2 : Nat) : Int) = 0 := by omega
            rw [e2] at HF2
            clear h2 e2
            go_enter Tryz.func19, Tryz.ntmps19
            go_wp2_with (fail)
            (go_at_call 27; refine HF.out.mono ?_; rintro e w1 ⟨rfl, ha⟩; obtain ⟨G1, hq1, hs1⟩ := ha; have hbA := below_alloc1 w1 (Obj.cells #[Value.int .i64 q1.1, Value.int .i64 q1.2.1, Value.string q1.2.2.1] 76); have HQ1 := hide (hq1.on hbA); have HS1 := hide (hs1.trans (.on hq1.lo hbA)); clear hq1 hs1 hbA)
            go_wp2_with (fail)
            (go_at_call 27; refine (HF2.out _ _ HQ1.out).mono ?_; rintro e w2 ⟨rfl, ha⟩; obtain ⟨G2, hq2, hs2⟩ := ha; have HQ2 := hide hq2; have HS2 := hide (HS1.out.trans hs2); clear hq2 hs2)
            go_wp2_with (fail)
            (go_at_call 54; refine (rputQueue_any name 0 tries dead _ HQ2.out hn (by omega)).mono ?_; rintro e w3 ⟨rfl, ha⟩; have HA := hide (ActP.after HS2.out ha); clear ha)
            go_wp2_with (fail)
            go_ret
            exact ⟨rfl, HA.out⟩
          · rw [if_neg h2]
            have d0 : decide (0 < (q2.2.2.2 : Int)) = true := decide_eq_true (by omega)
            have d1 : 0 < (q2.2.2.2 : Int) := by omega
            clear h2
            go_enter Tryz.func19, Tryz.ntmps19
            go_wp2_with (fail)
            (go_at_call 27; refine HF.out.mono ?_; rintro e w1 ⟨rfl, ha⟩; obtain ⟨G1, hq1, hs1⟩ := ha; have hbA := below_alloc1 w1 (Obj.cells #[Value.int .i64 q1.1, Value.int .i64 q1.2.1, Value.string q1.2.2.1] 76); have HQ1 := hide (hq1.on hbA); have HS1 := hide (hs1.trans (.on hq1.lo hbA)); clear hq1 hs1 hbA)
            go_wp2_with (fail)
            (go_at_call 27; refine (HF2.out _ _ HQ1.out).mono ?_; rintro e w2 ⟨rfl, ha⟩; obtain ⟨G2, hq2, hs2⟩ := ha; have HQ2 := hide hq2; have HS2 := hide (HS1.out.trans hs2); clear hq2 hs2)
            go_wp2_with (fail)
            go_ret
            exact ⟨rfl, G2, HQ2.out, HS2.out⟩
    · rw [if_neg h5, if_neg h1]
      have b0 : ((q1.2.2.2 : Int) == 0) = false := beq_eq_false_iff_ne.2 (by omega)
      have b5 : ((q1.2.2.2 : Int) == 5) = false := beq_eq_false_iff_ne.2 (by omega)
      have b6 : ((q1.2.2.2 : Int) != 5) = true := bne_iff_ne.2 (by omega)
      have c0 : ¬ (q1.2.2.2 : Int) = 0 := by omega
      have c5 : ¬ (q1.2.2.2 : Int) = 5 := by omega
      clear h1 h5
      go_enter Tryz.func19, Tryz.ntmps19
      go_wp2_with (fail)
      (go_at_call 27; refine HF.out.mono ?_; rintro e w1 ⟨rfl, ha⟩; obtain ⟨G1, hq1, hs1⟩ := ha; have hbA := below_alloc1 w1 (Obj.cells #[Value.int .i64 q1.1, Value.int .i64 q1.2.1, Value.string q1.2.2.1] 76); have HQ1 := hide (hq1.on hbA); have HS1 := hide (hs1.trans (.on hq1.lo hbA)); clear hq1 hs1 hbA)
      go_wp2_with (fail)
      go_ret
      exact ⟨rfl, G1, HQ1.out, HS1.out⟩
end Go.Proofs.YtighpalbodhfeaaGreatDoor

/-
  The document's view, its changes laid back as they were.
-/
namespace Go.Proofs.YtighpalbodhfeaaGreatDoor
open Go.RowKit Go.Joins Go.Shelf

theorem QR.mark {w : World} {B rb : Nat} {G : Nat → Prop} {P : Rws} {since : Int} {chs : List Chg} {rds : Rws} (h : QR w B rb G P since chs rds) : ∃ ca cc, w.cell? ⟨rb, 2, none⟩ = some (.slice ca chs.length cc) ∧ heldCh w ca chs ∧ (∀ k, atB ca k → chs ≠ [] → k ≠ rb ∧ G k) ∧ G rb := by
  obtain ⟨ra, rc, ca, cc, sa, sc, hx, rfl, h2, h3, h4⟩ := h.rw
  exact ⟨ca, cc, hx.c2, hx.hC, fun k e hne => ⟨h3 k e hne, .inr (.inr (.inl ⟨hne, e⟩))⟩, .inl rfl⟩
theorem back_R {w w1 : World} {B rb : Nat} {G G1 : Nat → Prop} {P : Rws} {since : Int} {chs chs1 : List Chg} {rds rds1 : Rws} {ca : Option Addr} {cc : Nat} (h : QR w B rb G P since chs rds) (hh : heldCh w ca chs) (hn : ∀ k, atB ca k → chs ≠ [] → k ≠ rb ∧ G k) (hg : G rb) (h1 : QR w1 B rb G1 P since chs1 rds1) (hs : StepR w w1 B rb G G1) :
    w1.frozen? ⟨rb, 2, none⟩ = false ∧ (∃ v, w1.cell? ⟨rb, 2, none⟩ = some v) ∧ ActP w (w1.setCell ⟨rb, 2, none⟩ (.slice ca chs.length cc)) B rb G P since chs rds1 := by
  obtain ⟨ra, rc, ca1, cc1, sa, sc, hx, hG, h2, h3, h4⟩ := h1.rw
  have hw1 : heldCh w1 ca chs := heldCh_kept hh fun hne k e => hs.far k (heldCh_lt hh hne e) (hn k e hne).1
  have hst : ∀ k, k ≠ rb → (w1.setCell ⟨rb, 2, none⟩ (.slice ca chs.length cc)).heap[k]? = w1.heap[k]? := fun k hk => Below.heap_setCell _ _ _ _ hk
  refine ⟨hx.soft 2, ⟨_, hx.c2⟩, inRW rb ra ca sa P chs rds1, ⟨⟨ra, rc, ca, cc, sa, sc, {
      c0 := (World.cell?_setCell_other _ _ _ _ (by simp)).trans hx.c0
      c1 := (World.cell?_setCell_other _ _ _ _ (by simp)).trans hx.c1
      c2 := World.cell?_setCell_same _ _ _ hx.c2
      c3 := (World.cell?_setCell_other _ _ _ _ (by simp)).trans hx.c3
      soft := fun j => by rw [World.frozen?_setCell]; exact hx.soft j
      hP := heldSp_kept hx.hP fun hne k e => hst k (h2 k e hne)
      nP := hx.nP
      hC := heldCh_kept hw1 fun hne k e => hst k (hn k e hne).1
      hR := heldSp_kept hx.hR fun hne k e => hst k (h4 k e hne) }, rfl, h2, fun k e hne => (hn k e hne).1, h4⟩, { h.ov with rn := h1.ov.rn }, h.ok, by simpa using h1.lo, h.rl⟩,
    hs.bel.setCell (p := ⟨rb, 2, none⟩) h.rl _, fun j hj hnj => (hst j hnj).trans (hs.far j hj hnj), fun j hj hnj hin => ?_⟩
  have ho := hs.out j hj hnj
  rw [hG] at ho
  rcases hin with rfl | e | ⟨hne, e⟩ | e
  · exact hnj hg
  · exact ho (.inr (.inl e))
  · exact hnj (hn j e hne).2
  · exact ho (.inr (.inr (.inr e)))
end Go.Proofs.YtighpalbodhfeaaGreatDoor
