/-
  What Store.Checkpoint returns and leaves.
-/
import Derived.Test.YtkfpfbkdalbjoaaGreatStoPl
import Derived.Test.YtkfpfbkdalbjoaaGreatStoCheck
namespace Go.Proofs.YtkfpfbkdalbjoaaGreat
open Go.RowKit Go.Joins
attribute [local go_sem ↓] Go.wp_at_zero Go.wp_at_succ

section
variable {w w' : World} {B sb lb db : Nat} {S S' T : Nat → Prop} {v : Value} {x : SSt}
/-- a step of the disk alone -/
theorem SK.step (h : SK w B sb lb db S v x) {s' : DSt} (hk : DK w' B db S' s') (hs : StepV w w' B S S') (hl : s'.now.length = x.d.now.length) : SK w' B sb lb db S' v { x with d := s' } := by
  have f1 := hs.far sb h.hd.lt h.ns
  refine ⟨h.hd.kept f1.1, ?_, own_block h.own fun k e => (hs.far k (World.ownsRow.lt h.own k e).2 (h.nv k e).2.2).1, f1.2, h.nl, fun k e => ⟨(h.nv k e).1, (h.nv k e).2.1, (hs.far k (World.ownsRow.lt h.own k e).2 (h.nv k e).2.2).2⟩, h.lo⟩
  have := h.lk.step hk hs hl
  show LK w' B lb db S' 50 (s'.now.length - 50) x.first x.used s'
  rw [hl]
  exact this
theorem stepV_S {S1 S2 : Nat → Prop} (hs : StepV w w' B S1 S2) : StepV w w' B (inS sb lb v S1) (inS sb lb v S2) :=
  ⟨hs.bel, fun j hj hn => ⟨(hs.far j hj fun e => hn (.inr (.inr (.inr e)))).1, fun e => e.elim (fun e => hn (.inl e)) fun e => e.elim (fun e => hn (.inr (.inl e))) fun e => e.elim (fun e => hn (.inr (.inr (.inl e)))) (hs.far j hj fun e => hn (.inr (.inr (.inr e)))).2⟩⟩
/-- behind laying, and opening the log anew: header's cells laid -/
theorem SK.turn {W1 W2 : World} (h : SK w B sb lb db S v x) {s' : DSt} {S2 : Nat → Prop} {lb' area' first' : Nat} {dv : Value} {ds : List (List Chg)} (hk : DK W1 B db S2 s') (hs : StepV w W1 B S S2) (hl : s'.now.length = x.d.now.length) (ho : OpenAt W1 W2 lb' db 50 (s'.now.length - 50) first' dv ds 0) (hn : 50 ≤ s'.now.length) (hf : 1 ≤ first' ∧ first' ≤ 2) :
    ActS w ((W2.setCell ⟨sb, 1, none⟩ (.pointer (some ⟨lb', 0, none⟩))).setCell ⟨sb, 2, none⟩ (.int .i64 (area' : Int))) B sb db (inS sb lb v S) ⟨s', area', first', 0, x.rows⟩ := by
  have h1 := h.step hk hs hl
  have h2 := h1.hd.kept (ho.bel.block sb h1.hd.lt)
  have hsl : sb < W2.heap.size := h2.lt
  have hnew := ho.new
  have hs1 := h1.hd.lt
  have hk2 : ∀ k, k ≠ sb → ((W2.setCell ⟨sb, 1, none⟩ (.pointer (some ⟨lb', 0, none⟩))).setCell ⟨sb, 2, none⟩ (.int .i64 (area' : Int))).heap[k]? = W2.heap[k]? := fun k hn => (Below.heap_setCell _ _ _ _ hn).trans (Below.heap_setCell _ _ _ _ hn)
  have hown2 := own_on h1.own ho.bel
  have hne : lb' ≠ sb := by omega
  have hvb : ∀ k, v.ownBlock = some k → k ≠ lb' := fun k e => by have := (World.ownsRow.lt h1.own k e).2; omega
  have hnS : ¬ S2 lb' := fun e => by have := hk.lt e; omega
  refine ⟨_, ⟨lb', S2, v, ⟨⟨?_, ?_, ?_, ?_, fun j => by rw [World.frozen?_setCell, World.frozen?_setCell]; exact h2.soft j⟩, ⟨(hk.on ho.bel).kept (by simp) fun k e => hk2 k fun e2 => h1.ns (e2 ▸ e), ho.hd.kept (hk2 lb' hne), hnS, Nat.le_trans hk.lo hnew, Nat.zero_le _, by show 50 + (s'.now.length - 50) ≤ s'.now.length; omega, hf.1, by show first' ≤ 1500000; omega⟩, own_block hown2 fun k e => hk2 k (h.nv k e).1, h1.ns, hne.symm, fun k e => ⟨(h.nv k e).1, hvb k e, (h1.nv k e).2.2⟩, h.lo⟩, rfl⟩, ?_, fun j hj hnj => ?_⟩
  · exact (World.cell?_setCell_other _ _ _ _ (by simp)).trans ((World.cell?_setCell_other _ _ _ _ (by simp)).trans h2.c0)
  · exact (World.cell?_setCell_other _ _ _ _ (by simp)).trans (World.cell?_setCell_same _ _ _ h2.c1)
  · exact World.cell?_setCell_same _ _ _ ((World.cell?_setCell_other _ _ _ _ (by simp)).trans h2.c2)
  · exact (World.cell?_setCell_other _ _ _ _ (by simp)).trans ((World.cell?_setCell_other _ _ _ _ (by simp)).trans h2.c3)
  · exact ((hs.bel.trans (ho.bel.mono hk.lo)).setCell (p := ⟨sb, 1, none⟩) h.lo _).setCell (p := ⟨sb, 2, none⟩) h.lo _
  · have n1 : ¬ S j := fun e => hnj (.inr (.inr (.inr e)))
    have n2 : j ≠ sb := fun e => hnj (.inl e)
    have n3 : ¬ v.ownBlock = some j := fun e => hnj (.inr (.inr (.inl e)))
    have f1 := hs.far j hj n1
    have hj1 := Nat.lt_of_lt_of_le hj hs.bel.size
    refine ⟨(hk2 j n2).trans ((ho.bel.block j hj1).trans f1.1), fun e => ?_⟩
    rcases e with e | e | e | e
    · exact n2 e
    · omega
    · exact n3 e
    · exact f1.2 e
/-- behind laying: the disk, and the root that was returned -/
structure CPX (w W : World) (B db rb : Nat) (S : Nat → Prop) (s : DSt) (x y z : Int) : Prop where
  ex : ∃ S2, DK W B db S2 s ∧ StepV w W B S S2
  ge : w.heap.size ≤ rb
  k0 : W.cell? ⟨rb, 0, none⟩ = some (.int .i64 x)
  k1 : W.cell? ⟨rb, 1, none⟩ = some (.int .i64 y)
  k2 : W.cell? ⟨rb, 2, none⟩ = some (.int .i64 z)
theorem CPX.ofA {w7 : World} {s : DSt} {a b c : Int} (hk : DK w7 B db S' s) (hs : StepV w.drew w7 B S S') (hB : B ≤ w.heap.size) : CPX w (w7.alloc (Obj.cells #[Value.int IntKind.i64 a, Value.int IntKind.i64 b, Value.int IntKind.i64 c] 64)) B db w7.heap.size S s a b c := by
  have hd : StepV w w.drew B S S := .on hB (Below.refl _ w).drew
  exact ⟨⟨S', hk.on (below_alloc1 _ _), (hd.trans hs).trans (.on hk.lo (below_alloc1 _ _))⟩, hs.bel.size, cell_new _ _ _ 0, cell_new _ _ _ 1, cell_new _ _ _ 2⟩
theorem CPX.ofB {w7 : World} {s : DSt} {a b c : Int} (hk : DK w7 B db S' s) (hs : StepV (w.alloc (Obj.cells #[Value.int IntKind.i64 0, Value.int IntKind.i64 0, Value.int IntKind.i64 0] 64)).drew w7 B S S') (hB : B ≤ w.heap.size) (hn : ¬ S w.heap.size) (t0 : w7.cell? ⟨w.heap.size, 0, none⟩ = some (.int .i64 0)) (t1 : w7.cell? ⟨w.heap.size, 1, none⟩ = some (.int .i64 0)) (t2 : w7.cell? ⟨w.heap.size, 2, none⟩ = some (.int .i64 0)) :
    CPX w (((w7.setCell ⟨w.heap.size, 0, none⟩ (.int .i64 a)).setCell ⟨w.heap.size, 1, none⟩ (.int .i64 b)).setCell ⟨w.heap.size, 2, none⟩ (.int .i64 c)) B db w.heap.size S s a b c := by
  have hd : StepV w (w.alloc (Obj.cells #[Value.int IntKind.i64 0, Value.int IntKind.i64 0, Value.int IntKind.i64 0] 64)).drew B S S := .on hB (below_alloc1 w _).drew
  have hz : w.heap.size < (w.alloc (Obj.cells #[Value.int IntKind.i64 0, Value.int IntKind.i64 0, Value.int IntKind.i64 0] 64)).drew.heap.size := by simp
  have fn := hs.far w.heap.size hz hn
  have hk3 : ∀ k, k ≠ w.heap.size → (((w7.setCell ⟨w.heap.size, 0, none⟩ (.int .i64 a)).setCell ⟨w.heap.size, 1, none⟩ (.int .i64 b)).setCell ⟨w.heap.size, 2, none⟩ (.int .i64 c)).heap[k]? = w7.heap[k]? := fun k hn => (Below.heap_setCell _ _ _ _ hn).trans ((Below.heap_setCell _ _ _ _ hn).trans (Below.heap_setCell _ _ _ _ hn))
  obtain ⟨k0, k1, k2⟩ := keep3' (x := .int .i64 a) (y := .int .i64 b) (z := .int .i64 c) t0 t1 t2
  have hst := hd.trans hs
  refine ⟨⟨S', hk.kept (by simp) fun k e => hk3 k fun e2 => fn.2 (e2 ▸ e), ⟨((hst.bel.setCell (p := ⟨w.heap.size, 0, none⟩) hB _).setCell (p := ⟨w.heap.size, 1, none⟩) hB _).setCell (p := ⟨w.heap.size, 2, none⟩) hB _, fun j hj hnj => ?_⟩⟩, Nat.le_refl _, k0, k1, k2⟩
  obtain ⟨f1, f2⟩ := hst.far j hj hnj
  exact ⟨(hk3 j (by omega)).trans f1, f2⟩
theorem keepO3 {W : World} {b b' : Nat} {x y z a0 a1 a2 : Value} (hne : b' ≠ b) (h : W.cell? ⟨b', 0, none⟩ = some a0 ∧ W.cell? ⟨b', 2, none⟩ = some a1 ∧ W.cell? ⟨b', 3, none⟩ = some a2) :
    (((W.setCell ⟨b, 0, none⟩ x).setCell ⟨b, 1, none⟩ y).setCell ⟨b, 2, none⟩ z).cell? ⟨b', 0, none⟩ = some a0 ∧ (((W.setCell ⟨b, 0, none⟩ x).setCell ⟨b, 1, none⟩ y).setCell ⟨b, 2, none⟩ z).cell? ⟨b', 2, none⟩ = some a1 ∧ (((W.setCell ⟨b, 0, none⟩ x).setCell ⟨b, 1, none⟩ y).setCell ⟨b, 2, none⟩ z).cell? ⟨b', 3, none⟩ = some a2 := by
  have hk : ∀ k, k ≠ b → (((W.setCell ⟨b, 0, none⟩ x).setCell ⟨b, 1, none⟩ y).setCell ⟨b, 2, none⟩ z).heap[k]? = W.heap[k]? := fun k hn => (Below.heap_setCell _ _ _ _ hn).trans ((Below.heap_setCell _ _ _ _ hn).trans (Below.heap_setCell _ _ _ _ hn))
  exact ⟨(World.cell?_of_block (a := ⟨b', 0, none⟩) (hk b' hne)).trans h.1, (World.cell?_of_block (a := ⟨b', 2, none⟩) (hk b' hne)).trans h.2.1, (World.cell?_of_block (a := ⟨b', 3, none⟩) (hk b' hne)).trans h.2.2⟩
set_option maxRecDepth 8000 in
set_option maxHeartbeats 8000000 in
theorem schk_any (w : World) (h : SA w B sb db T x) (hg : SGood x) : Calls Tryz.prog 12 #[.pointer (some ⟨sb, 0, none⟩)] w fun e w' => e = .returned (errV (chkR x).1) ∧ ActS w w' B sb db T (chkR x).2 := by
  obtain ⟨lb, S, v, hsk, rfl⟩ := h
  have ha1 := DRest.a1 hg
  have h54 := DRest.n54 hg
  have hfew := DRest.few hg
  have hB := hsk.lk.dk.lo
  have c0 := hsk.hd.c0
  have c2 := hsk.hd.c2
  have c3 := hsk.hd.c3
  have hsl := hsk.hd.lt
  obtain ⟨va, vc, hv, hh⟩ : ∃ va vc, v = .slice va x.rows.length vc ∧ heldCh w va x.rows := by
    rcases own_form hsk.own with ⟨e, e2⟩ | ⟨g, cap, e, _⟩
    · exact ⟨none, 0, by rw [e, e2], .inl (List.length_eq_zero_iff.1 e2)⟩
    · refine ⟨some ⟨g, 0, none⟩, cap, e, .inr ⟨g, 0, rfl, chgs_of_cells x.rows 0 fun j u hj => ?_⟩⟩
      have := World.ownsRow.cells hsk.own (g := g) (by rw [e]; rfl) j u hj
      rwa [Go.WideShapes.add_plain] at this
  have HLY : Hid (∀ W, Below w.heap.size w W → Calls Tryz.prog 24 #[.pointer (some ⟨db, 0, none⟩), .int .i64 ((1 - x.area : Nat) : Int), .slice va x.rows.length vc] W fun e w' => ∃ rv, e = .returned (.tuple #[rv, errV (layR (1 - x.area) x.rows x.d).1]) ∧ rootOk rv (layR (1 - x.area) x.rows x.d).1 (1 - x.area) (freshN x.d.now) (packB x.rows).size ∧ ActD W w' B db S (layR (1 - x.area) x.rows x.d).2) := fun W hb => lay_any (1 - x.area) x.rows va vc W (hsk.lk.dk.on hb) (by omega) h54 (heldCh_on hb hh) (DRest.fine hg) hfew
  have hlen := layR_len (1 - x.area) x.rows x.d
  have ea : (1 : Int) - (x.area : Int) = ((1 - x.area : Nat) : Int) := by omega
  have a0 : (0 : Int) ≤ (x.area : Int) := by omega
  have a1 : (x.area : Int) ≤ 1 := by omega
  have hwr : IntKind.i64.wrap (1 - (x.area : Int)) = ((1 - x.area : Nat) : Int) := by rw [ea]; simp [IntKind.wrap, IntKind.bits]; omega
  subst hv
  have HSK := hide hsk
  have HGD := hide hg
  clear hsk hg hh ea
  unfold chkR
  by_cases hf : (layR (1 - x.area) x.rows x.d).1 = 0
  · rw [if_pos hf]
    have hgn := hf
    rw [hf, errD_nil] at HLY
    have hchk := HGD.out.chk
    unfold chkR at hchk
    rw [if_pos hf] at hchk
    obtain ⟨_, _, hck⟩ := hchk
    have hgd2 : SGood ⟨(layR (1 - x.area) x.rows x.d).2, 1 - x.area, freshN x.d.now, 0, x.rows⟩ := by
      rcases hck with ⟨_, a, _⟩ | ⟨a, _⟩
      · exact a
      · cases a
    have HGD2 := hide hgd2
    have hfr := fresh_small x.d.now
    have HLE := hide hlen
    clear hf hlen hgn hck hgd2
    generalize layR (1 - x.area) x.rows x.d = r at *
    generalize (packB x.rows).size = size at *
    generalize freshN x.d.now = fr at *
    generalize 1 - x.area = ar at *
    obtain ⟨rows0, ds0, hod, hrw⟩ := HGD2.out.ex
    have hdn := HGD2.out.down
    have HOL : Hid (∀ W S2, DK W B db S2 r.2 → Calls Tryz.prog 21 #[.pointer (some ⟨db, 0, none⟩), .agg #[.int .i64 (ar : Int), .int .i64 (fr : Int), .int .i64 (size : Int)]] W fun e w' => ∃ lb dv, e = .returned (.tuple #[.pointer (some ⟨lb, 0, none⟩), dv, .nilIface]) ∧ ∃ dd, OpenAt W w' lb db 50 (r.2.now.length - 50) fr dv dd 0) := fun W S2 hk2 => by
      have h1 := openLog_good ar fr size W hk2 hdn (by rw [HLE.out]; omega) hfr.1 hfr.2
      have hsc : scanL fr 0 (secsD r.2 50 (r.2.now.length - 50)) ([], []) 0 = (ds0, 0) := hod.has
      have hus : usedL (secsD r.2 50 (r.2.now.length - 50)) fr = 0 := by unfold usedL; rw [hsc]
      rw [hus] at h1
      exact h1.mono fun e w' ⟨lb, dv, he, ho⟩ => ⟨lb, dv, he, _, ho⟩
    clear hod hrw hdn
    go_enter Tryz.func12, Tryz.ntmps12
    go_wp2_with fail
    have HZA : Hid (w.heap.size < (w.alloc (Obj.cells #[Value.int IntKind.i64 0, Value.int IntKind.i64 0, Value.int IntKind.i64 0] 64)).heap.size) := hide (by simp)
    have HNS : Hid (¬ S w.heap.size) := fun e => by have := HSK.out.lk.dk.lt e; omega
    have HSN : Hid (sb ≠ w.heap.size) := hide (by omega)
    go_region_held3 (fun w' => w'.cell? ⟨sb, 0, none⟩ = some (.pointer (some ⟨db, 0, none⟩)) ∧ w'.cell? ⟨sb, 2, none⟩ = some (.int .i64 (x.area : Int)) ∧ w'.cell? ⟨sb, 3, none⟩ = some (.slice va x.rows.length vc)) (first | exact ⟨c0, c2, c3⟩ | exact HC7.out | exact ⟨cell_on (below_alloc1 _ _) HC7.out.1, cell_on (below_alloc1 _ _) HC7.out.2.1, cell_on (below_alloc1 _ _) HC7.out.2.2⟩ | exact keepO3 HSN.out HC7.out | exact ⟨cell_on (below_alloc1 _ _).drew c0, cell_on (below_alloc1 _ _).drew c2, cell_on (below_alloc1 _ _).drew c3⟩ | go_keep) (first | (go_at_call 24; refine (HLY.out _ (by first | exact (Below.refl _ w).drew | exact (below_alloc1 w _).drew)).mono ?_; rintro e w7 ⟨rv7, rfl, ⟨x7, y7, z7, rfl, hrv7⟩, ⟨S7, hk7, hs7⟩⟩; have f7 := hs7.far sb (by first | exact hsl | exact Nat.lt_of_lt_of_le hsl (below_alloc1 w _).size) HSK.out.ns; have HC7 : Hid (w7.cell? ⟨sb, 0, none⟩ = some (.pointer (some ⟨db, 0, none⟩)) ∧ w7.cell? ⟨sb, 2, none⟩ = some (.int .i64 (x.area : Int)) ∧ w7.cell? ⟨sb, 3, none⟩ = some (.slice va x.rows.length vc)) := (by first | exact ⟨(World.cell?_of_block (a := ⟨sb, 0, none⟩) f7.1).trans c0, (World.cell?_of_block (a := ⟨sb, 2, none⟩) f7.1).trans c2, (World.cell?_of_block (a := ⟨sb, 3, none⟩) f7.1).trans c3⟩ | exact ⟨(World.cell?_of_block (a := ⟨sb, 0, none⟩) f7.1).trans (cell_on (below_alloc1 w _).drew c0), (World.cell?_of_block (a := ⟨sb, 2, none⟩) f7.1).trans (cell_on (below_alloc1 w _).drew c2), (World.cell?_of_block (a := ⟨sb, 3, none⟩) f7.1).trans (cell_on (below_alloc1 w _).drew c3)⟩); (first | (have z7 := (hs7.far w.heap.size (by exact HZA.out) HNS.out).1; have t0 : w7.cell? ⟨w.heap.size, 0, none⟩ = some (.int .i64 0) := (World.cell?_of_block (a := ⟨w.heap.size, 0, none⟩) z7).trans (cell_new w _ _ 0); have t1 : w7.cell? ⟨w.heap.size, 1, none⟩ = some (.int .i64 0) := (World.cell?_of_block (a := ⟨w.heap.size, 1, none⟩) z7).trans (cell_new w _ _ 1); have t2 : w7.cell? ⟨w.heap.size, 2, none⟩ = some (.int .i64 0) := (World.cell?_of_block (a := ⟨w.heap.size, 2, none⟩) z7).trans (cell_new w _ _ 2); have tf : ∀ j, w7.frozen? ⟨w.heap.size, j, none⟩ = false := (fun j => (World.frozen?_of_block (a := ⟨w.heap.size, j, none⟩) z7).trans (frozen_new w _ _ j)); clear z7) | skip); dsimp only))
    all_goals
      obtain ⟨e1, e2, e3⟩ := hrv7 rfl
      subst e1 e2 e3
    all_goals
      first
        | (have hcp := CPX.ofA (a := (ar : Int)) (b := (fr : Int)) (c := (size : Int)) hk7 hs7 hB
           generalize w7.alloc (Obj.cells #[Value.int IntKind.i64 (ar : Int), Value.int IntKind.i64 (fr : Int), Value.int IntKind.i64 (size : Int)] 64) = W at *
           generalize w7.heap.size = rb at *)
        | (have hcp := CPX.ofB (a := (ar : Int)) (b := (fr : Int)) (c := (size : Int)) hk7 hs7 hB HNS.out t0 t1 t2
           generalize ((w7.setCell ⟨w.heap.size, 0, none⟩ (Value.int IntKind.i64 (ar : Int))).setCell ⟨w.heap.size, 1, none⟩ (Value.int IntKind.i64 (fr : Int))).setCell ⟨w.heap.size, 2, none⟩ (Value.int IntKind.i64 (size : Int)) = W at *
           obtain ⟨rb, hrb⟩ : ∃ rb, w.heap.size = rb := ⟨_, rfl⟩
           rw [hrb] at hcp ⊢
           clear hrb t0 t1 t2 tf)
      have HCP := hide hcp
      clear hcp hk7 hs7 f7 HC7
    all_goals
      obtain ⟨S2, q1, q2⟩ := HCP.out.ex
      have k0 := HCP.out.k0
      have k1 := HCP.out.k1
      have k2 := HCP.out.k2
      have hsk2 := HSK.out.step q1 q2 HLE.out
      have d0 := hsk2.hd.c0
      have HS2 := hide hsk2
      have HQ1 := hide q1
      have HQ2 := hide q2
      have HRS : Hid (rb ≠ sb) := hide (by have := HCP.out.ge; omega)
      clear hsk2 q1 q2 HCP
      go_wp2_with fail
      go_region_held3 (fun w' => w'.cell? ⟨sb, 0, none⟩ = some (.pointer (some ⟨db, 0, none⟩)) ∧ w'.cell? ⟨rb, 0, none⟩ = some (.int .i64 (ar : Int)) ∧ w'.cell? ⟨rb, 1, none⟩ = some (.int .i64 (fr : Int)) ∧ w'.cell? ⟨rb, 2, none⟩ = some (.int .i64 (size : Int))) (first | exact ⟨d0, k0, k1, k2⟩ | exact HC8.out | go_keep) (first | (go_at_call 21; refine (HOL.out _ S2 (HQ1.out.on (Below.refl _ _).drew)).mono ?_; rintro e w8 ⟨lb8, dv8, rfl, dd8, ho8⟩; have HC8 : Hid (w8.cell? ⟨sb, 0, none⟩ = some (.pointer (some ⟨db, 0, none⟩)) ∧ w8.cell? ⟨rb, 0, none⟩ = some (.int .i64 (ar : Int)) ∧ w8.cell? ⟨rb, 1, none⟩ = some (.int .i64 (fr : Int)) ∧ w8.cell? ⟨rb, 2, none⟩ = some (.int .i64 (size : Int))) := ⟨cell_on ho8.bel d0, cell_on ho8.bel k0, cell_on ho8.bel k1, cell_on ho8.bel k2⟩; dsimp only))
      have hsk8 := (HS2.out.on (Below.refl _ _).drew).hd.kept (ho8.bel.block sb (HS2.out.on (Below.refl _ _).drew).hd.lt)
      have m1 := hsk8.c1
      have m2 := hsk8.c2
      have mf := hsk8.soft
      have n0 := HC8.out.2.1
      have HO8 := hide ho8
      clear hsk8 ho8 HC8 d0 k0 k1 k2
      have hrs := HRS.out
      have hsr : sb ≠ rb := fun e => hrs e.symm
      go_wp2_with fail
      go_region_held3 (fun w' => w'.cell? ⟨rb, 0, none⟩ = some (.int .i64 (ar : Int))) (first | exact n0 | go_keep) (fail)
      go_wp2
      go_ret
      refine ⟨rfl, ?_⟩
      have hend := HSK.out.turn (area' := ar) (HQ1.out.on (Below.refl _ _).drew) (HQ2.out.trans (.on HQ1.out.lo (Below.refl _ _).drew)) HLE.out HO8.out (by rw [HLE.out]; omega) hfr
      exact hend.post (Below.refl _ _).drew
  · rw [if_neg hf]
    have HER : Hid (errV (layR (1 - x.area) x.rows x.d).1 = .iface 57 (.int .i64 (layR (1 - x.area) x.rows x.d).1)) := errD_pos hf
    rw [HER.out] at HLY ⊢
    have HF := hide hf
    have HLE := hide hlen
    clear hf hlen
    generalize layR (1 - x.area) x.rows x.d = r at *
    generalize (packB x.rows).size = size at *
    generalize freshN x.d.now = fr at *
    generalize 1 - x.area = ar at *
    go_enter Tryz.func12, Tryz.ntmps12
    go_wp2_with fail
    have HZA : Hid (w.heap.size < (w.alloc (Obj.cells #[Value.int IntKind.i64 0, Value.int IntKind.i64 0, Value.int IntKind.i64 0] 64)).heap.size) := hide (by simp)
    have HNS : Hid (¬ S w.heap.size) := fun e => by have := HSK.out.lk.dk.lt e; omega
    have HSN : Hid (sb ≠ w.heap.size) := hide (by omega)
    go_region_held3 (fun w' => w'.cell? ⟨sb, 0, none⟩ = some (.pointer (some ⟨db, 0, none⟩)) ∧ w'.cell? ⟨sb, 2, none⟩ = some (.int .i64 (x.area : Int)) ∧ w'.cell? ⟨sb, 3, none⟩ = some (.slice va x.rows.length vc)) (first | exact ⟨c0, c2, c3⟩ | exact HC7.out | exact ⟨cell_on (below_alloc1 _ _) HC7.out.1, cell_on (below_alloc1 _ _) HC7.out.2.1, cell_on (below_alloc1 _ _) HC7.out.2.2⟩ | exact keepO3 HSN.out HC7.out | exact ⟨cell_on (below_alloc1 _ _).drew c0, cell_on (below_alloc1 _ _).drew c2, cell_on (below_alloc1 _ _).drew c3⟩ | go_keep) (first | (go_at_call 24; refine (HLY.out _ (by first | exact (Below.refl _ w).drew | exact (below_alloc1 w _).drew)).mono ?_; rintro e w7 ⟨rv7, rfl, ⟨x7, y7, z7, rfl, hrv7⟩, ⟨S7, hk7, hs7⟩⟩; have f7 := hs7.far sb (by first | exact hsl | exact Nat.lt_of_lt_of_le hsl (below_alloc1 w _).size) HSK.out.ns; have HC7 : Hid (w7.cell? ⟨sb, 0, none⟩ = some (.pointer (some ⟨db, 0, none⟩)) ∧ w7.cell? ⟨sb, 2, none⟩ = some (.int .i64 (x.area : Int)) ∧ w7.cell? ⟨sb, 3, none⟩ = some (.slice va x.rows.length vc)) := (by first | exact ⟨(World.cell?_of_block (a := ⟨sb, 0, none⟩) f7.1).trans c0, (World.cell?_of_block (a := ⟨sb, 2, none⟩) f7.1).trans c2, (World.cell?_of_block (a := ⟨sb, 3, none⟩) f7.1).trans c3⟩ | exact ⟨(World.cell?_of_block (a := ⟨sb, 0, none⟩) f7.1).trans (cell_on (below_alloc1 w _).drew c0), (World.cell?_of_block (a := ⟨sb, 2, none⟩) f7.1).trans (cell_on (below_alloc1 w _).drew c2), (World.cell?_of_block (a := ⟨sb, 3, none⟩) f7.1).trans (cell_on (below_alloc1 w _).drew c3)⟩); (first | (have z7 := (hs7.far w.heap.size (by exact HZA.out) HNS.out).1; have t0 : w7.cell? ⟨w.heap.size, 0, none⟩ = some (.int .i64 0) := (World.cell?_of_block (a := ⟨w.heap.size, 0, none⟩) z7).trans (cell_new w _ _ 0); have t1 : w7.cell? ⟨w.heap.size, 1, none⟩ = some (.int .i64 0) := (World.cell?_of_block (a := ⟨w.heap.size, 1, none⟩) z7).trans (cell_new w _ _ 1); have t2 : w7.cell? ⟨w.heap.size, 2, none⟩ = some (.int .i64 0) := (World.cell?_of_block (a := ⟨w.heap.size, 2, none⟩) z7).trans (cell_new w _ _ 2); have tf : ∀ j, w7.frozen? ⟨w.heap.size, j, none⟩ = false := (fun j => (World.frozen?_of_block (a := ⟨w.heap.size, j, none⟩) z7).trans (frozen_new w _ _ j)); clear z7) | skip); dsimp only))
    all_goals
      first
        | (have hcp := CPX.ofA (a := x7) (b := y7) (c := z7) hk7 hs7 hB
           generalize w7.alloc (Obj.cells #[Value.int IntKind.i64 x7, Value.int IntKind.i64 y7, Value.int IntKind.i64 z7] 64) = W at *
           generalize w7.heap.size = rb at *)
        | (have hcp := CPX.ofB (a := x7) (b := y7) (c := z7) hk7 hs7 hB HNS.out t0 t1 t2
           generalize ((w7.setCell ⟨w.heap.size, 0, none⟩ (Value.int IntKind.i64 x7)).setCell ⟨w.heap.size, 1, none⟩ (Value.int IntKind.i64 y7)).setCell ⟨w.heap.size, 2, none⟩ (Value.int IntKind.i64 z7) = W at *
           obtain ⟨rb, hrb⟩ : ∃ rb, w.heap.size = rb := ⟨_, rfl⟩
           rw [hrb] at hcp ⊢
           clear hrb t0 t1 t2 tf)
      have HCP := hide hcp
      clear hcp hk7 hs7 f7 HC7
    all_goals
      go_wp2
      go_ret
      obtain ⟨S2, q1, q2⟩ := HCP.out.ex
      exact ⟨rfl, _, ⟨lb, S2, _, HSK.out.step q1 q2 HLE.out, rfl⟩, stepV_S q2⟩
end
end Go.Proofs.YtkfpfbkdalbjoaaGreat

/-
  What Store.Commit returns and leaves.
-/
namespace Go.Proofs.YtkfpfbkdalbjoaaGreat
open Go.RowKit Go.Joins
attribute [local go_sem ↓] Go.wp_at_zero Go.wp_at_succ

section
variable {w w' : World} {B sb lb db : Nat} {S S' T : Nat → Prop} {v : Value} {x : SSt}
/-- a deed was added to its log -/
theorem SK.added (h : SK w B sb lb db S v x) {s' : DSt} {u : Nat} (hk : LK w' B lb db S' 50 (x.d.now.length - 50) x.first u s') (hs : StepV w w' B (inL lb S) (inL lb S')) (hl : s'.now.length = x.d.now.length) : SK w' B sb lb db S' v { x with d := s', used := u } ∧ StepV w w' B (inS sb lb v S) (inS sb lb v S') := by
  have nsb : ¬ inL lb S sb := fun e => e.elim h.nl h.ns
  have nvb : ∀ k, v.ownBlock = some k → ¬ inL lb S k := fun k e e2 => e2.elim (h.nv k e).2.1 (h.nv k e).2.2
  have f1 := hs.far sb h.hd.lt nsb
  refine ⟨⟨h.hd.kept f1.1, ?_, own_block h.own fun k e => (hs.far k (World.ownsRow.lt h.own k e).2 (nvb k e)).1, fun e => f1.2 (.inr e), h.nl, fun k e => ⟨(h.nv k e).1, (h.nv k e).2.1, fun e2 => (hs.far k (World.ownsRow.lt h.own k e).2 (nvb k e)).2 (.inr e2)⟩, h.lo⟩, hs.bel, fun j hj hn => ?_⟩
  · show LK w' B lb db S' 50 (s'.now.length - 50) x.first u s'
    rw [hl]
    exact hk
  · obtain ⟨a, b⟩ := hs.far j hj (fun e => e.elim (fun e => hn (.inr (.inl e))) fun e => hn (.inr (.inr (.inr e))))
    exact ⟨a, fun e => e.elim (fun e => hn (.inl e)) fun e => e.elim (fun e => hn (.inr (.inl e))) fun e => e.elim (fun e => hn (.inr (.inr (.inl e)))) fun e => b (.inr e)⟩
/-- its rows are others now -/
theorem SK.finish {w3 : World} {y : SSt} {v2 : Value} {rows2 : List Chg} (h : SK w3 B sb lb db S v y) (hst : StepV w w3 B T (inS sb lb v S)) (hB : B ≤ w.heap.size) (ho : ownCh w3 w.heap.size v2 rows2) (hap : ∀ k, v2.ownBlock = some k → ¬ inS sb lb v S k) : ActS w (w3.setCell ⟨sb, 3, none⟩ v2) B sb db T { y with rows := rows2 } := by
  have hk2 : ∀ k, k ≠ sb → (w3.setCell ⟨sb, 3, none⟩ v2).heap[k]? = w3.heap[k]? := fun k hn => Below.heap_setCell _ _ _ _ hn
  have hv : ∀ k, v2.ownBlock = some k → k ≠ sb ∧ k ≠ lb ∧ ¬ S k := fun k e => ⟨fun e2 => hap k e (.inl e2), fun e2 => hap k e (.inr (.inl e2)), fun e2 => hap k e (.inr (.inr (.inr e2)))⟩
  refine ⟨_, ⟨lb, S, v2, ⟨⟨(World.cell?_setCell_other _ _ _ _ (by simp)).trans h.hd.c0, (World.cell?_setCell_other _ _ _ _ (by simp)).trans h.hd.c1, (World.cell?_setCell_other _ _ _ _ (by simp)).trans h.hd.c2, World.cell?_setCell_same _ _ _ h.hd.c3, fun j => by rw [World.frozen?_setCell]; exact h.hd.soft j⟩, ?_, ?_, h.ns, h.nl, hv, h.lo⟩, rfl⟩, hst.bel.setCell (p := ⟨sb, 3, none⟩) h.lo v2, fun j hj hn => ?_⟩
  · exact ⟨h.lk.dk.kept (by simp) fun k e => hk2 k fun e2 => h.ns (e2 ▸ e), h.lk.hd.kept (hk2 lb fun e => h.nl e.symm), h.lk.nl, h.lk.lo, h.lk.us, h.lk.fit, h.lk.f1⟩
  · exact ownCh_le (own_block ho fun k e => hk2 k (hv k e).1) hB
  · obtain ⟨a, b⟩ := hst.far j hj hn
    refine ⟨(hk2 j fun e => b (.inl e)).trans a, fun e => ?_⟩
    rcases e with e | e | e | e
    · exact b (.inl e)
    · exact b (.inr (.inl e))
    · have := (World.ownsRow.lt ho j e).1; omega
    · exact b (.inr (.inr (.inr e)))
theorem addR_len (fr many first used : Nat) (s : DSt) (l : List Chg) : (addR fr many first used s l).2.2.now.length = s.now.length := by
  unfold addR
  split
  · rfl
  · exact runD_len _ _
/-- a slice that nothing of a store lies in -/
def apart (T : Nat → Prop) (ao : Option Addr) (l : List Chg) : Prop := l = [] ∨ ∀ a, ao = some a → ¬ T a.block
theorem apart.step {T' : Nat → Prop} {ao : Option Addr} {l : List Chg} (h : apart T ao l) (hh : heldCh w ao l) (hs : StepV w w' B T T') : apart T' ao l ∧ heldCh w' ao l := by
  rcases h with h | h
  · exact ⟨.inl h, .inl h⟩
  · rcases hh with hh | ⟨b, off, e, hc⟩
    · exact ⟨.inl hh, .inl hh⟩
    · subst e
      by_cases hl : l = []
      · exact ⟨.inl hl, .inl hl⟩
      · have hb : b < w.heap.size := World.block_lt_of_cell? _ _ (hc 0 (List.length_pos_iff.2 hl)).1
        obtain ⟨a, n⟩ := hs.far b hb (h _ rfl)
        exact ⟨.inr fun a e => by cases e; exact n, .inr ⟨b, off, rfl, fun i hi => ⟨(World.cell?_of_block (a := ⟨b, _, none⟩) a).trans (hc i hi).1, (World.cell?_of_block (a := ⟨b, _, none⟩) a).trans (hc i hi).2.1, (World.cell?_of_block (a := ⟨b, _, none⟩) a).trans (hc i hi).2.2⟩⟩⟩
end
end Go.Proofs.YtkfpfbkdalbjoaaGreat

/-
  What Store.Commit returns and leaves (the walk).
-/
namespace Go.Proofs.YtkfpfbkdalbjoaaGreat
open Go.RowKit Go.Joins
attribute [local go_sem ↓] Go.wp_at_zero Go.wp_at_succ

section
variable {w w' : World} {B sb lb db : Nat} {S S' T : Nat → Prop} {v : Value} {x : SSt}
set_option maxRecDepth 8000 in
set_option maxHeartbeats 8000000 in
theorem scommit_any (l : List Chg) (ao : Option Addr) (cap : Nat) (w : World) (h : SA w B sb db T x) (hg : SGood x) (hd : heldCh w ao l) (hap : apart T ao l) (hl : l.length ≤ 100) (hsz : ∀ c ∈ l, c.key.size ≤ 1000 ∧ c.val.size ≤ 1000) :
    Calls Tryz.prog 10 #[.pointer (some ⟨sb, 0, none⟩), .slice ao l.length cap] w fun e w' => e = .returned (errV (comR x l).1) ∧ ActS w w' B sb db T (comR x l).2 := by
  have hfew := DRest.few hg
  have h54 := DRest.n54 hg
  have hus := DRest.us hg
  have hB := h.blo
  have HCK := hide (scheck_any l ao cap w hd (by omega) (fun c hc => by have := hsz c hc; unfold maxLen; omega))
  have HSA := hide h
  have HGD := hide hg
  have HHD0 := hide hd
  have HAP0 := hide hap
  have HSZ := hide hsz
  clear h hg hd hap hsz
  by_cases h1 : deedF l = 0
  · obtain ⟨lb0, S0, v0, hsk0, hT0⟩ := HSA.out
    have c0 := hsk0.hd.c0
    have c3 := hsk0.hd.c3
    have HSK0 := hide hsk0
    have hm := hsk0.lk.dk.many
    have HD0 := hide h1
    have hbl := behind_len x.rows l
    have hl0 : (l.length : Int) ≤ 100 := by omega
    rw [h1, errD_nil] at HCK
    clear hsk0 h1 hT0
    by_cases h2 : 40 < (behindL x.rows l).length ∨ x.d.now.length - 50 < l.length + 1
    · have ecom : comR x l = (8, x) := by
        have ef : comF x l = 8 := by unfold comF; rw [if_neg (by rw [HD0.out]; decide), if_pos h2]
        unfold comR
        rw [ef, if_pos (by decide)]
      rw [ecom]
      clear ecom
      have HE8 : Hid (errV 8 = .iface 57 (.int .i64 8)) := rfl
      have H2 := hide h2
      clear h2
      go_enter Tryz.func10, Tryz.ntmps10
      go_wp2_with fail
      refine HCK.out.mono ?_
      rintro e w1 ⟨rfl, hb1⟩
      have HB1 := hide hb1
      replace c0 := cell_on hb1 c0
      replace c3 := cell_on hb1 c3
      have HBH := hide (behind_any x.rows l v0 ao cap B w1 (own_on HSK0.out.own hb1) (heldCh_on hb1 HHD0.out) (by omega) (by omega))
      clear hb1
      go_wp2_with fail
      refine HBH.out.mono ?_
      rintro e w2 ⟨v2, rfl, ho2, hb2⟩
      have HB2 := hide (below_on HB1.out (Nat.le_refl _) hb2)
      have HO2 := hide (ownCh_le ho2 HB1.out.size)
      replace c0 := cell_on hb2 c0
      replace c3 := cell_on hb2 c3
      obtain ⟨va, vc, rfl⟩ : ∃ va vc, v2 = .slice va (behindL x.rows l).length vc := by
        rcases own_form ho2 with ⟨e, e2⟩ | ⟨g, cap', e, _⟩
        · exact ⟨none, 0, by rw [e, e2]⟩
        · exact ⟨_, cap', e⟩
      have HLS := hide (logSectors_any w2 (HSK0.out.lk.dk.on HB2.out) (by omega))
      have HRM := hide (sroom_any w2 (HSA.out.on HB2.out))
      have HSTD : Hid (∀ n, StepV w (w2.drewN n) B T T) := fun n => .on hB (below_drewN HB2.out n)
      clear ho2 hb2 HBH HCK HB1
      generalize hn2e : (behindL x.rows l).length = n2 at *
      have HNE := hide hn2e
      clear hn2e
      have h2 := H2.out
      have HEND := hide (HSA.out.stay HB2.out)
      by_cases h3 : 40 < n2
      · have h3' : (40 : Int) < (n2 : Int) := by omega
        clear h2
        go_wp2
        go_ret
        exact ⟨by rw [HE8.out]; rfl, HEND.out⟩
      · have h3' : ¬ (40 : Int) < (n2 : Int) := by omega
        have h4' : ((x.d.now.length - 50 : Nat) : Int) < (l.length : Int) + 1 := by omega
        clear h2 H2
        generalize x.d.now.length - 50 = m at *
        go_wp2_with fail
        refine HLS.out.mono ?_
        rintro e w3 ⟨rfl, rfl⟩
        go_wp2
        go_ret
        exact ⟨by rw [HE8.out]; rfl, HEND.out⟩
    · have HN2 : Hid ((behindL x.rows l).length ≤ 40 ∧ l.length + 1 ≤ x.d.now.length - 50) := hide (by omega)
      have ef : comF x l = 0 := by unfold comF; rw [if_neg (by rw [HD0.out]; decide), if_neg h2]
      have ecom : comR x l = if (comR1 x l).1 ≠ 0 then comR1 x l else comR2 (comR1 x l).2 l (behindL x.rows l) := by unfold comR; rw [if_neg (by rw [ef]; decide)]
      rw [ecom]
      clear ecom ef h2
      have h3' : ¬ (40 : Int) < ((behindL x.rows l).length : Int) := by have := HN2.out; omega
      have h4' : ¬ ((x.d.now.length - 50 : Nat) : Int) < (l.length : Int) + 1 := by have := HN2.out; omega
      have hrI : ((x.d.now.length - 50 - x.used : Nat) : Int) ≤ 200 := by omega
      by_cases hroom : x.d.now.length - 50 - x.used < l.length + 1
      · have hroom' : ((x.d.now.length - 50 - x.used : Nat) : Int) < (l.length : Int) + 1 := by omega
        have e1 : comR1 x l = chkR x := if_pos hroom
        rw [e1]
        clear e1 hroom
        have HCP : Hid (∀ W, Below w.heap.size w W → Calls Tryz.prog 12 #[.pointer (some ⟨sb, 0, none⟩)] W fun e w' => e = .returned (errV (chkR x).1) ∧ ActS W w' B sb db T (chkR x).2) := fun W hb => schk_any W (HSA.out.on hb) HGD.out
        by_cases hc0 : (chkR x).1 = 0
        · rw [if_neg (by rw [hc0]; decide)]
          rw [hc0, errD_nil] at HCP
          clear hc0
          generalize (chkR x).2 = Y at *
          obtain ⟨R, hRe⟩ : ∃ R, addR 50 (Y.d.now.length - 50) Y.first Y.used Y.d l = R := ⟨_, rfl⟩
          have HRE := hide hRe
          have HAL : Hid (R.2.2.now.length = Y.d.now.length) := by rw [← hRe]; exact addR_len 50 (Y.d.now.length - 50) Y.first Y.used Y.d l
          unfold comR2
          rw [hRe]
          obtain ⟨RW, hRW⟩ : ∃ RW, RW = if R.1 = 0 then behindL x.rows l else Y.rows := ⟨_, rfl⟩
          rw [← hRW]
          have HRW := hide hRW
          clear hRe hRW
          go_enter Tryz.func10, Tryz.ntmps10
          go_wp2_with fail
          refine HCK.out.mono ?_
          rintro e w1 ⟨rfl, hb1⟩
          have HB1 := hide hb1
          replace c0 := cell_on hb1 c0
          replace c3 := cell_on hb1 c3
          have HBH := hide (behind_any x.rows l v0 ao cap B w1 (own_on HSK0.out.own hb1) (heldCh_on hb1 HHD0.out) (by omega) (by omega))
          clear hb1
          go_wp2_with fail
          refine HBH.out.mono ?_
          rintro e w2 ⟨v2, rfl, ho2, hb2⟩
          have HB2 := hide (below_on HB1.out (Nat.le_refl _) hb2)
          have HO2 := hide (ownCh_le ho2 HB1.out.size)
          replace c0 := cell_on hb2 c0
          replace c3 := cell_on hb2 c3
          obtain ⟨va, vc, rfl⟩ : ∃ va vc, v2 = .slice va (behindL x.rows l).length vc := by
            rcases own_form ho2 with ⟨e, e2⟩ | ⟨g, cap', e, _⟩
            · exact ⟨none, 0, by rw [e, e2]⟩
            · exact ⟨_, cap', e⟩
          have HLS := hide (logSectors_any w2 (HSK0.out.lk.dk.on HB2.out) (by omega))
          have HRM := hide (sroom_any w2 (HSA.out.on HB2.out))
          have HSTD : Hid (∀ n, StepV w (w2.drewN n) B T T) := fun n => .on hB (below_drewN HB2.out n)
          clear ho2 hb2 HBH HCK HB1
          generalize hn2e : (behindL x.rows l).length = n2 at *
          have HNE := hide hn2e
          clear hn2e
          generalize hrme : x.d.now.length - 50 - x.used = rm at *
          clear hrme
          generalize hme : x.d.now.length - 50 = m at *
          have HME := hide hme
          clear hme
          go_wp2_with fail
          refine HLS.out.mono ?_
          rintro e w3 ⟨rfl, rfl⟩
          go_wp2_with fail
          refine HRM.out.mono ?_
          rintro e w4 ⟨rfl, nq, rfl⟩
          go_wp2_with fail
          refine (HCP.out _ (below_drewN HB2.out nq)).mono ?_
          rintro e W ⟨rfl, TY, hsa5, hst5⟩
          have hst6 := (HSTD.out nq).trans hst5
          have HHD := hide (HAP0.out.step HHD0.out hst6).2
          have HA := hide hsa5
          have HSTW := hide hst6
          have hfar5 : ∀ k, Value.ownBlock (.slice va n2 vc) = some k → W.heap[k]? = w3.heap[k]? ∧ ¬ TY k := fun k e => hst5.far k (World.ownsRow.lt HO2.out k e).2 (fun e2 => by have h1 := (World.ownsRow.lt HO2.out k e).1; have h2 := HSA.out.lt e2; omega)
          have HOW : Hid (ownCh W w.heap.size (.slice va n2 vc) (behindL x.rows l)) := own_block HO2.out fun k e => (hfar5 k e).1
          have HAP : Hid (∀ k, Value.ownBlock (.slice va n2 vc) = some k → ¬ TY k) := fun k e => (hfar5 k e).2
          clear hsa5 hst5 hst6 hfar5 HCP HRM HLS HO2 c0 c3
          obtain ⟨lb5, S5, v5, hsk5, hT5⟩ := HA.out
          have g1 := hsk5.hd.c1
          have HSK5 := hide hsk5
          have HT5 := hide hT5
          have HAD : Hid (Calls Tryz.prog 27 #[.pointer (some ⟨lb5, 0, none⟩), .slice ao l.length cap] W fun e w' => e = .returned (errV R.1) ∧ ActL' W w' B lb5 db S5 50 (Y.d.now.length - 50) Y.first R.2.1 R.2.2) := by
            have h1 := ladd_any l ao cap W hsk5.lk HHD.out HSZ.out (by omega)
            rw [HRE.out] at h1
            exact h1
          clear hsk5 hT5
          by_cases hr0 : R.1 = 0
          · rw [hr0, errD_nil] at HAD
            have HR0 := hide hr0
            clear hr0
            go_wp2_with fail
            refine HAD.out.mono ?_
            rintro e w8 ⟨rfl, S8, hlk8, hst8⟩
            obtain ⟨hsk8, hsv8⟩ := HSK5.out.added hlk8 hst8 HAL.out
            have q3 := hsk8.hd.c3
            have qf := hsk8.hd.soft
            have hown8 : ownCh w8 w.heap.size (.slice va n2 vc) (behindL x.rows l) ∧ ∀ k, Value.ownBlock (.slice va n2 vc) = some k → ¬ inS sb lb5 v5 S8 k := by
              have hap := HAP.out
              rw [HT5.out] at hap
              exact ⟨own_block HOW.out fun k e => (hsv8.far k (World.ownsRow.lt HOW.out k e).2 (hap k e)).1, fun k e => (hsv8.far k (World.ownsRow.lt HOW.out k e).2 (hap k e)).2⟩
            have hfin := hsk8.finish (by have h1 := HSTW.out; rw [HT5.out] at h1; exact h1.trans hsv8) hB hown8.1 hown8.2
            have HFIN := hide hfin
            clear hlk8 hst8 hsk8 hsv8 hown8 hfin
            go_wp2
            go_ret
            rw [HR0.out, HRW.out, if_pos HR0.out]
            exact ⟨rfl, HFIN.out⟩
          · have HER : Hid (errV R.1 = .iface 57 (.int .i64 R.1)) := errD_pos hr0
            rw [HER.out] at HAD
            have HR0 := hide hr0
            clear hr0
            go_wp2_with fail
            refine HAD.out.mono ?_
            rintro e w8 ⟨rfl, S8, hlk8, hst8⟩
            obtain ⟨hsk8, hsv8⟩ := HSK5.out.added hlk8 hst8 HAL.out
            have HSK8 := hide hsk8
            have HSV8 := hide hsv8
            clear hlk8 hst8 hsk8 hsv8
            go_wp2
            go_ret
            have h1 := HSTW.out
            rw [HT5.out] at h1
            rw [HRW.out, if_neg HR0.out]
            exact ⟨by rw [HER.out]; rfl, _, ⟨lb5, S8, v5, HSK8.out, rfl⟩, h1.trans HSV8.out⟩
        · have HER : Hid (errV (chkR x).1 = .iface 57 (.int .i64 (chkR x).1)) := errD_pos hc0
          rw [if_pos hc0]
          rw [HER.out] at HCP
          clear hc0
          go_enter Tryz.func10, Tryz.ntmps10
          go_wp2_with fail
          refine HCK.out.mono ?_
          rintro e w1 ⟨rfl, hb1⟩
          have HB1 := hide hb1
          replace c0 := cell_on hb1 c0
          replace c3 := cell_on hb1 c3
          have HBH := hide (behind_any x.rows l v0 ao cap B w1 (own_on HSK0.out.own hb1) (heldCh_on hb1 HHD0.out) (by omega) (by omega))
          clear hb1
          go_wp2_with fail
          refine HBH.out.mono ?_
          rintro e w2 ⟨v2, rfl, ho2, hb2⟩
          have HB2 := hide (below_on HB1.out (Nat.le_refl _) hb2)
          have HO2 := hide (ownCh_le ho2 HB1.out.size)
          replace c0 := cell_on hb2 c0
          replace c3 := cell_on hb2 c3
          obtain ⟨va, vc, rfl⟩ : ∃ va vc, v2 = .slice va (behindL x.rows l).length vc := by
            rcases own_form ho2 with ⟨e, e2⟩ | ⟨g, cap', e, _⟩
            · exact ⟨none, 0, by rw [e, e2]⟩
            · exact ⟨_, cap', e⟩
          have HLS := hide (logSectors_any w2 (HSK0.out.lk.dk.on HB2.out) (by omega))
          have HRM := hide (sroom_any w2 (HSA.out.on HB2.out))
          have HSTD : Hid (∀ n, StepV w (w2.drewN n) B T T) := fun n => .on hB (below_drewN HB2.out n)
          clear ho2 hb2 HBH HCK HB1
          generalize hn2e : (behindL x.rows l).length = n2 at *
          have HNE := hide hn2e
          clear hn2e
          generalize hrme : x.d.now.length - 50 - x.used = rm at *
          clear hrme
          generalize hme : x.d.now.length - 50 = m at *
          have HME := hide hme
          clear hme
          go_wp2_with fail
          refine HLS.out.mono ?_
          rintro e w3 ⟨rfl, rfl⟩
          go_wp2_with fail
          refine HRM.out.mono ?_
          rintro e w4 ⟨rfl, nq, rfl⟩
          go_wp2_with fail
          refine (HCP.out _ (below_drewN HB2.out nq)).mono ?_
          rintro e W ⟨rfl, TY, hsa5, hst5⟩
          have HST6 := hide ((HSTD.out nq).trans hst5)
          have HA := hide hsa5
          clear hsa5 hst5
          go_wp2
          go_ret
          exact ⟨by rw [HER.out]; rfl, TY, HA.out, HST6.out⟩
      · have hroom' : ¬ ((x.d.now.length - 50 - x.used : Nat) : Int) < (l.length : Int) + 1 := by omega
        have e1 : comR1 x l = (0, x) := if_neg hroom
        rw [e1, if_neg (by show ¬ 0 ≠ 0; decide)]
        clear e1 hroom
        show Calls _ _ _ _ fun e w' => e = .returned (errV (comR2 x l (behindL x.rows l)).1) ∧ ActS w w' B sb db T (comR2 x l (behindL x.rows l)).2
        obtain ⟨R, hRe⟩ : ∃ R, addR 50 (x.d.now.length - 50) x.first x.used x.d l = R := ⟨_, rfl⟩
        have HRE := hide hRe
        have HAL : Hid (R.2.2.now.length = x.d.now.length) := by rw [← hRe]; exact addR_len 50 (x.d.now.length - 50) x.first x.used x.d l
        unfold comR2
        rw [hRe]
        obtain ⟨RW, hRW⟩ : ∃ RW, RW = if R.1 = 0 then behindL x.rows l else x.rows := ⟨_, rfl⟩
        rw [← hRW]
        have HRW := hide hRW
        clear hRe hRW
        go_enter Tryz.func10, Tryz.ntmps10
        go_wp2_with fail
        refine HCK.out.mono ?_
        rintro e w1 ⟨rfl, hb1⟩
        have HB1 := hide hb1
        replace c0 := cell_on hb1 c0
        replace c3 := cell_on hb1 c3
        have HBH := hide (behind_any x.rows l v0 ao cap B w1 (own_on HSK0.out.own hb1) (heldCh_on hb1 HHD0.out) (by omega) (by omega))
        clear hb1
        go_wp2_with fail
        refine HBH.out.mono ?_
        rintro e w2 ⟨v2, rfl, ho2, hb2⟩
        have HB2 := hide (below_on HB1.out (Nat.le_refl _) hb2)
        have HO2 := hide (ownCh_le ho2 HB1.out.size)
        replace c0 := cell_on hb2 c0
        replace c3 := cell_on hb2 c3
        obtain ⟨va, vc, rfl⟩ : ∃ va vc, v2 = .slice va (behindL x.rows l).length vc := by
          rcases own_form ho2 with ⟨e, e2⟩ | ⟨g, cap', e, _⟩
          · exact ⟨none, 0, by rw [e, e2]⟩
          · exact ⟨_, cap', e⟩
        have HLS := hide (logSectors_any w2 (HSK0.out.lk.dk.on HB2.out) (by omega))
        have HRM := hide (sroom_any w2 (HSA.out.on HB2.out))
        have HSTD : Hid (∀ n, StepV w (w2.drewN n) B T T) := fun n => .on hB (below_drewN HB2.out n)
        clear ho2 hb2 HBH HCK HB1
        generalize hn2e : (behindL x.rows l).length = n2 at *
        have HNE := hide hn2e
        clear hn2e
        generalize hrme : x.d.now.length - 50 - x.used = rm at *
        clear hrme
        generalize hme : x.d.now.length - 50 = m at *
        have HME := hide hme
        clear hme
        go_wp2_with fail
        refine HLS.out.mono ?_
        rintro e w3 ⟨rfl, rfl⟩
        go_wp2_with fail
        refine HRM.out.mono ?_
        rintro e w4 ⟨rfl, nq, rfl⟩
        have HHD := hide (heldCh_on (below_drewN HB2.out nq) HHD0.out)
        have HA := hide (HSA.out.on (below_drewN HB2.out nq))
        have HSTW := hide (HSTD.out nq)
        have HOW : Hid (ownCh (w3.drewN nq) w.heap.size (.slice va n2 vc) (behindL x.rows l)) := HO2.out
        have HAP : Hid (∀ k, Value.ownBlock (.slice va n2 vc) = some k → ¬ T k) := fun k e e2 => by have h1 := (World.ownsRow.lt HO2.out k e).1; have h2 := HSA.out.lt e2; omega
        clear HRM HLS HO2 c0 c3 HSTD
        generalize w3.drewN nq = W at *
        obtain ⟨lb5, S5, v5, hsk5, hT5⟩ := HA.out
        have g1 := hsk5.hd.c1
        have HSK5 := hide hsk5
        have HT5 := hide hT5
        have HAD : Hid (Calls Tryz.prog 27 #[.pointer (some ⟨lb5, 0, none⟩), .slice ao l.length cap] W fun e w' => e = .returned (errV R.1) ∧ ActL' W w' B lb5 db S5 50 m x.first R.2.1 R.2.2) := by
          have h1 := ladd_any l ao cap W hsk5.lk HHD.out HSZ.out (by omega)
          rw [HME.out] at h1
          rw [HRE.out] at h1
          exact h1
        clear hsk5 hT5
        by_cases hr0 : R.1 = 0
        · rw [hr0, errD_nil] at HAD
          have HR0 := hide hr0
          clear hr0
          go_wp2_with fail
          refine HAD.out.mono ?_
          rintro e w8 ⟨rfl, S8, hlk8, hst8⟩
          rw [← HME.out] at hlk8
          obtain ⟨hsk8, hsv8⟩ := HSK5.out.added hlk8 hst8 HAL.out
          have q3 := hsk8.hd.c3
          have qf := hsk8.hd.soft
          have hown8 : ownCh w8 w.heap.size (.slice va n2 vc) (behindL x.rows l) ∧ ∀ k, Value.ownBlock (.slice va n2 vc) = some k → ¬ inS sb lb5 v5 S8 k := by
            have hap := HAP.out
            rw [HT5.out] at hap
            exact ⟨own_block HOW.out fun k e => (hsv8.far k (World.ownsRow.lt HOW.out k e).2 (hap k e)).1, fun k e => (hsv8.far k (World.ownsRow.lt HOW.out k e).2 (hap k e)).2⟩
          have hfin := hsk8.finish (by have h1 := HSTW.out; exact StepV.trans (by have h2 := h1; rw [← HT5.out]; exact h2) hsv8) hB hown8.1 hown8.2
          have HFIN := hide hfin
          clear hlk8 hst8 hsk8 hsv8 hown8 hfin
          go_wp2
          go_ret
          rw [HR0.out, HRW.out, if_pos HR0.out]
          exact ⟨rfl, HFIN.out⟩
        · have HER : Hid (errV R.1 = .iface 57 (.int .i64 R.1)) := errD_pos hr0
          rw [HER.out] at HAD
          have HR0 := hide hr0
          clear hr0
          go_wp2_with fail
          refine HAD.out.mono ?_
          rintro e w8 ⟨rfl, S8, hlk8, hst8⟩
          rw [← HME.out] at hlk8
          obtain ⟨hsk8, hsv8⟩ := HSK5.out.added hlk8 hst8 HAL.out
          have HSK8 := hide hsk8
          have HSV8 := hide hsv8
          clear hlk8 hst8 hsk8 hsv8
          go_wp2
          go_ret
          have h1 := HSTW.out
          replace h1 : StepV w W B T (inS sb lb5 v5 S5) := by rw [← HT5.out]; exact h1
          rw [HRW.out, if_neg HR0.out]
          exact ⟨by rw [HER.out]; rfl, _, ⟨lb5, S8, v5, HSK8.out, rfl⟩, h1.trans HSV8.out⟩
  · have ecom : comR x l = (deedF l, x) := by
      have ef : comF x l = deedF l := by unfold comF; rw [if_pos h1]
      unfold comR
      rw [ef, if_pos h1]
    rw [ecom]
    have HER : Hid (errV (deedF l) = .iface 57 (.int .i64 (deedF l))) := errD_pos h1
    rw [HER.out] at HCK
    clear h1 ecom
    go_enter Tryz.func10, Tryz.ntmps10
    go_wp2_with fail
    refine HCK.out.mono ?_
    rintro e w1 ⟨rfl, hb1⟩
    have HEND := hide (HSA.out.stay hb1)
    clear hb1
    go_wp2
    go_ret
    exact ⟨by rw [HER.out]; rfl, HEND.out⟩
end
end Go.Proofs.YtkfpfbkdalbjoaaGreat
