/-
  What the laws over stores lean on: haywainlaw.Stored, haywainref.SameRows of any two lists; stores beside other memory.
-/
import Derived.Test.YtkfpfbkdalbjoaaGreatStoChk
import Derived.Test.YtkfpfbkdalbjoaaGreatRowG
import Derived.Test.YtkfpfbkdalbjoaaGreatSame1
import Derived.Test.YtkfpfbkdalbjoaaGreatStoPl
namespace Go.Proofs.YtkfpfbkdalbjoaaGreat
open Go.RowKit Go.Joins
attribute [local go_sem ↓] Go.wp_at_zero Go.wp_at_succ

section
variable {w w' : World} {B sb lb db : Nat} {S S' T : Nat → Prop} {v : Value} {x : SSt}
theorem SA.low (h : SA w B sb db T x) {k : Nat} (hk : T k) : B ≤ k := by
  obtain ⟨lb, S, v, h1, rfl⟩ := h
  rcases hk with rfl | rfl | hk | hk
  · exact h1.lo
  · exact h1.lk.lo
  · exact (World.ownsRow.lt h1.own k hk).1
  · exact h1.lk.dk.low hk
theorem SA.kept (h : SA w B sb db T x) (hs : w.heap.size ≤ w'.heap.size) (hk : ∀ k, T k → w'.heap[k]? = w.heap[k]?) : SA w' B sb db T x := by
  obtain ⟨lb, S, v, h1, rfl⟩ := h
  refine ⟨lb, S, v, ⟨h1.hd.kept (hk sb (.inl rfl)), ⟨h1.lk.dk.kept hs fun k e => hk k (.inr (.inr (.inr e))), h1.lk.hd.kept (hk lb (.inr (.inl rfl))), h1.lk.nl, h1.lk.lo, h1.lk.us, h1.lk.fit, h1.lk.f1⟩, own_block h1.own fun k e => hk k (.inr (.inr (.inl e))), h1.ns, h1.nl, h1.nv, h1.lo⟩, rfl⟩
theorem SA.disk (h : SA w B sb db T x) : ∃ S, DK w B db S x.d ∧ ∀ k, S k → T k := by
  obtain ⟨lb, S, v, h1, rfl⟩ := h
  exact ⟨S, h1.lk.dk, fun k e => .inr (.inr (.inr e))⟩
/-- a step of its disk alone, by whoever has it -/
theorem SA.diskStep (h : SA w B sb db T x) {s' : DSt} (hs : ∀ S, DK w B db S x.d → ActD w w' B db S s') (hl : s'.now.length = x.d.now.length) : ActS w w' B sb db T { x with d := s' } := by
  obtain ⟨lb, S, v, h1, rfl⟩ := h
  obtain ⟨S2, k1, k2⟩ := hs S h1.lk.dk
  exact ⟨_, ⟨lb, S2, v, h1.step k1 k2 hl, rfl⟩, stepV_S k2⟩
theorem SNew.sa {w0 : World} (h : SNew w0 w' B sb db S x) : ∃ T, SA w' B sb db T x ∧ ∀ k, T k → S k ∨ w0.heap.size ≤ k := by
  obtain ⟨lb, v, h1, h2, h3⟩ := h.ex
  refine ⟨_, ⟨lb, S, v, h1, rfl⟩, fun k e => ?_⟩
  rcases e with rfl | rfl | e | e
  · exact .inr h.new
  · exact .inr h2
  · exact .inr (h3 k e)
  · exact .inl e
theorem heldSp_le {ao : Option Addr} {l : List (ByteArray × ByteArray)} (h : heldSp w ao l) (hb : ∀ b o, ao = some ⟨b, o, none⟩ → w'.heap[b]? = w.heap[b]?) : heldSp w' ao l := by
  rcases h with h | ⟨b, off, e, hc⟩
  · exact .inl h
  · exact .inr ⟨b, off, e, fun i hi => ⟨(World.cell?_of_block (a := ⟨b, _, none⟩) (hb b off e)).trans (hc i hi).1, (World.cell?_of_block (a := ⟨b, _, none⟩) (hb b off e)).trans (hc i hi).2⟩⟩
end
/-- a store on a new disk -/
structure StoredAt (w w' : World) (n db sb : Nat) : Prop where
  ex : ∃ T x, SA w' w.heap.size sb db T x ∧ SGood x ∧ x.rows = [] ∧ x.d.left = -1 ∧ x.d.now.length = n ∧ x.used = 0
  bel : Below w.heap.size w w'
set_option maxRecDepth 8000 in
set_option maxHeartbeats 4000000 in
theorem stored_good (n : Nat) (w : World) (h1 : 54 ≤ n) (h2 : n ≤ 200) : Calls Tryz.prog 16 #[.int .i64 (n : Int)] w fun e w' => ∃ db sb, e = .returned (.tuple #[.pointer (some ⟨db, 0, none⟩), .pointer (some ⟨sb, 0, none⟩), .bool true]) ∧ StoredAt w w' n db sb := by
  have hlen : (initD n).now.length = n := by show (List.replicate n (zerosB 96)).length = n; simp
  have hfg := format_good (s := initD n) rfl rfl (by rw [hlen]; exact h1)
  have hfn := fresh_small (initD n).now
  have HFG := hide hfg
  have HLEN := hide hlen
  clear hfg hlen
  generalize freshN (initD n).now = fr at *
  generalize hl : layR 0 [] (initD n) = r at *
  have HL := hide hl
  clear hl
  go_enter Tryz.func16, Tryz.ntmps16
  go_wp2_with fail
  refine (newDisk_good n _ (by omega) h2).mono ?_
  rintro e w1 ⟨db, rfl, ⟨S1, hk1⟩, hb1⟩
  have HFO := hide (format_any w1 hk1 (by rw [HLEN.out]; exact h1))
  rw [HL.out, HFG.out.1, errD_nil] at HFO
  have HB1 := hide hb1
  clear hk1 hb1
  go_wp2_with fail
  refine HFO.out.mono ?_
  rintro e w2 ⟨rfl, S2, hk2, hs2⟩
  have HOP := hide (sopen_good w2 hk2 HFG.out.2.1)
  have HB2 := hide (HB1.out.trans hs2.bel)
  clear hk2 hs2 HFO
  go_wp2_with fail
  refine HOP.out.mono ?_
  rintro e w3 ⟨sb, rfl, hn3⟩
  have HN3 := hide hn3
  clear hn3 HOP
  go_wp2
  go_ret3
  obtain ⟨T, hsa, _⟩ := HN3.out.sa
  exact ⟨db, sb, rfl, ⟨T, _, hsa, HFG.out.2.1, rfl, HFG.out.2.2.1, HFG.out.2.2.2.trans HLEN.out, rfl⟩, below_on HB2.out (Nat.le_refl _) HN3.out.bel⟩
set_option maxHeartbeats 1000000 in
theorem sameRows_len (n m : Nat) (ao ao2 : Option Addr) (cap cap2 : Nat) (w : World) (h : n ≠ m) :
    Calls Tryz.prog 14 #[.slice ao n cap, .slice ao2 m cap2] w fun e w' => e = .returned (.bool false) ∧ w' = w := by
  have h1 : ¬ (n : Int) = (m : Int) := by omega
  have h2 : ((n : Int) != (m : Int)) = true := by simpa using h1
  go_enter Tryz.func14, Tryz.ntmps14
  go_wp2
  go_ret
  exact ⟨rfl, rfl⟩
set_option maxHeartbeats 2000000 in
theorem sameRows_some2 (l l2 : List (ByteArray × ByteArray)) (b off cap b2 off2 cap2 : Nat) (w : World) (hl : spansAt w b off l) (hl2 : spansAt w b2 off2 l2) (he : l.length = l2.length) (hne : l ≠ l2) (hn : l.length ≤ 9223372036854775807) :
    Calls Tryz.prog 14 #[.slice (some ⟨b, off, none⟩) l.length cap, .slice (some ⟨b2, off2, none⟩) l.length cap2] w fun e w' => e = .returned (.bool false) ∧ Below w.heap.size w w' := by
  go_enter Tryz.func14, Tryz.ntmps14
  go_wp2
  go_loopw [5] (fun i wr => ∃ k : Nat, k ≤ l.length ∧ i = .int .i64 k ∧ l.take k = l2.take k ∧ Below w.heap.size w wr) (fun i _ => l.length - (intOf i).toNat)
  case atStart => exact ⟨0, Nat.zero_le _, rfl, rfl, Below.refl _ _⟩
  case round =>
    obtain ⟨k, hk, rfl, htk, hB⟩ := hrel
    by_cases hlt : k < l.length
    · have hlt2 : k < l2.length := by omega
      obtain ⟨c0, c1⟩ := spansAt_on hB hl k hlt
      obtain ⟨d0, d1⟩ := spansAt_on hB hl2 k hlt2
      have HTK : Hid (l[k] = l2[k] → l.take (k + 1) = l2.take (k + 1)) := fun e => by rw [List.take_succ_eq_append_getElem hlt, List.take_succ_eq_append_getElem hlt2, htk, e]
      have hlt' : (k : Int) < (l.length : Int) := by omega
      have hk0 : (0 : Int) ≤ (k : Int) := by omega
      generalize l[k] = x at *
      generalize l2[k] = y at *
      clear hl hl2 htk
      by_cases e1 : x.1 = y.1
      · by_cases e2 : x.2 = y.2
        · have HT := hide (HTK.out (Prod.ext e1 e2))
          have q1 : (x.1.toList == y.1.toList) = true := by rw [e1]; simp
          have q2 : (x.2.toList == y.2.toList) = true := by rw [e2]; simp
          clear e1 e2
          go_wp2
          go_quiet (fail)
          go_wp2
          go_roundw
          case rel => exact ⟨k + 1, by omega, by go_num, HT.out, hB.trans (below_draws _ _ _)⟩
          case measure => simp [intOf]; omega
        · have q1 : (x.1.toList == y.1.toList) = true := by rw [e1]; simp
          have q2 : (x.2.toList == y.2.toList) = false := by simpa using fun e => e2 (toList_inj e)
          clear e1 e2
          go_wp2
          go_quiet (fail)
          go_wp2
          go_ret
          exact ⟨rfl, hB.trans (below_draws _ _ _)⟩
      · have q1 : (x.1.toList == y.1.toList) = false := by simpa using fun e => e1 (toList_inj e)
        clear e1
        go_wp2
        go_quiet (fail)
        go_wp2
        go_ret
        exact ⟨rfl, hB.trans (below_draws _ _ _)⟩
    · exfalso
      rw [List.take_of_length_le (by omega), List.take_of_length_le (by omega)] at htk
      exact hne htk
/-- two lists of rows: are they the same? -/
theorem sameRows_any (l l2 : List (ByteArray × ByteArray)) (ao ao2 : Option Addr) (cap cap2 : Nat) (w : World) (hl : heldSp w ao l) (hl2 : heldSp w ao2 l2) (hn : l.length ≤ 9223372036854775807) :
    Calls Tryz.prog 14 #[.slice ao l.length cap, .slice ao2 l2.length cap2] w fun e w' => ∃ b, e = .returned (.bool b) ∧ (b = true ↔ l = l2) ∧ Below w.heap.size w w' := by
  by_cases h : l = l2
  · subst h
    exact (sameRows_held l ao ao2 cap cap2 w hl hl2 hn).mono fun e w' ⟨he, hb⟩ => ⟨true, he, ⟨fun _ => rfl, fun _ => rfl⟩, hb⟩
  · by_cases hlen : l.length = l2.length
    · rcases hl with hl | ⟨b, off, e, hc⟩
      · exact absurd (hl.trans (List.length_eq_zero_iff.1 (by rw [← hlen, hl]; rfl)).symm) h
      · rcases hl2 with hl2 | ⟨b2, off2, e2, hc2⟩
        · exact absurd ((List.length_eq_zero_iff.1 (by rw [hlen, hl2]; rfl)).trans hl2.symm) h
        · subst e e2
          have := sameRows_some2 l l2 b off cap b2 off2 cap2 w hc hc2 hlen h hn
          rw [hlen] at this ⊢
          exact this.mono fun e w' ⟨he, hb⟩ => ⟨false, he, ⟨fun e => (Bool.false_ne_true e).elim, fun e => absurd e h⟩, hb⟩
    · exact (sameRows_len l.length l2.length ao ao2 cap cap2 w hlen).mono fun e w' ⟨he, hw⟩ => ⟨false, he, ⟨fun e => (Bool.false_ne_true e).elim, fun e => absurd e h⟩, by rw [hw]; exact Below.refl _ _⟩
end Go.Proofs.YtkfpfbkdalbjoaaGreat

/-
  A store that was never armed, from act to act; another store beside it is left alone.
-/
namespace Go.Proofs.YtkfpfbkdalbjoaaGreat

theorem apart_of {w : World} {T : Nat → Prop} {ao : Option Addr} {l : List Chg} (h : heldCh w ao l) (hT : ∀ k, T k → w.heap.size ≤ k) : apart T ao l := by
  rcases h with h | ⟨b, off, e, hc⟩
  · exact .inl h
  · by_cases hl : l = []
    · exact .inl hl
    · have hb : b < w.heap.size := World.block_lt_of_cell? _ _ (hc 0 (List.length_pos_iff.2 hl)).1
      exact .inr fun a e2 e3 => by
        subst e
        cases e2
        have := hT _ e3
        exact absurd hb (by show ¬ b < w.heap.size; have h2 : w.heap.size ≤ b := this; omega)
/-- a store from one act to the next, that was never armed -/
theorem never_commit {x : SSt} (h : SGood x) (hl : x.d.left = -1) (l : List Chg) : (comR x l).1 = comF x l ∧ (comR x l).2.d.left = -1 ∧ SGood (comR x l).2 ∧ (comR x l).2.d.now.length = x.d.now.length ∧ (comR x l).2.rows = (if comF x l = 0 then behindL x.rows l else x.rows) := by
  obtain ⟨n1, n2⟩ := h.never hl l
  obtain ⟨c1, c2⟩ := h.commit l
  refine ⟨n1, n2, ?_, c1, ?_⟩
  · rcases c2 with ⟨_, _, h3, _⟩ | ⟨_, _, h3⟩ | ⟨h1, h2, _⟩
    · exact h3
    · rw [h3]; exact h
    · rw [n1, h2] at h1; cases h1
  · rcases c2 with ⟨_, h2, _, h4, _⟩ | ⟨_, h2, h3⟩ | ⟨h1, h2, _⟩
    · rw [h4, if_pos h2]
    · rw [h3, if_neg h2]
    · rw [n1, h2] at h1; cases h1
theorem never_chk {x : SSt} (h : SGood x) (hl : x.d.left = -1) : (chkR x).1 = 0 ∧ (chkR x).2.d.left = -1 ∧ SGood (chkR x).2 ∧ (chkR x).2.d.now.length = x.d.now.length ∧ (chkR x).2.rows = x.rows := by
  obtain ⟨n1, n2⟩ := h.chk_never hl
  obtain ⟨c1, c2, c3⟩ := h.chk
  refine ⟨n1, n2, ?_, c1, c2⟩
  rcases c3 with ⟨_, h3, _⟩ | ⟨h1, _⟩
  · exact h3
  · rw [n1] at h1; cases h1
theorem never_used {x : SSt} (h : SGood x) (hl : x.d.left = -1) (l : List Chg) : (comR x l).2.used = if comF x l = 0 then (if x.d.now.length - 50 - x.used < l.length + 1 then 0 else x.used) + l.length + 1 else x.used := by
  obtain ⟨n1, n2⟩ := h.never hl l
  rcases (h.commit l).2 with ⟨_, h2, _, _, h5⟩ | ⟨_, h2, h3⟩ | ⟨h1, h2, _⟩
  · rw [h5, if_pos h2]
  · rw [h3, if_neg h2]
  · rw [n1, h2] at h1; cases h1
theorem never_chk_used {x : SSt} (h : SGood x) (hl : x.d.left = -1) : (chkR x).2.used = 0 := by
  obtain ⟨n1, _⟩ := h.chk_never hl
  rcases h.chk.2.2 with ⟨_, _, h5⟩ | ⟨h1, _⟩
  · exact h5
  · rw [n1] at h1; cases h1
/-- another store is left alone -/
theorem SA.beside {w w' : World} {B N sb db : Nat} {T T' T2 : Nat → Prop} {x2 : SSt} (h : SA w N sb db T2 x2) (hs : StepV w w' B T T') (hd : ∀ k, T k → ¬ T2 k) : SA w' N sb db T2 x2 ∧ ∀ k, T' k → ¬ T2 k :=
  ⟨h.kept hs.bel.size fun k e => (hs.far k (h.lt e) fun e2 => hd k e2 e).1, fun k e e2 => (hs.far k (h.lt e2) fun e3 => hd k e3 e2).2 e⟩
end Go.Proofs.YtkfpfbkdalbjoaaGreat

/-
  A deed of one change, that a store takes; plain.
-/
namespace Go.Proofs.YtkfpfbkdalbjoaaGreat

def aC : Chg := ⟨⟨#[116, 47, 97]⟩, ⟨#[120]⟩, false⟩
theorem aC_fault : chgFault aC = 0 := by
  have hk : keyL aC.key.data.toList = true := by decide
  unfold chgFault
  rw [hk]
  simp [aC, Lib.toList_data]
  rfl
theorem aC_behind : behindL [] [aC] = [aC] := rfl
theorem aC_com {x : SSt} (hr : x.rows = []) (hn : 52 ≤ x.d.now.length) : comF x [aC] = 0 := by
  have hd : deedF [aC] = 0 := by
    unfold deedF
    rw [if_neg (by show ¬ 12 < 1; decide)]
    show (if chgFault aC = 0 then 0 else chgFault aC) = 0
    rw [if_pos aC_fault]
  unfold comF
  rw [hd, if_neg (by decide), hr, aC_behind, if_neg]
  show ¬ (40 < 1 ∨ x.d.now.length - 50 < 1 + 1)
  omega
end Go.Proofs.YtkfpfbkdalbjoaaGreat

/-
  What haywainlaw.stores returns: true.
-/
namespace Go.Proofs.YtkfpfbkdalbjoaaGreat
open Go.RowKit Go.Joins
attribute [local go_sem ↓] Go.wp_at_zero Go.wp_at_succ

set_option maxRecDepth 8000 in
set_option maxHeartbeats 4000000 in
theorem stores_any (w : World) : Calls Tryz.prog 4 #[] w fun e w' => e = .returned (.bool true) ∧ Below w.heap.size w w' := by
  have nn := nil_neq_nil
  go_enter Tryz.func4, Tryz.ntmps4
  go_wp2_with fail
  refine (stored_good 60 w (by decide) (by decide)).mono ?_
  rintro e w1 ⟨db, sb, rfl, hst⟩
  obtain ⟨T, x, hsa, hg, hr, hl, hn, hu⟩ := hst.ex
  have HB1 := hide hst.bel
  have hcf := aC_com hr (by omega)
  have hnv := hg.never hl [aC]
  rw [hcf] at hnv
  have hu2 := never_used hg hl [aC]
  rw [if_pos hcf, hu, hn] at hu2
  have HU2 : Hid ((comR x [aC]).2.d.now.length - 50 - (comR x [aC]).2.used = 8) := by
    rw [Hid, (hg.commit [aC]).1, hn, hu2]
    decide
  have HG2 : Hid (SGood (comR x [aC]).2 ∧ (comR x [aC]).2.rows = [aC]) := by
    rcases (hg.commit [aC]).2 with ⟨_, _, h3, h4, _⟩ | ⟨_, h2, _⟩ | ⟨h1, _⟩
    · exact ⟨h3, by rw [h4, hr]; rfl⟩
    · exact absurd hcf h2
    · rw [hnv.1] at h1; cases h1
  have hbA := below_alloc1 w1 (Obj.cells #[Value.string ⟨#[116, 47, 97]⟩, Value.string ⟨#[120]⟩, Value.bool false] 54)
  have HCO := hide (scommit_any [aC] (some ⟨w1.heap.size, 0, none⟩) 1 _ (hsa.on hbA) hg (.inr ⟨w1.heap.size, 0, rfl, fun i hi => by
    have : i = 0 := by simp at hi; omega
    subst this
    exact ⟨cell_new _ _ _ 0, cell_new _ _ _ 1, cell_new _ _ _ 2⟩⟩) (.inr fun a e => by cases e; exact fun e => Nat.lt_irrefl _ (hsa.lt e)) (by decide) (fun c hc => by rw [List.mem_singleton] at hc; rw [hc]; exact ⟨by show 3 ≤ 1000; decide, by show 1 ≤ 1000; decide⟩))
  rw [hnv.1, errD_nil] at HCO
  have HB2 := hide (below_on HB1.out (Nat.le_refl _) hbA)
  clear hst hsa hg hr hl hn hu hu2 hcf hnv hbA HB1
  generalize (comR x [aC]).2 = y at *
  go_wp2_with fail
  refine HCO.out.mono ?_
  rintro e w2 ⟨rfl, T2, hsa2, hs2⟩
  obtain ⟨S2, hk2, _⟩ := hsa2.disk
  have HOP := hide (sopen_good w2 hk2 HG2.out.1)
  have HB3 := hide (HB2.out.trans (hs2.bel.mono (Nat.le_refl _)))
  have HSA2 := hide hsa2
  clear hk2 hs2 hsa2 HCO
  go_wp2_with fail
  refine HOP.out.mono ?_
  rintro e w3 ⟨sb3, rfl, hn3⟩
  obtain ⟨T3, hsa3, _⟩ := hn3.sa
  have HRO := hide (srows_any w3 hsa3 (by show y.rows.length ≤ 1000; rw [HG2.out.2]; decide))
  have HB4 := hide (below_on HB3.out (Nat.le_refl _) hn3.bel)
  have HSA3 := hide (HSA2.out.on hn3.bel)
  clear hn3 hsa3 HOP
  go_wp2_with fail
  refine HRO.out.mono ?_
  rintro e w4 ⟨v4, rfl, ho4, hb4⟩
  have hlen : (rowsL y.rows).length = 1 := by rw [HG2.out.2]; rfl
  obtain ⟨a4, c4, rfl⟩ : ∃ a4 c4, v4 = .slice a4 1 c4 := by
    rcases own_form ho4 with ⟨e, e2⟩ | ⟨g, cap', e, _⟩
    · have e3 : (rowsL y.rows).length = 0 := e2
      omega
    · exact ⟨_, cap', by rw [e]; show Value.slice _ (rowsL y.rows).length _ = _; rw [hlen]⟩
  have HB5 := hide (below_on HB4.out (Nat.le_refl _) hb4)
  have HRM := hide (sroom_any w4 (HSA3.out.on hb4))
  rw [HU2.out] at HRM
  clear ho4 hb4 hlen HSA2 HSA3
  go_wp2_with fail
  refine HRM.out.mono ?_
  rintro e w5 ⟨rfl, n5, rfl⟩
  go_wp2
  go_ret
  exact ⟨rfl, below_drewN HB5.out _⟩
end Go.Proofs.YtkfpfbkdalbjoaaGreat
