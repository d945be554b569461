/-
  What Versions.Commit makes of versions that lie in memory: of changes that may be, each row has one version more; of others nothing.
-/
import Derived.Test.YtpbhcjkllfonhaaVerMem
import Derived.Test.YtpbhcjkllfonhaaChgLight
import Derived.Test.YtpbhcjkllfonhaaRowCheck
import Derived.OwnWalk
import Derived.Deep.AppendLies
import Derived.Deep.RegionHeld3
namespace Go.Proofs.Ytpbhcjkllfonhaa
open Go.RowKit Go.Joins
attribute [local go_sem ↓] Go.wp_at_zero Go.wp_at_succ

/-- the fault of a deed's i-th change -/
def stepFault (l : List Chg) (i : Nat) : Nat := match l[i]? with
  | none => 0
  | some c => if chgFault c ≠ 0 then chgFault c else match i with
    | 0 => 0
    | j + 1 => match l[j]? with
      | some p => if leS c.key p.key then 3 else 0
      | none => 0
def deedFault (l : List Chg) : Nat := (((List.range l.length).map (stepFault l)).find? (· != 0)).getD 0
theorem deed_first {l : List Chg} {k : Nat} (hk : k < l.length) (h : ∀ i, i < k → stepFault l i = 0) (hf : stepFault l k ≠ 0) : deedFault l = stepFault l k := by
  unfold deedFault
  have : ((List.range l.length).map (stepFault l)).find? (· != 0) = some (stepFault l k) := by
    rw [List.find?_eq_some_iff_getElem]
    refine ⟨by simpa using hf, k, by simpa using hk, by simp, fun j hj => ?_⟩
    have := h j hj
    simp [this]
  rw [this]; rfl
theorem deed_none {l : List Chg} (h : ∀ i, i < l.length → stepFault l i = 0) : deedFault l = 0 := by
  unfold deedFault
  have : ((List.range l.length).map (stepFault l)).find? (· != 0) = none := by
    rw [List.find?_eq_none]
    intro x hx
    obtain ⟨i, hi, rfl⟩ := List.mem_map.1 hx
    simp [h i (List.mem_range.1 hi)]
  rw [this]; rfl
theorem step_chg {l : List Chg} {k : Nat} (hk : k < l.length) (h : chgFault l[k] ≠ 0) : stepFault l k = chgFault l[k] := by
  unfold stepFault
  rw [List.getElem?_eq_getElem hk]
  simp [h]
theorem step_zero {l : List Chg} (hk : 0 < l.length) (h : chgFault l[0] = 0) : stepFault l 0 = 0 := by
  unfold stepFault
  rw [List.getElem?_eq_getElem hk]
  simp [h]
theorem step_succ {l : List Chg} {j : Nat} (hk : j + 1 < l.length) (h : chgFault l[j + 1] = 0) : stepFault l (j + 1) = if leS l[j + 1].key l[j].key then 3 else 0 := by
  have h2 : l[j]? = some l[j] := List.getElem?_eq_getElem (by omega)
  simp [stepFault, hk, h, h2]

set_option maxHeartbeats 2000000 in
theorem vcheck_some (l : List Chg) (b off cap : Nat) (w : World) (hl : chgsAt w b off l) (hn : l.length ≤ 1000) (hk : ∀ c ∈ l, c.key.size ≤ 1000000) :
    Calls Try.prog 23 #[.slice (some ⟨b, off, none⟩) l.length cap] w fun e w' => e = .returned (errV (deedFault l)) ∧ Below w.heap.size w w' := by
  go_enter Try.func23, Try.ntmps23
  go_wp2
  go_loopw [8] (fun i wr => ∃ k : Nat, k ≤ l.length ∧ i = .int .i64 k ∧ (∀ i, i < k → stepFault l i = 0) ∧ Below w.heap.size w wr) (fun i _ => l.length - (intOf i).toNat)
  case atStart => exact ⟨0, Nat.zero_le _, rfl, by simp, Below.refl _ _⟩
  case round =>
    obtain ⟨k, hkl, rfl, hz, hB⟩ := hrel
    have HZ := hide hz
    clear hz
    by_cases hlt : k < l.length
    · obtain ⟨c0, c1, c2⟩ := chgsAt_on hB hl k hlt
      have hlt' : (k : Int) < (l.length : Int) := by omega
      have hks := hk _ (List.getElem_mem hlt)
      have hbA := below_alloc1 wr (Obj.cells #[Value.string l[k].key, Value.string l[k].val, Value.bool l[k].gone] 56)
      have x0 : (wr.alloc (Obj.cells #[Value.string l[k].key, Value.string l[k].val, Value.bool l[k].gone] 56)).cell? ⟨wr.heap.size, 0, none⟩ = some (.string l[k].key) := cell_new _ _ _ 0
      have x1 : (wr.alloc (Obj.cells #[Value.string l[k].key, Value.string l[k].val, Value.bool l[k].gone] 56)).cell? ⟨wr.heap.size, 1, none⟩ = some (.string l[k].val) := cell_new _ _ _ 1
      have x2 : (wr.alloc (Obj.cells #[Value.string l[k].key, Value.string l[k].val, Value.bool l[k].gone] 56)).cell? ⟨wr.heap.size, 2, none⟩ = some (.bool l[k].gone) := cell_new _ _ _ 2
      have hBA := below_on hB (Nat.le_refl _) hbA
      by_cases hf : chgFault l[k] = 0
      · have HC := fun w' => hide (chg_check l[k] w' (by unfold maxLen; omega))
        rw [hf] at HC
        by_cases h0 : k = 0
        · have HS : Hid (stepFault l k = 0) := by
            subst h0; exact step_zero hlt hf
          have hd : decide ((0 : Int) < (k : Int)) = false := by simp; omega
          have hd2 : decide (0 < k) = false := by simp; omega
          have H0 := hide h0
          clear h0
          go_wp2_with (go_at_call 35; refine ((HC _).out).mono ?_; rintro e w1 ⟨rfl, hb⟩; replace hBA := below_on hBA (Nat.le_refl _) hb; replace x0 := cell_on hb x0; simp only [errV])
          go_quiet (fail)
          go_wp2
          go_roundw
          case rel => exact ⟨k + 1, by omega, by go_num, fun i hi => by
            rcases Nat.lt_or_ge i k with h | h
            · exact HZ.out i h
            · have e : i = k := by omega
              rw [e]; exact HS.out, hBA.trans ((below_draws _ _ _).mono hBA.size)⟩
          case measure => simp [intOf]; omega
        · obtain ⟨j, hj⟩ : ∃ j, k = j + 1 := ⟨k - 1, by omega⟩
          have hjl : j < l.length := by omega
          have HS : Hid (stepFault l k = if leS l[k].key l[j].key then 3 else 0) := by
            subst hj; exact step_succ hlt hf
          obtain ⟨p0w, _, _⟩ := hl j hjl
          have hd : (0 : Int) < (k : Int) := by omega
          have k1 : (k : Int) - 1 = (j : Int) := by omega
          have k2 : (j : Int) < (l.length : Int) := by omega
          have k3 : IntKind.i64.wrap ((k : Int) - 1) = (j : Int) := by rw [k1, IntKind.wrap_i64]; omega
          have k4 : (0 : Int) ≤ (j : Int) := Int.natCast_nonneg _
          have hd2 : decide (0 < k) = true := by simp; omega
          have hd3 : decide ((0 : Int) < (k : Int)) = true := by simp; omega
          have HJ := hide hj
          clear hj h0
          cases hle : leS l[k].key l[j].key with
          | true =>
            have HL : Hid (stepFault l k = 3) := by unfold Hid; rw [HS.out, hle]; rfl
            have hle' : (Op.bytesLess l[k].key.toList l[j].key.toList || l[k].key.toList == l[j].key.toList) = true := hle
            clear hle
            go_wp2_with (go_at_call 35; refine ((HC _).out).mono ?_; rintro e w1 ⟨rfl, hb⟩; replace hBA := below_on hBA (Nat.le_refl _) hb; replace x0 := cell_on hb x0; have p0 := cell_on hBA p0w; simp only [errV])
            go_quiet (fail)
            go_wp2
            go_ret
            exact ⟨by rw [deed_first hlt HZ.out (by rw [HL.out]; omega), HL.out]; rfl, hBA.trans ((below_draws _ _ _).mono hBA.size)⟩
          | false =>
            have HL : Hid (stepFault l k = 0) := by unfold Hid; rw [HS.out, hle]; rfl
            have hle' : (Op.bytesLess l[k].key.toList l[j].key.toList || l[k].key.toList == l[j].key.toList) = false := hle
            clear hle
            go_wp2_with (go_at_call 35; refine ((HC _).out).mono ?_; rintro e w1 ⟨rfl, hb⟩; replace hBA := below_on hBA (Nat.le_refl _) hb; replace x0 := cell_on hb x0; have p0 := cell_on hBA p0w; simp only [errV])
            go_quiet (fail)
            go_wp2
            go_roundw
            case rel => exact ⟨k + 1, by omega, by go_num, fun i hi => by
              rcases Nat.lt_or_ge i k with h | h
              · exact HZ.out i h
              · have e : i = k := by omega
                rw [e]; exact HL.out, hBA.trans ((below_draws _ _ _).mono hBA.size)⟩
            case measure => simp [intOf]; omega
      · have HC := fun w' => hide (chg_check l[k] w' (by unfold maxLen; omega))
        have HD := hide (deed_first hlt HZ.out (by rw [step_chg hlt hf]; exact hf))
        have HS := hide (step_chg hlt hf)
        generalize hfe : chgFault l[k] = f at HC HS hf
        have HF := hide hf
        clear hfe hf
        go_wp2_with (go_at_call 35; refine ((HC _).out).mono ?_; rintro e w1 ⟨rfl, hb⟩; replace hBA := below_on hBA (Nat.le_refl _) hb; rw [errV, if_neg HF.out])
        go_ret
        exact ⟨by rw [HD.out, HS.out, errV, if_neg HF.out]; rfl, hBA⟩
    · go_wp2
      go_ret
      exact ⟨by rw [deed_none fun i hi => HZ.out i (by omega)]; rfl, hB⟩
end Go.Proofs.Ytpbhcjkllfonhaa

/-
  What Versions.Commit makes of versions that lie in memory (the whole of it).
-/
namespace Go.Proofs.Ytpbhcjkllfonhaa
open Go.RowKit Go.Joins
attribute [local go_sem ↓] Go.wp_at_zero Go.wp_at_succ

set_option maxHeartbeats 400000 in
theorem vcheck_nil (ao : Option Addr) (cap : Nat) (w : World) :
    Calls Try.prog 23 #[.slice ao 0 cap] w fun e w' => e = .returned (errV 0) ∧ Below w.heap.size w w' := by
  go_enter Try.func23, Try.ntmps23
  go_wp2
  refine wp_loop_rounds 1 ?_
  rw [rounds_succ]
  go_wp2
  go_ret
  exact ⟨rfl, Below.refl _ _⟩
theorem vcheck_held (l : List Chg) (ao : Option Addr) (cap : Nat) (w : World) (hl : heldCh w ao l) (hn : l.length ≤ 1000) (hk : ∀ c ∈ l, c.key.size ≤ 1000000) :
    Calls Try.prog 23 #[.slice ao l.length cap] w fun e w' => e = .returned (errV (deedFault l)) ∧ Below w.heap.size w w' := by
  rcases hl with rfl | ⟨b, off, rfl, h⟩
  · exact vcheck_nil _ _ _
  · exact vcheck_some l b off cap w h hn hk
/-- the rows behind a deed's changes -/
def applyR (R : ByteArray → List Ver) (d : Int) (l : List Chg) : ByteArray → List Ver := l.foldl (fun R c => putG R c.key (R c.key ++ [⟨d, c.val, c.gone⟩])) R
theorem applyR_snoc (R : ByteArray → List Ver) (d : Int) (l : List Chg) (c : Chg) : applyR R d (l ++ [c]) = putG (applyR R d l) c.key (applyR R d l c.key ++ [⟨d, c.val, c.gone⟩]) := by simp [applyR]
theorem applyR_len (d : Int) (key : ByteArray) : ∀ (l : List Chg) (R : ByteArray → List Ver), (applyR R d l key).length ≤ (R key).length + l.length
  | [], R => by simp [applyR]
  | c :: l, R => by
    have h := applyR_len d key l (putG R c.key (R c.key ++ [⟨d, c.val, c.gone⟩]))
    have e : applyR R d (c :: l) = applyR (putG R c.key (R c.key ++ [⟨d, c.val, c.gone⟩])) d l := rfl
    rw [e, List.length_cons]
    by_cases ek : key = c.key
    · subst ek
      rw [putG_same, List.length_append] at h
      simp at h
      omega
    · rw [putG_other _ _ ek] at h
      omega
theorem ver_info : (Try.prog.info? 64).map (fun i => (i.zero, i.size, i.bytes)) = some (some (.agg #[.int .i64 0, .string ⟨#[]⟩, .bool false]), 3, 32) := by kernel_rfl
/-- the deed's number told anew -/
theorem VS.tick {W : World} {B vb mb n : Nat} {now now' : Int} {D : DataW Value} {g : ByteArray → Value} {R : ByteArray → List Ver} (h : VS W B vb mb now n D g R) : VS (W.setCell ⟨vb, 0, none⟩ (.int .i64 now')) B vb mb now' n D g R where
  num := World.cell?_setCell_same _ _ _ h.num
  soft := by simpa using h.soft
  mp := (World.cell?_setCell_other _ _ _ _ (by simp)).trans h.mp
  own := map_block h.own (Below.heap_setCell _ _ _ _ (Ne.symm h.ne))
  look := h.look
  has := h.has
  rows := fun key => own_block (h.rows key) fun k e => Below.heap_setCell _ _ _ _ (fun e' => h.offv key (by rw [e, e']))
  lov := h.lov
  lom := h.lom
  ne := h.ne
  offv := h.offv
  offm := h.offm
  apart := h.apart
theorem commit_step {w wr Y w3 w4 : World} {B vb mb n gk ck : Nat} {now : Int} {D : DataW Value} {g g0 : ByteArray → Value} {R : ByteArray → List Ver} {x : Chg} {gv : Value} (h : VS Y B vb mb (now + 1) n D g R) (hbY : Below wr.heap.size wr Y) (xs : Y.heap.size = wr.heap.size + 1) (hk : x.key.size ≤ maxLen) (hB : B ≤ Y.heap.size) (hBr : B ≤ wr.heap.size) (hgv : g x.key = gv)
    (hg : (Y.alloc (Obj.cells #[Value.int .i64 (now + 1), Value.string x.val, Value.bool x.gone] 64)).drew.grownBy w3 gv.ownBlock)
    (ho : w3.ownsRow B 64 3 (.slice (some ⟨gk, 0, none⟩) ((R x.key).length + 1) ck) ((R x.key).length + 1) ((R x.key).flatMap cellV ++ [.int .i64 (now + 1), .string x.val, .bool x.gone])) (hat : gv.ownBlock = some gk ∨ gk = wr.heap.size + 2)
    (hm : w4.ownsMap Try.prog 9 RV mb (n + 1) (D.put (kL x.key) (.held (.slice (some ⟨gk, 0, none⟩) ((R x.key).length + 1) ck)))) (hg4 : w3.grownBy w4 (some mb))
    (H2 : Below B w wr) (H3 : ∀ j, j < w.heap.size → ¬ inVS vb mb g0 j → wr.heap[j]? = w.heap[j]? ∧ ¬ inVS vb mb g j) :
    Hid (VS w4 B vb mb (now + 1) (n + 1) (D.put (kL x.key) (.held (.slice (some ⟨gk, 0, none⟩) ((R x.key).length + 1) ck))) (putG g x.key (.slice (some ⟨gk, 0, none⟩) ((R x.key).length + 1) ck)) (putG R x.key (R x.key ++ [⟨now + 1, x.val, x.gone⟩]))) ∧ Hid (Below B w w4) ∧
    Hid (∀ j, j < w.heap.size → ¬ inVS vb mb g0 j → w4.heap[j]? = w.heap[j]? ∧ ¬ inVS vb mb (putG g x.key (.slice (some ⟨gk, 0, none⟩) ((R x.key).length + 1) ck)) j) := by
  subst hgv
  have hbZ := (below_alloc1 Y (Obj.cells #[Value.int .i64 (now + 1), Value.string x.val, Value.bool x.gone] 64)).drew
  have hs := hbZ.size
  have hZ : (Y.alloc (Obj.cells #[Value.int .i64 (now + 1), Value.string x.val, Value.bool x.gone] 64)).drew.heap.size = wr.heap.size + 2 := by
    show (Y.alloc _).heap.size = _
    rw [World.size_alloc, xs]
  have ho' : ownV w3 B (.slice (some ⟨gk, 0, none⟩) ((R x.key).length + 1) ck) (R x.key ++ [⟨now + 1, x.val, x.gone⟩]) := by
    unfold ownV
    rw [List.length_append, List.flatMap_append]
    exact ho
  obtain ⟨r1, r2, r3⟩ := (h.on hbZ).put (x := ⟨now + 1, x.val, x.gone⟩) hk (Nat.le_trans hB hs) hg ho' (hat.imp id fun e => by rw [e, hZ]) hm hg4
  have hwZ := below_on hbY (Nat.le_refl _) hbZ
  refine ⟨r1, (H2.trans (hwZ.mono hBr)).trans r2, fun j h1 h2 => ?_⟩
  obtain ⟨a1, a2⟩ := H3 j h1 h2
  have hj : j < wr.heap.size := Nat.lt_of_lt_of_le h1 H2.size
  obtain ⟨b1, b2⟩ := r3 j (Nat.lt_of_lt_of_le hj hwZ.size) a2
  exact ⟨b1.trans ((hwZ.block j hj).trans a1), b2⟩

set_option maxRecDepth 4000 in
set_option maxHeartbeats 4000000 in
theorem commit_good (l : List Chg) (ao : Option Addr) (cap : Nat) {B vb mb n : Nat} {now : Int} {D : DataW Value} {g : ByteArray → Value} {R : ByteArray → List Ver} (w : World) (h : VS w B vb mb now n D g R) (hB : B ≤ w.heap.size)
    (hl : heldCh w ao l) (hn : l.length ≤ 1000) (hk : ∀ c ∈ l, c.key.size ≤ 1000000) (hoff : l ≠ [] → ∀ b off, ao = some ⟨b, off, none⟩ → ¬ inVS vb mb g b) (h0 : 0 ≤ now) (h1 : now ≤ 1000000) (hn2 : n ≤ 1000000) (hR : ∀ key, (R key).length ≤ 1000000) (hf : deedFault l = 0) :
    Calls Try.prog 8 #[.pointer (some ⟨vb, 0, none⟩), .slice ao l.length cap] w fun e w' => e = .returned (.tuple #[.int .i64 (now + 1), .nilIface]) ∧ ∃ D' g', VS w' B vb mb (now + 1) (n + l.length) D' g' (applyR R (now + 1) l) ∧ Below B w w' ∧
      (∀ j, j < w.heap.size → ¬ inVS vb mb g j → w'.heap[j]? = w.heap[j]? ∧ ¬ inVS vb mb g' j) := by
  have HV := hide h
  have HL := hide hl
  have HF := hide hf
  have HO := hide hoff
  have HK := hide hk
  have HRR := hide hR
  have c0 := h.num
  have f0 := h.soft
  clear h hl hf hoff hk hR
  go_enter Try.func8, Try.ntmps8
  go_wp2_with (go_at_call 23; refine (vcheck_held l ao cap _ HL.out hn HK.out).mono ?_; rintro e w1 ⟨rfl, hb1⟩; rw [HF.out]; simp only [errV]; replace c0 := cell_on hb1 c0; replace f0 := frozen_on hb1 (HV.out.lt (.inl rfl)) f0)
  have HV1 := hide (VS.tick (now' := now + 1) (HV.out.on hb1))
  have hvl := HV.out.lt (k := vb) (.inl rfl)
  have HF1 : Hid (∀ j, j < w.heap.size → ¬ inVS vb mb g j → (w1.setCell ⟨vb, 0, none⟩ (.int .i64 (now + 1))).heap[j]? = w.heap[j]? ∧ ¬ inVS vb mb g j) := fun j h1 h2 => ⟨(Below.heap_setCell _ _ _ _ (fun e => h2 (.inl e))).trans (hb1.block j h1), h2⟩
  have HB1 : Hid (Below B w (w1.setCell ⟨vb, 0, none⟩ (.int .i64 (now + 1)))) := (hb1.mono hB).setCell HV.out.lov _
  clear c0 f0
  go_loopw [23] (fun i wr => ∃ (k : Nat) (D' : DataW Value) (g' : ByteArray → Value), k ≤ l.length ∧ i = .int .i64 k ∧ VS wr B vb mb (now + 1) (n + k) D' g' (applyR R (now + 1) (l.take k)) ∧ Below B w wr ∧ (∀ j, j < w.heap.size → ¬ inVS vb mb g j → wr.heap[j]? = w.heap[j]? ∧ ¬ inVS vb mb g' j)) (fun i _ => l.length - (intOf i).toNat)
  case atStart => exact ⟨0, D, g, Nat.zero_le _, rfl, HV1.out, HB1.out, HF1.out⟩
  case round =>
    obtain ⟨k, D', g', hkl, rfl, hV, hBr, hfar⟩ := hrel
    have H1 := hide hV
    have H2 := hide hBr
    have H3 := hide hfar
    clear hV hBr hfar HV1 HF1 HB1 hb1
    by_cases hlt : k < l.length
    · have hne : l ≠ [] := fun e => by rw [e] at hlt; simp at hlt
      rcases HL.out with e | ⟨b, off, eao, hc0⟩
      · exact absurd e hne
      have hb0 : b < w.heap.size := World.block_lt_of_cell? _ _ (hc0 k hlt).1
      obtain ⟨nb0, _⟩ := H3.out b hb0 (HO.out hne b off eao)
      subst eao
      have c0 := (World.cell?_of_block (w := w) nb0).trans (hc0 k hlt).1
      have c1 := (World.cell?_of_block (w := w) nb0).trans (hc0 k hlt).2.1
      have c2 := (World.cell?_of_block (w := w) nb0).trans (hc0 k hlt).2.2
      have hlt' : (k : Int) < (l.length : Int) := by omega
      have hks := HK.out _ (List.getElem_mem hlt)
      have hkm : l[k].key.size ≤ maxLen := by unfold maxLen; omega
      have eT : l.take (k + 1) = l.take k ++ [l[k]] := List.take_succ_eq_append_getElem hlt
      have hRl : (applyR R (now + 1) (l.take k) l[k].key).length ≤ 1002000 := by
        have a1 := applyR_len (now + 1) l[k].key (l.take k) R
        have a2 := HRR.out l[k].key
        have a3 := List.length_take_le k l
        omega
      generalize hR1 : applyR R (now + 1) (l.take k) = R1 at H1 hRl
      have HT : Hid (applyR R (now + 1) (l.take (k + 1)) = putG R1 l[k].key (R1 l[k].key ++ [⟨now + 1, l[k].val, l[k].gone⟩])) := by
        unfold Hid; rw [eT, applyR_snoc, hR1]
      clear hc0 nb0 eT hR1
      generalize l[k] = x at *
      clear hks
      have hbA := below_alloc1 wr (Obj.cells #[Value.string x.key, Value.string x.val, Value.bool x.gone] 56)
      have x0 : (wr.alloc (Obj.cells #[Value.string x.key, Value.string x.val, Value.bool x.gone] 56)).cell? ⟨wr.heap.size, 0, none⟩ = some (.string x.key) := cell_new _ _ _ 0
      have x1 : (wr.alloc (Obj.cells #[Value.string x.key, Value.string x.val, Value.bool x.gone] 56)).cell? ⟨wr.heap.size, 1, none⟩ = some (.string x.val) := cell_new _ _ _ 1
      have x2 : (wr.alloc (Obj.cells #[Value.string x.key, Value.string x.val, Value.bool x.gone] 56)).cell? ⟨wr.heap.size, 2, none⟩ = some (.bool x.gone) := cell_new _ _ _ 2
      have xs : (wr.alloc (Obj.cells #[Value.string x.key, Value.string x.val, Value.bool x.gone] 56)).heap.size = wr.heap.size + 1 := by simp
      have HVY := hide (H1.out.on hbA)
      have HBY := hide hbA
      have hnv : ¬ inVS vb mb g' wr.heap.size := fun e => by have := H1.out.lt e; omega
      go_wp2
      generalize hY : wr.alloc (Obj.cells #[Value.string x.key, Value.string x.val, Value.bool x.gone] 56) = Y at x0 x1 x2 xs HVY HBY ⊢
      clear hY hbA c0 c1 c2
      have v0 := HVY.out.num
      have v1 := HVY.out.mp
      have hvY := HVY.out.lt (k := vb) (.inl rfl)
      have hmY := HVY.out.lt (k := mb) (.inr (.inl rfl))
      have hl1 := (HVY.out.on (Below.refl _ Y).drew).looked hkm
      have hbZ := (below_alloc1 Y (Obj.cells #[Value.int .i64 (now + 1), Value.string x.val, Value.bool x.gone] 64)).drew
      have HVZ := hide (HVY.out.on hbZ)
      have hl2 := HVZ.out.looked hkm
      have hrow := HVZ.out.rows x.key
      have hov := HVZ.out.offv x.key
      have hom := HVZ.out.offm x.key
      have hoX : (g' x.key).ownBlock ≠ some wr.heap.size := fun e => hnv (.inr (.inr ⟨x.key, e⟩))
      generalize hgv : g' x.key = gv at hl1 hl2 hrow hov hom hoX
      have HGV := hide hgv
      have HRW := hide hrow
      have HNW : Hid (∀ j u, [Value.int .i64 (now + 1), Value.string x.val, Value.bool x.gone][j]? = some u → (Y.alloc (Obj.cells #[Value.int .i64 (now + 1), Value.string x.val, Value.bool x.gone] 64)).drew.cell? ((⟨wr.heap.size + 1, 0, none⟩ : Addr).add j) = some u) := by
        rw [← xs]
        exact World.news_of_block (cs := #[.int .i64 (now + 1), .string x.val, .bool x.gone]) (t := 64) (fr := (0, 0)) (heap_alloc_new Y _)
      have hBY : B ≤ Y.heap.size := by have a := HVY.out.lov; omega
      have hBr : B ≤ wr.heap.size := by have a := H1.out.lov; have b := H1.out.lt (k := vb) (.inl rfl); omega
      obtain ⟨i0, hi0, hz0, hz1, hz2⟩ := info_parts ver_info
      have nvm : (some vb : Option Nat) ≠ some mb := fun e => HVY.out.ne (by cases e; rfl)
      have nxm : (some wr.heap.size : Option Nat) ≠ some mb := fun e => hnv (.inr (.inl (by cases e; rfl)))
      clear hgv hrow
      go_region_held3 (fun w' => w'.cell? ⟨vb, 0, none⟩ = some (.int .i64 (now + 1)) ∧ w'.cell? ⟨vb, 1, none⟩ = some (.map (some mb)) ∧ w'.cell? ⟨wr.heap.size, 0, none⟩ = some (.string x.key) ∧ w'.cell? ⟨wr.heap.size, 1, none⟩ = some (.string x.val) ∧ w'.cell? ⟨wr.heap.size, 2, none⟩ = some (.bool x.gone))
        (first | go_keep | exact ⟨j0, j1, j2, j3, j4⟩ | exact ⟨q0, q1, q2, q3, q4⟩)
        ((refine step_append_lies _ (by rfl) _ _ _ (by rfl) B 64 i0 _ 3 32 Try.underlying65 hi0 hz0 hz1 hz2 rfl (by omega) gv _ _ (by rfl) HRW.out ⟨wr.heap.size + 1, 0, none⟩ 1 1 [.int .i64 (now + 1), .string x.val, .bool x.gone] (by rfl) (by rfl) HNW.out (by simp [Value.oneCell']) (by omega) (by unfold maxLen; omega) (by omega) (by simp; omega) (wr.heap.size + 2) (by simp; omega) ?_; intro gk ck w3 ho3 hgrow hat3 hlt3; obtain ⟨w4, hrun4, hm4, hg4⟩ := (map_block HVZ.out.own (hgrow.block mb (by simp; omega) (Ne.symm hom))).update str_keyed Try.underlying60 (by unfold maxLen; omega) (key_mk hkm) (show RV (.slice (some ⟨gk, 0, none⟩) ((R1 x.key).length + 1) ck) = _ from rfl); have j0 := hgrow.cell (cell_on hbZ v0) (Ne.symm hov); have j1 := hgrow.cell (cell_on hbZ v1) (Ne.symm hov); have j2 := hgrow.cell (cell_on hbZ x0) (Ne.symm hoX); have j3 := hgrow.cell (cell_on hbZ x1) (Ne.symm hoX); have j4 := hgrow.cell (cell_on hbZ x2) (Ne.symm hoX); have q0 := hg4.cell j0 nvm; have q1 := hg4.cell j1 nvm; have q2 := hg4.cell j2 nxm; have q3 := hg4.cell j3 nxm; have q4 := hg4.cell j4 nxm))
      all_goals
        obtain ⟨R1', R2', R3'⟩ := commit_step HVY.out HBY.out xs hkm hBY hBr HGV.out hgrow ho3 hat3 hm4 hg4 H2.out H3.out
        clear j0 j1 j2 j3 j4 q0 q1 q2 q3 q4 hrun4 hm4 hg4 ho3 hgrow hat3 hlt3 hl1 hl2 v0 v1 x0 x1 x2
        go_wp2
        go_roundw
        case rel => exact ⟨k + 1, _, _, by omega, by go_num, by rw [HT.out]; exact R1'.out, R2'.out, R3'.out⟩
        case measure => simp [intOf]; omega
    · have ek : k = l.length := by omega
      subst ek
      have hlt' : ¬ (l.length : Int) < (l.length : Int) := by omega
      rw [List.take_length] at H1
      have v0 := H1.out.num
      go_wp2
      go_ret2
      exact ⟨rfl, _, _, H1.out, H2.out, H3.out⟩
/-- a deed that may not be changes nothing -/
theorem commit_bad (l : List Chg) (ao : Option Addr) (cap vb : Nat) (w : World) (hl : heldCh w ao l) (hn : l.length ≤ 1000) (hk : ∀ c ∈ l, c.key.size ≤ 1000000) (hf : deedFault l ≠ 0) :
    Calls Try.prog 8 #[.pointer (some ⟨vb, 0, none⟩), .slice ao l.length cap] w fun e w' => e = .returned (.tuple #[.int .i64 0, errV (deedFault l)]) ∧ Below w.heap.size w w' := by
  have HL := hide hl
  have HK := hide hk
  generalize hfe : deedFault l = f at hf
  have HFE := hide hfe
  have HF := hide hf
  have he : errV f = .iface 68 (.int .i64 f) := by unfold errV; rw [if_neg hf]
  have HE := hide he
  clear hl hk hfe hf he
  go_enter Try.func8, Try.ntmps8
  go_wp2_with (go_at_call 23; refine (vcheck_held l ao cap _ HL.out hn HK.out).mono ?_; rintro e w1 ⟨rfl, hb1⟩; rw [HFE.out, HE.out])
  go_ret2
  exact ⟨by rw [HE.out]; rfl, hb1⟩
end Go.Proofs.Ytpbhcjkllfonhaa
