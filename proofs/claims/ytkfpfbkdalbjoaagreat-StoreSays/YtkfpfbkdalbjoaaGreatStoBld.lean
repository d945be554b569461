/-
  What a strings.Builder's copyCheck and WriteString do here (the shelf's contract of copyCheck doesn't fit this dump: its way to a panic is another one).
-/
import Derived.Test.YtkfpfbkdalbjoaaGreatBase
import Derived.Test.YtkfpfbkdalbjoaaGreatShelfBld
import Derived.Lib.Builder
import Derived.Lib.FrozenHead
import Derived.Laws.Externs
import Derived.Test.YtkfpfbkdalbjoaaGreatStoRoot
import Derived.Deep.QuietTactic
namespace Go.Proofs.YtkfpfbkdalbjoaaGreat
open Go.RowKit Go.Joins
attribute [local go_sem ↓] Go.wp_at_zero Go.wp_at_succ

theorem bld_size : (Tryz.prog.info? 91).map (·.size) = some 2 := by kernel_rfl
theorem bld_lies : liesAt Tryz.prog Tryz.prog.depth 91 (2 / Tryz.prog.cellsOf 91) 0 91 1 = true := by kernel_rfl
theorem byte_info : (Tryz.prog.info? 5).map (fun i => (i.zero, i.size, i.bytes)) = some (some (.int .u8 0), 1, 1) := by kernel_rfl
set_option maxHeartbeats 1000000 in
set_option maxRecDepth 100000 in
theorem bcheck_used (b : Nat) (w : World) (h0 : w.cell? ⟨b, 0, none⟩ = some (.pointer (some ⟨b, 0, none⟩))) :
    Calls Tryz.prog 55 #[.pointer (some ⟨b, 0, none⟩)] w fun e w' => e = .returned (.tuple #[]) ∧ w' = w := by
  obtain ⟨j, hj, _⟩ := Option.map_eq_some_iff.1 bld_size
  go_enter Tryz.func55, Tryz.ntmps55
  go_wp2
  rw [Lib.run_neq_ptr_same w _ Tryz.underlying88 hj]
  go_wp2
  go_end0
  exact ⟨rfl, rfl⟩
set_option maxHeartbeats 1000000 in
set_option maxRecDepth 100000 in
theorem bcheck_fresh (b : Nat) (w : World) (h0 : w.cell? ⟨b, 0, none⟩ = some (.pointer none)) (hsh : w.shape? b = some (91, 2)) (hfz : w.frozen? ⟨b, 0, none⟩ = false) :
    Calls Tryz.prog 55 #[.pointer (some ⟨b, 0, none⟩)] w fun e w' => e = .returned (.tuple #[]) ∧ w' = w.setCell ⟨b, 0, none⟩ (.pointer (some ⟨b, 0, none⟩)) := by
  obtain ⟨j, hj, hjs⟩ := Option.map_eq_some_iff.1 bld_size
  go_enter Tryz.func55, Tryz.ntmps55
  go_wp2
  rw [Lib.run_to_unsafe w ⟨b, 0, none⟩ Tryz.underlying88 Tryz.underlying143 hj (by rw [hjs]; decide) hsh (Nat.zero_lt_succ 1)]
  simp only [Result.andThen]
  rw [Oper.upon_value]
  go_wp2
  rw [run_callFunc_extern Tryz.func76 (by kernel_rfl) (by kernel_rfl) (by kernel_rfl) (e := Extern.AbiNoEscape.same) (by kernel_rfl)]
  rw [Lib.run_noEscape]
  simp only [Result.andThen]
  rw [Oper.upon_value]
  go_wp2
  rw [Lib.run_from_unsafe w ⟨b, 0, none⟩ Tryz.underlying143 Tryz.underlying88 hj hsh bld_lies]
  simp only [Result.andThen]
  rw [Oper.upon_value]
  go_wp2
  go_end0
  exact ⟨rfl, rfl⟩
theorem bcheck_any (B b : Nat) (bs : List Value) (w : World) (h : Lib.IsBuilderF 91 5 B b bs w) :
    Calls Tryz.prog 55 #[.pointer (some ⟨b, 0, none⟩)] w fun e w' => e = .returned (.tuple #[]) ∧ (Lib.BuilderAtF 91 5 B b (.pointer (some ⟨b, 0, none⟩)) bs w' ∧ Below B w w') := by
  rcases h with h | h
  · refine (bcheck_fresh b w h.cell0 h.shape h.frozen0).mono ?_
    rintro e w' ⟨rfl, rfl⟩
    exact ⟨rfl, h.used _, (Below.refl B w).setCell (p := ⟨b, 0, none⟩) h.1 _⟩
  · refine (bcheck_used b w h.cell0).mono ?_
    rintro e w' ⟨rfl, rfl⟩
    exact ⟨rfl, h, Below.refl B _⟩
set_option maxHeartbeats 2000000 in
set_option maxRecDepth 100000 in
theorem bwrite_any (B b : Nat) (bs : List Value) (s : ByteArray) (w : World) (h : Lib.IsBuilderF 91 5 B b bs w) (hlen : bs.length + s.size ≤ 140737488355328) (hBw : B ≤ w.heap.size) :
    Calls Tryz.prog 35 #[.pointer (some ⟨b, 0, none⟩), .string s] w fun e w' => e = .returned (.tuple #[.int .i64 s.size, .nilIface]) ∧ (Lib.IsBuilderF 91 5 B b (bs ++ Lib.strCells s) w' ∧ Below B w w') := by
  obtain ⟨i0, hi, hz0, hz1, hz2⟩ := info_parts byte_info
  go_enter Tryz.func35, Tryz.ntmps35
  go_wp2_with (go_at_call 55; refine (bcheck_any B b bs _ h).mono ?_)
  rintro e w1 ⟨rfl, h1, hb1⟩
  obtain ⟨hB, v, hbk, hown, hne⟩ := h1
  have c0 : w1.cell? ⟨b, 0, none⟩ = some (.pointer (some ⟨b, 0, none⟩)) := by rw [Lib.cell_of_heap hbk]; rfl
  have c1 : w1.cell? ⟨b, 1, none⟩ = some v := by rw [Lib.cell_of_heap hbk]; rfl
  go_wp2_with (at_builtin; refine Lib.wpList_append_own_stringF _ rfl _ _ 89 9 rfl B 5 i0 Tryz.underlying89 Tryz.underlying9 hi hz0 hz1 hz2 _ _ _ rfl hown s rfl ?c3 ?c4 ?c5 ?_)
  case c3 => unfold maxLen; omega
  case c4 => omega
  case c5 => have := hb1.size; omega
  intro v' w2 hown' hgrow _
  have hlt : b < w1.heap.size := by
    rcases Nat.lt_or_ge b w1.heap.size with h' | h'
    · exact h'
    · simp [Array.getElem?_eq_none h'] at hbk
  have hb2 : w2.heap[b]? = some (.cells #[.pointer (some ⟨b, 0, none⟩), v] 91 (0, 0)) := by
    rw [hgrow.block b hlt (fun e => hne e.symm)]
    exact hbk
  have d0 : w2.cell? ⟨b, 0, none⟩ = some (.pointer (some ⟨b, 0, none⟩)) := by rw [Lib.cell_of_heap hb2]; rfl
  have d1 : w2.cell? ⟨b, 1, none⟩ = some v := by rw [Lib.cell_of_heap hb2]; rfl
  have f1 : w2.frozen? ⟨b, 1, none⟩ = false := Lib.frozen_of_heap hb2 1
  obtain ⟨ao, n', cap, rfl⟩ : ∃ ao n' cap, v' = .slice ao n' cap := by
    rcases hown'.2 with ⟨hv, _⟩ | ⟨g, cap, cur, fz, hv, _⟩
    · exact ⟨_, _, _, hv⟩
    · exact ⟨_, _, _, hv⟩
  go_wp2
  go_ret2
  refine ⟨rfl, .inr ?_, ?_⟩
  · exact Lib.BuilderAtF.put (T := 91) (e := 5) hB hb2 (bs' := bs ++ Lib.strCells s) (by simpa [Lib.strCells_length] using hown') (by decide)
  · exact (hb1.grown hgrow (by have := hb1.size; omega) (fun k hk => (hown.lt k hk).1)).setCell (p := ⟨b, 1, none⟩) hB _
end Go.Proofs.YtkfpfbkdalbjoaaGreat

/-
  What store.readRows returns of rows that were laid.
-/
namespace Go.Proofs.YtkfpfbkdalbjoaaGreat
open Go.RowKit Go.Joins
attribute [local go_sem ↓] Go.wp_at_zero Go.wp_at_succ

set_option maxHeartbeats 400000 in
theorem sectorOf_any (area : Nat) (ha : area ≤ 1) (w : World) : Calls Tryz.prog 33 #[.int .i64 (area : Int)] w fun e w' => e = .returned (.int .i64 ((areaN area : Nat) : Int)) ∧ w' = w := by
  have h0 : (0 : Int) ≤ (area : Int) := by omega
  have h1 : (area : Int) ≤ 1 := by omega
  go_enter Tryz.func33, Tryz.ntmps33
  go_wp2
  go_ret
  exact ⟨ret_int (by unfold areaN; omega), rfl⟩
/-- what has been read of a text -/
def joinK (t : ByteArray) (k : Nat) : ByteArray := joinB ((List.range k).map fun j => dpadB (pieceB t j))
theorem joinK_size (t : ByteArray) (k : Nat) : (joinK t k).size = 96 * k := by
  unfold joinK
  rw [joinB_size _ fun s hs => by
    obtain ⟨j, _, rfl⟩ := List.mem_map.1 hs
    exact dpadB_size (by rw [piece_size]; omega)]
  simp
theorem joinK_succ (t : ByteArray) (k : Nat) : joinK t (k + 1) = joinK t k ++ dpadB (pieceB t k) := by
  unfold joinK
  rw [List.range_succ, List.map_append, List.map_cons, List.map_nil, joinB_snoc]
section
variable {B db : Nat} {S : Nat → Prop} {s : DSt}
set_option maxRecDepth 8000 in
set_option maxHeartbeats 4000000 in
theorem readRows_good (area first : Nat) (rows : List Chg) (w : World) (hk : DK w B db S s) (hd : s.down = false) (ha : area ≤ 1) (hn : 50 ≤ s.now.length) (hf : fineL rows) (hfew : rows.length ≤ 40) (htx : ∀ j, j < piecesN (packB rows).size → s.now[areaN area + j]? = some (dpadB (pieceB (packB rows) j))) :
    Calls Tryz.prog 20 #[.pointer (some ⟨db, 0, none⟩), .agg #[.int .i64 (area : Int), .int .i64 (first : Int), .int .i64 ((packB rows).size : Int)]] w fun e w' => ∃ v, e = .returned (.tuple #[v, .nilIface]) ∧ ownCh w' w.heap.size v rows ∧ Below w.heap.size w w' := by
  have hp := pack_small hf hfew
  have HU := fun w' => hide (unpack_good rows w' (by omega) hf)
  have hjt := join_text (packB rows)
  generalize packB rows = t at *
  have HJT : Hid ((joinK t (piecesN t.size)).extract 0 t.size = t) := hjt
  have HPN : Hid (piecesN t.size = (t.size + 95) / 96) := rfl
  have HAN : Hid (areaN area + 24 ≤ 50 ∧ 1 ≤ areaN area) := hide (by unfold areaN; omega)
  have HRD : Hid (∀ (W : World) (k : Nat), DK W B db S s → k < piecesN t.size → Calls Tryz.prog 31 #[.pointer (some ⟨db, 0, none⟩), .int .i64 ((areaN area + k : Nat) : Int)] W fun e w' => e = .returned (.tuple #[.string (dpadB (pieceB t k)), .nilIface]) ∧ w' = W) := fun W k hW hk' => by
    have hr := dread_any ((areaN area + k : Nat) : Int) W hW
    have hpn := HPN.out
    have han := HAN.out
    have e1 : dreadF s ((areaN area + k : Nat) : Int) = 0 := by unfold dreadF; rw [hd, if_neg (by decide), if_neg (by omega)]
    have e2 : dreadD s ((areaN area + k : Nat) : Int) = dpadB (pieceB t k) := by unfold dreadD; rw [if_pos e1, Int.toNat_natCast, htx k hk']; rfl
    rw [e1, e2, errD_nil] at hr
    exact hr
  have HDK := hide hk
  have htI : (t.size : Int) ≤ 2280 := by omega
  have HFE := hide hfew
  clear hjt hd hf htx hn hk hfew
  have hB0 := below_alloc1 w (Obj.cells #[Value.int .i64 (area : Int), Value.int .i64 (first : Int), Value.int .i64 (t.size : Int)] 64)
  have r0 : (w.alloc (Obj.cells #[Value.int .i64 (area : Int), Value.int .i64 (first : Int), Value.int .i64 (t.size : Int)] 64)).cell? ⟨w.heap.size, 0, none⟩ = some (.int .i64 (area : Int)) := cell_new _ _ _ 0
  have r2 : (w.alloc (Obj.cells #[Value.int .i64 (area : Int), Value.int .i64 (first : Int), Value.int .i64 (t.size : Int)] 64)).cell? ⟨w.heap.size, 2, none⟩ = some (.int .i64 (t.size : Int)) := cell_new _ _ _ 2
  have hz0 : (w.alloc (Obj.cells #[Value.int .i64 (area : Int), Value.int .i64 (first : Int), Value.int .i64 (t.size : Int)] 64)).heap.size = w.heap.size + 1 := by simp
  go_enter Tryz.func20, Tryz.ntmps20
  go_wp2_with (go_at_call 33; refine (sectorOf_any area ha _).mono ?_; rintro e w1 ⟨rfl, rfl⟩)
  generalize w.alloc (Obj.cells #[Value.int .i64 (area : Int), Value.int .i64 (first : Int), Value.int .i64 (t.size : Int)] 64) = W0 at *
  have hB1 := below_alloc1 W0 (Obj.cells #[Value.pointer none, Value.slice none 0 0] 91)
  have hbld : Lib.IsBuilderF 91 5 (w.heap.size + 1) (w.heap.size + 1) (Lib.strCells (joinK t 0)) (W0.alloc (Obj.cells #[Value.pointer none, Value.slice none 0 0] 91)) := .inl ⟨Nat.le_refl _, _, by rw [← hz0]; exact Go.heap_alloc_new W0 _, ⟨rfl, .inl ⟨rfl, rfl⟩⟩, by simp [Value.ownBlock]⟩
  have HBLD := hide hbld
  have HB0 := hide hB0
  have HB1 := hide hB1
  have HR2 := hide r2
  clear hB0 hB1 hbld r2
  go_loopw [7] (fun iv wr => ∃ k : Nat, k ≤ piecesN t.size ∧ iv = .int .i64 ((areaN area + k : Nat) : Int) ∧ Lib.IsBuilderF 91 5 (w.heap.size + 1) (w.heap.size + 1) (Lib.strCells (joinK t k)) wr ∧ Below (w.heap.size + 1) W0 wr) (fun iv _ => 100 - (intOf iv).toNat)
  case atStart => exact ⟨0, Nat.zero_le _, by rw [Nat.add_zero], HBLD.out, HB1.out.mono (by omega)⟩
  case round =>
    obtain ⟨k, hk, rfl, hbd, hbr⟩ := hrel
    have hjs := joinK_size t k
    have hpn := HPN.out
    have han := HAN.out
    have c2 : wr.cell? ⟨w.heap.size, 2, none⟩ = some (.int .i64 (t.size : Int)) := (hbr.cell (p := ⟨w.heap.size, 2, none⟩) (by simp)).trans HR2.out
    have hls : (Lib.strCells (joinK t k)).length = 96 * k := by rw [Lib.strCells_length, hjs]
    have HLN : Hid (∀ m : Nat, m = 96 * k → ∀ n, Calls Tryz.prog 34 #[.pointer (some ⟨w.heap.size + 1, 0, none⟩)] (wr.drewN n) fun e w' => e = .returned (.int .i64 (m : Int)) ∧ w' = wr.drewN n) := fun m hm n => by
      have := Tryz.Builder_Len_f (w.heap.size + 1) (w.heap.size + 1) _ (wr.drewN n) hbd
      rw [hls, ← hm] at this
      exact this
    obtain ⟨m, hm⟩ : ∃ m, m = 96 * k := ⟨_, rfl⟩
    have HL := hide (HLN.out m hm)
    have HBD := hide hbd
    have HBR := hide hbr
    have HLS := hide hls
    clear hbd hbr hls HLN
    by_cases hlt : m < t.size
    · have hlt' : (m : Int) < (t.size : Int) := by omega
      have hkp : k < piecesN t.size := by omega
      have HKP := hide hkp
      have HKI : Hid (((areaN area + k : Nat) : Int) + 1 = ((areaN area + (k + 1) : Nat) : Int)) := hide (by omega)
      have hk50 : ((areaN area + k : Nat) : Int) ≤ 100 := by omega
      have hk0 : (0 : Int) ≤ ((areaN area + k : Nat) : Int) := by omega
      have HM := hide hm
      have HJS := hide hjs
      have HK100 : Hid (areaN area + k < 100) := hide (by omega)
      have HK96 : Hid (96 * k ≤ 2280) := hide (by omega)
      have HSZ : Hid (w.heap.size + 1 ≤ wr.heap.size) := hide (by have := HBR.out.size; omega)
      clear hm hjs hpn han hkp hk
      have hps : (dpadB (pieceB t k)).size = 96 := dpadB_size (by rw [piece_size]; omega)
      have HSU := hide (joinK_succ t k)
      have HRDK := fun W h => hide (HRD.out W k h HKP.out)
      generalize areaN area + k = at0 at *
      generalize dpadB (pieceB t k) = pc at *
      go_wp2
      go_quiet ((go_at_call 34; exact Calls.quiet_of_same (HL.out _)))
      go_wp2_with (first
        | (go_at_call 31; refine ((HRDK _ (HDK.out.on (below_drewN (below_on HB0.out (Nat.le_refl _) (HBR.out.mono (by omega))) nq))).out).mono ?_; rintro e w7 ⟨rfl, rfl⟩)
        | (go_at_call 35; refine (bwrite_any (w.heap.size + 1) (w.heap.size + 1) _ pc (wr.drewN nq) HBD.out (by rw [HLS.out]; have := HK96.out; omega) HSZ.out).mono ?_; rintro e w8 ⟨rfl, hbd8, hb8⟩; have HBD8 := hide hbd8; have HB8 := hide hb8; clear hbd8 hb8)
        | fail)
      rw [HKI.out]
      have HB9 := hide ((HBR.out.trans (below_drewN (Below.refl _ _) nq)).trans HB8.out)
      refine ⟨⟨k + 1, HKP.out, rfl, ?_, HB9.out⟩, ?_⟩
      · rw [HSU.out, cells_append]
        exact HBD8.out
      · have := HK100.out
        have := HKI.out
        simp [intOf]
        omega
    · have hlt' : ¬ (m : Int) < (t.size : Int) := by omega
      have hke : k = piecesN t.size := by omega
      have hj2 : (joinK t k).extract 0 t.size = t := by rw [hke]; exact HJT.out
      have hjl : (joinK t k).size = m := by omega
      have hst : Hid (∀ W, Lib.IsBuilderF 91 5 (w.heap.size + 1) (w.heap.size + 1) (Lib.strCells (joinK t k)) W → w.heap.size + 1 ≤ W.heap.size → Calls Tryz.prog 37 #[.pointer (some ⟨w.heap.size + 1, 0, none⟩)] W fun e w' => e = .returned (.string (joinK t k)) ∧ Below (w.heap.size + 1) W w') := fun W h1 h2 => by
        refine (Tryz.Builder_String_any_k (w.heap.size + 1) (w.heap.size + 1) (joinK t k).data.toList W h1 h2).mono ?_
        rintro e w' ⟨rfl, _, h3, _⟩
        exact ⟨rfl, h3⟩
      have HJ2 := hide hj2
      have ht0 : (0 : Int) ≤ (t.size : Int) := by omega
      have htm : (t.size : Int) ≤ (m : Int) := by omega
      have HSZ : Hid (w.heap.size + 1 ≤ wr.heap.size) := hide (by have := HBR.out.size; omega)
      clear hj2 hke hm hpn han hk hjs
      generalize joinK t k = jk at *
      have hjm : (jk.size : Int) = (m : Int) := by omega
      go_wp2
      go_quiet ((go_at_call 34; exact Calls.quiet_of_same (HL.out _)))
      go_wp2
      go_region_with (first
        | (go_at_call 37; refine (hst.out _ (by exact HBD.out) (by exact HSZ.out)).mono ?_; rintro e w9 ⟨rfl, hb9⟩; have c9 : w9.cell? ⟨w.heap.size, 2, none⟩ = some (.int .i64 (t.size : Int)) := (hb9.cell (p := ⟨w.heap.size, 2, none⟩) (by simp)).trans c2)
        | (go_at_call 36; rw [HJ2.out]; refine (HU _).out.mono ?_; rintro e w10 ⟨v, rfl, ho, hb10⟩; dsimp only))
      all_goals
        have HO := hide ho
        have hq9 := HBR.out.trans ((below_draws _ _ _).trans hb9)
        have HQ9 := hide (below_on (HB0.out.trans (hq9.mono (by omega))) (by omega) hb10)
        have HZ9 : Hid (w.heap.size ≤ w9.heap.size) := hide (by have := hq9.size; omega)
        clear ho hb9 hb10 c9 hq9
        go_wp2
        go_ret2
        exact ⟨v, rfl, ownCh_le HO.out HZ9.out, HQ9.out⟩
end
end Go.Proofs.YtkfpfbkdalbjoaaGreat
