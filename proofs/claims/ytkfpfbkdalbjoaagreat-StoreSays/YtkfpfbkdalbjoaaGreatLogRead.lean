/-
  What log.read returns and leaves.
-/
import Derived.Test.YtkfpfbkdalbjoaaGreatLogRd
import Derived.Test.YtkfpfbkdalbjoaaGreatLogParL
import Derived.Test.YtkfpfbkdalbjoaaGreatDskWrite
namespace Go.Proofs.YtkfpfbkdalbjoaaGreat
open Go.RowKit Go.Joins
attribute [local go_sem ↓] Go.wp_at_zero Go.wp_at_succ

/-- a log's header -/
structure LHd (w : World) (lb db fr many first used : Nat) : Prop where
  c0 : w.cell? ⟨lb, 0, none⟩ = some (.pointer (some ⟨db, 0, none⟩))
  c1 : w.cell? ⟨lb, 1, none⟩ = some (.int .i64 (fr : Int))
  c2 : w.cell? ⟨lb, 2, none⟩ = some (.int .i64 (many : Int))
  c3 : w.cell? ⟨lb, 3, none⟩ = some (.int .i64 (first : Int))
  c4 : w.cell? ⟨lb, 4, none⟩ = some (.int .i64 (used : Int))
  soft : ∀ j, w.frozen? ⟨lb, j, none⟩ = false
/-- one block alone is changed, of those that were there -/
structure RdW (w wr : World) (B lb : Nat) : Prop where
  bel : Below B w wr
  far : ∀ j, j < w.heap.size → j ≠ lb → wr.heap[j]? = w.heap[j]?
def secsD (s : DSt) (fr many : Nat) : List ByteArray := (s.now.drop fr).take many
/-- deeds in new memory -/
def DeedsV (w : World) (N : Nat) (v : Value) (l : List Dd) : Prop := w.ownsRow N 40 1 v l.length (l.map ddV) ∧ (∀ d ∈ l, ddOwn w N d) ∧ (l = [] → v = .slice none 0 0)
section
variable {w wr w' : World} {B lb db fr many first used : Nat} {S : Nat → Prop} {s : DSt}
theorem LHd.kept (h : LHd w lb db fr many first used) (e : w'.heap[lb]? = w.heap[lb]?) : LHd w' lb db fr many first used :=
  have c : ∀ j v, w.cell? ⟨lb, j, none⟩ = some v → w'.cell? ⟨lb, j, none⟩ = some v := fun j _ hv => (World.cell?_of_block (a := ⟨lb, j, none⟩) e).trans hv
  ⟨c _ _ h.c0, c _ _ h.c1, c _ _ h.c2, c _ _ h.c3, c _ _ h.c4, fun j => (World.frozen?_of_block (a := ⟨lb, j, none⟩) e).trans (h.soft j)⟩
theorem LHd.lt (h : LHd w lb db fr many first used) : lb < w.heap.size := World.block_lt_of_cell? _ _ h.c0
theorem LHd.use (h : LHd w lb db fr many first used) (n : Nat) : LHd (w.setCell ⟨lb, 4, none⟩ (.int .i64 (n : Int))) lb db fr many first n :=
  ⟨(World.cell?_setCell_other _ _ _ _ (by simp)).trans h.c0, (World.cell?_setCell_other _ _ _ _ (by simp)).trans h.c1, (World.cell?_setCell_other _ _ _ _ (by simp)).trans h.c2, (World.cell?_setCell_other _ _ _ _ (by simp)).trans h.c3, World.cell?_setCell_same _ _ _ h.c4, fun j => by rw [World.frozen?_setCell]; exact h.soft j⟩
theorem RdW.refl (w : World) : RdW w w B lb := ⟨Below.refl _ _, fun _ _ _ => rfl⟩
theorem RdW.more (h : RdW w wr B lb) (hB : B ≤ w.heap.size) (hb : Below w.heap.size wr w') : RdW w w' B lb := ⟨h.bel.trans (hb.mono hB), fun j hj hn => (hb.block j hj).trans (h.far j hj hn)⟩
theorem RdW.set (h : RdW w wr B lb) (hl : B ≤ lb) (j : Nat) (v : Value) : RdW w (wr.setCell ⟨lb, j, none⟩ v) B lb := ⟨h.bel.setCell (p := ⟨lb, j, none⟩) hl v, fun k hk hn => (Below.heap_setCell _ _ _ _ hn).trans (h.far k hk hn)⟩
theorem RdW.disk (h : RdW w wr B lb) (hk : DK w B db S s) (hn : ¬ S lb) : DK wr B db S s := hk.kept h.bel.size fun k e => h.far k (hk.lt e) fun e2 => hn (e2 ▸ e)
theorem secs_get (s : DSt) (fr many i : Nat) (h : i < many) : (secsD s fr many)[i]? = s.now[fr + i]? := by
  unfold secsD
  rw [List.getElem?_take, if_pos h, List.getElem?_drop]
/-- while it is read -/
structure RLI (w wr : World) (B lb db fr many first rb : Nat) (st : RSt) (u : Nat) : Prop where
  rd : ∃ dv av l, RdI wr w.heap.size rb dv av l st.2 ∧ l.map (·.chs) = st.1
  hd : LHd wr lb db fr many first u
  ww : RdW w wr B lb
def ReadAt (w w' : World) (B lb db fr many first : Nat) (dv : Value) (ds : List (List Chg)) (u : Nat) : Prop := ∃ l, DeedsV w' w.heap.size dv l ∧ l.map (·.chs) = ds ∧ LHd w' lb db fr many first u ∧ RdW w w' B lb
theorem RLI.take {rb u : Nat} {st st' : RSt} (h : RLI w wr B lb db fr many first rb st u) (hB : B ≤ w.heap.size) (hl : lb < w.heap.size) (ht : TakeAt wr w' w.heap.size rb st'.1 st'.2) : RLI w w' B lb db fr many first rb st' u := by
  obtain ⟨dv', av', l', h1, h2, h3⟩ := ht
  exact ⟨⟨dv', av', l', h1, h2⟩, h.hd.kept (h3.block lb hl), h.ww.more hB h3⟩
theorem RLI.on {rb u : Nat} {st : RSt} (h : RLI w wr B lb db fr many first rb st u) (hB : B ≤ w.heap.size) (hb : Below wr.heap.size wr w') : RLI w w' B lb db fr many first rb st u := by
  obtain ⟨dv, av, l, h1, h2⟩ := h.rd
  exact ⟨⟨dv, av, l, h1.on hb, h2⟩, h.hd.kept (hb.block lb h.hd.lt), h.ww.more hB (hb.mono h.ww.bel.size)⟩
theorem RLI.use {rb u : Nat} {st : RSt} (h : RLI w wr B lb db fr many first rb st u) (hl : B ≤ lb) (hlw : lb < w.heap.size) (hrb : w.heap.size ≤ rb) (n : Nat) : RLI w (wr.setCell ⟨lb, 4, none⟩ (.int .i64 (n : Int))) B lb db fr many first rb st n := by
  obtain ⟨dv, av, l, h1, h2⟩ := h.rd
  refine ⟨⟨dv, av, l, h1.kept fun k hk => Below.heap_setCell _ _ _ _ ?_, h2⟩, h.hd.use n, h.ww.set hl 4 _⟩
  have : w.heap.size ≤ k := by
    rcases hk with rfl | e | e | ⟨d, hd, e⟩
    · exact hrb
    · exact (World.ownsRow.lt h1.od k e).1
    · exact (World.ownsRow.lt h1.oa k e).1
    · exact (World.ownsRow.lt (h1.hd d hd) k e).1
  show k ≠ lb
  omega
theorem RLI.fin {rb u : Nat} {st : RSt} {dv av : Value} {l : List Dd} {res : List (List Chg) × Nat} (h : RLI w wr B lb db fr many first rb st u) (h1 : RdI wr w.heap.size rb dv av l st.2) (h2 : l.map (·.chs) = st.1) (e : (st.1, u) = res) : ReadAt w wr B lb db fr many first dv res.1 res.2 := by
  subst e
  exact ⟨l, ⟨h1.od, h1.hd, h1.dz⟩, h2, h.hd, h.ww⟩
set_option maxRecDepth 8000 in
set_option maxHeartbeats 8000000 in
theorem lread_any (w : World) (hk : DK w B db S s) (hh : LHd w lb db fr many first 0) (hn : ¬ S lb) (hl : B ≤ lb) (hd : s.down = false) (hf : first ≤ 1500000) (hm : fr + many ≤ s.now.length) :
    Calls Tryz.prog 57 #[.pointer (some ⟨lb, 0, none⟩)] w fun e w' => ∃ dv, e = .returned (.tuple #[dv, .nilIface]) ∧ ReadAt w w' B lb db fr many first dv (deedsL (secsD s fr many) first) (usedL (secsD s fr many) first) := by
  have c2 := hh.c2
  have hll := hh.lt
  have hmany := hk.many
  have HK := hide hk
  have hlen : (secsD s fr many).length = many := by unfold secsD; rw [List.length_take, List.length_drop]; omega
  have H96 : Hid (∀ i (h : i < (secsD s fr many).length), (secsD s fr many)[i].size = 96) := fun i h => hk.whole.1 _ (List.mem_of_mem_drop (List.mem_of_mem_take (List.getElem_mem h)))
  have HRD : Hid (∀ i (h : i < (secsD s fr many).length), dreadF s ((fr : Int) + (i : Int)) = 0 ∧ dreadD s ((fr : Int) + (i : Int)) = (secsD s fr many)[i]) := fun i h => by
    rw [hlen] at h
    have e : dreadF s ((fr : Int) + (i : Int)) = 0 := by unfold dreadF; rw [hd, if_neg (by decide), if_neg (by omega)]
    refine ⟨e, ?_⟩
    unfold dreadD
    rw [if_pos e, show ((fr : Int) + (i : Int)).toNat = fr + i by omega, ← secs_get s fr many i h, List.getElem?_eq_getElem]
    rfl
  have HLB := hide hh
  generalize hsec : secsD s fr many = secs at *
  unfold deedsL usedL
  generalize hres : scanL first 0 secs ([], []) 0 = res
  have HRES := hide hres
  have HLEN := hide hlen
  clear hsec hk hh hd hres hlen
  go_enter Tryz.func57, Tryz.ntmps57
  go_wp2
  have HI0 : Hid (RLI w (w.alloc (.cells #[.slice none 0 0, .slice none 0 0] 146)) B lb db fr many first w.heap.size ([], []) 0) := by
    have hb := below_alloc1 w (.cells #[.slice none 0 0, .slice none 0 0] 146)
    exact ⟨⟨.slice none 0 0, .slice none 0 0, [], ⟨cell_new _ _ _ 0, cell_new _ _ _ 1, fun j => frozen_new _ _ _ j, ⟨rfl, .inl ⟨rfl, rfl⟩⟩, ⟨rfl, .inl ⟨rfl, rfl⟩⟩, nofun, ⟨nofun, nofun⟩, nofun, Nat.le_refl _, fun _ => rfl⟩, rfl⟩, HLB.out.kept (hb.block lb hll), (RdW.refl w).more HK.out.lo hb⟩
  have hBW := HK.out.lo
  generalize hrb : w.heap.size = rb at HI0
  have HRB := hide hrb
  clear hrb
  go_loopw [15] (fun iv wr => ∃ (i : Nat) (st : RSt) (u : Nat), i ≤ many ∧ iv = .int .i64 (i : Int) ∧ RLI w wr B lb db fr many first rb st u ∧ st.1.length ≤ i ∧ st.2.length ≤ i ∧ scanL first i (secs.drop i) st u = res) (fun iv _ => many - (intOf iv).toNat)
  case atStart => exact ⟨0, _, 0, Nat.zero_le _, rfl, HI0.out, Nat.le_refl _, Nat.le_refl _, HRES.out⟩
  case round =>
    obtain ⟨i, st, u, hi, rfl, hI, hs1, hs2, hsc⟩ := hrel
    clear HI0
    by_cases hlt : i < many
    · have hlt' : (i : Int) < (many : Int) := by omega
      have hi0 : (0 : Int) ≤ (i : Int) := by omega
      have hsl : i < secs.length := by rw [HLEN.out]; exact hlt
      have HI := hide hI
      have c0 := hI.hd.c0
      have c1 := hI.hd.c1
      have c3 := hI.hd.c3
      have HSC := hide hsc
      rw [List.drop_eq_getElem_cons hsl] at HSC
      have HRR := hide (dread_any ((fr : Int) + (i : Int)) _ ((hI.ww.disk HK.out hn).on (Below.refl _ wr).drew))
      obtain ⟨q1, q2⟩ := HRD.out i hsl
      rw [q1, q2, errD_nil] at HRR
      have h96 := H96.out i hsl
      have k1 : IntKind.i64.wrap ((fr : Int) + (i : Int)) = (fr : Int) + (i : Int) := by rw [IntKind.wrap_i64]; omega
      have k2 : IntKind.i64.wrap ((first : Int) + (i : Int)) = (first : Int) + (i : Int) := by rw [IntKind.wrap_i64]; omega
      clear hI hsc q1 q2
      generalize secs[i] = t at *
      go_wp2
      go_region_held3 (fun w' => w'.cell? ⟨lb, 0, none⟩ = some (.pointer (some ⟨db, 0, none⟩)) ∧ w'.cell? ⟨lb, 1, none⟩ = some (.int .i64 (fr : Int))) (first | exact ⟨c0, c1⟩ | go_keep)
        ((go_at_call 31; refine HRR.out.mono ?_; rintro e w7 ⟨rfl, rfl⟩))
      replace HI := hide (HI.out.on HK.out.lo (Below.refl _ wr).drew)
      have efi : (first : Int) + (i : Int) = ((first + i : Nat) : Int) := by omega
      cases hde : decL t (first + i) with
      | none =>
        have HDC := hide (decode_none t (first + i) (by omega) h96 hde wr.drew)
        rw [← efi] at HDC
        rw [scan_none hde] at HSC
        clear efi hde c0 c1
        go_wp2_with (first | (go_at_call 64; refine HDC.out.mono ?_; rintro e w8 ⟨rfl, hb8⟩; replace HI := hide (HI.out.on HK.out.lo hb8); clear hb8; obtain ⟨dvE, avE, lE, hrE, hmE⟩ := HI.out.rd; have cE := hrE.c0; have HRA := hide (HI.out.fin hrE hmE HSC.out); clear hrE hmE) | fail)
        go_ret2
        exact ⟨dvE, rfl, HRA.out⟩
      | some kd =>
        obtain ⟨k, d⟩ := kd
        have HDC := hide (decode_some t (first + i) k d (by omega) h96 hde wr.drew)
        rw [← efi] at HDC
        have hds := decL_size hde
        rcases decL_kind hde with rfl | rfl
        · by_cases hp : parseF d = 0
          · have htk : takeL st 111 d = some (st.1, st.2 ++ [parseC d]) := by unfold takeL; rw [if_pos rfl, if_pos hp]
            rw [scan_step hde htk, if_neg (by decide)] at HSC
            have HTL := hide (takeL_len htk)
            have HP := hide hp
            clear efi hde htk hp c0 c1
            go_wp2_with (first
              | (go_at_call 64; refine HDC.out.mono ?_; rintro e w8 ⟨rfl, hb8⟩; replace HI := hide (HI.out.on HK.out.lo hb8); clear hb8; obtain ⟨dvE, avE, lE, hrE, hmE⟩ := HI.out.rd; have HTK := hide (take_change d (by omega) HP.out _ hrE (HI.out.ww.bel.size) (by omega)); rw [hmE] at HTK; clear hrE hmE)
              | (go_at_call 77; refine HTK.out.mono ?_; rintro e w9 ⟨rfl, ht9⟩; replace HI := hide (HI.out.take (st' := (st.1, st.2 ++ [parseC d])) HK.out.lo hll ht9); clear ht9)
              | fail)
            exact ⟨⟨i + 1, _, u, by omega, by go_num, HI.out, by have := HTL.out.1; simp at this ⊢; omega, by have := HTL.out.2; simp at this ⊢; omega, HSC.out⟩, by simp [intOf]; omega⟩
          · have htk : takeL st 111 d = none := by unfold takeL; rw [if_pos rfl, if_neg hp]
            rw [scan_stop hde htk] at HSC
            have HP := hide hp
            clear efi hde htk hp c0 c1
            go_wp2_with (first
              | (go_at_call 64; refine HDC.out.mono ?_; rintro e w8 ⟨rfl, hb8⟩; replace HI := hide (HI.out.on HK.out.lo hb8); clear hb8; obtain ⟨dvE, avE, lE, hrE, hmE⟩ := HI.out.rd; have HTK := hide (take_bad d (by omega) HP.out _ hrE (HI.out.ww.bel.size)); rw [hmE] at HTK; clear hrE hmE)
              | (go_at_call 77; refine HTK.out.mono ?_; rintro e w9 ⟨rfl, ht9⟩; replace HI := hide (HI.out.take (st' := st) HK.out.lo hll ht9); clear ht9; obtain ⟨dvF, avF, lF, hrF, hmF⟩ := HI.out.rd; have cF := hrF.c0; have HRA := hide (HI.out.fin hrF hmF HSC.out); clear hrF hmF)
              | fail)
            go_ret2
            exact ⟨dvF, rfl, HRA.out⟩
        · cases hp : (d.toList == (fourB st.2.length).toList) with
          | true =>
            have htk : takeL st 99 d = some (st.1 ++ [st.2], []) := by unfold takeL; rw [if_neg (by decide), if_pos hp]
            rw [scan_step hde htk, if_pos rfl] at HSC
            have HTL := hide (takeL_len htk)
            have HP := hide hp
            clear efi hde htk hp c0 c1
            go_wp2_with (first
              | (go_at_call 64; refine HDC.out.mono ?_; rintro e w8 ⟨rfl, hb8⟩; replace HI := hide (HI.out.on HK.out.lo hb8); clear hb8; obtain ⟨dvE, avE, lE, hrE, hmE⟩ := HI.out.rd; have HTK := hide (take_close d HP.out _ hrE (HI.out.ww.bel.size) (by omega) (by have e := congrArg List.length hmE; rw [List.length_map] at e; omega)); rw [hmE] at HTK; clear hrE hmE)
              | (go_at_call 77; refine HTK.out.mono ?_; rintro e w9 ⟨rfl, ht9⟩; replace HI := hide (HI.out.take (st' := (st.1 ++ [st.2], [])) HK.out.lo hll ht9); have c49 := HI.out.hd.c4; have f49 := HI.out.hd.soft 4; replace HI := hide (HI.out.use hl hll (Nat.le_of_eq HRB.out) (i + 1)); clear ht9)
              | fail)
            exact ⟨⟨i + 1, _, i + 1, by omega, by go_num, HI.out, by have := HTL.out.1; simp at this ⊢; omega, by simp, HSC.out⟩, by simp [intOf]; omega⟩
          | false =>
            have htk : takeL st 99 d = none := by unfold takeL; rw [if_neg (by decide), hp]; rfl
            rw [scan_stop hde htk] at HSC
            have HP := hide hp
            clear efi hde htk hp c0 c1
            go_wp2_with (first
              | (go_at_call 64; refine HDC.out.mono ?_; rintro e w8 ⟨rfl, hb8⟩; replace HI := hide (HI.out.on HK.out.lo hb8); clear hb8; obtain ⟨dvE, avE, lE, hrE, hmE⟩ := HI.out.rd; have HTK := hide (take_wrong d HP.out _ hrE (HI.out.ww.bel.size) (by omega)); rw [hmE] at HTK; clear hrE hmE)
              | (go_at_call 77; refine HTK.out.mono ?_; rintro e w9 ⟨rfl, ht9⟩; replace HI := hide (HI.out.take (st' := st) HK.out.lo hll ht9); clear ht9; obtain ⟨dvF, avF, lF, hrF, hmF⟩ := HI.out.rd; have cF := hrF.c0; have HRA := hide (HI.out.fin hrF hmF HSC.out); clear hrF hmF)
              | fail)
            go_ret2
            exact ⟨dvF, rfl, HRA.out⟩
    · have ei : i = many := by omega
      subst ei
      have hlt' : ¬ (i : Int) < (i : Int) := by omega
      rw [List.drop_eq_nil_of_le (by rw [HLEN.out]; exact Nat.le_refl _)] at hsc
      have hsc' : (st.1, u) = res := hsc
      obtain ⟨dvF, avF, lF, hrF, hmF⟩ := hI.rd
      have cF := hrF.c0
      have HRA := hide (hI.fin hrF hmF hsc')
      clear hrF hmF hsc hsc' hI
      go_wp2
      go_ret2
      exact ⟨dvF, rfl, HRA.out⟩
end
end Go.Proofs.YtkfpfbkdalbjoaaGreat
