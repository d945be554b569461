/-
  What Disk.note leaves of a disk: a write more that isn't kept.
-/
import Derived.Test.YtkfpfbkdalbjoaaGreatDskL
import Derived.Test.YtkfpfbkdalbjoaaGreatDskBuild
import Derived.Deep.AppendLies
import Derived.Deep.DeepCutAuto
namespace Go.Proofs.YtkfpfbkdalbjoaaGreat
open Go.RowKit Go.Joins
attribute [local go_sem ↓] Go.wp_at_zero Go.wp_at_succ

/-- a load of a write, and a row of one: kept from being laid open -/
noncomputable def ldRow (p : Value) : Sem Value := Instr.loadAt 151 p
noncomputable def mkRow (l : Array (Nat × Value)) : Sem Value := Instr.buildSlice 152 1 l
theorem ld_pre (p : Value) : Instr.loadAt 151 p = ldRow p := rfl
theorem mk_pre (l : Array (Nat × Value)) : Instr.buildSlice 152 1 l = mkRow l := rfl
section
variable {B db : Nat} {S : Nat → Prop} {s : DSt}
theorem DBy.noted {W2 W6 : World} {nb kb lb n a : Nat} {lv : List Value} {now kpt : List ByteArray} {loose : List (List Wr)} {next left : Int} {down : Bool} {v5 : Value} {l5 : List Wr} (h1 : DHd W2 db nb kb lb n next left down) (h2 : DBy W2 B db nb kb lb n lv now kpt loose) (ha : a < lv.length)
    (hl6 : W6.heap[lb]? = some (.cells (lv.set a v5).toArray 152 (0, 0))) (how : ownW W6 B v5 l5) (hg : ∀ k, v5.ownBlock = some k → lv[a].ownBlock = some k ∨ W2.heap.size ≤ k)
    (far : ∀ k, k < W2.heap.size → k ≠ lb → k ≠ db → lv[a].ownBlock ≠ some k → W6.heap[k]? = W2.heap[k]?) (bel : Below B W2 W6) :
    DBy W6 B db nb kb lb n (lv.set a v5) now kpt (loose.set a l5) ∧ StepV W2 W6 B (inD db nb kb lb lv) (inD db nb kb lb (lv.set a v5)) := by
  have hap := h2.ap
  have hlt : ∀ k, inD db nb kb lb lv k → k < W2.heap.size := fun k hk => h2.lt h1.lt hk
  have o5 : ∀ k, v5.ownBlock = some k → k ≠ db ∧ k ≠ nb ∧ k ≠ kb ∧ k ≠ lb ∧ ∀ j (hj : j < lv.length), lv[j].ownBlock = some k → j = a := fun k e => by
    rcases hg k e with e2 | e2
    · obtain ⟨p1, p2, p3, p4⟩ := h2.apo a ha k e2
      exact ⟨p1, p2, p3, p4, fun j hj e3 => h2.dis j a hj ha k e3 e2⟩
    · have q1 := hlt db (.inl rfl)
      have q2 := hlt nb (.inr (.inl rfl))
      have q3 := hlt kb (.inr (.inr (.inl rfl)))
      have q4 := hlt lb (.inr (.inr (.inr (.inl rfl))))
      exact ⟨by omega, by omega, by omega, by omega, fun j hj e3 => by have := hlt k (.inr (.inr (.inr (.inr ⟨j, hj, e3⟩)))); omega⟩
  have onb : ∀ k, (k = nb ∨ k = kb) → W6.heap[k]? = W2.heap[k]? := fun k hk => by
    rcases hk with rfl | rfl
    · exact far _ (hlt _ (.inr (.inl rfl))) hap.2.2.2.2.1 hap.1.symm fun e => (h2.apo a ha _ e).2.1 rfl
    · exact far _ (hlt _ (.inr (.inr (.inl rfl)))) hap.2.2.2.2.2 hap.2.1.symm fun e => (h2.apo a ha _ e).2.2.1 rfl
  refine ⟨{ h2 with hn := (onb nb (.inl rfl)).trans h2.hn, hk := (onb kb (.inr rfl)).trans h2.hk, hl := hl6, nl := by rw [List.length_set]; exact h2.nl, no := by rw [List.length_set]; exact h2.no, own := fun i hi hi' => ?_, dis := fun i j hi hj k e1 e2 => ?_, apo := fun i hi k e => ?_ }, ⟨bel, fun k hk hn => ⟨far k hk (fun e => hn (.inr (.inr (.inr (.inl e))))) (fun e => hn (.inl e)) (fun e => hn (.inr (.inr (.inr (.inr ⟨a, ha, e⟩))))), ?_⟩⟩⟩
  · rw [List.length_set] at hi hi'
    by_cases e : a = i
    · subst e; rw [List.getElem_set_self, List.getElem_set_self]; exact how
    · rw [List.getElem_set_ne e, List.getElem_set_ne e]
      refine ownW_kept (h2.own i hi hi') fun k hk => ?_
      obtain ⟨p1, p2, p3, p4⟩ := h2.apo i hi k hk
      exact far k (hlt k (.inr (.inr (.inr (.inr ⟨i, hi, hk⟩))))) p4 p1 fun e2 => e (h2.dis a i ha hi k e2 hk)
  · rw [List.length_set] at hi hj
    by_cases ei : a = i
    · subst ei
      rw [List.getElem_set_self] at e1
      by_cases ej : a = j
      · exact ej
      · rw [List.getElem_set_ne ej] at e2
        exact ((o5 k e1).2.2.2.2 j hj e2).symm
    · rw [List.getElem_set_ne ei] at e1
      by_cases ej : a = j
      · subst ej
        rw [List.getElem_set_self] at e2
        exact (o5 k e2).2.2.2.2 i hi e1
      · rw [List.getElem_set_ne ej] at e2
        exact h2.dis i j hi hj k e1 e2
  · rw [List.length_set] at hi
    by_cases ei : a = i
    · subst ei
      rw [List.getElem_set_self] at e
      obtain ⟨p1, p2, p3, p4, _⟩ := o5 k e
      exact ⟨p1, p2, p3, p4⟩
    · rw [List.getElem_set_ne ei] at e
      exact h2.apo i hi k e
  · rintro (e | e | e | e | ⟨i, hi, e⟩)
    · exact hn (.inl e)
    · exact hn (.inr (.inl e))
    · exact hn (.inr (.inr (.inl e)))
    · exact hn (.inr (.inr (.inr (.inl e))))
    · rw [List.length_set] at hi
      by_cases ei : a = i
      · subst ei
        rw [List.getElem_set_self] at e
        rcases hg k e with e2 | e2
        · exact hn (.inr (.inr (.inr (.inr ⟨a, ha, e2⟩))))
        · omega
      · rw [List.getElem_set_ne ei] at e
        exact hn (.inr (.inr (.inr (.inr ⟨i, hi, e⟩))))
attribute [local go_sem ↓] ld_pre mk_pre
set_option maxRecDepth 100000 in
set_option maxHeartbeats 4000000 in
theorem dnote_any (a : Nat) (d : ByteArray) (w : World) (h : DK w B db S s) (ha : a < s.now.length) (hd : d.size = 96) : Calls Tryz.prog 65 #[.pointer (some ⟨db, 0, none⟩), .int .i64 a, .agg (secV d).toArray] w fun e w' => e = .returned (.tuple #[]) ∧ ActD w w' B db S { s with wait := s.wait ++ [(a, d)] } := by
  obtain ⟨nb, kb, lb, n, lv, loose, L, h1, h2, hS, h4, h5, h6, h7⟩ := h
  obtain ⟨q, hq⟩ : ∃ q : Int, ((s.wait.length % 64 : Nat) : Int) = q := ⟨_, rfl⟩
  have hq0 : 0 ≤ q ∧ q < 64 := by omega
  rw [hq] at h1
  have HQ := hide hq
  clear hq
  obtain ⟨cw, hcw⟩ : ∃ cw : List Value, cw = cellW (q, d) := ⟨_, rfl⟩
  have hcl : cw.length = 97 := by rw [hcw]; exact cellW_length hd
  have HCW := hide hcw
  have hb0 := below_alloc1 w (.cells (secV d).toArray 118)
  have hdb := h1.lt
  have c3 := cell_on hb0 h1.c3
  have hzs : (Tryz.zeroCells151).size = 97 := by kernel_rfl
  have hfw : List.foldl (fun cs (x : Value × Nat) => cs.setIfInBounds (1 + x.2) x.1) ((Tryz.zeroCells151).setIfInBounds 0 (Value.int .i64 q)) (secV d).zipIdx = cw.toArray := by rw [hcw]; exact fold_write _ hzs q d hd
  have hst : (storeCells ⟨w.heap.size + 1, 0, none⟩ cw).run Tryz.prog ((w.alloc (.cells (secV d).toArray 118)).alloc (.cells Tryz.zeroCells151 151)).drew = .ok () ((w.alloc (.cells (secV d).toArray 118)).alloc (.cells cw.toArray 151)).drew := by
    have := store_new (P := Tryz.prog) (w.alloc (.cells (secV d).toArray 118)).drew Tryz.zeroCells151 151 cw (by rw [hcl, hzs]) (by rw [hcw]; exact cellW_one _)
    rw [show (w.alloc (.cells (secV d).toArray 118)).drew.heap.size = w.heap.size + 1 by simp] at this
    exact this
  have hra : (w.alloc (.cells (secV d).toArray 118)).rangeAt w.heap.size 0 (secV d) := rangeAt_block (Go.heap_alloc_new w _) (fun j _ => by rw [Nat.zero_add])
  have hu := Tryz.underlying118
  have hcs : (secV d).length = 96 := (secV_length d).trans hd
  have hi : (Tryz.prog.info? 118).map (·.size) = some (secV d).length := by rw [hcs]; exact sector_size
  have hb1 : Below (w.alloc (.cells (secV d).toArray 118)).heap.size (w.alloc (.cells (secV d).toArray 118)) ((w.alloc (.cells (secV d).toArray 118)).alloc (.cells cw.toArray 151)).drew := (below_alloc1 (w.alloc (.cells (secV d).toArray 118)) (.cells cw.toArray 151)).drew
  have hb2 : Below (w.alloc (.cells (secV d).toArray 118)).heap.size (w.alloc (.cells (secV d).toArray 118)) ((w.alloc (.cells (secV d).toArray 118)).alloc (.cells Tryz.zeroCells151 151)).drew := (below_alloc1 (w.alloc (.cells (secV d).toArray 118)) (.cells Tryz.zeroCells151 151)).drew
  have HC3 := hide (cell_on hb2 c3)
  have HC4 := hide (rangeAt_on hb2 hra)
  have HC1 := hide (cell_on hb1 c3)
  have HC2 := hide (rangeAt_on hb1 hra)
  have HB1 := hide (below_on hb0 (Nat.le_refl _) hb1)
  have H1 := hide h1
  have H2 := hide h2
  have H4 := hide h4
  have H5 := hide h5
  have H6 := hide h6
  have HS := hide hS
  clear h1 h2 h4 h5 h6 hS hzs hcw hb1 hb2 hb0
  go_enter Tryz.func65, Tryz.ntmps65
  go_wp2_with (fail)
  go_region_held3 (fun w' => w'.cell? ⟨db, 3, none⟩ = some (.int .i64 q) ∧ w'.rangeAt w.heap.size 0 (secV d)) (first | exact ⟨HC1.out, HC2.out⟩ | exact ⟨HC3.out, HC4.out⟩ | go_keep) (fail)
  have H1' := hide (H1.out.kept (w' := ((w.alloc (.cells (secV d).toArray 118)).alloc (.cells cw.toArray 151)).drew) (HB1.out.block db hdb))
  have H2' := hide (H2.out.kept fun k _ hk => HB1.out.block k (H2.out.lt hdb hk))
  have HRA : Hid (((w.alloc (.cells (secV d).toArray 118)).alloc (.cells cw.toArray 151)).drew.rangeAt (w.heap.size + 1) 0 cw) := rangeAt_block (fr := (0, 0)) (t := 151) (by have := Go.heap_alloc_new (w.alloc (.cells (secV d).toArray 118)) (.cells cw.toArray 151); rw [show (w.alloc (.cells (secV d).toArray 118)).heap.size = w.heap.size + 1 by simp] at this; exact this) (fun j _ => by rw [Nat.zero_add])
  have HSZ : Hid (((w.alloc (.cells (secV d).toArray 118)).alloc (.cells cw.toArray 151)).drew.heap.size = w.heap.size + 2) := by simp [Hid]
  clear HC1 HC2 HC3 HC4 hst hra hfw c3 hu hi
  generalize ((w.alloc (.cells (secV d).toArray 118)).alloc (.cells cw.toArray 151)).drew = W2 at *
  have hal : a < lv.length := by rw [H2'.out.nl, ← H2'.out.nn]; exact ha
  have halo : a < loose.length := by rw [H2'.out.no, ← H2'.out.nn]; exact ha
  have HOW := hide (H2'.out.own a hal halo)
  have c2 := H1'.out.c2
  have cl : W2.cell? ⟨lb, a, none⟩ = some lv[a] := by rw [cell_of_row W2 lb a _ _ _ H2'.out.hl, List.getElem?_toArray]; exact List.getElem?_eq_getElem hal
  have hls : loose[a].length ≤ 64 := H4.out.short halo
  have hpq : W2.cell? ⟨w.heap.size + 1, 0, none⟩ = some (.int .i64 q) := HRA.out 0 _ (by rw [HCW.out]; rfl)
  have HPN : Hid (lv[a].ownBlock ≠ some (w.heap.size + 1)) := fun e => by have := H2.out.lt hdb (.inr (.inr (.inr (.inr ⟨a, hal, e⟩)))); omega
  have HDL : Hid (∀ W, W2.heap = W.heap → Calls Tryz.prog 80 #[lv[a], .func (.func 81) #[] #[.pointer (some ⟨w.heap.size + 1, 0, none⟩)]] W fun e w' => ∃ ao m cap, e = .returned (.slice ao m cap) ∧ DelV W w' B lv[a] (.slice ao m cap) (offW q loose[a])) := fun W hW =>
    del_any (w.heap.size + 1) q lv[a] loose[a] B W ((World.cell?_of_block (by rw [hW])).trans hpq) (ownW_kept HOW.out fun k _ => by rw [hW]) HPN.out (by omega) (by rw [← hW, HSZ.out]; omega)
  have hdb2 : db < W2.heap.size := by rw [HSZ.out]; omega
  have hlb2 : lb < W2.heap.size := World.block_lt_of_cell? _ _ cl
  have hla : (a : Int) < (n : Int) := by rw [← H2'.out.nn]; omega
  have hla0 : (0 : Int) ≤ (a : Int) := by omega
  have fl : W2.frozen? ⟨lb, a, none⟩ = false := by simp [World.frozen?, H2'.out.hl]
  have HNO : Hid (lv[a].ownBlock ≠ some db ∧ lv[a].ownBlock ≠ some lb) := ⟨fun e => (H2'.out.apo a hal _ e).1 rfl, fun e => (H2'.out.apo a hal _ e).2.2.2 rfl⟩
  generalize hva : lv[a] = va at *
  have HVA := hide hva
  clear hva
  have htest : ∀ (w3 : World) (ao : Option Addr) (m cap : Nat), DelV W2.drew w3 B va (.slice ao m cap) (offW q loose[a]) → w3.cell? ⟨db, 2, none⟩ = some (.slice (some ⟨lb, 0, none⟩) n n) ∧ w3.cell? ⟨lb, a, none⟩ = some va ∧ w3.frozen? ⟨lb, a, none⟩ = false := fun w3 ao m cap hD => by
    have e1 : w3.heap[db]? = W2.heap[db]? := hD.far db HNO.out.1 hdb2
    have e2 : w3.heap[lb]? = W2.heap[lb]? := hD.far lb HNO.out.2 hlb2
    exact ⟨(World.cell?_of_block (a := ⟨db, 2, none⟩) e1).trans c2, (World.cell?_of_block (a := ⟨lb, a, none⟩) e2).trans cl, (World.frozen?_of_block (a := ⟨lb, a, none⟩) e2).trans fl⟩
  have HTE := hide htest
  clear htest
  go_wp2_with (fail)
  go_cut [] (fun wx => ∃ ao m cap w3, DelV W2.drew w3 B va (.slice ao m cap) (offW q loose[a]) ∧ w3.setCell ⟨lb, a, none⟩ (.slice ao m cap) = wx)
  case first =>
    go_region_law (first
      | (go_simp; go_at_call 80; refine (HDL.out W2.drew rfl).mono ?_; rintro e w3 ⟨ao, m, cap, rfl, hD⟩; obtain ⟨c2', cl', fl'⟩ := HTE.out w3 ao m cap hD; have HD := hide hD; clear hD))
    all_goals (go_wp2_with fail; go_meet; exact ⟨ao, m, cap, w3, HD.out, rfl⟩)
  case rest =>
    obtain ⟨ao, m, cap, w3, hD, rfl⟩ := hcut
    have e1 : w3.heap[db]? = W2.heap[db]? := hD.far db HNO.out.1 hdb2
    have e2 : w3.heap[lb]? = W2.heap[lb]? := hD.far lb HNO.out.2 hlb2
    have hpb2 : w.heap.size + 1 < W2.heap.size := by rw [HSZ.out]; omega
    have e3 : w3.heap[w.heap.size + 1]? = W2.heap[w.heap.size + 1]? := hD.far _ HPN.out hpb2
    have hs3 : W2.heap.size ≤ w3.heap.size := hD.bel.size
    have hl3 : w3.heap[lb]? = some (.cells lv.toArray 152 (0, 0)) := e2.trans H2'.out.hl
    have k4 : ∀ k, k ≠ lb → (w3.setCell ⟨lb, a, none⟩ (.slice ao m cap)).heap[k]? = w3.heap[k]? := fun k hk => Below.heap_setCell _ _ _ _ hk
    have hl4 : (w3.setCell ⟨lb, a, none⟩ (.slice ao m cap)).heap[lb]? = some (.cells (lv.set a (.slice ao m cap)).toArray 152 (0, 0)) := by
      rw [setCell_eq_setRow w3 lb a lv.toArray _ _ _ hl3, setRow_heap w3 lb lv.toArray _ _ _ hl3]
      simp
    have hplb : w.heap.size + 1 ≠ lb := by have := H2.out.lt hdb (.inr (.inr (.inr (.inl rfl)))); omega
    have hdl := H2'.out.ap.2.2.1
    have c2 : (w3.setCell ⟨lb, a, none⟩ (.slice ao m cap)).cell? ⟨db, 2, none⟩ = some (.slice (some ⟨lb, 0, none⟩) n n) := ((World.cell?_of_block (a := ⟨db, 2, none⟩) ((k4 db hdl).trans e1))).trans c2
    have cl : (w3.setCell ⟨lb, a, none⟩ (.slice ao m cap)).cell? ⟨lb, a, none⟩ = some (.slice ao m cap) := by
      rw [cell_of_row _ lb a _ _ _ hl4, List.getElem?_toArray, List.getElem?_set_self hal]
    have fl : (w3.setCell ⟨lb, a, none⟩ (.slice ao m cap)).frozen? ⟨lb, a, none⟩ = false := by simp [World.frozen?, hl4]
    have HRB : Hid ((w3.setCell ⟨lb, a, none⟩ (.slice ao m cap)).rangeAt (w.heap.size + 1) 0 cw) := fun j v hv => (World.cell?_of_block ((k4 _ hplb).trans e3)).trans (HRA.out j v hv)
    have hvn : (Value.slice ao m cap).ownBlock ≠ some lb := by rw [hD.same]; exact HNO.out.2
    have HOW4 : Hid (ownW (w3.setCell ⟨lb, a, none⟩ (.slice ao m cap)) B (.slice ao m cap) (offW q loose[a])) := ownW_kept hD.own fun k e => k4 k fun e2 => hvn (e2 ▸ e)
    have HF4 : Hid (∀ k, k < W2.heap.size → k ≠ lb → va.ownBlock ≠ some k → (w3.setCell ⟨lb, a, none⟩ (.slice ao m cap)).heap[k]? = W2.heap[k]?) := fun k h1 h2 h3 => (k4 k h2).trans (hD.far k h3 h1)
    have HB4 : Hid (Below B W2 (w3.setCell ⟨lb, a, none⟩ (.slice ao m cap))) := (((Below.refl _ _).drew).trans hD.bel).setCell (p := ⟨lb, a, none⟩) H2'.out.lo.2.2.2 _
    have HSM := hide hD.same
    have HL4 := hide hl4
    have hs4 : W2.heap.size ≤ (w3.setCell ⟨lb, a, none⟩ (.slice ao m cap)).heap.size := by simpa using hs3
    clear hD e1 e2 e3 hl3 hl4 k4 hs3 hvn hplb HDL HTE
    generalize w3.setCell ⟨lb, a, none⟩ (.slice ao m cap) = W4 at *
    have HLD := hide (load_write (w := W4.drew) (g := w.heap.size + 1) (o := 0) (x := (q, d)) (by rw [← HCW.out]; exact (World.rangeAt_drew _ _ _ _).2 HRB.out) hd)
    rw [← HCW.out] at HLD
    have HBS : Hid ((Instr.buildSlice 152 1 #[(0, .agg cw.toArray)]).run Tryz.prog W4.drew = .ok (.slice (some ⟨W4.heap.size, 0, none⟩) 1 1) (W4.alloc (.cells cw.toArray 151)).drew) := by
      rw [HCW.out]; exact row_one (q, d) hd W4.drew
    obtain ⟨i0, z0, hi0, hz0, hz1, hz2, hz3⟩ := write_parts
    have hm64 : (offW q loose[a]).length ≤ 64 := Nat.le_trans (offW_length _ _) hls
    have hml : m = (offW q loose[a]).length := by
      rcases HOW4.out.1.2 with ⟨e, e2⟩ | ⟨g', cap', cur', e, _⟩
      · cases e; exact e2.symm
      · cases e; rfl
    have HON : Hid ((W4.alloc (.cells cw.toArray 151)).drew.ownsRow B 151 97 (.slice ao m cap) m ((offW q loose[a]).flatMap cellW)) := by
      rw [hml]
      exact ((hml ▸ HOW4.out.1).alloc _).drew
    have HNW : Hid (∀ j u, cw[j]? = some u → (W4.alloc (.cells cw.toArray 151)).drew.cell? ((⟨W4.heap.size, 0, none⟩ : Addr).add j) = some u) := World.news_of_block (cs := cw.toArray) (t := 151) (fr := (0, 0)) (heap_alloc_new W4 _)
    have HC1 : Hid (∀ v ∈ cw, v.oneCell' = true) := by rw [HCW.out]; exact cellW_one _
    have hdb4 : db < W4.heap.size := by omega
    have hlb4 : lb < W4.heap.size := by omega
    have HNO4 : Hid ((Value.slice ao m cap).ownBlock ≠ some db ∧ (Value.slice ao m cap).ownBlock ≠ some lb) := by rw [HSM.out]; exact HNO.out
    have HBW : Hid (B ≤ W4.heap.size) := hide (by have := HB4.out.size; omega)
    have hmm : m ≤ 64 := by omega
    have HML := hide hml
    clear hml
    have HAF : Hid (∀ w5 : World, World.grownBy (W4.alloc (.cells cw.toArray 151)).drew w5 (Value.slice ao m cap).ownBlock → w5.cell? ⟨db, 2, none⟩ = some (.slice (some ⟨lb, 0, none⟩) n n) ∧ w5.cell? ⟨lb, a, none⟩ = some (.slice ao m cap) ∧ w5.frozen? ⟨lb, a, none⟩ = false) := fun w5 hgrow =>
      ⟨(hgrow.cell_far _ (by simp; omega) (Ne.symm HNO4.out.1)).trans (cell_on (below_alloc1 _ _).drew c2), (hgrow.cell_far _ (by simp; omega) (Ne.symm HNO4.out.2)).trans (cell_on (below_alloc1 _ _).drew cl), (hgrow.frozen_far _ (by simp; omega) (Ne.symm HNO4.out.2)).trans (frozen_on (below_alloc1 _ _).drew hlb4 fl)⟩
    go_wp2_with (fail)
    go_cut [] (fun wx => ∃ g cap5 w5, w5.ownsRow B 151 97 (.slice (some ⟨g, 0, none⟩) (m + 1) cap5) (m + 1) ((offW q loose[a]).flatMap cellW ++ cw) ∧ World.grownBy (W4.alloc (.cells cw.toArray 151)).drew w5 (Value.slice ao m cap).ownBlock ∧ ((Value.slice ao m cap).ownBlock = some g ∨ g = W4.heap.size + 1) ∧ w5.setCell ⟨lb, a, none⟩ (.slice (some ⟨g, 0, none⟩) (m + 1) cap5) = wx)
    case first =>
      have hld : (ldRow (.pointer (some ⟨w.heap.size + 1, 0, none⟩))).run Tryz.prog W4.drew = .ok (.agg cw.toArray) W4.drew := HLD.out
      have hbs : (mkRow #[(0, .agg cw.toArray)]).run Tryz.prog W4.drew = .ok (.slice (some ⟨W4.heap.size, 0, none⟩) 1 1) (W4.alloc (.cells cw.toArray 151)).drew := HBS.out
      have cl4 : (W4.alloc (.cells cw.toArray 151)).cell? ⟨lb, a, none⟩ = some (.slice ao m cap) := cell_on (below_alloc1 _ _) cl
      have c24 : (W4.alloc (.cells cw.toArray 151)).cell? ⟨db, 2, none⟩ = some (.slice (some ⟨lb, 0, none⟩) n n) := cell_on (below_alloc1 _ _) c2
      go_region_law ((refine step_append_lies _ (by rfl) _ _ _ (by rfl) B 151 i0 z0 97 104 Tryz.underlying152 hi0 hz0 hz1 hz2 hz3 (by omega) (.slice ao m cap) m ((offW q loose[a]).flatMap cellW) (by rfl) HON.out ⟨W4.heap.size, 0, none⟩ 1 1 cw (by rfl) (by rw [hcl]) HNW.out HC1.out (by omega) (by unfold maxLen; omega) (by omega) (by have := HBW.out; simp; omega) (W4.heap.size + 1) (by simp) ?_; intro g cap5 w5 ho5 hgrow hat5 hlt5; obtain ⟨c2', cl', fl'⟩ := HAF.out w5 hgrow; have HO5 := hide ho5; have HG5 := hide hgrow; have HA5 := hide hat5; clear ho5 hgrow hat5))
      all_goals (go_wp2_with fail; go_meet; exact ⟨g, cap5, w5, HO5.out, HG5.out, HA5.out, rfl⟩)
    case rest =>
      obtain ⟨g, cap5, w5, ho5, hgrow, hat5, rfl⟩ := hcut
      have hz4 : (W4.alloc (.cells cw.toArray 151)).drew.heap.size = W4.heap.size + 1 := by simp
      have f5 : ∀ k, k < W4.heap.size → (Value.slice ao m cap).ownBlock ≠ some k → w5.heap[k]? = W4.heap[k]? := fun k hk hn => (hgrow.block k (by rw [hz4]; omega) (Ne.symm hn)).trans ((below_alloc1 W4 (.cells cw.toArray 151)).block k hk)
      have hl5 : w5.heap[lb]? = some (.cells (lv.set a (.slice ao m cap)).toArray 152 (0, 0)) := (f5 lb hlb4 HNO4.out.2).trans HL4.out
      have hd5 : w5.heap[db]? = W2.heap[db]? := (f5 db hdb4 HNO4.out.1).trans (HF4.out db hdb2 hdl HNO.out.1)
      have hl6 : (w5.setCell ⟨lb, a, none⟩ (.slice (some ⟨g, 0, none⟩) (m + 1) cap5)).heap[lb]? = some (.cells (lv.set a (.slice (some ⟨g, 0, none⟩) (m + 1) cap5)).toArray 152 (0, 0)) := by
        rw [setCell_eq_setRow w5 lb a (lv.set a (.slice ao m cap)).toArray _ _ _ hl5, setRow_heap w5 lb (lv.set a (.slice ao m cap)).toArray _ _ _ hl5]
        simp
      have k6 : ∀ k, k ≠ lb → (w5.setCell ⟨lb, a, none⟩ (.slice (some ⟨g, 0, none⟩) (m + 1) cap5)).heap[k]? = w5.heap[k]? := fun k hk => Below.heap_setCell _ _ _ _ hk
      have h16 : DHd (w5.setCell ⟨lb, a, none⟩ (.slice (some ⟨g, 0, none⟩) (m + 1) cap5)) db nb kb lb n q L s.down := H1'.out.kept ((k6 db hdl).trans hd5)
      have c3 := h16.c3
      have f3 := h16.soft 3
      have hgn : g ≠ lb ∧ g ≠ db := by
        rcases hat5 with e | e
        · exact ⟨fun e2 => HNO4.out.2 (e2 ▸ e), fun e2 => HNO4.out.1 (e2 ▸ e)⟩
        · omega
      have hog : ∀ k, (Value.slice (some ⟨g, 0, none⟩) (m + 1) cap5).ownBlock = some k → k = g := fun k e => by cases e; rfl
      have hsz5 : W4.heap.size + 1 ≤ w5.heap.size := by have := hgrow.size; rw [hz4] at this; exact this
      have hown6 : ∀ nx : Int, ownW ((w5.setCell ⟨lb, a, none⟩ (.slice (some ⟨g, 0, none⟩) (m + 1) cap5)).setCell ⟨db, 3, none⟩ (.int .i64 nx)) B (.slice (some ⟨g, 0, none⟩) (m + 1) cap5) (offW q loose[a] ++ [(q, d)]) := fun nx => by
        refine ownW_kept (w := w5) ⟨?_, fun x hx => ?_⟩ fun k e => ?_
        · rw [List.length_append, List.flatMap_append, ← HML.out]
          show w5.ownsRow B _ 97 _ (m + 1) (_ ++ (cellW (q, d) ++ []))
          rw [List.append_nil, ← HCW.out]
          exact ho5
        · rcases List.mem_append.1 hx with hx | hx
          · exact HOW4.out.2 x hx
          · rw [List.mem_singleton] at hx; rw [hx]; exact hd
        · have := hog k e
          subst this
          rw [Below.heap_setCell _ _ _ _ hgn.2]
          exact k6 _ hgn.1
      have hbel : ∀ nx : Int, Below B W2 ((w5.setCell ⟨lb, a, none⟩ (.slice (some ⟨g, 0, none⟩) (m + 1) cap5)).setCell ⟨db, 3, none⟩ (.int .i64 nx)) := fun nx =>
        ((HB4.out.trans (((Below.refl B W4).alloc HBW.out (.cells cw.toArray 151)).drew.trans ((Below.refl B _).grown hgrow (by rw [hz4]; have := HBW.out; omega) (fun k hk => (World.ownsRow.lt HON.out k hk).1)))).setCell (p := ⟨lb, a, none⟩) H2'.out.lo.2.2.2 _).setCell (p := ⟨db, 3, none⟩) H2'.out.lo.1 _
      have HE : Hid (ActD w ((w5.setCell ⟨lb, a, none⟩ (.slice (some ⟨g, 0, none⟩) (m + 1) cap5)).setCell ⟨db, 3, none⟩ (.int .i64 ((q + 1) % 64))) B db S { s with wait := s.wait ++ [(a, d)] }) := by
        obtain ⟨hby, hstep⟩ := DBy.noted (W6 := (w5.setCell ⟨lb, a, none⟩ (.slice (some ⟨g, 0, none⟩) (m + 1) cap5)).setCell ⟨db, 3, none⟩ (.int .i64 ((q + 1) % 64))) (v5 := (.slice (some ⟨g, 0, none⟩) (m + 1) cap5)) H1'.out H2'.out hal (by rw [Below.heap_setCell _ _ _ _ hdl.symm]; exact hl6) (hown6 _)
          (fun k e => by
            have := hog k e
            subst this
            rw [HVA.out, ← HSM.out]
            rcases hat5 with e2 | e2
            · exact .inl e2
            · exact .inr (by omega))
          (fun k h1 h2 h3 h4 => by
            rw [HVA.out] at h4
            rw [Below.heap_setCell _ _ _ _ h3, k6 k h2, f5 k (by omega) (by rw [HSM.out]; exact h4)]
            exact HF4.out k h1 h2 h4)
          (hbel _)
        have hlen : (s.wait ++ [(a, d)]).length = s.wait.length + 1 := by simp
        have hnx : (((s.wait ++ [(a, d)]).length % 64 : Nat) : Int) = (q + 1) % 64 := by rw [hlen, ← HQ.out]; omega
        have hlo := H4.out.note halo hd
        refine ⟨inD db nb kb lb (lv.set a (.slice (some ⟨g, 0, none⟩) (m + 1) cap5)), ⟨nb, kb, lb, n, lv.set a (.slice (some ⟨g, 0, none⟩) (m + 1) cap5), loose.set a (offW q loose[a] ++ [(q, d)]), L, ?_, hby, rfl, ?_, fun x hx => ?_, H6.out, ?_⟩, ?_⟩
        · show DHd _ db nb kb lb n (((s.wait ++ [(a, d)]).length % 64 : Nat) : Int) L s.down
          rw [hnx]
          exact h16.next' _
        · rw [HQ.out] at hlo
          exact hlo
        · rcases List.mem_append.1 hx with hx | hx
          · exact H5.out x hx
          · rw [List.mem_singleton] at hx; rw [hx]; exact hd
        · have := (hbel ((q + 1) % 64)).size
          have := HSZ.out
          omega
        · rw [HS.out]
          exact (StepV.on h7 HB1.out).trans hstep
      have hq1 := hq0.1
      have hq2 := hq0.2
      clear hz4 f5 hl5 hd5 hl6 k6 h16 hgn hog hsz5 hown6 hbel
      generalize w5.setCell ⟨lb, a, none⟩ (.slice (some ⟨g, 0, none⟩) (m + 1) cap5) = W5 at *
      go_wp2
      go_end0
      exact ⟨rfl, HE.out⟩
end
end Go.Proofs.YtkfpfbkdalbjoaaGreat
