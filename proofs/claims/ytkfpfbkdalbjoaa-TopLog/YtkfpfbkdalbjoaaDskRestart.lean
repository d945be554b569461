/-
  What Disk.Restart leaves of a disk.
-/
import Derived.Test.YtkfpfbkdalbjoaaDskFlush
import Derived.Test.YtkfpfbkdalbjoaaDskWrite
namespace Go.Proofs.Ytkfpfbkdalbjoaa
open Go.RowKit Go.Joins
attribute [local go_sem ↓] Go.wp_at_zero Go.wp_at_succ

section
variable {B db : Nat} {S : Nat → Prop} {s : DSt}
/-- what is kept when so many sectors have been gone over, and so many writes of the next one -/
structure MidK (k : Int) (loose : List (List Wr)) (K : List ByteArray) (i j : Nat) (K' : List ByteArray) : Prop where
  len : K'.length = K.length
  big : ∀ x ∈ K', x.size = 96
  at_ : ∀ m (h : m < K.length) (h' : m < loose.length), K'[m]? = some (if m < i then lastW k loose[m] K[m] else if m = i then lastW k (loose[m].take j) K[m] else K[m])
theorem MidK.start {k : Int} {loose : List (List Wr)} {K : List ByteArray} (hb : ∀ x ∈ K, x.size = 96) : MidK k loose K 0 0 K := ⟨rfl, hb, fun m h h' => by
  rw [List.getElem?_eq_getElem h, if_neg (by omega)]
  split
  · rfl
  · rfl⟩
theorem MidK.next {k : Int} {loose : List (List Wr)} {K K' : List ByteArray} {i j : Nat} (h : MidK k loose K i j K') (hi : i < loose.length) (hj : loose[i].length ≤ j) : MidK k loose K (i + 1) 0 K' := ⟨h.len, h.big, fun m hm h' => by
  rw [h.at_ m hm h']
  congr 1
  by_cases e : m < i
  · rw [if_pos e, if_pos (by omega)]
  · rw [if_neg e]
    by_cases e2 : m = i
    · subst e2
      rw [if_pos rfl, if_pos (by omega), List.take_of_length_le hj]
    · rw [if_neg e2, if_neg (by omega)]
      split
      · rfl
      · rfl⟩
theorem lastW_take {k : Int} {l : List Wr} {j : Nat} (hj : j < l.length) (d : ByteArray) : lastW k (l.take (j + 1)) d = if keepB k l[j].1.toNat then l[j].2 else lastW k (l.take j) d := by
  rw [List.take_succ_eq_append_getElem hj, lastW_snoc]
theorem MidK.skip {k : Int} {loose : List (List Wr)} {K K' : List ByteArray} {i j : Nat} (h : MidK k loose K i j K') (hi : i < loose.length) (hj : j < loose[i].length) (hb : keepB k loose[i][j].1.toNat = false) : MidK k loose K i (j + 1) K' := ⟨h.len, h.big, fun m hm h' => by
  rw [h.at_ m hm h']
  congr 1
  by_cases e : m < i
  · rw [if_pos e, if_pos e]
  · rw [if_neg e, if_neg e]
    by_cases e2 : m = i
    · subst e2
      rw [if_pos rfl, if_pos rfl, lastW_take hj, hb]; rfl
    · rw [if_neg e2, if_neg e2]⟩
theorem MidK.set {k : Int} {loose : List (List Wr)} {K K' : List ByteArray} {i j : Nat} (h : MidK k loose K i j K') (hi : i < loose.length) (hj : j < loose[i].length) (hb : keepB k loose[i][j].1.toNat = true) (hz : loose[i][j].2.size = 96) : MidK k loose K i (j + 1) (K'.set i loose[i][j].2) := ⟨by rw [List.length_set]; exact h.len, fun x hx => (List.mem_or_eq_of_mem_set hx).elim (h.big x) (fun e => by rw [e]; exact hz), fun m hm h' => by
  by_cases e2 : m = i
  · subst e2
    rw [List.getElem?_set_self (by rw [h.len]; exact hm), if_neg (by omega), if_pos rfl, lastW_take hj, hb]; rfl
  · rw [List.getElem?_set_ne (Ne.symm e2), h.at_ m hm h']
    congr 1
    by_cases e : m < i
    · rw [if_pos e, if_pos e]
    · rw [if_neg e, if_neg e, if_neg e2, if_neg e2]⟩
theorem MidK.done {k : Int} {n : Nat} {wait : List (Nat × ByteArray)} {loose : List (List Wr)} {K K' : List ByteArray} {j : Nat} (h : MidK k loose K n j K') (ho : LooseOk n wait loose) (hK : K.length = n) : K' = keepL k 0 wait K := by
  apply List.ext_getElem?
  intro m
  rw [keepL_get]
  by_cases hm : m < K.length
  · rw [h.at_ m hm (by rw [ho.len, ← hK]; exact hm), if_pos (by omega), List.getElem?_eq_getElem hm, ho.same m (by rw [ho.len, ← hK]; exact hm)]; rfl
  · rw [List.getElem?_eq_none (by rw [h.len]; omega), List.getElem?_eq_none (by omega)]; rfl
/-- a sector that is kept is laid anew -/
theorem DBy.keptSet {w : World} {nb kb lb n a : Nat} {lv : List Value} {now kpt : List ByteArray} {loose : List (List Wr)} {next L : Int} {down : Bool} {d : ByteArray} (h1 : DHd w db nb kb lb n next L down) (h2 : DBy w B db nb kb lb n lv now kpt loose) (ha : a < kpt.length) (hd : d.size = 96) :
    w.there kb (a * 96) 96 ∧ DHd (w.setCells kb (a * 96) (secV d)) db nb kb lb n next L down ∧ DBy (w.setCells kb (a * 96) (secV d)) B db nb kb lb n lv now (kpt.set a d) loose ∧ StepV w (w.setCells kb (a * 96) (secV d)) B (inD db nb kb lb lv) (inD db nb kb lb lv) ∧ (w.setCells kb (a * 96) (secV d)).heap[db]? = w.heap[db]? := by
  have hl : (secV d).length = 96 := (secV_length d).trans hd
  have hfl : (kpt.flatMap secV).length = kpt.length * 96 := dflat_length (z := 96) fun x hx => (secV_length x).trans (h2.sk x hx)
  have hap := h2.ap
  have k1 : ∀ k, k ≠ kb → (w.setCells kb (a * 96) (secV d)).heap[k]? = w.heap[k]? := fun k hk => heap_setCells_other kb _ _ _ hk
  have hb : a * 96 + (secV d).length ≤ (kpt.flatMap secV).length := by rw [hl, hfl]; omega
  refine ⟨there_of_block h2.hk (by rw [hfl]; omega), h1.kept (k1 db hap.2.1), { h2 with hn := (k1 nb hap.2.2.2.1).trans h2.hn, hk := ?_, hl := (k1 lb hap.2.2.2.2.2.symm).trans h2.hl, nk := by rw [List.length_set]; exact h2.nk, sk := fun x hx => (List.mem_or_eq_of_mem_set hx).elim (h2.sk x) (fun e => by rw [e]; exact hd), own := fun i hi h' => ownW_kept (h2.own i hi h') fun k e => k1 k (h2.apo i hi k e).2.2.1 }, ⟨below_setCells h2.lo.2.2.1 _ _ _ (Below.refl _ _), fun k _ hn => ⟨k1 k fun e => hn (.inr (.inr (.inl e))), hn⟩⟩, k1 db hap.2.1⟩
  rw [heap_setCells kb _ (0, 0) _ _ w _ h2.hk hb, dflat_set (z := 96) (fun x hx => (secV_length x).trans (h2.sk x hx)) a ha d hl]
/-- all is read as it is kept -/
theorem DBy.nowAll {w : World} {nb kb lb n : Nat} {lv : List Value} {now kpt : List ByteArray} {loose : List (List Wr)} {next L : Int} {down : Bool} (h1 : DHd w db nb kb lb n next L down) (h2 : DBy w B db nb kb lb n lv now kpt loose) (l : List ByteArray) (hl : l.length = n) (hs : ∀ x ∈ l, x.size = 96) :
    DHd (w.setCells nb 0 (l.flatMap secV)) db nb kb lb n next L down ∧ DBy (w.setCells nb 0 (l.flatMap secV)) B db nb kb lb n lv l kpt loose ∧ StepV w (w.setCells nb 0 (l.flatMap secV)) B (inD db nb kb lb lv) (inD db nb kb lb lv) ∧ (w.setCells nb 0 (l.flatMap secV)).heap[db]? = w.heap[db]? := by
  have hap := h2.ap
  have hfl : (l.flatMap secV).length = n * 96 := by rw [dflat_length (z := 96) fun x hx => (secV_length x).trans (hs x hx), hl]
  have hkl : (now.flatMap secV).length = n * 96 := by rw [dflat_length (z := 96) fun x hx => (secV_length x).trans (h2.sn x hx), h2.nn]
  have k1 : ∀ k, k ≠ nb → (w.setCells nb 0 (l.flatMap secV)).heap[k]? = w.heap[k]? := fun k hk => heap_setCells_other nb _ _ _ hk
  refine ⟨h1.kept (k1 db hap.1), { h2 with hn := ?_, hk := (k1 kb hap.2.2.2.1.symm).trans h2.hk, hl := (k1 lb hap.2.2.2.2.1.symm).trans h2.hl, nn := hl, sn := hs, own := fun i hi h' => ownW_kept (h2.own i hi h') fun k e => k1 k (h2.apo i hi k e).2.1 }, ⟨below_setCells h2.lo.2.1 _ _ _ (Below.refl _ _), fun k _ hn => ⟨k1 k fun e => hn (.inr (.inl e)), hn⟩⟩, k1 db hap.1⟩
  rw [heap_setCells nb _ (0, 0) _ 0 w _ h2.hn (by rw [hfl, hkl]; omega), splice_all _ _ (by rw [hfl, hkl])]
theorem DBy.on {w w' : World} {nb kb lb n : Nat} {lv : List Value} {now kpt : List ByteArray} {loose : List (List Wr)} {next L : Int} {down : Bool} (h1 : DHd w db nb kb lb n next L down) (h2 : DBy w B db nb kb lb n lv now kpt loose) (hb : Below w.heap.size w w') : DHd w' db nb kb lb n next L down ∧ DBy w' B db nb kb lb n lv now kpt loose :=
  ⟨h1.kept (hb.block db h1.lt), h2.kept fun k _ hk => hb.block k (h2.lt h1.lt hk)⟩
structure RstI (w wr : World) (B db nb kb lb n : Nat) (lv : List Value) (loose : List (List Wr)) (s : DSt) (k L : Int) (i j : Nat) : Prop where
  h1 : DHd wr db nb kb lb n ((s.wait.length % 64 : Nat) : Int) L s.down
  ex : ∃ K', MidK k loose s.kept i j K' ∧ DBy wr B db nb kb lb n lv s.now K' loose
  st : StepV w wr B (inD db nb kb lb lv) (inD db nb kb lb lv)
  lo : B ≤ wr.heap.size
set_option maxRecDepth 8000 in
set_option maxHeartbeats 8000000 in
theorem drestart_any (k : Int) (w : World) (h : DK w B db S s) : Calls Try.prog 21 #[.pointer (some ⟨db, 0, none⟩), .int .u64 k] w fun e w' => e = .returned (.tuple #[]) ∧ ActD w w' B db S (restartD s k) := by
  obtain ⟨nb, kb, lb, n, lv, loose, L, h1, h2, hS, h4, h5, h6, h7⟩ := h
  subst hS
  have c2 := h1.c2
  have hn := h2.n1
  have HI0 : Hid (RstI w w B db nb kb lb n lv loose s k L 0 0) := ⟨h1, ⟨_, .start h2.sk, h2⟩, .refl h7, h7⟩
  have H4 := hide h4
  have H5 := hide h5
  have H6 := hide h6
  have HKN := hide h2.nk
  have HNL := hide h2.nl
  have HNO := hide h2.no
  clear h1 h2 h4 h5 h6
  go_enter Try.func21, Try.ntmps21
  go_wp2
  go_loopw [13] (fun iv wr => ∃ i : Nat, i ≤ n ∧ iv = .int .i64 (i : Int) ∧ RstI w wr B db nb kb lb n lv loose s k L i 0) (fun iv _ => n - (intOf iv).toNat)
  case atStart => exact ⟨0, Nat.zero_le _, rfl, HI0.out⟩
  case round =>
    obtain ⟨i, hi, rfl, hI⟩ := hrel
    by_cases hlt : i < n
    · have hlt' : (i : Int) < (n : Int) := by omega
      obtain ⟨h1, ⟨K', hm, h2⟩, h3, h3l⟩ := hI
      have hil : i < lv.length := by rw [HNL.out]; exact hlt
      have hio : i < loose.length := by rw [HNO.out]; exact hlt
      have cl : wr.cell? ⟨lb, i, none⟩ = some lv[i] := by rw [cell_of_row wr lb i _ _ _ h2.hl, List.getElem?_toArray]; exact List.getElem?_eq_getElem hil
      have how := h2.own i hil hio
      obtain ⟨ao, m, cap, hv⟩ : ∃ ao m cap, lv[i] = .slice ao m cap := by
        rcases how.1.2 with ⟨e, _⟩ | ⟨g, cap, cur, e, _⟩
        · exact ⟨_, _, _, e⟩
        · exact ⟨_, _, _, e⟩
      rw [hv] at cl how
      have hsh := H4.out.short hio
      have hml : m = loose[i].length := by
        rcases how.1.2 with ⟨e, e2⟩ | ⟨g', cap', cur', e, _⟩
        · cases e; exact e2.symm
        · cases e; rfl
      have HM := hide hml
      have HV := hide hv
      have HI1 : Hid (RstI w wr B db nb kb lb n lv loose s k L i 0) := ⟨h1, ⟨K', hm, h2⟩, h3, h3l⟩
      have hm64 : m ≤ 64 := by omega
      clear h1 h2 h3 h3l hm how hml hv hsh
      go_wp2
      go_loopw [20] (fun jv wr => ∃ j : Nat, j ≤ m ∧ jv = .int .i64 (j : Int) ∧ RstI w wr B db nb kb lb n lv loose s k L i j) (fun jv _ => m - (intOf jv).toNat)
      case atStart => exact ⟨0, Nat.zero_le _, rfl, HI1.out⟩
      case round =>
        obtain ⟨j, hj, rfl, h1, ⟨K', hm, h2⟩, h3, h3l⟩ := hrel
        by_cases hlt2 : j < m
        · have hlt2' : (j : Int) < (m : Int) := by omega
          have hjl : j < loose[i].length := by rw [← HM.out]; exact hlt2
          have how := h2.own i hil hio
          rw [HV.out] at how
          obtain ⟨g, hg⟩ : ∃ g, ao = some ⟨g, 0, none⟩ := by
            rcases how.1.2 with ⟨e, e2⟩ | ⟨g', cap', cur', e, _⟩
            · rw [e2] at hjl; omega
            · cases e; exact ⟨_, rfl⟩
          subst hg
          have hra := ownW_range how hjl
          have hsx := how.2 _ (List.getElem_mem hjl)
          have hbx := (H4.out.bits i hio).1 _ (List.getElem_mem hjl)
          have HMS := hide (fun hb => hm.set hio hjl hb hsx)
          have HMK := hide (fun hb => hm.skip hio hjl hb)
          have hiK : i < K'.length := by rw [hm.len, HKN.out]; exact hlt
          obtain ⟨g1, g2⟩ := DBy.on h1 h2 (below_alloc1 wr (.cells (cellW loose[i][j]).toArray 98))
          obtain ⟨q1, q2⟩ := DBy.on g1 g2 (Below.refl _ (wr.alloc (.cells (cellW loose[i][j]).toArray 98))).drew
          have HSA := hide (h3.trans (StepV.on (S := inD db nb kb lb lv) h3l (below_alloc1 wr (.cells (cellW loose[i][j]).toArray 98))))
          have HSB := hide (HSA.out.trans (StepV.on (S := inD db nb kb lb lv) (w := wr.alloc (.cells (cellW loose[i][j]).toArray 98)) (by simp; omega) (Below.refl _ _).drew))
          have HKS := hide (DBy.keptSet q1 q2 hiK hsx)
          have HG1 := hide g1
          have HG2 := hide g2
          have hkbl : kb < wr.heap.size := h2.lt h1.lt (.inr (.inr (.inl rfl)))
          have c1 := q1.c1
          generalize hxe : loose[i][j] = x at *
          have HRA := hide hra
          have hb0 := hbx.1
          have hb1 := hbx.2.1
          have hcl : (cellW x).length = 97 := cellW_length hsx
          have hz : (Try.zeroCells98).size = 97 := by kernel_rfl
          have hst := store_new (P := Try.prog) wr Try.zeroCells98 98 (cellW x) (by rw [hcl, hz]) (cellW_one x)
          have c00 : (wr.alloc (.cells (cellW x).toArray 98)).cell? ⟨wr.heap.size, 0, none⟩ = some (.int .i64 x.1) := by rw [cell_new]; rfl
          have hrd : (wr.alloc (.cells (cellW x).toArray 98)).drew.rangeAt wr.heap.size 1 (secV x.2) := (World.rangeAt_drew _ _ _ _).2 (rangeAt_block (Go.heap_alloc_new wr _) fun j _ => by rw [Nat.add_comm]; rfl)
          have HXE := hide hxe
          clear hz hra hbx how h1 h2 h3 hm g1 g2 q1 q2 hxe hiK
          cases hkb : keepB k x.1.toNat with
          | true =>
            have hkb' : (Go.bits .and .u64 (k / 2 ^ x.1.toNat) 1 == 1) = true := hkb
            have HMS' := hide (HMS.out hkb)
            clear hkb HMS HMK
            go_wp2_with (first
              | (refine wpList_load_mid (by rfl) 98 _ (by rfl) g (j * 97) (by rfl) (cellW x) _ HRA.out Try.underlying98 (by rfl) (by rw [cellW_length hsx]; exact write_size) ?_)
              | fail)
            obtain ⟨hth, r1, r2, r3, r4⟩ := HKS.out
            have HR1 := hide r1
            have HR2 := hide r2
            have HR3 := hide (HSB.out.trans r3)
            have HC4 : Hid (((wr.alloc (.cells (cellW x).toArray 98)).drew.setCells kb (i * 96) (secV x.2)).cell? ⟨db, 1, none⟩ = some (.slice (some ⟨kb, 0, none⟩) n n)) := (World.cell?_of_block (a := ⟨db, 1, none⟩) r4).trans c1
            have HT4 := hide (World.there_setCells hth kb (i * 96) (secV x.2))
            have HR4 := hide (World.rangeAt_setCells_apart hrd kb (i * 96) (secV x.2) (.inl (by omega)))
            have hu := Try.underlying91
            have hcs : (secV x.2).length = 96 := (secV_length _).trans hsx
            have hi2 : (Try.prog.info? 91).map (·.size) = some (secV x.2).length := by rw [hcs]; exact sector_size
            have h1c := secV_one x.2
            have hia0 : (0 : Int) ≤ (i : Int) := by omega
            clear r1 r2 r3 r4 hst c00
            go_region_held3 (fun w' => w'.cell? ⟨db, 1, none⟩ = some (.slice (some ⟨kb, 0, none⟩) n n) ∧ w'.rangeAt wr.heap.size 1 (secV x.2) ∧ w'.there kb (i * 96) 96) (first | exact ⟨HC4.out, HR4.out, HT4.out⟩ | exact ⟨c1, hrd, hth⟩) (fail)
            clear hrd hth c1 hi2 hu h1c
            have HLO : Hid (B ≤ ((wr.alloc (.cells (cellW x).toArray 98)).drew.setCells kb (i * 96) (secV x.2)).heap.size) := hide (by have := HR3.out.bel.size; omega)
            generalize (wr.alloc (.cells (cellW x).toArray 98)).drew.setCells kb (i * 96) (secV x.2) = W4 at *
            go_wp2
            exact ⟨⟨j + 1, by omega, by go_num, HR1.out, ⟨_, HMS'.out, HR2.out⟩, HR3.out, HLO.out⟩, by simp [intOf]; omega⟩
          | false =>
            have hkb' : (Go.bits .and .u64 (k / 2 ^ x.1.toNat) 1 == 1) = false := hkb
            have HMK' := hide (HMK.out hkb)
            clear hkb HMS HMK
            go_wp2_with (first
              | (refine wpList_load_mid (by rfl) 98 _ (by rfl) g (j * 97) (by rfl) (cellW x) _ HRA.out Try.underlying98 (by rfl) (by rw [cellW_length hsx]; exact write_size) ?_)
              | fail)
            exact ⟨⟨j + 1, by omega, by go_num, HG1.out, ⟨_, HMK'.out, HG2.out⟩, HSA.out, by simp; omega⟩, by simp [intOf]; omega⟩
        · have ej : j = m := by omega
          subst ej
          have hlt2' : ¬ (j : Int) < (j : Int) := by omega
          have HI2 : Hid (RstI w wr B db nb kb lb n lv loose s k L (i + 1) 0) := ⟨h1, ⟨K', hm.next hio (by rw [← HM.out]; exact Nat.le_refl _), h2⟩, h3, h3l⟩
          clear h1 h2 h3 hm
          go_wp2
          exact ⟨⟨i + 1, by omega, by go_num, HI2.out⟩, by simp [intOf]; omega⟩
    · have ei : i = n := by omega
      subst ei
      have hlt' : ¬ (i : Int) < (i : Int) := by omega
      obtain ⟨h1, ⟨K', hm, h2⟩, h3, h3l⟩ := hI
      have hKe := hm.done H4.out HKN.out
      obtain ⟨q1, q2⟩ := DBy.on h1 h2 (Below.refl _ wr).drew
      obtain ⟨r1, r2, r3, r4⟩ := DBy.nowAll q1 q2 K' h2.nk h2.sk
      have hcp := run_copy_any (P := Try.prog) wr.drew 83 83 3 91 96 nb 0 i i i (.slice (some ⟨kb, 0, none⟩) i i) (s.now.flatMap secV) 91 (K'.flatMap secV) Try.underlying83 sector_size q2.hn rfl
        (by
          have hl := run_loadCells_list (P := Try.prog) wr.drew ⟨kb, 0, none⟩ (K'.flatMap secV) (fun j v hv => by
            rw [Go.Addr.add_mid, cell_of_row wr.drew kb (0 + j) _ _ _ q2.hk, List.getElem?_toArray, Nat.zero_add]; exact hv)
          rw [dflat_length (z := 96) fun x hx => (secV_length x).trans (h2.sk x hx), h2.nk] at hl
          simp only [Builtin.firstCells, Nat.min_self]
          exact hl)
        (by rw [dflat_length (z := 96) fun x hx => (secV_length x).trans (h2.sk x hx), h2.nk, dflat_length (z := 96) fun x hx => (secV_length x).trans (h2.sn x hx), h2.nn]; omega)
        (fun v hv => by obtain ⟨x, _, hx⟩ := List.mem_flatMap.1 hv; exact secV_one x v hx)
      have c0 := q1.c0
      have c1 := q1.c1
      have HSW := hide ((h3.trans (StepV.on (S := inD db nb kb lb lv) h3l (Below.refl _ wr).drew)).trans r3)
      have HC : Hid ((wr.drew.setCells nb 0 (K'.flatMap secV)).cell? ⟨db, 0, none⟩ = some (.slice (some ⟨nb, 0, none⟩) i i) ∧ (wr.drew.setCells nb 0 (K'.flatMap secV)).cell? ⟨db, 1, none⟩ = some (.slice (some ⟨kb, 0, none⟩) i i)) := ⟨(World.cell?_of_block (a := ⟨db, 0, none⟩) r4).trans c0, (World.cell?_of_block (a := ⟨db, 1, none⟩) r4).trans c1⟩
      have HDK : Hid (DK (wr.drew.setCells nb 0 (K'.flatMap secV)) B db (inD db nb kb lb lv) ⟨K', K', s.wait, s.left, s.down⟩) :=
        ⟨nb, kb, lb, i, lv, loose, L, r1, r2, rfl, H4.out, H5.out, H6.out, by have := HSW.out.bel.size; omega⟩
      have hmn : Nat.min i i = i := Nat.min_self i
      have HKE := hide hKe
      clear h1 h2 h3 hm hKe q1 q2 r1 r2 r3 r4
      generalize hfm : K'.flatMap secV = cs at *
      clear hfm
      go_wp2_with fail
      go_region_held3 (fun w' => w'.cell? ⟨db, 0, none⟩ = some (.slice (some ⟨nb, 0, none⟩) i i) ∧ w'.cell? ⟨db, 1, none⟩ = some (.slice (some ⟨kb, 0, none⟩) i i)) (first | go_keep | exact HC.out) (fail)
      have HT := hide (dsettle_any _ HDK.out)
      clear HDK HC hcp c0 c1
      generalize wr.drew.setCells nb 0 cs = W4 at *
      go_wp2_with fail
      refine HT.out.mono ?_
      rintro e w3 ⟨rfl, S3, hk3, hs3⟩
      have HS3 := hide (HSW.out.trans hs3)
      have HS3b := hide hk3.db_in
      obtain ⟨nb', kb', lb', n', lv', loose', L', g1, g2, hS', g4, g5, g6, g7⟩ := hk3
      have c5 := g1.c5
      have c4 := g1.c4
      have f5 := g1.soft 5
      have f4 := g1.soft 4
      have HE : Hid (ActD w3 ((w3.setCell ⟨db, 5, none⟩ (.bool false)).setCell ⟨db, 4, none⟩ (.int .i64 (-1))) B db S3 ⟨K', K', [], -1, false⟩) :=
        ⟨S3, ⟨nb', kb', lb', n', lv', loose', -1, (g1.down' false).left' (-1), (g2.head 5 _).head 4 _, hS', g4, g5, fun _ => ⟨rfl, by decide, by decide⟩, by simpa using g7⟩, (stepV_head HS3b.out g2.lo.1 5 _).trans (stepV_head HS3b.out g2.lo.1 4 _)⟩
      clear g1 g2 g4 g5 g6 hS' hs3
      go_wp2
      go_end0
      refine ⟨rfl, ?_⟩
      unfold restartD
      rw [← HKE.out]
      exact ActD.after HS3.out HE.out
end
end Go.Proofs.Ytkfpfbkdalbjoaa
