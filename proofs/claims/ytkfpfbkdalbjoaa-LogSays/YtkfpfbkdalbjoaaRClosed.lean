/-
  What the document's four and ClosedDeeds return.
-/
import Derived.Test.YtkfpfbkdalbjoaaLogRead
namespace Go.Proofs.Ytkfpfbkdalbjoaa
open Go.RowKit Go.Joins
attribute [local go_sem ↓] Go.wp_at_zero Go.wp_at_succ

set_option maxRecDepth 8000 in
set_option maxHeartbeats 1000000 in
theorem rfour_any (n : Nat) (hn : n ≤ 2000000000) (w : World) : Calls Try.prog 51 #[.int .i64 (n : Int)] w fun e w' => e = .returned (.string (fourB n)) ∧ Below w.heap.size w w' := by
  have hcv := run_convert_bytes_back (P := Try.prog) (w.alloc (Obj.cells #[Value.int .u8 ((n : Int) % 256), Value.int .u8 ((n : Int) / 256 % 256), Value.int .u8 ((n : Int) / 65536 % 256), Value.int .u8 ((n : Int) / 16777216 % 256)] 5)) 92 9 5 ⟨w.heap.size, 0, none⟩ 4 (fourL n) Try.underlying92 Try.underlying5 Try.underlying9 (fun j hj => by
    have hj2 : j = 0 ∨ j = 1 ∨ j = 2 ∨ j = 3 := by simp [fourL] at hj; omega
    rcases hj2 with rfl | rfl | rfl | rfl <;> simp [Addr.add, fourL])
  have HB := hide (below_alloc1 w (Obj.cells #[Value.int .u8 ((n : Int) % 256), Value.int .u8 ((n : Int) / 256 % 256), Value.int .u8 ((n : Int) / 65536 % 256), Value.int .u8 ((n : Int) / 16777216 % 256)] 5))
  have hl : (fourL n).length = 4 := rfl
  rw [hl] at hcv
  clear hl
  have hn0 : (0 : Int) ≤ (n : Int) := by omega
  have hn1 : (n : Int) ≤ 2000000000 := by omega
  unfold fourB
  generalize (fourL n) = fl at *
  go_enter Try.func51, Try.ntmps51
  go_wp2
  go_ret
  exact ⟨rfl, HB.out⟩
/-- while they are gathered -/
structure RcI (w : World) (B : Nat) (ov av : Value) (ds : List Dd) (ah : List Chg) : Prop where
  od : w.ownsRow B 36 1 ov ds.length (ds.map ddV)
  oa : ownCh w B av ah
  hd : ∀ d ∈ ds, ddOwn w B d
  ap : ∀ k, ov.ownBlock = some k → av.ownBlock ≠ some k
  an : ∀ d ∈ ds, ∀ k, (ddV d).ownBlock = some k → ov.ownBlock ≠ some k ∧ av.ownBlock ≠ some k
  dz : ds = [] → ov = .slice none 0 0
section
variable {w w' w5 : World} {B g cap5 : Nat} {ov av : Value} {ds : List Dd} {ah : List Chg}
theorem RcI.on (h : RcI w B ov av ds ah) (hb : Below w.heap.size w w') : RcI w' B ov av ds ah :=
  ⟨ownD_kept h.od fun k e => hb.block k (World.ownsRow.lt h.od k e).2, ownCh_kept h.oa fun k e => hb.block k (World.ownsRow.lt h.oa k e).2, fun d hd => ownCh_kept (h.hd d hd) fun k e => hb.block k (World.ownsRow.lt (h.hd d hd) k e).2, h.ap, h.an, h.dz⟩
theorem RcI.push {c : Chg} (h : RcI w B ov av ds ah) (h7 : B ≤ w.heap.size) (ho : w5.ownsRow B 67 3 (.slice (some ⟨g, 0, none⟩) (ah.length + 1) cap5) (ah.length + 1) (cellsL ah ++ cellsC c)) (hgrow : World.grownBy (w.alloc (.cells (cellsC c).toArray 67)) w5 av.ownBlock) (hat : av.ownBlock = some g ∨ g = w.heap.size + 1) :
    RcI w5 B ov (.slice (some ⟨g, 0, none⟩) (ah.length + 1) cap5) ds (ah ++ [c]) ∧ Below B w w5 := by
  have hza : (w.alloc (.cells (cellsC c).toArray 67)).heap.size = w.heap.size + 1 := by simp
  have f5 : ∀ k, k < w.heap.size → av.ownBlock ≠ some k → w5.heap[k]? = w.heap[k]? := fun k hk hn => by
    rw [hgrow.block k (by rw [hza]; omega) (Ne.symm hn), (below_alloc1 w _).block k hk]
  have hgl : ∀ k, k < w.heap.size → av.ownBlock ≠ some k → g ≠ k := fun k hk hn => by
    rcases hat with e | e
    · exact fun e2 => hn (e2 ▸ e)
    · omega
  have ltd : ∀ k, ov.ownBlock = some k → k < w.heap.size := fun k e => (World.ownsRow.lt h.od k e).2
  have lte : ∀ d ∈ ds, ∀ k, (ddV d).ownBlock = some k → k < w.heap.size := fun d hd k e => (World.ownsRow.lt (h.hd d hd) k e).2
  refine ⟨⟨ownD_kept h.od fun k e => f5 k (ltd k e) (h.ap k e), ?_, fun d hd => ownCh_kept (h.hd d hd) fun k e => f5 k (lte d hd k e) (h.an d hd k e).2, fun k e => ?_, fun d hd k e => ⟨(h.an d hd k e).1, ?_⟩, h.dz⟩, ?_⟩
  · unfold ownCh
    rw [List.length_append, cellsL_append]
    show w5.ownsRow B _ 3 _ (ah.length + 1) (cellsL ah ++ (cellsC c ++ []))
    rw [List.append_nil]
    exact ho
  · exact fun e2 => hgl k (ltd k e) (h.ap k e) (by cases e2; rfl)
  · exact fun e2 => hgl k (lte d hd k e) (h.an d hd k e).2 (by cases e2; rfl)
  · exact ((below_alloc1 w (.cells (cellsC c).toArray 67)).mono h7).grown hgrow (by rw [hza]; omega) (fun k hk => (World.ownsRow.lt h.oa k hk).1)
theorem RcI.close {ao : Option Addr} {cap : Nat} (h : RcI w B ov (.slice ao ah.length cap) ds ah) (h7 : B ≤ w.heap.size) (ho : w5.ownsRow B 36 1 (.slice (some ⟨g, 0, none⟩) (ds.length + 1) cap5) (ds.length + 1) (ds.map ddV ++ [.slice ao ah.length cap])) (hgrow : World.grownBy (w.alloc (.cells #[.slice ao ah.length cap] 36)) w5 ov.ownBlock) (hat : ov.ownBlock = some g ∨ g = w.heap.size + 1) :
    RcI w5 B (.slice (some ⟨g, 0, none⟩) (ds.length + 1) cap5) (.slice none 0 0) (ds ++ [⟨ao, cap, ah⟩]) [] ∧ Below B w w5 := by
  have hza : (w.alloc (.cells #[.slice ao ah.length cap] 36)).heap.size = w.heap.size + 1 := by simp
  have f5 : ∀ k, k < w.heap.size → ov.ownBlock ≠ some k → w5.heap[k]? = w.heap[k]? := fun k hk hn => by
    rw [hgrow.block k (by rw [hza]; omega) (Ne.symm hn), (below_alloc1 w _).block k hk]
  have hgl : ∀ k, k < w.heap.size → ov.ownBlock ≠ some k → g ≠ k := fun k hk hn => by
    rcases hat with e | e
    · exact fun e2 => hn (e2 ▸ e)
    · omega
  have avd : ∀ k, (Value.slice ao ah.length cap).ownBlock = some k → ov.ownBlock ≠ some k := fun k e e2 => h.ap k e2 e
  have lta : ∀ k, (Value.slice ao ah.length cap).ownBlock = some k → k < w.heap.size := fun k e => (World.ownsRow.lt h.oa k e).2
  have lte : ∀ d ∈ ds, ∀ k, (ddV d).ownBlock = some k → k < w.heap.size := fun d hd k e => (World.ownsRow.lt (h.hd d hd) k e).2
  refine ⟨⟨?_, ⟨rfl, .inl ⟨rfl, rfl⟩⟩, fun d hd => ?_, nofun, fun d hd k e => ⟨?_, nofun⟩, fun e => absurd e (by simp)⟩, ?_⟩
  · rw [List.length_append, List.map_append]
    exact ho
  · rcases List.mem_append.1 hd with hd | hd
    · exact ownCh_kept (h.hd d hd) fun k e => f5 k (lte d hd k e) (h.an d hd k e).1
    · rw [List.mem_singleton] at hd
      subst hd
      exact ownCh_kept h.oa fun k e => f5 k (lta k e) (avd k e)
  · rcases List.mem_append.1 hd with hd | hd
    · exact fun e2 => hgl k (lte d hd k e) (h.an d hd k e).1 (by cases e2; rfl)
    · rw [List.mem_singleton] at hd
      subst hd
      exact fun e2 => hgl k (lta k e) (avd k e) (by cases e2; rfl)
  · exact ((below_alloc1 w (.cells #[.slice ao ah.length cap] 36)).mono h7).grown hgrow (by rw [hza]; omega) (fun k hk => (World.ownsRow.lt h.od k hk).1)
def ClosedAt (w w' : World) (ov : Value) (ds : List (List Chg)) : Prop := ∃ l, DeedsV w' w.heap.size ov l ∧ l.map (·.chs) = ds ∧ Below w.heap.size w w'
theorem RcI.fin {w wr : World} {ov av : Value} {l : List Dd} {ah : List Chg} (h : RcI wr w.heap.size ov av l ah) (hb : Below w.heap.size w wr) : ClosedAt w wr ov (l.map (·.chs)) := ⟨l, ⟨h.od, h.hd, h.dz⟩, rfl, hb⟩
set_option maxRecDepth 8000 in
set_option maxHeartbeats 8000000 in
theorem rclosed_any (secs : List ByteArray) (b cap first : Nat) (w : World) (hc : ∀ i (h : i < secs.length), w.cell? ⟨b, i, none⟩ = some (.string secs[i])) (h96 : ∀ t ∈ secs, t.size = 96) (hl : secs.length ≤ 200) (hf : first ≤ 1500000) :
    Calls Try.prog 26 #[.slice (some ⟨b, 0, none⟩) secs.length cap, .int .i64 (first : Int)] w fun e w' => ∃ ov, e = .returned (.tuple #[ov, .int .i64 (usedL secs first : Nat)]) ∧ ClosedAt w w' ov (deedsL secs first) := by
  have HC := hide hc
  have H96 := hide h96
  unfold deedsL usedL
  generalize hres : scanL first 0 secs ([], []) 0 = res
  have HRES := hide hres
  clear hc h96 hres
  have HI0 : Hid (RcI w w.heap.size (.slice none 0 0) (.slice none 0 0) [] []) := ⟨⟨rfl, .inl ⟨rfl, rfl⟩⟩, ⟨rfl, .inl ⟨rfl, rfl⟩⟩, nofun, nofun, nofun, fun _ => rfl⟩
  go_enter Try.func26, Try.ntmps26
  go_wp2
  go_loopw [6, 7, 8, 9] (fun ov av uv iv wr => ∃ (i u : Nat) (ds : List Dd) (ah : List Chg), i ≤ secs.length ∧ iv = .int .i64 (i : Int) ∧ uv = .int .i64 (u : Int) ∧ RcI wr w.heap.size ov av ds ah ∧ Below w.heap.size w wr ∧ ds.length ≤ i ∧ ah.length ≤ i ∧ scanL first i (secs.drop i) (ds.map (·.chs), ah) u = res) (fun _ _ _ iv _ => secs.length - (intOf iv).toNat)
  case atStart => exact ⟨0, 0, [], [], Nat.zero_le _, rfl, rfl, HI0.out, Below.refl _ _, Nat.le_refl _, Nat.le_refl _, HRES.out⟩
  case round =>
    obtain ⟨i, u, ds, ah, hi, rfl, rfl, hI, hB, hd1, hd2, hsc⟩ := hrel
    clear HI0
    have HI := hide hI
    have HBR := hide hB
    by_cases hlt : i < secs.length
    · have hlt' : (i : Int) < (secs.length : Int) := by omega
      have hi0 : (0 : Int) ≤ (i : Int) := by omega
      have ct := cell_on hB (HC.out i hlt)
      have ht := H96.out _ (List.getElem_mem hlt)
      rw [List.drop_eq_getElem_cons hlt] at hsc
      have HSC := hide hsc
      clear hI hB hsc
      generalize secs[i] = t at *
      have e0 : t[0].toNat = byteAt t 0 := byteAt_of (by omega)
      have e5 : t[5].toNat = byteAt t 5 := byteAt_of (by omega)
      have l0 := byteAt_lt t 0
      have l5 := byteAt_lt t 5
      have HF1 := fun w' => hide (rfour_any (first + i) (by omega) w')
      have HFI : Hid ((first : Int) + (i : Int) = ((first + i : Nat) : Int)) := hide (by omega)
      rw [← HFI.out] at HF1
      have k2 : IntKind.i64.wrap ((first : Int) + (i : Int)) = (first : Int) + (i : Int) := by rw [IntKind.wrap_i64]; omega
      have hdc : decL t (first + i) = if (byteAt t 0 = 111 ∨ byteAt t 0 = 99) ∧ ((t.extract 1 5).toList == (fourB (first + i)).toList) = true ∧ byteAt t 5 ≤ 90 then some (byteAt t 0, t.extract 6 (6 + byteAt t 5)) else none := rfl
      have HDC := hide hdc
      clear hdc
      generalize fourB (first + i) = ff at *
      generalize byteAt t 0 = x at *
      generalize byteAt t 5 = y at *
      have hne := OnW.some wr
      cases hs : ((t.extract 1 5).toList == ff.toList) with
      | false =>
        have hdn : decL t (first + i) = none := by rw [HDC.out, if_neg (by rw [hs]; simp)]
        rw [scan_none hdn] at HSC
        clear hdn HDC
        go_wp2
        refine wp_region_on (by kernel_rfl) (by kernel_rfl) ?_
        repeat (go_big_quiet_step ((go_at_call 51; exact on_call (HF1 _).out)))
        refine wpQuiet_nil ?_
        intro w7 hw7
        replace hw7 := on_end hw7
        have HB7 := hide (below_on HBR.out (Nat.le_refl _) hw7)
        replace HI := hide (HI.out.on hw7)
        clear hw7
        go_wp2
        go_ret2
        rw [← HSC.out]
        exact ⟨_, rfl, HI.out.fin HB7.out⟩
      | true =>
        by_cases hy : y ≤ 90
        · have hy' : (y : Int) ≤ 90 := by omega
          have hy0 : (0 : Int) ≤ (y : Int) := by omega
          have hex : 6 + y ≤ 96 := by omega
          obtain ⟨va, vc, hav⟩ : ∃ va vc, u7 = Value.slice va ah.length vc := by
            rcases HI.out.oa.2 with ⟨e, e2⟩ | ⟨g, c, _, e, _⟩
            · exact ⟨none, 0, by rw [e, e2]⟩
            · exact ⟨_, c, e⟩
          subst hav
          have HBW := hide HBR.out.size
          by_cases h99 : x = 99
          · subst h99
            have hdn : decL t (first + i) = some (99, t.extract 6 (6 + y)) := by rw [HDC.out, if_pos ⟨.inr rfl, hs, hy⟩]
            have hds := decL_size hdn
            have HF2 := fun w' => hide (rfour_any ah.length (by omega) w')
            generalize hdd : t.extract 6 (6 + y) = d at *
            cases hp : (d.toList == (fourB ah.length).toList) with
            | true =>
              have htk : takeL (ds.map (·.chs), ah) 99 d = some (ds.map (·.chs) ++ [ah], []) := by unfold takeL; rw [if_neg (by decide), if_pos hp]
              rw [scan_step hdn htk, if_pos rfl] at HSC
              clear hdn htk HDC hds
              generalize fourB ah.length = f2 at *
              obtain ⟨i1, hi1, hz1, hs1, hb1⟩ := info_parts chl_facts
              have HNW : Hid (∀ (V : World) (j : Nat) (u : Value), [Value.slice va ah.length vc][j]? = some u → (V.alloc (Obj.cells #[Value.slice va ah.length vc] 36)).cell? ((⟨V.heap.size, 0, none⟩ : Addr).add j) = some u) := fun V => World.news_of_block (cs := #[Value.slice va ah.length vc]) (t := 36) (fr := (0, 0)) (heap_alloc_new V _)
              go_wp2
              refine wp_region_on (by kernel_rfl) (by kernel_rfl) ?_
              repeat (go_big_quiet_step ((go_at_call 51; exact on_call (HF1 _).out)))
              refine wpQuiet_nil ?_
              intro w7 hw7
              replace hw7 := on_end hw7
              have HB7 := hide (below_on HBR.out (Nat.le_refl _) hw7)
              replace HI := hide (HI.out.on hw7)
              clear hw7
              go_wp2_with (first
                | (go_at_call 51; refine ((HF2 _).out).mono ?_; rintro e w8 ⟨rfl, hb8⟩; replace HI := hide (HI.out.on hb8); have HB8 := hide (below_on HB7.out (Nat.le_refl _) hb8); have hs8 := HB8.out.size; clear hb8)
                | (at_builtin; (refine wpList_append_lies _ rfl _ _ _ rfl w.heap.size 36 i1 _ 1 24 Try.underlying55 hi1 hz1 hs1 hb1 rfl (by omega) u6 ds.length (ds.map ddV) rfl (HI.out.od.alloc _) ⟨w8.heap.size, 0, none⟩ 1 1 [Value.slice va ah.length vc] rfl rfl (HNW.out w8) (by simp [Value.oneCell']) (by omega) (by unfold maxLen; omega) (by omega) (by simp; omega) (w8.heap.size + 1) (by simp) ?_; intro g9 c9 w9 ho9 hg9 hat9 hlt9; obtain ⟨hq1, hq2⟩ := HI.out.close hs8 ho9 hg9 hat9; have HQ1 := hide hq1; have HQ2 := hide (HB8.out.trans hq2); clear ho9 hg9 hat9 hlt9 hq1 hq2))
                | fail)
              exact ⟨⟨i + 1, i + 1, _, [], by omega, by go_num, by go_num, HQ1.out, HQ2.out, by simp; omega, Nat.zero_le _, by rw [List.map_append]; exact HSC.out⟩, by simp [intOf]; omega⟩
            | false =>
              have htk : takeL (ds.map (·.chs), ah) 99 d = none := by unfold takeL; rw [if_neg (by decide), hp]; rfl
              rw [scan_stop hdn htk] at HSC
              clear hdn htk HDC hds
              generalize fourB ah.length = f2 at *
              go_wp2
              refine wp_region_on (by kernel_rfl) (by kernel_rfl) ?_
              repeat (go_big_quiet_step ((go_at_call 51; exact on_call (HF1 _).out)))
              refine wpQuiet_nil ?_
              intro w7 hw7
              replace hw7 := on_end hw7
              have HB7 := hide (below_on HBR.out (Nat.le_refl _) hw7)
              replace HI := hide (HI.out.on hw7)
              clear hw7
              go_wp2_with (first
                | (go_at_call 51; refine ((HF2 _).out).mono ?_; rintro e w8 ⟨rfl, hb8⟩; replace HI := hide (HI.out.on hb8); have HB8 := hide (below_on HB7.out (Nat.le_refl _) hb8); clear hb8)
                | fail)
              go_ret2
              rw [← HSC.out]
              exact ⟨_, rfl, HI.out.fin HB8.out⟩
          · have h99' : ((x : Int) == 99) = false := by simp; omega
            have h99b : ¬ x = 99 := h99
            by_cases h111 : x = 111
            · subst h111
              have hdn : decL t (first + i) = some (111, t.extract 6 (6 + y)) := by rw [HDC.out, if_pos ⟨.inl rfl, hs, hy⟩]
              have hds := decL_size hdn
              generalize hdd : t.extract 6 (6 + y) = d at *
              have HPA := fun w' => hide ((parse_two d (by omega)).2 w')
              by_cases hp : parseF d = 0
              · have htk : takeL (ds.map (·.chs), ah) 111 d = some (ds.map (·.chs), ah ++ [parseC d]) := by unfold takeL; rw [if_pos rfl, if_pos hp]
                rw [scan_step hdn htk, if_neg (by decide)] at HSC
                rw [hp] at HPA
                clear hdn htk HDC hds hp
                generalize parseC d = c at *
                obtain ⟨i0, hi0', hz0, hz1, hz2⟩ := info_parts chg_facts
                have HNW : Hid (∀ (V : World) (j : Nat) (u : Value), (cellsC c)[j]? = some u → (V.alloc (Obj.cells (cellsC c).toArray 67)).cell? ((⟨V.heap.size, 0, none⟩ : Addr).add j) = some u) := fun V => World.news_of_block (cs := (cellsC c).toArray) (t := 67) (fr := (0, 0)) (heap_alloc_new V _)
                go_wp2
                refine wp_region_on (by kernel_rfl) (by kernel_rfl) ?_
                repeat (go_big_quiet_step ((go_at_call 51; exact on_call (HF1 _).out)))
                refine wpQuiet_nil ?_
                intro w7 hw7
                replace hw7 := on_end hw7
                have HB7 := hide (below_on HBR.out (Nat.le_refl _) hw7)
                replace HI := hide (HI.out.on hw7)
                clear hw7
                go_wp2_with (first
                  | (go_at_call 52; refine ((HPA _).out).mono ?_; rintro e w8 ⟨rfl, hb8⟩; replace HI := hide (HI.out.on (below_on hb8 (Nat.le_refl _) (below_alloc1 w8 (Obj.cells #[Value.string c.key, Value.string c.val, Value.bool c.gone] 67)))); have HB8 := hide (below_on (below_on HB7.out (Nat.le_refl _) hb8) (Nat.le_refl _) (below_alloc1 w8 (Obj.cells #[Value.string c.key, Value.string c.val, Value.bool c.gone] 67))); have hs8 := HB8.out.size; have a0 : (w8.alloc (Obj.cells #[Value.string c.key, Value.string c.val, Value.bool c.gone] 67)).cell? ⟨w8.heap.size, 0, none⟩ = some (.string c.key) := cell_new _ _ _ 0; have a1 : (w8.alloc (Obj.cells #[Value.string c.key, Value.string c.val, Value.bool c.gone] 67)).cell? ⟨w8.heap.size, 1, none⟩ = some (.string c.val) := cell_new _ _ _ 1; have a2 : (w8.alloc (Obj.cells #[Value.string c.key, Value.string c.val, Value.bool c.gone] 67)).cell? ⟨w8.heap.size, 2, none⟩ = some (.bool c.gone) := cell_new _ _ _ 2; generalize hW8 : w8.alloc (Obj.cells #[Value.string c.key, Value.string c.val, Value.bool c.gone] 67) = W at *; clear hb8)
                  | (at_builtin; (refine wpList_append_lies _ rfl _ _ _ rfl w.heap.size 67 i0 _ 3 40 Try.underlying36 hi0' hz0 hz1 hz2 rfl (by omega) (.slice va ah.length vc) ah.length (cellsL ah) rfl (HI.out.oa.alloc _) ⟨W.heap.size, 0, none⟩ 1 1 (cellsC c) rfl rfl (HNW.out W) (by simp [cellsC, Value.oneCell']) (by omega) (by unfold maxLen; omega) (by omega) (by simp; omega) (W.heap.size + 1) (by simp) ?_; intro g9 c9 w9 ho9 hg9 hat9 hlt9; obtain ⟨hq1, hq2⟩ := HI.out.push (c := c) hs8 ho9 hg9 hat9; have HQ1 := hide hq1; have HQ2 := hide (HB8.out.trans hq2); clear ho9 hg9 hat9 hlt9 hq1 hq2))
                  | fail)
                exact ⟨⟨i + 1, u, ds, _, by omega, by go_num, rfl, HQ1.out, HQ2.out, by omega, by simp; omega, HSC.out⟩, by simp [intOf]; omega⟩
              · have htk : takeL (ds.map (·.chs), ah) 111 d = none := by unfold takeL; rw [if_pos rfl, if_neg hp]
                rw [scan_stop hdn htk] at HSC
                have hp' : (0 : Int) < (parseF d : Int) := by omega
                clear hdn htk HDC hds hp
                generalize parseC d = c at *
                generalize parseF d = pf at *
                go_wp2
                refine wp_region_on (by kernel_rfl) (by kernel_rfl) ?_
                repeat (go_big_quiet_step ((go_at_call 51; exact on_call (HF1 _).out)))
                refine wpQuiet_nil ?_
                intro w7 hw7
                replace hw7 := on_end hw7
                have HB7 := hide (below_on HBR.out (Nat.le_refl _) hw7)
                replace HI := hide (HI.out.on hw7)
                clear hw7
                go_wp2_with (first
                  | (go_at_call 52; refine ((HPA _).out).mono ?_; rintro e w8 ⟨rfl, hb8⟩; replace HI := hide (HI.out.on (below_on hb8 (Nat.le_refl _) (below_alloc1 w8 (Obj.cells #[Value.string c.key, Value.string c.val, Value.bool c.gone] 67)))); have HB8 := hide (below_on (below_on HB7.out (Nat.le_refl _) hb8) (Nat.le_refl _) (below_alloc1 w8 (Obj.cells #[Value.string c.key, Value.string c.val, Value.bool c.gone] 67))); clear hb8)
                  | fail)
                go_ret2
                rw [← HSC.out]
                exact ⟨_, rfl, HI.out.fin HB8.out⟩
            · have hdn : decL t (first + i) = none := by rw [HDC.out, if_neg (fun h => h.1.elim h111 h99)]
              rw [scan_none hdn] at HSC
              have h111' : ((x : Int) == 111) = false := by simp; omega
              have h111b : ¬ x = 111 := h111
              clear hdn HDC
              go_wp2
              refine wp_region_on (by kernel_rfl) (by kernel_rfl) ?_
              repeat (go_big_quiet_step ((go_at_call 51; exact on_call (HF1 _).out)))
              refine wpQuiet_nil ?_
              intro w7 hw7
              replace hw7 := on_end hw7
              have HB7 := hide (below_on HBR.out (Nat.le_refl _) hw7)
              replace HI := hide (HI.out.on hw7)
              clear hw7
              go_wp2
              go_ret2
              rw [← HSC.out]
              exact ⟨_, rfl, HI.out.fin HB7.out⟩
        · have hy' : (90 : Int) < (y : Int) := by omega
          have hdn : decL t (first + i) = none := by rw [HDC.out, if_neg (fun h => hy h.2.2)]
          rw [scan_none hdn] at HSC
          clear hdn HDC
          go_wp2
          refine wp_region_on (by kernel_rfl) (by kernel_rfl) ?_
          repeat (go_big_quiet_step ((go_at_call 51; exact on_call (HF1 _).out)))
          refine wpQuiet_nil ?_
          intro w7 hw7
          replace hw7 := on_end hw7
          have HB7 := hide (below_on HBR.out (Nat.le_refl _) hw7)
          replace HI := hide (HI.out.on hw7)
          clear hw7
          go_wp2
          go_ret2
          rw [← HSC.out]
          exact ⟨_, rfl, HI.out.fin HB7.out⟩
    · have ei : i = secs.length := by omega
      subst ei
      have hlt' : ¬ (secs.length : Int) < (secs.length : Int) := by omega
      rw [List.drop_eq_nil_of_le (Nat.le_refl _)] at hsc
      have HSC : Hid ((ds.map (·.chs), u) = res) := hsc
      clear hI hB hsc
      go_wp2
      go_ret2
      rw [← HSC.out]
      exact ⟨_, rfl, HI.out.fin HBR.out⟩
end
end Go.Proofs.Ytkfpfbkdalbjoaa
