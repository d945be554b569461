/-
  The document's Write of a disk: its walk.
-/
import Derived.Test.YtkfpfbkdalbjoaaRDskW
namespace Go.Proofs.Ytkfpfbkdalbjoaa
open Go.RowKit Go.Joins
attribute [local go_sem ↓] Go.wp_at_zero Go.wp_at_succ

theorem dstepD_keeps (s : DSt) : (dstepD s).now = s.now ∧ (dstepD s).wait = s.wait := by
  unfold dstepD
  split
  · exact ⟨rfl, rfl⟩
  · split <;> exact ⟨rfl, rfl⟩
section
variable {w : World} {B rb : Nat} {S : Nat → Prop} {s : DSt}
theorem laid_rb {w3 w5 : World} {a : Nat} {kv tv : Value} {gn cn : Nat} {F : Int} {d : ByteArray} (h1 : RD w B rb kv (.slice (some ⟨gn, 0, none⟩) s.now.length cn) tv s F) (e3 : w3 = w.setCell ⟨gn, a, none⟩ (.string d)) (hgrow : World.grownBy (w3.alloc (.cells (cellT (a, d)).toArray 95)) w5 tv.ownBlock) : w5.heap[rb]? = w.heap[rb]? := by
  subst e3
  have ltr : rb < w.heap.size := h1.lt (.inl rfl)
  rw [hgrow.block rb (by simp; omega) (Ne.symm fun e => h1.ap.2.2 rb e rfl), (below_alloc1 (w.setCell ⟨gn, a, none⟩ (.string d)) _).block rb (by simp; exact ltr)]
  exact Below.heap_setCell _ _ _ _ (h1.ap.2.1 gn rfl).1.symm
theorem laid_ot {a : Nat} {kv tv : Value} {gn cn : Nat} {F : Int} {d : ByteArray} (h1 : RD w B rb kv (.slice (some ⟨gn, 0, none⟩) s.now.length cn) tv s F) : ownT ((w.setCell ⟨gn, a, none⟩ (.string d)).alloc (.cells (cellT (a, d)).toArray 95)) B tv s.wait := by
  refine ownT_kept h1.ot fun k e => ?_
  rw [(below_alloc1 (w.setCell ⟨gn, a, none⟩ (.string d)) _).block k (by simp; exact h1.lt (.inr (.inr (.inr e))))]
  exact Below.heap_setCell _ _ _ _ fun e2 => (h1.ap.2.1 gn rfl).2 (e.trans (congrArg some e2))
theorem laid_new (a : Nat) (w : World) (gn : Nat) (d : ByteArray) : ((w.setCell ⟨gn, a, none⟩ (.string d)).alloc (.cells (cellT (a, d)).toArray 95)).heap[w.heap.size]? = some (.cells (cellT (a, d)).toArray 95 (0, 0)) := by
  have h := heap_alloc_new (w.setCell ⟨gn, a, none⟩ (.string d)) (.cells (cellT (a, d)).toArray 95)
  rw [show (w.setCell ⟨gn, a, none⟩ (.string d)).heap.size = w.heap.size by simp] at h
  exact h
set_option maxRecDepth 8000 in
set_option maxHeartbeats 1000000 in
theorem rwrite_any (at_ : Int) (d : ByteArray) (w : World) (h : RK w B rb S s) (hwl : s.wait.length ≤ 1000000) : Calls Try.prog 15 #[.pointer (some ⟨rb, 0, none⟩), .int .i64 at_, .string d] w fun e w' => e = .returned (.int .i64 (dwriteF s at_ d : Nat)) ∧ ActK w w' B rb S (dwriteD s at_ d) := by
  have HST := hide (rstep_any w h)
  have HW := hide h
  obtain ⟨kv, nv, tv, F, h1, hS, h3, h4, h5, h6, h7⟩ := h
  have c1 := h1.c1
  obtain ⟨gn, cn, hnv, hce⟩ := ownS_some h1.on (by omega)
  rw [hnv] at c1
  clear h1 hS h6 hce hnv
  unfold dwriteF dwriteD
  by_cases hr : at_ < 0 ∨ (s.now.length : Int) ≤ at_ ∨ 96 < d.size
  · rw [if_pos hr, if_pos hr]
    clear HST
    by_cases hlow : at_ < 0
    · clear hr
      go_enter Try.func15, Try.ntmps15
      go_wp2
      go_ret
      exact ⟨rfl, HW.out.stay (Below.refl _ _)⟩
    · by_cases hhi : (s.now.length : Int) ≤ at_
      · clear hr
        go_enter Try.func15, Try.ntmps15
        go_wp2
        go_ret
        exact ⟨rfl, HW.out.stay (Below.refl _ _)⟩
      · have h96 : (96 : Int) < (d.size : Int) := by omega
        clear hr
        go_enter Try.func15, Try.ntmps15
        go_wp2
        go_ret
        exact ⟨rfl, HW.out.stay (Below.refl _ _)⟩
  · rw [if_neg hr, if_neg hr]
    have h96 : ¬ (96 : Int) < (d.size : Int) := by omega
    have hd96 : d.size ≤ 96 := by omega
    obtain ⟨a, rfl⟩ := Int.eq_ofNat_of_zero_le (show 0 ≤ at_ by omega)
    rw [Int.toNat_natCast]
    have hlow : ¬ (a : Int) < 0 := by omega
    have hhi : ¬ (s.now.length : Int) ≤ (a : Int) := by omega
    have ha : a < s.now.length := by omega
    have hNW := dstepD_keeps s
    have hWW := hNW.2
    replace hNW := hNW.1
    have ha1 : a < (dstepD s).now.length := by rw [hNW]; exact ha
    rw [← hWW] at hwl
    have HNL := hide hNW
    clear hNW hWW hr
    generalize dstepD s = s1 at *
    generalize dstepF s = f at *
    by_cases hf : f = 0
    · subst hf
      rw [if_pos rfl]
      have hcast : ((96 - d.size : Nat) : Int) = 96 - (d.size : Int) := by omega
      obtain ⟨i0, z0, hi0, hz0, hi2, hi24, hzc⟩ := turn_parts
      have hn96 : 96 - d.size ≤ 96 := by omega
      have hzs : (zerosB (96 - d.size)).size = 96 - d.size := by unfold zerosB; show (List.replicate (96 - d.size) _).toArray.size = _; rw [List.size_toArray, List.length_replicate]
      have hsz : ¬ 9223372036854775807 < d.size + (zerosB (96 - d.size)).size := by rw [hzs]; omega
      clear hzs
      go_enter Try.func15, Try.ntmps15
      go_wp2_with (fail)
      go_at_call 48
      refine HST.out.mono ?_
      rintro e w2 ⟨rfl, ha2⟩
      obtain ⟨S2, hk2, hs2⟩ := ha2
      have HK2 := hide hk2
      have HS2 := hide hs2
      have hno := noughts_any (96 - d.size) hn96 w2
      rw [hcast] at hno
      have HNO := hide hno
      clear hno hk2 hs2 c1
      go_wp2_with (fail)
      go_at_call 44
      refine HNO.out.mono ?_
      rintro e w3 ⟨rfl, hb3⟩
      have HK3 := hide (HK2.out.on hb3)
      have HS3 := hide (HS2.out.trans (.on HK2.out.lo hb3))
      clear hb3 HK2 HS2 HNO
      obtain ⟨kv3, nv3, tv3, F3, g1, gS, g3, g4, g5, g6, g7⟩ := HK3.out
      have c1 := g1.c1
      have G1 := hide g1
      obtain ⟨gn3, cn3, hnv3, hce3⟩ := ownS_some g1.on (by omega)
      rw [hnv3] at c1
      subst hnv3
      have ca := hce3 a ha1
      have fa : w3.frozen? ⟨gn3, a, none⟩ = false := World.ownsRow.frozenAt g1.on a
      have hc2 : (w3.setCell ⟨gn3, a, none⟩ (.string (dpadB d))).cell? ⟨rb, 2, none⟩ = some tv3 := (World.cell?_setCell_other _ _ _ _ (by simp; exact fun e => absurd e (g1.ap.2.1 gn3 rfl).1)).trans g1.c2
      clear g1 hce3
      generalize s1.now[a] = dd at ca
      have hpc := pad_cat d
      have hal : (a : Int) < (s1.now.length : Int) := (by omega)
      go_wp2_with (first | (at_builtin; (refine wpList_append_lies _ rfl _ _ _ rfl B 95 i0 _ 2 24 Try.underlying49 hi0 hz0 hi2 hi24 hzc (by omega) tv3 s1.wait.length (s1.wait.flatMap cellT) rfl (laid_ot G1.out) ⟨w3.heap.size, 0, none⟩ 1 1 (cellT (a, dpadB d)) rfl rfl (World.news_of_block (cs := (cellT (a, dpadB d)).toArray) (t := 95) (fr := (0, 0)) (laid_new a w3 gn3 (dpadB d))) (by simp [cellT, Value.oneCell']) (by omega) (by unfold maxLen; omega) (by omega) (by simp; omega) (w3.heap.size + 1) (by simp) ?_; intro g5b cap5 w5 ho hgr hat hlt; have c5 := (World.cell?_of_block (a := ⟨rb, 2, none⟩) (laid_rb G1.out rfl hgr)).trans G1.out.c2; have f5 := (World.frozen?_of_block (a := ⟨rb, 2, none⟩) (laid_rb G1.out rfl hgr)).trans (G1.out.soft 2); have HO := hide ho; have HG := hide hgr; have HA := hide hat; clear ho hgr hat hlt hc2 c1 ca fa)))
      go_ret
      subst gS
      exact ⟨rfl, ActK.after HS3.out (RK.laid G1.out g3 g4 g5 g6 g7 ha1 rfl HO.out HG.out (HA.out.imp id fun e => by rw [e]; simp))⟩
    · rw [if_neg hf]
      have hf0 : (0 : Int) < (f : Int) := by omega
      clear hf
      go_enter Try.func15, Try.ntmps15
      go_wp2_with (go_at_call 48; refine HST.out.mono ?_; rintro e w2 ⟨rfl, ha2⟩)
      go_ret
      exact ⟨rfl, ha2⟩
end
end Go.Proofs.Ytkfpfbkdalbjoaa
