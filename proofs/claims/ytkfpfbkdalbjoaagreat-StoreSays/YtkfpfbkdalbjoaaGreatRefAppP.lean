/-
  Rows appended to a row of one's own. Nothing of the program's functions is named here.
-/
import Derived.Test.YtkfpfbkdalbjoaaGreatRowG
import Derived.Lib.AppendZerosOnto
import Derived.Lib.SliceRun
import Derived.Test.YtkfpfbkdalbjoaaGreatRefAppL
import Derived.Test.YtkfpfbkdalbjoaaGreatAppend1
import Derived.Test.YtkfpfbkdalbjoaaGreatChgMem
import Derived.Deep.RegionLaw
import Derived.Deep.RegionHeld3
import Derived.OwnWalk
namespace Go.Proofs.YtkfpfbkdalbjoaaGreat
open Go.RowKit Go.Joins

theorem cellPs_one (l : List (ByteArray × ByteArray)) : ∀ u ∈ l.flatMap cellP, u.oneCell' = true := by
  intro u hu
  obtain ⟨s, _, hu⟩ := List.mem_flatMap.1 hu
  simp only [cellP, List.mem_cons, List.not_mem_nil, or_false] at hu
  rcases hu with rfl | rfl <;> rfl
theorem append_p (B : Nat) (v : Value) (l : List (ByteArray × ByteArray)) (w : World) (hown : ownP w B v l) (hB : B ≤ w.heap.size) (ao : Option Addr) (cap : Nat) (m : List (ByteArray × ByteArray)) (h : heldSp w ao m) (hnil : ao = none → cap = 0 ∧ m = []) (hs : l.length + m.length ≤ 1000000) (ty : TypeId) :
    ∃ v' w', (Builtin.append_ #[36, 36] ty #[v, .slice ao m.length cap]).run Tryz.prog w = .ok v' w' ∧ ownP w' B v' (l ++ m) ∧ w.grownBy w' v.ownBlock := by
  obtain ⟨i0, hi0, hz0, hs0, hb0⟩ := info_parts row_info
  cases ao with
  | none =>
    obtain ⟨rfl, rfl⟩ := hnil rfl
    exact ⟨v, w, run_append_owned_none w B _ ty _ i0 2 Tryz.underlying36 hi0 v l.length (l.flatMap cellP) hown, by simpa using hown, World.grownBy.refl w _⟩
  | some a =>
    have hnews : ∀ j u, (m.flatMap cellP)[j]? = some u → w.cell? (a.add j) = some u := by
      intro j u hj
      rcases h with rfl | ⟨b, off, e, hm⟩
      · simp at hj
      · cases e
        have hjl := (List.getElem?_eq_some_iff.1 hj).1
        rw [flat_len cellP 2 cellP_len] at hjl
        have hq : j / 2 < m.length := by omega
        have ej : j = j / 2 * 2 + j % 2 := by omega
        have hg := flat_get cellP 2 cellP_len m (j / 2) (j % 2) hq (by omega)
        rw [← ej, hj] at hg
        obtain ⟨c0, c1⟩ := hm (j / 2) hq
        rw [Addr.add_lit]
        rcases Nat.mod_two_eq_zero_or_one j with e | e
        · rw [e] at hg
          simp [cellP] at hg
          have e2 : off + j = off + j / 2 * 2 := by omega
          rw [e2, c0, hg]
        · rw [e] at hg
          simp [cellP] at hg
          have e2 : off + j = off + j / 2 * 2 + 1 := by omega
          rw [e2, c1, hg]
    obtain ⟨v', w', hr, ho, hg, _⟩ := run_append_own (P := Tryz.prog) (w := w) B 36 ty 81 i0 _ 2 32 Tryz.underlying36 hi0 hz0 hs0 hb0 rfl (by omega) v l.length (l.flatMap cellP) hown a m.length cap (m.flatMap cellP) (flat_len cellP 2 cellP_len m) hnews (cellPs_one m) (by unfold maxLen; omega) (by omega) hB
    refine ⟨v', w', hr, ?_, hg⟩
    unfold ownP
    rw [List.length_append, List.flatMap_append]
    exact ho
end Go.Proofs.YtkfpfbkdalbjoaaGreat

/-
  What haywainref.Applied returns: a new row of rows.
-/
namespace Go.Proofs.YtkfpfbkdalbjoaaGreat
open Go.RowKit Go.Joins

set_option maxRecDepth 4000 in
set_option maxHeartbeats 4000000 in
theorem rapplied_any (rows : List (ByteArray × ByteArray)) (ra : Option Addr) (rc : Nat) (l : List Chg) (la : Option Addr) (lc : Nat) (w : World) (hr : heldSp w ra rows) (hnil : ra = none → rc = 0 ∧ rows = []) (hl : heldCh w la l) (hrn : rows.length ≤ 100000) (hn : l.length ≤ 1000) :
    Calls Tryz.prog 29 #[.slice ra rows.length rc, .slice la l.length lc] w fun e w' => ∃ v, e = .returned v ∧ ownP w' w.heap.size v (appliedA rows l) ∧ Below w.heap.size w w' := by
  obtain ⟨i0, hi0, hz0, hs0, hb0⟩ := info_parts row_info
  obtain ⟨va, wa, hra, hoa, hga⟩ := append_p w.heap.size (.slice none 0 0) [] w (World.ownsRow_nil _ _ _ _) (Nat.le_refl _) ra rc rows hr hnil (by simp; omega) 36
  have hBa : Below w.heap.size w wa := (Below.refl _ _).grown hga (Nat.le_refl _) (fun k hk => by cases hk)
  rw [List.nil_append] at hoa
  have HL := hide hl
  clear hga hr hnil hl
  go_enter Tryz.func29, Tryz.ntmps29
  go_wp2_with (at_builtin; refine Lib.wpList_append_run w rfl _ _ _ _ rfl (.slice none 0 0) (.slice ra rows.length rc) rfl rfl va wa hra ?_)
  go_loopw [5, 6] (fun v i wr => ∃ k : Nat, k ≤ l.length ∧ i = .int .i64 k ∧ ownP wr w.heap.size v (appliedA rows (l.take k)) ∧ Below w.heap.size w wr) (fun _ i _ => l.length - (intOf i).toNat)
  case atStart => exact ⟨0, Nat.zero_le _, rfl, hoa, hBa⟩
  case round =>
    obtain ⟨i, hi0', rfl, hout, hB1⟩ := hrel
    by_cases hi : i < l.length
    · have hi' : (i : Int) < (l.length : Int) := by omega
      rcases HL.out with e | ⟨b, off, e, hch⟩
      · rw [e] at hi; simp at hi
      subst e
      obtain ⟨d0, d1, d2⟩ := chgsAt_on hB1 hch i hi
      have HLS := hide hch
      have HAT := hide (appliedA_take rows l i hi)
      have hol := appliedA_len (l.take i) rows
      rw [List.length_take] at hol
      generalize appliedA rows (l.take i) = out at *
      have hol' : out.length ≤ 101000 := by omega
      clear hol
      obtain ⟨oa, oc, rfl, hoh⟩ := ownP_held hout
      have HOH := hide hoh
      have HB1 := hide hB1
      clear hch hoh hout hi0' hB1 hoa hBa hra HLS HL
      generalize hcc : l[i] = c at *
      clear hcc
      rename World => w1
      go_wp2
      go_loopw [7, 8, 9] (fun v y x wr => ∃ k : Nat, k ≤ out.length ∧ x = .int .i64 k ∧ y = .bool ((out.take k).foldl (stepA c) (c.gone, [])).1 ∧ ownP wr w1.heap.size v ((out.take k).foldl (stepA c) (c.gone, [])).2 ∧ Below w1.heap.size w1 wr) (fun _ _ x _ => out.length - (intOf x).toNat)
      case atStart => exact ⟨0, Nat.zero_le _, rfl, rfl, World.ownsRow_nil _ _ _ _, Below.refl _ _⟩
      case round =>
        obtain ⟨k, hk, rfl, rfl, hown, hB⟩ := hrel
        have HF := hide (foldA_take c out (c.gone, []) k)
        have hlen := (foldA_len c (out.take k) (c.gone, [])).2.1
        rw [List.length_take] at hlen
        have HE : Hid (((out.take k).foldl (stepA c) (c.gone, [])) = ((out.take k).foldl (stepA c) (c.gone, []))) := rfl
        generalize hst : ((out.take k).foldl (stepA c) (c.gone, [])) = st at *
        obtain ⟨laid, nx⟩ := st
        replace HE := hide hst
        clear hst
        replace hlen : nx.length ≤ 101001 := by
          refine Nat.le_trans hlen ?_
          simp only [List.length_nil]
          split <;> omega
        have e0 := cell_on hB d0
        have e1 := cell_on hB d1
        by_cases hlt : k < out.length
        · have lk : (k : Int) < (out.length : Int) := by omega
          rcases HOH.out with e | ⟨ob, oo, e, hos⟩
          · rw [e] at hlt; simp at hlt
          subst e
          obtain ⟨c0, c1⟩ := spansAt_on hB hos k hlt
          replace HF := hide (HF.out hlt)
          cases hq : eqS out[k].1 c.key with
          | true =>
            have q1 : (out[k].1.toList == c.key.toList) = true := hq
            have q2 : (out[k].1.toList != c.key.toList) = false := by rw [bne, q1]; rfl
            cases laid with
            | true =>
              replace HF : Hid (List.foldl (stepA c) (c.gone, []) (List.take (k + 1) out) = (true, nx)) := by
                show _ = _
                rw [HF.out]; simp [stepA, hq]
              clear hq
              go_wp2
              go_quiet (fail)
              go_wp2
              go_quiet (fail)
              go_wp2
              go_roundw
              case rel => exact ⟨k + 1, by omega, by go_num, by rw [HF.out], by rw [HF.out]; exact hown, by first | exact hB | exact hB.trans (below_draws _ _ _)⟩
              case measure => simp [intOf]; omega
            | false =>
              have hle : leS c.key out[k].1 = true := by rw [leS_iff]; exact .inr ((eqS_iff _ _).1 hq).symm
              have le' : (Op.bytesLess c.key.toList out[k].1.toList || c.key.toList == out[k].1.toList) = true := hle
              replace HF : Hid (List.foldl (stepA c) (c.gone, []) (List.take (k + 1) out) = (true, nx ++ [(c.key, c.val)])) := by
                show _ = _
                rw [HF.out]; simp [stepA, hq, hle]
              clear hq hle
              have nS := OnW.some wr
              have n0 : ∀ m : OnW wr, m.w.cell? ⟨ob, oo + k * 2, none⟩ = some (.string out[k].1) := fun m => m.cell c0
              have n1 : ∀ m : OnW wr, m.w.cell? ⟨b, off + i * 3, none⟩ = some (.string c.key) := fun m => m.cell e0
              go_wp2
              refine wp_region_on (by kernel_rfl) (by kernel_rfl) ?_
              repeat (go_big_quiet_step (fail))
              refine wpQuiet_nil ?_
              intro w2 hw2
              replace hw2 := on_end hw2
              replace hB := below_on hB (Nat.le_refl _) hw2
              replace hown := own_block hown fun k e => hw2.block k (World.ownsRow.lt hown k e).2
              replace e0 := cell_on hB d0
              replace e1 := cell_on hB d1
              clear nS n0 n1 c0 c1 hw2
              have HOWN := hide hown
              have hs2 := hB.size
              go_wp2
              have HNW : Hid (∀ j u, [Value.string c.key, Value.string c.val][j]? = some u → (w2.alloc (Obj.cells #[Value.string c.key, Value.string c.val] 81)).drew.cell? ((⟨w2.heap.size, 0, none⟩ : Addr).add j) = some u) :=
                World.news_of_block (cs := #[.string c.key, .string c.val]) (t := 81) (fr := (0, 0)) (heap_alloc_new w2 _)
              go_region_law ((refine step_append_lies _ (by rfl) _ _ _ (by rfl) w1.heap.size 81 i0 _ 2 32 Tryz.underlying36 hi0 hz0 hs0 hb0 rfl (by omega) u7 _ _ (by rfl) ((HOWN.out.alloc _).drew) ⟨w2.heap.size, 0, none⟩ 1 1 [.string c.key, .string c.val] (by rfl) (by rfl) HNW.out (by simp [Value.oneCell']) (by omega) (by unfold maxLen; omega) (by omega) (by simp; omega) (w2.heap.size + 1) (by simp) ?_; intro gk ck w3 ho3 hgrow hat3 hlt3))
              all_goals
                replace hB : Below w1.heap.size w1 w3 := (below_on hB (Nat.le_refl _) (below_alloc1 w2 (Obj.cells #[Value.string c.key, Value.string c.val] 81)).drew).grown hgrow (by simp; omega) (fun k hk => (World.ownsRow.lt HOWN.out k hk).1)
                replace hown : ownP w3 w1.heap.size (.slice (some ⟨gk, 0, none⟩) (nx.length + 1) ck) (nx ++ [(c.key, c.val)]) := ownP_snoc ho3
                clear ho3 hgrow hat3 hlt3 HNW HOWN
                replace e0 := cell_on hB d0
                replace e1 := cell_on hB d1
                obtain ⟨c0, c1⟩ := spansAt_on hB hos k hlt
                go_wp2
                go_quiet (fail)
                go_wp2
                go_roundw
                case rel => exact ⟨k + 1, by omega, by go_num, by rw [HF.out], by rw [HF.out]; exact hown, by first | exact hB | exact hB.trans (below_draws _ _ _)⟩
                case measure => simp [intOf]; omega
          | false =>
            have q1 : (out[k].1.toList == c.key.toList) = false := hq
            have q2 : (out[k].1.toList != c.key.toList) = true := by rw [bne, q1]; rfl
            cases laid with
            | true =>
              replace HF : Hid (List.foldl (stepA c) (c.gone, []) (List.take (k + 1) out) = (true, nx ++ [out[k]])) := by
                show _ = _
                rw [HF.out]; simp [stepA, hq]
              clear hq
              go_wp2
              go_quiet (fail)
              go_wp2
              go_quiet (fail)
              go_wp2_with (at_builtin; refine wp_append1 rfl _ _ 36 rfl w1.heap.size 81 i0 _ 2 32 Tryz.underlying36 hi0 hz0 hs0 hb0 rfl (by omega) _ (cellP out[k]) rfl (cellP_one _) _ nx.length (nx.flatMap cellP) hown rfl rfl (by omega) (by omega) hB.size ?_; intro v1 w2 ho1 hb2; replace hB : Below w1.heap.size w1 w2 := (by first | exact hb2 w1 hB | exact hb2 w1 (hB.trans (below_draws _ _ _))); replace hown := ownP_snoc ho1; clear ho1 hb2; replace e0 := cell_on hB d0; replace e1 := cell_on hB d1; obtain ⟨c0, c1⟩ := spansAt_on hB hos k hlt)
              go_roundw
              case rel => exact ⟨k + 1, by omega, by go_num, by rw [HF.out], by rw [HF.out]; exact hown, by first | exact hB | exact hB.trans (below_draws _ _ _)⟩
              case measure => simp [intOf]; omega
            | false =>
              cases hle : leS c.key out[k].1 with
              | false =>
                have le' : (Op.bytesLess c.key.toList out[k].1.toList || c.key.toList == out[k].1.toList) = false := hle
                replace HF : Hid (List.foldl (stepA c) (c.gone, []) (List.take (k + 1) out) = (false, nx ++ [out[k]])) := by
                  show _ = _
                  rw [HF.out]; simp [stepA, hq, hle]
                clear hq hle
                go_wp2
                go_quiet (fail)
                go_wp2
                go_quiet (fail)
                go_wp2_with (at_builtin; refine wp_append1 rfl _ _ 36 rfl w1.heap.size 81 i0 _ 2 32 Tryz.underlying36 hi0 hz0 hs0 hb0 rfl (by omega) _ (cellP out[k]) rfl (cellP_one _) _ nx.length (nx.flatMap cellP) hown rfl rfl (by omega) (by omega) hB.size ?_; intro v1 w2 ho1 hb2; replace hB : Below w1.heap.size w1 w2 := (by first | exact hb2 w1 hB | exact hb2 w1 (hB.trans (below_draws _ _ _))); replace hown := ownP_snoc ho1; clear ho1 hb2; replace e0 := cell_on hB d0; replace e1 := cell_on hB d1; obtain ⟨c0, c1⟩ := spansAt_on hB hos k hlt)
                go_roundw
                case rel => exact ⟨k + 1, by omega, by go_num, by rw [HF.out], by rw [HF.out]; exact hown, by first | exact hB | exact hB.trans (below_draws _ _ _)⟩
                case measure => simp [intOf]; omega
              | true =>
                have le' : (Op.bytesLess c.key.toList out[k].1.toList || c.key.toList == out[k].1.toList) = true := hle
                replace HF : Hid (List.foldl (stepA c) (c.gone, []) (List.take (k + 1) out) = (true, nx ++ [(c.key, c.val)] ++ [out[k]])) := by
                  show _ = _
                  rw [HF.out]; simp [stepA, hq, hle]
                clear hq hle
                have hlen2 : (nx ++ [(c.key, c.val)]).length ≤ 101002 := by simp; omega
                have nS := OnW.some wr
                have n0 : ∀ m : OnW wr, m.w.cell? ⟨ob, oo + k * 2, none⟩ = some (.string out[k].1) := fun m => m.cell c0
                have n1 : ∀ m : OnW wr, m.w.cell? ⟨b, off + i * 3, none⟩ = some (.string c.key) := fun m => m.cell e0
                go_wp2
                refine wp_region_on (by kernel_rfl) (by kernel_rfl) ?_
                repeat (go_big_quiet_step (fail))
                refine wpQuiet_nil ?_
                intro w2 hw2
                replace hw2 := on_end hw2
                replace hB := below_on hB (Nat.le_refl _) hw2
                replace hown := own_block hown fun k e => hw2.block k (World.ownsRow.lt hown k e).2
                replace e0 := cell_on hB d0
                replace e1 := cell_on hB d1
                clear nS n0 n1 c0 c1 hw2
                have HOWN := hide hown
                have hs2 := hB.size
                go_wp2
                have HNW : Hid (∀ j u, [Value.string c.key, Value.string c.val][j]? = some u → (w2.alloc (Obj.cells #[Value.string c.key, Value.string c.val] 81)).drew.cell? ((⟨w2.heap.size, 0, none⟩ : Addr).add j) = some u) :=
                  World.news_of_block (cs := #[.string c.key, .string c.val]) (t := 81) (fr := (0, 0)) (heap_alloc_new w2 _)
                go_region_law ((refine step_append_lies _ (by rfl) _ _ _ (by rfl) w1.heap.size 81 i0 _ 2 32 Tryz.underlying36 hi0 hz0 hs0 hb0 rfl (by omega) u7 _ _ (by rfl) ((HOWN.out.alloc _).drew) ⟨w2.heap.size, 0, none⟩ 1 1 [.string c.key, .string c.val] (by rfl) (by rfl) HNW.out (by simp [Value.oneCell']) (by omega) (by unfold maxLen; omega) (by omega) (by simp; omega) (w2.heap.size + 1) (by simp) ?_; intro gk ck w3 ho3 hgrow hat3 hlt3))
                all_goals
                  replace hB : Below w1.heap.size w1 w3 := (below_on hB (Nat.le_refl _) (below_alloc1 w2 (Obj.cells #[Value.string c.key, Value.string c.val] 81)).drew).grown hgrow (by simp; omega) (fun k hk => (World.ownsRow.lt HOWN.out k hk).1)
                  replace hown : ownP w3 w1.heap.size (.slice (some ⟨gk, 0, none⟩) (nx.length + 1) ck) (nx ++ [(c.key, c.val)]) := ownP_snoc ho3
                  clear ho3 hgrow hat3 hlt3 HNW HOWN
                  replace e0 := cell_on hB d0
                  replace e1 := cell_on hB d1
                  obtain ⟨c0, c1⟩ := spansAt_on hB hos k hlt
                  go_wp2
                  go_quiet (fail)
                  go_wp2_with (at_builtin; refine wp_append1 rfl _ _ 36 rfl w1.heap.size 81 i0 _ 2 32 Tryz.underlying36 hi0 hz0 hs0 hb0 rfl (by omega) _ (cellP out[k]) rfl (cellP_one _) _ (nx ++ [(c.key, c.val)]).length ((nx ++ [(c.key, c.val)]).flatMap cellP) hown rfl rfl (by omega) (by omega) hB.size ?_; intro v1 w2 ho1 hb2; replace hB : Below w1.heap.size w1 w2 := (by first | exact hb2 w1 hB | exact hb2 w1 (hB.trans (below_draws _ _ _))); replace hown := ownP_snoc ho1; clear ho1 hb2; replace e0 := cell_on hB d0; replace e1 := cell_on hB d1; obtain ⟨c0, c1⟩ := spansAt_on hB hos k hlt)
                  go_roundw
                  case rel => exact ⟨k + 1, by omega, by go_num, by rw [HF.out], by rw [HF.out]; exact hown, by first | exact hB | exact hB.trans (below_draws _ _ _)⟩
                  case measure => simp [intOf]; omega
        · have e : out.take k = out := List.take_of_length_le (by omega)
          have hlt' : ¬ (k : Int) < (out.length : Int) := by omega
          rw [e] at HE
          cases laid with
          | true =>
            have HA : Hid (apply1 out c = nx) := by show _ = _; unfold apply1 endA; rw [HE.out]; rfl
            go_wp2
            exact ⟨⟨i + 1, by omega, by go_num, by rw [HAT.out, HA.out]; exact ownsRow_le hown HB1.out.size, HB1.out.trans (hB.mono HB1.out.size)⟩, by simp [intOf]; omega⟩
          | false =>
            have HA : Hid (apply1 out c = nx ++ [(c.key, c.val)]) := by show _ = _; unfold apply1 endA; rw [HE.out]; rfl
            have HOWN := hide hown
            have hs2 := hB.size
            have HNW : Hid (∀ j u, [Value.string c.key, Value.string c.val][j]? = some u → (wr.alloc (Obj.cells #[Value.string c.key, Value.string c.val] 81)).drew.cell? ((⟨wr.heap.size, 0, none⟩ : Addr).add j) = some u) :=
              World.news_of_block (cs := #[.string c.key, .string c.val]) (t := 81) (fr := (0, 0)) (heap_alloc_new wr _)
            go_wp2
            go_region_law ((refine step_append_lies _ (by rfl) _ _ _ (by rfl) w1.heap.size 81 i0 _ 2 32 Tryz.underlying36 hi0 hz0 hs0 hb0 rfl (by omega) u7 _ _ (by rfl) ((HOWN.out.alloc _).drew) ⟨wr.heap.size, 0, none⟩ 1 1 [.string c.key, .string c.val] (by rfl) (by rfl) HNW.out (by simp [Value.oneCell']) (by omega) (by unfold maxLen; omega) (by omega) (by simp; omega) (wr.heap.size + 1) (by simp) ?_; intro gk ck w3 ho3 hgrow hat3 hlt3))
            all_goals
              replace hB : Below w1.heap.size w1 w3 := (below_on hB (Nat.le_refl _) (below_alloc1 wr (Obj.cells #[Value.string c.key, Value.string c.val] 81)).drew).grown hgrow (by simp; omega) (fun k hk => (World.ownsRow.lt HOWN.out k hk).1)
              replace hown : ownP w3 w1.heap.size (.slice (some ⟨gk, 0, none⟩) (nx.length + 1) ck) (nx ++ [(c.key, c.val)]) := ownP_snoc ho3
              clear ho3 hgrow hat3 hlt3 HNW HOWN
              go_wp2
              exact ⟨⟨i + 1, by omega, by go_num, by rw [HAT.out, HA.out]; exact ownsRow_le hown HB1.out.size, HB1.out.trans (hB.mono HB1.out.size)⟩, by simp [intOf]; omega⟩
    · have ei : i = l.length := by omega
      subst ei
      have hi' : ¬ (l.length : Int) < (l.length : Int) := by omega
      rw [List.take_length] at hout
      go_wp2
      go_ret
      exact ⟨_, rfl, hout, hB1⟩
end Go.Proofs.YtkfpfbkdalbjoaaGreat
