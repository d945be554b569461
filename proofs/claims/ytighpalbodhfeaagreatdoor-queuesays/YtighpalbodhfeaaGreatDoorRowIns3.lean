/-
  What slices.Insert makes of rows of one's own that have no room, and slices.Replace of one of them. Nothing else that was there is changed.
-/
import Derived.Test.YtighpalbodhfeaaGreatDoorViewPlace
import Derived.Deep.QuietTactic
import Derived.Test.YtighpalbodhfeaaGreatDoorVerNew
namespace Go.Proofs.YtighpalbodhfeaaGreatDoor
open Go.RowKit Go.Joins
attribute [local go_sem ↓] Go.wp_at_zero Go.wp_at_succ

set_option maxRecDepth 4000 in
set_option maxHeartbeats 8000000 in
theorem rowInsert_grow (B g cap i n vb vc : Nat) (k u : ByteArray) (xs : List Value) (w : World) (ho : w.ownsRow B 55 2 (.slice (some ⟨g, 0, none⟩) n cap) n xs) (hB : B ≤ w.heap.size) (hone : ∀ x ∈ xs, x.oneCell' = true) (h0 : w.cell? ⟨vb, 0, none⟩ = some (.string k)) (h1 : w.cell? ⟨vb, 1, none⟩ = some (.string u))
    (hi : i < n) (hn : n ≤ 1000000) (hnc : n ≤ cap) (hroom : cap < n + 1) :
    Calls Tryz.prog 162 #[.slice (some ⟨g, 0, none⟩) n cap, .int .i64 i, .slice (some ⟨vb, 0, none⟩) 1 vc] w fun e w' => InsAt w w' e B (.slice (some ⟨g, 0, none⟩) n cap) (n + 1) (xs.take (i * 2) ++ ([.string k, .string u] ++ xs.drop (i * 2))) := by
  obtain ⟨i0, hi0, hz0, hz1, hz2⟩ := info_parts zrow_info
  have hxl : xs.length = n * 2 := ho.1
  have hgw : g < w.heap.size := (World.ownsRow.lt ho g rfl).2
  have hvw : vb < w.heap.size := World.block_lt_of_cell? _ _ h0
  obtain ⟨J, hJ⟩ : ∃ J, J = i + 1 := ⟨_, rfl⟩
  have hsz : (Tryz.prog.info? 55).map (·.size) = some 2 := by rw [hi0]; simp [hz1]
  have hold : (Builtin.firstCells i0.size i (.slice (some ⟨g, 0, none⟩) i cap)).run Tryz.prog w.drew = .ok (xs.take (i * 2)).toArray w.drew := by
    rw [hz1]
    exact run_firstCells_some w.drew 2 i ⟨g, 0, none⟩ i cap (xs.take (i * 2)) (by rw [List.length_take]; omega) (fun j x hj => by
      have hjl : j < (xs.take (i * 2)).length := (List.getElem?_eq_some_iff.1 hj).1
      rw [List.length_take] at hjl
      rw [Addr.add_lit, Nat.zero_add]
      rw [List.getElem?_take, if_pos (by omega)] at hj
      show w.cell? _ = _
      rw [ho.cellAt j (by omega)]
      exact hj)
  have hrz : ∀ ty, (Builtin.append_ #[22, 3] ty #[.slice (some ⟨g, 0, none⟩) i cap, .int .i64 ((n : Int) + 1 - (i : Int))]).run Tryz.prog w =
      .ok (.slice (some ⟨w.heap.size, 0, none⟩) (n + 1) (grownCap w (n + 1) cap 55)) (w.drew.alloc (.cells ((xs.take (i * 2)).toArray ++ Builtin.zeroCells zrow.cells (n + 1 - i) ++ Builtin.zeroCells zrow.cells (grownCap w (n + 1) cap 55 - (n + 1))) 55)) := fun ty => by
    have h := Lib.run_append_grow_zeros (P := Tryz.prog) w 22 3 ty 55 i0 _ .i64 .i64 Tryz.underlying22 Tryz.underlying3 hi0 hz0 (some ⟨g, 0, none⟩) i cap (xs.take (i * 2)) hold (n + 1 - i) (by omega) (by omega) (by omega) (by omega) (by rw [hz2]; omega) (by rw [hz2, show i + (n + 1 - i) = n + 1 by omega]; exact growslice_fits hroom (by omega))
    rw [show i + (n + 1 - i) = n + 1 by omega] at h
    rw [show (n : Int) + 1 - (i : Int) = ((n + 1 - i : Nat) : Int) by omega]
    exact h
  have hG := grownCap_ge w (n + 1) cap 55
  have hM := grownCap_le_maxLen w (n + 1) cap 55 (by unfold maxLen; omega)
  generalize grownCap w (n + 1) cap 55 = G at hrz hG hM
  have hzl : ∀ q, (Builtin.zeroCells zrow.cells q).toList.length = q * 2 := fun q => by rw [Array.length_toList, size_zeroCells]; rfl
  have hold2 : (w.drew.alloc (.cells ((xs.take (i * 2)).toArray ++ Builtin.zeroCells zrow.cells (n + 1 - i) ++ Builtin.zeroCells zrow.cells (G - (n + 1))) 55)).ownsRow B 55 2 (.slice (some ⟨w.heap.size, 0, none⟩) (n + 1) G) (n + 1) (xs.take (i * 2) ++ (Builtin.zeroCells zrow.cells (n + 1 - i)).toList) := by
    refine ⟨by rw [List.length_append, hzl, List.length_take]; omega, .inr ⟨w.heap.size, G, _, rfl, hB, heap_alloc_new w.drew _, hG, hM, ?_, ?_⟩⟩
    · simp only [Array.size_append, size_zeroCells, List.size_toArray, List.length_take]
      have : zrow.cells.size = 2 := rfl
      rw [this]; omega
    · rw [Array.toList_append, Array.toList_append, List.take_left' (by rw [List.length_append, hzl]; simp only [List.length_take]; omega)]
  generalize hW1 : w.drew.alloc (.cells ((xs.take (i * 2)).toArray ++ Builtin.zeroCells zrow.cells (n + 1 - i) ++ Builtin.zeroCells zrow.cells (G - (n + 1))) 55) = W1 at hrz hold2
  have hb1 : w.grownBy W1 none := by
    rw [← hW1]
    exact ⟨rfl, rfl, rfl, by simp, fun q hq _ => Below.heap_alloc w.drew _ q hq⟩
  have c1 : ∀ a v, w.cell? a = some v → W1.cell? a = some v := fun a v h => hb1.cell h (by simp)
  obtain ⟨W2, hW2⟩ : ∃ W2, W2 = W1.setCells w.heap.size (i * 2) [.string k, .string u] := ⟨_, rfl⟩
  have r2 := own_setCells [.string k, .string u] (i * 2) W1 _ hold2
  rw [← hW2] at r2
  have hcpA : ∀ ty dc, (Builtin.copy_ #[22, 22] ty #[.slice (some ⟨w.heap.size, i * 2, none⟩) (n + 1 - i) dc, .slice (some ⟨vb, 0, none⟩) 1 vc]).run Tryz.prog W1 = .ok (goInt (Nat.min 1 (n + 1 - i))) W2 := fun ty dc => by
    rw [hW2]
    exact run_copy_k W1 _ _ ty 55 2 w.heap.size (i * 2) (n + 1 - i) dc ⟨vb, 0, none⟩ 1 vc _ Tryz.underlying22 hsz (by rw [show Nat.min 1 (n + 1 - i) = 1 by simp only [Nat.min_def]; split <;> omega]; rfl)
      (fun j x hj => c1 _ _ (row_src h0 h1 j x hj))
      (fun j hj => (own_there hold2 (i * 2 + j) (by simp at hj; omega)).1) (fun j hj => (own_there hold2 (i * 2 + j) (by simp at hj; omega)).2) (row_one2 k u)
  have hdl : (xs.drop (i * 2)).length = (n - i) * 2 := by rw [List.length_drop, hxl]; omega
  obtain ⟨mv, hmv⟩ : ∃ mv, mv = xs.drop (i * 2) := ⟨_, rfl⟩
  rw [← hmv] at hdl
  obtain ⟨W3, hW3⟩ : ∃ W3, W3 = W2.drew.setCells w.heap.size (J * 2) mv := ⟨_, rfl⟩
  have r2d : W2.drew.ownsRow B 55 2 (.slice (some ⟨w.heap.size, 0, none⟩) (n + 1) G) (n + 1) (setL (xs.take (i * 2) ++ (Builtin.zeroCells zrow.cells (n + 1 - i)).toList) (i * 2) [.string k, .string u]) := r2.1
  have r3 := own_setCells mv (J * 2) W2.drew _ r2d
  rw [← hW3] at r3
  have hcpB : ∀ ty dc sc, (Builtin.copy_ #[22, 22] ty #[.slice (some ⟨w.heap.size, J * 2, none⟩) (n + 1 - J) dc, .slice (some ⟨g, i * 2, none⟩) (n - i) sc]).run Tryz.prog W2.drew = .ok (goInt (Nat.min (n - i) (n + 1 - J))) W3 := fun ty dc sc => by
    rw [hW3]
    exact run_copy_k W2.drew _ _ ty 55 2 w.heap.size (J * 2) (n + 1 - J) dc ⟨g, i * 2, none⟩ (n - i) sc mv Tryz.underlying22 hsz (by rw [hdl]; congr 1; simp only [Nat.min_def]; split <;> omega)
      (fun j x hj => by
        have hjl : j < mv.length := (List.getElem?_eq_some_iff.1 hj).1
        rw [hmv, List.getElem?_drop] at hj
        rw [Addr.add_lit]
        show W2.cell? _ = _
        rw [hW2, World.cell?_setCells_out _ _ _ _ _ (fun h _ => by have : g = w.heap.size := h; omega)]
        refine c1 _ _ ?_
        rw [ho.cellAt (i * 2 + j) (by omega)]
        exact hj)
      (fun j hj => (own_there r2d (J * 2 + j) (by omega)).1) (fun j hj => (own_there r2d (J * 2 + j) (by omega)).2) (fun x hx => hone x (by rw [hmv] at hx; exact List.mem_of_mem_drop hx))
  have R : Hid (W3.ownsRow B 55 2 (.slice (some ⟨w.heap.size, 0, none⟩) (n + 1) G) (n + 1) (xs.take (i * 2) ++ ([.string k, .string u] ++ xs.drop (i * 2)))) := by
    have := r3.1
    rw [hmv, hJ, grow_cells xs _ _ i n hxl (hzl _) rfl hi] at this
    exact this
  have RG : Hid (w.grownBy W3 (some g)) := by
    have e2 : W1.grownBy W2 (some w.heap.size) := r2.2
    have e3 : W2.grownBy W3 (some w.heap.size) := ⟨r3.2.os, r3.2.tape, r3.2.output, r3.2.size, r3.2.block⟩
    refine ⟨(e3.os.trans e2.os).trans hb1.os, (e3.tape.trans e2.tape).trans hb1.tape, (e3.output.trans e2.output).trans hb1.output, Nat.le_trans hb1.size (Nat.le_trans e2.size e3.size), fun q hq _ => ?_⟩
    have hqn : some q ≠ some w.heap.size := fun e => by cases e; omega
    exact (e3.block q (Nat.lt_of_lt_of_le hq (Nat.le_trans hb1.size e2.size)) hqn).trans ((e2.block q (Nat.lt_of_lt_of_le hq hb1.size) hqn).trans (hb1.block q hq (by simp)))
  have z2 : ¬ ((i : Int) = (n : Int)) := by omega
  have z3 : (cap : Int) < (n : Int) + 1 := by omega
  have k0 : (i : Int) + 1 = (J : Int) := by omega
  have k1 : IntKind.i64.wrap ((i : Int) + 1) = (J : Int) := by rw [k0, IntKind.wrap_i64]; omega
  have k1' : IntKind.i64.wrap (J : Int) = (J : Int) := by rw [IntKind.wrap_i64]; omega
  have k2 : (0 : Int) ≤ (J : Int) := Int.natCast_nonneg _
  have k3 : (J : Int) ≤ (n : Int) + 1 := by omega
  have k4 : (i : Int) ≤ (n : Int) := by omega
  have k5 : (i : Int) ≤ (n : Int) + 1 := by omega
  have k6 : ¬ cap = i := by omega
  have k7 : ¬ G = J := by omega
  have k8 : ¬ G = i := by omega
  have hG63 : G ≤ 9223372036854775807 := by unfold maxLen at hM; omega
  have k9 : (n : Int) + 1 ≤ (G : Int) := by omega
  have k10 : i ≤ n := by omega
  have k11 : J ≤ n + 1 := by omega
  have k12 : (i : Int) ≤ (cap : Int) := by omega
  clear ho hone h0 h1 hold hold2 hb1 c1 r2 r2d r3 hW1 hW2 hW3 hmv hdl hxl hJ hzl hM hi0 hz0 hz1 hz2
  go_enter Tryz.func162, Tryz.ntmps162
  go_wp2_with (first
    | (at_builtin; refine Lib.wpList_append_run _ rfl _ _ _ _ rfl _ _ rfl rfl _ _ (hrz _) ?_)
    | (at_builtin; refine wpList_copy_runI _ rfl _ _ 22 22 rfl _ _ rfl rfl (hcpA _ _) ?_))
  go_region_law (refine step_copy_runI rfl _ _ 22 22 rfl _ _ (by simp [Act.eval, Act.put]) (by simp [Act.eval, Act.put]) (hcpB _ _ _) ?_)
  go_wp2
  go_ret
  exact ⟨_, rfl, R.out, RG.out⟩
theorem rowInsert (B i n vb vc : Nat) (v : Value) (k u : ByteArray) (xs : List Value) (w : World) (ho : w.ownsRow B 55 2 v n xs) (hB : B ≤ w.heap.size) (hone : ∀ x ∈ xs, x.oneCell' = true) (h0 : w.cell? ⟨vb, 0, none⟩ = some (.string k)) (h1 : w.cell? ⟨vb, 1, none⟩ = some (.string u))
    (hvb : v.ownBlock ≠ some vb) (tA : TypeId) (kA : Nat) (hsa : w.shape? vb = some (tA, kA)) (hfa : ∀ j, w.frozen? ⟨vb, j, none⟩ = false) (hi : i ≤ n) (hn : n ≤ 1000000) :
    Calls Tryz.prog 162 #[v, .int .i64 i, .slice (some ⟨vb, 0, none⟩) 1 vc] w fun e w' => InsAt w w' e B v (n + 1) (xs.take (i * 2) ++ ([.string k, .string u] ++ xs.drop (i * 2))) := by
  have hxl : xs.length = n * 2 := ho.1
  rcases Nat.eq_or_lt_of_le hi with rfl | hlt
  · rw [List.take_of_length_le (by omega), List.drop_eq_nil_of_le (by omega), List.append_nil]
    exact rowInsert_end B v i vb vc k u xs w ho hB h0 h1 hn
  · rcases own_form ho with ⟨rfl, rfl⟩ | ⟨g, cap, rfl, _, _, hc, hm⟩
    · omega
    · rcases Nat.lt_or_ge cap (n + 1) with hr | hr
      · exact rowInsert_grow B g cap i n vb vc k u xs w ho hB hone h0 h1 hlt hn hc hr
      · exact rowInsert_shift B g cap i n vb vc k u xs w ho hone h0 h1 (fun e => hvb (by rw [e]; rfl)) tA kA hsa hfa hlt hn hr (by unfold maxLen at hm; omega)
end Go.Proofs.YtighpalbodhfeaaGreatDoor

/-
  What slices.Replace makes of rows of one's own: one row is laid in another one's place, or ahead of it. Nothing else that was there is changed.
-/
namespace Go.Proofs.YtighpalbodhfeaaGreatDoor
open Go.RowKit Go.Joins
attribute [local go_sem ↓] Go.wp_at_zero Go.wp_at_succ

theorem own_heap {w W : World} {B : Nat} {e : TypeId} {size : Nat} {v : Value} {n : Nat} {xs : List Value} (h : W.heap = w.heap) (ho : w.ownsRow B e size v n xs) : W.ownsRow B e size v n xs := own_block ho fun k _ => by rw [h]
theorem put_cells (xs vs : List Value) (i n : Nat) (hx : xs.length = n * 2) (hv : vs.length = 2) (hi : i < n) : setL (setL xs (i * 2) vs) ((i + 1) * 2) (xs.drop ((i + 1) * 2)) = xs.take (i * 2) ++ (vs ++ xs.drop ((i + 1) * 2)) := by
  have e0 : i * 2 + vs.length = (i + 1) * 2 := by omega
  have e1 : setL xs (i * 2) vs = xs.take (i * 2) ++ vs ++ xs.drop ((i + 1) * 2) := by rw [setL_eq _ _ _ (by omega), e0]
  have hl : (xs.take (i * 2) ++ vs).length = (i + 1) * 2 := by rw [List.length_append, List.length_take, hv]; omega
  have e2 : (xs.take (i * 2) ++ vs ++ xs.drop ((i + 1) * 2)).drop ((i + 1) * 2 + (xs.drop ((i + 1) * 2)).length) = [] := List.drop_eq_nil_of_le (by rw [List.length_append, hl]; omega)
  rw [e1, setL_eq _ _ _ (by rw [List.length_append, hl]; omega), List.take_left' hl, e2, List.append_nil, List.append_assoc]
set_option maxRecDepth 4000 in
set_option maxHeartbeats 8000000 in
theorem rowReplace_last (B g cap i n vb vc : Nat) (k u : ByteArray) (xs : List Value) (w : World) (ho : w.ownsRow B 55 2 (.slice (some ⟨g, 0, none⟩) n cap) n xs) (hB : B ≤ w.heap.size) (h0 : w.cell? ⟨vb, 0, none⟩ = some (.string k)) (h1 : w.cell? ⟨vb, 1, none⟩ = some (.string u))
    (hi : i + 1 = n) (hn : n ≤ 1000000) (hnc : n ≤ cap) :
    Calls Tryz.prog 143 #[.slice (some ⟨g, 0, none⟩) n cap, .int .i64 i, .int .i64 n, .slice (some ⟨vb, 0, none⟩) 1 vc] w fun e w' => InsAt w w' e B (.slice (some ⟨g, 0, none⟩) n cap) n (xs.take (i * 2) ++ ([.string k, .string u] ++ xs.drop ((i + 1) * 2))) := by
  have hxl : xs.length = n * 2 := ho.1
  obtain ⟨v', w', hr, ho', hg⟩ := append_row B (.slice (some ⟨g, 0, none⟩) i cap) i (xs.take (i * 2)) w (own_shrink ho (m := i) (by omega)) hB vb vc k u h0 h1 (by omega)
  have e : xs.drop ((i + 1) * 2) = [] := List.drop_eq_nil_of_le (by omega)
  rw [e, List.append_nil]
  obtain ⟨va, vcap, rfl⟩ : ∃ ao c, v' = .slice ao (i + 1) c := by
    rcases own_form ho' with ⟨hv, h0⟩ | ⟨g', c', hv, _⟩
    · omega
    · exact ⟨_, _, hv⟩
  rw [hi] at ho' hr
  have HO := hide ho'
  have HG : Hid (w.grownBy w' (some g)) := hg
  have k1 : ¬ (i : Int) = (n : Int) := by omega
  have k2 : (i : Int) ≤ (n : Int) := by omega
  have k3 : (n : Int) ≤ (cap : Int) := by omega
  have k4 : (i : Int) ≤ (cap : Int) := by omega
  have k5 : ¬ (n : Int) < (n : Int) := by omega
  clear ho ho' hg h0 h1 hxl e hi
  go_enter Tryz.func143, Tryz.ntmps143
  go_wp2_with (at_builtin; refine Lib.wpList_append_run _ rfl _ _ _ _ rfl _ _ rfl rfl _ _ (hr _) ?_)
  all_goals
    go_ret
    exact ⟨_, rfl, HO.out, HG.out⟩
set_option maxRecDepth 4000 in
set_option maxHeartbeats 8000000 in
theorem rowReplace_mid (B g cap i n vb vc : Nat) (k u : ByteArray) (xs : List Value) (w : World) (ho : w.ownsRow B 55 2 (.slice (some ⟨g, 0, none⟩) n cap) n xs) (hone : ∀ x ∈ xs, x.oneCell' = true) (h0 : w.cell? ⟨vb, 0, none⟩ = some (.string k)) (h1 : w.cell? ⟨vb, 1, none⟩ = some (.string u))
    (hi : i + 1 < n) (hn : n ≤ 1000000) (hnc : n ≤ cap) (hc63 : cap ≤ 9223372036854775807) :
    Calls Tryz.prog 143 #[.slice (some ⟨g, 0, none⟩) n cap, .int .i64 i, .int .i64 ((i + 1 : Nat) : Int), .slice (some ⟨vb, 0, none⟩) 1 vc] w fun e w' => InsAt w w' e B (.slice (some ⟨g, 0, none⟩) n cap) n (xs.take (i * 2) ++ ([.string k, .string u] ++ xs.drop ((i + 1) * 2))) := by
  have hxl : xs.length = n * 2 := ho.1
  obtain ⟨J, hJ⟩ : ∃ J, J = i + 1 := ⟨_, rfl⟩
  rw [← hJ]
  have hsz : (Tryz.prog.info? 55).map (·.size) = some 2 := by
    obtain ⟨i0, hi0, _, hz1, _⟩ := info_parts zrow_info
    rw [hi0]; simp [hz1]
  have hcpA : ∀ W : World, W.heap = w.heap → ∀ ty dc, (Builtin.copy_ #[22, 22] ty #[.slice (some ⟨g, i * 2, none⟩) (n - i) dc, .slice (some ⟨vb, 0, none⟩) 1 vc]).run Tryz.prog W = .ok (goInt (Nat.min 1 (n - i))) (W.setCells g (i * 2) [.string k, .string u]) := fun W hW ty dc =>
    run_copy_k W _ _ ty 55 2 g (i * 2) (n - i) dc ⟨vb, 0, none⟩ 1 vc _ Tryz.underlying22 hsz (by rw [show Nat.min 1 (n - i) = 1 by simp only [Nat.min_def]; split <;> omega]; rfl)
      (fun j x hj => by rw [World.cell?_of_block (w := w) (by rw [hW])]; exact row_src h0 h1 j x hj)
      (fun j hj => (own_there (own_heap hW ho) (i * 2 + j) (by simp at hj; omega)).1) (fun j hj => (own_there (own_heap hW ho) (i * 2 + j) (by simp at hj; omega)).2) (row_one2 k u)
  have hdl : (xs.drop (J * 2)).length = (n - J) * 2 := by rw [List.length_drop, hxl]; omega
  obtain ⟨mv, hmv⟩ : ∃ mv, mv = xs.drop (J * 2) := ⟨_, rfl⟩
  rw [← hmv] at hdl
  have hcpB : ∀ W2 : World, W2.ownsRow B 55 2 (.slice (some ⟨g, 0, none⟩) n cap) n (setL xs (i * 2) [.string k, .string u]) → ∀ ty dc sc, (Builtin.copy_ #[22, 22] ty #[.slice (some ⟨g, J * 2, none⟩) (n - J) dc, .slice (some ⟨g, J * 2, none⟩) (n - J) sc]).run Tryz.prog W2 = .ok (goInt (Nat.min (n - J) (n - J))) (W2.setCells g (J * 2) mv) := fun W2 h2 ty dc sc =>
    run_copy_k W2 _ _ ty 55 2 g (J * 2) (n - J) dc ⟨g, J * 2, none⟩ (n - J) sc mv Tryz.underlying22 hsz (by rw [hdl]; congr 1; simp only [Nat.min_def]; split <;> omega)
      (fun j x hj => by
        have hjl : j < mv.length := (List.getElem?_eq_some_iff.1 hj).1
        rw [hmv, List.getElem?_drop] at hj
        rw [Addr.add_lit, h2.cellAt (J * 2 + j) (by omega), setL_hi _ _ _ _ (by simp only [List.length_cons, List.length_nil]; omega)]
        exact hj)
      (fun j hj => (own_there h2 (J * 2 + j) (by omega)).1) (fun j hj => (own_there h2 (J * 2 + j) (by omega)).2) (fun x hx => hone x (by rw [hmv] at hx; exact List.mem_of_mem_drop hx))
  have hcl : ∀ (W : World) ty p c, (Builtin.clear_ #[22] ty #[.slice p 0 c]).run Tryz.prog W = .ok (.tuple #[]) W := fun W ty p c => by
    cases p <;> simp [Builtin.clear_, run_underlying Tryz.underlying22]
  have HE : Hid (∀ W : World, W.heap = w.heap → W.os = w.os → W.tape = w.tape → W.output = w.output → ((W.setCells g (i * 2) [.string k, .string u]).drew.setCells g (J * 2) mv).ownsRow B 55 2 (.slice (some ⟨g, 0, none⟩) n cap) n (xs.take (i * 2) ++ ([.string k, .string u] ++ xs.drop (J * 2))) ∧ w.grownBy ((W.setCells g (i * 2) [.string k, .string u]).drew.setCells g (J * 2) mv) (some g)) := fun W hW h1 h2 h3 => by
    have r1 := own_setCells [.string k, .string u] (i * 2) W _ (own_heap hW ho)
    have r1d : (W.setCells g (i * 2) [.string k, .string u]).drew.ownsRow B 55 2 (.slice (some ⟨g, 0, none⟩) n cap) n (setL xs (i * 2) [.string k, .string u]) := r1.1
    have r2 := own_setCells mv (J * 2) _ _ r1d
    refine ⟨?_, ?_⟩
    · have := r2.1
      rw [hmv, hJ, put_cells xs _ i n hxl rfl (by omega)] at this
      rw [hmv, hJ]
      exact this
    · have e1 := r1.2
      have e2 : (W.setCells g (i * 2) [.string k, .string u]).grownBy ((W.setCells g (i * 2) [.string k, .string u]).drew.setCells g (J * 2) mv) (some g) := ⟨r2.2.os, r2.2.tape, r2.2.output, r2.2.size, r2.2.block⟩
      have e0 : w.grownBy W (some g) := ⟨h1, h2, h3, by rw [hW]; exact Nat.le_refl _, fun q _ _ => by rw [hW]⟩
      exact (e0.trans e1).trans e2
  have HB2 : Hid (∀ W : World, W.heap = w.heap → (W.setCells g (i * 2) [.string k, .string u]).drew.ownsRow B 55 2 (.slice (some ⟨g, 0, none⟩) n cap) n (setL xs (i * 2) [.string k, .string u])) := fun W hW => (own_setCells [.string k, .string u] (i * 2) W _ (own_heap hW ho)).1
  have k1 : ¬ (i : Int) = (J : Int) := by omega
  have k2 : (i : Int) ≤ (n : Int) := by omega
  have k3 : (n : Int) ≤ (cap : Int) := by omega
  have k4 : (i : Int) ≤ (cap : Int) := by omega
  have k5 : ¬ (J : Int) = (n : Int) := by omega
  have k6 : (i : Int) ≤ (J : Int) := by omega
  have k7 : (J : Int) ≤ (n : Int) := by omega
  have k8 : (J : Int) ≤ (cap : Int) := by omega
  have k0 : (i : Int) + 1 = (J : Int) := by omega
  have k9 : IntKind.i64.wrap (J : Int) = (J : Int) := by rw [IntKind.wrap_i64]; omega
  have k10 : (0 : Int) ≤ (J : Int) := Int.natCast_nonneg _
  have k11 : (J : Int) + ((n - J : Nat) : Int) = (n : Int) := by omega
  have k12 : IntKind.i64.wrap (n : Int) = (n : Int) := by rw [IntKind.wrap_i64]; omega
  have k13 : ¬ (cap : Int) < (n : Int) := by omega
  have k14 : ¬ cap = i := by omega
  have k15 : ¬ cap = J := by omega
  have k16 : (0 : Int) ≤ (i : Int) := Int.natCast_nonneg _
  have k17 : (i : Int) + 1 + ((n - J : Nat) : Int) = (n : Int) := by omega
  have HCA := hide hcpA
  have HCB := hide hcpB
  clear ho hone h0 h1 hmv hdl hxl hJ hcpA hcpB
  go_enter Tryz.func143, Tryz.ntmps143
  go_wp2
  go_quiet (fail)
  have hA := HCA.out (w.drewN nq) rfl
  go_wp2
  clear hA
  have hB := HCB.out ((w.drewN nq).setCells g (i * 2) [.string k, .string u]).drew (HB2.out (w.drewN nq) rfl)
  go_region_law (fail)
  go_wp2
  all_goals
    go_ret
    first
    | exact ⟨_, rfl, (HE.out (w.drewN nq) rfl rfl rfl rfl).1, (HE.out (w.drewN nq) rfl rfl rfl rfl).2⟩
    | (have h1 := HE.out (w.drewN nq) rfl rfl rfl rfl
       have e : cap = n := by assumption
       rw [e] at h1
       exact ⟨_, rfl, h1.1, h1.2⟩)
theorem rowReplace (B g cap i n vb vc : Nat) (k u : ByteArray) (xs : List Value) (w : World) (ho : w.ownsRow B 55 2 (.slice (some ⟨g, 0, none⟩) n cap) n xs) (hB : B ≤ w.heap.size) (hone : ∀ x ∈ xs, x.oneCell' = true) (h0 : w.cell? ⟨vb, 0, none⟩ = some (.string k)) (h1 : w.cell? ⟨vb, 1, none⟩ = some (.string u))
    (hi : i < n) (hn : n ≤ 1000000) (hnc : n ≤ cap) (hc63 : cap ≤ 9223372036854775807) :
    Calls Tryz.prog 143 #[.slice (some ⟨g, 0, none⟩) n cap, .int .i64 i, .int .i64 ((i + 1 : Nat) : Int), .slice (some ⟨vb, 0, none⟩) 1 vc] w fun e w' => InsAt w w' e B (.slice (some ⟨g, 0, none⟩) n cap) n (xs.take (i * 2) ++ ([.string k, .string u] ++ xs.drop ((i + 1) * 2))) := by
  rcases Nat.eq_or_lt_of_le (show i + 1 ≤ n from hi) with e | e
  · have := rowReplace_last B g cap i n vb vc k u xs w ho hB h0 h1 e hn hnc
    rwa [← e] at this ⊢
  · exact rowReplace_mid B g cap i n vb vc k u xs w ho hone h0 h1 e hn hnc hc63
end Go.Proofs.YtighpalbodhfeaaGreatDoor

/-
  What view.lay makes of rows of its caller's own: a change laid over them. Nothing else that was there is changed.
-/
namespace Go.Proofs.YtighpalbodhfeaaGreatDoor
open Go.RowKit Go.Joins Go.Shelf
attribute [local go_sem ↓] Go.wp_at_zero Go.wp_at_succ

theorem cellPz_one (l : List (ByteArray × ByteArray)) : ∀ u ∈ l.flatMap cellP, u.oneCell' = true := by
  intro u hu
  obtain ⟨r, _, hu⟩ := List.mem_flatMap.1 hu
  simp [cellP] at hu
  rcases hu with rfl | rfl <;> rfl
theorem cellP_take (l : List (ByteArray × ByteArray)) (i : Nat) : (l.flatMap cellP).take (i * 2) = (l.take i).flatMap cellP := by
  induction l generalizing i with
  | nil => simp
  | cons r l ih =>
    match i with
    | 0 => simp
    | i + 1 =>
      rw [List.flatMap_cons, List.take_succ_cons, List.flatMap_cons, ← ih i]
      show List.take ((i + 1) * 2) (Value.string r.1 :: Value.string r.2 :: l.flatMap cellP) = _
      rw [show (i + 1) * 2 = i * 2 + 1 + 1 by omega, List.take_succ_cons, List.take_succ_cons]
      rfl
theorem cellP_drop (l : List (ByteArray × ByteArray)) (i : Nat) : (l.flatMap cellP).drop (i * 2) = (l.drop i).flatMap cellP := by
  induction l generalizing i with
  | nil => simp
  | cons r l ih =>
    match i with
    | 0 => simp
    | i + 1 =>
      rw [List.flatMap_cons, List.drop_succ_cons, ← ih i]
      show List.drop ((i + 1) * 2) (Value.string r.1 :: Value.string r.2 :: l.flatMap cellP) = _
      rw [show (i + 1) * 2 = i * 2 + 1 + 1 by omega, List.drop_succ_cons, List.drop_succ_cons]
set_option maxHeartbeats 400000 in
theorem rowDelete_none (v : Value) (B i n : Nat) (xs : List Value) (w : World) (ho : w.ownsRow B 55 2 v n xs) (hi : i ≤ n) (hn : n ≤ 1000000) :
    Calls Tryz.prog 142 #[v, .int .i64 i, .int .i64 i] w fun e w' => e = .returned v ∧ w' = w := by
  rcases own_form ho with ⟨rfl, rfl⟩ | ⟨g, cap, rfl, _, _, hc, hm⟩
  · have e : i = 0 := by omega
    subst e
    clear ho
    go_enter Tryz.func142, Tryz.ntmps142
    go_wp2
    go_ret
    exact ⟨rfl, rfl⟩
  · have h1 : (i : Int) ≤ (n : Int) := by omega
    have h2 : (n : Int) ≤ (cap : Int) := by omega
    unfold maxLen at hm
    clear ho
    go_enter Tryz.func142, Tryz.ntmps142
    go_wp2
    all_goals
      go_ret
      exact ⟨rfl, rfl⟩
set_option maxRecDepth 4000 in
set_option maxHeartbeats 2000000 in
theorem rowReplace_none (B i n vb vc : Nat) (v : Value) (k u : ByteArray) (xs : List Value) (w : World) (ho : w.ownsRow B 55 2 v n xs) (hB : B ≤ w.heap.size) (hone : ∀ x ∈ xs, x.oneCell' = true) (h0 : w.cell? ⟨vb, 0, none⟩ = some (.string k)) (h1 : w.cell? ⟨vb, 1, none⟩ = some (.string u))
    (hvb : v.ownBlock ≠ some vb) (tA : TypeId) (kA : Nat) (hsa : w.shape? vb = some (tA, kA)) (hfa : ∀ j, w.frozen? ⟨vb, j, none⟩ = false) (hi : i ≤ n) (hn : n ≤ 1000000) :
    Calls Tryz.prog 143 #[v, .int .i64 i, .int .i64 i, .slice (some ⟨vb, 0, none⟩) 1 vc] w fun e w' => InsAt w w' e B v (n + 1) (xs.take (i * 2) ++ ([.string k, .string u] ++ xs.drop (i * 2))) := by
  have HI := hide (rowInsert B i n vb vc v k u xs w ho hB hone h0 h1 hvb tA kA hsa hfa hi hn)
  rcases own_form ho with ⟨rfl, rfl⟩ | ⟨g, cap, rfl, _, _, hc, hm⟩
  · have e : i = 0 := by omega
    subst e
    clear ho hone h0 h1 hsa hfa
    go_enter Tryz.func143, Tryz.ntmps143
    go_wp2_with (go_at_call 162; refine HI.out.mono ?_; rintro e w1 ⟨v', rfl, ho1, hg1⟩; have HO := hide ho1; have HG := hide hg1; clear ho1 hg1)
    go_ret
    exact ⟨_, rfl, HO.out, HG.out⟩
  · have e1 : (i : Int) ≤ (n : Int) := by omega
    have e2 : (n : Int) ≤ (cap : Int) := by omega
    have e3 : (i : Int) ≤ (cap : Int) := by omega
    unfold maxLen at hm
    clear ho hone h0 h1 hsa hfa
    go_enter Tryz.func143, Tryz.ntmps143
    go_wp2_with (go_at_call 162; refine HI.out.mono ?_; rintro e w1 ⟨v', rfl, ho1, hg1⟩; have HO := hide ho1; have HG := hide hg1; clear ho1 hg1)
    all_goals
      go_ret
      exact ⟨_, rfl, HO.out, HG.out⟩
/-- behind a change laid over rows -/
def LaidAt (w w' : World) (e : Ending) (B : Nat) (l : List (ByteArray × ByteArray)) : Prop := ∃ v', e = .returned v' ∧ ownP w' B v' l ∧ Below B w w'
theorem laid_same {w w' : World} {e : Ending} {B : Nat} {l : List (ByteArray × ByteArray)} {v : Value} (ho : ownP w B v l) (hB : B ≤ w.heap.size) (hb : Below w.heap.size w w') (he : e = .returned v) : LaidAt w w' e B l := ⟨v, he, own_on ho hb, hb.mono hB⟩
theorem laid_ins {w w1 w' : World} {e : Ending} {B n : Nat} {l : List (ByteArray × ByteArray)} {v : Value} {xs ys : List Value} (ho : w1.ownsRow B 55 2 v n xs) (hB : B ≤ w.heap.size) (hb : Below w.heap.size w w1) {m : Nat} (hi : InsAt w1 w' e B v m ys) (hm : m = l.length) (hy : ys = l.flatMap cellP) : LaidAt w w' e B l := by
  obtain ⟨v', rfl, h1, h2⟩ := hi
  subst hy hm
  exact ⟨v', rfl, h1, (hb.mono hB).grown h2 (Nat.le_trans hB hb.size) fun k e => (World.ownsRow.lt ho k e).1⟩
theorem shape_new (w : World) (C : Array Value) (t : TypeId) : (w.alloc (.cells C t)).shape? w.heap.size = some (t, C.size) := by unfold World.shape?; rw [Go.heap_alloc_new]
set_option maxRecDepth 4000 in
set_option maxHeartbeats 4000000 in
theorem lay_any (l : List (ByteArray × ByteArray)) (v : Value) (B : Nat) (c : Chg) (w : World) (ho : ownP w B v l) (hB : B ≤ w.heap.size) (hr : riseP l) (hn : l.length ≤ 100000) :
    Calls Tryz.prog 118 #[v, .agg #[.string c.key, .string c.val, .bool c.gone]] w fun e w' => LaidAt w w' e B (layR l c) := by
  have HO := hide ho
  have HR := hide hr
  have hB0 := below_alloc1 w (Obj.cells #[Value.string c.key, Value.string c.val, Value.bool c.gone] 84)
  have a0 : (w.alloc (Obj.cells #[Value.string c.key, Value.string c.val, Value.bool c.gone] 84)).cell? ⟨w.heap.size, 0, none⟩ = some (.string c.key) := cell_new _ _ _ 0
  have a1 : (w.alloc (Obj.cells #[Value.string c.key, Value.string c.val, Value.bool c.gone] 84)).cell? ⟨w.heap.size, 1, none⟩ = some (.string c.val) := cell_new _ _ _ 1
  have a2 : (w.alloc (Obj.cells #[Value.string c.key, Value.string c.val, Value.bool c.gone] 84)).cell? ⟨w.heap.size, 2, none⟩ = some (.bool c.gone) := cell_new _ _ _ 2
  have HB0 := hide hB0
  have hple := placeR_le l c.key
  have hfl : foundR l c.key = true → placeR l c.key < l.length := foundR_lt
  have HLL : Hid (layR l c = l.take (placeR l c.key) ++ (if c.gone then [] else [(c.key, c.val)]) ++ l.drop (if foundR l c.key then placeR l c.key + 1 else placeR l c.key)) := rfl
  obtain ⟨va, vcap, rfl⟩ : ∃ ao cap, v = .slice ao l.length cap := by
    obtain ⟨ao, cap, e, _⟩ := ownP_held ho
    exact ⟨ao, cap, e⟩
  have HPL := fun W (hb : Below w.heap.size w W) => hide (vplace_own l _ B c.key W (own_on HO.out hb) hr (by omega))
  clear ho hr hB0
  generalize placeR l c.key = p at *
  generalize foundR l c.key = f at *
  generalize hgone : c.gone = gn at *
  rw [HLL.out]
  have hlow := fun k (e : (Value.slice va l.length vcap).ownBlock = some k) => (World.ownsRow.lt HO.out k e).2
  cases f
  · cases gn
    · -- laid in
      simp only [Bool.false_eq_true, if_false]
      go_enter Tryz.func118, Tryz.ntmps118
      go_wp2_with (first
        | (go_at_call 141; refine (HPL _ HB0.out).out.mono ?_; rintro e w1 ⟨rfl, hb1⟩; replace a0 := cell_on hb1 a0; replace a1 := cell_on hb1 a1; replace a2 := cell_on hb1 a2; have HB1 := hide (below_on HB0.out (Nat.le_refl _) hb1); have hs1 := HB1.out.size; have HBX := hide (below_on HB1.out (Nat.le_refl _) (below_alloc1 w1 (Obj.cells #[Value.string c.key, Value.string c.val] 55))); clear hb1))
      have HRP := hide (rowReplace_none B p l.length w1.heap.size 1 (Value.slice va l.length vcap) c.key c.val (l.flatMap cellP) _ (own_on HO.out HBX.out) (Nat.le_trans hB HBX.out.size) (cellPz_one l) (cell_new _ _ _ 0) (cell_new _ _ _ 1) (fun e => by have := hlow _ e; omega) 55 2 (shape_new _ _ _) (fun j => frozen_new _ _ _ j) hple (by omega))
      go_wp2_with (first
        | (go_at_call 143; refine HRP.out.mono ?_; rintro e w2 ⟨v', rfl, ho2, hg2⟩; have HI : Hid (InsAt (w1.alloc (Obj.cells #[Value.string c.key, Value.string c.val] 55)) w2 (.returned v') B (Value.slice va l.length vcap) (l.length + 1) ((l.flatMap cellP).take (p * 2) ++ ([.string c.key, .string c.val] ++ (l.flatMap cellP).drop (p * 2)))) := ⟨v', rfl, ho2, hg2⟩; clear ho2 hg2))
      go_ret
      exact laid_ins (own_on HO.out HBX.out) hB HBX.out HI.out (by simp; omega) (by rw [cellP_take, cellP_drop]; simp [cellP])
    · simp only [Bool.false_eq_true, if_false, if_true]
      go_enter Tryz.func118, Tryz.ntmps118
      go_wp2_with (first
        | (go_at_call 141; refine (HPL _ HB0.out).out.mono ?_; rintro e w1 ⟨rfl, hb1⟩; replace a0 := cell_on hb1 a0; replace a1 := cell_on hb1 a1; replace a2 := cell_on hb1 a2; have HB1 := hide (below_on HB0.out (Nat.le_refl _) hb1); clear hb1)
        | (go_at_call 142; refine (rowDelete_none _ B p l.length (l.flatMap cellP) _ (own_on HO.out HB1.out) hple (by omega)).mono ?_; rintro e w2 ⟨rfl, rfl⟩))
      go_ret
      exact laid_same (by rw [List.append_nil, List.take_append_drop]; exact HO.out) hB HB1.out rfl
  · have hpl := hfl rfl
    obtain ⟨g, hva, hcl, hc63⟩ : ∃ g, va = some ⟨g, 0, none⟩ ∧ l.length ≤ vcap ∧ vcap ≤ 9223372036854775807 := by
      rcases own_form HO.out with ⟨_, h0⟩ | ⟨g, cap, e, _, _, h1, h2⟩
      · omega
      · cases e; exact ⟨g, rfl, h1, by unfold maxLen at h2; omega⟩
    subst hva
    have e1 : ((p + 1 : Nat) : Int) = (p : Int) + 1 := by omega
    cases gn
    · simp only [Bool.false_eq_true, if_false, if_true]
      go_enter Tryz.func118, Tryz.ntmps118
      go_wp2_with (first
        | (go_at_call 141; refine (HPL _ HB0.out).out.mono ?_; rintro e w1 ⟨rfl, hb1⟩; replace a0 := cell_on hb1 a0; replace a1 := cell_on hb1 a1; replace a2 := cell_on hb1 a2; have HB1 := hide (below_on HB0.out (Nat.le_refl _) hb1); have hs1 := HB1.out.size; have HBX := hide (below_on HB1.out (Nat.le_refl _) (below_alloc1 w1 (Obj.cells #[Value.string c.key, Value.string c.val] 55))); clear hb1))
      have HRP := hide (rowReplace B g vcap p l.length w1.heap.size 1 c.key c.val (l.flatMap cellP) _ (own_on HO.out HBX.out) (Nat.le_trans hB HBX.out.size) (cellPz_one l) (cell_new _ _ _ 0) (cell_new _ _ _ 1) hpl (by omega) hcl hc63)
      rw [e1] at HRP
      go_wp2_with (first
        | (go_at_call 143; refine HRP.out.mono ?_; rintro e w2 ⟨v', rfl, ho2, hg2⟩; have HI : Hid (InsAt (w1.alloc (Obj.cells #[Value.string c.key, Value.string c.val] 55)) w2 (.returned v') B (Value.slice (some ⟨g, 0, none⟩) l.length vcap) l.length ((l.flatMap cellP).take (p * 2) ++ ([.string c.key, .string c.val] ++ (l.flatMap cellP).drop ((p + 1) * 2)))) := ⟨v', rfl, ho2, hg2⟩; clear ho2 hg2))
      go_ret
      exact laid_ins (own_on HO.out HBX.out) hB HBX.out HI.out (by simp; omega) (by rw [cellP_take, cellP_drop]; simp [cellP])
    · simp only [if_true]
      go_enter Tryz.func118, Tryz.ntmps118
      go_wp2_with (first
        | (go_at_call 141; refine (HPL _ HB0.out).out.mono ?_; rintro e w1 ⟨rfl, hb1⟩; replace a0 := cell_on hb1 a0; replace a1 := cell_on hb1 a1; replace a2 := cell_on hb1 a2; have HB1 := hide (below_on HB0.out (Nat.le_refl _) hb1); clear hb1))
      have HRP := hide (rowDelete B g vcap p l.length (l.flatMap cellP) _ (own_on HO.out HB1.out) (cellPz_one l) hpl (by omega) hcl hc63)
      rw [e1] at HRP
      go_wp2_with (first
        | (go_at_call 142; refine HRP.out.mono ?_; rintro e w2 ⟨rfl, ho2, hg2⟩; have HI : Hid (InsAt w1 w2 (.returned (.slice (some ⟨g, 0, none⟩) (l.length - 1) vcap)) B (Value.slice (some ⟨g, 0, none⟩) l.length vcap) (l.length - 1) ((l.flatMap cellP).take (p * 2) ++ (l.flatMap cellP).drop ((p + 1) * 2))) := ⟨_, rfl, ho2, hg2⟩; clear ho2 hg2))
      go_ret
      exact laid_ins (own_on HO.out HB1.out) hB HB1.out HI.out (by simp; omega) (by rw [cellP_take, cellP_drop]; simp)
end Go.Proofs.YtighpalbodhfeaaGreatDoor

/-
  What View.seen returns of a view: rows of a span as they were, with its own changes laid over them.
-/
namespace Go.Proofs.YtighpalbodhfeaaGreatDoor
open Go.RowKit Go.Joins Go.Shelf Go.WideShapes
attribute [local go_sem ↓] Go.wp_at_zero Go.wp_at_succ

theorem seenR_rise {s : ByteArray × ByteArray} : ∀ (cs : List Chg) {l : List (ByteArray × ByteArray)}, riseP l → riseP (seenR l s cs)
  | [], _, h => h
  | c :: cs, l, h => by
    refine seenR_rise cs (l := if hasS s.1 s.2 c.key then layR l c else l) ?_
    split
    · rw [lay_apply h]; exact apply1_rise h c
    · exact h
/-- what is seen: rows of one's own -/
def SeenAt (w w' : World) (e : Ending) (L : List (ByteArray × ByteArray)) : Prop := ∃ v, e = .returned v ∧ Below w.heap.size w w' ∧ ownP w' w.heap.size v L
set_option maxRecDepth 4000 in
set_option maxHeartbeats 4000000 in
theorem seen_any (s : ByteArray × ByteArray) {B0 B wb vb mb n : Nat} {now since : Int} {D : DataW Value} {g : ByteArray → Value} {R : ByteArray → List Ver} {cv rv : Value} {chs : List Chg} {rds P : List (ByteArray × ByteArray)} (w : World) (hv : VS w B0 vb mb now n D g R) (h : VW w B wb vb since cv rv chs rds)
    (hn : n ≤ 1000000) (hR : ∀ key, (R key).length ≤ 1000000) (hP : riseP P) (hPl : P.length ≤ 50000) (hPk : ∀ r ∈ P, r.1.size ≤ 1000000) (hs : sayR R since P) (hc : chs.length ≤ 100) :
    Calls Tryz.prog 78 #[.pointer (some ⟨wb, 0, none⟩), .agg #[.string s.1, .string s.2]] w fun e w' => SeenAt w w' e (seenR (inR P s) s chs) := by
  have HV := hide hv
  have HR := hide hR
  have HP := hide hP
  have HPK := hide hPk
  have HSY := hide hs
  have hB0 := below_alloc1 w (Obj.cells #[Value.string s.1, Value.string s.2] 91)
  have a0 : (w.alloc (Obj.cells #[Value.string s.1, Value.string s.2] 91)).cell? ⟨w.heap.size, 0, none⟩ = some (.string s.1) := cell_new _ _ _ 0
  have a1 : (w.alloc (Obj.cells #[Value.string s.1, Value.string s.2] 91)).cell? ⟨w.heap.size, 1, none⟩ = some (.string s.2) := cell_new _ _ _ 1
  have c0 := cell_on hB0 h.c0
  have c1 := cell_on hB0 h.c1
  have c2 := cell_on hB0 h.c2
  have HCH := hide (own_on h.chs hB0)
  obtain ⟨ca, cc, rfl⟩ := own_shape h.chs
  have HB0 := hide hB0
  have HV1 := hide (HV.out.on HB0.out)
  have hz : w.heap.size + 1 = (w.alloc (Obj.cells #[Value.string s.1, Value.string s.2] 91)).heap.size := by simp
  clear h hv hR hB0 hP hPk hs
  go_enter Tryz.func78, Tryz.ntmps78
  go_wp2
  generalize (w.alloc (Obj.cells #[Value.string s.1, Value.string s.2] 91)) = W0 at *
  go_region_held3 (fun w' => w'.cell? ⟨w.heap.size, 0, none⟩ = some (.string s.1) ∧ w'.cell? ⟨w.heap.size, 1, none⟩ = some (.string s.2) ∧ w'.cell? ⟨wb, 0, none⟩ = some (.pointer (some ⟨vb, 0, none⟩)) ∧ w'.cell? ⟨wb, 1, none⟩ = some (.int .i64 since))
    (first | go_keep | exact ⟨cell_on hb2 a0, cell_on hb2 a1, cell_on hb2 c0, cell_on hb2 c1⟩) (first | (go_at_call 116; refine (scan_any sort_says sort_nil s since _ (HV1.out.on (Below.refl _ _).drew) hn HR.out).mono ?_; rintro e w2 ⟨v, rfl, hb2', F, ho, hs, hnd, hm⟩; have hb2 := below_on (Below.refl _ W0).drew (Nat.le_refl _) hb2'; clear hb2'; dsimp only))
  all_goals
    have eF : F = inR P s := say_in HP.out HPK.out HSY.out hs hnd hm
    subst eF
    have HO := hide ho
    have HB2 := hide hb2
    replace c2 := cell_on hb2 c2
    clear ho hs hnd hm hb2 c0 c1
    obtain ⟨fa, fc, hfv⟩ := own_shape HO.out
    subst hfv
    go_wp2
    go_loopw [5, 23] (fun v5 i wr => ∃ k : Nat, k ≤ chs.length ∧ i = .int .i64 k ∧ ownP wr W0.heap.size v5 (seenR (inR P s) s (chs.take k)) ∧ Below W0.heap.size W0 wr) (fun _ i _ => chs.length - (intOf i).toNat)
    case atStart => exact ⟨0, Nat.zero_le _, rfl, HO.out, HB2.out⟩
    case round =>
      obtain ⟨k, hk, rfl, hown, hB⟩ := hrel
      have HW := hide hown
      have HBR := hide hB
      have hsz := hB.size
      clear hown hB HO HB2
      by_cases hlt : k < chs.length
      · have hlt' : (k : Int) < (chs.length : Int) := by omega
        rcases own_form HCH.out with ⟨_, h0⟩ | ⟨cb, cap', ecv, _⟩
        · omega
        cases ecv
        have hch : chgsAt W0 cb 0 chs := chgs_of_cells chs 0 fun j u hj => by
          have := World.ownsRow.cells HCH.out (g := cb) rfl j u hj
          rwa [Go.WideShapes.add_plain] at this
        obtain ⟨d0, d1, d2⟩ := hch k hlt
        rw [Nat.zero_add] at d0 d1 d2
        replace d0 := cell_on HBR.out d0
        replace d1 := cell_on HBR.out d1
        replace d2 := cell_on HBR.out d2
        have HST := hide (seenR_take (inR P s) s chs k hlt)
        have hlen : (seenR (inR P s) s (chs.take k)).length ≤ 100000 := by
          have h1 := seenR_len (inR P s) s (chs.take k)
          have h2 : (inR P s).length ≤ P.length := List.length_filter_le _ _
          have h3 := List.length_take_le k chs
          omega
        have HRS := hide (seenR_rise (s := s) (chs.take k) (show riseP (inR P s) from HP.out.filter _))
        clear hch
        generalize chs[k] = c at *
        have b0 := cell_on HBR.out a0
        have b1 := cell_on HBR.out a1
        generalize seenR (inR P s) s (chs.take k) = L at *
        have hBC := below_alloc1 wr (Obj.cells #[Value.string c.key, Value.string c.val, Value.bool c.gone] 84)
        have e0 : (wr.alloc (Obj.cells #[Value.string c.key, Value.string c.val, Value.bool c.gone] 84)).cell? ⟨wr.heap.size, 0, none⟩ = some (.string c.key) := cell_new _ _ _ 0
        have e1 : (wr.alloc (Obj.cells #[Value.string c.key, Value.string c.val, Value.bool c.gone] 84)).cell? ⟨wr.heap.size, 1, none⟩ = some (.string c.val) := cell_new _ _ _ 1
        have e2 : (wr.alloc (Obj.cells #[Value.string c.key, Value.string c.val, Value.bool c.gone] 84)).cell? ⟨wr.heap.size, 2, none⟩ = some (.bool c.gone) := cell_new _ _ _ 2
        have b0' := cell_on hBC b0
        have b1' := cell_on hBC b1
        replace HW := hide (own_on HW.out hBC)
        have HBC := hide (below_on HBR.out (Nat.le_refl _) (hBC.mono (by omega)))
        have hszc : W0.heap.size ≤ (wr.alloc (Obj.cells #[Value.string c.key, Value.string c.val, Value.bool c.gone] 84)).heap.size := by have := hBC.size; omega
        clear hBC
        cases hh : hasS s.1 s.2 c.key with
        | true =>
          rw [hh, if_pos rfl] at HST
          go_wp2_with (first
            | (go_at_call 117; refine (has_any s.1 s.2 c.key _).mono ?_; rintro e w3 ⟨rfl, hb3⟩; rw [hh]; replace HW := hide (own_on HW.out hb3); replace e0 := cell_on hb3 e0; replace e1 := cell_on hb3 e1; replace e2 := cell_on hb3 e2; have HB3 := hide (HBC.out.trans (hb3.mono hszc)); have hs3 := hb3.size; clear hb3)
            | (go_at_call 118; refine (lay_any L _ W0.heap.size c _ HW.out (by omega) HRS.out hlen).mono ?_; rintro e w4 ⟨v4, rfl, ho4, hb4⟩; have HO4 := hide ho4; have HB4 := hide (HB3.out.trans hb4); clear ho4 hb4))
          exact ⟨⟨k + 1, by omega, by go_num, by rw [HST.out]; exact HO4.out, HB4.out⟩, by simp [intOf]; omega⟩
        | false =>
          rw [hh, if_neg (by simp)] at HST
          go_wp2_with (first
            | (go_at_call 117; refine (has_any s.1 s.2 c.key _).mono ?_; rintro e w3 ⟨rfl, hb3⟩; rw [hh]; replace HW := hide (own_on HW.out hb3); have HB3 := hide (HBC.out.trans (hb3.mono hszc)); clear hb3))
          exact ⟨⟨k + 1, by omega, by go_num, by rw [HST.out]; exact HW.out, HB3.out⟩, by simp [intOf]; omega⟩
      · have ek : k = chs.length := by omega
        subst ek
        have hlt' : ¬ (chs.length : Int) < (chs.length : Int) := by omega
        rw [List.take_length] at HW
        obtain ⟨ua, uc, hu⟩ := own_shape HW.out
        subst hu
        go_wp2
        go_ret
        exact ⟨_, rfl, HB0.out.trans (HBR.out.mono (by omega)), own_low HW.out (by omega)⟩
end Go.Proofs.YtighpalbodhfeaaGreatDoor
