/-
  What slices.Insert makes of rows of one's own that have no room, and slices.Replace of one of them. Nothing else that was there is changed.
-/
import Derived.Test.YtpbhcjkllfonhaaGreatRowIns
import Derived.Deep.QuietTactic
namespace Go.Proofs.YtpbhcjkllfonhaaGreat
open Go.RowKit Go.Joins
attribute [local go_sem ↓] Go.wp_at_zero Go.wp_at_succ

set_option maxRecDepth 4000 in
set_option maxHeartbeats 8000000 in
theorem rowInsert_grow (B g cap i n vb vc : Nat) (k u : ByteArray) (xs : List Value) (w : World) (ho : w.ownsRow B 63 2 (.slice (some ⟨g, 0, none⟩) n cap) n xs) (hB : B ≤ w.heap.size) (hone : ∀ x ∈ xs, x.oneCell' = true) (h0 : w.cell? ⟨vb, 0, none⟩ = some (.string k)) (h1 : w.cell? ⟨vb, 1, none⟩ = some (.string u))
    (hi : i < n) (hn : n ≤ 1000000) (hnc : n ≤ cap) (hroom : cap < n + 1) :
    Calls Tryz.prog 81 #[.slice (some ⟨g, 0, none⟩) n cap, .int .i64 i, .slice (some ⟨vb, 0, none⟩) 1 vc] w fun e w' => InsAt w w' e B (.slice (some ⟨g, 0, none⟩) n cap) (n + 1) (xs.take (i * 2) ++ ([.string k, .string u] ++ xs.drop (i * 2))) := by
  obtain ⟨i0, hi0, hz0, hz1, hz2⟩ := info_parts zrow_info
  have hxl : xs.length = n * 2 := ho.1
  have hgw : g < w.heap.size := (World.ownsRow.lt ho g rfl).2
  have hvw : vb < w.heap.size := World.block_lt_of_cell? _ _ h0
  obtain ⟨J, hJ⟩ : ∃ J, J = i + 1 := ⟨_, rfl⟩
  have hsz : (Tryz.prog.info? 63).map (·.size) = some 2 := by rw [hi0]; simp [hz1]
  have hold : (Builtin.firstCells i0.size i (.slice (some ⟨g, 0, none⟩) i cap)).run Tryz.prog w.drew = .ok (xs.take (i * 2)).toArray w.drew := by
    rw [hz1]
    exact run_firstCells_some w.drew 2 i ⟨g, 0, none⟩ i cap (xs.take (i * 2)) (by rw [List.length_take]; omega) (fun j x hj => by
      have hjl : j < (xs.take (i * 2)).length := (List.getElem?_eq_some_iff.1 hj).1
      rw [List.length_take] at hjl
      rw [Addr.add_lit, Nat.zero_add]
      rw [List.getElem?_take, if_pos (by omega)] at hj
      show w.cell? _ = _
      rw [ho.cellAt j (by omega)]
      exact hj)
  have hrz : ∀ ty, (Builtin.append_ #[22, 3] ty #[.slice (some ⟨g, 0, none⟩) i cap, .int .i64 ((n : Int) + 1 - (i : Int))]).run Tryz.prog w =
      .ok (.slice (some ⟨w.heap.size, 0, none⟩) (n + 1) (grownCap w (n + 1) cap 63)) (w.drew.alloc (.cells ((xs.take (i * 2)).toArray ++ Builtin.zeroCells zrow.cells (n + 1 - i) ++ Builtin.zeroCells zrow.cells (grownCap w (n + 1) cap 63 - (n + 1))) 63)) := fun ty => by
    have h := Lib.run_append_grow_zeros (P := Tryz.prog) w 22 3 ty 63 i0 _ .i64 .i64 Tryz.underlying22 Tryz.underlying3 hi0 hz0 (some ⟨g, 0, none⟩) i cap (xs.take (i * 2)) hold (n + 1 - i) (by omega) (by omega) (by omega) (by omega) (by rw [hz2]; omega) (by rw [hz2, show i + (n + 1 - i) = n + 1 by omega]; exact growslice_fits hroom (by omega))
    rw [show i + (n + 1 - i) = n + 1 by omega] at h
    rw [show (n : Int) + 1 - (i : Int) = ((n + 1 - i : Nat) : Int) by omega]
    exact h
  have hG := grownCap_ge w (n + 1) cap 63
  have hM := grownCap_le_maxLen w (n + 1) cap 63 (by unfold maxLen; omega)
  generalize grownCap w (n + 1) cap 63 = G at hrz hG hM
  have hzl : ∀ q, (Builtin.zeroCells zrow.cells q).toList.length = q * 2 := fun q => by rw [Array.length_toList, size_zeroCells]; rfl
  have hold2 : (w.drew.alloc (.cells ((xs.take (i * 2)).toArray ++ Builtin.zeroCells zrow.cells (n + 1 - i) ++ Builtin.zeroCells zrow.cells (G - (n + 1))) 63)).ownsRow B 63 2 (.slice (some ⟨w.heap.size, 0, none⟩) (n + 1) G) (n + 1) (xs.take (i * 2) ++ (Builtin.zeroCells zrow.cells (n + 1 - i)).toList) := by
    refine ⟨by rw [List.length_append, hzl, List.length_take]; omega, .inr ⟨w.heap.size, G, _, rfl, hB, heap_alloc_new w.drew _, hG, hM, ?_, ?_⟩⟩
    · simp only [Array.size_append, size_zeroCells, List.size_toArray, List.length_take]
      have : zrow.cells.size = 2 := rfl
      rw [this]; omega
    · rw [Array.toList_append, Array.toList_append, List.take_left' (by rw [List.length_append, hzl]; simp only [List.length_take]; omega)]
  generalize hW1 : w.drew.alloc (.cells ((xs.take (i * 2)).toArray ++ Builtin.zeroCells zrow.cells (n + 1 - i) ++ Builtin.zeroCells zrow.cells (G - (n + 1))) 63) = W1 at hrz hold2
  have hb1 : w.grownBy W1 none := by
    rw [← hW1]
    exact ⟨rfl, rfl, rfl, by simp, fun q hq _ => Below.heap_alloc w.drew _ q hq⟩
  have c1 : ∀ a v, w.cell? a = some v → W1.cell? a = some v := fun a v h => hb1.cell h (by simp)
  obtain ⟨W2, hW2⟩ : ∃ W2, W2 = W1.setCells w.heap.size (i * 2) [.string k, .string u] := ⟨_, rfl⟩
  have r2 := own_setCells [.string k, .string u] (i * 2) W1 _ hold2
  rw [← hW2] at r2
  have hcpA : ∀ ty dc, (Builtin.copy_ #[22, 22] ty #[.slice (some ⟨w.heap.size, i * 2, none⟩) (n + 1 - i) dc, .slice (some ⟨vb, 0, none⟩) 1 vc]).run Tryz.prog W1 = .ok (goInt (Nat.min 1 (n + 1 - i))) W2 := fun ty dc => by
    rw [hW2]
    exact run_copy_k W1 _ _ ty 63 2 w.heap.size (i * 2) (n + 1 - i) dc ⟨vb, 0, none⟩ 1 vc _ Tryz.underlying22 hsz (by rw [show Nat.min 1 (n + 1 - i) = 1 by simp only [Nat.min_def]; split <;> omega]; rfl)
      (fun j x hj => c1 _ _ (row_src h0 h1 j x hj))
      (fun j hj => (own_there hold2 (i * 2 + j) (by simp at hj; omega)).1) (fun j hj => (own_there hold2 (i * 2 + j) (by simp at hj; omega)).2) (row_one2 k u)
  have hdl : (xs.drop (i * 2)).length = (n - i) * 2 := by rw [List.length_drop, hxl]; omega
  obtain ⟨mv, hmv⟩ : ∃ mv, mv = xs.drop (i * 2) := ⟨_, rfl⟩
  rw [← hmv] at hdl
  obtain ⟨W3, hW3⟩ : ∃ W3, W3 = W2.drew.setCells w.heap.size (J * 2) mv := ⟨_, rfl⟩
  have r2d : W2.drew.ownsRow B 63 2 (.slice (some ⟨w.heap.size, 0, none⟩) (n + 1) G) (n + 1) (setL (xs.take (i * 2) ++ (Builtin.zeroCells zrow.cells (n + 1 - i)).toList) (i * 2) [.string k, .string u]) := r2.1
  have r3 := own_setCells mv (J * 2) W2.drew _ r2d
  rw [← hW3] at r3
  have hcpB : ∀ ty dc sc, (Builtin.copy_ #[22, 22] ty #[.slice (some ⟨w.heap.size, J * 2, none⟩) (n + 1 - J) dc, .slice (some ⟨g, i * 2, none⟩) (n - i) sc]).run Tryz.prog W2.drew = .ok (goInt (Nat.min (n - i) (n + 1 - J))) W3 := fun ty dc sc => by
    rw [hW3]
    exact run_copy_k W2.drew _ _ ty 63 2 w.heap.size (J * 2) (n + 1 - J) dc ⟨g, i * 2, none⟩ (n - i) sc mv Tryz.underlying22 hsz (by rw [hdl]; congr 1; simp only [Nat.min_def]; split <;> omega)
      (fun j x hj => by
        have hjl : j < mv.length := (List.getElem?_eq_some_iff.1 hj).1
        rw [hmv, List.getElem?_drop] at hj
        rw [Addr.add_lit]
        show W2.cell? _ = _
        rw [hW2, World.cell?_setCells_out _ _ _ _ _ (fun h _ => by have : g = w.heap.size := h; omega)]
        refine c1 _ _ ?_
        rw [ho.cellAt (i * 2 + j) (by omega)]
        exact hj)
      (fun j hj => (own_there r2d (J * 2 + j) (by omega)).1) (fun j hj => (own_there r2d (J * 2 + j) (by omega)).2) (fun x hx => hone x (by rw [hmv] at hx; exact List.mem_of_mem_drop hx))
  have R : Hid (W3.ownsRow B 63 2 (.slice (some ⟨w.heap.size, 0, none⟩) (n + 1) G) (n + 1) (xs.take (i * 2) ++ ([.string k, .string u] ++ xs.drop (i * 2)))) := by
    have := r3.1
    rw [hmv, hJ, grow_cells xs _ _ i n hxl (hzl _) rfl hi] at this
    exact this
  have RG : Hid (w.grownBy W3 (some g)) := by
    have e2 : W1.grownBy W2 (some w.heap.size) := r2.2
    have e3 : W2.grownBy W3 (some w.heap.size) := ⟨r3.2.os, r3.2.tape, r3.2.output, r3.2.size, r3.2.block⟩
    refine ⟨(e3.os.trans e2.os).trans hb1.os, (e3.tape.trans e2.tape).trans hb1.tape, (e3.output.trans e2.output).trans hb1.output, Nat.le_trans hb1.size (Nat.le_trans e2.size e3.size), fun q hq _ => ?_⟩
    have hqn : some q ≠ some w.heap.size := fun e => by cases e; omega
    exact (e3.block q (Nat.lt_of_lt_of_le hq (Nat.le_trans hb1.size e2.size)) hqn).trans ((e2.block q (Nat.lt_of_lt_of_le hq hb1.size) hqn).trans (hb1.block q hq (by simp)))
  have z2 : ¬ ((i : Int) = (n : Int)) := by omega
  have z3 : (cap : Int) < (n : Int) + 1 := by omega
  have k0 : (i : Int) + 1 = (J : Int) := by omega
  have k1 : IntKind.i64.wrap ((i : Int) + 1) = (J : Int) := by rw [k0, IntKind.wrap_i64]; omega
  have k1' : IntKind.i64.wrap (J : Int) = (J : Int) := by rw [IntKind.wrap_i64]; omega
  have k2 : (0 : Int) ≤ (J : Int) := Int.natCast_nonneg _
  have k3 : (J : Int) ≤ (n : Int) + 1 := by omega
  have k4 : (i : Int) ≤ (n : Int) := by omega
  have k5 : (i : Int) ≤ (n : Int) + 1 := by omega
  have k6 : ¬ cap = i := by omega
  have k7 : ¬ G = J := by omega
  have k8 : ¬ G = i := by omega
  have hG63 : G ≤ 9223372036854775807 := by unfold maxLen at hM; omega
  have k9 : (n : Int) + 1 ≤ (G : Int) := by omega
  have k10 : i ≤ n := by omega
  have k11 : J ≤ n + 1 := by omega
  have k12 : (i : Int) ≤ (cap : Int) := by omega
  clear ho hone h0 h1 hold hold2 hb1 c1 r2 r2d r3 hW1 hW2 hW3 hmv hdl hxl hJ hzl hM hi0 hz0 hz1 hz2
  go_enter Tryz.func81, Tryz.ntmps81
  go_wp2_with (first
    | (at_builtin; refine Lib.wpList_append_run _ rfl _ _ _ _ rfl _ _ rfl rfl _ _ (hrz _) ?_)
    | (at_builtin; refine wpList_copy_runI _ rfl _ _ 22 22 rfl _ _ rfl rfl (hcpA _ _) ?_))
  go_region_law (refine step_copy_runI rfl _ _ 22 22 rfl _ _ (by simp [Act.eval, Act.put]) (by simp [Act.eval, Act.put]) (hcpB _ _ _) ?_)
  go_wp2
  go_ret
  exact ⟨_, rfl, R.out, RG.out⟩
theorem rowInsert (B i n vb vc : Nat) (v : Value) (k u : ByteArray) (xs : List Value) (w : World) (ho : w.ownsRow B 63 2 v n xs) (hB : B ≤ w.heap.size) (hone : ∀ x ∈ xs, x.oneCell' = true) (h0 : w.cell? ⟨vb, 0, none⟩ = some (.string k)) (h1 : w.cell? ⟨vb, 1, none⟩ = some (.string u))
    (hvb : v.ownBlock ≠ some vb) (tA : TypeId) (kA : Nat) (hsa : w.shape? vb = some (tA, kA)) (hfa : ∀ j, w.frozen? ⟨vb, j, none⟩ = false) (hi : i ≤ n) (hn : n ≤ 1000000) :
    Calls Tryz.prog 81 #[v, .int .i64 i, .slice (some ⟨vb, 0, none⟩) 1 vc] w fun e w' => InsAt w w' e B v (n + 1) (xs.take (i * 2) ++ ([.string k, .string u] ++ xs.drop (i * 2))) := by
  have hxl : xs.length = n * 2 := ho.1
  rcases Nat.eq_or_lt_of_le hi with rfl | hlt
  · rw [List.take_of_length_le (by omega), List.drop_eq_nil_of_le (by omega), List.append_nil]
    exact rowInsert_end B v i vb vc k u xs w ho hB h0 h1 hn
  · rcases own_form ho with ⟨rfl, rfl⟩ | ⟨g, cap, rfl, _, _, hc, hm⟩
    · omega
    · rcases Nat.lt_or_ge cap (n + 1) with hr | hr
      · exact rowInsert_grow B g cap i n vb vc k u xs w ho hB hone h0 h1 hlt hn hc hr
      · exact rowInsert_shift B g cap i n vb vc k u xs w ho hone h0 h1 (fun e => hvb (by rw [e]; rfl)) tA kA hsa hfa hlt hn hr (by unfold maxLen at hm; omega)
end Go.Proofs.YtpbhcjkllfonhaaGreat

/-
  What slices.Replace makes of rows of one's own: one row is laid in another one's place, or ahead of it. Nothing else that was there is changed.
-/
namespace Go.Proofs.YtpbhcjkllfonhaaGreat
open Go.RowKit Go.Joins
attribute [local go_sem ↓] Go.wp_at_zero Go.wp_at_succ

theorem own_heap {w W : World} {B : Nat} {e : TypeId} {size : Nat} {v : Value} {n : Nat} {xs : List Value} (h : W.heap = w.heap) (ho : w.ownsRow B e size v n xs) : W.ownsRow B e size v n xs := own_block ho fun k _ => by rw [h]
theorem put_cells (xs vs : List Value) (i n : Nat) (hx : xs.length = n * 2) (hv : vs.length = 2) (hi : i < n) : setL (setL xs (i * 2) vs) ((i + 1) * 2) (xs.drop ((i + 1) * 2)) = xs.take (i * 2) ++ (vs ++ xs.drop ((i + 1) * 2)) := by
  have e0 : i * 2 + vs.length = (i + 1) * 2 := by omega
  have e1 : setL xs (i * 2) vs = xs.take (i * 2) ++ vs ++ xs.drop ((i + 1) * 2) := by rw [setL_eq _ _ _ (by omega), e0]
  have hl : (xs.take (i * 2) ++ vs).length = (i + 1) * 2 := by rw [List.length_append, List.length_take, hv]; omega
  have e2 : (xs.take (i * 2) ++ vs ++ xs.drop ((i + 1) * 2)).drop ((i + 1) * 2 + (xs.drop ((i + 1) * 2)).length) = [] := List.drop_eq_nil_of_le (by rw [List.length_append, hl]; omega)
  rw [e1, setL_eq _ _ _ (by rw [List.length_append, hl]; omega), List.take_left' hl, e2, List.append_nil, List.append_assoc]
set_option maxRecDepth 4000 in
set_option maxHeartbeats 8000000 in
theorem rowReplace_last (B g cap i n vb vc : Nat) (k u : ByteArray) (xs : List Value) (w : World) (ho : w.ownsRow B 63 2 (.slice (some ⟨g, 0, none⟩) n cap) n xs) (hB : B ≤ w.heap.size) (h0 : w.cell? ⟨vb, 0, none⟩ = some (.string k)) (h1 : w.cell? ⟨vb, 1, none⟩ = some (.string u))
    (hi : i + 1 = n) (hn : n ≤ 1000000) (hnc : n ≤ cap) :
    Calls Tryz.prog 68 #[.slice (some ⟨g, 0, none⟩) n cap, .int .i64 i, .int .i64 n, .slice (some ⟨vb, 0, none⟩) 1 vc] w fun e w' => InsAt w w' e B (.slice (some ⟨g, 0, none⟩) n cap) n (xs.take (i * 2) ++ ([.string k, .string u] ++ xs.drop ((i + 1) * 2))) := by
  have hxl : xs.length = n * 2 := ho.1
  obtain ⟨v', w', hr, ho', hg⟩ := append_row B (.slice (some ⟨g, 0, none⟩) i cap) i (xs.take (i * 2)) w (own_shrink ho (m := i) (by omega)) hB vb vc k u h0 h1 (by omega)
  have e : xs.drop ((i + 1) * 2) = [] := List.drop_eq_nil_of_le (by omega)
  rw [e, List.append_nil]
  obtain ⟨va, vcap, rfl⟩ : ∃ ao c, v' = .slice ao (i + 1) c := by
    rcases own_form ho' with ⟨hv, h0⟩ | ⟨g', c', hv, _⟩
    · omega
    · exact ⟨_, _, hv⟩
  rw [hi] at ho' hr
  have HO := hide ho'
  have HG : Hid (w.grownBy w' (some g)) := hg
  have k1 : ¬ (i : Int) = (n : Int) := by omega
  have k2 : (i : Int) ≤ (n : Int) := by omega
  have k3 : (n : Int) ≤ (cap : Int) := by omega
  have k4 : (i : Int) ≤ (cap : Int) := by omega
  have k5 : ¬ (n : Int) < (n : Int) := by omega
  clear ho ho' hg h0 h1 hxl e hi
  go_enter Tryz.func68, Tryz.ntmps68
  go_wp2_with (at_builtin; refine Lib.wpList_append_run _ rfl _ _ _ _ rfl _ _ rfl rfl _ _ (hr _) ?_)
  all_goals
    go_ret
    exact ⟨_, rfl, HO.out, HG.out⟩
set_option maxRecDepth 4000 in
set_option maxHeartbeats 8000000 in
theorem rowReplace_mid (B g cap i n vb vc : Nat) (k u : ByteArray) (xs : List Value) (w : World) (ho : w.ownsRow B 63 2 (.slice (some ⟨g, 0, none⟩) n cap) n xs) (hone : ∀ x ∈ xs, x.oneCell' = true) (h0 : w.cell? ⟨vb, 0, none⟩ = some (.string k)) (h1 : w.cell? ⟨vb, 1, none⟩ = some (.string u))
    (hi : i + 1 < n) (hn : n ≤ 1000000) (hnc : n ≤ cap) (hc63 : cap ≤ 9223372036854775807) :
    Calls Tryz.prog 68 #[.slice (some ⟨g, 0, none⟩) n cap, .int .i64 i, .int .i64 ((i + 1 : Nat) : Int), .slice (some ⟨vb, 0, none⟩) 1 vc] w fun e w' => InsAt w w' e B (.slice (some ⟨g, 0, none⟩) n cap) n (xs.take (i * 2) ++ ([.string k, .string u] ++ xs.drop ((i + 1) * 2))) := by
  have hxl : xs.length = n * 2 := ho.1
  obtain ⟨J, hJ⟩ : ∃ J, J = i + 1 := ⟨_, rfl⟩
  rw [← hJ]
  have hsz : (Tryz.prog.info? 63).map (·.size) = some 2 := by
    obtain ⟨i0, hi0, _, hz1, _⟩ := info_parts zrow_info
    rw [hi0]; simp [hz1]
  have hcpA : ∀ W : World, W.heap = w.heap → ∀ ty dc, (Builtin.copy_ #[22, 22] ty #[.slice (some ⟨g, i * 2, none⟩) (n - i) dc, .slice (some ⟨vb, 0, none⟩) 1 vc]).run Tryz.prog W = .ok (goInt (Nat.min 1 (n - i))) (W.setCells g (i * 2) [.string k, .string u]) := fun W hW ty dc =>
    run_copy_k W _ _ ty 63 2 g (i * 2) (n - i) dc ⟨vb, 0, none⟩ 1 vc _ Tryz.underlying22 hsz (by rw [show Nat.min 1 (n - i) = 1 by simp only [Nat.min_def]; split <;> omega]; rfl)
      (fun j x hj => by rw [World.cell?_of_block (w := w) (by rw [hW])]; exact row_src h0 h1 j x hj)
      (fun j hj => (own_there (own_heap hW ho) (i * 2 + j) (by simp at hj; omega)).1) (fun j hj => (own_there (own_heap hW ho) (i * 2 + j) (by simp at hj; omega)).2) (row_one2 k u)
  have hdl : (xs.drop (J * 2)).length = (n - J) * 2 := by rw [List.length_drop, hxl]; omega
  obtain ⟨mv, hmv⟩ : ∃ mv, mv = xs.drop (J * 2) := ⟨_, rfl⟩
  rw [← hmv] at hdl
  have hcpB : ∀ W2 : World, W2.ownsRow B 63 2 (.slice (some ⟨g, 0, none⟩) n cap) n (setL xs (i * 2) [.string k, .string u]) → ∀ ty dc sc, (Builtin.copy_ #[22, 22] ty #[.slice (some ⟨g, J * 2, none⟩) (n - J) dc, .slice (some ⟨g, J * 2, none⟩) (n - J) sc]).run Tryz.prog W2 = .ok (goInt (Nat.min (n - J) (n - J))) (W2.setCells g (J * 2) mv) := fun W2 h2 ty dc sc =>
    run_copy_k W2 _ _ ty 63 2 g (J * 2) (n - J) dc ⟨g, J * 2, none⟩ (n - J) sc mv Tryz.underlying22 hsz (by rw [hdl]; congr 1; simp only [Nat.min_def]; split <;> omega)
      (fun j x hj => by
        have hjl : j < mv.length := (List.getElem?_eq_some_iff.1 hj).1
        rw [hmv, List.getElem?_drop] at hj
        rw [Addr.add_lit, h2.cellAt (J * 2 + j) (by omega), setL_hi _ _ _ _ (by simp only [List.length_cons, List.length_nil]; omega)]
        exact hj)
      (fun j hj => (own_there h2 (J * 2 + j) (by omega)).1) (fun j hj => (own_there h2 (J * 2 + j) (by omega)).2) (fun x hx => hone x (by rw [hmv] at hx; exact List.mem_of_mem_drop hx))
  have hcl : ∀ (W : World) ty p c, (Builtin.clear_ #[22] ty #[.slice p 0 c]).run Tryz.prog W = .ok (.tuple #[]) W := fun W ty p c => by
    cases p <;> simp [Builtin.clear_, run_underlying Tryz.underlying22]
  have HE : Hid (∀ W : World, W.heap = w.heap → W.os = w.os → W.tape = w.tape → W.output = w.output → ((W.setCells g (i * 2) [.string k, .string u]).drew.setCells g (J * 2) mv).ownsRow B 63 2 (.slice (some ⟨g, 0, none⟩) n cap) n (xs.take (i * 2) ++ ([.string k, .string u] ++ xs.drop (J * 2))) ∧ w.grownBy ((W.setCells g (i * 2) [.string k, .string u]).drew.setCells g (J * 2) mv) (some g)) := fun W hW h1 h2 h3 => by
    have r1 := own_setCells [.string k, .string u] (i * 2) W _ (own_heap hW ho)
    have r1d : (W.setCells g (i * 2) [.string k, .string u]).drew.ownsRow B 63 2 (.slice (some ⟨g, 0, none⟩) n cap) n (setL xs (i * 2) [.string k, .string u]) := r1.1
    have r2 := own_setCells mv (J * 2) _ _ r1d
    refine ⟨?_, ?_⟩
    · have := r2.1
      rw [hmv, hJ, put_cells xs _ i n hxl rfl (by omega)] at this
      rw [hmv, hJ]
      exact this
    · have e1 := r1.2
      have e2 : (W.setCells g (i * 2) [.string k, .string u]).grownBy ((W.setCells g (i * 2) [.string k, .string u]).drew.setCells g (J * 2) mv) (some g) := ⟨r2.2.os, r2.2.tape, r2.2.output, r2.2.size, r2.2.block⟩
      have e0 : w.grownBy W (some g) := ⟨h1, h2, h3, by rw [hW]; exact Nat.le_refl _, fun q _ _ => by rw [hW]⟩
      exact (e0.trans e1).trans e2
  have HB2 : Hid (∀ W : World, W.heap = w.heap → (W.setCells g (i * 2) [.string k, .string u]).drew.ownsRow B 63 2 (.slice (some ⟨g, 0, none⟩) n cap) n (setL xs (i * 2) [.string k, .string u])) := fun W hW => (own_setCells [.string k, .string u] (i * 2) W _ (own_heap hW ho)).1
  have k1 : ¬ (i : Int) = (J : Int) := by omega
  have k2 : (i : Int) ≤ (n : Int) := by omega
  have k3 : (n : Int) ≤ (cap : Int) := by omega
  have k4 : (i : Int) ≤ (cap : Int) := by omega
  have k5 : ¬ (J : Int) = (n : Int) := by omega
  have k6 : (i : Int) ≤ (J : Int) := by omega
  have k7 : (J : Int) ≤ (n : Int) := by omega
  have k8 : (J : Int) ≤ (cap : Int) := by omega
  have k0 : (i : Int) + 1 = (J : Int) := by omega
  have k9 : IntKind.i64.wrap (J : Int) = (J : Int) := by rw [IntKind.wrap_i64]; omega
  have k10 : (0 : Int) ≤ (J : Int) := Int.natCast_nonneg _
  have k11 : (J : Int) + ((n - J : Nat) : Int) = (n : Int) := by omega
  have k12 : IntKind.i64.wrap (n : Int) = (n : Int) := by rw [IntKind.wrap_i64]; omega
  have k13 : ¬ (cap : Int) < (n : Int) := by omega
  have k14 : ¬ cap = i := by omega
  have k15 : ¬ cap = J := by omega
  have k16 : (0 : Int) ≤ (i : Int) := Int.natCast_nonneg _
  have k17 : (i : Int) + 1 + ((n - J : Nat) : Int) = (n : Int) := by omega
  have HCA := hide hcpA
  have HCB := hide hcpB
  clear ho hone h0 h1 hmv hdl hxl hJ hcpA hcpB
  go_enter Tryz.func68, Tryz.ntmps68
  go_wp2
  go_quiet (fail)
  have hA := HCA.out (w.drewN nq) rfl
  go_wp2
  clear hA
  have hB := HCB.out ((w.drewN nq).setCells g (i * 2) [.string k, .string u]).drew (HB2.out (w.drewN nq) rfl)
  go_region_law (fail)
  go_wp2
  all_goals
    go_ret
    first
    | exact ⟨_, rfl, (HE.out (w.drewN nq) rfl rfl rfl rfl).1, (HE.out (w.drewN nq) rfl rfl rfl rfl).2⟩
    | (have h1 := HE.out (w.drewN nq) rfl rfl rfl rfl
       have e : cap = n := by assumption
       rw [e] at h1
       exact ⟨_, rfl, h1.1, h1.2⟩)
theorem rowReplace (B g cap i n vb vc : Nat) (k u : ByteArray) (xs : List Value) (w : World) (ho : w.ownsRow B 63 2 (.slice (some ⟨g, 0, none⟩) n cap) n xs) (hB : B ≤ w.heap.size) (hone : ∀ x ∈ xs, x.oneCell' = true) (h0 : w.cell? ⟨vb, 0, none⟩ = some (.string k)) (h1 : w.cell? ⟨vb, 1, none⟩ = some (.string u))
    (hi : i < n) (hn : n ≤ 1000000) (hnc : n ≤ cap) (hc63 : cap ≤ 9223372036854775807) :
    Calls Tryz.prog 68 #[.slice (some ⟨g, 0, none⟩) n cap, .int .i64 i, .int .i64 ((i + 1 : Nat) : Int), .slice (some ⟨vb, 0, none⟩) 1 vc] w fun e w' => InsAt w w' e B (.slice (some ⟨g, 0, none⟩) n cap) n (xs.take (i * 2) ++ ([.string k, .string u] ++ xs.drop ((i + 1) * 2))) := by
  rcases Nat.eq_or_lt_of_le (show i + 1 ≤ n from hi) with e | e
  · have := rowReplace_last B g cap i n vb vc k u xs w ho hB h0 h1 e hn hnc
    rwa [← e] at this ⊢
  · exact rowReplace_mid B g cap i n vb vc k u xs w ho hone h0 h1 e hn hnc hc63
end Go.Proofs.YtpbhcjkllfonhaaGreat
