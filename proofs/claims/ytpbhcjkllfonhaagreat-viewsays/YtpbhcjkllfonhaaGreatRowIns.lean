/-
  What slices.Delete, slices.Insert and slices.Replace make of rows of one's own: one row is taken out, laid in, or laid in another one's place. Nothing else that was there is changed.
-/
import Derived.Test.YtpbhcjkllfonhaaGreatViewPlace
import Derived.Test.YtpbhcjkllfonhaaGreatViewGet2
import Derived.Lib.AppendZerosOnto
import Derived.Lib.Overlaps
import Derived.Laws.Externs
import Derived.Deep.RegionLaw
namespace Go.Proofs.YtpbhcjkllfonhaaGreat
open Go.RowKit Go.Joins
attribute [local go_sem ↓] Go.wp_at_zero Go.wp_at_succ

abbrev zrow : Value := .agg #[.string ⟨#[]⟩, .string ⟨#[]⟩]
theorem zrow_info : (Tryz.prog.info? 63).map (fun i => (i.zero, i.size, i.bytes)) = some (some zrow, 2, 32) := by kernel_rfl
theorem zrow_zeros (n : Nat) : ∀ u ∈ (Builtin.zeroCells zrow.cells n).toList, u.oneCell' = true := by
  intro u hu
  simp [Builtin.zeroCells, Value.cells] at hu
  obtain ⟨i, _, rfl⟩ := hu
  rcases Nat.mod_two_eq_zero_or_one i with e | e <;> rw [e] <;> rfl
/-- cells of the middle of a row, taken out -/
theorem cut_cells (xs : List Value) (i n : Nat) (hx : xs.length = n * 2) (hi : i < n) (zs : List Value) : ((setL (setL xs (i * 2) (xs.drop ((i + 1) * 2))) ((n - 1) * 2) zs).take ((n - 1) * 2)) = xs.take (i * 2) ++ xs.drop ((i + 1) * 2) := by
  rw [setL_take_lo, setL_eq _ _ _ (by rw [List.length_drop]; omega), List.take_append_of_le_length (by rw [List.length_append, List.length_take, List.length_drop]; omega)]
  exact List.take_of_length_le (by rw [List.length_append, List.length_take, List.length_drop]; omega)
set_option maxRecDepth 4000 in
set_option maxHeartbeats 4000000 in
theorem rowDelete (B g cap i n : Nat) (xs : List Value) (w : World) (ho : w.ownsRow B 63 2 (.slice (some ⟨g, 0, none⟩) n cap) n xs) (h1 : ∀ u ∈ xs, u.oneCell' = true) (hi : i < n) (hn : n ≤ 1000000) (hcap : n ≤ cap) (hc63 : cap ≤ 9223372036854775807) :
    Calls Tryz.prog 67 #[.slice (some ⟨g, 0, none⟩) n cap, .int .i64 i, .int .i64 ((i + 1 : Nat) : Int)] w fun e w' =>
      e = .returned (.slice (some ⟨g, 0, none⟩) (n - 1) cap) ∧ w'.ownsRow B 63 2 (.slice (some ⟨g, 0, none⟩) (n - 1) cap) (n - 1) (xs.take (i * 2) ++ xs.drop ((i + 1) * 2)) ∧ w.grownBy w' (some g) := by
  obtain ⟨i0, hi0, hz0, hz1, hz2⟩ := info_parts zrow_info
  have hxl : xs.length = n * 2 := ho.1
  obtain ⟨m, hm⟩ : ∃ m, n = i + 1 + m := ⟨n - (i + 1), by omega⟩
  obtain ⟨K, hK⟩ : ∃ K, K = i + 1 := ⟨_, rfl⟩
  rw [← hK]
  obtain ⟨news, hnews⟩ : ∃ news, news = xs.drop (K * 2) := ⟨_, rfl⟩
  have hlen : news.length = m * 2 := by rw [hnews, List.length_drop, hxl]; omega
  have hdr : w.drew.ownsRow B 63 2 (.slice (some ⟨g, 0, none⟩) n cap) n xs := ho
  obtain ⟨A, hA, hsrc⟩ : ∃ A : Addr, (if cap = K then some (⟨g, 0, none⟩ : Addr) else some ⟨g, K * 2, none⟩) = some A ∧ Hid (∀ t u, news[t]? = some u → w.drew.cell? (A.add t) = some u) := by
    by_cases h : cap = K
    · refine ⟨⟨g, 0, none⟩, by simp [h], fun t u hu => ?_⟩
      have h0 : news.length = 0 := by omega
      rw [List.length_eq_zero_iff.1 h0] at hu
      simp at hu
    · refine ⟨⟨g, K * 2, none⟩, by simp [h], fun t u hu => ?_⟩
      have ht : t < m * 2 := by
        have := (List.getElem?_eq_some_iff.1 hu).1
        omega
      rw [Addr.add_lit, hdr.cellAt (K * 2 + t) (by omega), ← hu, hnews, List.getElem?_drop]
  have s2 : Hid (∀ u ∈ news, u.oneCell' = true) := fun u hu => h1 u (by rw [hnews] at hu; exact List.mem_of_mem_drop hu)
  have s3 : Hid (∀ t, t < news.length → (w.drew.cell? ⟨g, 0 + i * 2 + t, none⟩).isSome = true ∧ w.drew.frozen? ⟨g, 0 + i * 2 + t, none⟩ = false) := fun t ht => by
    have := own_there hdr (i * 2 + t) (by omega)
    simpa using this
  obtain ⟨W1, hW1⟩ : ∃ W1, W1 = w.drew.setCells g (0 + i * 2) news := ⟨_, rfl⟩
  have hW1' := hW1
  simp only [Nat.zero_add] at hW1'
  have r1 := own_setCells news (i * 2) w.drew xs hdr
  rw [← hW1'] at r1
  have hzv : ∀ w, (zeroValue 63).run Tryz.prog w = .ok zrow w := Tryz.zeroValue63
  have hz2' : zrow.cells.size = 2 := rfl
  have hq : i + m = n - 1 := by omega
  have hcl : ∀ ty, (Builtin.clear_ #[22] ty #[.slice (some ⟨g, (i + m) * 2, none⟩) 1 (cap - (i + m))]).run Tryz.prog W1 = .ok (.tuple #[]) (W1.setCells g ((i + m) * 2) (Builtin.zeroCells zrow.cells 1).toList) :=
    fun ty => run_clear_cells W1 _ _ ty _ Tryz.underlying22 hzv g ((i + m) * 2) _ _ (by omega) (zrow_zeros _) (fun j hj => by rw [hz2'] at hj; exact (own_there r1.1 ((i + m) * 2 + j) (by omega)).1) (fun j hj => by rw [hz2'] at hj; exact (own_there r1.1 ((i + m) * 2 + j) (by omega)).2)
  have r2 := own_setCells (Builtin.zeroCells zrow.cells 1).toList ((i + m) * 2) W1 _ r1.1
  have r3 := own_shrink r2.1 (m := i + m) (by omega)
  rw [hnews, hK, hq, cut_cells xs i n hxl hi _] at r3
  rw [← hq] at r3
  have R3 := hide r3
  have R4 : Hid (w.grownBy (W1.setCells g ((i + m) * 2) (Builtin.zeroCells zrow.cells 1).toList) (some g)) := (show w.grownBy W1 (some g) from ⟨r1.2.os, r1.2.tape, r1.2.output, r1.2.size, r1.2.block⟩).trans r2.2
  rw [← hq]
  generalize hW2 : W1.setCells g ((i + m) * 2) (Builtin.zeroCells zrow.cells 1).toList = W2 at hcl R3 R4
  have HL := hide hlen
  have HW : Hid (W1 = w.drew.setCells g (0 + i * 2) news) := hW1
  have HK := hide hK
  have HM := hide hm
  have k0 : (0 : Int) ≤ (i : Int) := Int.natCast_nonneg _
  have k1 : (i : Int) ≤ (K : Int) := by omega
  have k2 : (K : Int) ≤ (n : Int) := by omega
  have k3 : ¬ (i : Int) = (K : Int) := by omega
  have k4 : ¬ cap = i + m := by omega
  have k5 : (n : Int) ≤ (cap : Int) := by omega
  have k6 : i ≤ cap := by omega
  have k7 : K ≤ cap := by omega
  have k8 : n - (i + m) = 1 := by omega
  have k9 : (i : Int) + (m : Int) ≤ (n : Int) := by omega
  have k10 : n - K = m := by omega
  have k11 : (K : Int) ≤ (cap : Int) := by omega
  have k12 : (i : Int) ≤ (cap : Int) := by omega
  have k13 : i + m ≤ cap := by omega
  clear hnews hlen hdr hW1 hW1' r1 r2 r3 ho h1 hxl hW2 hz2' hK hm hq hi
  go_enter Tryz.func67, Tryz.ntmps67
  go_wp2_with fail
  go_region_law (refine step_append_room rfl (.tmp 22) (.tmp 25) 22 rfl 63 i0 2 Tryz.underlying22 hi0 hz1 g 0 i cap (by simp [Act.eval, Act.put]) A m (cap - K) news (by simp [Act.eval, Act.put, *]) HL.out hsrc.out s2.out (by omega) s3.out ?_; rw [← HW.out])
  go_wp2
  go_ret
  exact ⟨rfl, by rw [HK.out] at *; exact R3.out, R4.out⟩
/-- behind a row laid in: the row's new value, its cells, and what is left alone -/
def InsAt (w w' : World) (e : Ending) (B : Nat) (v : Value) (n : Nat) (ys : List Value) : Prop := ∃ v', e = .returned v' ∧ w'.ownsRow B 63 2 v' n ys ∧ w.grownBy w' v.ownBlock
theorem row_src {w : World} {vb : Nat} {k u : ByteArray} (h0 : w.cell? ⟨vb, 0, none⟩ = some (.string k)) (h1 : w.cell? ⟨vb, 1, none⟩ = some (.string u)) : ∀ j x, [Value.string k, Value.string u][j]? = some x → w.cell? ((⟨vb, 0, none⟩ : Addr).add j) = some x := fun j x hj => by
  match j with
  | 0 => simp at hj; subst hj; exact h0
  | 1 => simp at hj; subst hj; exact h1
  | j + 2 => simp at hj
theorem row_one2 (k u : ByteArray) : ∀ x ∈ [Value.string k, Value.string u], x.oneCell' = true := by
  intro x hx
  simp at hx
  rcases hx with rfl | rfl <;> rfl
/-- appended to a row of one's own -/
theorem append_row (B : Nat) (v : Value) (n : Nat) (xs : List Value) (w : World) (ho : w.ownsRow B 63 2 v n xs) (hB : B ≤ w.heap.size) (vb vc : Nat) (k u : ByteArray) (h0 : w.cell? ⟨vb, 0, none⟩ = some (.string k)) (h1 : w.cell? ⟨vb, 1, none⟩ = some (.string u)) (hn : n ≤ 1000000) :
    ∃ v' w', (∀ ty, (Builtin.append_ #[22, 22] ty #[v, .slice (some ⟨vb, 0, none⟩) 1 vc]).run Tryz.prog w = .ok v' w') ∧ w'.ownsRow B 63 2 v' (n + 1) (xs ++ [.string k, .string u]) ∧ w.grownBy w' v.ownBlock := by
  obtain ⟨i0, hi0, hz0, hz1, hz2⟩ := info_parts zrow_info
  obtain ⟨v', w', hr, ho', hg, _⟩ := run_append_own (P := Tryz.prog) (w := w) B 22 0 63 i0 _ 2 32 Tryz.underlying22 hi0 hz0 hz1 hz2 rfl (by omega) v n xs ho ⟨vb, 0, none⟩ 1 vc [.string k, .string u] rfl (row_src h0 h1) (row_one2 k u) (by unfold maxLen; omega) (by omega) hB
  exact ⟨v', w', fun ty => hr, ho', hg⟩
set_option maxRecDepth 4000 in
set_option maxHeartbeats 4000000 in
theorem rowInsert_end (B : Nat) (v : Value) (n vb vc : Nat) (k u : ByteArray) (xs : List Value) (w : World) (ho : w.ownsRow B 63 2 v n xs) (hB : B ≤ w.heap.size) (h0 : w.cell? ⟨vb, 0, none⟩ = some (.string k)) (h1 : w.cell? ⟨vb, 1, none⟩ = some (.string u)) (hn : n ≤ 1000000) :
    Calls Tryz.prog 81 #[v, .int .i64 n, .slice (some ⟨vb, 0, none⟩) 1 vc] w fun e w' => InsAt w w' e B v (n + 1) (xs ++ [.string k, .string u]) := by
  obtain ⟨v', w', hr, ho', hg⟩ := append_row B v n xs w ho hB vb vc k u h0 h1 hn
  have HO := hide ho'
  have HG := hide hg
  rcases own_form ho with ⟨rfl, rfl⟩ | ⟨g, cap, rfl, _, _, hc, hm⟩
  · clear ho ho' hg h0 h1
    go_enter Tryz.func81, Tryz.ntmps81
    go_wp2_with (at_builtin; refine Lib.wpList_append_run _ rfl _ _ _ _ rfl _ _ rfl rfl _ _ (hr _) ?_)
    go_ret
    exact ⟨v', rfl, HO.out, HG.out⟩
  · clear ho ho' hg h0 h1
    have hc' : (n : Int) ≤ (cap : Int) := by omega
    unfold maxLen at hm
    go_enter Tryz.func81, Tryz.ntmps81
    go_wp2_with (at_builtin; refine Lib.wpList_append_run _ rfl _ _ _ _ rfl _ _ rfl rfl _ _ (hr _) ?_)
    all_goals
      go_ret
      exact ⟨v', rfl, HO.out, HG.out⟩
end Go.Proofs.YtpbhcjkllfonhaaGreat

/-
  What slices.Insert makes of rows of one's own ahead of their end, and slices.Replace of one of them. Nothing else that was there is changed.
-/
namespace Go.Proofs.YtpbhcjkllfonhaaGreat
open Go.RowKit Go.Joins
attribute [local go_sem ↓] Go.wp_at_zero Go.wp_at_succ

theorem shift_cells (xs ys vs : List Value) (i n : Nat) (hx : xs.length = n * 2) (hy : ys.length = 2) (hv : vs.length = 2) (hi : i < n) : setL (setL (xs ++ ys) ((i + 1) * 2) (xs.drop (i * 2))) (i * 2) vs = xs.take (i * 2) ++ (vs ++ xs.drop (i * 2)) := by
  have e1 : setL (xs ++ ys) ((i + 1) * 2) (xs.drop (i * 2)) = (xs ++ ys).take ((i + 1) * 2) ++ xs.drop (i * 2) := by
    have e : (xs ++ ys).drop ((i + 1) * 2 + (xs.drop (i * 2)).length) = [] := List.drop_eq_nil_of_le (by rw [List.length_append, List.length_drop]; omega)
    rw [setL_eq _ _ _ (by rw [List.length_drop, List.length_append]; omega), e, List.append_nil]
  have e0 : (xs ++ ys).take ((i + 1) * 2) = xs.take ((i + 1) * 2) := List.take_append_of_le_length (by omega)
  rw [e1, e0, setL_eq _ _ _ (by rw [List.length_append, List.length_take, List.length_drop]; omega), hv, List.take_append_of_le_length (by rw [List.length_take]; omega), List.take_take, Nat.min_eq_left (by omega), show i * 2 + 2 = (i + 1) * 2 by omega, List.drop_left' (by rw [List.length_take]; omega), List.append_assoc]
theorem grow_cells (xs zs vs : List Value) (i n : Nat) (hx : xs.length = n * 2) (hz : zs.length = (n + 1 - i) * 2) (hv : vs.length = 2) (hi : i < n) : setL (setL (xs.take (i * 2) ++ zs) (i * 2) vs) ((i + 1) * 2) (xs.drop (i * 2)) = xs.take (i * 2) ++ (vs ++ xs.drop (i * 2)) := by
  have hT : (xs.take (i * 2)).length = i * 2 := by rw [List.length_take]; omega
  have e1 : setL (xs.take (i * 2) ++ zs) (i * 2) vs = xs.take (i * 2) ++ vs ++ zs.drop 2 := by
    rw [setL_eq _ _ _ (by rw [List.length_append]; omega), List.take_left' hT, List.drop_append, hT, hv, List.drop_eq_nil_of_le (by omega), List.nil_append, show i * 2 + 2 - i * 2 = 2 by omega]
  have e2 : (xs.take (i * 2) ++ vs ++ zs.drop 2).drop ((i + 1) * 2 + (xs.drop (i * 2)).length) = [] := List.drop_eq_nil_of_le (by simp only [List.length_append, List.length_drop, hT, hv]; omega)
  rw [e1, setL_eq _ _ _ (by simp only [List.length_append, List.length_drop, hT, hv]; omega), List.take_left' (by rw [List.length_append, hT, hv]; omega), e2, List.append_nil, List.append_assoc]
set_option maxRecDepth 4000 in
set_option maxHeartbeats 8000000 in
theorem rowInsert_shift (B g cap i n vb vc : Nat) (k u : ByteArray) (xs : List Value) (w : World) (ho : w.ownsRow B 63 2 (.slice (some ⟨g, 0, none⟩) n cap) n xs) (hone : ∀ x ∈ xs, x.oneCell' = true) (h0 : w.cell? ⟨vb, 0, none⟩ = some (.string k)) (h1 : w.cell? ⟨vb, 1, none⟩ = some (.string u))
    (hvb : vb ≠ g) (tA : TypeId) (kA : Nat) (hsa : w.shape? vb = some (tA, kA)) (hfa : ∀ j, w.frozen? ⟨vb, j, none⟩ = false) (hi : i < n) (hn : n ≤ 1000000) (hroom : n + 1 ≤ cap) (hc63 : cap ≤ 9223372036854775807) :
    Calls Tryz.prog 81 #[.slice (some ⟨g, 0, none⟩) n cap, .int .i64 i, .slice (some ⟨vb, 0, none⟩) 1 vc] w fun e w' => InsAt w w' e B (.slice (some ⟨g, 0, none⟩) n cap) (n + 1) (xs.take (i * 2) ++ ([.string k, .string u] ++ xs.drop (i * 2))) := by
  have hxl : xs.length = n * 2 := ho.1
  obtain ⟨ys, hyl, hw⟩ := own_widen ho (m := n + 1) (by omega) hroom
  rw [show n + 1 - n = 1 by omega, Nat.one_mul] at hyl
  obtain ⟨J, hJ⟩ : ∃ J, J = i + 1 := ⟨_, rfl⟩
  have hsz : (Tryz.prog.info? 63).map (·.size) = some 2 := by
    obtain ⟨i0, hi0, _, hz1, _⟩ := info_parts zrow_info
    rw [hi0]; simp [hz1]
  obtain ⟨cur, hcur, hcs⟩ : ∃ cur, w.heap[g]? = some (.cells cur 63 (0, 0)) ∧ cur.size = cap * 2 := by
    rcases ho.2 with ⟨e, _⟩ | ⟨g', cap', cur, e, _, hh, _, _, hs, _⟩
    · cases e
    · cases e; exact ⟨cur, hh, hs⟩
  have hsb : w.shape? g = some (63, cap * 2) := by simp [World.shape?, hcur, hcs]
  have hov : ∀ lb cb, (callFunc 82 #[.slice (some ⟨vb, 0, none⟩) 1 vc, .slice (some ⟨g, J * 2, none⟩) lb cb]).run Tryz.prog w = .ok (.value (.bool false)) w := fun lb cb => by
    rw [run_callFunc_extern Tryz.func82 (by kernel_rfl) (by kernel_rfl) (by kernel_rfl) (e := Extern.SlicesOverlaps.overlaps #[22, 22] #[4]) (by kernel_rfl),
      Lib.run_overlaps_apart w 22 4 63 Tryz.underlying22 2 Tryz.sizeOf63 ⟨vb, 0, none⟩ ⟨g, J * 2, none⟩ 1 vc lb cb hvb tA 63 kA (cap * 2) hsa hsb (by omega) (hfa 0) (hfa kA)]
    rfl
  have hdl : (xs.drop (i * 2)).length = (n - i) * 2 := by rw [List.length_drop, hxl]; omega
  have hwd : w.drew.ownsRow B 63 2 (.slice (some ⟨g, 0, none⟩) (n + 1) cap) (n + 1) (xs ++ ys) := hw
  obtain ⟨mv, hmv⟩ : ∃ mv, mv = xs.drop (i * 2) := ⟨_, rfl⟩
  rw [← hmv] at hdl
  have hcp1 : ∀ ty dc sc, (Builtin.copy_ #[22, 22] ty #[.slice (some ⟨g, J * 2, none⟩) (n + 1 - J) dc, .slice (some ⟨g, i * 2, none⟩) (n + 1 - i) sc]).run Tryz.prog w.drew = .ok (goInt (Nat.min (n + 1 - i) (n + 1 - J))) (w.drew.setCells g (J * 2) mv) := fun ty dc sc =>
    run_copy_k w.drew _ _ ty 63 2 g (J * 2) (n + 1 - J) dc ⟨g, i * 2, none⟩ (n + 1 - i) sc mv Tryz.underlying22 hsz (by rw [hdl]; congr 1; simp only [Nat.min_def]; split <;> omega)
      (fun j x hj => by
        have hjl : j < mv.length := (List.getElem?_eq_some_iff.1 hj).1
        rw [Addr.add_lit, hwd.cellAt (i * 2 + j) (by omega), List.getElem?_append_left (by omega)]
        rw [hmv, List.getElem?_drop] at hj
        exact hj)
      (fun j hj => (own_there hwd (J * 2 + j) (by omega)).1) (fun j hj => (own_there hwd (J * 2 + j) (by omega)).2) (fun x hx => hone x (by rw [hmv] at hx; exact List.mem_of_mem_drop hx))
  obtain ⟨W1, hW1⟩ : ∃ W1, W1 = w.drew.setCells g (J * 2) mv := ⟨_, rfl⟩
  have r1 := own_setCells mv (J * 2) w.drew _ hwd
  rw [← hW1] at r1 hcp1
  obtain ⟨W2, hW2⟩ : ∃ W2, W2 = W1.setCells g (i * 2) [.string k, .string u] := ⟨_, rfl⟩
  have r2 := own_setCells [.string k, .string u] (i * 2) W1 _ r1.1
  rw [← hW2] at r2
  have hcp2 : ∀ ty dc, (Builtin.copy_ #[22, 22] ty #[.slice (some ⟨g, i * 2, none⟩) (n + 1 - i) dc, .slice (some ⟨vb, 0, none⟩) 1 vc]).run Tryz.prog W1 = .ok (goInt (Nat.min 1 (n + 1 - i))) W2 := fun ty dc => by
    rw [hW2]
    exact run_copy_k W1 _ _ ty 63 2 g (i * 2) (n + 1 - i) dc ⟨vb, 0, none⟩ 1 vc _ Tryz.underlying22 hsz (by rw [show Nat.min 1 (n + 1 - i) = 1 by simp only [Nat.min_def]; split <;> omega]; rfl)
      (fun j x hj => by
        have := row_src h0 h1 j x hj
        rw [Addr.add_lit] at this ⊢
        rw [hW1, World.cell?_setCells_out g _ _ _ _ (fun h _ => absurd h hvb)]
        exact this)
      (fun j hj => (own_there r1.1 (i * 2 + j) (by simp at hj; omega)).1) (fun j hj => (own_there r1.1 (i * 2 + j) (by simp at hj; omega)).2) (row_one2 k u)
  have R : Hid (W2.ownsRow B 63 2 (.slice (some ⟨g, 0, none⟩) (n + 1) cap) (n + 1) (xs.take (i * 2) ++ ([.string k, .string u] ++ xs.drop (i * 2)))) := by
    have := r2.1
    rw [hmv, hJ, shift_cells xs ys _ i n hxl hyl rfl hi] at this
    exact this
  have RG : Hid (w.grownBy W2 (some g)) := (show w.grownBy W1 (some g) from ⟨r1.2.os, r1.2.tape, r1.2.output, r1.2.size, r1.2.block⟩).trans r2.2
  have z2 : ¬ ((i : Int) = (n : Int)) := by omega
  have k0 : (i : Int) + 1 = (J : Int) := by omega
  have k1 : IntKind.i64.wrap ((i : Int) + 1) = (J : Int) := by rw [k0, IntKind.wrap_i64]; omega
  have k1' : IntKind.i64.wrap (J : Int) = (J : Int) := by rw [IntKind.wrap_i64]; omega
  have k2 : (0 : Int) ≤ (J : Int) := Int.natCast_nonneg _
  have k3 : (J : Int) ≤ (n : Int) + 1 := by omega
  have k4 : (i : Int) ≤ (n : Int) := by omega
  have k5 : (i : Int) ≤ (n : Int) + 1 := by omega
  have k6 : ¬ cap = i := by omega
  have k7 : ¬ cap = J := by omega
  have k8 : ¬ (cap : Int) < (n : Int) + 1 := by omega
  have k9 : (n : Int) + 1 ≤ (cap : Int) := by omega
  have k10 : i ≤ n := by omega
  have k11 : J ≤ n + 1 := by omega
  have k12 : n + 1 ≤ cap := hroom
  have HH1 := hide hW1
  clear ho hone h0 h1 hw hwd r1 r2 hW1 hW2 hmv hdl hxl hyl hJ hsa hsb hfa hcur hcs
  go_enter Tryz.func81, Tryz.ntmps81
  go_wp2_with (simp only [hov])
  go_region_law (refine step_copy_runI rfl _ _ 22 22 rfl _ _ (by simp [Act.eval, Act.put]) (by simp [Act.eval, Act.put]) (hcp1 _ _ _) ?_)
  go_wp2_with (at_builtin; refine wpList_copy_runI _ rfl _ _ 22 22 rfl _ _ rfl rfl (hcp2 _ _) ?_)
  go_ret
  exact ⟨_, rfl, R.out, RG.out⟩
end Go.Proofs.YtpbhcjkllfonhaaGreat
