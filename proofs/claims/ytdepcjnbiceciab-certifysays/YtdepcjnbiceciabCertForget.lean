/-
  What slices.Delete makes of a history's row from its beginning on, and what History.Forget makes of a history: the deeds up to a number are known no more; nothing else that was there is changed.
-/
import Derived.Test.YtdepcjnbiceciabCertPlace
import Derived.Test.YtdepcjnbiceciabCertGrow
import Derived.Test.YtdepcjnbiceciabOwnSetG
import Derived.Deep.RegionLaw
namespace Go.Proofs.Ytdepcjnbiceciab
open Go.RowKit Go.Joins
attribute [local go_sem ↓] Go.wp_at_zero Go.wp_at_succ

theorem deed_info2 : (Try.prog.info? 121).map (fun i => (i.zero, i.size, i.bytes)) = some (some (.agg #[.int .i64 0, .slice none 0 0]), 2, 32) := by kernel_rfl
theorem deed_zeros (n : Nat) : ∀ u ∈ (Builtin.zeroCells (Value.agg #[.int .i64 0, .slice none 0 0]).cells n).toList, u.oneCell' = true := by
  intro u hu
  simp [Builtin.zeroCells, Value.cells] at hu
  obtain ⟨i, _, rfl⟩ := hu
  rcases Nat.mod_two_eq_zero_or_one i with e | e <;> rw [e] <;> rfl

set_option maxRecDepth 4000 in
set_option maxHeartbeats 2000000 in
theorem delete_front (B g cap K m : Nat) (xs : List Value) (w : World) (ho : w.ownsRow B 121 2 (.slice (some ⟨g, 0, none⟩) (K + m) cap) (K + m) xs) (h1 : ∀ u ∈ xs, u.oneCell' = true) (hK : 0 < K) (hn : K + m ≤ 1000) (hcap : K + m ≤ cap) (hc63 : cap ≤ 9223372036854775807) :
    Calls Try.prog 65 #[.slice (some ⟨g, 0, none⟩) (K + m) cap, .int .i64 0, .int .i64 K] w fun e w' =>
      e = .returned (.slice (some ⟨g, 0, none⟩) m cap) ∧ w'.ownsRow B 121 2 (.slice (some ⟨g, 0, none⟩) m cap) m (xs.drop (K * 2)) ∧ w.grownBy w' (some g) := by
  obtain ⟨i0, hi0, hz0, hz1, hz2⟩ := info_parts deed_info2
  have hxl : xs.length = (K + m) * 2 := ho.1
  -- what is moved
  obtain ⟨news, hnews⟩ : ∃ news, news = xs.drop (K * 2) := ⟨_, rfl⟩
  have hlen : news.length = m * 2 := by rw [hnews, List.length_drop, hxl]; omega
  have hdr : w.drew.ownsRow B 121 2 (.slice (some ⟨g, 0, none⟩) (K + m) cap) (K + m) xs := ho
  obtain ⟨A, hA, hsrc⟩ : ∃ A : Addr, (if cap = K then some (⟨g, 0, none⟩ : Addr) else some ⟨g, K * 2, none⟩) = some A ∧ Hid (∀ t u, news[t]? = some u → w.drew.cell? (A.add t) = some u) := by
    by_cases h : cap = K
    · refine ⟨⟨g, 0, none⟩, by simp [h], fun t u hu => ?_⟩
      have h0 : news.length = 0 := by omega
      rw [List.length_eq_zero_iff.1 h0] at hu
      simp at hu
    · refine ⟨⟨g, K * 2, none⟩, by simp [h], fun t u hu => ?_⟩
      have ht : t < m * 2 := by
        have := (List.getElem?_eq_some_iff.1 hu).1
        omega
      rw [Addr.add_lit, hdr.cellAt (K * 2 + t) (by omega), ← hu, hnews, List.getElem?_drop]
  have s2 : Hid (∀ u ∈ news, u.oneCell' = true) := fun u hu => h1 u (by rw [hnews] at hu; exact List.mem_of_mem_drop hu)
  have s3 : Hid (∀ t, t < news.length → (w.drew.cell? ⟨g, 0 + 0 * 2 + t, none⟩).isSome = true ∧ w.drew.frozen? ⟨g, 0 + 0 * 2 + t, none⟩ = false) := fun t ht => by
    have := own_there hdr t (by omega)
    simpa using this
  obtain ⟨W1, hW1⟩ : ∃ W1, W1 = w.drew.setCells g (0 + 0 * 2) news := ⟨_, rfl⟩
  have hW1' := hW1
  simp only [Nat.zero_mul, Nat.add_zero] at hW1'
  have r1 := own_setCells news 0 w.drew xs hdr
  rw [← hW1'] at r1
  have hzv : ∀ w, (zeroValue 121).run Try.prog w = .ok (.agg #[.int .i64 0, .slice none 0 0]) w := Try.zeroValue121
  have hz2' : (Value.agg #[.int .i64 0, .slice none 0 0]).cells.size = 2 := rfl
  have hcl : ∀ ty, (Builtin.clear_ #[74] ty #[.slice (some ⟨g, m * 2, none⟩) K (cap - m)]).run Try.prog W1 = .ok (.tuple #[]) (W1.setCells g (m * 2) (Builtin.zeroCells (Value.agg #[.int .i64 0, .slice none 0 0]).cells K).toList) :=
    fun ty => run_clear_cells W1 _ _ ty _ Try.underlying74 hzv g (m * 2) _ _ (by omega) (deed_zeros _) (fun j hj => by rw [hz2'] at hj; exact (own_there r1.1 (m * 2 + j) (by omega)).1) (fun j hj => by rw [hz2'] at hj; exact (own_there r1.1 (m * 2 + j) (by omega)).2)
  have r2 := own_setCells (Builtin.zeroCells (Value.agg #[.int .i64 0, .slice none 0 0]).cells K).toList (m * 2) W1 _ r1.1
  have r3 := own_shrink r2.1 (m := m) (by omega)
  rw [setL_take_lo] at r3
  have e4 : (setL xs 0 news).take (m * 2) = news := by rw [← hlen]; exact setL_take_all news xs (by omega)
  rw [e4] at r3
  have R3 := hide r3
  have R4 : Hid (w.grownBy (W1.setCells g (m * 2) (Builtin.zeroCells (Value.agg #[.int .i64 0, .slice none 0 0]).cells K).toList) (some g)) := (show w.grownBy W1 (some g) from ⟨r1.2.os, r1.2.tape, r1.2.output, r1.2.size, r1.2.block⟩).trans r2.2
  generalize hW2 : W1.setCells g (m * 2) (Builtin.zeroCells (Value.agg #[.int .i64 0, .slice none 0 0]).cells K).toList = W2 at hcl R3 R4
  have HN : Hid (news = xs.drop (K * 2)) := hnews
  have HL := hide hlen
  have HW : Hid (W1 = w.drew.setCells g (0 + 0 * 2) news) := hW1
  clear hnews hlen hdr hW1 hW1' r1 r2 r3 e4 ho h1 hxl hW2 hz2'
  have k0 : (0 : Int) ≤ (K : Int) := Int.natCast_nonneg _
  have k1 : (K : Int) ≤ (K : Int) + (m : Int) := by omega
  have k2 : (K : Int) ≤ (cap : Int) := by omega
  have k3 : ¬ (0 : Int) = (K : Int) := by omega
  have k4 : ¬ cap = m := by omega
  go_enter Try.func65, Try.ntmps65
  go_wp2_with fail
  go_region_law (refine step_append_room rfl (.tmp 22) (.tmp 25) 74 rfl 121 i0 2 Try.underlying74 hi0 hz1 g 0 0 cap (by simp [Act.eval, Act.put]) A m (cap - K) news (by simp [Act.eval, Act.put]) HL.out hsrc.out s2.out (by omega) s3.out ?_; rw [← HW.out])
  go_wp2
  go_ret
  exact ⟨rfl, by rw [← HN.out]; exact R3.out, R4.out⟩
set_option maxHeartbeats 400000 in
theorem delete_none (g n cap : Nat) (w : World) (hn : n ≤ cap) :
    Calls Try.prog 65 #[.slice (some ⟨g, 0, none⟩) n cap, .int .i64 0, .int .i64 0] w fun e w' => e = .returned (.slice (some ⟨g, 0, none⟩) n cap) ∧ w' = w := by
  go_enter Try.func65, Try.ntmps65
  go_wp2
  all_goals
    go_ret
    exact ⟨rfl, rfl⟩
theorem delete_nil (w : World) :
    Calls Try.prog 65 #[.slice none 0 0, .int .i64 0, .int .i64 0] w fun e w' => e = .returned (.slice none 0 0) ∧ w' = w := by
  go_enter Try.func65, Try.ntmps65
  go_wp2
  go_ret
  exact ⟨rfl, rfl⟩
theorem flat_drop {α β : Type} (f : α → List β) (k : Nat) (hk : ∀ x, (f x).length = k) : ∀ (n : Nat) (l : List α), (l.flatMap f).drop (n * k) = (l.drop n).flatMap f
  | 0, l => by simp
  | n + 1, [] => by simp
  | n + 1, x :: l => by
    rw [List.flatMap_cons, List.drop_succ_cons, ← flat_drop f k hk n l, Nat.succ_mul, Nat.add_comm, ← List.drop_drop, List.drop_left' (hk x)]
theorem row_one {dv : List (DeedL × Value)} {w : World} {B : Nat} (hk : ∀ p ∈ dv, w.ownsRow B 9 1 p.2 p.1.keys.length (p.1.keys.map Value.string)) : ∀ u ∈ rowD dv, u.oneCell' = true := by
  intro u hu
  obtain ⟨p, hp, hu⟩ := List.mem_flatMap.1 hu
  simp only [cellD, List.mem_cons, List.not_mem_nil, or_false] at hu
  rcases hu with rfl | rfl
  · rfl
  · rcases own_form (hk p hp) with ⟨e, _⟩ | ⟨g, cap, e, _⟩ <;> rw [e] <;> rfl
theorem pair_drop {α : Type} {R : α → α → Prop} {l : List α} (h : l.Pairwise R) (k : Nat) : (l.drop k).Pairwise R := h.drop
/-- the row cut, and its new value stored -/
theorem hist_cut {W w2 : World} {B hb : Nat} {dv : List (DeedL × Value)} {g cap K m : Nat} (hl : dv.length = K + m) (h : HistAt W B hb (.slice (some ⟨g, 0, none⟩) (K + m) cap) dv) (hB : B ≤ W.heap.size) (hg : W.grownBy w2 (some g))
    (ho : w2.ownsRow B 121 2 (.slice (some ⟨g, 0, none⟩) m cap) m ((rowD dv).drop (K * 2))) :
    HistAt (w2.setCell ⟨hb, 0, none⟩ (.slice (some ⟨g, 0, none⟩) m cap)) B hb (.slice (some ⟨g, 0, none⟩) m cap) (dv.drop K) ∧
    Below B W (w2.setCell ⟨hb, 0, none⟩ (.slice (some ⟨g, 0, none⟩) m cap)) ∧ w2.cell? ⟨hb, 0, none⟩ = some (.slice (some ⟨g, 0, none⟩) (K + m) cap) ∧ w2.frozen? ⟨hb, 0, none⟩ = false ∧
    (∀ k, k < W.heap.size → k ≠ hb → some k ≠ some g → (w2.setCell ⟨hb, 0, none⟩ (.slice (some ⟨g, 0, none⟩) m cap)).heap[k]? = W.heap[k]?) := by
  have hlt := h.lt
  have hoff : some hb ≠ some g := fun e => h.off (by rw [e]; rfl)
  have hgh : g ≠ hb := fun e => hoff (by rw [e])
  have c1 : w2.cell? ⟨hb, 0, none⟩ = some (.slice (some ⟨g, 0, none⟩) (K + m) cap) := hg.cell h.cell hoff
  have f1 : w2.frozen? ⟨hb, 0, none⟩ = false := (hg.frozen_far ⟨hb, 0, none⟩ hlt hoff).trans h.soft
  refine ⟨{ cell := World.cell?_setCell_same _ _ _ c1, soft := by simpa using f1, lo := h.lo, own := ?_, keys := ?_, off := ?_, offk := ?_, apart := ?_, pair := pair_drop h.pair K }, ?_, c1, f1, fun k h1 h2 h3 => (Below.heap_setCell _ _ _ _ h2).trans (hg.block k h1 h3)⟩
  · have e1 : (dv.drop K).length = m := by rw [List.length_drop]; omega
    have e2 : rowD (dv.drop K) = (rowD dv).drop (K * 2) := (flat_drop cellD 2 cellD_len K dv).symm
    rw [e1, e2]
    exact own_set_far ho hb 0 _ (by simpa [Value.ownBlock] using hgh)
  · intro p hp
    have hp' := List.mem_of_mem_drop hp
    refine own_set_far ((h.keys p hp').kept hg ?_) hb 0 _ (h.offk p hp')
    rcases h.apart p hp' with e | e
    · exact .inl e
    · exact .inr e
  · simpa [Value.ownBlock] using hgh
  · exact fun p hp => h.offk p (List.mem_of_mem_drop hp)
  · exact fun p hp => h.apart p (List.mem_of_mem_drop hp)
  · exact (((Below.refl B W).grown hg hB (fun k hk => by cases hk; exact (h.own.lt g rfl).1)).setCell h.lo _)

/-- the same value stored -/
theorem hist_same {W : World} {B hb : Nat} {v : Value} {dv : List (DeedL × Value)} (h : HistAt W B hb v dv) : HistAt (W.setCell ⟨hb, 0, none⟩ v) B hb v dv where
  cell := World.cell?_setCell_same _ _ _ h.cell
  soft := by simpa using h.soft
  lo := h.lo
  own := own_set_far h.own hb 0 _ h.off
  keys := fun p hp => own_set_far (h.keys p hp) hb 0 _ (h.offk p hp)
  off := h.off
  offk := h.offk
  apart := h.apart
  pair := h.pair

theorem in_cut {hb g n m cap K j : Nat} {dv : List (DeedL × Value)} (h : inH hb (.slice (some ⟨g, 0, none⟩) m cap) (dv.drop K) j) : inH hb (.slice (some ⟨g, 0, none⟩) n cap) dv j := by
  rcases h with h | h | ⟨p, hp, e⟩
  · exact .inl h
  · exact .inr (.inl h)
  · exact .inr (.inr ⟨p, List.mem_of_mem_drop hp, e⟩)
set_option maxHeartbeats 2000000 in
theorem forget_any (dv : List (DeedL × Value)) (B hb : Nat) (v : Value) (n : Int) (w : World) (h : HistAt w B hb v dv) (hr : risesD (ofDV dv)) (hB : B ≤ w.heap.size) (hn : dv.length ≤ 1000) :
    Calls Try.prog 40 #[.pointer (some ⟨hb, 0, none⟩), .int .i64 n] w fun e w' => e = .returned (.tuple #[]) ∧ ∃ v' dv', HistAt w' B hb v' dv' ∧ dv' = dv.drop (aboveD (ofDV dv) n) ∧ Below B w w' ∧ ∀ j, j < w.heap.size → ¬ inH hb v dv j → w'.heap[j]? = w.heap[j]? ∧ ¬ inH hb v' dv' j := by
  have hK : aboveD (ofDV dv) n ≤ dv.length := by have := aboveD_le (ofDV dv) n; simpa [ofDV] using this
  obtain ⟨K, hKe⟩ : ∃ K, aboveD (ofDV dv) n = K := ⟨_, rfl⟩
  rw [hKe] at hK
  rw [hKe]
  have HK := hide hKe
  have c := h.cell
  have hs := h.soft
  have hlt := h.lt
  have HH := hide h
  have HR := hide hr
  clear hKe h hr
  rcases HH.out.form with ⟨rfl, rfl⟩ | ⟨g, cap, rfl, _, hgh, hc1, hc2, _⟩
  · have hK0 : K = 0 := by simpa using hK
    subst hK0
    go_enter Try.func40, Try.ntmps40
    go_region_with (first
      | (go_at_call 66; refine (above_any [] B hb _ n _ (HH.out.on (Below.refl _ _).drew) HR.out (by simp)).mono ?_; rintro e w1 ⟨rfl, hb1⟩; rw [HK.out]; have c1 := cell_on hb1 (cell_on (Below.refl _ _).drew c); have f1 := frozen_on hb1 hlt hs)
      | (go_at_call 65; refine (delete_nil _).mono ?_; rintro e w2 ⟨rfl, rfl⟩))
    all_goals
      go_wp2
      go_end0
      exact ⟨rfl, _, _, hist_same (HH.out.on (below_on (Below.refl _ w).drew (Nat.le_refl _) hb1)), rfl, ((below_on (Below.refl _ w).drew (Nat.le_refl _) hb1).mono hB).setCell HH.out.lo _, fun k h1 h2 => ⟨(Below.heap_setCell _ _ _ _ (fun e => h2 (.inl e))).trans ((below_on (Below.refl _ w).drew (Nat.le_refl _) hb1).block k h1), by simpa using h2⟩⟩
  · by_cases hK0 : K = 0
    · subst hK0
      go_enter Try.func40, Try.ntmps40
      go_region_with (first
        | (go_at_call 66; refine (above_any dv B hb _ n _ (HH.out.on (Below.refl _ _).drew) HR.out (by omega)).mono ?_; rintro e w1 ⟨rfl, hb1⟩; rw [HK.out]; have c1 := cell_on hb1 (cell_on (Below.refl _ _).drew c); have f1 := frozen_on hb1 hlt hs)
        | (go_at_call 65; refine (delete_none _ _ _ _ hc1).mono ?_; rintro e w2 ⟨rfl, rfl⟩))
      all_goals
        go_wp2
        go_end0
        exact ⟨rfl, _, _, hist_same (HH.out.on (below_on (Below.refl _ w).drew (Nat.le_refl _) hb1)), by simp, ((below_on (Below.refl _ w).drew (Nat.le_refl _) hb1).mono hB).setCell HH.out.lo _, fun k h1 h2 => ⟨(Below.heap_setCell _ _ _ _ (fun e => h2 (.inl e))).trans ((below_on (Below.refl _ w).drew (Nat.le_refl _) hb1).block k h1), by simpa using h2⟩⟩
    · obtain ⟨m, hm⟩ : ∃ m, dv.length = K + m := ⟨dv.length - K, by omega⟩
      have HM := hide hm
      have hone := hide (row_one HH.out.keys)
      rw [hm] at HH c hc1 hn
      clear hm
      go_enter Try.func40, Try.ntmps40
      go_region_with (first
        | (go_at_call 66; refine (above_any dv B hb _ n _ (HH.out.on (Below.refl _ _).drew) HR.out (by rw [HM.out]; omega)).mono ?_; rintro e w1 ⟨rfl, hb1⟩; rw [HK.out]; have c1 := cell_on hb1 (cell_on (Below.refl _ _).drew c); have hw1 := below_on (Below.refl _ w).drew (Nat.le_refl _) hb1; have HW := hide (HH.out.on hw1))
        | (go_at_call 65; refine (delete_front B g cap K m (rowD dv) _ (HM.out ▸ HW.out.own) hone.out (by omega) (by omega) hc1 hc2).mono ?_; rintro e w2 ⟨rfl, ho2, hg2⟩; obtain ⟨r1, r2, r3, r4, r5⟩ := hist_cut HM.out HW.out (Nat.le_trans hB hw1.size) hg2 ho2; have R1 := hide r1; have R2 := hide r2; have R5 := hide r5; clear r1 r2 r5 ho2 hg2))
      all_goals
        go_wp2
        go_end0
        exact ⟨rfl, _, _, R1.out, rfl, (hw1.mono hB).trans R2.out, fun k h1 h2 => ⟨(R5.out k (Nat.lt_of_lt_of_le h1 hw1.size) (fun e => h2 (.inl e)) (fun e => h2 (.inr (.inl e.symm)))).trans (hw1.block k h1), fun e => h2 (in_cut e)⟩⟩
end Go.Proofs.Ytdepcjnbiceciab
