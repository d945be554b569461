/-
  What haywainref.PutChange returns of changes that rise: a new row of them with the one put among them. What haywainlaw.rising returns.
-/
import Derived.Test.YtpbhcjkllfonhaaGreatViewPV
import Derived.Test.YtpbhcjkllfonhaaGreatSpOn
import Derived.Test.YtpbhcjkllfonhaaGreatRefHas
namespace Go.Proofs.YtpbhcjkllfonhaaGreat
open Go.RowKit Go.Joins

theorem cellsC_one (c : Chg) : ∀ u ∈ cellsC c, u.oneCell' = true := by
  intro u hu
  simp only [cellsC, List.mem_cons, List.not_mem_nil, or_false] at hu
  rcases hu with rfl | rfl | rfl <;> rfl
theorem own_snoc {w : World} {B : Nat} {v : Value} {l : List Chg} {c : Chg} (h : w.ownsRow B 46 3 v (l.length + 1) (cellsL l ++ cellsC c)) : ownCh w B v (l ++ [c]) := by
  unfold ownCh
  rw [cellsL_append, List.length_append]
  simpa [cellsL] using h
theorem fold_len (c : Chg) (l : List Chg) (k : Nat) : ((l.take k).foldl (stepP c) (false, [])).2.length ≤ 2 * k := by
  induction k with
  | zero => simp
  | succ k ih =>
    by_cases hk : k < l.length
    · rw [fold_take c l k hk]
      have := step_len c ((l.take k).foldl (stepP c) (false, [])) l[k]
      omega
    · rw [List.take_of_length_le (by omega)]
      rw [List.take_of_length_le (by omega)] at ih
      omega

set_option maxHeartbeats 4000000 in
theorem rput_any (l : List Chg) (b off cap : Nat) (c : Chg) (w : World) (hl : chgsAt w b off l) (hn : l.length ≤ 1000) :
    Calls Tryz.prog 30 #[.slice (some ⟨b, off, none⟩) l.length cap, .agg #[.string c.key, .string c.val, .bool c.gone]] w fun e w' =>
      ∃ v, e = .returned v ∧ ownCh w' w.heap.size v (endP c (l.foldl (stepP c) (false, []))) ∧ Below w.heap.size w w' := by
  obtain ⟨i0, hi0, hz0, hs0, hb0⟩ := chg_info
  have hB0 := below_alloc1 w (Obj.cells #[Value.string c.key, Value.string c.val, Value.bool c.gone] 46)
  have a0 : (w.alloc (Obj.cells #[Value.string c.key, Value.string c.val, Value.bool c.gone] 46)).cell? ⟨w.heap.size, 0, none⟩ = some (.string c.key) := by simp
  have a1 : (w.alloc (Obj.cells #[Value.string c.key, Value.string c.val, Value.bool c.gone] 46)).cell? ⟨w.heap.size, 1, none⟩ = some (.string c.val) := by simp
  have a2 : (w.alloc (Obj.cells #[Value.string c.key, Value.string c.val, Value.bool c.gone] 46)).cell? ⟨w.heap.size, 2, none⟩ = some (.bool c.gone) := by simp
  have hl0 := chgsAt_on hB0 hl
  have hz1 : (w.alloc (Obj.cells #[Value.string c.key, Value.string c.val, Value.bool c.gone] 46)).heap.size = w.heap.size + 1 := by simp
  go_enter Tryz.func30, Tryz.ntmps30
  go_wp2
  generalize (w.alloc (Obj.cells #[Value.string c.key, Value.string c.val, Value.bool c.gone] 46)) = W0 at *
  go_loopw [5, 6, 7] (fun v y i wr => ∃ k : Nat, k ≤ l.length ∧ i = .int .i64 k ∧ y = .bool ((l.take k).foldl (stepP c) (false, [])).1 ∧ ownCh wr W0.heap.size v ((l.take k).foldl (stepP c) (false, [])).2 ∧ Below W0.heap.size W0 wr) (fun _ _ i _ => l.length - (intOf i).toNat)
  case atStart => exact ⟨0, Nat.zero_le _, rfl, rfl, World.ownsRow_nil _ _ _ _, Below.refl _ _⟩
  case round =>
    obtain ⟨k, hk, rfl, rfl, hown, hB⟩ := hrel
    have HF := hide (fold_take c l k)
    have hlen := fold_len c l k
    have HE : Hid (((l.take k).foldl (stepP c) (false, [])) = ((l.take k).foldl (stepP c) (false, []))) := rfl
    generalize hst : ((l.take k).foldl (stepP c) (false, [])) = st at *
    obtain ⟨laid, out⟩ := st
    replace HE := hide hst
    clear hst
    replace hlen : out.length ≤ 2 * k := hlen
    have b0 := cell_on hB a0
    have b1 := cell_on hB a1
    have b2 := cell_on hB a2
    by_cases hlt : k < l.length
    · obtain ⟨c0, c1, c2⟩ := chgsAt_on hB hl0 k hlt
      have g2 : (k : Int) < (l.length : Int) := by omega
      replace HF := hide (HF.out hlt)
      have lk : (k : Int) < (l.length : Int) := by omega
      cases hq : eqS l[k].key c.key with
      | true =>
        have q1 : (l[k].key.toList == c.key.toList) = true := hq
        have q2 : (l[k].key.toList != c.key.toList) = false := by rw [bne, q1]; rfl
        cases laid with
        | true =>
          replace HF : Hid (List.foldl (stepP c) (false, []) (List.take (k + 1) l) = (true, out)) := by
            show _ = _
            rw [HF.out]; simp [stepP, hq]
          clear hq
          go_wp2
          go_quiet (fail)
          go_wp2
          go_quiet (fail)
          go_wp2
          go_roundw
          case rel => exact ⟨k + 1, by omega, by go_num, by rw [HF.out], by rw [HF.out]; exact hown, by first | exact hB | exact hB.trans (below_draws _ _ _)⟩
          case measure => simp [intOf]; omega
        | false =>
          have hle : leS c.key l[k].key = true := by rw [leS_iff]; exact .inr ((eqS_iff _ _).1 hq).symm
          have le' : (Op.bytesLess c.key.toList l[k].key.toList || c.key.toList == l[k].key.toList) = true := hle
          replace HF : Hid (List.foldl (stepP c) (false, []) (List.take (k + 1) l) = (true, out ++ [c])) := by
            show _ = _
            rw [HF.out]; simp [stepP, hq, hle]
          clear hq hle
          go_wp2
          go_quiet (fail)
          go_wp2_with (at_builtin; refine wp_append1 rfl _ _ 32 rfl W0.heap.size 46 i0 _ 3 40 Tryz.underlying32 hi0 hz0 hs0 hb0 rfl (by omega) _ (cellsC c) rfl (cellsC_one _) _ out.length (cellsL out) hown rfl rfl (by omega) (by omega) hB.size ?_; intro v1 w1 ho1 hb1; replace hB : Below W0.heap.size W0 w1 := (by first | exact hb1 W0 hB | exact hb1 W0 (hB.trans (below_draws _ _ _))); replace hown : ownCh w1 W0.heap.size v1 (out ++ [c]) := own_snoc ho1; clear ho1 hb1; replace b0 := cell_on hB a0; replace b1 := cell_on hB a1; replace b2 := cell_on hB a2; obtain ⟨c0, c1, c2⟩ := chgsAt_on hB hl0 k hlt)
          go_quiet (fail)
          go_wp2
          go_roundw
          case rel => exact ⟨k + 1, by omega, by go_num, by rw [HF.out], by rw [HF.out]; exact hown, by first | exact hB | exact hB.trans (below_draws _ _ _)⟩
          case measure => simp [intOf]; omega
      | false =>
        have q1 : (l[k].key.toList == c.key.toList) = false := hq
        have q2 : (l[k].key.toList != c.key.toList) = true := by rw [bne, q1]; rfl
        cases laid with
        | true =>
          replace HF : Hid (List.foldl (stepP c) (false, []) (List.take (k + 1) l) = (true, out ++ [l[k]])) := by
            show _ = _
            rw [HF.out]; simp [stepP, hq]
          clear hq
          go_wp2
          go_quiet (fail)
          go_wp2
          go_quiet (fail)
          go_wp2_with (at_builtin; refine wp_append1 rfl _ _ 32 rfl W0.heap.size 46 i0 _ 3 40 Tryz.underlying32 hi0 hz0 hs0 hb0 rfl (by omega) _ (cellsC l[k]) rfl (cellsC_one _) _ out.length (cellsL out) hown rfl rfl (by omega) (by omega) hB.size ?_; intro v1 w1 ho1 hb1; replace hB : Below W0.heap.size W0 w1 := (by first | exact hb1 W0 hB | exact hb1 W0 (hB.trans (below_draws _ _ _))); replace hown : ownCh w1 W0.heap.size v1 (out ++ [l[k]]) := own_snoc ho1; clear ho1 hb1; replace b0 := cell_on hB a0; replace b1 := cell_on hB a1; replace b2 := cell_on hB a2; obtain ⟨c0, c1, c2⟩ := chgsAt_on hB hl0 k hlt)
          go_roundw
          case rel => exact ⟨k + 1, by omega, by go_num, by rw [HF.out], by rw [HF.out]; exact hown, by first | exact hB | exact hB.trans (below_draws _ _ _)⟩
          case measure => simp [intOf]; omega
        | false =>
          cases hle : leS c.key l[k].key with
          | false =>
            have le' : (Op.bytesLess c.key.toList l[k].key.toList || c.key.toList == l[k].key.toList) = false := hle
            replace HF : Hid (List.foldl (stepP c) (false, []) (List.take (k + 1) l) = (false, out ++ [l[k]])) := by
              show _ = _
              rw [HF.out]; simp [stepP, hq, hle]
            clear hq hle
            go_wp2
            go_quiet (fail)
            go_wp2
            go_quiet (fail)
            go_wp2_with (at_builtin; refine wp_append1 rfl _ _ 32 rfl W0.heap.size 46 i0 _ 3 40 Tryz.underlying32 hi0 hz0 hs0 hb0 rfl (by omega) _ (cellsC l[k]) rfl (cellsC_one _) _ out.length (cellsL out) hown rfl rfl (by omega) (by omega) hB.size ?_; intro v1 w1 ho1 hb1; replace hB : Below W0.heap.size W0 w1 := (by first | exact hb1 W0 hB | exact hb1 W0 (hB.trans (below_draws _ _ _))); replace hown : ownCh w1 W0.heap.size v1 (out ++ [l[k]]) := own_snoc ho1; clear ho1 hb1; replace b0 := cell_on hB a0; replace b1 := cell_on hB a1; replace b2 := cell_on hB a2; obtain ⟨c0, c1, c2⟩ := chgsAt_on hB hl0 k hlt)
            go_roundw
            case rel => exact ⟨k + 1, by omega, by go_num, by rw [HF.out], by rw [HF.out]; exact hown, by first | exact hB | exact hB.trans (below_draws _ _ _)⟩
            case measure => simp [intOf]; omega
          | true =>
            have le' : (Op.bytesLess c.key.toList l[k].key.toList || c.key.toList == l[k].key.toList) = true := hle
            replace HF : Hid (List.foldl (stepP c) (false, []) (List.take (k + 1) l) = (true, out ++ [c] ++ [l[k]])) := by
              show _ = _
              rw [HF.out]; simp [stepP, hq, hle]
            clear hq hle
            have hlen2 : (out ++ [c]).length ≤ 2 * k + 1 := by simp; omega
            go_wp2
            go_quiet (fail)
            go_wp2_with (at_builtin; refine wp_append1 rfl _ _ 32 rfl W0.heap.size 46 i0 _ 3 40 Tryz.underlying32 hi0 hz0 hs0 hb0 rfl (by omega) _ (cellsC c) rfl (cellsC_one _) _ out.length (cellsL out) hown rfl rfl (by omega) (by omega) hB.size ?_; intro v1 w1 ho1 hb1; replace hB : Below W0.heap.size W0 w1 := (by first | exact hb1 W0 hB | exact hb1 W0 (hB.trans (below_draws _ _ _))); replace hown : ownCh w1 W0.heap.size v1 (out ++ [c]) := own_snoc ho1; clear ho1 hb1; replace b0 := cell_on hB a0; replace b1 := cell_on hB a1; replace b2 := cell_on hB a2; obtain ⟨c0, c1, c2⟩ := chgsAt_on hB hl0 k hlt)
            go_quiet (fail)
            go_wp2_with (at_builtin; refine wp_append1 rfl _ _ 32 rfl W0.heap.size 46 i0 _ 3 40 Tryz.underlying32 hi0 hz0 hs0 hb0 rfl (by omega) _ (cellsC l[k]) rfl (cellsC_one _) _ (out ++ [c]).length (cellsL (out ++ [c])) hown rfl rfl (by omega) (by omega) hB.size ?_; intro v1 w1 ho1 hb1; replace hB : Below W0.heap.size W0 w1 := (by first | exact hb1 W0 hB | exact hb1 W0 (hB.trans (below_draws _ _ _))); replace hown : ownCh w1 W0.heap.size v1 ((out ++ [c]) ++ [l[k]]) := own_snoc ho1; clear ho1 hb1; replace b0 := cell_on hB a0; replace b1 := cell_on hB a1; replace b2 := cell_on hB a2; obtain ⟨c0, c1, c2⟩ := chgsAt_on hB hl0 k hlt)
            go_roundw
            case rel => exact ⟨k + 1, by omega, by go_num, by rw [HF.out], by rw [HF.out]; exact hown, by first | exact hB | exact hB.trans (below_draws _ _ _)⟩
            case measure => simp [intOf]; omega
    · have e : l.take k = l := List.take_of_length_le (by omega)
      rw [e] at HE
      cases laid with
      | true =>
        go_wp2
        go_ret
        exact ⟨_, rfl, by rw [HE.out]; exact ownCh_le hown (by omega), below_on hB0 (Nat.le_refl _) hB⟩
      | false =>
        go_wp2_with (at_builtin; refine wp_append1 rfl _ _ 32 rfl W0.heap.size 46 i0 _ 3 40 Tryz.underlying32 hi0 hz0 hs0 hb0 rfl (by omega) _ (cellsC c) rfl (cellsC_one _) _ out.length (cellsL out) hown rfl rfl (by omega) (by omega) hB.size ?_; intro v1 w1 ho1 hb1; replace hB : Below W0.heap.size W0 w1 := (by first | exact hb1 W0 hB | exact hb1 W0 (hB.trans (below_draws _ _ _))); replace hown : ownCh w1 W0.heap.size v1 (out ++ [c]) := own_snoc ho1; clear ho1 hb1; replace b0 := cell_on hB a0; replace b1 := cell_on hB a1; replace b2 := cell_on hB a2)
        go_ret
        exact ⟨_, rfl, by rw [HE.out]; exact ownCh_le hown (by omega), below_on hB0 (Nat.le_refl _) hB⟩
end Go.Proofs.YtpbhcjkllfonhaaGreat

/-
  What haywainref.PutChange returns of an empty list.
-/
namespace Go.Proofs.YtpbhcjkllfonhaaGreat
open Go.RowKit Go.Joins

set_option maxHeartbeats 1000000 in
theorem rput_bare (ao : Option Addr) (cap : Nat) (c : Chg) (w : World) :
    Calls Tryz.prog 30 #[.slice ao 0 cap, .agg #[.string c.key, .string c.val, .bool c.gone]] w fun e w' => ∃ v, e = .returned v ∧ ownCh w' w.heap.size v [c] ∧ Below w.heap.size w w' := by
  obtain ⟨i0, hi0, hz0, hs0, hb0⟩ := chg_info
  have hB := below_alloc1 w (Obj.cells #[Value.string c.key, Value.string c.val, Value.bool c.gone] 46)
  have hown : ownCh (w.alloc (Obj.cells #[Value.string c.key, Value.string c.val, Value.bool c.gone] 46)) w.heap.size (.slice none 0 0) [] := World.ownsRow_nil _ _ _ _
  have a0 : (w.alloc (Obj.cells #[Value.string c.key, Value.string c.val, Value.bool c.gone] 46)).cell? ⟨w.heap.size, 0, none⟩ = some (.string c.key) := by simp
  have a1 : (w.alloc (Obj.cells #[Value.string c.key, Value.string c.val, Value.bool c.gone] 46)).cell? ⟨w.heap.size, 1, none⟩ = some (.string c.val) := by simp
  have a2 : (w.alloc (Obj.cells #[Value.string c.key, Value.string c.val, Value.bool c.gone] 46)).cell? ⟨w.heap.size, 2, none⟩ = some (.bool c.gone) := by simp
  go_enter Tryz.func30, Tryz.ntmps30
  go_wp2
  generalize (w.alloc (Obj.cells #[Value.string c.key, Value.string c.val, Value.bool c.gone] 46)) = W0 at *
  refine wp_loop_rounds 1 ?_
  rw [rounds_succ]
  go_wp2_with (at_builtin; refine wp_append1 rfl _ _ 32 rfl w.heap.size 46 i0 _ 3 40 Tryz.underlying32 hi0 hz0 hs0 hb0 rfl (by omega) _ (cellsC c) rfl (cellsC_one _) _ 0 (cellsL []) hown rfl rfl (by omega) (by omega) hB.size ?_; intro v1 w1 ho1 hb1; replace hB := hb1 w hB; replace hown : ownCh w1 w.heap.size v1 [c] := own_snoc (l := []) ho1; clear ho1 hb1)
  go_ret
  exact ⟨_, rfl, hown, hB⟩
end Go.Proofs.YtpbhcjkllfonhaaGreat
