/-
  What change.place returns of changes that lie in memory; it changes nothing but the count of draws.
-/
import Derived.Test.YtkfpfbkdalbjoaaGreatChgMem
import Derived.Test.YtkfpfbkdalbjoaaGreatChgGrow
import Derived.Test.YtkfpfbkdalbjoaaGreatRowG
import Derived.Test.YtkfpfbkdalbjoaaGreatShelfClone
namespace Go.Proofs.YtkfpfbkdalbjoaaGreat
open Go.RowKit Go.Joins

set_option maxHeartbeats 1000000 in
theorem place_some (l : List Chg) (b off cap : Nat) (key : ByteArray) (w : World) (hl : chgsAt w b off l) (hn : l.length ≤ 9223372036854775806) :
    Calls Tryz.prog 58 #[.slice (some ⟨b, off, none⟩) l.length cap, .string key] w fun e w' => e = .returned (.tuple #[.int .i64 (placeL l key), .bool (foundL l key)]) ∧ Below w.heap.size w w' := by
  go_enter Tryz.func58, Tryz.ntmps58
  go_wp2
  go_loop [4] (fun i => ∃ k : Nat, k ≤ l.length ∧ i = .int .i64 k ∧ k ≤ placeL l key) (fun i => l.length - (intOf i).toNat)
  case atStart => exact ⟨0, Nat.zero_le _, rfl, Nat.zero_le _⟩
  case round =>
    obtain ⟨k, hk, rfl, hp⟩ := hrel
    by_cases hlt : k < l.length
    · obtain ⟨c0, _, _⟩ := hl k hlt
      have hlt' : (k : Int) < (l.length : Int) := by omega
      cases hc : ltS l[k].key key with
      | true =>
        have hc' : Op.bytesLess l[k].key.toList key.toList = true := hc
        have HP := hide (placeL_take hp hlt hc)
        clear hc
        go_wp2
        go_round
        case rel => exact ⟨k + 1, by omega, by go_num, HP.out⟩
        case measure => simp [intOf]; omega
      | false =>
        have hc' : Op.bytesLess l[k].key.toList key.toList = false := hc
        have HE := hide (placeL_eq hp (fun _ => hc))
        have HF := hide (show foundL l key = (l[k].key.toList == key.toList) by rw [foundL, HE.out, List.getElem?_eq_getElem hlt]; rfl)
        clear hc
        go_wp2
        go_quiet (fail)
        go_wp2
        go_ret2
        exact ⟨by rw [HE.out, HF.out]; rfl, below_draws _ _ _⟩
    · have HE := hide (placeL_eq hp (fun h => absurd h hlt))
      have HF := hide (show foundL l key = false by rw [foundL, HE.out, List.getElem?_eq_none (by omega)])
      have hd : decide ((k : Int) < (l.length : Int)) = false := by simp; omega
      go_wp2
      go_quiet (fail)
      go_wp2
      go_ret2
      exact ⟨by rw [HE.out, HF.out]; rfl, below_draws _ _ _⟩
set_option maxHeartbeats 1000000 in
theorem place_nil (ao : Option Addr) (cap : Nat) (key : ByteArray) (w : World) :
    Calls Tryz.prog 58 #[.slice ao 0 cap, .string key] w fun e w' => e = .returned (.tuple #[.int .i64 0, .bool false]) ∧ Below w.heap.size w w' := by
  go_enter Tryz.func58, Tryz.ntmps58
  go_wp2
  refine wp_loop_rounds 1 ?_
  rw [rounds_succ]
  go_wp2
  go_quiet (fail)
  go_wp2
  go_ret2
  exact ⟨rfl, below_draws _ _ _⟩
end Go.Proofs.YtkfpfbkdalbjoaaGreat

/-
  What change.Put and change.Find return, of changes that lie in memory, of nil and of none; nothing that was there is changed.
-/
namespace Go.Proofs.YtkfpfbkdalbjoaaGreat
open Go.RowKit Go.Joins
attribute [local go_sem ↓] Go.wp_at_zero Go.wp_at_succ

theorem putL_length (l : List Chg) (p q : Nat) (c : Chg) (hp : p ≤ l.length) : (l.take p ++ c :: l.drop q).length = p + 1 + (l.length - q) := by
  simp [List.length_take]; omega
set_option maxHeartbeats 2000000 in
theorem concat_put (W : World) (b off cap p q : Nat) (l : List Chg) (c : Chg) (hl : chgsAt W b off l) (hp : p ≤ l.length) (hq : q ≤ l.length) (hc : l.length ≤ cap) (hn : l.length ≤ 1000) :
    Calls Tryz.prog 59 #[.slice (some ⟨W.heap.size + 1, 0, none⟩) 3 3]
      ((W.alloc (Obj.cells #[Value.string c.key, Value.string c.val, Value.bool c.gone] 54)).alloc (Obj.cells #[Value.slice (some ⟨b, off, none⟩) p cap, Value.slice (some ⟨W.heap.size, 0, none⟩) 1 1, Value.slice (if cap = q then some ⟨b, off, none⟩ else some ⟨b, off + q * 3, none⟩) (l.length - q) (cap - q)] 40)).drew fun e w' =>
        ∃ v, e = .returned v ∧ ownCh w' W.heap.size v (l.take p ++ c :: l.drop q) ∧ Below W.heap.size W w' := by
  have hB := (below_alloc2 W (Obj.cells #[Value.string c.key, Value.string c.val, Value.bool c.gone] 54) (Obj.cells #[Value.slice (some ⟨b, off, none⟩) p cap, Value.slice (some ⟨W.heap.size, 0, none⟩) 1 1, Value.slice (if cap = q then some ⟨b, off, none⟩ else some ⟨b, off + q * 3, none⟩) (l.length - q) (cap - q)] 40)).drew
  generalize hX : ((W.alloc (Obj.cells #[Value.string c.key, Value.string c.val, Value.bool c.gone] 54)).alloc (Obj.cells #[Value.slice (some ⟨b, off, none⟩) p cap, Value.slice (some ⟨W.heap.size, 0, none⟩) 1 1, Value.slice (if cap = q then some ⟨b, off, none⟩ else some ⟨b, off + q * 3, none⟩) (l.length - q) (cap - q)] 40)).drew = X at hB ⊢
  have g0 : X.cell? ⟨W.heap.size + 1, 0, none⟩ = some (.slice (some ⟨b, off, none⟩) p cap) := by rw [← hX]; simp
  have g1 : X.cell? ⟨W.heap.size + 1, 1, none⟩ = some (.slice (some ⟨W.heap.size, 0, none⟩) 1 1) := by rw [← hX]; simp
  have g2 : X.cell? ⟨W.heap.size + 1, 2, none⟩ = some (Value.slice (if cap = q then some ⟨b, off, none⟩ else some ⟨b, off + q * 3, none⟩) (l.length - q) (cap - q)) := by rw [← hX]; simp
  have k1 : chgsAt X W.heap.size 0 [c] := by
    intro i hi
    have e : i = 0 := by simp at hi; omega
    subst e
    rw [← hX]
    simp
  have s1 := src_of (chgsAt_take (chgsAt_on hB hl) p) cap
  rw [List.length_take, Nat.min_eq_left hp] at s1
  have s2 := src_of k1 1
  have s3 : chSrc X (if cap = q then some ⟨b, off, none⟩ else some ⟨b, off + q * 3, none⟩) (l.length - q) (cap - q) (cellsL (l.drop q)) := by
    by_cases e : cap = q
    · rw [if_pos e]
      have e2 : l.drop q = [] := List.drop_eq_nil_of_le (by omega)
      have e3 : l.length - q = 0 := by omega
      rw [e2, e3]
      exact src_empty X _ _
    · rw [if_neg e]
      have := src_of (chgsAt_drop (chgsAt_on hB hl) q) (cap - q)
      rwa [List.length_drop] at this
  refine (concat_any (W.heap.size + 1) _ _ _ p 1 (l.length - q) _ _ _ _ _ _ X g0 g1 g2 s1 s2 s3 (by omega) (by omega)).mono ?_
  rintro e w' ⟨v, rfl, ho, hb⟩
  refine ⟨v, rfl, ?_, below_on hB (Nat.le_refl _) hb⟩
  unfold ownCh
  rw [putL_length l p q c hp]
  have e : cellsL (l.take p ++ c :: l.drop q) = cellsL (l.take p) ++ cellsL [c] ++ cellsL (l.drop q) := by
    rw [cellsL_append, List.append_assoc]
    congr 1
  rw [e]
  exact ownsRow_le ho hB.size

set_option maxHeartbeats 2000000 in
theorem concat_one (W : World) (c : Chg) :
    Calls Tryz.prog 59 #[.slice (some ⟨W.heap.size + 1, 0, none⟩) 3 3]
      ((W.alloc (Obj.cells #[Value.string c.key, Value.string c.val, Value.bool c.gone] 54)).alloc (Obj.cells #[Value.slice none 0 0, Value.slice (some ⟨W.heap.size, 0, none⟩) 1 1, Value.slice none 0 0] 40)).drew fun e w' =>
        ∃ v, e = .returned v ∧ ownCh w' W.heap.size v [c] ∧ Below W.heap.size W w' := by
  have hB := (below_alloc2 W (Obj.cells #[Value.string c.key, Value.string c.val, Value.bool c.gone] 54) (Obj.cells #[Value.slice none 0 0, Value.slice (some ⟨W.heap.size, 0, none⟩) 1 1, Value.slice none 0 0] 40)).drew
  generalize hX : ((W.alloc (Obj.cells #[Value.string c.key, Value.string c.val, Value.bool c.gone] 54)).alloc (Obj.cells #[Value.slice none 0 0, Value.slice (some ⟨W.heap.size, 0, none⟩) 1 1, Value.slice none 0 0] 40)).drew = X at hB ⊢
  have g0 : X.cell? ⟨W.heap.size + 1, 0, none⟩ = some (.slice none 0 0) := by rw [← hX]; simp
  have g1 : X.cell? ⟨W.heap.size + 1, 1, none⟩ = some (.slice (some ⟨W.heap.size, 0, none⟩) 1 1) := by rw [← hX]; simp
  have g2 : X.cell? ⟨W.heap.size + 1, 2, none⟩ = some (.slice none 0 0) := by rw [← hX]; simp
  have k1 : chgsAt X W.heap.size 0 [c] := by
    intro i hi
    have e : i = 0 := by simp at hi; omega
    subst e
    rw [← hX]
    simp
  refine (concat_any (W.heap.size + 1) _ _ _ 0 1 0 _ _ _ _ _ _ X g0 g1 g2 (src_none X) (src_of k1 1) (src_none X) (by omega) (by omega)).mono ?_
  rintro e w' ⟨v, rfl, ho, hb⟩
  exact ⟨v, rfl, ownsRow_le ho hB.size, below_on hB (Nat.le_refl _) hb⟩

set_option maxHeartbeats 4000000 in
theorem put_some (l : List Chg) (b off cap : Nat) (c : Chg) (w : World) (hl : chgsAt w b off l) (hc : l.length ≤ cap) (hcap : cap ≤ 9223372036854775807) (hn : l.length ≤ 1000) :
    Calls Tryz.prog 40 #[.slice (some ⟨b, off, none⟩) l.length cap, .agg #[.string c.key, .string c.val, .bool c.gone]] w fun e w' =>
      ∃ v, e = .returned v ∧ ownCh w' w.heap.size v (putL l c) ∧ Below w.heap.size w w' := by
  have hB := below_alloc1 w (Obj.cells #[Value.string c.key, Value.string c.val, Value.bool c.gone] 54)
  have a0 : (w.alloc (Obj.cells #[Value.string c.key, Value.string c.val, Value.bool c.gone] 54)).cell? ⟨w.heap.size, 0, none⟩ = some (.string c.key) := by simp
  have a1 : (w.alloc (Obj.cells #[Value.string c.key, Value.string c.val, Value.bool c.gone] 54)).cell? ⟨w.heap.size, 1, none⟩ = some (.string c.val) := by simp
  have a2 : (w.alloc (Obj.cells #[Value.string c.key, Value.string c.val, Value.bool c.gone] 54)).cell? ⟨w.heap.size, 2, none⟩ = some (.bool c.gone) := by simp
  have hple := placeL_le l c.key
  have HP := fun w' (h : Below w.heap.size w w') => hide (place_some l b off cap c.key w' (chgsAt_on h hl) (by omega))
  have hlt : foundL l c.key = true → placeL l c.key < l.length := fun h => by
    rcases Nat.lt_or_ge (placeL l c.key) l.length with k | k
    · exact k
    · rw [foundL, List.getElem?_eq_none k] at h; cases h
  unfold putL
  generalize placeL l c.key = p at *
  generalize foundL l c.key = fd at *
  cases fd
  · clear hlt
    simp only [Bool.false_eq_true, if_false]
    go_enter Tryz.func40, Tryz.ntmps40
    go_wp2_with fail
    refine ((HP _ hB).out).mono ?_
    rintro e w1 ⟨rfl, hb⟩
    replace hB := below_on hB (Nat.le_refl _) hb
    replace a0 := cell_on hb a0
    replace a1 := cell_on hb a1
    replace a2 := cell_on hb a2
    have i0 : (0 : Int) ≤ (p : Int) := by omega
    have i1 : (p : Int) ≤ (l.length : Int) := by omega
    have i2 : (p : Int) ≤ (cap : Int) := by omega
    have i3 : (l.length : Int) ≤ (cap : Int) := by omega
    have m0 := World.new_ne w1 _ a0
    have m1 := World.new_ne w1 _ a1
    have m2 := World.new_ne w1 _ a2
    have HC := hide (concat_put w1 b off cap p p l c (chgsAt_on hB hl) (by omega) (by omega) (by omega) hn)
    go_wp2
    go_region_held3 (fun w' => w'.cell? ⟨w.heap.size, 0, none⟩ = some (.string c.key) ∧ w'.cell? ⟨w.heap.size, 1, none⟩ = some (.string c.val) ∧ w'.cell? ⟨w.heap.size, 2, none⟩ = some (.bool c.gone)) (first | go_keep | exact ⟨cell_on hb2 a0, cell_on hb2 a1, cell_on hb2 a2⟩) (first | (go_at_call 59; refine HC.out.mono ?_; rintro e w2 ⟨v, rfl, ho, hb2⟩; dsimp only))
    go_wp2
    all_goals
      go_ret
      exact ⟨v, rfl, ownCh_le ho hB.size, below_on hB (Nat.le_refl _) hb2⟩
  · have hlt' := hlt rfl
    clear hlt
    simp only [if_true]
    go_enter Tryz.func40, Tryz.ntmps40
    go_wp2_with fail
    refine ((HP _ hB).out).mono ?_
    rintro e w1 ⟨rfl, hb⟩
    replace hB := below_on hB (Nat.le_refl _) hb
    replace a0 := cell_on hb a0
    replace a1 := cell_on hb a1
    replace a2 := cell_on hb a2
    have i0 : (0 : Int) ≤ (p : Int) := by omega
    have i1 : (p : Int) ≤ (l.length : Int) := by omega
    have i2 : (p : Int) ≤ (cap : Int) := by omega
    have i3 : (l.length : Int) ≤ (cap : Int) := by omega
    have i4 : (0 : Int) ≤ (p : Int) + 1 := by omega
    have i5 : (p : Int) + 1 ≤ (l.length : Int) := by omega
    have i6 : (p : Int) + 1 ≤ (cap : Int) := by omega
    have m0 := World.new_ne w1 _ a0
    have m1 := World.new_ne w1 _ a1
    have m2 := World.new_ne w1 _ a2
    have HC := hide (concat_put w1 b off cap p (p + 1) l c (chgsAt_on hB hl) (by omega) (by omega) (by omega) hn)
    go_wp2
    go_region_held3 (fun w' => w'.cell? ⟨w.heap.size, 0, none⟩ = some (.string c.key) ∧ w'.cell? ⟨w.heap.size, 1, none⟩ = some (.string c.val) ∧ w'.cell? ⟨w.heap.size, 2, none⟩ = some (.bool c.gone)) (first | go_keep | exact ⟨cell_on hb2 a0, cell_on hb2 a1, cell_on hb2 a2⟩) (first | (go_at_call 59; refine HC.out.mono ?_; rintro e w2 ⟨v, rfl, ho, hb2⟩; dsimp only))
    go_wp2
    all_goals
      go_ret
      exact ⟨v, rfl, ownCh_le ho hB.size, below_on hB (Nat.le_refl _) hb2⟩

theorem chgsAt_none (w : World) (b off : Nat) : chgsAt w b off [] := fun i hi => by simp at hi
theorem place_nothing (key : ByteArray) : placeL [] key = 0 := rfl

set_option maxHeartbeats 4000000 in
theorem put_nil (c : Chg) (w : World) :
    Calls Tryz.prog 40 #[.slice none 0 0, .agg #[.string c.key, .string c.val, .bool c.gone]] w fun e w' =>
      ∃ v, e = .returned v ∧ ownCh w' w.heap.size v [c] ∧ Below w.heap.size w w' := by
  have hB := below_alloc1 w (Obj.cells #[Value.string c.key, Value.string c.val, Value.bool c.gone] 54)
  have a0 : (w.alloc (Obj.cells #[Value.string c.key, Value.string c.val, Value.bool c.gone] 54)).cell? ⟨w.heap.size, 0, none⟩ = some (.string c.key) := by simp
  have a1 : (w.alloc (Obj.cells #[Value.string c.key, Value.string c.val, Value.bool c.gone] 54)).cell? ⟨w.heap.size, 1, none⟩ = some (.string c.val) := by simp
  have a2 : (w.alloc (Obj.cells #[Value.string c.key, Value.string c.val, Value.bool c.gone] 54)).cell? ⟨w.heap.size, 2, none⟩ = some (.bool c.gone) := by simp
  have HP := fun w' => hide (place_nil none 0 c.key w')
  go_enter Tryz.func40, Tryz.ntmps40
  go_wp2_with fail
  refine ((HP _).out).mono ?_
  rintro e w1 ⟨rfl, hb⟩
  replace hB := below_on hB (Nat.le_refl _) hb
  replace a0 := cell_on hb a0
  replace a1 := cell_on hb a1
  replace a2 := cell_on hb a2
  have m0 := World.new_ne w1 _ a0
  have m1 := World.new_ne w1 _ a1
  have m2 := World.new_ne w1 _ a2
  have HC := hide (concat_one w1 c)
  go_wp2
  go_region_held3 (fun w' => w'.cell? ⟨w.heap.size, 0, none⟩ = some (.string c.key) ∧ w'.cell? ⟨w.heap.size, 1, none⟩ = some (.string c.val) ∧ w'.cell? ⟨w.heap.size, 2, none⟩ = some (.bool c.gone)) (first | go_keep | exact ⟨cell_on hb2 a0, cell_on hb2 a1, cell_on hb2 a2⟩) (first | (go_at_call 59; refine HC.out.mono ?_; rintro e w2 ⟨v, rfl, ho, hb2⟩; dsimp only))
  go_wp2
  all_goals
    go_ret
    exact ⟨v, rfl, ownCh_le ho hB.size, below_on hB (Nat.le_refl _) hb2⟩
end Go.Proofs.YtkfpfbkdalbjoaaGreat

/-
  Changes in a row of one's own: cloned, and put.
-/
namespace Go.Proofs.YtkfpfbkdalbjoaaGreat
open Go.RowKit Go.Joins Go.Shelf Go.Lib Go.WideShapes

/-- changes of a row of one's own, cloned -/
theorem clone_own (l : List Chg) (v : Value) (B : Nat) (w : World) (h : ownCh w B v l) (hl : l.length ≤ 1000000) :
    Calls Tryz.prog 39 #[v] w fun e w' => ∃ v', e = .returned v' ∧ ownCh w' w.heap.size v' l ∧ Below w.heap.size w w' := by
  obtain ⟨i0, hi0, hz0, hz1, hz2⟩ := info_parts chg_facts
  rcases own_form h with ⟨rfl, h0⟩ | ⟨g, cap, rfl, _⟩
  · refine (AnyE.slices_Clone_nil Tryz.cloneC 0 0 w).mono ?_
    rintro e w' ⟨rfl, rfl⟩
    have e : l = [] := List.length_eq_zero_iff.1 h0
    subst e
    exact ⟨_, rfl, World.ownsRow_nil _ _ _ _, Below.refl _ _⟩
  · refine (AnyE.slices_Clone Tryz.cloneC i0 _ 3 40 hi0 hz0 hz1 hz2 rfl (by omega) Tryz.sizeOf54 g 0 l.length cap (cellsL l) w (cellsL_length l) (by unfold maxLen; omega) (by omega) (fun j u hj => ?_) (cellsL_one l)).mono ?_
    · have := World.ownsRow.cells h (g := g) rfl j u hj
      rw [Go.WideShapes.add_plain] at this
      simpa using this
    · rintro e w' ⟨v', rfl, ho, _, hb⟩
      exact ⟨v', rfl, ho, hb⟩
theorem put_own (l : List Chg) (c : Chg) (v : Value) (B : Nat) (w : World) (h : ownCh w B v l) (hn : l.length ≤ 1000) :
    Calls Tryz.prog 40 #[v, .agg #[.string c.key, .string c.val, .bool c.gone]] w fun e w' => ∃ g cap, e = .returned (.slice (some ⟨g, 0, none⟩) (insL l c).length cap) ∧ ownCh w' w.heap.size (.slice (some ⟨g, 0, none⟩) (insL l c).length cap) (insL l c) ∧ Below w.heap.size w w' := by
  have fin : ∀ {w' : World} {u : Value}, ownCh w' w.heap.size u (insL l c) → ∃ g cap, u = .slice (some ⟨g, 0, none⟩) (insL l c).length cap := fun ho => by
    obtain ⟨g, cap, e, _⟩ := own_chgs ho (ins_some l c)
    exact ⟨g, cap, e⟩
  rcases own_form h with ⟨rfl, h0⟩ | ⟨g, cap, rfl, _, _, hc, hm⟩
  · have e : l = [] := List.length_eq_zero_iff.1 h0
    subst e
    refine (put_nil c w).mono ?_
    rintro e w' ⟨u, rfl, ho, hb⟩
    obtain ⟨g, cap, rfl⟩ := fin (u := u) ho
    exact ⟨g, cap, rfl, ho, hb⟩
  · have hch : chgsAt w g 0 l := chgs_of_cells l 0 fun j u hj => by
      have := World.ownsRow.cells h (g := g) rfl j u hj
      rwa [Go.WideShapes.add_plain] at this
    refine (put_some l g 0 cap c w hch hc (by unfold maxLen at hm; omega) hn).mono ?_
    rintro e w' ⟨u, rfl, ho, hb⟩
    rw [putL_ins] at ho
    obtain ⟨g2, cap2, rfl⟩ := fin (u := u) ho
    exact ⟨g2, cap2, rfl, ho, hb⟩
end Go.Proofs.YtkfpfbkdalbjoaaGreat
