/-
  What haywaintop.TopKey returns: true, for all names and numbers, where the library's table of powers of ten holds what its text lays; nothing that was there is changed.
-/
import Derived.Test.YtcaopggeainpnaaDoorSpanHas
import Derived.Test.YtcaopggeainpnaaDoorRowKeys
import Derived.Test.YtcaopggeainpnaaDoorRowCheck
import Derived.Test.YtcaopggeainpnaaDoorSame
namespace Go.Proofs.YtcaopggeainpnaaDoor
open Go.RowKit Go.Joins

theorem numOf_in {n : Int} (h0 : 0 ≤ n) (h1 : n ≤ 999999) : numOf n = n.toNat := by unfold numOf; omega
theorem tab_x : tabB ⟨#[120]⟩ = ⟨#[116, 47, 120]⟩ := rfl
theorem tab_size (s : ByteArray) : (tabB s).size = s.size + 2 := by rw [Lib.size_eq, tabB_l, Lib.size_eq]; simp
theorem que_size (s : ByteArray) : (queB s).size = s.size + 2 := by rw [Lib.size_eq, queB_l, Lib.size_eq]; simp

set_option maxHeartbeats 1000000 in
theorem topKey_out (a b : ByteArray) (n m : Int) (w : World)
    (hh : 50 < a.size ∨ (a.size ≤ 50 ∧ 50 < b.size) ∨ (a.size ≤ 50 ∧ b.size ≤ 50 ∧ (nameL a.data.toList = false ∨ (nameL a.data.toList = true ∧ (nameL b.data.toList = false ∨ (nameL b.data.toList = true ∧ (n < 0 ∨ (0 ≤ n ∧ (999999 < n ∨ (n ≤ 999999 ∧ (m < 0 ∨ (0 ≤ m ∧ 999999 < m)))))))))))) :
    Calls Tryd.prog 5 #[.string a, .string b, .int .i64 n, .int .i64 m] w fun e w' => e = .returned (.bool true) ∧ Below w.heap.size w w' := by
  have f1 := tab_x
  rcases hh with h | ⟨h, h2⟩ | ⟨h, h2, h3 | ⟨h3, h4 | ⟨h4, h5 | ⟨h5, h6 | ⟨h6, h7 | ⟨h7, h8⟩⟩⟩⟩⟩⟩
  all_goals
    go_enter Tryd.func5, Tryd.ntmps5
    go_wp2_with (first
      | (go_at_call 13; refine (table_any _ _ (by first | decide | omega)).mono ?_; rintro e w1 ⟨rfl, rfl⟩)
      | (go_at_call 11; refine (name_any _ _).mono ?_; rintro e w1 ⟨rfl, rfl⟩))
    go_ret
    exact ⟨rfl, Below.refl _ _⟩

/-- what the walk asks of the two keys -/
structure KeyFacts (a b : ByteArray) (n m : Int) (ab nm : Bool) : Prop where
  f1 : ((msgB a (numOf n)).toList == (msgB b (numOf m)).toList) = (ab && nm)
  f2 : (a.toList == b.toList) = ab
  f3 : (n == m) = nm
  f4 : hasS (fromB a) (toB a) (msgB b (numOf m)) = ab
  f5 : ab = true → Op.bytesLess (msgB a (numOf n)).toList (msgB b (numOf m)).toList = decide (n < m)
  f6 : ((tabB a).toList == (queB b).toList) = false
  f7 : hasS (fromB a) (toB a) (tabB b) = false
  f8 : hasS (fromB a) (toB a) (queB b) = false
  f9 : ((tabB a).toList == (tabB b).toList) = ab
  ka : keyL (msgB a (numOf n)).data.toList = true
  kb : keyL (tabB a).data.toList = true
  kc : keyL (queB a).data.toList = true

theorem keyFacts {a b : ByteArray} {n m : Int} (ha : nameL a.data.toList = true) (hb : nameL b.data.toList = true) (hn : 0 ≤ n) (hn' : n ≤ 999999) (hm : 0 ≤ m) (hm' : m ≤ 999999) :
    KeyFacts a b n m (eqS a b) (n == m) := by
  have e1 := numOf_in hn hn'
  have e2 := numOf_in hm hm'
  have d : decide (numOf n = numOf m) = (n == m) := by rw [Bool.eq_iff_iff, decide_eq_true_eq, beq_iff_eq]; omega
  exact {
    f1 := (msg_eq ha hb (by omega) (by omega)).trans (by rw [d])
    f2 := rfl
    f3 := rfl
    f4 := span_msg ha hb _
    f5 := fun h => by
      have := (eqS_iff a b).1 h
      subst this
      refine (msg_lt a (by omega) (by omega)).trans ?_
      rw [decide_eq_decide]; omega
    f6 := tab_que a b
    f7 := span_tab a b
    f8 := span_que a b
    f9 := tab_eq a b
    ka := key_msg ha _
    kb := key_tab ha
    kc := key_que ha }

set_option maxHeartbeats 4000000 in
theorem topKey_in (a b : ByteArray) (n m : Int) (w : World) (ab nm : Bool) (ha : nameL a.data.toList = true) (hb : nameL b.data.toList = true) (has : a.size ≤ 6) (hbs : b.size ≤ 6)
    (hn : 0 ≤ n) (hn' : n ≤ 999999) (hm : 0 ≤ m) (hm' : m ≤ 999999) (F : KeyFacts a b n m ab nm)
    (htab : Lib.TabIs Tryd.prog w "internal/strconv.uint64pow10" .u64 Lib.pow10Tab) :
    Calls Tryd.prog 5 #[.string a, .string b, .int .i64 n, .int .i64 m] w fun e w' => e = .returned (.bool true) ∧ Below w.heap.size w w' := by
  obtain ⟨f1, f2, f3, f4, f5, f6, f7, f8, f9, ka, kb, kc⟩ := F
  have fx := tab_x
  have hB := Below.refl w.heap.size w
  have HT := hide htab
  have n1 := nil_neq_nil
  clear htab
  cases ab
  · clear f5
    have f5 : True := trivial
    go_enter Tryd.func5, Tryd.ntmps5
    go_wp2_with (first
      | (go_at_call 13; refine (table_any _ _ (by first | decide | omega)).mono ?_; rintro e w1 ⟨rfl, rfl⟩)
      | (go_at_call 14; refine (queue_any _ _ (by omega)).mono ?_; rintro e w1 ⟨rfl, rfl⟩)
      | (go_at_call 11; refine (name_any _ _).mono ?_; rintro e w1 ⟨rfl, rfl⟩)
      | (go_at_call 15; refine (message_any _ _ _ (by omega) (by omega) (by omega) (tab_on HT.out hB)).mono ?_; rintro e w1 ⟨rfl, hb⟩; replace hB := below_on hB (Nat.le_refl _) hb; clear hb)
      | (go_at_call 19; refine (check_any _ _ (by unfold maxLen; first | omega | (rw [msg_size]; omega) | (rw [tab_size]; omega) | (rw [que_size]; omega))).mono ?_; rintro e w1 ⟨rfl, hb⟩; replace hB := below_on hB (Nat.le_refl _) hb; clear hb; simp only [ka, kb, kc, errV, if_true])
      | (go_at_call 17; refine (messages_any _ _ (by omega)).mono ?_; rintro e w1 ⟨rfl, hb⟩; replace hB := below_on hB (Nat.le_refl _) hb; clear hb))
    have hb0 := below_alloc1 w1 (Obj.cells #[Value.string (fromB a), Value.string (toB a)] 39)
    replace hB := below_on hB (Nat.le_refl _) hb0
    have q0 : (w1.alloc (Obj.cells #[Value.string (fromB a), Value.string (toB a)] 39)).cell? ⟨w1.heap.size, 0, none⟩ = some (.string (fromB a)) := by simp
    have q1 : (w1.alloc (Obj.cells #[Value.string (fromB a), Value.string (toB a)] 39)).cell? ⟨w1.heap.size, 1, none⟩ = some (.string (toB a)) := by simp
    refine (has_any _ _ _ _).mono ?_
    rintro e w2 ⟨rfl, hb2⟩
    replace hB := below_on hB (Nat.le_refl _) hb2
    replace q0 := cell_on hb2 q0
    replace q1 := cell_on hb2 q1
    clear hb2 hb0
    go_wp2
    have nS := OnW.some w2
    have n2 : ∀ n : OnW w2, n.w.cell? ⟨w1.heap.size, 0, none⟩ = some (.string (fromB a)) := fun n => n.cell q0
    have n3 : ∀ n : OnW w2, n.w.cell? ⟨w1.heap.size, 1, none⟩ = some (.string (toB a)) := fun n => n.cell q1
    refine wp_region_on (by kernel_rfl) (by kernel_rfl) ?_
    repeat (go_big_quiet_step ((first
      | (go_at_call 13; exact on_same (table_any _ _ (by omega)))
      | (go_at_call 14; exact on_same (queue_any _ _ (by omega)))
      | (go_at_call 29; exact on_call (call_val (has_any _ _ _ _) (congrArg Value.bool f7)))
      | (go_at_call 29; exact on_call (call_val (has_any _ _ _ _) (congrArg Value.bool f8))))))
    refine wpQuiet_nil ?_
    intro w3 hw3
    replace hw3 := on_end hw3
    replace hB := below_on hB (Nat.le_refl _) hw3
    go_wp2
    go_ret
    exact ⟨rfl, hB⟩
  · replace f5 := f5 rfl
    go_enter Tryd.func5, Tryd.ntmps5
    go_wp2_with (first
      | (go_at_call 13; refine (table_any _ _ (by first | decide | omega)).mono ?_; rintro e w1 ⟨rfl, rfl⟩)
      | (go_at_call 14; refine (queue_any _ _ (by omega)).mono ?_; rintro e w1 ⟨rfl, rfl⟩)
      | (go_at_call 11; refine (name_any _ _).mono ?_; rintro e w1 ⟨rfl, rfl⟩)
      | (go_at_call 15; refine (message_any _ _ _ (by omega) (by omega) (by omega) (tab_on HT.out hB)).mono ?_; rintro e w1 ⟨rfl, hb⟩; replace hB := below_on hB (Nat.le_refl _) hb; clear hb)
      | (go_at_call 19; refine (check_any _ _ (by unfold maxLen; first | omega | (rw [msg_size]; omega) | (rw [tab_size]; omega) | (rw [que_size]; omega))).mono ?_; rintro e w1 ⟨rfl, hb⟩; replace hB := below_on hB (Nat.le_refl _) hb; clear hb; simp only [ka, kb, kc, errV, if_true])
      | (go_at_call 17; refine (messages_any _ _ (by omega)).mono ?_; rintro e w1 ⟨rfl, hb⟩; replace hB := below_on hB (Nat.le_refl _) hb; clear hb))
    have hb0 := below_alloc1 w1 (Obj.cells #[Value.string (fromB a), Value.string (toB a)] 39)
    replace hB := below_on hB (Nat.le_refl _) hb0
    have q0 : (w1.alloc (Obj.cells #[Value.string (fromB a), Value.string (toB a)] 39)).cell? ⟨w1.heap.size, 0, none⟩ = some (.string (fromB a)) := by simp
    have q1 : (w1.alloc (Obj.cells #[Value.string (fromB a), Value.string (toB a)] 39)).cell? ⟨w1.heap.size, 1, none⟩ = some (.string (toB a)) := by simp
    refine (has_any _ _ _ _).mono ?_
    rintro e w2 ⟨rfl, hb2⟩
    replace hB := below_on hB (Nat.le_refl _) hb2
    replace q0 := cell_on hb2 q0
    replace q1 := cell_on hb2 q1
    clear hb2 hb0
    go_wp2
    have nS := OnW.some w2
    have n2 : ∀ n : OnW w2, n.w.cell? ⟨w1.heap.size, 0, none⟩ = some (.string (fromB a)) := fun n => n.cell q0
    have n3 : ∀ n : OnW w2, n.w.cell? ⟨w1.heap.size, 1, none⟩ = some (.string (toB a)) := fun n => n.cell q1
    refine wp_region_on (by kernel_rfl) (by kernel_rfl) ?_
    repeat (go_big_quiet_step ((first
      | (go_at_call 13; exact on_same (table_any _ _ (by omega)))
      | (go_at_call 14; exact on_same (queue_any _ _ (by omega)))
      | (go_at_call 29; exact on_call (call_val (has_any _ _ _ _) (congrArg Value.bool f7)))
      | (go_at_call 29; exact on_call (call_val (has_any _ _ _ _) (congrArg Value.bool f8))))))
    refine wpQuiet_nil ?_
    intro w3 hw3
    replace hw3 := on_end hw3
    replace hB := below_on hB (Nat.le_refl _) hw3
    go_wp2
    go_ret
    exact ⟨rfl, hB⟩

theorem topKey_walk (a b : ByteArray) (n m : Int) (w : World) (htab : Lib.TabIs Tryd.prog w "internal/strconv.uint64pow10" .u64 Lib.pow10Tab) :
    Calls Tryd.prog 5 #[.string a, .string b, .int .i64 n, .int .i64 m] w fun e w' => e = .returned (.bool true) ∧ Below w.heap.size w w' := by
  by_cases h1 : 50 < a.size
  · exact topKey_out a b n m w (Or.inl h1)
  · by_cases h2 : 50 < b.size
    · exact topKey_out a b n m w (Or.inr (Or.inl ⟨by omega, h2⟩))
    · have out := fun h => topKey_out a b n m w (Or.inr (Or.inr ⟨by omega, by omega, h⟩))
      cases ha : nameL a.data.toList with
      | false => exact out (Or.inl ha)
      | true =>
        cases hb : nameL b.data.toList with
        | false => exact out (Or.inr ⟨ha, Or.inl hb⟩)
        | true =>
          by_cases h3 : n < 0
          · exact out (Or.inr ⟨ha, Or.inr ⟨hb, Or.inl h3⟩⟩)
          · by_cases h4 : 999999 < n
            · exact out (Or.inr ⟨ha, Or.inr ⟨hb, Or.inr ⟨by omega, Or.inl h4⟩⟩⟩)
            · by_cases h5 : m < 0
              · exact out (Or.inr ⟨ha, Or.inr ⟨hb, Or.inr ⟨by omega, Or.inr ⟨by omega, Or.inl h5⟩⟩⟩⟩)
              · by_cases h6 : 999999 < m
                · exact out (Or.inr ⟨ha, Or.inr ⟨hb, Or.inr ⟨by omega, Or.inr ⟨by omega, Or.inr ⟨by omega, h6⟩⟩⟩⟩⟩)
                · exact topKey_in a b n m w _ _ ha hb (name_size ha) (name_size hb) (by omega) (by omega) (by omega) (by omega) (keyFacts ha hb (by omega) (by omega) (by omega) (by omega)) htab
end Go.Proofs.YtcaopggeainpnaaDoor
