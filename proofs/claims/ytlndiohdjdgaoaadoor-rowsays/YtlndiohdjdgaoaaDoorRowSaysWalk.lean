/-
  What haywainlaw.RowSays returns: true, of all names, keys, numbers, queues, messages and texts, where the library's table and errors hold what its text lays; nothing that was there is changed.
-/
import Derived.Test.YtlndiohdjdgaoaaDoorRowBoth
namespace Go.Proofs.YtlndiohdjdgaoaaDoor
open Go.RowKit Go.Joins

set_option maxHeartbeats 2000000 in
set_option maxRecDepth 4000 in
theorem rowSays_heavy (name key s d b : ByteArray) (n x y k t u : Int) (w : World) (hL : Laid w) (hh : 50 < name.size ∨ (name.size ≤ 50 ∧ 60 < key.size) ∨ (name.size ≤ 50 ∧ key.size ≤ 60 ∧ 100 < s.size) ∨ (name.size ≤ 50 ∧ key.size ≤ 60 ∧ s.size ≤ 100 ∧ 50 < d.size) ∨ (name.size ≤ 50 ∧ key.size ≤ 60 ∧ s.size ≤ 100 ∧ d.size ≤ 50 ∧ 100 < b.size)) :
    Calls Tryd.prog 4 #[.string name, .string key, .int .i64 n, .agg #[.int .i64 x, .int .i64 y, .string d], .agg #[.int .i64 k, .int .i64 t, .int .i64 u, .string b], .string s] w fun e w' => e = .returned (.bool true) ∧ Below w.heap.size w w' := by
  have hB : Below w.heap.size w ((w.alloc (Obj.cells #[Value.int .i64 x, Value.int .i64 y, Value.string d] 32)).alloc (Obj.cells #[Value.int .i64 k, Value.int .i64 t, Value.int .i64 u, Value.string b] 34)) := below_alloc2 _ _ _
  have a0 : ((w.alloc (Obj.cells #[Value.int .i64 x, Value.int .i64 y, Value.string d] 32)).alloc (Obj.cells #[Value.int .i64 k, Value.int .i64 t, Value.int .i64 u, Value.string b] 34)).cell? ⟨w.heap.size, 0, none⟩ = some (Value.int .i64 x) := by simp
  have a1 : ((w.alloc (Obj.cells #[Value.int .i64 x, Value.int .i64 y, Value.string d] 32)).alloc (Obj.cells #[Value.int .i64 k, Value.int .i64 t, Value.int .i64 u, Value.string b] 34)).cell? ⟨w.heap.size, 1, none⟩ = some (Value.int .i64 y) := by simp
  have a2 : ((w.alloc (Obj.cells #[Value.int .i64 x, Value.int .i64 y, Value.string d] 32)).alloc (Obj.cells #[Value.int .i64 k, Value.int .i64 t, Value.int .i64 u, Value.string b] 34)).cell? ⟨w.heap.size, 2, none⟩ = some (Value.string d) := by simp
  have b0 : ((w.alloc (Obj.cells #[Value.int .i64 x, Value.int .i64 y, Value.string d] 32)).alloc (Obj.cells #[Value.int .i64 k, Value.int .i64 t, Value.int .i64 u, Value.string b] 34)).cell? ⟨w.heap.size + 1, 0, none⟩ = some (Value.int .i64 k) := by simp
  have b1 : ((w.alloc (Obj.cells #[Value.int .i64 x, Value.int .i64 y, Value.string d] 32)).alloc (Obj.cells #[Value.int .i64 k, Value.int .i64 t, Value.int .i64 u, Value.string b] 34)).cell? ⟨w.heap.size + 1, 1, none⟩ = some (Value.int .i64 t) := by simp
  have b2 : ((w.alloc (Obj.cells #[Value.int .i64 x, Value.int .i64 y, Value.string d] 32)).alloc (Obj.cells #[Value.int .i64 k, Value.int .i64 t, Value.int .i64 u, Value.string b] 34)).cell? ⟨w.heap.size + 1, 2, none⟩ = some (Value.int .i64 u) := by simp
  have b3 : ((w.alloc (Obj.cells #[Value.int .i64 x, Value.int .i64 y, Value.string d] 32)).alloc (Obj.cells #[Value.int .i64 k, Value.int .i64 t, Value.int .i64 u, Value.string b] 34)).cell? ⟨w.heap.size + 1, 3, none⟩ = some (Value.string b) := by simp
  have HT := hide hL
  clear hL
  have h5 : (50 : Int) < (name.size : Int) ∨ ((name.size : Int) ≤ 50 ∧ (60 : Int) < (key.size : Int)) ∨ ((name.size : Int) ≤ 50 ∧ (key.size : Int) ≤ 60 ∧ (100 : Int) < (s.size : Int)) ∨ ((name.size : Int) ≤ 50 ∧ (key.size : Int) ≤ 60 ∧ (s.size : Int) ≤ 100 ∧ (50 : Int) < (d.size : Int)) ∨ ((name.size : Int) ≤ 50 ∧ (key.size : Int) ≤ 60 ∧ (s.size : Int) ≤ 100 ∧ (d.size : Int) ≤ 50 ∧ (100 : Int) < (b.size : Int)) := by omega
  clear hh
  rcases h5 with h1 | ⟨h1, h2⟩ | ⟨h1, h2, h3⟩ | ⟨h1, h2, h3, h4⟩ | ⟨h1, h2, h3, h4, h5⟩
  all_goals
    go_enter Tryd.func4, Tryd.ntmps4
    go_wp2_with (go_at_call 10; refine (keys_any _ (laid_on HT.out hB)).mono ?_; rintro e w1 ⟨rfl, hb⟩; replace hB := below_on hB (Nat.le_refl _) hb; replace a0 := cell_on hb a0; replace a1 := cell_on hb a1; replace a2 := cell_on hb a2; replace b0 := cell_on hb b0; replace b1 := cell_on hb b1; replace b2 := cell_on hb b2; replace b3 := cell_on hb b3; clear hb)
    go_ret
    exact ⟨rfl, hB⟩

set_option maxHeartbeats 8000000 in
set_option maxRecDepth 4000 in
theorem rowSays_light (name key s d b : ByteArray) (n x y k t u : Int) (w : World) (hL : Laid w) (h1 : name.size ≤ 50) (h2 : key.size ≤ 60) (h3 : s.size ≤ 100) (h4 : d.size ≤ 50) (h5 : b.size ≤ 100) (hn0 : -9223372036854775808 ≤ n) (hn1 : n ≤ 9223372036854775807) :
    Calls Tryd.prog 4 #[.string name, .string key, .int .i64 n, .agg #[.int .i64 x, .int .i64 y, .string d], .agg #[.int .i64 k, .int .i64 t, .int .i64 u, .string b], .string s] w fun e w' => e = .returned (.bool true) ∧ Below w.heap.size w w' := by
  have hB : Below w.heap.size w ((w.alloc (Obj.cells #[Value.int .i64 x, Value.int .i64 y, Value.string d] 32)).alloc (Obj.cells #[Value.int .i64 k, Value.int .i64 t, Value.int .i64 u, Value.string b] 34)) := below_alloc2 _ _ _
  have a0 : ((w.alloc (Obj.cells #[Value.int .i64 x, Value.int .i64 y, Value.string d] 32)).alloc (Obj.cells #[Value.int .i64 k, Value.int .i64 t, Value.int .i64 u, Value.string b] 34)).cell? ⟨w.heap.size, 0, none⟩ = some (Value.int .i64 x) := by simp
  have a1 : ((w.alloc (Obj.cells #[Value.int .i64 x, Value.int .i64 y, Value.string d] 32)).alloc (Obj.cells #[Value.int .i64 k, Value.int .i64 t, Value.int .i64 u, Value.string b] 34)).cell? ⟨w.heap.size, 1, none⟩ = some (Value.int .i64 y) := by simp
  have a2 : ((w.alloc (Obj.cells #[Value.int .i64 x, Value.int .i64 y, Value.string d] 32)).alloc (Obj.cells #[Value.int .i64 k, Value.int .i64 t, Value.int .i64 u, Value.string b] 34)).cell? ⟨w.heap.size, 2, none⟩ = some (Value.string d) := by simp
  have b0 : ((w.alloc (Obj.cells #[Value.int .i64 x, Value.int .i64 y, Value.string d] 32)).alloc (Obj.cells #[Value.int .i64 k, Value.int .i64 t, Value.int .i64 u, Value.string b] 34)).cell? ⟨w.heap.size + 1, 0, none⟩ = some (Value.int .i64 k) := by simp
  have b1 : ((w.alloc (Obj.cells #[Value.int .i64 x, Value.int .i64 y, Value.string d] 32)).alloc (Obj.cells #[Value.int .i64 k, Value.int .i64 t, Value.int .i64 u, Value.string b] 34)).cell? ⟨w.heap.size + 1, 1, none⟩ = some (Value.int .i64 t) := by simp
  have b2 : ((w.alloc (Obj.cells #[Value.int .i64 x, Value.int .i64 y, Value.string d] 32)).alloc (Obj.cells #[Value.int .i64 k, Value.int .i64 t, Value.int .i64 u, Value.string b] 34)).cell? ⟨w.heap.size + 1, 2, none⟩ = some (Value.int .i64 u) := by simp
  have b3 : ((w.alloc (Obj.cells #[Value.int .i64 x, Value.int .i64 y, Value.string d] 32)).alloc (Obj.cells #[Value.int .i64 k, Value.int .i64 t, Value.int .i64 u, Value.string b] 34)).cell? ⟨w.heap.size + 1, 3, none⟩ = some (Value.string b) := by simp
  have HT := hide hL
  clear hL
  have i1 : ¬ (50 : Int) < (name.size : Int) := by omega
  have i2 : ¬ (60 : Int) < (key.size : Int) := by omega
  have i3 : ¬ (100 : Int) < (s.size : Int) := by omega
  have i4 : ¬ (50 : Int) < (d.size : Int) := by omega
  have i5 : ¬ (100 : Int) < (b.size : Int) := by omega
  have HM1 := fun w' (h : Laid w') => hide (message_any name n w' (by omega) hn0 hn1 h.tab)
  have HM2 := fun w' => hide (messageKey_any name n w' (by omega) hn1)
  have em : msgB name (numOf n) = msgB name ((max n 0).toNat % 1000000) := rfl
  rw [em] at HM1
  generalize msgB name ((max n 0).toNat % 1000000) = mk at HM1 HM2
  clear em hn0 hn1
  have HK1 := fun w' => hide (check_any key w' (by unfold maxLen; omega))
  have HK2 := fun w' => hide (keyFault_any key w' (by omega))
  have ek : (if keyL key.data.toList then 0 else 3) = faultK key.data.toList := rfl
  rw [ek] at HK1
  generalize faultK key.data.toList = fk at HK1 HK2
  clear ek
  obtain ⟨T1, g1, hq1, hq2, _⟩ := queueText_both x y d (by omega)
  obtain ⟨qa, qb, qr, g2, hp1, hp2⟩ := queueOf_both s h3
  obtain ⟨T3, g3, ht1, ht2, _⟩ := messageText_both k t u b (by omega)
  obtain ⟨mz, ma, mb, mr, g4, hr1, hr2⟩ := messageOf_both s n h3
  have HQ1 := fun w' (h : Laid w') => hide (hq1 w' h)
  have HQ2 := fun w' => hide (hq2 w')
  have HP1 := fun w' (h : Laid w') => hide (hp1 w' h)
  have HP2 := fun w' => hide (hp2 w')
  have HT1 := fun w' (h : Laid w') => hide (ht1 w' h)
  have HT2 := fun w' => hide (ht2 w')
  have HR1 := fun w' (h : Laid w') => hide (hr1 w' h)
  have HR2 := fun w' => hide (hr2 w')
  clear hq1 hq2 hp1 hp2 ht1 ht2 hr1 hr2
  have s1 : tabB name = ⟨#[116, 47]⟩ ++ name := rfl
  have s2 : queB name = ⟨#[113, 47]⟩ ++ name := rfl
  go_enter Tryd.func4, Tryd.ntmps4
  go_wp2_with (first
    | (go_at_call 10; refine (keys_any _ (laid_on HT.out hB)).mono ?_; rintro e w1 ⟨rfl, hb⟩; replace hB := below_on hB (Nat.le_refl _) hb; replace a0 := cell_on hb a0; replace a1 := cell_on hb a1; replace a2 := cell_on hb a2; replace b0 := cell_on hb b0; replace b1 := cell_on hb b1; replace b2 := cell_on hb b2; replace b3 := cell_on hb b3; clear hb)
    | (go_at_call 11; refine (name_any _ _).mono ?_; rintro e w1 ⟨rfl, rfl⟩)
    | (go_at_call 12; refine (nameMay_any _ _).mono ?_; rintro e w1 ⟨rfl, rfl⟩)
    | (go_at_call 13; refine (table_any _ _ (by omega)).mono ?_; rintro e w1 ⟨rfl, rfl⟩)
    | (go_at_call 14; refine (queue_any _ _ (by omega)).mono ?_; rintro e w1 ⟨rfl, rfl⟩)
    | (go_at_call 15; refine ((HM1 _ (laid_on HT.out hB)).out).mono ?_; rintro e w1 ⟨rfl, hb⟩; replace hB := below_on hB (Nat.le_refl _) hb; replace a0 := cell_on hb a0; replace a1 := cell_on hb a1; replace a2 := cell_on hb a2; replace b0 := cell_on hb b0; replace b1 := cell_on hb b1; replace b2 := cell_on hb b2; replace b3 := cell_on hb b3; clear hb)
    | (go_at_call 16; refine ((HM2 _).out).mono ?_; rintro e w1 ⟨rfl, hb⟩; replace hB := below_on hB (Nat.le_refl _) hb; replace a0 := cell_on hb a0; replace a1 := cell_on hb a1; replace a2 := cell_on hb a2; replace b0 := cell_on hb b0; replace b1 := cell_on hb b1; replace b2 := cell_on hb b2; replace b3 := cell_on hb b3; clear hb)
    | (go_at_call 17; refine (messages_any _ _ (by omega)).mono ?_; rintro e w1 ⟨rfl, hb⟩; replace hB := below_on hB (Nat.le_refl _) hb; replace a0 := cell_on hb a0; replace a1 := cell_on hb a1; replace a2 := cell_on hb a2; replace b0 := cell_on hb b0; replace b1 := cell_on hb b1; replace b2 := cell_on hb b2; replace b3 := cell_on hb b3; clear hb)
    | (go_at_call 18; refine (messagesSpan_any _ _ (by omega)).mono ?_; rintro e w1 ⟨rfl, hb⟩; replace hB := below_on hB (Nat.le_refl _) hb; replace a0 := cell_on hb a0; replace a1 := cell_on hb a1; replace a2 := cell_on hb a2; replace b0 := cell_on hb b0; replace b1 := cell_on hb b1; replace b2 := cell_on hb b2; replace b3 := cell_on hb b3; clear hb)
    | (go_at_call 19; refine ((HK1 _).out).mono ?_; rintro e w1 ⟨rfl, hb⟩; replace hB := below_on hB (Nat.le_refl _) hb; replace a0 := cell_on hb a0; replace a1 := cell_on hb a1; replace a2 := cell_on hb a2; replace b0 := cell_on hb b0; replace b1 := cell_on hb b1; replace b2 := cell_on hb b2; replace b3 := cell_on hb b3; clear hb)
    | (go_at_call 20; refine ((HK2 _).out).mono ?_; rintro e w1 ⟨rfl, rfl⟩)
    | (go_at_call 7; refine (same_of _ _ _ rfl).mono ?_; rintro e w2 ⟨rfl, rfl⟩)
    | (go_at_call 21; refine ((HQ1 _ (laid_on HT.out hB)).out).mono ?_; rintro e w1 ⟨rfl, hb⟩; replace hB := below_on hB (Nat.le_refl _) hb; replace a0 := cell_on hb a0; replace a1 := cell_on hb a1; replace a2 := cell_on hb a2; replace b0 := cell_on hb b0; replace b1 := cell_on hb b1; replace b2 := cell_on hb b2; replace b3 := cell_on hb b3; clear hb)
    | (go_at_call 22; refine ((HQ2 _).out).mono ?_; rintro e w1 ⟨rfl, hb⟩; replace hB := below_on hB (Nat.le_refl _) hb; replace a0 := cell_on hb a0; replace a1 := cell_on hb a1; replace a2 := cell_on hb a2; replace b0 := cell_on hb b0; replace b1 := cell_on hb b1; replace b2 := cell_on hb b2; replace b3 := cell_on hb b3; clear hb)
    | (go_at_call 23; refine ((HP1 _ (laid_on HT.out hB)).out).mono ?_; rintro e w1 ⟨rfl, hb⟩; replace hB := below_on hB (Nat.le_refl _) hb; replace a0 := cell_on hb a0; replace a1 := cell_on hb a1; replace a2 := cell_on hb a2; replace b0 := cell_on hb b0; replace b1 := cell_on hb b1; replace b2 := cell_on hb b2; replace b3 := cell_on hb b3; clear hb; have hb := below_alloc1 w1 (Obj.cells #[Value.int .i64 qa, Value.int .i64 qb, Value.string qr] 32); replace hB := below_on hB (Nat.le_refl _) hb; replace a0 := cell_on hb a0; replace a1 := cell_on hb a1; replace a2 := cell_on hb a2; replace b0 := cell_on hb b0; replace b1 := cell_on hb b1; replace b2 := cell_on hb b2; replace b3 := cell_on hb b3; clear hb; have p0 : (w1.alloc (Obj.cells #[Value.int .i64 qa, Value.int .i64 qb, Value.string qr] 32)).cell? ⟨w1.heap.size, 0, none⟩ = some (Value.int .i64 qa) := cell_new _ _ _ 0; have p1 : (w1.alloc (Obj.cells #[Value.int .i64 qa, Value.int .i64 qb, Value.string qr] 32)).cell? ⟨w1.heap.size, 1, none⟩ = some (Value.int .i64 qb) := cell_new _ _ _ 1; have p2 : (w1.alloc (Obj.cells #[Value.int .i64 qa, Value.int .i64 qb, Value.string qr] 32)).cell? ⟨w1.heap.size, 2, none⟩ = some (Value.string qr) := cell_new _ _ _ 2)
    | (go_at_call 24; refine ((HP2 _).out).mono ?_; rintro e w1 ⟨rfl, hb⟩; replace hB := below_on hB (Nat.le_refl _) hb; replace a0 := cell_on hb a0; replace a1 := cell_on hb a1; replace a2 := cell_on hb a2; replace b0 := cell_on hb b0; replace b1 := cell_on hb b1; replace b2 := cell_on hb b2; replace b3 := cell_on hb b3; replace p0 := cell_on hb p0; replace p1 := cell_on hb p1; replace p2 := cell_on hb p2; clear hb; have hb := below_alloc1 w1 (Obj.cells #[Value.int .i64 qa, Value.int .i64 qb, Value.string qr] 32); replace hB := below_on hB (Nat.le_refl _) hb; replace a0 := cell_on hb a0; replace a1 := cell_on hb a1; replace a2 := cell_on hb a2; replace b0 := cell_on hb b0; replace b1 := cell_on hb b1; replace b2 := cell_on hb b2; replace b3 := cell_on hb b3; replace p0 := cell_on hb p0; replace p1 := cell_on hb p1; replace p2 := cell_on hb p2; clear hb; have r0 : (w1.alloc (Obj.cells #[Value.int .i64 qa, Value.int .i64 qb, Value.string qr] 32)).cell? ⟨w1.heap.size, 0, none⟩ = some (Value.int .i64 qa) := cell_new _ _ _ 0; have r1 : (w1.alloc (Obj.cells #[Value.int .i64 qa, Value.int .i64 qb, Value.string qr] 32)).cell? ⟨w1.heap.size, 1, none⟩ = some (Value.int .i64 qb) := cell_new _ _ _ 1; have r2 : (w1.alloc (Obj.cells #[Value.int .i64 qa, Value.int .i64 qb, Value.string qr] 32)).cell? ⟨w1.heap.size, 2, none⟩ = some (Value.string qr) := cell_new _ _ _ 2)
    | (go_at_call 25; refine ((HT1 _ (laid_on HT.out hB)).out).mono ?_; rintro e w1 ⟨rfl, hb⟩; replace hB := below_on hB (Nat.le_refl _) hb; replace a0 := cell_on hb a0; replace a1 := cell_on hb a1; replace a2 := cell_on hb a2; replace b0 := cell_on hb b0; replace b1 := cell_on hb b1; replace b2 := cell_on hb b2; replace b3 := cell_on hb b3; replace p0 := cell_on hb p0; replace p1 := cell_on hb p1; replace p2 := cell_on hb p2; replace r0 := cell_on hb r0; replace r1 := cell_on hb r1; replace r2 := cell_on hb r2; clear hb)
    | (go_at_call 26; refine ((HT2 _).out).mono ?_; rintro e w1 ⟨rfl, hb⟩; replace hB := below_on hB (Nat.le_refl _) hb; replace a0 := cell_on hb a0; replace a1 := cell_on hb a1; replace a2 := cell_on hb a2; replace b0 := cell_on hb b0; replace b1 := cell_on hb b1; replace b2 := cell_on hb b2; replace b3 := cell_on hb b3; replace p0 := cell_on hb p0; replace p1 := cell_on hb p1; replace p2 := cell_on hb p2; replace r0 := cell_on hb r0; replace r1 := cell_on hb r1; replace r2 := cell_on hb r2; clear hb)
    | (go_at_call 27; refine ((HR1 _ (laid_on HT.out hB)).out).mono ?_; rintro e w1 ⟨rfl, hb⟩; replace hB := below_on hB (Nat.le_refl _) hb; replace a0 := cell_on hb a0; replace a1 := cell_on hb a1; replace a2 := cell_on hb a2; replace b0 := cell_on hb b0; replace b1 := cell_on hb b1; replace b2 := cell_on hb b2; replace b3 := cell_on hb b3; replace p0 := cell_on hb p0; replace p1 := cell_on hb p1; replace p2 := cell_on hb p2; replace r0 := cell_on hb r0; replace r1 := cell_on hb r1; replace r2 := cell_on hb r2; clear hb; have hb := below_alloc1 w1 (Obj.cells #[Value.int .i64 mz, Value.int .i64 ma, Value.int .i64 mb, Value.string mr] 34); replace hB := below_on hB (Nat.le_refl _) hb; replace a0 := cell_on hb a0; replace a1 := cell_on hb a1; replace a2 := cell_on hb a2; replace b0 := cell_on hb b0; replace b1 := cell_on hb b1; replace b2 := cell_on hb b2; replace b3 := cell_on hb b3; replace p0 := cell_on hb p0; replace p1 := cell_on hb p1; replace p2 := cell_on hb p2; replace r0 := cell_on hb r0; replace r1 := cell_on hb r1; replace r2 := cell_on hb r2; clear hb; have f0 : (w1.alloc (Obj.cells #[Value.int .i64 mz, Value.int .i64 ma, Value.int .i64 mb, Value.string mr] 34)).cell? ⟨w1.heap.size, 0, none⟩ = some (Value.int .i64 mz) := cell_new _ _ _ 0; have f1 : (w1.alloc (Obj.cells #[Value.int .i64 mz, Value.int .i64 ma, Value.int .i64 mb, Value.string mr] 34)).cell? ⟨w1.heap.size, 1, none⟩ = some (Value.int .i64 ma) := cell_new _ _ _ 1; have f2 : (w1.alloc (Obj.cells #[Value.int .i64 mz, Value.int .i64 ma, Value.int .i64 mb, Value.string mr] 34)).cell? ⟨w1.heap.size, 2, none⟩ = some (Value.int .i64 mb) := cell_new _ _ _ 2; have f3 : (w1.alloc (Obj.cells #[Value.int .i64 mz, Value.int .i64 ma, Value.int .i64 mb, Value.string mr] 34)).cell? ⟨w1.heap.size, 3, none⟩ = some (Value.string mr) := cell_new _ _ _ 3)
    | (go_at_call 28; refine ((HR2 _).out).mono ?_; rintro e w1 ⟨rfl, hb⟩; replace hB := below_on hB (Nat.le_refl _) hb; replace a0 := cell_on hb a0; replace a1 := cell_on hb a1; replace a2 := cell_on hb a2; replace b0 := cell_on hb b0; replace b1 := cell_on hb b1; replace b2 := cell_on hb b2; replace b3 := cell_on hb b3; replace p0 := cell_on hb p0; replace p1 := cell_on hb p1; replace p2 := cell_on hb p2; replace r0 := cell_on hb r0; replace r1 := cell_on hb r1; replace r2 := cell_on hb r2; replace f0 := cell_on hb f0; replace f1 := cell_on hb f1; replace f2 := cell_on hb f2; replace f3 := cell_on hb f3; clear hb; have hb := below_alloc1 w1 (Obj.cells #[Value.int .i64 mz, Value.int .i64 ma, Value.int .i64 mb, Value.string mr] 34); replace hB := below_on hB (Nat.le_refl _) hb; replace a0 := cell_on hb a0; replace a1 := cell_on hb a1; replace a2 := cell_on hb a2; replace b0 := cell_on hb b0; replace b1 := cell_on hb b1; replace b2 := cell_on hb b2; replace b3 := cell_on hb b3; replace p0 := cell_on hb p0; replace p1 := cell_on hb p1; replace p2 := cell_on hb p2; replace r0 := cell_on hb r0; replace r1 := cell_on hb r1; replace r2 := cell_on hb r2; replace f0 := cell_on hb f0; replace f1 := cell_on hb f1; replace f2 := cell_on hb f2; replace f3 := cell_on hb f3; clear hb; have g0 : (w1.alloc (Obj.cells #[Value.int .i64 mz, Value.int .i64 ma, Value.int .i64 mb, Value.string mr] 34)).cell? ⟨w1.heap.size, 0, none⟩ = some (Value.int .i64 mz) := cell_new _ _ _ 0; have g1 : (w1.alloc (Obj.cells #[Value.int .i64 mz, Value.int .i64 ma, Value.int .i64 mb, Value.string mr] 34)).cell? ⟨w1.heap.size, 1, none⟩ = some (Value.int .i64 ma) := cell_new _ _ _ 1; have g2 : (w1.alloc (Obj.cells #[Value.int .i64 mz, Value.int .i64 ma, Value.int .i64 mb, Value.string mr] 34)).cell? ⟨w1.heap.size, 2, none⟩ = some (Value.int .i64 mb) := cell_new _ _ _ 2; have g3 : (w1.alloc (Obj.cells #[Value.int .i64 mz, Value.int .i64 ma, Value.int .i64 mb, Value.string mr] 34)).cell? ⟨w1.heap.size, 3, none⟩ = some (Value.string mr) := cell_new _ _ _ 3))
  go_ret
  exact ⟨rfl, hB⟩
theorem rowSays_walk (name key s d b : ByteArray) (n x y k t u : Int) (w : World) (hL : Laid w) (hn0 : -9223372036854775808 ≤ n) (hn1 : n ≤ 9223372036854775807) :
    Calls Tryd.prog 4 #[.string name, .string key, .int .i64 n, .agg #[.int .i64 x, .int .i64 y, .string d], .agg #[.int .i64 k, .int .i64 t, .int .i64 u, .string b], .string s] w fun e w' => e = .returned (.bool true) ∧ Below w.heap.size w w' := by
  by_cases h1 : name.size ≤ 50
  · by_cases h2 : key.size ≤ 60
    · by_cases h3 : s.size ≤ 100
      · by_cases h4 : d.size ≤ 50
        · by_cases h5 : b.size ≤ 100
          · exact rowSays_light name key s d b n x y k t u w hL h1 h2 h3 h4 h5 hn0 hn1
          · exact rowSays_heavy name key s d b n x y k t u w hL (by omega)
        · exact rowSays_heavy name key s d b n x y k t u w hL (by omega)
      · exact rowSays_heavy name key s d b n x y k t u w hL (by omega)
    · exact rowSays_heavy name key s d b n x y k t u w hL (by omega)
  · exact rowSays_heavy name key s d b n x y k t u w hL (by omega)
end Go.Proofs.YtlndiohdjdgaoaaDoor
