/-
  What haywainref.QueueOf and MessageOf return of every text: the queue, the message, that was written so, or none; they make new memory alone.
-/
import Derived.Test.YtlndiohdjdgaoaaDoorWordL
import Derived.Test.YtlndiohdjdgaoaaDoorRefNat
import Derived.Test.YtlndiohdjdgaoaaDoorRefWords
namespace Go.Proofs.YtlndiohdjdgaoaaDoor
open Go.RowKit Go.Joins

set_option maxHeartbeats 4000000 in
theorem queueOf_yes (s : ByteArray) (n t : Nat) (d : ByteArray) (w : World) (hs : s.size ≤ 1000) (hq : queueMay n t d) (he : s = joinB n t d) :
    Calls Tryd.prog 24 #[.string s] w fun e w' => e = .returned (.tuple #[.agg #[.int .i64 n, .int .i64 t, .string d], .int .i64 0]) ∧ Below w.heap.size w w' := by
  have hB := below_alloc1 w (Obj.cells #[Value.int .i64 0, Value.int .i64 0, Value.string ⟨#[]⟩] 32)
  have fz := frozen_new w #[Value.int .i64 0, Value.int .i64 0, Value.string ⟨#[]⟩] 32
  have h0 : w.heap.size < (w.alloc (Obj.cells #[Value.int .i64 0, Value.int .i64 0, Value.string ⟨#[]⟩] 32)).heap.size := by simp
  have r0 : (w.alloc (Obj.cells #[Value.int .i64 0, Value.int .i64 0, Value.string ⟨#[]⟩] 32)).cell? ⟨w.heap.size, 0, none⟩ = some (Value.int .i64 0) := by simp
  have r1 : (w.alloc (Obj.cells #[Value.int .i64 0, Value.int .i64 0, Value.string ⟨#[]⟩] 32)).cell? ⟨w.heap.size, 1, none⟩ = some (Value.int .i64 0) := by simp
  have r2 : (w.alloc (Obj.cells #[Value.int .i64 0, Value.int .i64 0, Value.string ⟨#[]⟩] 32)).cell? ⟨w.heap.size, 2, none⟩ = some (Value.string ⟨#[]⟩) := by simp
  have HQ := hide hq
  have HE := hide he
  clear hq he
  go_enter Tryd.func24, Tryd.ntmps24
  go_wp2_with fail
  refine (words_any s 99 _ (by omega) (by omega) hs).mono ?_
  rintro e w1 ⟨v, rfl, out, rest, hown, hwd, hb⟩
  replace hB := below_on hB (Nat.le_refl _) hb
  replace fz := fun j => frozen_on hb h0 (fz j)
  replace r0 := cell_on hb r0
  replace r1 := cell_on hb r1
  replace r2 := cell_on hb r2
  clear hb h0
  obtain ⟨rfl, rfl⟩ := words_queue hwd HQ.out HE.out
  clear hwd
  obtain ⟨g, cap, rfl⟩ := ownsRow_form hown (by simp)
  have q0 : w1.cell? ⟨g, 0, none⟩ = some (.string (decB n)) := by have := hown.cells (g := g) rfl 0 (.string (decB n)) rfl; rwa [WideShapes.add_plain, Nat.zero_add] at this
  have q1 : w1.cell? ⟨g, 1, none⟩ = some (.string (decB t)) := by have := hown.cells (g := g) rfl 1 (.string (decB t)) rfl; rwa [WideShapes.add_plain, Nat.zero_add] at this
  have q2 : w1.cell? ⟨g, 2, none⟩ = some (.string rest) := by have := hown.cells (g := g) rfl 2 (.string rest) rfl; rwa [WideShapes.add_plain, Nat.zero_add] at this
  clear hown
  have HN := fun w' => hide (natural_any (decB n) 999999 w' (by omega) (by rw [Lib.size_eq, decB_l]; have := len_dec_lt n (by have := HQ.out.1; omega); omega))
  have HM := fun w' => hide (natural_any (decB t) 9 w' (by omega) (by rw [Lib.size_eq, decB_l]; have := len_dec_lt t (by have := HQ.out.2.2.1; omega); omega))
  have t1 : (1 : Int) ≤ (t : Int) := by have := HQ.out.2.1; omega
  have n0 : (0 : Int) ≤ (n : Int) := by omega
  rw [decB_l] at HN HM
  generalize decB n = x at *
  generalize decB t = y at *
  go_wp2_with fail
  refine ((HN _).out).mono ?_
  rintro e w2 ⟨⟨r, rfl, hr⟩, rfl⟩
  obtain rfl := natR_dec hr HQ.out.1
  clear hr
  go_wp2_with fail
  refine ((HM _).out).mono ?_
  rintro e w2 ⟨⟨r, rfl, hr⟩, rfl⟩
  obtain rfl := natR_dec hr HQ.out.2.2.1
  clear hr HN HM
  have hd := HQ.out.2.2.2
  rcases hd with hd | ⟨hd, hd'⟩
  all_goals
    go_wp2_with (go_at_call 12; refine (nameMay_any _ _).mono ?_; rintro e w3 ⟨rfl, rfl⟩)
    exact bodyPost_ret (v := .tuple #[.agg #[.int .i64 n, .int .i64 t, .string rest], .int .i64 0]) (by simp [results, Tryd.results24, go_sem, r0, r1, r2]) rfl ⟨rfl, (((hB.setCell (Nat.le_refl _) _).setCell (Nat.le_refl _) _).setCell (Nat.le_refl _) _)⟩
set_option maxHeartbeats 4000000 in
theorem queueOf_no (s : ByteArray) (w : World) (hs : s.size ≤ 1000) (hno : ∀ n t d, queueMay n t d → s ≠ joinB n t d) :
    Calls Tryd.prog 24 #[.string s] w fun e w' => e = .returned (.tuple #[.agg #[.int .i64 0, .int .i64 0, .string ⟨#[]⟩], .int .i64 4]) ∧ Below w.heap.size w w' := by
  have hB := below_alloc1 w (Obj.cells #[Value.int .i64 0, Value.int .i64 0, Value.string ⟨#[]⟩] 32)
  have fz := frozen_new w #[Value.int .i64 0, Value.int .i64 0, Value.string ⟨#[]⟩] 32
  have h0 : w.heap.size < (w.alloc (Obj.cells #[Value.int .i64 0, Value.int .i64 0, Value.string ⟨#[]⟩] 32)).heap.size := by simp
  have r0 : (w.alloc (Obj.cells #[Value.int .i64 0, Value.int .i64 0, Value.string ⟨#[]⟩] 32)).cell? ⟨w.heap.size, 0, none⟩ = some (Value.int .i64 0) := by simp
  have r1 : (w.alloc (Obj.cells #[Value.int .i64 0, Value.int .i64 0, Value.string ⟨#[]⟩] 32)).cell? ⟨w.heap.size, 1, none⟩ = some (Value.int .i64 0) := by simp
  have r2 : (w.alloc (Obj.cells #[Value.int .i64 0, Value.int .i64 0, Value.string ⟨#[]⟩] 32)).cell? ⟨w.heap.size, 2, none⟩ = some (Value.string ⟨#[]⟩) := by simp
  have HO := hide hno
  clear hno
  go_enter Tryd.func24, Tryd.ntmps24
  go_wp2_with fail
  refine (words_any s 99 _ (by omega) (by omega) hs).mono ?_
  rintro e w1 ⟨v, rfl, out, rest, hown, hwd, hb⟩
  replace hB := below_on hB (Nat.le_refl _) hb
  replace fz := fun j => frozen_on hb h0 (fz j)
  replace r0 := cell_on hb r0
  replace r1 := cell_on hb r1
  replace r2 := cell_on hb r2
  clear hb h0
  by_cases ho : out.length = 2
  · obtain ⟨x, y, rfl⟩ := out_two ho
    clear ho
    have hsz : x.size ≤ 1000 ∧ y.size ≤ 1000 := by
      have := congrArg List.length (words_two hwd)
      rw [len_data] at this
      simp only [List.length_append, List.length_cons, len_data] at this
      omega
    have HN := fun w' => hide (natural_any x 999999 w' (by omega) hsz.1)
    have HM := fun w' => hide (natural_any y 9 w' (by omega) hsz.2)
    have HW := hide hwd
    clear hsz hwd
    obtain ⟨g, cap, rfl⟩ := ownsRow_form hown (by simp)
    have q0 : w1.cell? ⟨g, 0, none⟩ = some (.string x) := by have := hown.cells (g := g) rfl 0 (.string x) rfl; rwa [WideShapes.add_plain, Nat.zero_add] at this
    have q1 : w1.cell? ⟨g, 1, none⟩ = some (.string y) := by have := hown.cells (g := g) rfl 1 (.string y) rfl; rwa [WideShapes.add_plain, Nat.zero_add] at this
    have q2 : w1.cell? ⟨g, 2, none⟩ = some (.string rest) := by have := hown.cells (g := g) rfl 2 (.string rest) rfl; rwa [WideShapes.add_plain, Nat.zero_add] at this
    clear hown
    go_wp2_with fail
    refine ((HN _).out).mono ?_
    rintro e w2 ⟨⟨a, rfl, ha⟩, rfl⟩
    go_wp2_with fail
    refine ((HM _).out).mono ?_
    rintro e w2 ⟨⟨b, rfl, hb⟩, rfl⟩
    have hbad := words_no_queue HW.out ha hb HO.out
    clear ha hb HN HM HW HO
    rcases hbad with k1 | ⟨k1, k2⟩ | ⟨k1, k2, k3, k4⟩
    all_goals
      go_wp2_with (go_at_call 12; refine (nameMay_any _ _).mono ?_; rintro e w3 ⟨rfl, rfl⟩)
      exact bodyPost_ret (v := .tuple #[.agg #[.int .i64 0, .int .i64 0, .string ⟨#[]⟩], .int .i64 4]) (by simp [results, Tryd.results24, go_sem, r0, r1, r2]) rfl ⟨rfl, (((hB.setCell (Nat.le_refl _) _).setCell (Nat.le_refl _) _).setCell (Nat.le_refl _) _)⟩
  · obtain ⟨ao, cap, rfl⟩ := ownStr_len hown
    have g3 : (((out ++ [rest]).length : Nat) : Int) ≠ 3 := by simp; omega
    have g4 : (((out ++ [rest]).length : Int) != 3) = true := bne_iff_ne.2 g3
    generalize (out ++ [rest]).length = len at *
    clear hown hwd
    go_wp2
    exact bodyPost_ret (v := .tuple #[.agg #[.int .i64 0, .int .i64 0, .string ⟨#[]⟩], .int .i64 4]) (by simp [results, Tryd.results24, go_sem, r0, r1, r2]) rfl ⟨rfl, (((hB.setCell (Nat.le_refl _) _).setCell (Nat.le_refl _) _).setCell (Nat.le_refl _) _)⟩

set_option maxHeartbeats 4000000 in
theorem messageOf_yes (s : ByteArray) (k : Int) (t u : Nat) (d : ByteArray) (w : World) (hs : s.size ≤ 1000) (hq : messageMay t u d) (he : s = joinB t u d) :
    Calls Tryd.prog 28 #[.int .i64 k, .string s] w fun e w' => e = .returned (.tuple #[.agg #[.int .i64 k, .int .i64 t, .int .i64 u, .string d], .int .i64 0]) ∧ Below w.heap.size w w' := by
  have hB := below_alloc1 w (Obj.cells #[Value.int .i64 0, Value.int .i64 0, Value.int .i64 0, Value.string ⟨#[]⟩] 34)
  have fz := frozen_new w #[Value.int .i64 0, Value.int .i64 0, Value.int .i64 0, Value.string ⟨#[]⟩] 34
  have h0 : w.heap.size < (w.alloc (Obj.cells #[Value.int .i64 0, Value.int .i64 0, Value.int .i64 0, Value.string ⟨#[]⟩] 34)).heap.size := by simp
  have r0 : (w.alloc (Obj.cells #[Value.int .i64 0, Value.int .i64 0, Value.int .i64 0, Value.string ⟨#[]⟩] 34)).cell? ⟨w.heap.size, 0, none⟩ = some (Value.int .i64 0) := by simp
  have r1 : (w.alloc (Obj.cells #[Value.int .i64 0, Value.int .i64 0, Value.int .i64 0, Value.string ⟨#[]⟩] 34)).cell? ⟨w.heap.size, 1, none⟩ = some (Value.int .i64 0) := by simp
  have r2 : (w.alloc (Obj.cells #[Value.int .i64 0, Value.int .i64 0, Value.int .i64 0, Value.string ⟨#[]⟩] 34)).cell? ⟨w.heap.size, 2, none⟩ = some (Value.int .i64 0) := by simp
  have r3 : (w.alloc (Obj.cells #[Value.int .i64 0, Value.int .i64 0, Value.int .i64 0, Value.string ⟨#[]⟩] 34)).cell? ⟨w.heap.size, 3, none⟩ = some (Value.string ⟨#[]⟩) := by simp
  have HQ := hide hq
  have HE := hide he
  clear hq he
  go_enter Tryd.func28, Tryd.ntmps28
  go_wp2_with fail
  refine (words_any s 3 _ (by omega) (by omega) hs).mono ?_
  rintro e w1 ⟨v, rfl, out, rest, hown, hwd, hb⟩
  replace hB := below_on hB (Nat.le_refl _) hb
  replace fz := fun j => frozen_on hb h0 (fz j)
  replace r0 := cell_on hb r0
  replace r1 := cell_on hb r1
  replace r2 := cell_on hb r2
  replace r3 := cell_on hb r3
  clear hb h0
  obtain ⟨rfl, rfl⟩ := words_message hwd HE.out
  clear hwd
  obtain ⟨g, cap, rfl⟩ := ownsRow_form hown (by simp)
  have q0 : w1.cell? ⟨g, 0, none⟩ = some (.string (decB t)) := by have := hown.cells (g := g) rfl 0 (.string (decB t)) rfl; rwa [WideShapes.add_plain, Nat.zero_add] at this
  have q1 : w1.cell? ⟨g, 1, none⟩ = some (.string (decB u)) := by have := hown.cells (g := g) rfl 1 (.string (decB u)) rfl; rwa [WideShapes.add_plain, Nat.zero_add] at this
  have q2 : w1.cell? ⟨g, 2, none⟩ = some (.string rest) := by have := hown.cells (g := g) rfl 2 (.string rest) rfl; rwa [WideShapes.add_plain, Nat.zero_add] at this
  clear hown
  have HN := fun w' => hide (natural_any (decB t) 9 w' (by omega) (by rw [Lib.size_eq, decB_l]; have := len_dec_lt t (by have := HQ.out.1; omega); omega))
  have HM := fun w' => hide (natural_any (decB u) 2000000 w' (by omega) (by rw [Lib.size_eq, decB_l]; have := len_dec_lt u (by have := HQ.out.2.1; omega); omega))
  have r28 : ¬ (28 : Int) < (rest.size : Int) := by have := HQ.out.2.2; omega
  rw [decB_l] at HN HM
  generalize decB t = x at *
  generalize decB u = y at *
  go_wp2_with fail
  refine ((HN _).out).mono ?_
  rintro e w2 ⟨⟨r, rfl, hr⟩, rfl⟩
  obtain rfl := natR_dec hr HQ.out.1
  clear hr
  go_wp2_with fail
  refine ((HM _).out).mono ?_
  rintro e w2 ⟨⟨r, rfl, hr⟩, rfl⟩
  obtain rfl := natR_dec hr HQ.out.2.1
  clear hr HN HM
  go_wp2
  exact bodyPost_ret (v := .tuple #[.agg #[.int .i64 k, .int .i64 t, .int .i64 u, .string rest], .int .i64 0]) (by simp [results, Tryd.results28, go_sem, r0, r1, r2, r3]) rfl ⟨rfl, ((((hB.setCell (Nat.le_refl _) _).setCell (Nat.le_refl _) _).setCell (Nat.le_refl _) _).setCell (Nat.le_refl _) _)⟩
set_option maxHeartbeats 4000000 in
theorem messageOf_no (s : ByteArray) (k : Int) (w : World) (hs : s.size ≤ 1000) (hno : ∀ t u d, messageMay t u d → s ≠ joinB t u d) :
    Calls Tryd.prog 28 #[.int .i64 k, .string s] w fun e w' => e = .returned (.tuple #[.agg #[.int .i64 0, .int .i64 0, .int .i64 0, .string ⟨#[]⟩], .int .i64 4]) ∧ Below w.heap.size w w' := by
  have hB := below_alloc1 w (Obj.cells #[Value.int .i64 0, Value.int .i64 0, Value.int .i64 0, Value.string ⟨#[]⟩] 34)
  have fz := frozen_new w #[Value.int .i64 0, Value.int .i64 0, Value.int .i64 0, Value.string ⟨#[]⟩] 34
  have h0 : w.heap.size < (w.alloc (Obj.cells #[Value.int .i64 0, Value.int .i64 0, Value.int .i64 0, Value.string ⟨#[]⟩] 34)).heap.size := by simp
  have r0 : (w.alloc (Obj.cells #[Value.int .i64 0, Value.int .i64 0, Value.int .i64 0, Value.string ⟨#[]⟩] 34)).cell? ⟨w.heap.size, 0, none⟩ = some (Value.int .i64 0) := by simp
  have r1 : (w.alloc (Obj.cells #[Value.int .i64 0, Value.int .i64 0, Value.int .i64 0, Value.string ⟨#[]⟩] 34)).cell? ⟨w.heap.size, 1, none⟩ = some (Value.int .i64 0) := by simp
  have r2 : (w.alloc (Obj.cells #[Value.int .i64 0, Value.int .i64 0, Value.int .i64 0, Value.string ⟨#[]⟩] 34)).cell? ⟨w.heap.size, 2, none⟩ = some (Value.int .i64 0) := by simp
  have r3 : (w.alloc (Obj.cells #[Value.int .i64 0, Value.int .i64 0, Value.int .i64 0, Value.string ⟨#[]⟩] 34)).cell? ⟨w.heap.size, 3, none⟩ = some (Value.string ⟨#[]⟩) := by simp
  have HO := hide hno
  clear hno
  go_enter Tryd.func28, Tryd.ntmps28
  go_wp2_with fail
  refine (words_any s 3 _ (by omega) (by omega) hs).mono ?_
  rintro e w1 ⟨v, rfl, out, rest, hown, hwd, hb⟩
  replace hB := below_on hB (Nat.le_refl _) hb
  replace fz := fun j => frozen_on hb h0 (fz j)
  replace r0 := cell_on hb r0
  replace r1 := cell_on hb r1
  replace r2 := cell_on hb r2
  replace r3 := cell_on hb r3
  clear hb h0
  by_cases ho : out.length = 2
  · obtain ⟨x, y, rfl⟩ := out_two ho
    clear ho
    have hsz : x.size ≤ 1000 ∧ y.size ≤ 1000 := by
      have := congrArg List.length (words_two hwd)
      rw [len_data] at this
      simp only [List.length_append, List.length_cons, len_data] at this
      omega
    have HN := fun w' => hide (natural_any x 9 w' (by omega) hsz.1)
    have HM := fun w' => hide (natural_any y 2000000 w' (by omega) hsz.2)
    have HW := hide hwd
    clear hsz hwd
    obtain ⟨g, cap, rfl⟩ := ownsRow_form hown (by simp)
    have q0 : w1.cell? ⟨g, 0, none⟩ = some (.string x) := by have := hown.cells (g := g) rfl 0 (.string x) rfl; rwa [WideShapes.add_plain, Nat.zero_add] at this
    have q1 : w1.cell? ⟨g, 1, none⟩ = some (.string y) := by have := hown.cells (g := g) rfl 1 (.string y) rfl; rwa [WideShapes.add_plain, Nat.zero_add] at this
    have q2 : w1.cell? ⟨g, 2, none⟩ = some (.string rest) := by have := hown.cells (g := g) rfl 2 (.string rest) rfl; rwa [WideShapes.add_plain, Nat.zero_add] at this
    clear hown
    by_cases h28 : rest.size ≤ 28
    · have r28 : ¬ (28 : Int) < (rest.size : Int) := by omega
      go_wp2_with fail
      refine ((HN _).out).mono ?_
      rintro e w2 ⟨⟨a, rfl, ha⟩, rfl⟩
      go_wp2_with fail
      refine ((HM _).out).mono ?_
      rintro e w2 ⟨⟨b, rfl, hb⟩, rfl⟩
      have hbad := words_no_message HW.out h28 ha hb HO.out
      clear ha hb HN HM HW HO
      rcases hbad with k1 | ⟨k1, k2⟩
      all_goals
        go_wp2
        exact bodyPost_ret (v := .tuple #[.agg #[.int .i64 0, .int .i64 0, .int .i64 0, .string ⟨#[]⟩], .int .i64 4]) (by simp [results, Tryd.results28, go_sem, r0, r1, r2, r3]) rfl ⟨rfl, ((((hB.setCell (Nat.le_refl _) _).setCell (Nat.le_refl _) _).setCell (Nat.le_refl _) _).setCell (Nat.le_refl _) _)⟩
    · have r28 : (28 : Int) < (rest.size : Int) := by omega
      go_wp2
      exact bodyPost_ret (v := .tuple #[.agg #[.int .i64 0, .int .i64 0, .int .i64 0, .string ⟨#[]⟩], .int .i64 4]) (by simp [results, Tryd.results28, go_sem, r0, r1, r2, r3]) rfl ⟨rfl, ((((hB.setCell (Nat.le_refl _) _).setCell (Nat.le_refl _) _).setCell (Nat.le_refl _) _).setCell (Nat.le_refl _) _)⟩
  · obtain ⟨ao, cap, rfl⟩ := ownStr_len hown
    have g3 : (((out ++ [rest]).length : Nat) : Int) ≠ 3 := by simp; omega
    have g4 : (((out ++ [rest]).length : Int) != 3) = true := bne_iff_ne.2 g3
    generalize (out ++ [rest]).length = len at *
    clear hown hwd
    go_wp2
    exact bodyPost_ret (v := .tuple #[.agg #[.int .i64 0, .int .i64 0, .int .i64 0, .string ⟨#[]⟩], .int .i64 4]) (by simp [results, Tryd.results28, go_sem, r0, r1, r2, r3]) rfl ⟨rfl, ((((hB.setCell (Nat.le_refl _) _).setCell (Nat.le_refl _) _).setCell (Nat.le_refl _) _).setCell (Nat.le_refl _) _)⟩
end Go.Proofs.YtlndiohdjdgaoaaDoor
