/-
  What the document's answers on one change return (haywainref.ChangeFault, ChangeBytes): the same as package change's; they make new memory alone.
-/
import Derived.Test.YtlndiohdjdgaoaaRefKeyM
import Derived.Test.YtlndiohdjdgaoaaChgBytes
namespace Go.Proofs.Ytlndiohdjdgaoaa
open Go.RowKit Go.Joins

theorem fault_of (c : Chg) : chgFault c = if faultK c.key.data.toList = 0 then (if c.gone && !c.val.toList.isEmpty then 3 else if 40 < c.val.size then 1 else 0) else 3 := by
  unfold chgFault faultK
  cases keyL c.key.data.toList <;> simp
set_option maxHeartbeats 2000000 in
theorem rfault_any (c : Chg) (w : World) (hk : c.key.size ≤ 1000) :
    Calls Try.prog 19 #[.agg #[.string c.key, .string c.val, .bool c.gone]] w fun e w' => e = .returned (.int .i64 (chgFault c)) ∧ Below w.heap.size w w' := by
  have HK := fun w' => hide (keyFault_any c.key w' hk)
  rw [fault_of]
  have h03 : faultK c.key.data.toList = 0 ∨ faultK c.key.data.toList = 3 := by unfold faultK; split <;> simp
  generalize faultK c.key.data.toList = f at *
  have hB := below_alloc1 w (Obj.cells #[Value.string c.key, Value.string c.val, Value.bool c.gone] 36)
  have a1 : (w.alloc (Obj.cells #[Value.string c.key, Value.string c.val, Value.bool c.gone] 36)).cell? ⟨w.heap.size, 1, none⟩ = some (.string c.val) := by simp
  have a2 : (w.alloc (Obj.cells #[Value.string c.key, Value.string c.val, Value.bool c.gone] 36)).cell? ⟨w.heap.size, 2, none⟩ = some (.bool c.gone) := by simp
  rcases h03 with rfl | rfl
  · generalize c.gone = g at *
    cases g
    all_goals
      by_cases h40 : 40 < c.val.size
      · have j40 : (40 : Int) < (c.val.size : Int) := by omega
        go_enter Try.func19, Try.ntmps19
        go_wp2_with (go_at_call 35; refine ((HK _).out).mono ?_; rintro e w1 ⟨rfl, rfl⟩)
        all_goals
          go_ret
          exact ⟨by simp_all, hB⟩
      · have j40 : ¬ (40 : Int) < (c.val.size : Int) := by omega
        go_enter Try.func19, Try.ntmps19
        go_wp2_with (go_at_call 35; refine ((HK _).out).mono ?_; rintro e w1 ⟨rfl, rfl⟩)
        all_goals
          go_ret
          exact ⟨by simp_all, hB⟩
  · go_enter Try.func19, Try.ntmps19
    go_wp2_with (go_at_call 35; refine ((HK _).out).mono ?_; rintro e w1 ⟨rfl, rfl⟩)
    go_ret
    exact ⟨rfl, hB⟩

set_option maxHeartbeats 4000000 in
theorem rbytes_any (c : Chg) (w : World) (hk : c.key.size ≤ 1000) (hv : c.val.size ≤ 1000) (f : Nat) (hf : chgFault c = f) :
    Calls Try.prog 21 #[.agg #[.string c.key, .string c.val, .bool c.gone]] w fun e w' => e = .returned (.tuple (if f = 0 then #[.string (headB c ++ c.key ++ c.val), .int .i64 0] else #[.string ⟨#[]⟩, .int .i64 f])) ∧ Below w.heap.size w w' := by
  have HK := fun w' => hide (rfault_any c w' hk)
  rw [hf] at HK
  have hB := below_alloc1 w (Obj.cells #[Value.string c.key, Value.string c.val, Value.bool c.gone] 36)
  have a0 : (w.alloc (Obj.cells #[Value.string c.key, Value.string c.val, Value.bool c.gone] 36)).cell? ⟨w.heap.size, 0, none⟩ = some (.string c.key) := by simp
  have a1 : (w.alloc (Obj.cells #[Value.string c.key, Value.string c.val, Value.bool c.gone] 36)).cell? ⟨w.heap.size, 1, none⟩ = some (.string c.val) := by simp
  have a2 : (w.alloc (Obj.cells #[Value.string c.key, Value.string c.val, Value.bool c.gone] 36)).cell? ⟨w.heap.size, 2, none⟩ = some (.bool c.gone) := by simp
  by_cases h0 : f = 0
  · subst h0
    simp only [if_true]
    unfold headB
    generalize c.gone = g at *
    cases g
    · go_enter Try.func21, Try.ntmps21
      go_wp2_with fail
      refine ((HK _).out).mono ?_
      rintro e w1 ⟨rfl, hb⟩
      replace hB := below_on hB (Nat.le_refl _) hb
      replace a0 := cell_on hb a0
      replace a1 := cell_on hb a1
      replace a2 := cell_on hb a2
      have m0 := World.new_ne w1 _ a0
      have hX := below_alloc1 w1 (Obj.cells #[Value.int .u8 0, Value.int .u8 ((c.key.size : Int) % 256)] 5)
      have x0 := cell_on hX a0
      have x1 := cell_on hX a1
      have x2 := cell_on hX a2
      have hcv := run_convert_bytes_back (P := Try.prog) ((w1.alloc (Obj.cells #[Value.int .u8 0, Value.int .u8 ((c.key.size : Int) % 256)] 5))) 61 9 5 ⟨w1.heap.size, 0, none⟩ 2 [0, UInt8.ofNat c.key.size] Try.underlying61 Try.underlying5 Try.underlying9 (fun j hj => by
        have hj2 : j = 0 ∨ j = 1 := by simp at hj; omega
        rcases hj2 with rfl | rfl
        · simp [Addr.add]
        · simp [Addr.add])
      simp only [List.length_cons, List.length_nil, Nat.zero_add, Nat.reduceAdd] at hcv
      have s1 : ¬ 9223372036854775807 < 2 + c.key.size := by omega
      have s2 : ¬ 9223372036854775807 < 2 + c.key.size + c.val.size := by omega
      clear HK hb
      go_wp2
      go_ret2
      exact ⟨rfl, hB.trans (hX.mono hB.size)⟩
    · go_enter Try.func21, Try.ntmps21
      go_wp2_with fail
      refine ((HK _).out).mono ?_
      rintro e w1 ⟨rfl, hb⟩
      replace hB := below_on hB (Nat.le_refl _) hb
      replace a0 := cell_on hb a0
      replace a1 := cell_on hb a1
      replace a2 := cell_on hb a2
      have m0 := World.new_ne w1 _ a0
      have hX := below_alloc1 w1 (Obj.cells #[Value.int .u8 1, Value.int .u8 ((c.key.size : Int) % 256)] 5)
      have x0 := cell_on hX a0
      have x1 := cell_on hX a1
      have x2 := cell_on hX a2
      have hcv := run_convert_bytes_back (P := Try.prog) ((w1.alloc (Obj.cells #[Value.int .u8 1, Value.int .u8 ((c.key.size : Int) % 256)] 5))) 61 9 5 ⟨w1.heap.size, 0, none⟩ 2 [1, UInt8.ofNat c.key.size] Try.underlying61 Try.underlying5 Try.underlying9 (fun j hj => by
        have hj2 : j = 0 ∨ j = 1 := by simp at hj; omega
        rcases hj2 with rfl | rfl
        · simp [Addr.add]
        · simp [Addr.add])
      simp only [List.length_cons, List.length_nil, Nat.zero_add, Nat.reduceAdd] at hcv
      have s1 : ¬ 9223372036854775807 < 2 + c.key.size := by omega
      have s2 : ¬ 9223372036854775807 < 2 + c.key.size + c.val.size := by omega
      clear HK hb
      go_wp2
      go_ret2
      exact ⟨rfl, hB.trans (hX.mono hB.size)⟩
  · simp only [if_neg h0]
    have g0 : (0 : Int) < (f : Int) := by omega
    go_enter Try.func21, Try.ntmps21
    go_wp2_with fail
    refine ((HK _).out).mono ?_
    rintro e w1 ⟨rfl, hb⟩
    replace hB := below_on hB (Nat.le_refl _) hb
    clear HK hb
    go_wp2
    go_ret2
    exact ⟨rfl, hB⟩
end Go.Proofs.Ytlndiohdjdgaoaa
