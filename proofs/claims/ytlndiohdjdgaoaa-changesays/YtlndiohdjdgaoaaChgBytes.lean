/-
  What change.Bytes returns of every change.
-/
import Derived.Test.YtlndiohdjdgaoaaChgCheck
namespace Go.Proofs.Ytlndiohdjdgaoaa
open Go.RowKit Go.Joins

def headB (c : Chg) : ByteArray := ⟨#[if c.gone then 1 else 0, UInt8.ofNat c.key.size]⟩

set_option maxHeartbeats 4000000 in
theorem chg_bytes (c : Chg) (w : World) (hk : c.key.size ≤ 1000) (hv : c.val.size ≤ 1000) (f : Nat) (hf : chgFault c = f) :
    Calls Try.prog 20 #[.agg #[.string c.key, .string c.val, .bool c.gone]] w fun e w' => e = .returned (.tuple (if f = 0 then #[.string (headB c ++ c.key ++ c.val), .nilIface] else #[.string ⟨#[]⟩, errV f])) ∧ Below w.heap.size w w' := by
  have HK := fun w' => hide (chg_check c w' (by unfold maxLen; omega))
  rw [hf] at HK
  have hB := below_alloc1 w (Obj.cells #[Value.string c.key, Value.string c.val, Value.bool c.gone] 36)
  have a0 : (w.alloc (Obj.cells #[Value.string c.key, Value.string c.val, Value.bool c.gone] 36)).cell? ⟨w.heap.size, 0, none⟩ = some (.string c.key) := by simp
  have a1 : (w.alloc (Obj.cells #[Value.string c.key, Value.string c.val, Value.bool c.gone] 36)).cell? ⟨w.heap.size, 1, none⟩ = some (.string c.val) := by simp
  have a2 : (w.alloc (Obj.cells #[Value.string c.key, Value.string c.val, Value.bool c.gone] 36)).cell? ⟨w.heap.size, 2, none⟩ = some (.bool c.gone) := by simp
  by_cases h0 : f = 0
  · subst h0
    simp only [if_true]
    unfold headB
    generalize c.gone = g at *
    cases g
    · go_enter Try.func20, Try.ntmps20
      go_wp2_with fail
      refine ((HK _).out).mono ?_
      rintro e w1 ⟨rfl, hb⟩
      replace hB := below_on hB (Nat.le_refl _) hb
      replace a0 := cell_on hb a0
      replace a1 := cell_on hb a1
      replace a2 := cell_on hb a2
      have m0 := World.new_ne w1 _ a0
      have hX := below_alloc1 w1 (Obj.cells #[Value.int .u8 0, Value.int .u8 ((c.key.size : Int) % 256)] 5)
      have x0 := cell_on hX a0
      have x1 := cell_on hX a1
      have x2 := cell_on hX a2
      have hcv := run_convert_bytes_back (P := Try.prog) ((w1.alloc (Obj.cells #[Value.int .u8 0, Value.int .u8 ((c.key.size : Int) % 256)] 5))) 61 9 5 ⟨w1.heap.size, 0, none⟩ 2 [0, UInt8.ofNat c.key.size] Try.underlying61 Try.underlying5 Try.underlying9 (fun j hj => by
        have hj2 : j = 0 ∨ j = 1 := by simp at hj; omega
        rcases hj2 with rfl | rfl
        · simp [Addr.add]
        · simp [Addr.add])
      simp only [List.length_cons, List.length_nil, Nat.zero_add, Nat.reduceAdd] at hcv
      have s1 : ¬ 9223372036854775807 < 2 + c.key.size := by omega
      have s2 : ¬ 9223372036854775807 < 2 + c.key.size + c.val.size := by omega
      clear HK hb
      simp only [if_true, errV]
      go_wp2
      go_ret2
      exact ⟨rfl, hB.trans (hX.mono hB.size)⟩
    · go_enter Try.func20, Try.ntmps20
      go_wp2_with fail
      refine ((HK _).out).mono ?_
      rintro e w1 ⟨rfl, hb⟩
      replace hB := below_on hB (Nat.le_refl _) hb
      replace a0 := cell_on hb a0
      replace a1 := cell_on hb a1
      replace a2 := cell_on hb a2
      have m0 := World.new_ne w1 _ a0
      have hX := below_alloc1 w1 (Obj.cells #[Value.int .u8 0, Value.int .u8 ((c.key.size : Int) % 256)] 5)
      have x0 := cell_on hX a0
      have x1 := cell_on hX a1
      have x2 := cell_on hX a2
      have hY := below_alloc1 w1 (Obj.cells #[Value.int .u8 1, Value.int .u8 ((c.key.size : Int) % 256)] 5)
      have y0 := cell_on hY a0
      have y1 := cell_on hY a1
      have hcv := run_convert_bytes_back (P := Try.prog) (w1.alloc (Obj.cells #[Value.int .u8 1, Value.int .u8 ((c.key.size : Int) % 256)] 5)) 61 9 5 ⟨w1.heap.size, 0, none⟩ 2 [1, UInt8.ofNat c.key.size] Try.underlying61 Try.underlying5 Try.underlying9 (fun j hj => by
        have hj2 : j = 0 ∨ j = 1 := by simp at hj; omega
        rcases hj2 with rfl | rfl
        · simp [Addr.add]
        · simp [Addr.add])
      simp only [List.length_cons, List.length_nil, Nat.zero_add, Nat.reduceAdd] at hcv
      have s1 : ¬ 9223372036854775807 < 2 + c.key.size := by omega
      have s2 : ¬ 9223372036854775807 < 2 + c.key.size + c.val.size := by omega
      clear HK hb
      simp only [if_true, errV]
      go_wp2
      go_ret2
      exact ⟨rfl, hB.trans (hY.mono hB.size)⟩
  · simp only [if_neg h0]
    go_enter Try.func20, Try.ntmps20
    go_wp2_with fail
    refine ((HK _).out).mono ?_
    rintro e w1 ⟨rfl, hb⟩
    replace hB := below_on hB (Nat.le_refl _) hb
    simp only [if_neg h0, errV]
    go_wp2
    go_ret2
    exact ⟨by simp [errV, h0], hB⟩
end Go.Proofs.Ytlndiohdjdgaoaa
