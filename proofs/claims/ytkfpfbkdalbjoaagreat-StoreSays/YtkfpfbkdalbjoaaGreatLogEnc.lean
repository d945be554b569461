/-
  What log.encode returns.
-/
import Derived.Test.YtkfpfbkdalbjoaaGreatLogSec
namespace Go.Proofs.YtkfpfbkdalbjoaaGreat
open Go.RowKit Go.Joins
attribute [local go_sem ↓] Go.wp_at_zero Go.wp_at_succ

theorem bcell {W w1 : World} (hb : Below W.heap.size W w1) : (∀ b o, b < W.heap.size → w1.cell? ⟨b, o, none⟩ = W.cell? ⟨b, o, none⟩) ∧ (∀ b o, b < W.heap.size → w1.frozen? ⟨b, o, none⟩ = W.frozen? ⟨b, o, none⟩) :=
  ⟨fun b o h => hb.cell (p := ⟨b, o, none⟩) h, fun b o h => hb.frozen (p := ⟨b, o, none⟩) h⟩
theorem conv_one (k : Nat) (hk : k < 256) (W : World) (b : Nat) (h : W.cell? ⟨b, 0, none⟩ = some (.int .u8 (k : Int))) : (convert 89 9 (.slice (some ⟨b, 0, none⟩) 1 1)).run Tryz.prog W = .ok (.string ⟨#[UInt8.ofNat k]⟩) W := by
  have := run_convert_bytes_back (P := Tryz.prog) W 89 9 5 ⟨b, 0, none⟩ 1 [UInt8.ofNat k] Tryz.underlying89 Tryz.underlying5 Tryz.underlying9 (fun j hj => by
    have hj2 : j = 0 := by simp at hj; omega
    subst hj2
    have e : (⟨b, 0, none⟩ : Addr).add 0 = ⟨b, 0, none⟩ := by simp [Addr.add]
    rw [e, h]
    simp
    omega)
  simpa using this
set_option maxRecDepth 8000 in
set_option maxHeartbeats 8000000 in
theorem encode_any (k n : Nat) (d : ByteArray) (hk : k < 256) (hn : n ≤ 2000000000) (hd : d.size ≤ 90) (w : World) : Calls Tryz.prog 68 #[.int .u8 (k : Int), .int .i64 (n : Int), .string d] w fun e w' => e = .returned (.string (encL k n d)) ∧ Below w.heap.size w w' := by
  have HF := fun w => hide (four_any n hn w)
  have hz1 : (d.size : Int) ≤ 90 := by omega
  have hz0 : (0 : Int) ≤ (d.size : Int) := by omega
  have k3 : IntKind.u8.wrap (d.size : Int) = d.size := by simp [IntKind.wrap, IntKind.bits]; omega
  have hc1 := conv_one k hk
  have hc2 := conv_one d.size (by omega)
  have hff : (fourB n).size = 4 := rfl
  unfold encL
  generalize fourB n = ff at *
  have FA : ∀ w1, Below (w.alloc (Obj.cells #[Value.int .u8 (k : Int)] 5)).drew.heap.size (w.alloc (Obj.cells #[Value.int .u8 (k : Int)] 5)).drew w1 → w1.cell? ⟨w.heap.size, 0, none⟩ = some (.int .u8 (k : Int)) ∧ w.heap.size < w1.heap.size := fun w1 hb => ⟨cell_on hb (cell_new w _ _ 0), by have := hb.size; simp at this; omega⟩
  have FB : ∀ w1, Below (w.alloc (Obj.cells #[Value.int .u8 (d.size : Int)] 5)).drew.heap.size (w.alloc (Obj.cells #[Value.int .u8 (d.size : Int)] 5)).drew w1 → w1.cell? ⟨w.heap.size, 0, none⟩ = some (.int .u8 (d.size : Int)) ∧ w.heap.size < w1.heap.size := fun w1 hb => ⟨cell_on hb (cell_new w _ _ 0), by have := hb.size; simp at this; omega⟩
  have FAB : ∀ w1, Below (((w.alloc (Obj.cells #[Value.int .u8 (k : Int)] 5)).alloc (Obj.cells #[Value.int .u8 (d.size : Int)] 5)).drew).heap.size (((w.alloc (Obj.cells #[Value.int .u8 (k : Int)] 5)).alloc (Obj.cells #[Value.int .u8 (d.size : Int)] 5)).drew) w1 → w1.cell? ⟨w.heap.size, 0, none⟩ = some (.int .u8 (k : Int)) ∧ w1.cell? ⟨w.heap.size + 1, 0, none⟩ = some (.int .u8 (d.size : Int)) ∧ w.heap.size < w1.heap.size ∧ w.heap.size + 1 < w1.heap.size := fun w1 hb => by
    have h0 : (w.alloc (Obj.cells #[Value.int .u8 (k : Int)] 5)).cell? ⟨w.heap.size, 0, none⟩ = some (.int .u8 (k : Int)) := cell_new w _ _ 0
    have h1 : ((w.alloc (Obj.cells #[Value.int .u8 (k : Int)] 5)).alloc (Obj.cells #[Value.int .u8 (d.size : Int)] 5)).cell? ⟨w.heap.size, 0, none⟩ = some (.int .u8 (k : Int)) := cell_on (below_alloc1 _ _) h0
    refine ⟨cell_on hb h1, ?_, ?_, ?_⟩
    · have h := cell_on hb (cell_new (w.alloc (Obj.cells #[Value.int .u8 (k : Int)] 5)) #[Value.int .u8 (d.size : Int)] 5 0)
      have e : (w.alloc (Obj.cells #[Value.int .u8 (k : Int)] 5)).heap.size = w.heap.size + 1 := by simp
      rw [e] at h
      exact h
    · have := hb.size; simp at this; omega
    · have := hb.size; simp at this; omega
  have FBA : ∀ w1, Below (((w.alloc (Obj.cells #[Value.int .u8 (d.size : Int)] 5)).alloc (Obj.cells #[Value.int .u8 (k : Int)] 5)).drew).heap.size (((w.alloc (Obj.cells #[Value.int .u8 (d.size : Int)] 5)).alloc (Obj.cells #[Value.int .u8 (k : Int)] 5)).drew) w1 → w1.cell? ⟨w.heap.size, 0, none⟩ = some (.int .u8 (d.size : Int)) ∧ w1.cell? ⟨w.heap.size + 1, 0, none⟩ = some (.int .u8 (k : Int)) ∧ w.heap.size < w1.heap.size ∧ w.heap.size + 1 < w1.heap.size := fun w1 hb => by
    have h0 : (w.alloc (Obj.cells #[Value.int .u8 (d.size : Int)] 5)).cell? ⟨w.heap.size, 0, none⟩ = some (.int .u8 (d.size : Int)) := cell_new w _ _ 0
    have h1 : ((w.alloc (Obj.cells #[Value.int .u8 (d.size : Int)] 5)).alloc (Obj.cells #[Value.int .u8 (k : Int)] 5)).cell? ⟨w.heap.size, 0, none⟩ = some (.int .u8 (d.size : Int)) := cell_on (below_alloc1 _ _) h0
    refine ⟨cell_on hb h1, ?_, ?_, ?_⟩
    · have h := cell_on hb (cell_new (w.alloc (Obj.cells #[Value.int .u8 (d.size : Int)] 5)) #[Value.int .u8 (k : Int)] 5 0)
      have e : (w.alloc (Obj.cells #[Value.int .u8 (d.size : Int)] 5)).heap.size = w.heap.size + 1 := by simp
      rw [e] at h
      exact h
    · have := hb.size; simp at this; omega
    · have := hb.size; simp at this; omega
  have HBAB : Hid (∀ w1, Below (((w.alloc (Obj.cells #[Value.int .u8 (k : Int)] 5)).alloc (Obj.cells #[Value.int .u8 (d.size : Int)] 5)).drew).heap.size (((w.alloc (Obj.cells #[Value.int .u8 (k : Int)] 5)).alloc (Obj.cells #[Value.int .u8 (d.size : Int)] 5)).drew) w1 → Below w.heap.size w w1) := fun w1 h => below_on (below_on (below_alloc1 _ _) (Nat.le_refl _) (below_alloc1 _ _)).drew (by simp) h
  have HBBA : Hid (∀ w1, Below (((w.alloc (Obj.cells #[Value.int .u8 (d.size : Int)] 5)).alloc (Obj.cells #[Value.int .u8 (k : Int)] 5)).drew).heap.size (((w.alloc (Obj.cells #[Value.int .u8 (d.size : Int)] 5)).alloc (Obj.cells #[Value.int .u8 (k : Int)] 5)).drew) w1 → Below w.heap.size w w1) := fun w1 h => below_on (below_on (below_alloc1 _ _) (Nat.le_refl _) (below_alloc1 _ _)).drew (by simp) h
  have HBA : Hid (∀ w1, Below ((w.alloc (Obj.cells #[Value.int .u8 (k : Int)] 5)).drew).heap.size ((w.alloc (Obj.cells #[Value.int .u8 (k : Int)] 5)).drew) w1 → Below w.heap.size w w1) := fun w1 h => below_on (below_alloc1 _ _).drew (by simp) h
  have HBB : Hid (∀ w1, Below ((w.alloc (Obj.cells #[Value.int .u8 (d.size : Int)] 5)).drew).heap.size ((w.alloc (Obj.cells #[Value.int .u8 (d.size : Int)] 5)).drew) w1 → Below w.heap.size w w1) := fun w1 h => below_on (below_alloc1 _ _).drew (by simp) h
  replace FA := hide FA
  replace FB := hide FB
  replace FAB := hide FAB
  replace FBA := hide FBA
  have s1 : ¬ 9223372036854775807 < 1 + ff.size + 1 + d.size := by omega
  have s2 : ¬ 9223372036854775807 < 6 + d.size := by omega
  have s3 : ¬ 9223372036854775807 < d.size + 6 := by omega
  go_enter Tryz.func68, Tryz.ntmps68
  go_wp2
  go_region_with ((go_at_call 69; refine ((HF _).out).mono ?_; rintro e w1 ⟨rfl, hb⟩; (first
    | (have hT : Below (((w.alloc (Obj.cells #[Value.int .u8 (k : Int)] 5)).alloc (Obj.cells #[Value.int .u8 (d.size : Int)] 5)).drew).heap.size (((w.alloc (Obj.cells #[Value.int .u8 (k : Int)] 5)).alloc (Obj.cells #[Value.int .u8 (d.size : Int)] 5)).drew) w1 := hb; obtain ⟨z0, z1, z2, z3⟩ := FAB.out w1 hT; have hW := HBAB.out w1 hT; clear hT)
    | (have hT : Below (((w.alloc (Obj.cells #[Value.int .u8 (d.size : Int)] 5)).alloc (Obj.cells #[Value.int .u8 (k : Int)] 5)).drew).heap.size (((w.alloc (Obj.cells #[Value.int .u8 (d.size : Int)] 5)).alloc (Obj.cells #[Value.int .u8 (k : Int)] 5)).drew) w1 := hb; obtain ⟨z0, z1, z2, z3⟩ := FBA.out w1 hT; have hW := HBBA.out w1 hT; clear hT)
    | (have hT : Below ((w.alloc (Obj.cells #[Value.int .u8 (k : Int)] 5)).drew).heap.size ((w.alloc (Obj.cells #[Value.int .u8 (k : Int)] 5)).drew) w1 := hb; obtain ⟨z0, z1⟩ := FA.out w1 hT; have hW := HBA.out w1 hT; clear hT)
    | (have hT : Below ((w.alloc (Obj.cells #[Value.int .u8 (d.size : Int)] 5)).drew).heap.size ((w.alloc (Obj.cells #[Value.int .u8 (d.size : Int)] 5)).drew) w1 := hb; obtain ⟨z0, z1⟩ := FB.out w1 hT; have hW := HBB.out w1 hT; clear hT)
    | (have hT : Below w.drew.heap.size w.drew w1 := hb; have hW : Below w.heap.size w w1 := below_on (Below.refl _ _).drew (Nat.le_refl _) hT; clear hT))))
  all_goals
    go_wp2
    go_ret
    exact ⟨rfl, by first | exact hW | exact below_on hW (Nat.le_refl _) (below_alloc1 _ _) | exact below_on (below_on hW (Nat.le_refl _) (below_alloc1 _ _)) (Nat.le_refl _) (below_alloc1 _ _)⟩
end Go.Proofs.YtkfpfbkdalbjoaaGreat
