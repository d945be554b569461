/-
  What the document's noughts, Write and Flush of a disk return and leave.
-/
import Derived.Test.YtkfpfbkdalbjoaaRDsk
import Derived.Laws.IdiomStrings
namespace Go.Proofs.Ytkfpfbkdalbjoaa
open Go.RowKit Go.Joins
attribute [local go_sem ↓] Go.wp_at_zero Go.wp_at_succ

theorem byte_parts : ∃ i, Try.prog.info? 5 = some i ∧ i.zero = some (.int .u8 0) ∧ i.size = 1 ∧ i.bytes = 1 := by
  have h : (Try.prog.info? 5).map (fun i => (i.zero, i.size, i.bytes)) = some (some (.int .u8 0), 1, 1) := by kernel_rfl
  cases hi : Try.prog.info? 5 with
  | none => rw [hi] at h; cases h
  | some i =>
    rw [hi] at h
    simp only [Option.map_some, Option.some.injEq, Prod.mk.injEq] at h
    exact ⟨i, rfl, h.1, h.2.1, h.2.2⟩
set_option maxRecDepth 8000 in
set_option maxHeartbeats 1000000 in
theorem noughts_any (n : Nat) (hn : n ≤ 96) (w : World) : Calls Try.prog 44 #[.int .i64 n] w fun e w' => e = .returned (.string (zerosB n)) ∧ Below w.heap.size w w' := by
  obtain ⟨i, hi, hz, hs, hb⟩ := byte_parts
  have hc : madeCells (Value.int .u8 0).cells (n * 1) = (List.replicate n (Value.int .u8 0)).toArray := by
    apply Array.ext'
    rw [Nat.mul_one]
    rcases range_zero (Value.int .u8 0).cells n (.int .u8 0) rfl with e | e
    · exact e
    · cases e
  have h := run_makeSlice (P := Try.prog) w 92 5 i (.int .u8 0) Try.underlying92 hi hz .i64 .i64 n n (by omega) (Int.le_refl _) (by rw [hs, Int.toNat_natCast]; omega) (by rw [hb]; omega) (by omega)
  rw [hs, Int.toNat_natCast, hc] at h
  have hcv := run_convert_bytes_back (P := Try.prog) (w.alloc (.cells (List.replicate n (Value.int .u8 0)).toArray 5)) 92 9 5 ⟨w.heap.size, 0, none⟩ n (List.replicate n 0) Try.underlying92 Try.underlying5 Try.underlying9 (fun j hj => by
    rw [Go.Addr.add_mid, Nat.zero_add, cell_new, List.getElem?_toArray, List.getElem?_replicate, if_pos (by simpa using hj)]
    simp)
  rw [List.length_replicate] at hcv
  have hbb := below_alloc1 w (.cells (List.replicate n (Value.int .u8 0)).toArray 5)
  have HB := hide hbb
  clear hbb hc
  generalize (List.replicate n (Value.int .u8 0)).toArray = Z at *
  go_enter Try.func44, Try.ntmps44
  go_wp2
  go_ret
  exact ⟨rfl, HB.out⟩
end Go.Proofs.Ytkfpfbkdalbjoaa
