/-
  A log's sector: what log.fourBytes, log.encode and log.decode return.
-/
import Derived.Test.YtkfpfbkdalbjoaaGreatBase
import Derived.Laws.IdiomStrings
namespace Go.Proofs.YtkfpfbkdalbjoaaGreat
open Go.RowKit Go.Joins
attribute [local go_sem ↓] Go.wp_at_zero Go.wp_at_succ

def fourL (n : Nat) : List UInt8 := [UInt8.ofNat n, UInt8.ofNat (n / 256), UInt8.ofNat (n / 65536), UInt8.ofNat (n / 16777216)]
def fourB (n : Nat) : ByteArray := ⟨(fourL n).toArray⟩
def byteAt (t : ByteArray) (i : Nat) : Nat := if h : i < t.size then t[i].toNat else 0
theorem byteAt_of {t : ByteArray} {i : Nat} (h : i < t.size) : t[i].toNat = byteAt t i := by unfold byteAt; rw [dif_pos h]
theorem byteAt_lt (t : ByteArray) (i : Nat) : byteAt t i < 256 := by
  unfold byteAt; split
  · exact UInt8.toNat_lt _
  · decide
/-- what a sector has, by its number -/
def decL (t : ByteArray) (n : Nat) : Option (Nat × ByteArray) :=
  if (byteAt t 0 = 111 ∨ byteAt t 0 = 99) ∧ ((t.extract 1 5).toList == (fourB n).toList) = true ∧ byteAt t 5 ≤ 90 then some (byteAt t 0, t.extract 6 (6 + byteAt t 5)) else none
def decV : Option (Nat × ByteArray) → Value
  | none => .tuple #[.int .u8 0, .string ⟨#[]⟩, .bool false]
  | some (k, d) => .tuple #[.int .u8 (k : Int), .string d, .bool true]
def encL (k n : Nat) (d : ByteArray) : ByteArray := ⟨#[UInt8.ofNat k]⟩ ++ fourB n ++ ⟨#[UInt8.ofNat d.size]⟩ ++ d
set_option maxRecDepth 8000 in
set_option maxHeartbeats 1000000 in
theorem four_any (n : Nat) (hn : n ≤ 2000000000) (w : World) : Calls Tryz.prog 69 #[.int .i64 (n : Int)] w fun e w' => e = .returned (.string (fourB n)) ∧ Below w.heap.size w w' := by
  have hcv := run_convert_bytes_back (P := Tryz.prog) (w.alloc (Obj.cells #[Value.int .u8 ((n : Int) % 256), Value.int .u8 ((n : Int) / 256 % 256), Value.int .u8 ((n : Int) / 65536 % 256), Value.int .u8 ((n : Int) / 16777216)] 5)) 89 9 5 ⟨w.heap.size, 0, none⟩ 4 (fourL n) Tryz.underlying89 Tryz.underlying5 Tryz.underlying9 (fun j hj => by
    have hj2 : j = 0 ∨ j = 1 ∨ j = 2 ∨ j = 3 := by simp [fourL] at hj; omega
    rcases hj2 with rfl | rfl | rfl | rfl <;> simp [Addr.add, fourL] <;> omega)
  have HB := hide (below_alloc1 w (Obj.cells #[Value.int .u8 ((n : Int) % 256), Value.int .u8 ((n : Int) / 256 % 256), Value.int .u8 ((n : Int) / 65536 % 256), Value.int .u8 ((n : Int) / 16777216)] 5))
  have hl : (fourL n).length = 4 := rfl
  rw [hl] at hcv
  clear hl
  have hn0 : (0 : Int) ≤ (n : Int) := by omega
  have hn1 : (n : Int) ≤ 2000000000 := by omega
  unfold fourB
  generalize (fourL n) = fl at *
  go_enter Tryz.func69, Tryz.ntmps69
  go_wp2
  go_ret
  exact ⟨rfl, HB.out⟩
set_option maxRecDepth 8000 in
set_option maxHeartbeats 2000000 in
theorem decode_none (t : ByteArray) (n : Nat) (hn : n ≤ 2000000000) (h96 : t.size = 96) (hd : decL t n = none) (w : World) : Calls Tryz.prog 64 #[.string t, .int .i64 (n : Int)] w fun e w' => e = .returned (.tuple #[.int .u8 0, .string ⟨#[]⟩, .bool false]) ∧ Below w.heap.size w w' := by
  have e0 : t[0].toNat = byteAt t 0 := byteAt_of (by omega)
  have e5 : t[5].toNat = byteAt t 5 := byteAt_of (by omega)
  have l0 := byteAt_lt t 0
  have l5 := byteAt_lt t 5
  have HF := fun w => hide (four_any n hn w)
  unfold decL at hd
  generalize byteAt t 0 = x at *
  generalize byteAt t 5 = y at *
  by_cases hk : x = 111 ∨ x = 99
  · cases hs : ((t.extract 1 5).toList == (fourB n).toList) with
    | true =>
      have hy : 90 < y := by
        have : ¬ y ≤ 90 := fun h => by rw [if_pos ⟨hk, hs, h⟩] at hd; cases hd
        omega
      have hy' : (90 : Int) < (y : Int) := by omega
      clear hd
      generalize fourB n = ff at *
      rcases hk with rfl | rfl
      all_goals
        go_enter Tryz.func64, Tryz.ntmps64
        go_wp2_with fail
        have hne := OnW.some w
        refine wp_region_on (by kernel_rfl) (by kernel_rfl) ?_
        repeat (go_big_quiet_step ((go_at_call 69; exact on_call (HF _).out)))
        refine wpQuiet_nil ?_
        intro w2 hw2
        replace hw2 := on_end hw2
        have HB := hide hw2
        clear hw2
        go_wp2
        go_ret3
        exact ⟨rfl, HB.out⟩
    | false =>
      clear hd
      generalize fourB n = ff at *
      rcases hk with rfl | rfl
      all_goals
        go_enter Tryz.func64, Tryz.ntmps64
        go_wp2_with fail
        have hne := OnW.some w
        refine wp_region_on (by kernel_rfl) (by kernel_rfl) ?_
        repeat (go_big_quiet_step ((go_at_call 69; exact on_call (HF _).out)))
        refine wpQuiet_nil ?_
        intro w2 hw2
        replace hw2 := on_end hw2
        have HB := hide hw2
        clear hw2
        go_wp2
        go_ret3
        exact ⟨rfl, HB.out⟩
  · have k1 : ((x : Int) == 111) = false := by simp; omega
    have k2 : ((x : Int) == 99) = false := by simp; omega
    have k3 : ¬ x = 111 := by omega
    have k4 : ¬ x = 99 := by omega
    have k5 : ¬ (x : Int) = 111 := by omega
    have k6 : ¬ (x : Int) = 99 := by omega
    have k7 : ((x : Int) != 111) = true := by simp; omega
    have k8 : ((x : Int) != 99) = true := by simp; omega
    clear hd hk
    generalize fourB n = ff at *
    go_enter Tryz.func64, Tryz.ntmps64
    go_wp2_with fail
    have hne := OnW.some w
    refine wp_region_on (by kernel_rfl) (by kernel_rfl) ?_
    repeat (go_big_quiet_step ((go_at_call 69; exact on_call (HF _).out)))
    refine wpQuiet_nil ?_
    intro w2 hw2
    replace hw2 := on_end hw2
    have HB := hide hw2
    clear hw2
    go_wp2
    go_ret3
    exact ⟨rfl, HB.out⟩
set_option maxRecDepth 8000 in
set_option maxHeartbeats 2000000 in
theorem decode_some (t : ByteArray) (n k : Nat) (d : ByteArray) (hn : n ≤ 2000000000) (h96 : t.size = 96) (hd : decL t n = some (k, d)) (w : World) : Calls Tryz.prog 64 #[.string t, .int .i64 (n : Int)] w fun e w' => e = .returned (.tuple #[.int .u8 (k : Int), .string d, .bool true]) ∧ Below w.heap.size w w' := by
  have e0 : t[0].toNat = byteAt t 0 := byteAt_of (by omega)
  have e5 : t[5].toNat = byteAt t 5 := byteAt_of (by omega)
  have l0 := byteAt_lt t 0
  have l5 := byteAt_lt t 5
  have HF := fun w => hide (four_any n hn w)
  unfold decL at hd
  generalize byteAt t 0 = x at *
  generalize byteAt t 5 = y at *
  split at hd
  case isFalse => cases hd
  case isTrue h =>
    obtain ⟨hk, hs, hy⟩ := h
    simp only [Option.some.injEq, Prod.mk.injEq] at hd
    obtain ⟨rfl, rfl⟩ := hd
    have hy' : (y : Int) ≤ 90 := by omega
    have hy0 : (0 : Int) ≤ (y : Int) := by omega
    generalize fourB n = ff at *
    rcases hk with rfl | rfl
    all_goals
      go_enter Tryz.func64, Tryz.ntmps64
      go_wp2_with fail
      have hne := OnW.some w
      refine wp_region_on (by kernel_rfl) (by kernel_rfl) ?_
      repeat (go_big_quiet_step ((go_at_call 69; exact on_call (HF _).out)))
      refine wpQuiet_nil ?_
      intro w2 hw2
      replace hw2 := on_end hw2
      have HB := hide hw2
      clear hw2
      go_wp2
      go_quiet (fail)
      go_wp2
      go_ret3
      exact ⟨rfl, below_drewN HB.out _⟩
end Go.Proofs.YtkfpfbkdalbjoaaGreat
