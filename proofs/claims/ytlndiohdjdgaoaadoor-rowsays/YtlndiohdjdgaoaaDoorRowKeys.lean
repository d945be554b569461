/-
  What package row's Table, Queue, Message and Messages return, for every name that isn't great and every number, where the library's table of powers of ten holds what its text lays; nothing that was there is changed.
-/
import Derived.Test.YtlndiohdjdgaoaaDoorBase
import Derived.Test.YtlndiohdjdgaoaaDoorKeyB
import Derived.Test.YtlndiohdjdgaoaaDoorDecL
import Derived.Test.YtlndiohdjdgaoaaDoorShelfK
namespace Go.Proofs.YtlndiohdjdgaoaaDoor
open Go.RowKit Go.Joins

set_option maxHeartbeats 400000 in
theorem table_any (s : ByteArray) (w : World) (hs : s.size ≤ 1000) :
    Calls Tryd.prog 13 #[.string s] w fun e w' => e = .returned (.string (tabB s)) ∧ w' = w := by
  go_enter Tryd.func13, Tryd.ntmps13
  go_wp2
  go_ret
  exact ⟨rfl, rfl⟩
set_option maxHeartbeats 400000 in
theorem queue_any (s : ByteArray) (w : World) (hs : s.size ≤ 1000) :
    Calls Tryd.prog 14 #[.string s] w fun e w' => e = .returned (.string (queB s)) ∧ w' = w := by
  go_enter Tryd.func14, Tryd.ntmps14
  go_wp2
  go_ret
  exact ⟨rfl, rfl⟩
set_option maxHeartbeats 400000 in
theorem messages_any (s : ByteArray) (w : World) (hs : s.size ≤ 1000) :
    Calls Tryd.prog 17 #[.string s] w fun e w' => e = .returned (.agg #[.string (fromB s), .string (toB s)]) ∧ Below w.heap.size w w' := by
  go_enter Tryd.func17, Tryd.ntmps17
  go_wp2
  exact bodyPost_ret (v := .agg #[.string (⟨#[109, 47]⟩ ++ s ++ ⟨#[47]⟩), .string (⟨#[109, 47]⟩ ++ s ++ ⟨#[48]⟩)]) (by simp [results, Tryd.results17, go_sem]) rfl ⟨rfl, below_alloc1 _ _⟩

def numOf (n : Int) : Nat := (max n 0).toNat % 1000000
theorem below_grows (w : World) (k : Nat) (os : Array Obj) : Below w.heap.size w (Go.Sort.grow (w.drewN k) os) := by
  refine ⟨rfl, rfl, rfl, ?_, fun i hi => ?_⟩
  · show w.heap.size ≤ (w.heap ++ os).size
    simp
  · show (w.heap ++ os)[i]? = w.heap[i]?
    rw [Array.getElem?_append_left hi]
theorem itoa_any (n : Nat) (w : World) (hn : n ≤ 999999999) (htab : Lib.TabIs Tryd.prog w "internal/strconv.uint64pow10" .u64 Lib.pow10Tab) :
    Calls Tryd.prog 30 #[.int .i64 n] w fun e w' => e = .returned (.string (decB n)) ∧ Below w.heap.size w w' :=
  (Tryd.strconv_Itoa n (by omega) (by omega) w htab).mono fun e w' ⟨he, k, os, hw⟩ => ⟨by rw [he, Lib.itoa_nonneg]; rfl, by rw [hw]; exact below_grows w k os⟩
theorem repeat_one (c : Nat) : Lib.repeatL [48] c = List.replicate c 48 := by
  induction c with
  | zero => rfl
  | succ c ih => simp [Lib.repeatL, ih, List.replicate_succ]
theorem repeat_any (c : Nat) (w : World) (hc : c ≤ 1000) :
    Calls Tryd.prog 33 #[.string ⟨#[48]⟩, .int .i64 c] w fun e w' => e = .returned (.string ⟨(List.replicate c (48 : UInt8)).toArray⟩) ∧ Below w.heap.size w w' :=
  (Tryd.strings_Repeat ⟨#[48]⟩ c w (by omega) (by have : (⟨#[48]⟩ : ByteArray).size = 1 := rfl; rw [this]; omega)).mono fun e w' ⟨he, hb⟩ => ⟨by
    rw [he]
    exact congrArg (fun l : List UInt8 => Ending.returned (.string ⟨l.toArray⟩)) (repeat_one c), hb⟩

set_option maxHeartbeats 1000000 in
theorem message_any (q : ByteArray) (n : Int) (w : World) (hq : q.size ≤ 1000) (h0 : -9223372036854775808 ≤ n) (h1 : n ≤ 9223372036854775807)
    (htab : Lib.TabIs Tryd.prog w "internal/strconv.uint64pow10" .u64 Lib.pow10Tab) :
    Calls Tryd.prog 15 #[.string q, .int .i64 n] w fun e w' => e = .returned (.string (msgB q (numOf n))) ∧ Below w.heap.size w w' := by
  have hnum : numOf n ≤ 999999 := by unfold numOf; omega
  have hlen := len_dec (numOf n) hnum
  have hsz : (decB (numOf n)).size = (Lib.decDigits (numOf n)).length := by rw [Lib.size_eq, decB_l]
  have hpad := pad_six (numOf n) hnum
  have hle : (decB (numOf n)).size ≤ 6 := by omega
  have HE := hide (show max n 0 % 1000000 = ((numOf n : Nat) : Int) by unfold numOf; omega)
  have HF := hide (show (6 : Int) - ((decB (numOf n)).size : Int) = ((6 - (decB (numOf n)).size : Nat) : Int) by omega)
  have HV := hide (show fromB q ++ ⟨(List.replicate (6 - (decB (numOf n)).size) (48 : UInt8)).toArray⟩ ++ decB (numOf n) = msgB q (numOf n) by
    refine data_inj ?_
    rw [msgB_l, ← hpad, hsz]
    simp [ByteArray.data_append, fromB_l, decB_l])
  have HT := hide htab
  clear htab hsz hpad hlen
  have hrep : (⟨(List.replicate (6 - (decB (numOf n)).size) (48 : UInt8)).toArray⟩ : ByteArray).size ≤ 6 := by rw [Lib.size_eq]; simp
  have HR := fun w => hide (repeat_any (6 - (decB (numOf n)).size) w (by omega))
  generalize hz : (⟨(List.replicate (6 - (decB (numOf n)).size) (48 : UInt8)).toArray⟩ : ByteArray) = z at *
  clear hz
  go_enter Tryd.func15, Tryd.ntmps15
  go_wp2_with fail
  rw [HE.out]
  refine (itoa_any _ _ (by omega) HT.out).mono ?_
  rintro e w1 ⟨rfl, hb1⟩
  go_wp2_with fail
  rw [HF.out]
  refine ((HR _).out).mono ?_
  rintro e w2 ⟨rfl, hb2⟩
  go_wp2
  go_ret
  exact ⟨ret_string HV.out, below_on hb1 (Nat.le_refl _) hb2⟩

theorem pow_named : Tryd.prog.globalNamed "internal/strconv.uint64pow10" = some 0 := by kernel_rfl
theorem tab_on {w w' : World} (h : Lib.TabIs Tryd.prog w "internal/strconv.uint64pow10" .u64 Lib.pow10Tab) (hb : Below w.heap.size w w') : Lib.TabIs Tryd.prog w' "internal/strconv.uint64pow10" .u64 Lib.pow10Tab :=
  tab_stays pow_named h hb (Nat.le_refl _)
end Go.Proofs.YtlndiohdjdgaoaaDoor
