/-
  What package row's Table, Queue, Message and Messages return, for every name that isn't great and every number, where the library's table of powers of ten holds what its text lays; nothing that was there is changed.
-/
import Derived.Test.YtighpalbodhfeaaGreatDoorBase
import Derived.Test.YtighpalbodhfeaaGreatDoorKeyB
import Derived.Test.YtighpalbodhfeaaGreatDoorShelfK
namespace Go.Proofs.YtighpalbodhfeaaGreatDoor
open Go.RowKit Go.Joins

set_option maxHeartbeats 400000 in
theorem queue_any (s : ByteArray) (w : World) (hs : s.size ≤ 1000) :
    Calls Tryz.prog 65 #[.string s] w fun e w' => e = .returned (.string (queB s)) ∧ w' = w := by
  go_enter Tryz.func65, Tryz.ntmps65
  go_wp2
  go_ret
  exact ⟨rfl, rfl⟩
set_option maxHeartbeats 400000 in
theorem messages_any (s : ByteArray) (w : World) (hs : s.size ≤ 1000) :
    Calls Tryz.prog 85 #[.string s] w fun e w' => e = .returned (.agg #[.string (fromB s), .string (toB s)]) ∧ Below w.heap.size w w' := by
  go_enter Tryz.func85, Tryz.ntmps85
  go_wp2
  exact bodyPost_ret (v := .agg #[.string (⟨#[109, 47]⟩ ++ s ++ ⟨#[47]⟩), .string (⟨#[109, 47]⟩ ++ s ++ ⟨#[48]⟩)]) (by simp [results, Tryz.results85, go_sem]) rfl ⟨rfl, below_alloc1 _ _⟩

def numOf (n : Int) : Nat := (max n 0).toNat % 1000000
theorem below_grows (w : World) (k : Nat) (os : Array Obj) : Below w.heap.size w (Go.Sort.grow (w.drewN k) os) := by
  refine ⟨rfl, rfl, rfl, ?_, fun i hi => ?_⟩
  · show w.heap.size ≤ (w.heap ++ os).size
    simp
  · show (w.heap ++ os)[i]? = w.heap[i]?
    rw [Array.getElem?_append_left hi]
theorem itoa_any (n : Nat) (w : World) (hn : n ≤ 999999999) (htab : Lib.TabIs Tryz.prog w "internal/strconv.uint64pow10" .u64 Lib.pow10Tab) :
    Calls Tryz.prog 99 #[.int .i64 n] w fun e w' => e = .returned (.string (decB n)) ∧ Below w.heap.size w w' :=
  (Tryz.strconv_Itoa n (by omega) (by omega) w htab).mono fun e w' ⟨he, k, os, hw⟩ => ⟨by rw [he, Lib.itoa_nonneg]; rfl, by rw [hw]; exact below_grows w k os⟩
theorem repeat_one (c : Nat) : Lib.repeatL [48] c = List.replicate c 48 := by
  induction c with
  | zero => rfl
  | succ c ih => simp [Lib.repeatL, ih, List.replicate_succ]
theorem repeat_any (c : Nat) (w : World) (hc : c ≤ 1000) :
    Calls Tryz.prog 100 #[.string ⟨#[48]⟩, .int .i64 c] w fun e w' => e = .returned (.string ⟨(List.replicate c (48 : UInt8)).toArray⟩) ∧ Below w.heap.size w w' :=
  (Tryz.strings_Repeat ⟨#[48]⟩ c w (by omega) (by have : (⟨#[48]⟩ : ByteArray).size = 1 := rfl; rw [this]; omega)).mono fun e w' ⟨he, hb⟩ => ⟨by
    rw [he]
    exact congrArg (fun l : List UInt8 => Ending.returned (.string ⟨l.toArray⟩)) (repeat_one c), hb⟩

set_option maxHeartbeats 1000000 in
theorem message_any (q : ByteArray) (n : Int) (w : World) (hq : q.size ≤ 1000) (h0 : -9223372036854775808 ≤ n) (h1 : n ≤ 9223372036854775807)
    (htab : Lib.TabIs Tryz.prog w "internal/strconv.uint64pow10" .u64 Lib.pow10Tab) :
    Calls Tryz.prog 59 #[.string q, .int .i64 n] w fun e w' => e = .returned (.string (msgB q (numOf n))) ∧ Below w.heap.size w w' := by
  have hnum : numOf n ≤ 999999 := by unfold numOf; omega
  have hlen := len_dec (numOf n) hnum
  have hsz : (decB (numOf n)).size = (Lib.decDigits (numOf n)).length := by rw [Lib.size_eq, decB_l]
  have hpad := pad_six (numOf n) hnum
  have hle : (decB (numOf n)).size ≤ 6 := by omega
  have HE := hide (show max n 0 % 1000000 = ((numOf n : Nat) : Int) by unfold numOf; omega)
  have HF := hide (show (6 : Int) - ((decB (numOf n)).size : Int) = ((6 - (decB (numOf n)).size : Nat) : Int) by omega)
  have HV := hide (show fromB q ++ ⟨(List.replicate (6 - (decB (numOf n)).size) (48 : UInt8)).toArray⟩ ++ decB (numOf n) = msgB q (numOf n) by
    refine data_inj ?_
    rw [msgB_l, ← hpad, hsz]
    simp [ByteArray.data_append, fromB_l, decB_l])
  have HT := hide htab
  clear htab hsz hpad hlen
  have hrep : (⟨(List.replicate (6 - (decB (numOf n)).size) (48 : UInt8)).toArray⟩ : ByteArray).size ≤ 6 := by rw [Lib.size_eq]; simp
  have HR := fun w => hide (repeat_any (6 - (decB (numOf n)).size) w (by omega))
  generalize hz : (⟨(List.replicate (6 - (decB (numOf n)).size) (48 : UInt8)).toArray⟩ : ByteArray) = z at *
  clear hz
  go_enter Tryz.func59, Tryz.ntmps59
  go_wp2_with fail
  rw [HE.out]
  refine (itoa_any _ _ (by omega) HT.out).mono ?_
  rintro e w1 ⟨rfl, hb1⟩
  go_wp2_with fail
  rw [HF.out]
  refine ((HR _).out).mono ?_
  rintro e w2 ⟨rfl, hb2⟩
  go_wp2
  go_ret
  exact ⟨ret_string HV.out, below_on hb1 (Nat.le_refl _) hb2⟩

theorem pow_named : Tryz.prog.globalNamed "internal/strconv.uint64pow10" = some 3 := by kernel_rfl
theorem tab_on {w w' : World} (h : Lib.TabIs Tryz.prog w "internal/strconv.uint64pow10" .u64 Lib.pow10Tab) (hb : Below w.heap.size w w') : Lib.TabIs Tryz.prog w' "internal/strconv.uint64pow10" .u64 Lib.pow10Tab :=
  tab_stays pow_named h hb (Nat.le_refl _)
end Go.Proofs.YtighpalbodhfeaaGreatDoor

/-
  What package row's functions on names and digits return (isLetter, isDigit, Name, isNumber), for every text; they change nothing.
-/
namespace Go.Proofs.YtighpalbodhfeaaGreatDoor
open Go.RowKit Go.Joins

set_option maxHeartbeats 400000 in
theorem isLetter_any (c : UInt8) (w : World) :
    Calls Tryz.prog 104 #[.int .u8 c.toNat] w fun e w' => e = .returned (.bool (isLet c)) ∧ w' = w := by
  go_enter Tryz.func104, Tryz.ntmps104
  go_wp2
  all_goals
    go_ret
    refine ⟨ret_bool ?_, rfl⟩
    simp only [isLet]
    first | (rw [Bool.eq_iff_iff]; simp; omega) | (simp; omega)

set_option maxHeartbeats 400000 in
theorem isDigit_any (c : UInt8) (w : World) :
    Calls Tryz.prog 105 #[.int .u8 c.toNat] w fun e w' => e = .returned (.bool (isDig c)) ∧ w' = w := by
  go_enter Tryz.func105, Tryz.ntmps105
  go_wp2
  all_goals
    go_ret
    refine ⟨ret_bool ?_, rfl⟩
    simp only [isDig]
    first | (rw [Bool.eq_iff_iff]; simp; omega) | (simp; omega)

set_option maxHeartbeats 1000000 in
theorem isNumber_any (s : ByteArray) (w : World) :
    Calls Tryz.prog 135 #[.string s] w fun e w' => e = .returned (.bool (sixL s.data.toList)) ∧ w' = w := by
  by_cases h6 : s.size = 6
  · have hg : ((s.size : Int) != 6) = false := by rw [h6]; rfl
    go_enter Tryz.func135, Tryz.ntmps135
    go_wp2
    go_loop [9] (fun i => ∃ k : Nat, k ≤ s.size ∧ i = .int .i64 k ∧ digTo s.data.toList k = true) (fun i => s.size - (intOf i).toNat)
    case atStart => exact ⟨0, Nat.zero_le _, rfl, rfl⟩
    case round =>
      obtain ⟨k, hk, rfl, hd⟩ := hrel
      have HD := hide hd
      clear hd
      by_cases hlt : k < s.size
      · have HS := hide (digTo_succ s.data.toList k)
        have HB := hide (byte_at s k hlt)
        cases hc : isDig s[k] with
        | true =>
          go_wp2_with (go_at_call 105; refine (isDigit_any _ _).mono ?_; rintro e w' ⟨rfl, rfl⟩)
          go_round
          case rel => exact ⟨k + 1, by omega, by go_num, by rw [HS.out, HD.out, HB.out, hc]; rfl⟩
          case measure => simp [intOf]; omega
        | false =>
          go_wp2_with (go_at_call 105; refine (isDigit_any _ _).mono ?_; rintro e w' ⟨rfl, rfl⟩)
          go_ret
          refine ⟨ret_bool ?_, rfl⟩
          rw [sixL, len_data, digTo_le (k := k + 1) (by omega) (by rw [HS.out, HB.out, hc, Bool.and_false]), Bool.and_false]
      · go_wp2
        go_ret
        refine ⟨ret_bool ?_, rfl⟩
        have e : k = s.size := by omega
        have := HD.out
        rw [e] at this
        rw [sixL, len_data, this]; simp [h6]
  · have hg : ((s.size : Int) != 6) = true := by rw [bne_iff_ne]; omega
    go_enter Tryz.func135, Tryz.ntmps135
    go_wp2
    go_ret
    exact ⟨ret_bool (by simp [sixL, h6]), rfl⟩

set_option maxHeartbeats 2000000 in
theorem name_any (s : ByteArray) (w : World) :
    Calls Tryz.prog 64 #[.string s] w fun e w' => e = .returned (.bool (nameL s.data.toList)) ∧ w' = w := by
  by_cases h1 : 1 ≤ s.size
  · by_cases h6 : s.size ≤ 6
    · go_enter Tryz.func64, Tryz.ntmps64
      go_wp2
      go_loop [14] (fun i => ∃ k : Nat, k ≤ s.size ∧ i = .int .i64 k ∧ nameTo s.data.toList k = true) (fun i => s.size - (intOf i).toNat)
      case atStart => exact ⟨0, Nat.zero_le _, rfl, rfl⟩
      case round =>
        obtain ⟨k, hk, rfl, hd⟩ := hrel
        have HD := hide hd
        clear hd
        by_cases hlt : k < s.size
        · have HS := hide (nameTo_succ s.data.toList k)
          have HB := hide (byte_at s k hlt)
          have yes : nameAt k s[k] = true → nameTo s.data.toList (k + 1) = true := fun h => by rw [HS.out, HD.out, HB.out, h]; rfl
          have no : nameAt k s[k] = false → nameL s.data.toList = false := fun h => by
            rw [nameL, len_data, nameTo_le (k := k + 1) (by omega) (by rw [HS.out, HB.out, h, Bool.and_false]), Bool.and_false]
          have HY := hide yes
          have HN := hide no
          clear yes no
          cases hc : isLet s[k] with
          | true =>
            go_wp2_with (first | (go_at_call 104; refine (isLetter_any _ _).mono ?_; rintro e w' ⟨rfl, rfl⟩) | (go_at_call 105; refine (isDigit_any _ _).mono ?_; rintro e w' ⟨rfl, rfl⟩))
            go_round
            case rel => exact ⟨k + 1, by omega, by go_num, HY.out (by simp [nameAt, hc])⟩
            case measure => simp [intOf]; omega
          | false =>
            by_cases h0 : k = 0
            · subst h0
              go_wp2_with (first | (go_at_call 104; refine (isLetter_any _ _).mono ?_; rintro e w' ⟨rfl, rfl⟩) | (go_at_call 105; refine (isDigit_any _ _).mono ?_; rintro e w' ⟨rfl, rfl⟩))
              go_ret
              exact ⟨ret_bool (HN.out (by simp [nameAt, hc])).symm, rfl⟩
            · have hk0 : ((k : Int) == 0) = false := beq_eq_false_iff_ne.2 (by omega)
              cases hd : isDig s[k] with
              | true =>
                go_wp2_with (first | (go_at_call 104; refine (isLetter_any _ _).mono ?_; rintro e w' ⟨rfl, rfl⟩) | (go_at_call 105; refine (isDigit_any _ _).mono ?_; rintro e w' ⟨rfl, rfl⟩))
                go_round
                case rel => exact ⟨k + 1, by omega, by go_num, HY.out (by simp [nameAt, hd, h0])⟩
                case measure => simp [intOf]; omega
              | false =>
                go_wp2_with (first | (go_at_call 104; refine (isLetter_any _ _).mono ?_; rintro e w' ⟨rfl, rfl⟩) | (go_at_call 105; refine (isDigit_any _ _).mono ?_; rintro e w' ⟨rfl, rfl⟩))
                go_ret
                exact ⟨ret_bool (HN.out (by simp [nameAt, hc, hd])).symm, rfl⟩
        · go_wp2
          go_ret
          refine ⟨ret_bool ?_, rfl⟩
          have e : k = s.size := by omega
          have := HD.out
          rw [e] at this
          rw [nameL, len_data, this]; simp [h1, h6]
    · go_enter Tryz.func64, Tryz.ntmps64
      go_wp2
      go_ret
      exact ⟨ret_bool (by simp [nameL, h6]), rfl⟩
  · go_enter Tryz.func64, Tryz.ntmps64
    go_wp2
    go_ret
    exact ⟨ret_bool (by simp [nameL]; omega), rfl⟩
end Go.Proofs.YtighpalbodhfeaaGreatDoor

/-
  What package row's QueueText and MessageText return, where the library's table of powers of ten holds what its text lays; nothing that was there is changed.
-/
namespace Go.Proofs.YtighpalbodhfeaaGreatDoor
open Go.RowKit Go.Joins

set_option maxHeartbeats 400000 in
theorem within_yes (n lo hi : Int) (w : World) (h1 : lo ≤ n) (h2 : n ≤ hi) :
    Calls Tryz.prog 123 #[.int .i64 n, .int .i64 lo, .int .i64 hi] w fun e w' => e = .returned (.bool true) ∧ w' = w := by
  go_enter Tryz.func123, Tryz.ntmps123
  go_wp2
  go_ret
  exact ⟨rfl, rfl⟩
set_option maxHeartbeats 400000 in
theorem within_no (n lo hi : Int) (w : World) (h : n < lo ∨ hi < n) :
    Calls Tryz.prog 123 #[.int .i64 n, .int .i64 lo, .int .i64 hi] w fun e w' => e = .returned (.bool false) ∧ w' = w := by
  by_cases h1 : n < lo
  · go_enter Tryz.func123, Tryz.ntmps123
    go_wp2
    go_ret
    exact ⟨rfl, rfl⟩
  · have h2 : hi < n := by omega
    have h3 : lo ≤ n := by omega
    go_enter Tryz.func123, Tryz.ntmps123
    go_wp2
    go_ret
    exact ⟨ret_bool (by simp [h2]), rfl⟩

set_option maxHeartbeats 1000000 in
theorem join_any (a b : Nat) (r : ByteArray) (w : World) (ha : a ≤ 9999999) (hb : b ≤ 9999999) (hr : r.size ≤ 1000) (htab : Lib.TabIs Tryz.prog w "internal/strconv.uint64pow10" .u64 Lib.pow10Tab) :
    Calls Tryz.prog 124 #[.int .i64 a, .int .i64 b, .string r] w fun e w' => e = .returned (.string (joinB a b r)) ∧ Below w.heap.size w w' := by
  have ea : (decB a).size ≤ 7 := by rw [Lib.size_eq, decB_l]; exact len_dec_lt a ha
  have eb : (decB b).size ≤ 7 := by rw [Lib.size_eq, decB_l]; exact len_dec_lt b hb
  have HT := hide htab
  clear htab
  go_enter Tryz.func124, Tryz.ntmps124
  go_wp2_with fail
  refine (itoa_any a _ (by omega) HT.out).mono ?_
  rintro e w1 ⟨rfl, hb1⟩
  go_wp2_with fail
  refine (itoa_any b _ (by omega) (tab_on HT.out hb1)).mono ?_
  rintro e w2 ⟨rfl, hb2⟩
  go_wp2
  go_ret
  exact ⟨rfl, below_on hb1 (Nat.le_refl _) hb2⟩

set_option maxHeartbeats 2000000 in
theorem queueText_ok (n t : Nat) (d : ByteArray) (w : World) (hn : n ≤ 999999) (ht : 1 ≤ t) (ht' : t ≤ 9) (hd : d.toList.isEmpty = true ∨ (d.toList.isEmpty = false ∧ nameL d.data.toList = true)) (hs : d.size ≤ 1000) (htab : Lib.TabIs Tryz.prog w "internal/strconv.uint64pow10" .u64 Lib.pow10Tab) :
    Calls Tryz.prog 92 #[.agg #[.int .i64 n, .int .i64 t, .string d]] w fun e w' => e = .returned (.tuple #[.string (joinB n t d), .nilIface]) ∧ Below w.heap.size w w' := by
  have hB := below_alloc1 w (Obj.cells #[Value.int .i64 n, Value.int .i64 t, Value.string d] 76)
  have HT := hide (tab_on htab hB)
  clear htab
  rcases hd with hd | ⟨hd, hd'⟩
  all_goals
    go_enter Tryz.func92, Tryz.ntmps92
    go_wp2_with (first
      | (go_at_call 123; refine (within_yes _ _ _ _ ?_ ?_).mono ?_; omega; omega; rintro e w1 ⟨rfl, rfl⟩)
      | (go_at_call 64; refine (name_any _ _).mono ?_; rintro e w1 ⟨rfl, rfl⟩)
      | (go_at_call 124; refine (join_any _ _ _ _ (by omega) (by omega) (by omega) HT.out).mono ?_; rintro e w1 ⟨rfl, hb⟩; replace hB := below_on hB (Nat.le_refl _) hb; clear hb))
    go_ret2
    exact ⟨rfl, hB⟩

set_option maxHeartbeats 2000000 in
theorem queueText_bound (n t : Int) (d : ByteArray) (w : World) (h : (n < 0 ∨ 999999 < n) ∨ (0 ≤ n ∧ n ≤ 999999 ∧ (t < 1 ∨ 9 < t))) :
    Calls Tryz.prog 92 #[.agg #[.int .i64 n, .int .i64 t, .string d]] w fun e w' => e = .returned (.tuple #[.string ⟨#[]⟩, .iface 108 (.int .i64 1)]) ∧ Below w.heap.size w w' := by
  have hB := below_alloc1 w (Obj.cells #[Value.int .i64 n, Value.int .i64 t, Value.string d] 76)
  rcases h with h | ⟨h, h', h''⟩
  all_goals
    go_enter Tryz.func92, Tryz.ntmps92
    go_wp2_with (first
      | (go_at_call 123; refine (within_yes _ _ _ _ ?_ ?_).mono ?_; omega; omega; rintro e w1 ⟨rfl, rfl⟩)
      | (go_at_call 123; refine (within_no _ _ _ _ ?_).mono ?_; omega; rintro e w1 ⟨rfl, rfl⟩))
    go_ret2
    exact ⟨rfl, hB⟩

set_option maxHeartbeats 2000000 in
theorem queueText_shape (n t : Int) (d : ByteArray) (w : World) (hn : 0 ≤ n) (hn' : n ≤ 999999) (ht : 1 ≤ t) (ht' : t ≤ 9) (hd : d.toList.isEmpty = false) (hd' : nameL d.data.toList = false) :
    Calls Tryz.prog 92 #[.agg #[.int .i64 n, .int .i64 t, .string d]] w fun e w' => e = .returned (.tuple #[.string ⟨#[]⟩, .iface 108 (.int .i64 3)]) ∧ Below w.heap.size w w' := by
  have hB := below_alloc1 w (Obj.cells #[Value.int .i64 n, Value.int .i64 t, Value.string d] 76)
  all_goals
    go_enter Tryz.func92, Tryz.ntmps92
    go_wp2_with (first
      | (go_at_call 123; refine (within_yes _ _ _ _ ?_ ?_).mono ?_; omega; omega; rintro e w1 ⟨rfl, rfl⟩)
      | (go_at_call 64; refine (name_any _ _).mono ?_; rintro e w1 ⟨rfl, rfl⟩))
    go_ret2
    exact ⟨rfl, hB⟩

set_option maxHeartbeats 2000000 in
theorem messageText_ok (k : Int) (t u : Nat) (d : ByteArray) (w : World) (ht : t ≤ 9) (hu : u ≤ 2000000) (hs : d.size ≤ 28) (htab : Lib.TabIs Tryz.prog w "internal/strconv.uint64pow10" .u64 Lib.pow10Tab) :
    Calls Tryz.prog 102 #[.agg #[.int .i64 k, .int .i64 t, .int .i64 u, .string d]] w fun e w' => e = .returned (.tuple #[.string (joinB t u d), .nilIface]) ∧ Below w.heap.size w w' := by
  have hB := below_alloc1 w (Obj.cells #[Value.int .i64 k, Value.int .i64 t, Value.int .i64 u, Value.string d] 48)
  have HT := hide (tab_on htab hB)
  clear htab
  all_goals
    go_enter Tryz.func102, Tryz.ntmps102
    go_wp2_with (first
      | (go_at_call 123; refine (within_yes _ _ _ _ ?_ ?_).mono ?_; omega; omega; rintro e w1 ⟨rfl, rfl⟩)
      | (go_at_call 124; refine (join_any _ _ _ _ (by omega) (by omega) (by omega) HT.out).mono ?_; rintro e w1 ⟨rfl, hb⟩; replace hB := below_on hB (Nat.le_refl _) hb; clear hb))
    go_ret2
    exact ⟨rfl, hB⟩

set_option maxHeartbeats 2000000 in
theorem messageText_bound (k t u : Int) (d : ByteArray) (w : World) (h : (t < 0 ∨ 9 < t) ∨ (0 ≤ t ∧ t ≤ 9 ∧ ((u < 0 ∨ 2000000 < u) ∨ (0 ≤ u ∧ u ≤ 2000000 ∧ 28 < d.size)))) :
    Calls Tryz.prog 102 #[.agg #[.int .i64 k, .int .i64 t, .int .i64 u, .string d]] w fun e w' => e = .returned (.tuple #[.string ⟨#[]⟩, .iface 108 (.int .i64 1)]) ∧ Below w.heap.size w w' := by
  have hB := below_alloc1 w (Obj.cells #[Value.int .i64 k, Value.int .i64 t, Value.int .i64 u, Value.string d] 48)
  rcases h with h | ⟨h, h', h'' | ⟨h2, h3, h4⟩⟩
  all_goals
    go_enter Tryz.func102, Tryz.ntmps102
    go_wp2_with (first
      | (go_at_call 123; refine (within_yes _ _ _ _ ?_ ?_).mono ?_; omega; omega; rintro e w1 ⟨rfl, rfl⟩)
      | (go_at_call 123; refine (within_no _ _ _ _ ?_).mono ?_; omega; rintro e w1 ⟨rfl, rfl⟩))
    go_ret2
    exact ⟨rfl, hB⟩
end Go.Proofs.YtighpalbodhfeaaGreatDoor
