/-
  What the document's answers on rows return (haywainref.MessageKey, MessagesSpan, QueueText, MessageText): the same as package row's; they make new memory alone.
-/
import Derived.Test.YtighpalbodhfeaaGreatDoorAppend1
import Derived.Test.YtighpalbodhfeaaGreatDoorWordL
import Derived.Test.YtighpalbodhfeaaGreatDoorRowKeys
import Derived.Test.YtighpalbodhfeaaGreatDoorBase
import Derived.Test.YtighpalbodhfeaaGreatDoorCutWalk
namespace Go.Proofs.YtighpalbodhfeaaGreatDoor
open Go.RowKit Go.Joins

set_option maxHeartbeats 1000000 in
theorem messagesSpan_any (s : ByteArray) (w : World) (hs : s.size ≤ 1000) :
    Calls Tryz.prog 87 #[.string s] w fun e w' => e = .returned (.agg #[.string (fromB s), .string (toB s)]) ∧ Below w.heap.size w w' := by
  go_enter Tryz.func87, Tryz.ntmps87
  go_wp2
  exact bodyPost_ret (v := .agg #[.string (⟨#[109, 47]⟩ ++ s ++ ⟨#[47]⟩), .string (⟨#[109, 47]⟩ ++ s ++ ⟨#[48]⟩)]) (by simp [results, Tryz.results87, go_sem]) rfl ⟨rfl, below_alloc1 _ _⟩
set_option maxHeartbeats 1000000 in
theorem messageKey_any (q : ByteArray) (n : Int) (w : World) (hq : q.size ≤ 1000) (h1 : n ≤ 9223372036854775807) :
    Calls Tryz.prog 61 #[.string q, .int .i64 n] w fun e w' => e = .returned (.string (msgB q ((max n 0).toNat % 1000000))) ∧ Below w.heap.size w w' := by
  have HE : Hid (max 0 n = (((max n 0).toNat : Nat) : Int)) := by show _ = _; omega
  have HD := fun w' => hide (six_any (max n 0).toNat w' (by omega))
  have h6 : (⟨(six ((max n 0).toNat % 1000000)).toArray⟩ : ByteArray).size = 6 := rfl
  unfold msgB
  generalize (⟨(six ((max n 0).toNat % 1000000)).toArray⟩ : ByteArray) = z at *
  go_enter Tryz.func61, Tryz.ntmps61
  go_wp2_with fail
  rw [HE.out]
  refine ((HD _).out).mono ?_
  rintro e w1 ⟨rfl, hb⟩
  go_wp2
  go_ret
  exact ⟨rfl, hb⟩

set_option maxHeartbeats 2000000 in
theorem rqueueText_ok (n t : Nat) (d : ByteArray) (hn : n ≤ 999999) (ht : 1 ≤ t) (ht' : t ≤ 9) (hd : d.toList.isEmpty = true ∨ (d.toList.isEmpty = false ∧ nameL d.data.toList = true)) (hs : d.size ≤ 1000) (w : World) :
    Calls Tryz.prog 97 #[.agg #[.int .i64 n, .int .i64 t, .string d]] w fun e w' => e = .returned (.tuple #[.string (joinB n t d), .int .i64 0]) ∧ Below w.heap.size w w' := by
  have hB := below_alloc1 w (Obj.cells #[Value.int .i64 n, Value.int .i64 t, Value.string d] 76)
  have ea : (decB n).size ≤ 7 := by rw [Lib.size_eq, decB_l]; exact len_dec_lt _ (by omega)
  have eb : (decB t).size ≤ 7 := by rw [Lib.size_eq, decB_l]; exact len_dec_lt _ (by omega)
  unfold joinB
  have HA := fun w' => hide (decimal_any n w' (by omega))
  have HC := fun w' => hide (decimal_any t w' (by omega))
  generalize decB n = A at *
  generalize decB t = D at *
  rcases hd with hd | ⟨hd, hd'⟩
  all_goals
    go_enter Tryz.func97, Tryz.ntmps97
    go_wp2_with (go_at_call 53; refine (nameMay_any _ _).mono ?_; rintro e w1 ⟨rfl, rfl⟩)
    have nS := OnW.some (w.alloc (Obj.cells #[Value.int .i64 n, Value.int .i64 t, Value.string d] 76))
    have n0 : ∀ z : OnW (w.alloc (Obj.cells #[Value.int .i64 n, Value.int .i64 t, Value.string d] 76)), z.w.cell? ⟨w.heap.size, 0, none⟩ = some (Value.int .i64 n) := fun z => z.cell (by simp)
    have n1 : ∀ z : OnW (w.alloc (Obj.cells #[Value.int .i64 n, Value.int .i64 t, Value.string d] 76)), z.w.cell? ⟨w.heap.size, 1, none⟩ = some (Value.int .i64 t) := fun z => z.cell (by simp)
    have n2 : ∀ z : OnW (w.alloc (Obj.cells #[Value.int .i64 n, Value.int .i64 t, Value.string d] 76)), z.w.cell? ⟨w.heap.size, 2, none⟩ = some (Value.string d) := fun z => z.cell (by simp)
    refine wp_region_on (by kernel_rfl) (by kernel_rfl) ?_
    repeat (go_big_quiet_step ((first
      | (go_at_call_of 103 (Value.int .i64 (n : Int)); exact on_call ((HA _).out))
      | (go_at_call_of 103 (Value.int .i64 (t : Int)); exact on_call ((HC _).out)))))
    refine wpQuiet_nil ?_
    intro w3 hw3
    replace hw3 := on_end hw3
    replace hB := below_on hB (Nat.le_refl _) hw3
    go_wp2
    go_ret2
    exact ⟨rfl, hB⟩

set_option maxHeartbeats 2000000 in
theorem rqueueText_bound (n t : Int) (d : ByteArray) (w : World) (h : (n < 0 ∨ 999999 < n) ∨ (0 ≤ n ∧ n ≤ 999999 ∧ (t < 1 ∨ 9 < t))) :
    Calls Tryz.prog 97 #[.agg #[.int .i64 n, .int .i64 t, .string d]] w fun e w' => e = .returned (.tuple #[.string ⟨#[]⟩, .int .i64 1]) ∧ Below w.heap.size w w' := by
  have hB := below_alloc1 w (Obj.cells #[Value.int .i64 n, Value.int .i64 t, Value.string d] 76)
  have h4 : n < 0 ∨ (0 ≤ n ∧ 999999 < n) ∨ (0 ≤ n ∧ n ≤ 999999 ∧ t < 1) ∨ (0 ≤ n ∧ n ≤ 999999 ∧ 1 ≤ t ∧ 9 < t) := by omega
  rcases h4 with h | ⟨h, h'⟩ | ⟨h, h', h2⟩ | ⟨h, h', h2, h3⟩
  all_goals
    go_enter Tryz.func97, Tryz.ntmps97
    go_wp2
    go_ret2
    exact ⟨rfl, hB⟩
set_option maxHeartbeats 2000000 in
theorem rqueueText_shape (n t : Int) (d : ByteArray) (w : World) (hn : 0 ≤ n) (hn' : n ≤ 999999) (ht : 1 ≤ t) (ht' : t ≤ 9) (hd : d.toList.isEmpty = false) (hd' : nameL d.data.toList = false) :
    Calls Tryz.prog 97 #[.agg #[.int .i64 n, .int .i64 t, .string d]] w fun e w' => e = .returned (.tuple #[.string ⟨#[]⟩, .int .i64 3]) ∧ Below w.heap.size w w' := by
  have hB := below_alloc1 w (Obj.cells #[Value.int .i64 n, Value.int .i64 t, Value.string d] 76)
  go_enter Tryz.func97, Tryz.ntmps97
  go_wp2_with (go_at_call 53; refine (nameMay_any _ _).mono ?_; rintro e w1 ⟨rfl, rfl⟩)
  go_ret2
  exact ⟨rfl, hB⟩

set_option maxHeartbeats 2000000 in
theorem rmessageText_ok (k : Int) (t u : Nat) (d : ByteArray) (ht : t ≤ 9) (hu : u ≤ 2000000) (hs : d.size ≤ 28) (w : World) :
    Calls Tryz.prog 63 #[.agg #[.int .i64 k, .int .i64 t, .int .i64 u, .string d]] w fun e w' => e = .returned (.tuple #[.string (joinB t u d), .int .i64 0]) ∧ Below w.heap.size w w' := by
  have hB := below_alloc1 w (Obj.cells #[Value.int .i64 k, Value.int .i64 t, Value.int .i64 u, Value.string d] 48)
  have ea : (decB t).size ≤ 7 := by rw [Lib.size_eq, decB_l]; exact len_dec_lt _ (by omega)
  have eb : (decB u).size ≤ 7 := by rw [Lib.size_eq, decB_l]; exact len_dec_lt _ (by omega)
  unfold joinB
  have HA := fun w' => hide (decimal_any t w' (by omega))
  have HC := fun w' => hide (decimal_any u w' (by omega))
  generalize decB t = A at *
  generalize decB u = D at *
  all_goals
    go_enter Tryz.func63, Tryz.ntmps63
    go_wp2_with (go_at_call 53; refine (nameMay_any _ _).mono ?_; rintro e w1 ⟨rfl, rfl⟩)
    have nS := OnW.some (w.alloc (Obj.cells #[Value.int .i64 k, Value.int .i64 t, Value.int .i64 u, Value.string d] 48))
    have n0 : ∀ z : OnW (w.alloc (Obj.cells #[Value.int .i64 k, Value.int .i64 t, Value.int .i64 u, Value.string d] 48)), z.w.cell? ⟨w.heap.size, 1, none⟩ = some (Value.int .i64 t) := fun z => z.cell (by simp)
    have n1 : ∀ z : OnW (w.alloc (Obj.cells #[Value.int .i64 k, Value.int .i64 t, Value.int .i64 u, Value.string d] 48)), z.w.cell? ⟨w.heap.size, 2, none⟩ = some (Value.int .i64 u) := fun z => z.cell (by simp)
    have n2 : ∀ z : OnW (w.alloc (Obj.cells #[Value.int .i64 k, Value.int .i64 t, Value.int .i64 u, Value.string d] 48)), z.w.cell? ⟨w.heap.size, 3, none⟩ = some (Value.string d) := fun z => z.cell (by simp)
    refine wp_region_on (by kernel_rfl) (by kernel_rfl) ?_
    repeat (go_big_quiet_step ((first
      | (go_at_call_of 103 (Value.int .i64 (t : Int)); exact on_call ((HA _).out))
      | (go_at_call_of 103 (Value.int .i64 (u : Int)); exact on_call ((HC _).out)))))
    refine wpQuiet_nil ?_
    intro w3 hw3
    replace hw3 := on_end hw3
    replace hB := below_on hB (Nat.le_refl _) hw3
    go_wp2
    go_ret2
    exact ⟨rfl, hB⟩

set_option maxHeartbeats 2000000 in
theorem rmessageText_bound (k t u : Int) (d : ByteArray) (w : World) (h : (t < 0 ∨ 9 < t) ∨ (0 ≤ t ∧ t ≤ 9 ∧ ((u < 0 ∨ 2000000 < u) ∨ (0 ≤ u ∧ u ≤ 2000000 ∧ 28 < d.size)))) :
    Calls Tryz.prog 63 #[.agg #[.int .i64 k, .int .i64 t, .int .i64 u, .string d]] w fun e w' => e = .returned (.tuple #[.string ⟨#[]⟩, .int .i64 1]) ∧ Below w.heap.size w w' := by
  have hB := below_alloc1 w (Obj.cells #[Value.int .i64 k, Value.int .i64 t, Value.int .i64 u, Value.string d] 48)
  have h4 : t < 0 ∨ (0 ≤ t ∧ 9 < t) ∨ (0 ≤ t ∧ t ≤ 9 ∧ u < 0) ∨ (0 ≤ t ∧ t ≤ 9 ∧ 0 ≤ u ∧ 2000000 < u) ∨ (0 ≤ t ∧ t ≤ 9 ∧ 0 ≤ u ∧ u ≤ 2000000 ∧ (28 : Int) < (d.size : Int)) := by omega
  rcases h4 with h | ⟨h, h'⟩ | ⟨h, h', h2⟩ | ⟨h, h', h2, h3⟩ | ⟨h, h', h2, h3, h4⟩
  all_goals
    go_enter Tryz.func63, Tryz.ntmps63
    go_wp2
    go_ret2
    exact ⟨rfl, hB⟩
end Go.Proofs.YtighpalbodhfeaaGreatDoor

/-
  What haywainref.KeyFault returns: 0 at a key of a row, else 3; for every text; it changes nothing.
-/
namespace Go.Proofs.YtighpalbodhfeaaGreatDoor
open Go.RowKit Go.Joins

theorem data_drop (k : ByteArray) (a : Nat) : (k.extract a k.size).data.toList = k.data.toList.drop a := by
  rw [ByteArray.data_extract]
  simp only [Array.toList_extract, List.extract_eq_take_drop]
  exact List.take_of_length_le (by simp)
theorem data_mid (k : ByteArray) (a b : Nat) : (k.extract a b).data.toList = (k.data.toList.drop a).take (b - a) := by
  rw [ByteArray.data_extract]
  simp only [Array.toList_extract, List.extract_eq_take_drop]
theorem take_two (k : ByteArray) : (k.extract 0 2).toList = k.data.toList.take 2 := by
  rw [Lib.toList_data, data_mid]; rfl
set_option maxHeartbeats 1000000 in
theorem keyFault_named (k : ByteArray) (w : World) (h2 : 2 < k.size) (h : (k.extract 0 2).toList = [116, 47] ∨ ¬ (k.extract 0 2).toList = [116, 47] ∧ (k.extract 0 2).toList = [113, 47]) :
    Calls Tryz.prog 17 #[.string k] w fun e w' => e = .returned (.int .i64 (faultK k.data.toList)) ∧ w' = w := by
  have hk : keyL k.data.toList = nameL (k.data.toList.drop 2) := key_named (by rw [take_two] at h; rcases h with h | h; exact .inl h; exact .inr h.2)
  have hn := fun w' => nameMay_any (k.extract 2 k.size) w'
  rw [data_drop, ← hk] at hn
  unfold faultK
  generalize keyL k.data.toList = y at hn ⊢
  have HN := fun w' => hide (hn w')
  clear hn hk
  have g2 : (2 : Int) < (k.size : Int) := by omega
  cases y
  all_goals
    rcases h with h | ⟨h', h⟩
    all_goals
      go_enter Tryz.func17, Tryz.ntmps17
      go_wp2_with (go_at_call 53; refine ((HN _).out).mono ?_; rintro e w1 ⟨rfl, rfl⟩)
      go_ret
      exact ⟨rfl, rfl⟩
set_option maxHeartbeats 1000000 in
theorem keyFault_short (k : ByteArray) (w : World) (h2 : k.size ≤ 2) :
    Calls Tryz.prog 17 #[.string k] w fun e w' => e = .returned (.int .i64 (faultK k.data.toList)) ∧ w' = w := by
  have hk : faultK k.data.toList = 3 := by unfold faultK; rw [key_short (by rwa [len_data])]; rfl
  rw [hk]
  clear hk
  have g2 : ¬ (2 : Int) < (k.size : Int) := by omega
  have g3 : (k.size : Int) < 10 := by omega
  go_enter Tryz.func17, Tryz.ntmps17
  go_wp2
  go_ret
  exact ⟨rfl, rfl⟩
theorem fault_no {k : ByteArray} (h1 : ¬ (k.extract 0 2).toList = [116, 47]) (h2 : ¬ (k.extract 0 2).toList = [113, 47]) (h : messageL k.data.toList = false) : faultK k.data.toList = 3 := by
  rw [take_two] at h1 h2
  unfold faultK; rw [key_other h1 h2, h]; rfl
theorem fault_yes {k : ByteArray} (h1 : ¬ (k.extract 0 2).toList = [116, 47]) (h2 : ¬ (k.extract 0 2).toList = [113, 47]) (h : messageL k.data.toList = true) : faultK k.data.toList = 0 := by
  rw [take_two] at h1 h2
  unfold faultK; rw [key_other h1 h2, h]; rfl
set_option maxHeartbeats 1000000 in
theorem keyFault_other (k : ByteArray) (w : World) (h2 : 2 < k.size) (h : ¬ (k.extract 0 2).toList = [116, 47]) (h' : ¬ (k.extract 0 2).toList = [113, 47]) (hn : k.size < 10 ∨ ¬ (k.extract 0 2).toList = [109, 47]) :
    Calls Tryz.prog 17 #[.string k] w fun e w' => e = .returned (.int .i64 (faultK k.data.toList)) ∧ w' = w := by
  have hk : faultK k.data.toList = 3 := fault_no h h' (by
    rw [message_eq, len_data]
    rcases hn with hn | hn
    · simp; omega
    · rw [take_two] at hn; simp [hn])
  rw [hk]
  clear hk
  have g2 : (2 : Int) < (k.size : Int) := by omega
  have b1 := beq_eq_false_iff_ne.2 h
  have b2 := beq_eq_false_iff_ne.2 h'
  rcases hn with hn | hn
  · have g3 : (k.size : Int) < 10 := by omega
    go_enter Tryz.func17, Tryz.ntmps17
    go_wp2
    go_ret
    exact ⟨rfl, rfl⟩
  · have b3 := beq_eq_false_iff_ne.2 hn
    go_enter Tryz.func17, Tryz.ntmps17
    go_wp2
    all_goals
      go_ret
      exact ⟨rfl, rfl⟩
end Go.Proofs.YtighpalbodhfeaaGreatDoor

/-
  What haywainref.KeyFault returns: 0 at a key of a row, else 3; for every text; it changes nothing.
-/
namespace Go.Proofs.YtighpalbodhfeaaGreatDoor
open Go.RowKit Go.Joins

theorem wrap_in {n : Int} (h0 : 0 ≤ n) (h1 : n ≤ 100000) : wrap64 n = n := by unfold wrap64; omega
theorem message_at {k : ByteArray} (h10 : 10 ≤ k.size) (hm : (k.extract 0 2).toList = [109, 47]) (h : k.size - 7 < k.size) :
    messageL k.data.toList = ((k[k.size - 7] == 47) && (nameL (k.extract 2 (k.size - 7)).data.toList && (List.range 6).all fun i => isDig (k.data.toList.getD (k.size - 6 + i) 0))) := by
  rw [take_two] at hm
  rw [message_eq, len_data, hm, byte_at k _ h, data_mid, digTo_drop]
  have e : k.size - 7 - 2 = k.size - 9 := by omega
  rw [e]
  simp [h10]
set_option maxHeartbeats 2000000 in
theorem keyFault_message (k : ByteArray) (w : World) (h10 : 10 ≤ k.size) (hn : k.size ≤ 1000) (hm : (k.extract 0 2).toList = [109, 47]) :
    Calls Tryz.prog 17 #[.string k] w fun e w' => e = .returned (.int .i64 (faultK k.data.toList)) ∧ w' = w := by
  have h : ¬ (k.extract 0 2).toList = [116, 47] := by rw [hm]; decide
  have h' : ¬ (k.extract 0 2).toList = [113, 47] := by rw [hm]; decide
  have g2 : (2 : Int) < (k.size : Int) := by omega
  have g10 : decide ((k.size : Int) < 10) = false := by simp; omega
  have i7 : (k.size : Int) - 7 = ((k.size - 7 : Nat) : Int) := by omega
  have w7 : wrap64 ((k.size - 7 : Nat) : Int) = ((k.size - 7 : Nat) : Int) := wrap_in (by omega) (by omega)
  have i6 : (k.size : Int) - 6 = ((k.size - 6 : Nat) : Int) := by omega
  have w6 : wrap64 ((k.size - 6 : Nat) : Int) = ((k.size - 6 : Nat) : Int) := wrap_in (by omega) (by omega)
  have l7 : k.size - 7 < k.size := by omega
  have j7 : (2 : Int) ≤ ((k.size - 7 : Nat) : Int) := by omega
  have z7 : (0 : Int) ≤ ((k.size - 7 : Nat) : Int) := by omega
  have y7 : ((k.size - 7 : Nat) : Int) < (k.size : Int) := by omega
  have x7 : ((k.size - 7 : Nat) : Int) ≤ (k.size : Int) := by omega
  have b1 := beq_eq_false_iff_ne.2 h
  have b2 := beq_eq_false_iff_ne.2 h'
  have HM := hide (message_at h10 hm l7)
  have HF0 : Hid (messageL k.data.toList = false → faultK k.data.toList = 3) := fault_no h h'
  have HF1 : Hid (messageL k.data.toList = true → faultK k.data.toList = 0) := fault_yes h h'
  by_cases hc : k[k.size - 7] = 47
  · have c47 : ((k[k.size - 7].toNat : Int) != 47) = false := by rw [hc]; rfl
    have hN := fun w' => nameMay_any (k.extract 2 (k.size - 7)) w'
    generalize hy : nameL (k.extract 2 (k.size - 7)).data.toList = y at hN
    have HN := fun w' => hide (hN w')
    clear hN
    have HY := hide hy
    have HC := hide hc
    clear hy hc
    cases y
    · go_enter Tryz.func17, Tryz.ntmps17
      go_wp2_with (go_at_call 53; refine ((HN _).out).mono ?_; rintro e w1 ⟨rfl, rfl⟩)
      go_ret
      exact ⟨ret_int (by rw [HF0.out (by rw [HM.out, HC.out, HY.out]; rfl)]; rfl), rfl⟩
    · replace HM : Hid (messageL k.data.toList = (List.range 6).all fun i => isDig (k.data.toList.getD (k.size - 6 + i) 0)) := by
        have := HM.out
        rw [HC.out, HY.out] at this
        exact this
      go_enter Tryz.func17, Tryz.ntmps17
      go_wp2_with (go_at_call 53; refine ((HN _).out).mono ?_; rintro e w1 ⟨rfl, rfl⟩)
      go_loop [6] (fun i => ∃ j : Nat, j ≤ 6 ∧ i = .int .i64 ((k.size - 6 + j : Nat) : Int) ∧ (List.range j).all (fun i => isDig (k.data.toList.getD (k.size - 6 + i) 0)) = true) (fun i => k.size - (intOf i).toNat)
      case atStart => exact ⟨0, Nat.zero_le _, rfl, rfl⟩
      case round =>
        obtain ⟨j, hj, rfl, hd⟩ := hrel
        have HD := hide hd
        clear hd
        by_cases hlt : j < 6
        · have hl : k.size - 6 + j < k.size := by omega
          have hl' : ((k.size - 6 + j : Nat) : Int) < (k.size : Int) := by omega
          have hB := byte_at k _ hl
          have HS : Hid ((List.range (j + 1)).all (fun i => isDig (k.data.toList.getD (k.size - 6 + i) 0)) = isDig k[k.size - 6 + j]) := by
            show _ = _
            rw [List.range_succ, List.all_append, HD.out, ← hB]; simp
          have HG := hide (dig_iff k[k.size - 6 + j])
          have hle : ∀ b, (List.range (j + 1)).all (fun i => isDig (k.data.toList.getD (k.size - 6 + i) 0)) = b → b = false → (List.range 6).all (fun i => isDig (k.data.toList.getD (k.size - 6 + i) 0)) = false := by
            intro b h hb
            subst hb
            rw [List.all_eq_false] at *
            obtain ⟨x, hx, h2⟩ := h
            exact ⟨x, List.mem_range.2 (by have := List.mem_range.1 hx; omega), h2⟩
          have HE := hide hle
          have wj : wrap64 (((k.size - 6 + j : Nat) : Int) + 1) = ((k.size - 6 + (j + 1) : Nat) : Int) := by rw [wrap_in] <;> omega
          clear hle hB
          generalize k.size - 6 + j = p at *
          have hb8 : (k[p].toNat : Int) < 48 ∨ (48 ≤ (k[p].toNat : Int) ∧ (k[p].toNat : Int) ≤ 57) ∨ 58 ≤ (k[p].toNat : Int) := by omega
          rcases hb8 with b | ⟨b, b'⟩ | b
          · replace HS := hide (HE.out _ HS.out (Bool.eq_false_iff.2 fun h => by have := HG.out.1 h; omega))
            go_wp2
            go_ret
            exact ⟨ret_int (by rw [HF0.out (HM.out.trans HS.out)]; rfl), rfl⟩
          · replace HS := hide (HS.out.trans (HG.out.2 ⟨b, b'⟩))
            go_wp2
            go_round
            case rel => exact ⟨j + 1, by omega, by rw [← wj, wrap_in (by omega) (by omega)], HS.out⟩
            case measure => simp [intOf]; omega
          · replace HS := hide (HE.out _ HS.out (Bool.eq_false_iff.2 fun h => by have := HG.out.1 h; omega))
            go_wp2
            go_ret
            exact ⟨ret_int (by rw [HF0.out (HM.out.trans HS.out)]; rfl), rfl⟩
        · have e : j = 6 := by omega
          subst e
          have e2 : k.size - 6 + 6 = k.size := by omega
          rw [e2]
          go_wp2
          go_ret
          exact ⟨ret_int (by rw [HF1.out (HM.out.trans HD.out)]; rfl), rfl⟩
  · have c47 : ((k[k.size - 7].toNat : Int) != 47) = true := by
      rw [bne_iff_ne]; intro e; exact hc (UInt8.toNat_inj.1 (by simpa using Int.ofNat.inj e))
    have hf := HF0.out (by rw [HM.out, beq_eq_false_iff_ne.2 hc, Bool.false_and])
    rw [hf]
    clear hf hc
    go_enter Tryz.func17, Tryz.ntmps17
    go_wp2
    go_ret
    exact ⟨rfl, rfl⟩
theorem keyFault_any (k : ByteArray) (w : World) (hn : k.size ≤ 1000) :
    Calls Tryz.prog 17 #[.string k] w fun e w' => e = .returned (.int .i64 (faultK k.data.toList)) ∧ w' = w := by
  by_cases h2 : 2 < k.size
  · by_cases ht : (k.extract 0 2).toList = [116, 47]
    · exact keyFault_named k w h2 (.inl ht)
    · by_cases hq : (k.extract 0 2).toList = [113, 47]
      · exact keyFault_named k w h2 (.inr ⟨ht, hq⟩)
      · by_cases hm : (k.extract 0 2).toList = [109, 47]
        · by_cases h10 : 10 ≤ k.size
          · exact keyFault_message k w h10 hn hm
          · exact keyFault_other k w h2 ht hq (.inl (by omega))
        · exact keyFault_other k w h2 ht hq (.inr hm)
  · exact keyFault_short k w (by omega)
end Go.Proofs.YtighpalbodhfeaaGreatDoor

/-
  What package row's Check returns: no error at a key of a row, else the error 3; for every text; nothing that was there is changed.
-/
namespace Go.Proofs.YtighpalbodhfeaaGreatDoor
open Go.RowKit Go.Joins

theorem back (l : List UInt8) : (⟨l.toArray⟩ : ByteArray).data.toList = l := by simp

set_option maxHeartbeats 1000000 in
theorem isNamed_any (k head : ByteArray) (w : World) :
    Calls Tryz.prog 111 #[.string k, .string head] w fun e w' => e = .returned (.bool (namedL k.data.toList head.data.toList)) ∧ w' = w := by
  obtain ⟨r, hr⟩ : ∃ r : ByteArray, r = ⟨(Lib.trimPrefix k.data.toList head.data.toList).toArray⟩ := ⟨_, rfl⟩
  have hrd : Lib.trimPrefix k.data.toList head.data.toList = r.data.toList := by rw [hr, back]
  have hc : ∀ w, Calls Tryz.prog 134 #[.string k, .string head] w fun e w' => e = .returned (.tuple #[.string r, .bool (Lib.hasPrefix k.data.toList head.data.toList)]) ∧ w' = w := by
    rw [hr]; exact Tryz.strings_CutPrefix k head
  have hn := name_any r
  unfold namedL
  rw [hrd]
  clear hrd hr
  generalize nameL r.data.toList = y at hn ⊢
  generalize Lib.hasPrefix k.data.toList head.data.toList = x at hc ⊢
  have HC := hide hc
  have HN := hide hn
  clear hc hn
  cases x
  all_goals
    go_enter Tryz.func111, Tryz.ntmps111
    go_wp2_with (first | (go_at_call 134; refine (HC.out _).mono ?_; rintro e w1 ⟨rfl, rfl⟩) | (go_at_call 64; refine (HN.out _).mono ?_; rintro e w1 ⟨rfl, rfl⟩))
    go_ret
    exact ⟨rfl, rfl⟩

set_option maxHeartbeats 1000000 in
theorem isMessage_any (k : ByteArray) (w : World) (hk : k.size ≤ maxLen) :
    Calls Tryz.prog 112 #[.string k] w fun e w' => e = .returned (.bool (messageL k.data.toList)) ∧ Below w.heap.size w w' := by
  obtain ⟨r, hr⟩ : ∃ r : ByteArray, r = ⟨(Lib.trimPrefix k.data.toList [109, 47]).toArray⟩ := ⟨_, rfl⟩
  have hrd : Lib.trimPrefix k.data.toList [109, 47] = r.data.toList := by rw [hr, back]
  have hc : ∀ w, Calls Tryz.prog 134 #[.string k, .string ⟨#[109, 47]⟩] w fun e w' => e = .returned (.tuple #[.string r, .bool (Lib.hasPrefix k.data.toList [109, 47])]) ∧ w' = w := by
    rw [hr]; exact Tryz.strings_CutPrefix k ⟨#[109, 47]⟩
  have hsz : r.size ≤ maxLen := by
    rw [Lib.size_eq, ← hrd]
    rw [Lib.size_eq] at hk
    unfold Lib.trimPrefix
    split
    · rw [List.length_drop]; omega
    · exact hk
  have hcut := fun w => cut_any r 47 w hsz
  unfold messageL
  rw [hrd]
  clear hrd hr hsz
  generalize Lib.indexByte r.data.toList 47 = i at hcut ⊢
  have hn := name_any (takeB r i.toNat)
  have hx := isNumber_any (dropB r (i.toNat + 1))
  rw [takeB_data] at hn
  rw [dropB_data] at hx
  unfold messageOf
  unfold cutV at hcut
  generalize takeB r i.toNat = x at hn hcut
  generalize dropB r (i.toNat + 1) = y at hx hcut
  generalize nameL (r.data.toList.take i.toNat) = nx at hn ⊢
  generalize sixL (r.data.toList.drop (i.toNat + 1)) = ny at hx ⊢
  generalize Lib.hasPrefix k.data.toList [109, 47] = p at hc ⊢
  have HB := Below.refl w.heap.size w
  have HC := hide hc
  have HN := hide hn
  have HX := hide hx
  clear hc hn hx
  cases p
  · have HT := hide hcut
    clear hcut
    go_enter Tryz.func112, Tryz.ntmps112
    go_wp2_with (go_at_call 134; refine (HC.out _).mono ?_; rintro e w1 ⟨rfl, rfl⟩)
    go_ret
    exact ⟨rfl, HB⟩
  · by_cases h0 : 0 ≤ i
    all_goals
      simp only [h0, if_true, if_false, decide_true, decide_false, Bool.true_and, Bool.false_and] at hcut ⊢
      have HT := hide hcut
      clear hcut h0
      try cases nx
      all_goals
        go_enter Tryz.func112, Tryz.ntmps112
        go_wp2_with (first
          | (go_at_call 134; refine (HC.out _).mono ?_; rintro e w1 ⟨rfl, rfl⟩)
          | (go_at_call 132; refine (HT.out _).mono ?_; rintro e w1 ⟨rfl, hb⟩; replace HB := below_on HB (Nat.le_refl _) hb; clear hb)
          | (go_at_call 64; refine (HN.out _).mono ?_; rintro e w1 ⟨rfl, rfl⟩)
          | (go_at_call 135; refine (HX.out _).mono ?_; rintro e w1 ⟨rfl, rfl⟩))
        go_ret
        exact ⟨rfl, HB⟩

set_option maxHeartbeats 1000000 in
theorem check_any (k : ByteArray) (w : World) (hk : k.size ≤ maxLen) :
    Calls Tryz.prog 71 #[.string k] w fun e w' => e = .returned (errV (if keyL k.data.toList then 0 else 3)) ∧ Below w.heap.size w w' := by
  have h1 := isNamed_any k ⟨#[116, 47]⟩
  have h2 := isNamed_any k ⟨#[113, 47]⟩
  have h3 := fun w => isMessage_any k w hk
  have e1 : (⟨#[116, 47]⟩ : ByteArray).data.toList = [116, 47] := rfl
  have e2 : (⟨#[113, 47]⟩ : ByteArray).data.toList = [113, 47] := rfl
  rw [e1] at h1
  rw [e2] at h2
  clear e1 e2
  unfold keyL
  generalize namedL k.data.toList [116, 47] = x at h1 ⊢
  generalize namedL k.data.toList [113, 47] = y at h2 ⊢
  generalize messageL k.data.toList = z at h3 ⊢
  have HB := Below.refl w.heap.size w
  have H1 := hide h1
  have H2 := hide h2
  have H3 := hide h3
  clear h1 h2 h3
  cases x <;> cases y <;> cases z
  all_goals
    go_enter Tryz.func71, Tryz.ntmps71
    go_wp2_with (first
      | (go_at_call_of 111 (Value.string ⟨#[116, 47]⟩); refine (H1.out _).mono ?_; rintro e w1 ⟨rfl, rfl⟩)
      | (go_at_call_of 111 (Value.string ⟨#[113, 47]⟩); refine (H2.out _).mono ?_; rintro e w1 ⟨rfl, rfl⟩)
      | (go_at_call 112; refine (H3.out _).mono ?_; rintro e w1 ⟨rfl, hb⟩; replace HB := below_on HB (Nat.le_refl _) hb; clear hb))
    go_ret
    exact ⟨rfl, HB⟩
end Go.Proofs.YtighpalbodhfeaaGreatDoor
