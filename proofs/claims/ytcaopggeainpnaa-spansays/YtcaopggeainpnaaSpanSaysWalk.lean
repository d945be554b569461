/-
  What haywainlaw.SpanSays returns: true, for all spans, lists of spans and keys; nothing that was there is changed.
-/
import Derived.Test.YtcaopggeainpnaaRefSpan
import Derived.Test.YtcaopggeainpnaaAnySpan
import Derived.Test.YtcaopggeainpnaaLightTwo
namespace Go.Proofs.Ytcaopggeainpnaa
open Go.RowKit Go.Joins

theorem any_snoc {l : List (ByteArray × ByteArray)} {f : ByteArray × ByteArray → Bool} {k : Nat} (hk : k < l.length) : (l.take (k + 1)).any f = ((l.take k).any f || f l[k]) := by
  rw [List.take_succ_eq_append_getElem hk, List.any_append]; simp

set_option maxHeartbeats 2000000 in
theorem spanSays_some_heavy (af a_t bf bt key : ByteArray) (l : List (ByteArray × ByteArray)) (b off cap : Nat) (w : World) (hl : spansAt w b off l) (hn : l.length ≤ 9223372036854775807)
    (hh : lightSpans [(af, a_t), (bf, bt)] = false ∨ lightSpans [(af, a_t), (bf, bt)] = true ∧ (lightSpans l = false ∨ lightSpans l = true ∧ 60 < key.size)) :
    Calls Try.prog 3 #[.agg #[.string af, .string a_t], .agg #[.string bf, .string bt], .slice (some ⟨b, off, none⟩) l.length cap, .string key] w fun e w' => e = .returned (.bool true) ∧ Below w.heap.size w w' := by
  have hB : Below w.heap.size w ((w.alloc (Obj.cells #[Value.string af, Value.string a_t] 23)).alloc (Obj.cells #[Value.string bf, Value.string bt] 23)) := below_alloc2 _ _ _
  have a0 : ((w.alloc (Obj.cells #[Value.string af, Value.string a_t] 23)).alloc (Obj.cells #[Value.string bf, Value.string bt] 23)).cell? ⟨w.heap.size, 0, none⟩ = some (.string af) := by simp
  have a1 : ((w.alloc (Obj.cells #[Value.string af, Value.string a_t] 23)).alloc (Obj.cells #[Value.string bf, Value.string bt] 23)).cell? ⟨w.heap.size, 1, none⟩ = some (.string a_t) := by simp
  have b0 : ((w.alloc (Obj.cells #[Value.string af, Value.string a_t] 23)).alloc (Obj.cells #[Value.string bf, Value.string bt] 23)).cell? ⟨w.heap.size + 1, 0, none⟩ = some (.string bf) := by simp
  have b1 : ((w.alloc (Obj.cells #[Value.string af, Value.string a_t] 23)).alloc (Obj.cells #[Value.string bf, Value.string bt] 23)).cell? ⟨w.heap.size + 1, 1, none⟩ = some (.string bt) := by simp
  rcases hh with h | ⟨h, h' | ⟨h', h''⟩⟩
  all_goals
    go_enter Try.func3, Try.ntmps3
    go_wp2_with (first
      | (go_at_call 5; refine (spans_any _).mono ?_; rintro e w1 ⟨rfl, hb⟩; replace hB := below_on hB (Nat.le_refl _) hb; replace a0 := cell_on hb a0; replace a1 := cell_on hb a1; replace b0 := cell_on hb b0; replace b1 := cell_on hb b1; clear hb)
      | (go_at_call_of 6 (Value.slice (some ⟨b, off, none⟩) l.length cap); refine (lightSpans_some l _ _ _ _ (spansAt_on hB hl) (by unfold maxLen; omega)).mono ?_; rintro e w2 ⟨rfl, rfl⟩)
      | (go_at_call 6; refine (lightSpans_two _ _ _ _ _).mono ?_; rintro e w1 ⟨rfl, hb⟩; replace hB := below_on hB (Nat.le_refl _) hb; replace a0 := cell_on hb a0; replace a1 := cell_on hb a1; replace b0 := cell_on hb b0; replace b1 := cell_on hb b1; clear hb))
    go_ret
    exact ⟨rfl, hB⟩

set_option maxHeartbeats 8000000 in
theorem spanSays_some_light (af a_t bf bt key : ByteArray) (l : List (ByteArray × ByteArray)) (b off cap : Nat) (w : World) (hl : spansAt w b off l) (hn : l.length ≤ 9223372036854775807)
    (h1 : lightSpans [(af, a_t), (bf, bt)] = true) (h2 : lightSpans l = true) (h3 : key.size ≤ 60) :
    Calls Try.prog 3 #[.agg #[.string af, .string a_t], .agg #[.string bf, .string bt], .slice (some ⟨b, off, none⟩) l.length cap, .string key] w fun e w' => e = .returned (.bool true) ∧ Below w.heap.size w w' := by
  have hB : Below w.heap.size w ((w.alloc (Obj.cells #[Value.string af, Value.string a_t] 23)).alloc (Obj.cells #[Value.string bf, Value.string bt] 23)) := below_alloc2 _ _ _
  have a0 : ((w.alloc (Obj.cells #[Value.string af, Value.string a_t] 23)).alloc (Obj.cells #[Value.string bf, Value.string bt] 23)).cell? ⟨w.heap.size, 0, none⟩ = some (.string af) := by simp
  have a1 : ((w.alloc (Obj.cells #[Value.string af, Value.string a_t] 23)).alloc (Obj.cells #[Value.string bf, Value.string bt] 23)).cell? ⟨w.heap.size, 1, none⟩ = some (.string a_t) := by simp
  have b0 : ((w.alloc (Obj.cells #[Value.string af, Value.string a_t] 23)).alloc (Obj.cells #[Value.string bf, Value.string bt] 23)).cell? ⟨w.heap.size + 1, 0, none⟩ = some (.string bf) := by simp
  have b1 : ((w.alloc (Obj.cells #[Value.string af, Value.string a_t] 23)).alloc (Obj.cells #[Value.string bf, Value.string bt] 23)).cell? ⟨w.heap.size + 1, 1, none⟩ = some (.string bt) := by simp
  go_enter Try.func3, Try.ntmps3
  go_wp2_with (first
      | (go_at_call 5; refine (spans_any _).mono ?_; rintro e w1 ⟨rfl, hb⟩; replace hB := below_on hB (Nat.le_refl _) hb; replace a0 := cell_on hb a0; replace a1 := cell_on hb a1; replace b0 := cell_on hb b0; replace b1 := cell_on hb b1; clear hb)
      | (go_at_call_of 6 (Value.slice (some ⟨b, off, none⟩) l.length cap); refine (lightSpans_some l _ _ _ _ (spansAt_on hB hl) (by unfold maxLen; omega)).mono ?_; rintro e w2 ⟨rfl, rfl⟩)
      | (go_at_call 6; refine (lightSpans_two _ _ _ _ _).mono ?_; rintro e w1 ⟨rfl, hb⟩; replace hB := below_on hB (Nat.le_refl _) hb; replace a0 := cell_on hb a0; replace a1 := cell_on hb a1; replace b0 := cell_on hb b0; replace b1 := cell_on hb b1; clear hb))
  go_loopw [10, 11] (fun any i wr => ∃ k : Nat, k ≤ l.length ∧ i = .int .i64 k ∧ any = .bool ((l.take k).any (fun s => hasS s.1 s.2 key)) ∧ Below w.heap.size w wr ∧ wr.cell? ⟨w.heap.size, 0, none⟩ = some (.string af) ∧ wr.cell? ⟨w.heap.size, 1, none⟩ = some (.string a_t) ∧ wr.cell? ⟨w.heap.size + 1, 0, none⟩ = some (.string bf) ∧ wr.cell? ⟨w.heap.size + 1, 1, none⟩ = some (.string bt)) (fun _ i _ => l.length - (intOf i).toNat)
  case atStart => exact ⟨0, Nat.zero_le _, rfl, by simp, hB, a0, a1, b0, b1⟩
  case round =>
    clear hB a0 a1 b0 b1
    obtain ⟨k, hk, rfl, rfl, hB, a0, a1, b0, b1⟩ := hrel
    by_cases hlt : k < l.length
    · obtain ⟨c0, c1⟩ := spansAt_on hB hl k hlt
      have HA := hide (any_snoc (f := fun s => hasS s.1 s.2 key) hlt)
      generalize (l.take k).any (fun s => hasS s.1 s.2 key) = anyk at HA ⊢
      cases anyk
      all_goals
        go_wp2_with (go_at_call 7; refine (rhas_any _ _ _ _).mono ?_; rintro e w1 ⟨rfl, hb⟩; replace hB := below_on hB (Nat.le_refl _) hb; replace a0 := cell_on hb a0; replace a1 := cell_on hb a1; replace b0 := cell_on hb b0; replace b1 := cell_on hb b1; clear hb)
        go_roundw
        case rel => exact ⟨k + 1, by omega, by go_num, by rw [HA.out]; simp, hB, a0, a1, b0, b1⟩
        case measure => simp [intOf]; omega
    · have e : l.take k = l := List.take_of_length_le (by omega)
      rw [e]
      clear e
      go_wp2
      generalize hany : l.any (fun s => hasS s.1 s.2 key) = x
      have nS := OnW.some wr
      have n0 : ∀ n : OnW wr, n.w.cell? ⟨w.heap.size, 0, none⟩ = some (.string af) := fun n => n.cell a0
      have n1 : ∀ n : OnW wr, n.w.cell? ⟨w.heap.size, 1, none⟩ = some (.string a_t) := fun n => n.cell a1
      have n2 : ∀ n : OnW wr, n.w.cell? ⟨w.heap.size + 1, 0, none⟩ = some (.string bf) := fun n => n.cell b0
      have n3 : ∀ n : OnW wr, n.w.cell? ⟨w.heap.size + 1, 1, none⟩ = some (.string bt) := fun n => n.cell b1
      have HY := hide hany
      clear hany
      refine wp_region_on (by kernel_rfl) (by kernel_rfl) ?_
      repeat (go_big_quiet_step ((first
        | (go_at_call 8; exact on_call (has_any _ _ _ _))
        | (go_at_call 7; exact on_call (rhas_any _ _ _ _))
        | (go_at_call 9; exact on_call (empty_any _ _ _))
        | (go_at_call 10; exact on_call (rempty_any _ _ _))
        | (go_at_call 11; exact on_call (both_any _ _ _ _ _))
        | (go_at_call 12; exact on_call (rboth_any _ _ _ _ _))
        | (go_at_call 13; exact on_call (meet_any _ _ _ _ _))
        | (go_at_call 14; exact on_call (rmeet_any _ _ _ _ _))
        | (go_at_call 16; exact on_call (call_val (point_any _ _ (by omega)) (show _ = Value.agg #[.string key, .string (key ++ ⟨#[0]⟩)] from rfl)))
        | (go_at_call 15; rename_i n; exact on_call (call_val (any_any l _ _ _ _ _ (spansAt_on (below_on hB (Nat.le_refl _) n.on) hl) (by unfold maxLen; omega)) (congrArg Value.bool HY.out))))))
      refine wpQuiet_nil ?_
      intro w3 hw3
      replace hw3 := on_end hw3
      replace hB := below_on hB (Nat.le_refl _) hw3
      go_wp2
      go_ret
      exact ⟨rfl, hB⟩

set_option maxHeartbeats 2000000 in
theorem spanSays_nil_heavy (af a_t bf bt key : ByteArray) (ao : Option Addr) (cap : Nat) (w : World) 
    (hh : lightSpans [(af, a_t), (bf, bt)] = false ∨ lightSpans [(af, a_t), (bf, bt)] = true ∧ 60 < key.size) :
    Calls Try.prog 3 #[.agg #[.string af, .string a_t], .agg #[.string bf, .string bt], .slice ao 0 cap, .string key] w fun e w' => e = .returned (.bool true) ∧ Below w.heap.size w w' := by
  have hB : Below w.heap.size w ((w.alloc (Obj.cells #[Value.string af, Value.string a_t] 23)).alloc (Obj.cells #[Value.string bf, Value.string bt] 23)) := below_alloc2 _ _ _
  have a0 : ((w.alloc (Obj.cells #[Value.string af, Value.string a_t] 23)).alloc (Obj.cells #[Value.string bf, Value.string bt] 23)).cell? ⟨w.heap.size, 0, none⟩ = some (.string af) := by simp
  have a1 : ((w.alloc (Obj.cells #[Value.string af, Value.string a_t] 23)).alloc (Obj.cells #[Value.string bf, Value.string bt] 23)).cell? ⟨w.heap.size, 1, none⟩ = some (.string a_t) := by simp
  have b0 : ((w.alloc (Obj.cells #[Value.string af, Value.string a_t] 23)).alloc (Obj.cells #[Value.string bf, Value.string bt] 23)).cell? ⟨w.heap.size + 1, 0, none⟩ = some (.string bf) := by simp
  have b1 : ((w.alloc (Obj.cells #[Value.string af, Value.string a_t] 23)).alloc (Obj.cells #[Value.string bf, Value.string bt] 23)).cell? ⟨w.heap.size + 1, 1, none⟩ = some (.string bt) := by simp
  rcases hh with h | ⟨h, h'⟩
  all_goals
    go_enter Try.func3, Try.ntmps3
    go_wp2_with (first
      | (go_at_call 5; refine (spans_any _).mono ?_; rintro e w1 ⟨rfl, hb⟩; replace hB := below_on hB (Nat.le_refl _) hb; replace a0 := cell_on hb a0; replace a1 := cell_on hb a1; replace b0 := cell_on hb b0; replace b1 := cell_on hb b1; clear hb)
      | (go_at_call_of 6 (Value.slice ao 0 cap); refine (lightSpans_nil _ _ _).mono ?_; rintro e w2 ⟨rfl, rfl⟩)
      | (go_at_call 6; refine (lightSpans_two _ _ _ _ _).mono ?_; rintro e w1 ⟨rfl, hb⟩; replace hB := below_on hB (Nat.le_refl _) hb; replace a0 := cell_on hb a0; replace a1 := cell_on hb a1; replace b0 := cell_on hb b0; replace b1 := cell_on hb b1; clear hb))
    go_ret
    exact ⟨rfl, hB⟩

set_option maxHeartbeats 8000000 in
theorem spanSays_nil_light (af a_t bf bt key : ByteArray) (ao : Option Addr) (cap : Nat) (w : World) 
    (h1 : lightSpans [(af, a_t), (bf, bt)] = true) (h3 : key.size ≤ 60) :
    Calls Try.prog 3 #[.agg #[.string af, .string a_t], .agg #[.string bf, .string bt], .slice ao 0 cap, .string key] w fun e w' => e = .returned (.bool true) ∧ Below w.heap.size w w' := by
  have hB : Below w.heap.size w ((w.alloc (Obj.cells #[Value.string af, Value.string a_t] 23)).alloc (Obj.cells #[Value.string bf, Value.string bt] 23)) := below_alloc2 _ _ _
  have a0 : ((w.alloc (Obj.cells #[Value.string af, Value.string a_t] 23)).alloc (Obj.cells #[Value.string bf, Value.string bt] 23)).cell? ⟨w.heap.size, 0, none⟩ = some (.string af) := by simp
  have a1 : ((w.alloc (Obj.cells #[Value.string af, Value.string a_t] 23)).alloc (Obj.cells #[Value.string bf, Value.string bt] 23)).cell? ⟨w.heap.size, 1, none⟩ = some (.string a_t) := by simp
  have b0 : ((w.alloc (Obj.cells #[Value.string af, Value.string a_t] 23)).alloc (Obj.cells #[Value.string bf, Value.string bt] 23)).cell? ⟨w.heap.size + 1, 0, none⟩ = some (.string bf) := by simp
  have b1 : ((w.alloc (Obj.cells #[Value.string af, Value.string a_t] 23)).alloc (Obj.cells #[Value.string bf, Value.string bt] 23)).cell? ⟨w.heap.size + 1, 1, none⟩ = some (.string bt) := by simp
  go_enter Try.func3, Try.ntmps3
  go_wp2_with (first
      | (go_at_call 5; refine (spans_any _).mono ?_; rintro e w1 ⟨rfl, hb⟩; replace hB := below_on hB (Nat.le_refl _) hb; replace a0 := cell_on hb a0; replace a1 := cell_on hb a1; replace b0 := cell_on hb b0; replace b1 := cell_on hb b1; clear hb)
      | (go_at_call_of 6 (Value.slice ao 0 cap); refine (lightSpans_nil _ _ _).mono ?_; rintro e w2 ⟨rfl, rfl⟩)
      | (go_at_call 6; refine (lightSpans_two _ _ _ _ _).mono ?_; rintro e w1 ⟨rfl, hb⟩; replace hB := below_on hB (Nat.le_refl _) hb; replace a0 := cell_on hb a0; replace a1 := cell_on hb a1; replace b0 := cell_on hb b0; replace b1 := cell_on hb b1; clear hb))
  go_loopw [10, 11] (fun any i wr => ∃ k : Nat, k ≤ ([] : List (ByteArray × ByteArray)).length ∧ i = .int .i64 k ∧ any = .bool ((([] : List (ByteArray × ByteArray)).take k).any (fun s => hasS s.1 s.2 key)) ∧ Below w.heap.size w wr ∧ wr.cell? ⟨w.heap.size, 0, none⟩ = some (.string af) ∧ wr.cell? ⟨w.heap.size, 1, none⟩ = some (.string a_t) ∧ wr.cell? ⟨w.heap.size + 1, 0, none⟩ = some (.string bf) ∧ wr.cell? ⟨w.heap.size + 1, 1, none⟩ = some (.string bt)) (fun _ i _ => ([] : List (ByteArray × ByteArray)).length - (intOf i).toNat)
  case atStart => exact ⟨0, Nat.zero_le _, rfl, by simp, hB, a0, a1, b0, b1⟩
  case round =>
    clear hB a0 a1 b0 b1
    obtain ⟨k, hk, rfl, rfl, hB, a0, a1, b0, b1⟩ := hrel
    by_cases hlt : k < ([] : List (ByteArray × ByteArray)).length
    · exact absurd hlt (by simp)
    · have e : ([] : List (ByteArray × ByteArray)).take k = ([] : List (ByteArray × ByteArray)) := List.take_of_length_le (by omega)
      rw [e]
      clear e
      go_wp2
      generalize hany : ([] : List (ByteArray × ByteArray)).any (fun s => hasS s.1 s.2 key) = x
      have nS := OnW.some wr
      have n0 : ∀ n : OnW wr, n.w.cell? ⟨w.heap.size, 0, none⟩ = some (.string af) := fun n => n.cell a0
      have n1 : ∀ n : OnW wr, n.w.cell? ⟨w.heap.size, 1, none⟩ = some (.string a_t) := fun n => n.cell a1
      have n2 : ∀ n : OnW wr, n.w.cell? ⟨w.heap.size + 1, 0, none⟩ = some (.string bf) := fun n => n.cell b0
      have n3 : ∀ n : OnW wr, n.w.cell? ⟨w.heap.size + 1, 1, none⟩ = some (.string bt) := fun n => n.cell b1
      have HY := hide hany
      clear hany
      refine wp_region_on (by kernel_rfl) (by kernel_rfl) ?_
      repeat (go_big_quiet_step ((first
        | (go_at_call 8; exact on_call (has_any _ _ _ _))
        | (go_at_call 7; exact on_call (rhas_any _ _ _ _))
        | (go_at_call 9; exact on_call (empty_any _ _ _))
        | (go_at_call 10; exact on_call (rempty_any _ _ _))
        | (go_at_call 11; exact on_call (both_any _ _ _ _ _))
        | (go_at_call 12; exact on_call (rboth_any _ _ _ _ _))
        | (go_at_call 13; exact on_call (meet_any _ _ _ _ _))
        | (go_at_call 14; exact on_call (rmeet_any _ _ _ _ _))
        | (go_at_call 16; exact on_call (call_val (point_any _ _ (by omega)) (show _ = Value.agg #[.string key, .string (key ++ ⟨#[0]⟩)] from rfl)))
        | (go_at_call 15; exact on_call (call_val (any_nil _ _ _ _) (congrArg Value.bool HY.out))))))
      refine wpQuiet_nil ?_
      intro w3 hw3
      replace hw3 := on_end hw3
      replace hB := below_on hB (Nat.le_refl _) hw3
      go_wp2
      go_ret
      exact ⟨rfl, hB⟩
end Go.Proofs.Ytcaopggeainpnaa
