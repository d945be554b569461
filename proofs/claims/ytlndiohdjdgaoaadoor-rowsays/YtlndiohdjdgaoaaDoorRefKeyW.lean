/-
  What haywainref.KeyFault returns: 0 at a key of a row, else 3; for every text; it changes nothing.
-/
import Derived.Test.YtlndiohdjdgaoaaDoorRefKey
namespace Go.Proofs.YtlndiohdjdgaoaaDoor
open Go.RowKit Go.Joins

theorem data_drop (k : ByteArray) (a : Nat) : (k.extract a k.size).data.toList = k.data.toList.drop a := by
  rw [ByteArray.data_extract]
  simp only [Array.toList_extract, List.extract_eq_take_drop]
  exact List.take_of_length_le (by simp)
theorem data_mid (k : ByteArray) (a b : Nat) : (k.extract a b).data.toList = (k.data.toList.drop a).take (b - a) := by
  rw [ByteArray.data_extract]
  simp only [Array.toList_extract, List.extract_eq_take_drop]
theorem take_two (k : ByteArray) : (k.extract 0 2).toList = k.data.toList.take 2 := by
  rw [Lib.toList_data, data_mid]; rfl
set_option maxHeartbeats 1000000 in
theorem keyFault_named (k : ByteArray) (w : World) (h2 : 2 < k.size) (h : (k.extract 0 2).toList = [116, 47] ∨ ¬ (k.extract 0 2).toList = [116, 47] ∧ (k.extract 0 2).toList = [113, 47]) :
    Calls Tryd.prog 20 #[.string k] w fun e w' => e = .returned (.int .i64 (faultK k.data.toList)) ∧ w' = w := by
  have hk : keyL k.data.toList = nameL (k.data.toList.drop 2) := key_named (by rw [take_two] at h; rcases h with h | h; exact .inl h; exact .inr h.2)
  have hn := fun w' => nameMay_any (k.extract 2 k.size) w'
  rw [data_drop, ← hk] at hn
  unfold faultK
  generalize keyL k.data.toList = y at hn ⊢
  have HN := fun w' => hide (hn w')
  clear hn hk
  have g2 : (2 : Int) < (k.size : Int) := by omega
  cases y
  all_goals
    rcases h with h | ⟨h', h⟩
    all_goals
      go_enter Tryd.func20, Tryd.ntmps20
      go_wp2_with (go_at_call 12; refine ((HN _).out).mono ?_; rintro e w1 ⟨rfl, rfl⟩)
      go_ret
      exact ⟨rfl, rfl⟩
set_option maxHeartbeats 1000000 in
theorem keyFault_short (k : ByteArray) (w : World) (h2 : k.size ≤ 2) :
    Calls Tryd.prog 20 #[.string k] w fun e w' => e = .returned (.int .i64 (faultK k.data.toList)) ∧ w' = w := by
  have hk : faultK k.data.toList = 3 := by unfold faultK; rw [key_short (by rwa [len_data])]; rfl
  rw [hk]
  clear hk
  have g2 : ¬ (2 : Int) < (k.size : Int) := by omega
  have g3 : (k.size : Int) < 10 := by omega
  go_enter Tryd.func20, Tryd.ntmps20
  go_wp2
  go_ret
  exact ⟨rfl, rfl⟩
theorem fault_no {k : ByteArray} (h1 : ¬ (k.extract 0 2).toList = [116, 47]) (h2 : ¬ (k.extract 0 2).toList = [113, 47]) (h : messageL k.data.toList = false) : faultK k.data.toList = 3 := by
  rw [take_two] at h1 h2
  unfold faultK; rw [key_other h1 h2, h]; rfl
theorem fault_yes {k : ByteArray} (h1 : ¬ (k.extract 0 2).toList = [116, 47]) (h2 : ¬ (k.extract 0 2).toList = [113, 47]) (h : messageL k.data.toList = true) : faultK k.data.toList = 0 := by
  rw [take_two] at h1 h2
  unfold faultK; rw [key_other h1 h2, h]; rfl
set_option maxHeartbeats 1000000 in
theorem keyFault_other (k : ByteArray) (w : World) (h2 : 2 < k.size) (h : ¬ (k.extract 0 2).toList = [116, 47]) (h' : ¬ (k.extract 0 2).toList = [113, 47]) (hn : k.size < 10 ∨ ¬ (k.extract 0 2).toList = [109, 47]) :
    Calls Tryd.prog 20 #[.string k] w fun e w' => e = .returned (.int .i64 (faultK k.data.toList)) ∧ w' = w := by
  have hk : faultK k.data.toList = 3 := fault_no h h' (by
    rw [message_eq, len_data]
    rcases hn with hn | hn
    · simp; omega
    · rw [take_two] at hn; simp [hn])
  rw [hk]
  clear hk
  have g2 : (2 : Int) < (k.size : Int) := by omega
  have b1 := beq_eq_false_iff_ne.2 h
  have b2 := beq_eq_false_iff_ne.2 h'
  rcases hn with hn | hn
  · have g3 : (k.size : Int) < 10 := by omega
    go_enter Tryd.func20, Tryd.ntmps20
    go_wp2
    go_ret
    exact ⟨rfl, rfl⟩
  · have b3 := beq_eq_false_iff_ne.2 hn
    go_enter Tryd.func20, Tryd.ntmps20
    go_wp2
    all_goals
      go_ret
      exact ⟨rfl, rfl⟩
end Go.Proofs.YtlndiohdjdgaoaaDoor
