/-
  What package row and the document's answer return of the same queues, messages and texts: the same. The closed fact haywainlaw.keys.
-/
import Derived.Test.YtlndiohdjdgaoaaDoorRowParseBad
import Derived.Test.YtlndiohdjdgaoaaDoorRefOfRow
import Derived.Test.YtlndiohdjdgaoaaDoorRefRow
import Derived.Test.YtlndiohdjdgaoaaDoorRefKeyM
import Derived.Test.YtlndiohdjdgaoaaDoorRowCheck
namespace Go.Proofs.YtlndiohdjdgaoaaDoor
open Go.RowKit Go.Joins

theorem queueText_both (x y : Int) (d : ByteArray) (hd : d.size ≤ 1000) : ∃ (T : ByteArray) (g : Nat),
    (∀ w, Laid w → Calls Tryd.prog 21 #[.agg #[.int .i64 x, .int .i64 y, .string d]] w fun e w' => e = .returned (.tuple #[.string T, errV g]) ∧ Below w.heap.size w w') ∧
    (∀ w, Calls Tryd.prog 22 #[.agg #[.int .i64 x, .int .i64 y, .string d]] w fun e w' => e = .returned (.tuple #[.string T, .int .i64 g]) ∧ Below w.heap.size w w') ∧
    ((g ≠ 0 ∧ T = ⟨#[]⟩) ∨ (g = 0 ∧ ∃ n t : Nat, x = n ∧ y = t ∧ queueMay n t d ∧ T = joinB n t d)) := by
  by_cases hb : (x < 0 ∨ 999999 < x) ∨ (0 ≤ x ∧ x ≤ 999999 ∧ (y < 1 ∨ 9 < y))
  · exact ⟨⟨#[]⟩, 1, fun w _ => queueText_bound x y d w hb, fun w => rqueueText_bound x y d w hb, .inl ⟨by decide, rfl⟩⟩
  · obtain ⟨n, rfl⟩ := Int.eq_ofNat_of_zero_le (show 0 ≤ x by omega)
    obtain ⟨t, rfl⟩ := Int.eq_ofNat_of_zero_le (show 0 ≤ y by omega)
    have hok : d.toList.isEmpty = true ∨ (d.toList.isEmpty = false ∧ nameL d.data.toList = true) ∨ (d.toList.isEmpty = false ∧ nameL d.data.toList = false) := by
      cases d.toList.isEmpty <;> cases nameL d.data.toList <;> simp
    rcases hok with h | h | h
    · exact ⟨_, 0, fun w hL => queueText_ok n t d w (by omega) (by omega) (by omega) (.inl h) hd hL.tab, fun w => rqueueText_ok n t d (by omega) (by omega) (by omega) (.inl h) hd w, .inr ⟨rfl, n, t, rfl, rfl, ⟨by omega, by omega, by omega, .inl h⟩, rfl⟩⟩
    · exact ⟨_, 0, fun w hL => queueText_ok n t d w (by omega) (by omega) (by omega) (.inr h) hd hL.tab, fun w => rqueueText_ok n t d (by omega) (by omega) (by omega) (.inr h) hd w, .inr ⟨rfl, n, t, rfl, rfl, ⟨by omega, by omega, by omega, .inr h⟩, rfl⟩⟩
    · exact ⟨⟨#[]⟩, 3, fun w _ => queueText_shape n t d w (by omega) (by omega) (by omega) (by omega) h.1 h.2, fun w => rqueueText_shape n t d w (by omega) (by omega) (by omega) (by omega) h.1 h.2, .inl ⟨by decide, rfl⟩⟩
theorem messageText_both (k x y : Int) (d : ByteArray) (hd : d.size ≤ 1000) : ∃ (T : ByteArray) (g : Nat),
    (∀ w, Laid w → Calls Tryd.prog 25 #[.agg #[.int .i64 k, .int .i64 x, .int .i64 y, .string d]] w fun e w' => e = .returned (.tuple #[.string T, errV g]) ∧ Below w.heap.size w w') ∧
    (∀ w, Calls Tryd.prog 26 #[.agg #[.int .i64 k, .int .i64 x, .int .i64 y, .string d]] w fun e w' => e = .returned (.tuple #[.string T, .int .i64 g]) ∧ Below w.heap.size w w') ∧
    ((g ≠ 0 ∧ T = ⟨#[]⟩) ∨ (g = 0 ∧ ∃ t u : Nat, x = t ∧ y = u ∧ messageMay t u d ∧ T = joinB t u d)) := by
  by_cases hb : (x < 0 ∨ 9 < x) ∨ (0 ≤ x ∧ x ≤ 9 ∧ ((y < 0 ∨ 2000000 < y) ∨ (0 ≤ y ∧ y ≤ 2000000 ∧ 28 < d.size)))
  · exact ⟨⟨#[]⟩, 1, fun w _ => messageText_bound k x y d w hb, fun w => rmessageText_bound k x y d w hb, .inl ⟨by decide, rfl⟩⟩
  · obtain ⟨t, rfl⟩ := Int.eq_ofNat_of_zero_le (show 0 ≤ x by omega)
    obtain ⟨u, rfl⟩ := Int.eq_ofNat_of_zero_le (show 0 ≤ y by omega)
    exact ⟨_, 0, fun w hL => messageText_ok k t u d w (by omega) (by omega) (by omega) hL.tab, fun w => rmessageText_ok k t u d (by omega) (by omega) (by omega) w, .inr ⟨rfl, t, u, rfl, rfl, ⟨by omega, by omega, by omega⟩, rfl⟩⟩
theorem errV_pos {g : Nat} (h : g ≠ 0) : errV g = .iface 23 (.int .i64 g) := by unfold errV; rw [if_neg h]
theorem queueOf_both (s : ByteArray) (hs : s.size ≤ 100) : ∃ (a b : Int) (r : ByteArray) (g : Nat),
    (∀ w, Laid w → Calls Tryd.prog 23 #[.string s] w fun e w' => e = .returned (.tuple #[.agg #[.int .i64 a, .int .i64 b, .string r], errV g]) ∧ Below w.heap.size w w') ∧
    (∀ w, Calls Tryd.prog 24 #[.string s] w fun e w' => e = .returned (.tuple #[.agg #[.int .i64 a, .int .i64 b, .string r], .int .i64 g]) ∧ Below w.heap.size w w') := by
  by_cases hex : ∃ n t d, queueMay n t d ∧ s = joinB n t d
  · obtain ⟨n, t, d, hq, rfl⟩ := hex
    have hd : d.size ≤ 1000 := by
      rcases hq.2.2.2 with h | h
      · rw [Lib.size_eq, ← Lib.toList_data, List.isEmpty_iff.1 h]; simp
      · have := name_size h.2; omega
    exact ⟨n, t, d, 0, fun w hL => parseQueue_join n t d w hq.1 hq.2.1 hq.2.2.1 hq.2.2.2 hd hL.tab, fun w => queueOf_yes _ n t d w (by omega) hq rfl⟩
  · have hno : ∀ n t d, queueMay n t d → s ≠ joinB n t d := fun n t d h e => hex ⟨n, t, d, h, e⟩
    refine ⟨0, 0, ⟨#[]⟩, 4, fun w hL => ?_, fun w => queueOf_no s w (by omega) hno⟩
    obtain ⟨x, y, r, hr, hsp⟩ := split_total s (by omega)
    obtain ⟨T, g, h1, _, h3⟩ := queueText_both x y r hr
    rcases h3 with ⟨hg, rfl⟩ | ⟨rfl, n, t, rfl, rfl, hq, rfl⟩
    · rw [errV_pos hg] at h1
      exact parseQueue_err s x y r g w hL hsp h1
    · exact parseQueue_ne s n t r _ (fun e => hno n t r hq (toList_inj e).symm) w hL hsp h1
theorem messageOf_both (s : ByteArray) (k : Int) (hs : s.size ≤ 100) : ∃ (z a b : Int) (r : ByteArray) (g : Nat),
    (∀ w, Laid w → Calls Tryd.prog 27 #[.int .i64 k, .string s] w fun e w' => e = .returned (.tuple #[.agg #[.int .i64 z, .int .i64 a, .int .i64 b, .string r], errV g]) ∧ Below w.heap.size w w') ∧
    (∀ w, Calls Tryd.prog 28 #[.int .i64 k, .string s] w fun e w' => e = .returned (.tuple #[.agg #[.int .i64 z, .int .i64 a, .int .i64 b, .string r], .int .i64 g]) ∧ Below w.heap.size w w') := by
  by_cases hex : ∃ t u d, messageMay t u d ∧ s = joinB t u d
  · obtain ⟨t, u, d, hq, rfl⟩ := hex
    exact ⟨k, t, u, d, 0, fun w hL => parseMessage_join k t u d w hq.1 hq.2.1 hq.2.2 hL.tab, fun w => messageOf_yes _ k t u d w (by omega) hq rfl⟩
  · have hno : ∀ t u d, messageMay t u d → s ≠ joinB t u d := fun t u d h e => hex ⟨t, u, d, h, e⟩
    refine ⟨0, 0, 0, ⟨#[]⟩, 4, fun w hL => ?_, fun w => messageOf_no s k w (by omega) hno⟩
    obtain ⟨x, y, r, hr, hsp⟩ := split_total s (by omega)
    obtain ⟨T, g, h1, _, h3⟩ := messageText_both k x y r hr
    rcases h3 with ⟨hg, rfl⟩ | ⟨rfl, t, u, rfl, rfl, hq, rfl⟩
    · rw [errV_pos hg] at h1
      exact parseMessage_err s k x y r g w hL hsp h1
    · exact parseMessage_ne s k t u r _ (fun e => hno t u r hq (toList_inj e).symm) w hL hsp h1

theorem lit_msg : msgB ⟨#[113]⟩ (numOf 7) = ⟨#[109, 47, 113, 47, 48, 48, 48, 48, 48, 55]⟩ := data_inj (by rw [msgB_l]; decide)
theorem lit_key : keyL (⟨#[109, 47, 113, 47, 48, 48, 48, 48, 48, 55]⟩ : ByteArray).data.toList = true := by decide
set_option maxHeartbeats 1000000 in
theorem keys_any (w : World) (hL : Laid w) :
    Calls Tryd.prog 10 #[] w fun e w' => e = .returned (.bool true) ∧ Below w.heap.size w w' := by
  have hB := Below.refl w.heap.size w
  have HT := hide hL
  have HC := fun w' => hide (check_any (⟨#[109, 47, 113, 47, 48, 48, 48, 48, 48, 55]⟩ : ByteArray) w' (by decide))
  have HM := fun w' (h : Laid w') => hide (message_any ⟨#[113]⟩ 7 w' (by decide) (by omega) (by omega) h.tab)
  rw [lit_key] at HC
  rw [lit_msg] at HM
  clear hL
  go_enter Tryd.func10, Tryd.ntmps10
  go_wp2_with (first
    | (go_at_call 13; refine (call_val (table_any _ _ (by decide)) (show _ = Value.string ⟨#[116, 47, 97]⟩ from rfl)).mono ?_; rintro e w1 ⟨rfl, rfl⟩)
    | (go_at_call 14; refine (call_val (queue_any _ _ (by decide)) (show _ = Value.string ⟨#[113, 47, 113]⟩ from rfl)).mono ?_; rintro e w1 ⟨rfl, rfl⟩)
    | (go_at_call 15; refine ((HM _ (laid_on HT.out hB)).out).mono ?_; rintro e w1 ⟨rfl, hb⟩; replace hB := below_on hB (Nat.le_refl _) hb; clear hb)
    | (go_at_call 19; refine ((HC _).out).mono ?_; rintro e w1 ⟨rfl, hb⟩; replace hB := below_on hB (Nat.le_refl _) hb; clear hb; simp only [if_true, errV])
    | (go_at_call 7; refine (same_nil _ _).mono ?_; rintro e w2 ⟨rfl, rfl⟩))
  go_ret
  exact ⟨rfl, hB⟩
end Go.Proofs.YtlndiohdjdgaoaaDoor
