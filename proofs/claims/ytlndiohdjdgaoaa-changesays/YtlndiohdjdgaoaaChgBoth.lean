/-
  What change.Bytes and haywainref.ChangeBytes, change.Parse and haywainref.ChangeOf return of the same: the same. The closed fact haywainlaw.changes.
-/
import Derived.Test.YtlndiohdjdgaoaaRefOf
import Derived.Test.YtlndiohdjdgaoaaSame1
namespace Go.Proofs.Ytlndiohdjdgaoaa
open Go.RowKit Go.Joins

theorem bytes_both (c : Chg) (hk : c.key.size ≤ 1000) (hv : c.val.size ≤ 1000) : ∃ (T : ByteArray) (g : Nat),
    (∀ w, Calls Try.prog 20 #[.agg #[.string c.key, .string c.val, .bool c.gone]] w fun e w' => e = .returned (.tuple #[.string T, errV g]) ∧ Below w.heap.size w w') ∧
    (∀ w, Calls Try.prog 21 #[.agg #[.string c.key, .string c.val, .bool c.gone]] w fun e w' => e = .returned (.tuple #[.string T, .int .i64 g]) ∧ Below w.heap.size w w') := by
  by_cases h : chgFault c = 0
  · exact ⟨headB c ++ c.key ++ c.val, 0, fun w => chg_bytes c w hk hv 0 h, fun w => rbytes_any c w hk hv 0 h⟩
  · refine ⟨⟨#[]⟩, chgFault c, fun w => ?_, fun w => ?_⟩
    · have := chg_bytes c w hk hv _ rfl
      rwa [if_neg h] at this
    · have := rbytes_any c w hk hv _ rfl
      rwa [if_neg h] at this
theorem parse_both (s : ByteArray) (hs : s.size ≤ 300) : ∃ (X : Chg) (g : Nat),
    (∀ w, Calls Try.prog 22 #[.string s] w fun e w' => e = .returned (.tuple #[.agg #[.string X.key, .string X.val, .bool X.gone], errV g]) ∧ Below w.heap.size w w') ∧
    (∀ w, Calls Try.prog 23 #[.string s] w fun e w' => e = .returned (.tuple #[.agg #[.string X.key, .string X.val, .bool X.gone], .int .i64 g]) ∧ Below w.heap.size w w') := by
  by_cases h2 : s.size < 2
  · exact ⟨⟨⟨#[]⟩, ⟨#[]⟩, false⟩, 4, fun w => parse_bad s w fun w' => split_short s w' h2, fun w => of_short s w h2⟩
  · have h2' : 2 ≤ s.size := by omega
    by_cases h1 : 1 < s[0].toNat
    · exact ⟨⟨⟨#[]⟩, ⟨#[]⟩, false⟩, 4, fun w => parse_bad s w fun w' => split_mark s w' h2' _ rfl h1, fun w => of_mark s w h2' _ rfl h1⟩
    · have hy : s[1].toNat ≤ 255 := by have := s[1].toNat_lt; omega
      by_cases hl : s.size < 2 + s[1].toNat
      · exact ⟨⟨⟨#[]⟩, ⟨#[]⟩, false⟩, 4, fun w => parse_bad s w fun w' => split_cut s w' h2' _ _ rfl rfl (by omega) hl hy, fun w => of_cut s w h2' _ _ rfl rfl (by omega) hl hy⟩
      · have hS := fun w' => split_some s w' h2' (by omega) _ _ rfl rfl (by omega) (by omega)
        have hO := fun w' (f : Nat) => of_some s w' h2' (by omega) _ _ rfl rfl (by omega) (by omega) ⟨s.extract 2 (2 + s[1].toNat), s.extract (2 + s[1].toNat) s.size, (s[0].toNat : Int) == 1⟩ rfl f
        have hg : decide (s[0].toNat = 1) = ((s[0].toNat : Int) == 1) := by rw [Bool.eq_iff_iff]; simp; omega
        rw [hg] at hS
        generalize hc : (⟨s.extract 2 (2 + s[1].toNat), s.extract (2 + s[1].toNat) s.size, (s[0].toNat : Int) == 1⟩ : Chg) = c at hO
        have hk : c.key.size ≤ maxLen := by rw [← hc]; unfold maxLen; simp; omega
        by_cases h0 : chgFault c = 0
        · refine ⟨c, 0, fun w => parse_some s c w hk h0 fun w' => ?_, fun w => ?_⟩
          · subst hc; exact hS w'
          · have := hO w 0 h0
            rwa [if_pos rfl] at this
        · refine ⟨⟨⟨#[]⟩, ⟨#[]⟩, false⟩, 4, fun w => parse_refused s c w hk _ rfl h0 fun w' => ?_, fun w => ?_⟩
          · subst hc; exact hS w'
          · have := hO w _ rfl
            rwa [if_neg h0] at this
def twoC : Chg := ⟨⟨#[116, 47, 97]⟩, ⟨#[120]⟩, false⟩
theorem two_fault : chgFault twoC = 0 := by
  have hk : keyL twoC.key.data.toList = true := by decide
  unfold chgFault
  rw [hk]
  simp [twoC, Lib.toList_data]
  rfl
theorem two_bytes (w : World) : Calls Try.prog 20 #[.agg #[.string ⟨#[116, 47, 97]⟩, .string ⟨#[120]⟩, .bool false]] w fun e w' => e = .returned (.tuple #[.string ⟨#[0, 3, 116, 47, 97, 120]⟩, .nilIface]) ∧ Below w.heap.size w w' :=
  (chg_bytes twoC w (by decide) (by decide) 0 two_fault).mono fun _ _ h => ⟨h.1.trans rfl, h.2⟩
set_option maxHeartbeats 1000000 in
theorem changes_any (w : World) :
    Calls Try.prog 17 #[] w fun e w' => e = .returned (.bool true) ∧ Below w.heap.size w w' := by
  have hB := Below.refl w.heap.size w
  go_enter Try.func17, Try.ntmps17
  go_wp2_with (first
    | (go_at_call 20; refine (two_bytes _).mono ?_; rintro e w1 ⟨rfl, hb⟩; replace hB := below_on hB (Nat.le_refl _) hb; clear hb)
    | (go_at_call 24; refine (same_nil _ _).mono ?_; rintro e w2 ⟨rfl, rfl⟩))
  go_ret
  exact ⟨rfl, hB⟩
end Go.Proofs.Ytlndiohdjdgaoaa
