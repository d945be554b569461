/-
  What haywainlaw.Names returns: true; nothing that was there is changed.
-/
import Derived.Test.YtcaopggeainpnaaDoorSame
import Derived.Test.YtcaopggeainpnaaDoorShelfT
namespace Go.Proofs.YtcaopggeainpnaaDoor
open Go.RowKit Go.Joins

set_option maxHeartbeats 400000 in
theorem error_any (w : World) :
    Calls Tryd.prog 9 #[.int .i64 12] w fun e w' => e = .returned (.string ⟨#[104, 97, 121, 119, 97, 105, 110, 58, 32, 101, 114, 114, 111, 114, 32, 49, 50]⟩) ∧ Below w.heap.size w w' := by
  have e : Lib.decDigits 12 = [49, 50] := by decide +kernel
  have hi : ∀ w, Calls Tryd.prog 30 #[.int .i64 12] w fun e w' => e = .returned (.string ⟨#[49, 50]⟩) ∧ w' = w := fun w =>
    (Tryd.strconv_Itoa_small 12 (by decide) w).mono fun _ _ h => ⟨by rw [h.1, e], h.2⟩
  clear e
  have HI := hide hi
  clear hi
  go_enter Tryd.func9, Tryd.ntmps9
  go_wp2_with (go_at_call 30; refine (HI.out _).mono ?_; rintro e w1 ⟨rfl, rfl⟩)
  go_ret
  exact ⟨rfl, Below.refl _ _⟩

theorem same_list (k : Nat) (h : k < [Value.iface 23 (Value.int IntKind.i64 1), Value.iface 23 (Value.int IntKind.i64 2), Value.iface 23 (Value.int IntKind.i64 3), Value.iface 23 (Value.int IntKind.i64 4), Value.iface 23 (Value.int IntKind.i64 5), Value.iface 23 (Value.int IntKind.i64 6), Value.iface 23 (Value.int IntKind.i64 7), Value.iface 23 (Value.int IntKind.i64 8), Value.iface 23 (Value.int IntKind.i64 9), Value.iface 23 (Value.int IntKind.i64 10), Value.iface 23 (Value.int IntKind.i64 11), Value.iface 23 (Value.int IntKind.i64 12)].length) (w : World) :
    Calls Tryd.prog 7 #[[Value.iface 23 (Value.int IntKind.i64 1), Value.iface 23 (Value.int IntKind.i64 2), Value.iface 23 (Value.int IntKind.i64 3), Value.iface 23 (Value.int IntKind.i64 4), Value.iface 23 (Value.int IntKind.i64 5), Value.iface 23 (Value.int IntKind.i64 6), Value.iface 23 (Value.int IntKind.i64 7), Value.iface 23 (Value.int IntKind.i64 8), Value.iface 23 (Value.int IntKind.i64 9), Value.iface 23 (Value.int IntKind.i64 10), Value.iface 23 (Value.int IntKind.i64 11), Value.iface 23 (Value.int IntKind.i64 12)][k], .int .i64 ((k : Int) + 1)] w fun e w' => e = .returned (.bool true) ∧ w' = w := by
  match k, h with
  | 0, _ => exact same_err 1 1 w (by decide)
  | 1, _ => exact same_err 2 2 w (by decide)
  | 2, _ => exact same_err 3 3 w (by decide)
  | 3, _ => exact same_err 4 4 w (by decide)
  | 4, _ => exact same_err 5 5 w (by decide)
  | 5, _ => exact same_err 6 6 w (by decide)
  | 6, _ => exact same_err 7 7 w (by decide)
  | 7, _ => exact same_err 8 8 w (by decide)
  | 8, _ => exact same_err 9 9 w (by decide)
  | 9, _ => exact same_err 10 10 w (by decide)
  | 10, _ => exact same_err 11 11 w (by decide)
  | 11, _ => exact same_err 12 12 w (by decide)
def nums13 : Array Value := #[Value.int .i64 6, Value.int .i64 40, Value.int .i64 12, Value.int .i64 40, Value.int .i64 40, Value.int .i64 999999, Value.int .i64 9, Value.int .i64 1000000, Value.int .i64 96, Value.int .i64 200, Value.int .i64 4, Value.int .i64 80, Value.int .i64 200]
def num13 (i : Nat) : Int := [6, 40, 12, 40, 40, 999999, 9, 1000000, 96, 200, 4, 80, 200].getD i 0
theorem nums13_at (i : Nat) (h : i < 13) : nums13[i]? = some (.int .i64 (num13 i)) := by
  match i, h with
  | 0, _ => rfl
  | 1, _ => rfl
  | 2, _ => rfl
  | 3, _ => rfl
  | 4, _ => rfl
  | 5, _ => rfl
  | 6, _ => rfl
  | 7, _ => rfl
  | 8, _ => rfl
  | 9, _ => rfl
  | 10, _ => rfl
  | 11, _ => rfl
  | 12, _ => rfl

set_option maxHeartbeats 1000000 in
theorem names_walk (w : World) :
    Calls Tryd.prog 3 #[] w fun e w' => e = .returned (.bool true) ∧ Below w.heap.size w w' := by
  go_enter Tryd.func3, Tryd.ntmps3
  go_wp2
  go_loop [4] (fun i => ∃ k : Nat, k ≤ 12 ∧ i = .int .i64 k) (fun i => 12 - (intOf i).toNat)
  case atStart => exact ⟨0, by omega, rfl⟩
  case round =>
    obtain ⟨k, hk, rfl⟩ := hrel
    by_cases hlt : k < 12
    · go_wp2_with (go_at_call 7; refine (same_list k _ _).mono ?_; rintro e w1 ⟨rfl, rfl⟩)
      go_round
      case rel => exact ⟨k + 1, by omega, by go_num⟩
      case measure => simp [intOf]; omega
    · have hB := below_alloc3 w (.cells nums13 3) (.cells nums13 3) (.cells #[Value.iface 23 (Value.int IntKind.i64 1), Value.iface 23 (Value.int IntKind.i64 2), Value.iface 23 (Value.int IntKind.i64 3), Value.iface 23 (Value.int IntKind.i64 4), Value.iface 23 (Value.int IntKind.i64 5), Value.iface 23 (Value.int IntKind.i64 6), Value.iface 23 (Value.int IntKind.i64 7), Value.iface 23 (Value.int IntKind.i64 8), Value.iface 23 (Value.int IntKind.i64 9), Value.iface 23 (Value.int IntKind.i64 10), Value.iface 23 (Value.int IntKind.i64 11), Value.iface 23 (Value.int IntKind.i64 12)] 27)
      have h0 : ∀ i, i < 13 → (((w.alloc (.cells nums13 3)).alloc (.cells nums13 3)).alloc (.cells #[Value.iface 23 (Value.int IntKind.i64 1), Value.iface 23 (Value.int IntKind.i64 2), Value.iface 23 (Value.int IntKind.i64 3), Value.iface 23 (Value.int IntKind.i64 4), Value.iface 23 (Value.int IntKind.i64 5), Value.iface 23 (Value.int IntKind.i64 6), Value.iface 23 (Value.int IntKind.i64 7), Value.iface 23 (Value.int IntKind.i64 8), Value.iface 23 (Value.int IntKind.i64 9), Value.iface 23 (Value.int IntKind.i64 10), Value.iface 23 (Value.int IntKind.i64 11), Value.iface 23 (Value.int IntKind.i64 12)] 27)).cell? ⟨w.heap.size, 0 + i, none⟩ = some (.int .i64 (num13 i)) := fun i hi => by
        rw [Nat.zero_add]
        exact cell_on (below_alloc1 _ _) (cell_on (below_alloc1 _ _) ((cell_new w nums13 3 i).trans (nums13_at i hi)))
      have h1 : ∀ i, i < 13 → (((w.alloc (.cells nums13 3)).alloc (.cells nums13 3)).alloc (.cells #[Value.iface 23 (Value.int IntKind.i64 1), Value.iface 23 (Value.int IntKind.i64 2), Value.iface 23 (Value.int IntKind.i64 3), Value.iface 23 (Value.int IntKind.i64 4), Value.iface 23 (Value.int IntKind.i64 5), Value.iface 23 (Value.int IntKind.i64 6), Value.iface 23 (Value.int IntKind.i64 7), Value.iface 23 (Value.int IntKind.i64 8), Value.iface 23 (Value.int IntKind.i64 9), Value.iface 23 (Value.int IntKind.i64 10), Value.iface 23 (Value.int IntKind.i64 11), Value.iface 23 (Value.int IntKind.i64 12)] 27)).cell? ⟨w.heap.size + 1, 0 + i, none⟩ = some (.int .i64 (num13 i)) := fun i hi => by
        rw [Nat.zero_add]
        have := (cell_new (w.alloc (.cells nums13 3)) nums13 3 i).trans (nums13_at i hi)
        rw [World.size_alloc] at this
        exact cell_on (below_alloc1 _ _) this
      have HB := hide hB
      have H0 := hide h0
      have H1 := hide h1
      clear hB h0 h1
      go_wp2_with (first
        | (go_at_call 8; refine (sameNumbers_any 13 _ 0 _ _ 0 _ num13 _ (by decide) H0.out H1.out).mono ?_; rintro e w1 ⟨rfl, hb⟩)
        | (go_at_call 9; refine (error_any _).mono ?_; rintro e w2 ⟨rfl, hb2⟩))
      go_ret
      exact ⟨rfl, below_on (below_on HB.out (Nat.le_refl _) hb) (Nat.le_refl _) hb2⟩
end Go.Proofs.YtcaopggeainpnaaDoor
