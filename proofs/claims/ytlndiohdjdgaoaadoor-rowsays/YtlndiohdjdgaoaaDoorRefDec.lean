/-
  What haywainref.Decimal and Six return of numbers that aren't negative: the digits; they make new memory alone.
-/
import Derived.Test.YtlndiohdjdgaoaaDoorBase
import Derived.Test.YtlndiohdjdgaoaaDoorKeyB
import Derived.Test.YtlndiohdjdgaoaaDoorDecL
import Derived.Deep.RegionWith
namespace Go.Proofs.YtlndiohdjdgaoaaDoor
open Go.RowKit Go.Joins

theorem decB_small {n : Nat} (h : n < 10) : decB n = ⟨#[UInt8.ofNat (48 + n)]⟩ := by
  unfold decB; rw [Lib.decDigits_one h]
theorem decB_big {n : Nat} (h : ¬ n < 10) : decB n = decB (n / 10) ++ ⟨#[UInt8.ofNat (48 + n % 10)]⟩ := by
  apply data_inj
  rw [ByteArray.data_append]
  simp only [decB]
  rw [Lib.decDigits, dif_neg h]
  simp

set_option maxHeartbeats 400000 in
set_option maxRecDepth 4000 in
theorem decimal_any (n : Nat) : ∀ (w : World), n ≤ 9999999 →
    Calls Tryd.prog 39 #[.int .i64 n] w fun e w' => e = .returned (.string (decB n)) ∧ Below w.heap.size w w' := by
  induction n using Nat.strongRecOn with
  | _ n ih =>
    intro w hn
    by_cases h : n < 10
    · have g1 : ¬ (n : Int) < 0 := by omega
      have g2 : (n : Int) < 10 := by omega
      have w1 : wrap64 (48 + (n : Int)) = 48 + n := by unfold wrap64; omega
      have w2 : (48 + (n : Int)) % 256 = 48 + n := by omega
      have hX := below_alloc1 w (Obj.cells #[Value.int .u8 (48 + (n : Int))] 5)
      have hcv := run_convert_bytes_back (P := Tryd.prog) (w.alloc (Obj.cells #[Value.int .u8 (48 + (n : Int))] 5)) 76 9 5 ⟨w.heap.size, 0, none⟩ 1 [UInt8.ofNat (48 + n)] Tryd.underlying76 Tryd.underlying5 Tryd.underlying9 (fun j hj => by
        have hj2 : j = 0 := by simp at hj; omega
        subst hj2
        simp [Addr.add]
        omega)
      simp only [List.length_cons, List.length_nil, Nat.zero_add] at hcv
      rw [decB_small h]
      clear ih
      go_enter Tryd.func39, Tryd.ntmps39
      go_wp2
      go_ret
      exact ⟨rfl, hX⟩
    · have HI := fun w' => hide (ih (n / 10) (by omega) w' (by omega))
      rw [decB_big h]
      clear ih
      have q1 : (n : Int).tdiv 10 = ((n / 10 : Nat) : Int) := by rw [Int.tdiv_eq_ediv_of_nonneg (by omega)]; omega
      have q2 : (n : Int).tmod 10 = ((n % 10 : Nat) : Int) := by rw [Int.tmod_eq_emod_of_nonneg (by omega)]; omega
      have hlen : (decB (n / 10)).size ≤ 7 := by rw [Lib.size_eq, decB_l]; exact len_dec_lt _ (by omega)
      have g1 : decide ((n : Int) < 0) = false := by simp
      have g2 : decide ((n : Int) < 10) = false := by simp; omega
      have hm : n / 10 ≤ 999999 := by omega
      have hd : n % 10 < 10 := by omega
      generalize decB (n / 10) = D at *
      generalize n / 10 = m at *
      generalize n % 10 = d at *
      obtain ⟨x, hx⟩ : ∃ x : Nat, x = 48 + d := ⟨_, rfl⟩
      have k1 : IntKind.i64.wrap (m : Int) = m := by simp [IntKind.wrap, IntKind.bits]; omega
      have k2 : IntKind.i64.wrap (48 + (d : Int)) = (x : Int) := by simp [IntKind.wrap, IntKind.bits]; omega
      have k3 : IntKind.u8.wrap (x : Int) = x := by simp [IntKind.wrap, IntKind.bits]; omega
      have hcv := fun (W : World) (b : Nat) (h : W.cell? ⟨b, 0, none⟩ = some (.int .u8 (x : Int))) => run_convert_bytes_back (P := Tryd.prog) W 76 9 5 ⟨b, 0, none⟩ 1 [UInt8.ofNat x] Tryd.underlying76 Tryd.underlying5 Tryd.underlying9 (fun j hj => by
        have hj2 : j = 0 := by simp at hj; omega
        subst hj2
        have e : (⟨b, 0, none⟩ : Addr).add 0 = ⟨b, 0, none⟩ := by simp [Addr.add]
        rw [e, h]
        simp
        omega)
      simp only [List.length_cons, List.length_nil, Nat.zero_add] at hcv
      have hcv1 := hcv (w.drew.alloc (Obj.cells #[Value.int .u8 (x : Int)] 5)) w.heap.size (cell_new w.drew #[Value.int .u8 (x : Int)] 5 0)
      rw [← hx]
      have s1 : ¬ 9223372036854775807 < D.size + 1 := by omega
      have hb0 : Below w.heap.size w (w.drew.alloc (Obj.cells #[Value.int .u8 (x : Int)] 5)) := below_on (Below.refl _ _).drew (Nat.le_refl _) (below_alloc1 _ _)
      clear hx hd hn hm h
      go_enter Tryd.func39, Tryd.ntmps39
      go_wp2
      go_region_with (first | (go_at_call_of 39 (Value.int IntKind.i64 (m : Int)); refine ((HI _).out).mono ?_; rintro e w1 ⟨rfl, hb⟩; first | (have z0 : w1.cell? ⟨w.heap.size, 0, none⟩ = some (.int .u8 (x : Int)) := cell_on hb (cell_new w.drew #[Value.int .u8 (x : Int)] 5 0); have hcv2 := hcv w1 w.heap.size z0; replace hb := below_on hb0 (Nat.le_refl _) hb) | (have hcv3 := hcv (w1.alloc (Obj.cells #[Value.int .u8 (x : Int)] 5)) w1.heap.size (cell_new w1 #[Value.int .u8 (x : Int)] 5 0); replace hb : Below w.heap.size w w1 := below_on (Below.refl _ _).drew (Nat.le_refl _) hb); dsimp only))
      go_wp2
      all_goals
        go_ret
        exact ⟨rfl, by first | exact hb | exact below_on hb (Nat.le_refl _) (below_alloc1 _ _)⟩

/-- so many digits 0 ahead of them -/
def padB (j m : Nat) : ByteArray := ⟨(List.replicate j (48 : UInt8) ++ Lib.decDigits m).toArray⟩
theorem padB_size (j m : Nat) : (padB j m).size = j + (Lib.decDigits m).length := by rw [Lib.size_eq]; simp [padB]
theorem padB_succ (j m : Nat) : (⟨#[48]⟩ : ByteArray) ++ padB j m = padB (j + 1) m := by
  apply data_inj
  simp [padB, ByteArray.data_append, List.replicate_succ]
theorem padB_six (m : Nat) (h : m ≤ 999999) : padB (6 - (Lib.decDigits m).length) m = ⟨(six m).toArray⟩ := by
  unfold padB; rw [pad_six m h]
set_option maxHeartbeats 1000000 in
theorem six_any (n : Nat) (w : World) (hn : n ≤ 9223372036854775807) :
    Calls Tryd.prog 34 #[.int .i64 n] w fun e w' => e = .returned (.string ⟨(six (n % 1000000)).toArray⟩) ∧ Below w.heap.size w w' := by
  have q2 : (n : Int).tmod 1000000 = ((n % 1000000 : Nat) : Int) := by rw [Int.tmod_eq_emod_of_nonneg (by omega)]; omega
  have hm : n % 1000000 ≤ 999999 := by omega
  have HD := fun w' => hide (decimal_any (n % 1000000) w' (by omega))
  have HS := hide (padB_six (n % 1000000) hm)
  have hlen := len_dec (n % 1000000) hm
  have hd0 : decB (n % 1000000) = padB 0 (n % 1000000) := by simp [decB, padB]
  rw [hd0] at HD
  clear hd0
  generalize n % 1000000 = m at *
  go_enter Tryd.func34, Tryd.ntmps34
  go_wp2_with fail
  refine ((HD _).out).mono ?_
  rintro e w1 ⟨rfl, hb⟩
  go_wp2
  go_loop [3] (fun v => ∃ j : Nat, j + (Lib.decDigits m).length ≤ 6 ∧ v = .string (padB j m)) (fun v => match v with | .string s => 6 - s.size | _ => 0)
  case atStart => exact ⟨0, by omega, rfl⟩
  case round =>
    obtain ⟨j, hj, rfl⟩ := hrel
    have hz := padB_size j m
    have HP := hide (padB_succ j m)
    have hz1 := padB_size (j + 1) m
    by_cases hlt : (padB j m).size < 6
    · have g : ((padB j m).size : Int) < 6 := by omega
      have s1 : ¬ 9223372036854775807 < 1 + (padB j m).size := by omega
      go_wp2
      go_round
      case rel => exact ⟨j + 1, by omega, by rw [HP.out]⟩
      case measure => rw [HP.out]; simp only; omega
    · have g : ¬ ((padB j m).size : Int) < 6 := by omega
      have HJ := hide (show j = 6 - (Lib.decDigits m).length by omega)
      clear hz hz1
      go_wp2
      go_ret
      exact ⟨ret_string (by rw [HJ.out, HS.out]), hb⟩
end Go.Proofs.YtlndiohdjdgaoaaDoor
