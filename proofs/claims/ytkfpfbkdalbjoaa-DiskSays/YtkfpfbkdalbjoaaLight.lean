/-
  What haywainlaw.LightSpans returns of a list of spans that lies in memory: are there at most 50, and has none an end of more than 60 bytes? It changes nothing.
-/
import Derived.Test.YtkfpfbkdalbjoaaRows
import Derived.Test.YtkfpfbkdalbjoaaStr
import Derived.Test.YtkfpfbkdalbjoaaBase
namespace Go.Proofs.Ytkfpfbkdalbjoaa
open Go.RowKit Go.Joins

/-- spans, two texts each, lie in block b from off on -/
def spansAt (w : World) (b off : Nat) (l : List (ByteArray × ByteArray)) : Prop :=
  ∀ i (h : i < l.length), w.cell? ⟨b, off + i * 2, none⟩ = some (.string l[i].1) ∧ w.cell? ⟨b, off + i * 2 + 1, none⟩ = some (.string l[i].2)
def lightSpan (s : ByteArray × ByteArray) : Bool := decide (s.1.size ≤ 60) && decide (s.2.size ≤ 60)
def lightSpans (l : List (ByteArray × ByteArray)) : Bool := decide (l.length ≤ 50) && l.all lightSpan

theorem light_take {l : List (ByteArray × ByteArray)} {k : Nat} (hk : k < l.length) (h : (l.take k).all lightSpan = true) (h2 : lightSpan l[k] = true) : (l.take (k + 1)).all lightSpan = true := by
  rw [List.take_succ_eq_append_getElem hk, List.all_append, h]; simp [h2]
theorem light_not {l : List (ByteArray × ByteArray)} {k : Nat} (hk : k < l.length) (h : lightSpan l[k] = false) : lightSpans l = false := by
  unfold lightSpans
  have : l.all lightSpan = false := by
    rw [List.all_eq_false]; exact ⟨l[k], List.getElem_mem hk, by simp [h]⟩
  rw [this, Bool.and_false]

set_option maxHeartbeats 1000000 in
theorem lightSpans_some (l : List (ByteArray × ByteArray)) (b off cap : Nat) (w : World) (hl : spansAt w b off l) (hn : l.length ≤ maxLen) :
    Calls Try.prog 43 #[.slice (some ⟨b, off, none⟩) l.length cap] w fun e w' => e = .returned (.bool (lightSpans l)) ∧ w' = w := by
  unfold maxLen at hn
  by_cases h50 : l.length ≤ 50
  · have hg : decide ((50 : Int) < (l.length : Int)) = false := by simp; omega
    go_enter Try.func43, Try.ntmps43
    go_wp2
    go_loop [3] (fun i => ∃ k : Nat, k ≤ l.length ∧ i = .int .i64 k ∧ (l.take k).all lightSpan = true) (fun i => l.length - (intOf i).toNat)
    case atStart => exact ⟨0, Nat.zero_le _, rfl, by simp⟩
    case round =>
      obtain ⟨k, hk, rfl, hall⟩ := hrel
      have HA : Hid ((l.take k).all lightSpan = true) := hall
      clear hall
      by_cases hlt : k < l.length
      · obtain ⟨c0, c1⟩ := hl k hlt
        go_wp2
        · go_ret
          exact ⟨ret_bool (light_not hlt (by simp only [lightSpan, Bool.and_eq_false_iff, decide_eq_false_iff_not]; omega)).symm, rfl⟩
        · go_round
          case rel => exact ⟨k + 1, by omega, by go_num, light_take hlt HA.out (by simp only [lightSpan, Bool.and_eq_true, decide_eq_true_eq]; omega)⟩
          case measure => simp [intOf]; omega
        · go_ret
          exact ⟨ret_bool (light_not hlt (by simp only [lightSpan, Bool.and_eq_false_iff, decide_eq_false_iff_not]; omega)).symm, rfl⟩
      · go_wp2
        go_ret
        refine ⟨ret_bool ?_, rfl⟩
        have e : l.take k = l := List.take_of_length_le (by omega)
        have := HA.out
        rw [e] at this
        simp [lightSpans, this, h50]
  · have hg : decide ((50 : Int) < (l.length : Int)) = true := by simp; omega
    go_enter Try.func43, Try.ntmps43
    go_wp2
    go_ret
    exact ⟨ret_bool (by simp [lightSpans, h50]), rfl⟩
/-- of a slice without elements, nil or not -/
theorem lightSpans_nil (ao : Option Addr) (cap : Nat) (w : World) :
    Calls Try.prog 43 #[.slice ao 0 cap] w fun e w' => e = .returned (.bool true) ∧ w' = w := by
  go_enter Try.func43, Try.ntmps43
  go_wp2
  refine wp_loop_rounds 1 ?_
  rw [rounds_succ]
  go_wp2
  go_ret
  exact ⟨rfl, rfl⟩
end Go.Proofs.Ytkfpfbkdalbjoaa
