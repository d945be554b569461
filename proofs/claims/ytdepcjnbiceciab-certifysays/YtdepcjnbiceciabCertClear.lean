/-
  What History.Clear returns of a history that lies in memory: did none of the deeds above a number change a key that one of the spans has? Nothing that was there is changed.
-/
import Derived.Test.YtdepcjnbiceciabCertPlace
import Derived.Test.YtdepcjnbiceciabSpHeld
namespace Go.Proofs.Ytdepcjnbiceciab
open Go.RowKit Go.Joins

set_option maxHeartbeats 400000 in
theorem clearFn_any (l : List (ByteArray × ByteArray)) (ao : Option Addr) (cap rb : Nat) (key : ByteArray) (w : World) (hc : w.cell? ⟨rb, 0, none⟩ = some (.slice ao l.length cap)) (hl : heldSp w ao l) (hn : l.length ≤ maxLen) :
    Calls Try.prog 68 #[.string key, .pointer (some ⟨rb, 0, none⟩)] w fun e w' => e = .returned (.bool (l.any fun s => hasS s.1 s.2 key)) ∧ Below w.heap.size w w' := by
  go_enter Try.func68, Try.ntmps68
  go_wp2_with (go_at_call 69; refine (any_held l _ _ _ _ hl hn).mono ?_; rintro e w1 ⟨rfl, hb⟩)
  go_ret
  exact ⟨rfl, hb⟩

/-- texts lie in block g from its head on -/
def textsAt (w : World) (g : Nat) (ks : List ByteArray) : Prop := ∀ i (hi : i < ks.length), w.cell? ⟨g, i, none⟩ = some (.string ks[i])
theorem textsAt_on {w w' : World} {g : Nat} {ks : List ByteArray} (hb : Below w.heap.size w w') (h : textsAt w g ks) : textsAt w' g ks := fun i hi => cell_on hb (h i hi)
theorem anyk_take {ks : List ByteArray} {f : ByteArray → Bool} {k : Nat} (hk : k < ks.length) (h : (ks.take k).any f = false) (h2 : f ks[k] = false) : (ks.take (k + 1)).any f = false := by
  rw [List.take_succ_eq_append_getElem hk, List.any_append, h]; simp [h2]
theorem anyk_yes {ks : List ByteArray} {f : ByteArray → Bool} {k : Nat} (hk : k < ks.length) (h : f ks[k] = true) : ks.any f = true := by
  rw [List.any_eq_true]; exact ⟨ks[k], List.getElem_mem hk, h⟩

set_option maxHeartbeats 400000 in
theorem indexKeys_some (ks : List ByteArray) (g kc : Nat) (l : List (ByteArray × ByteArray)) (ao : Option Addr) (cap rb : Nat) (w : World) (hk : textsAt w g ks) (hkn : ks.length ≤ 1000000) (hc : w.cell? ⟨rb, 0, none⟩ = some (.slice ao l.length cap)) (hl : heldSp w ao l) (hn : l.length ≤ maxLen) :
    Calls Try.prog 85 #[.slice (some ⟨g, 0, none⟩) ks.length kc, .func (Fn.func 68) #[] #[.pointer (some ⟨rb, 0, none⟩)]] w
      fun e w' => (∃ i : Int, e = .returned (.int .i64 i) ∧ decide (0 ≤ i) = ks.any fun k => l.any fun s => hasS s.1 s.2 k) ∧ Below w.heap.size w w' := by
  go_enter Try.func85, Try.ntmps85
  go_wp2
  go_loopw [8] (fun i wr => ∃ k : Nat, k ≤ ks.length ∧ i = .int .i64 k ∧ (ks.take k).any (fun k => l.any fun s => hasS s.1 s.2 k) = false ∧ Below w.heap.size w wr) (fun i _ => ks.length - (intOf i).toNat)
  case atStart => exact ⟨0, Nat.zero_le _, rfl, by simp, Below.refl _ _⟩
  case round =>
    obtain ⟨k, hk1, rfl, hno, hB⟩ := hrel
    have HA := hide hno
    clear hno
    by_cases hlt : k < ks.length
    · have c0 := textsAt_on hB hk k hlt
      have cr := cell_on hB hc
      have HL := hide (heldSp_on hB hl)
      cases hh : l.any fun s => hasS s.1 s.2 ks[k] with
      | true =>
        have HH := hide hh
        clear hh
        go_wp2_with (go_at_call 68; refine (clearFn_any l ao cap rb _ _ cr HL.out hn).mono ?_; rintro e w1 ⟨rfl, hb⟩; rw [HH.out]; replace hB := below_on hB (Nat.le_refl _) hb; clear hb)
        go_ret
        exact ⟨⟨k, rfl, by rw [anyk_yes hlt HH.out]; simp⟩, hB⟩
      | false =>
        have HH := hide hh
        clear hh
        go_wp2_with (go_at_call 68; refine (clearFn_any l ao cap rb _ _ cr HL.out hn).mono ?_; rintro e w1 ⟨rfl, hb⟩; rw [HH.out]; replace hB := below_on hB (Nat.le_refl _) hb; clear hb)
        go_roundw
        case rel => exact ⟨k + 1, by omega, by go_num, anyk_take hlt HA.out HH.out, hB⟩
        case measure => simp [intOf]; omega
    · go_wp2
      go_ret
      refine ⟨⟨-1, rfl, ?_⟩, hB⟩
      have e : ks.take k = ks := List.take_of_length_le (by omega)
      have := HA.out
      rw [e] at this
      rw [this]; rfl
set_option maxHeartbeats 400000 in
theorem indexKeys_nil (ao : Option Addr) (kc : Nat) (f : Value) (w : World) :
    Calls Try.prog 85 #[.slice ao 0 kc, f] w fun e w' => e = .returned (.int .i64 (-1)) ∧ w' = w := by
  go_enter Try.func85, Try.ntmps85
  go_wp2
  refine wp_loop_rounds 1 ?_
  rw [rounds_succ]
  go_wp2
  go_ret
  exact ⟨rfl, rfl⟩
set_option maxHeartbeats 400000 in
theorem containsKeys_any (B : Nat) (v : Value) (ks : List ByteArray) (l : List (ByteArray × ByteArray)) (ao : Option Addr) (cap rb : Nat) (w : World) (hk : w.ownsRow B 9 1 v ks.length (ks.map Value.string)) (hkn : ks.length ≤ 1000000) (hc : w.cell? ⟨rb, 0, none⟩ = some (.slice ao l.length cap)) (hl : heldSp w ao l) (hn : l.length ≤ maxLen) :
    Calls Try.prog 67 #[v, .func (Fn.func 68) #[] #[.pointer (some ⟨rb, 0, none⟩)]] w
      fun e w' => e = .returned (.bool (ks.any fun k => l.any fun s => hasS s.1 s.2 k)) ∧ Below w.heap.size w w' := by
  rcases keys_form hk with ⟨rfl, rfl⟩ | ⟨g, kc, rfl, _, _, hk⟩
  · go_enter Try.func67, Try.ntmps67
    go_wp2_with (go_at_call 85; refine (indexKeys_nil _ _ _ _).mono ?_; rintro e w1 ⟨rfl, rfl⟩)
    go_ret
    exact ⟨rfl, Below.refl _ _⟩
  · go_enter Try.func67, Try.ntmps67
    go_wp2_with (go_at_call 85; refine (indexKeys_some ks g kc l ao cap rb _ hk hkn hc hl hn).mono ?_; rintro e w1 ⟨⟨i, rfl, hi⟩, hb⟩)
    go_ret
    exact ⟨rfl, hb⟩
end Go.Proofs.Ytdepcjnbiceciab
