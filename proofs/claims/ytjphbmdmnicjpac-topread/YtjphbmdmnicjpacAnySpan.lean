/-
  What span.Any returns: has one of the spans the key? By the closure that it hands to slices.ContainsFunc.
-/
import Derived.Test.YtjphbmdmnicjpacSpanHas
import Derived.Test.YtjphbmdmnicjpacLight
namespace Go.Proofs.Ytjphbmdmnicjpac
open Go.RowKit Go.Joins

theorem spansAt_on {w w' : World} {b off : Nat} {l : List (ByteArray × ByteArray)} (hb : Below w.heap.size w w') (h : spansAt w b off l) : spansAt w' b off l :=
  fun i hi => ⟨cell_on hb (h i hi).1, cell_on hb (h i hi).2⟩
theorem any_take {l : List (ByteArray × ByteArray)} {f : ByteArray × ByteArray → Bool} {k : Nat} (hk : k < l.length) (h : (l.take k).any f = false) (h2 : f l[k] = false) : (l.take (k + 1)).any f = false := by
  rw [List.take_succ_eq_append_getElem hk, List.any_append, h]; simp [h2]
theorem any_yes {l : List (ByteArray × ByteArray)} {f : ByteArray × ByteArray → Bool} {k : Nat} (hk : k < l.length) (h : f l[k] = true) : l.any f = true := by
  rw [List.any_eq_true]; exact ⟨l[k], List.getElem_mem hk, h⟩

set_option maxHeartbeats 400000 in
theorem closure_any (f t key : ByteArray) (kb : Nat) (w : World) (hk : w.cell? ⟨kb, 0, none⟩ = some (.string key)) :
    Calls Try.prog 79 #[.agg #[.string f, .string t], .pointer (some ⟨kb, 0, none⟩)] w fun e w' => e = .returned (.bool (hasS f t key)) ∧ Below w.heap.size w w' := by
  have hB := below_alloc1 w (Obj.cells #[Value.string f, Value.string t] 37)
  have ck := cell_on hB hk
  go_enter Try.func79, Try.ntmps79
  go_wp2_with (go_at_call 54; refine (has_any _ _ _ _).mono ?_; rintro e w1 ⟨rfl, hb⟩; replace hB := below_on hB (Nat.le_refl _) hb)
  go_ret
  exact ⟨rfl, hB⟩

set_option maxHeartbeats 400000 in
theorem indexFunc_any (l : List (ByteArray × ByteArray)) (b off cap kb : Nat) (key : ByteArray) (w : World) (hl : spansAt w b off l) (hk : w.cell? ⟨kb, 0, none⟩ = some (.string key)) (hn : l.length ≤ maxLen) :
    Calls Try.prog 110 #[.slice (some ⟨b, off, none⟩) l.length cap, .func (Fn.func 79) #[] #[.pointer (some ⟨kb, 0, none⟩)]] w
      fun e w' => (∃ i : Int, e = .returned (.int .i64 i) ∧ decide (0 ≤ i) = l.any fun s => hasS s.1 s.2 key) ∧ Below w.heap.size w w' := by
  unfold maxLen at hn
  go_enter Try.func110, Try.ntmps110
  go_wp2
  go_loopw [8] (fun i wr => ∃ k : Nat, k ≤ l.length ∧ i = .int .i64 k ∧ (l.take k).any (fun s => hasS s.1 s.2 key) = false ∧ Below w.heap.size w wr) (fun i _ => l.length - (intOf i).toNat)
  case atStart => exact ⟨0, Nat.zero_le _, rfl, by simp, Below.refl _ _⟩
  case round =>
    obtain ⟨k, hk1, rfl, hno, hB⟩ := hrel
    have HA := hide hno
    clear hno
    by_cases hlt : k < l.length
    · obtain ⟨c0, c1⟩ := spansAt_on hB hl k hlt
      have ck := cell_on hB hk
      cases hh : hasS l[k].1 l[k].2 key with
      | true =>
        go_wp2_with (go_at_call 79; refine (closure_any _ _ key _ _ ck).mono ?_; rintro e w1 ⟨rfl, hb⟩; replace hB := below_on hB (Nat.le_refl _) hb; clear hb)
        go_ret
        exact ⟨⟨k, rfl, by rw [any_yes hlt hh]; simp⟩, hB⟩
      | false =>
        go_wp2_with (go_at_call 79; refine (closure_any _ _ key _ _ ck).mono ?_; rintro e w1 ⟨rfl, hb⟩; replace hB := below_on hB (Nat.le_refl _) hb; clear hb)
        go_roundw
        case rel => exact ⟨k + 1, by omega, by go_num, any_take hlt HA.out hh, hB⟩
        case measure => simp [intOf]; omega
    · go_wp2
      go_ret
      refine ⟨⟨-1, rfl, ?_⟩, hB⟩
      have e : l.take k = l := List.take_of_length_le (by omega)
      have := HA.out
      rw [e] at this
      rw [this]; rfl

theorem indexFunc_nil (ao : Option Addr) (cap kb : Nat) (w : World) :
    Calls Try.prog 110 #[.slice ao 0 cap, .func (Fn.func 79) #[] #[.pointer (some ⟨kb, 0, none⟩)]] w
      fun e w' => e = .returned (.int .i64 (-1)) ∧ w' = w := by
  go_enter Try.func110, Try.ntmps110
  go_wp2
  refine wp_loop_rounds 1 ?_
  rw [rounds_succ]
  go_wp2
  go_ret
  exact ⟨rfl, rfl⟩

set_option maxHeartbeats 400000 in
theorem containsFunc_any (l : List (ByteArray × ByteArray)) (b off cap kb : Nat) (key : ByteArray) (w : World) (hl : spansAt w b off l) (hk : w.cell? ⟨kb, 0, none⟩ = some (.string key)) (hn : l.length ≤ maxLen) :
    Calls Try.prog 78 #[.slice (some ⟨b, off, none⟩) l.length cap, .func (Fn.func 79) #[] #[.pointer (some ⟨kb, 0, none⟩)]] w
      fun e w' => e = .returned (.bool (l.any fun s => hasS s.1 s.2 key)) ∧ Below w.heap.size w w' := by
  go_enter Try.func78, Try.ntmps78
  go_wp2_with (go_at_call 110; refine (indexFunc_any l _ _ _ _ key _ hl hk hn).mono ?_; rintro e w1 ⟨⟨i, rfl, hi⟩, hb⟩)
  go_ret
  exact ⟨rfl, hb⟩
set_option maxHeartbeats 400000 in
theorem containsFunc_nil (ao : Option Addr) (cap kb : Nat) (w : World) :
    Calls Try.prog 78 #[.slice ao 0 cap, .func (Fn.func 79) #[] #[.pointer (some ⟨kb, 0, none⟩)]] w
      fun e w' => e = .returned (.bool false) ∧ w' = w := by
  go_enter Try.func78, Try.ntmps78
  go_wp2_with (go_at_call 110; refine (indexFunc_nil _ _ _ _).mono ?_; rintro e w1 ⟨rfl, rfl⟩)
  go_ret
  exact ⟨rfl, rfl⟩

set_option maxHeartbeats 400000 in
theorem any_any (l : List (ByteArray × ByteArray)) (b off cap : Nat) (key : ByteArray) (w : World) (hl : spansAt w b off l) (hn : l.length ≤ maxLen) :
    Calls Try.prog 33 #[.slice (some ⟨b, off, none⟩) l.length cap, .string key] w fun e w' => e = .returned (.bool (l.any fun s => hasS s.1 s.2 key)) ∧ Below w.heap.size w w' := by
  have hB := below_alloc1 w (Obj.cells #[Value.string key] 9)
  have hk : (w.alloc (Obj.cells #[Value.string key] 9)).cell? ⟨w.heap.size, 0, none⟩ = some (.string key) := by simp
  have hl' := spansAt_on hB hl
  go_enter Try.func33, Try.ntmps33
  go_wp2_with (go_at_call 78; refine (containsFunc_any l _ _ _ _ key _ hl' hk hn).mono ?_; rintro e w1 ⟨rfl, hb⟩; replace hB := below_on hB (Nat.le_refl _) hb; clear hb)
  go_ret
  exact ⟨rfl, hB⟩
set_option maxHeartbeats 400000 in
theorem any_nil (ao : Option Addr) (cap : Nat) (key : ByteArray) (w : World) :
    Calls Try.prog 33 #[.slice ao 0 cap, .string key] w fun e w' => e = .returned (.bool false) ∧ Below w.heap.size w w' := by
  go_enter Try.func33, Try.ntmps33
  go_wp2_with (go_at_call 78; refine (containsFunc_nil _ _ _ _).mono ?_; rintro e w1 ⟨rfl, rfl⟩)
  go_ret
  exact ⟨rfl, below_alloc1 _ _⟩
end Go.Proofs.Ytjphbmdmnicjpac

/-
  Spans that a slice holds, or none; what span.Any and haywainlaw.LightSpans return of them.
-/
namespace Go.Proofs.Ytjphbmdmnicjpac
open Go.RowKit Go.Joins

def heldSp (w : World) (ao : Option Addr) (l : List (ByteArray × ByteArray)) : Prop := l = [] ∨ ∃ b off, ao = some ⟨b, off, none⟩ ∧ spansAt w b off l
theorem heldSp_on {w w' : World} {ao : Option Addr} {l : List (ByteArray × ByteArray)} (hb : Below w.heap.size w w') (h : heldSp w ao l) : heldSp w' ao l := by
  rcases h with h | ⟨b, off, h, k⟩
  · exact .inl h
  · exact .inr ⟨b, off, h, spansAt_on hb k⟩
theorem heldSp_block {w w' : World} {ao : Option Addr} {l : List (ByteArray × ByteArray)} (h : heldSp w ao l) (hk : ∀ b off, ao = some ⟨b, off, none⟩ → b < w.heap.size → w'.heap[b]? = w.heap[b]?) : heldSp w' ao l := by
  rcases h with h | ⟨b, off, rfl, h⟩
  · exact .inl h
  · by_cases h0 : l = []
    · exact .inl h0
    · have hl : 0 < l.length := List.length_pos_iff.2 h0
      have e := hk b off rfl (World.block_lt_of_cell? w _ (h 0 hl).1)
      exact .inr ⟨b, off, rfl, fun i hi => ⟨(World.cell?_of_block (w := w) e).trans (h i hi).1, (World.cell?_of_block (w := w) e).trans (h i hi).2⟩⟩
theorem any_held (l : List (ByteArray × ByteArray)) (ao : Option Addr) (cap : Nat) (key : ByteArray) (w : World) (hl : heldSp w ao l) (hn : l.length ≤ maxLen) :
    Calls Try.prog 33 #[.slice ao l.length cap, .string key] w fun e w' => e = .returned (.bool (l.any fun s => hasS s.1 s.2 key)) ∧ Below w.heap.size w w' := by
  rcases hl with rfl | ⟨b, off, rfl, h⟩
  · exact any_nil _ _ _ _
  · exact any_any l b off cap key w h hn
theorem lightSp_held (l : List (ByteArray × ByteArray)) (ao : Option Addr) (cap : Nat) (w : World) (hl : heldSp w ao l) (hn : l.length ≤ maxLen) :
    Calls Try.prog 20 #[.slice ao l.length cap] w fun e w' => e = .returned (.bool (lightSpans l)) ∧ w' = w := by
  rcases hl with rfl | ⟨b, off, rfl, h⟩
  · exact lightSpans_nil _ _ _
  · exact lightSpans_some l b off cap w h hn
end Go.Proofs.Ytjphbmdmnicjpac
