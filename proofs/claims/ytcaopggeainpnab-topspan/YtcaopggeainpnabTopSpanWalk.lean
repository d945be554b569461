/-
  What haywaintop.TopSpan returns: true, for all spans and keys, in whatever memory; nothing that was there is changed.
-/
import Derived.Test.YtcaopggeainpnabSpan
import Derived.Test.YtcaopggeainpnabLight
namespace Go.Proofs.Ytcaopggeainpnab
open Go.RowKit Go.Joins
attribute [local go_sem ↓] Go.wp_at_zero Go.wp_at_succ

theorem keep_on {w W w1 : World} {p0 p1 p2 p3 : Addr} {x0 x1 x2 x3 : Value} (hb : Below W.heap.size W w1)
    (h : W.cell? p0 = some x0 ∧ W.cell? p1 = some x1 ∧ W.cell? p2 = some x2 ∧ W.cell? p3 = some x3 ∧ Below w.heap.size w W) :
    w1.cell? p0 = some x0 ∧ w1.cell? p1 = some x1 ∧ w1.cell? p2 = some x2 ∧ w1.cell? p3 = some x3 ∧ Below w.heap.size w w1 :=
  ⟨cell_on hb h.1, cell_on hb h.2.1, cell_on hb h.2.2.1, cell_on hb h.2.2.2.1, below_on h.2.2.2.2 (Nat.le_refl _) hb⟩
theorem keep_drew {w W : World} {p0 p1 p2 p3 : Addr} {x0 x1 x2 x3 : Value}
    (h : W.cell? p0 = some x0 ∧ W.cell? p1 = some x1 ∧ W.cell? p2 = some x2 ∧ W.cell? p3 = some x3 ∧ Below w.heap.size w W) :
    W.drew.cell? p0 = some x0 ∧ W.drew.cell? p1 = some x1 ∧ W.drew.cell? p2 = some x2 ∧ W.drew.cell? p3 = some x3 ∧ Below w.heap.size w W.drew :=
  ⟨h.1, h.2.1, h.2.2.1, h.2.2.2.1, h.2.2.2.2.drew⟩

theorem spansAt_two (w : World) (g : Nat) (a b c d : ByteArray) (t : TypeId) (h : w.heap[g]? = some (.cells #[.string a, .string b, .string c, .string d] t)) : spansAt w g 0 [(a, b), (c, d)] := by
  intro i hi
  have e : i = 0 ∨ i = 1 := by simp at hi; omega
  rcases e with rfl | rfl <;> simp [World.cell?, h]

theorem lightSpans_two (W : World) (a b c d : ByteArray) :
    Calls Try.prog 8 #[.slice (some ⟨W.heap.size, 0, none⟩) 2 2] (W.alloc (.cells #[.string a, .string b, .string c, .string d] 23)) fun e w' => e = .returned (.bool (lightSpans [(a, b), (c, d)])) ∧ Below W.heap.size W w' :=
  (lightSpans_some [(a, b), (c, d)] W.heap.size 0 2 _ (spansAt_two _ _ a b c d 23 (Go.heap_alloc_new _ _)) (by simp [maxLen])).mono fun _ _ h => ⟨h.1, by rw [h.2]; exact below_alloc1 _ _⟩

theorem all_has : hasS ByteArray.empty ByteArray.empty ⟨#[120]⟩ = true := by
  simp [hasS, leS, nilS, Lib.toList_data, Op.bytesLess]
theorem x_has : hasS ⟨#[120]⟩ (zeroS ⟨#[120]⟩) ⟨#[121]⟩ = false := by
  rw [point_has]; simp [eqS, Lib.toList_data]

set_option maxHeartbeats 1000000 in
theorem topSpan_heavy (af a_t bf bt key other : ByteArray) (w : World) (hh : lightSpans [(af, a_t), (bf, bt)] = false ∨ lightSpans [(af, a_t), (bf, bt)] = true ∧ (60 < key.size ∨ key.size ≤ 60 ∧ 60 < other.size)) :
    Calls Try.prog 3 #[.agg #[.string af, .string a_t], .agg #[.string bf, .string bt], .string key, .string other] w fun e w' => e = .returned (.bool true) ∧ Below w.heap.size w w' := by
  have hB : Below w.heap.size w ((w.alloc (Obj.cells #[Value.string af, Value.string a_t] 23)).alloc (Obj.cells #[Value.string bf, Value.string bt] 23)) := below_alloc2 _ _ _
  have a0 : ((w.alloc (Obj.cells #[Value.string af, Value.string a_t] 23)).alloc (Obj.cells #[Value.string bf, Value.string bt] 23)).cell? ⟨w.heap.size, 0, none⟩ = some (.string af) := by simp
  have a1 : ((w.alloc (Obj.cells #[Value.string af, Value.string a_t] 23)).alloc (Obj.cells #[Value.string bf, Value.string bt] 23)).cell? ⟨w.heap.size, 1, none⟩ = some (.string a_t) := by simp
  have b0 : ((w.alloc (Obj.cells #[Value.string af, Value.string a_t] 23)).alloc (Obj.cells #[Value.string bf, Value.string bt] 23)).cell? ⟨w.heap.size + 1, 0, none⟩ = some (.string bf) := by simp
  have b1 : ((w.alloc (Obj.cells #[Value.string af, Value.string a_t] 23)).alloc (Obj.cells #[Value.string bf, Value.string bt] 23)).cell? ⟨w.heap.size + 1, 1, none⟩ = some (.string bt) := by simp
  have f1 := all_has
  have f2 := x_has
  rcases hh with h | ⟨h, h' | ⟨h', h''⟩⟩
  all_goals
    go_enter Try.func3, Try.ntmps3
    go_wp2_with (first
      | (go_at_call 6; refine (all_any _).mono ?_; rintro e w1 ⟨rfl, hb⟩; replace hB := below_on hB (Nat.le_refl _) hb; replace a0 := cell_on hb a0; replace a1 := cell_on hb a1; replace b0 := cell_on hb b0; replace b1 := cell_on hb b1; clear hb)
      | (go_at_call 5; refine (has_any _ _ _ _).mono ?_; rintro e w1 ⟨rfl, hb⟩; replace hB := below_on hB (Nat.le_refl _) hb; replace a0 := cell_on hb a0; replace a1 := cell_on hb a1; replace b0 := cell_on hb b0; replace b1 := cell_on hb b1; clear hb)
      | (go_at_call 7; refine (point_any _ _ (by first | decide | omega)).mono ?_; rintro e w1 ⟨rfl, hb⟩; replace hB := below_on hB (Nat.le_refl _) hb; replace a0 := cell_on hb a0; replace a1 := cell_on hb a1; replace b0 := cell_on hb b0; replace b1 := cell_on hb b1; clear hb)
      | (go_at_call 8; refine (lightSpans_two _ _ _ _ _).mono ?_; rintro e w1 ⟨rfl, hb⟩; replace hB := below_on hB (Nat.le_refl _) hb; replace a0 := cell_on hb a0; replace a1 := cell_on hb a1; replace b0 := cell_on hb b0; replace b1 := cell_on hb b1; clear hb))
    go_ret
    exact ⟨rfl, hB⟩

set_option maxHeartbeats 8000000 in
theorem topSpan_light (af a_t bf bt key other : ByteArray) (w : World) (m : Bool) (hl : lightSpans [(af, a_t), (bf, bt)] = true) (hk : key.size ≤ 60) (ho : other.size ≤ 60)
    (hm : meetS af a_t bf bt = m) (hm2 : meetS bf bt af a_t = m) (p1 : hasS key (zeroS key) key = true)
    (hc : (hasS af a_t key = true ∧ hasS bf bt key = true ∧ emptyS af a_t = false ∧ hasS (Lib.maxS af bf) (endS a_t bt) key = true ∧ meetS key (zeroS key) af a_t = true ∧ m = true) ∨
      (hasS af a_t key = true ∧ hasS bf bt key = false ∧ emptyS af a_t = false ∧ hasS (Lib.maxS af bf) (endS a_t bt) key = false ∧ meetS key (zeroS key) af a_t = true) ∨
      (hasS af a_t key = false ∧ emptyS af a_t = true ∧ hasS (Lib.maxS af bf) (endS a_t bt) key = false ∧ meetS key (zeroS key) af a_t = false) ∨
      (hasS af a_t key = false ∧ emptyS af a_t = false ∧ hasS (Lib.maxS af bf) (endS a_t bt) key = false ∧ meetS key (zeroS key) af a_t = false))
    (hne : (other.toList == key.toList) = true ∨ (other.toList == key.toList) = false ∧ hasS key (zeroS key) other = false) :
    Calls Try.prog 3 #[.agg #[.string af, .string a_t], .agg #[.string bf, .string bt], .string key, .string other] w fun e w' => e = .returned (.bool true) ∧ Below w.heap.size w w' := by
  have hB : Below w.heap.size w ((w.alloc (Obj.cells #[Value.string af, Value.string a_t] 23)).alloc (Obj.cells #[Value.string bf, Value.string bt] 23)) := below_alloc2 _ _ _
  have a0 : ((w.alloc (Obj.cells #[Value.string af, Value.string a_t] 23)).alloc (Obj.cells #[Value.string bf, Value.string bt] 23)).cell? ⟨w.heap.size, 0, none⟩ = some (.string af) := by simp
  have a1 : ((w.alloc (Obj.cells #[Value.string af, Value.string a_t] 23)).alloc (Obj.cells #[Value.string bf, Value.string bt] 23)).cell? ⟨w.heap.size, 1, none⟩ = some (.string a_t) := by simp
  have b0 : ((w.alloc (Obj.cells #[Value.string af, Value.string a_t] 23)).alloc (Obj.cells #[Value.string bf, Value.string bt] 23)).cell? ⟨w.heap.size + 1, 0, none⟩ = some (.string bf) := by simp
  have b1 : ((w.alloc (Obj.cells #[Value.string af, Value.string a_t] 23)).alloc (Obj.cells #[Value.string bf, Value.string bt] 23)).cell? ⟨w.heap.size + 1, 1, none⟩ = some (.string bt) := by simp
  have f1 := all_has
  have f2 := x_has
  rcases hc with ⟨hx, hy, he, hbo, p3, rfl⟩ | ⟨hx, hy, he, hbo, p3⟩ | ⟨hx, he, hbo, p3⟩ | ⟨hx, he, hbo, p3⟩
  all_goals rcases hne with hne | ⟨hne, p2⟩
  all_goals
    go_enter Try.func3, Try.ntmps3
    go_wp2_with (first
      | (go_at_call 6; refine (all_any _).mono ?_; rintro e w1 ⟨rfl, hb⟩; replace hB := below_on hB (Nat.le_refl _) hb; replace a0 := cell_on hb a0; replace a1 := cell_on hb a1; replace b0 := cell_on hb b0; replace b1 := cell_on hb b1; clear hb)
      | (go_at_call 5; refine (has_any _ _ _ _).mono ?_; rintro e w1 ⟨rfl, hb⟩; replace hB := below_on hB (Nat.le_refl _) hb; replace a0 := cell_on hb a0; replace a1 := cell_on hb a1; replace b0 := cell_on hb b0; replace b1 := cell_on hb b1; clear hb)
      | (go_at_call 7; refine (point_any _ _ (by first | decide | omega)).mono ?_; rintro e w1 ⟨rfl, hb⟩; replace hB := below_on hB (Nat.le_refl _) hb; replace a0 := cell_on hb a0; replace a1 := cell_on hb a1; replace b0 := cell_on hb b0; replace b1 := cell_on hb b1; clear hb)
      | (go_at_call 8; refine (lightSpans_two _ _ _ _ _).mono ?_; rintro e w1 ⟨rfl, hb⟩; replace hB := below_on hB (Nat.le_refl _) hb; replace a0 := cell_on hb a0; replace a1 := cell_on hb a1; replace b0 := cell_on hb b0; replace b1 := cell_on hb b1; clear hb))
    have nS := OnW.some w1
    have n0 : ∀ n : OnW w1, n.w.cell? ⟨w.heap.size, 0, none⟩ = some (.string af) := fun n => n.cell a0
    have n1 : ∀ n : OnW w1, n.w.cell? ⟨w.heap.size, 1, none⟩ = some (.string a_t) := fun n => n.cell a1
    have n2 : ∀ n : OnW w1, n.w.cell? ⟨w.heap.size + 1, 0, none⟩ = some (.string bf) := fun n => n.cell b0
    have n3 : ∀ n : OnW w1, n.w.cell? ⟨w.heap.size + 1, 1, none⟩ = some (.string bt) := fun n => n.cell b1
    refine wp_region_on (by kernel_rfl) (by kernel_rfl) ?_
    repeat (go_big_quiet_step ((first
      | (go_at_call 5; exact on_call (call_val (has_any _ _ _ _) (congrArg Value.bool hx)))
      | (go_at_call 5; exact on_call (call_val (has_any _ _ _ _) (congrArg Value.bool hbo)))
      | (go_at_call 5; exact on_call (call_val (has_any _ _ _ _) (congrArg Value.bool hy)))
      | (go_at_call 5; exact on_call (call_val (has_any _ _ _ _) (congrArg Value.bool p1)))
      | (go_at_call 5; exact on_call (call_val (has_any _ _ _ _) (congrArg Value.bool p2)))
      | (go_at_call 9; exact on_call (both_any _ _ _ _ _))
      | (go_at_call 10; exact on_call (call_val (meet_any _ _ _ _ _) (congrArg Value.bool hm)))
      | (go_at_call 10; exact on_call (call_val (meet_any _ _ _ _ _) (congrArg Value.bool hm2)))
      | (go_at_call 10; exact on_call (call_val (meet_any _ _ _ _ _) (congrArg Value.bool p3)))
      | (go_at_call 11; exact on_call (call_val (empty_any _ _ _) (congrArg Value.bool he))))))
    refine wpQuiet_nil ?_
    intro w2 hw2
    replace hw2 := on_end hw2
    clear n0 n1 n2 n3 nS
    replace hB := below_on hB (Nat.le_refl _) hw2
    replace a0 := cell_on hw2 a0
    replace a1 := cell_on hw2 a1
    replace b0 := cell_on hw2 b0
    replace b1 := cell_on hw2 b1
    clear hw2
    go_wp2_with (first
      | (go_at_call 7; refine (point_any _ _ (by first | decide | omega)).mono ?_; rintro e w1 ⟨rfl, hb⟩; replace hB := below_on hB (Nat.le_refl _) hb; replace a0 := cell_on hb a0; replace a1 := cell_on hb a1; replace b0 := cell_on hb b0; replace b1 := cell_on hb b1; clear hb))
    have nS := OnW.some (w1.alloc (Obj.cells #[Value.string key, Value.string (zeroS key)] 23))
    have hb := below_alloc1 w1 (Obj.cells #[Value.string key, Value.string (zeroS key)] 23)
    replace hB := below_on hB (Nat.le_refl _) hb
    replace a0 := cell_on hb a0
    replace a1 := cell_on hb a1
    clear hb b0 b1
    have q0 : (w1.alloc (Obj.cells #[Value.string key, Value.string (zeroS key)] 23)).cell? ⟨w1.heap.size, 0, none⟩ = some (.string key) := by simp
    have q1 : (w1.alloc (Obj.cells #[Value.string key, Value.string (zeroS key)] 23)).cell? ⟨w1.heap.size, 1, none⟩ = some (.string (zeroS key)) := by simp
    have n0 : ∀ n : OnW (w1.alloc (Obj.cells #[Value.string key, Value.string (zeroS key)] 23)), n.w.cell? ⟨w.heap.size, 0, none⟩ = some (.string af) := fun n => n.cell a0
    have n1 : ∀ n : OnW (w1.alloc (Obj.cells #[Value.string key, Value.string (zeroS key)] 23)), n.w.cell? ⟨w.heap.size, 1, none⟩ = some (.string a_t) := fun n => n.cell a1
    have n2 : ∀ n : OnW (w1.alloc (Obj.cells #[Value.string key, Value.string (zeroS key)] 23)), n.w.cell? ⟨w1.heap.size, 0, none⟩ = some (.string key) := fun n => n.cell q0
    have n3 : ∀ n : OnW (w1.alloc (Obj.cells #[Value.string key, Value.string (zeroS key)] 23)), n.w.cell? ⟨w1.heap.size, 1, none⟩ = some (.string (zeroS key)) := fun n => n.cell q1
    refine wp_region_on (by kernel_rfl) (by kernel_rfl) ?_
    repeat (go_big_quiet_step ((first
      | (go_at_call 5; exact on_call (call_val (has_any _ _ _ _) (congrArg Value.bool hx)))
      | (go_at_call 5; exact on_call (call_val (has_any _ _ _ _) (congrArg Value.bool hbo)))
      | (go_at_call 5; exact on_call (call_val (has_any _ _ _ _) (congrArg Value.bool hy)))
      | (go_at_call 5; exact on_call (call_val (has_any _ _ _ _) (congrArg Value.bool p1)))
      | (go_at_call 5; exact on_call (call_val (has_any _ _ _ _) (congrArg Value.bool p2)))
      | (go_at_call 10; exact on_call (call_val (meet_any _ _ _ _ _) (congrArg Value.bool hm)))
      | (go_at_call 10; exact on_call (call_val (meet_any _ _ _ _ _) (congrArg Value.bool hm2)))
      | (go_at_call 10; exact on_call (call_val (meet_any _ _ _ _ _) (congrArg Value.bool p3)))
      | (go_at_call 11; exact on_call (call_val (empty_any _ _ _) (congrArg Value.bool he))))))
    refine wpQuiet_nil ?_
    intro w3 hw3
    replace hw3 := on_end hw3
    replace hB := below_on hB (Nat.le_refl _) hw3
    go_wp2
    go_ret
    exact ⟨rfl, hB⟩

theorem topSpan_walk (af a_t bf bt key other : ByteArray) (w : World) :
    Calls Try.prog 3 #[.agg #[.string af, .string a_t], .agg #[.string bf, .string bt], .string key, .string other] w fun e w' => e = .returned (.bool true) ∧ Below w.heap.size w w' := by
  cases hl : lightSpans [(af, a_t), (bf, bt)] with
  | false => exact topSpan_heavy af a_t bf bt key other w (Or.inl hl)
  | true =>
    by_cases hk : key.size ≤ 60
    · by_cases ho : other.size ≤ 60
      · refine topSpan_light af a_t bf bt key other w (meetS af a_t bf bt) hl hk ho rfl (meet_comm _ _ _ _) (by rw [point_has, eqS_refl]) ?_ ?_
        · have hbo := has_both af a_t bf bt key
          have p3 := point_meet key af a_t
          cases hx : hasS af a_t key with
          | true =>
            have he := has_not_empty hx
            rw [hx, he] at p3
            cases hy : hasS bf bt key with
            | true => rw [hx, hy] at hbo; exact Or.inl ⟨rfl, rfl, he, hbo, p3, has_meet hx hy⟩
            | false => rw [hx, hy] at hbo; exact Or.inr (Or.inl ⟨rfl, rfl, he, hbo, p3⟩)
          | false =>
            rw [hx, Bool.false_and] at p3 hbo
            cases he : emptyS af a_t with
            | true => exact Or.inr (Or.inr (Or.inl ⟨rfl, rfl, hbo, p3⟩))
            | false => exact Or.inr (Or.inr (Or.inr ⟨rfl, rfl, hbo, p3⟩))
        · cases hne : (other.toList == key.toList) with
          | true => exact Or.inl rfl
          | false =>
            refine Or.inr ⟨rfl, ?_⟩
            rw [point_has, eqS_comm]; exact hne
      · exact topSpan_heavy af a_t bf bt key other w (Or.inr ⟨hl, Or.inr ⟨hk, by omega⟩⟩)
    · exact topSpan_heavy af a_t bf bt key other w (Or.inr ⟨hl, Or.inl (by omega)⟩)
end Go.Proofs.Ytcaopggeainpnab
