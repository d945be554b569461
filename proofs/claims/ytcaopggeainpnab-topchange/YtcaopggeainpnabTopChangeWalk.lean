/-
  What haywaintop.TopChange returns: true, for all changes, in whatever memory; nothing that was there is changed.
-/
import Derived.Test.YtcaopggeainpnabChgText
import Derived.Test.YtcaopggeainpnabChgLight
import Derived.Test.YtcaopggeainpnabChgRise
import Derived.Test.YtcaopggeainpnabChgPut
namespace Go.Proofs.Ytcaopggeainpnab
open Go.RowKit Go.Joins

/-- changes that a slice holds, or none -/
def heldCh (w : World) (ao : Option Addr) (l : List Chg) : Prop := l = [] ∨ ∃ b off, ao = some ⟨b, off, none⟩ ∧ chgsAt w b off l
theorem heldCh_on {w w' : World} {ao : Option Addr} {l : List Chg} (hb : Below w.heap.size w w') (h : heldCh w ao l) : heldCh w' ao l := by
  rcases h with h | ⟨b, off, h, k⟩
  · exact .inl h
  · exact .inr ⟨b, off, h, chgsAt_on hb k⟩
theorem light_held (l : List Chg) (n cap : Nat) (ao : Option Addr) (w : World) (hl : heldCh w ao l) (hm : n ≤ 1000) :
    Calls Try.prog 13 #[.slice ao l.length cap, .int .i64 n] w fun e w' => e = .returned (.bool (lightChgs l n)) ∧ w' = w := by
  rcases hl with rfl | ⟨b, off, rfl, h⟩
  · exact lightChgs_nil _ _ _ _
  · exact lightChgs_some l n b off cap w h hm
theorem chgsAt_two (w : World) (g : Nat) (a b : Chg) (t : TypeId) (h : w.heap[g]? = some (.cells #[.string a.key, .string a.val, .bool a.gone, .string b.key, .string b.val, .bool b.gone] t)) : chgsAt w g 0 [a, b] := by
  intro i hi
  have e : i = 0 ∨ i = 1 := by simp at hi; omega
  rcases e with rfl | rfl <;> simp [World.cell?, h]
theorem light_two (W : World) (a b : Chg) :
    Calls Try.prog 13 #[.slice (some ⟨W.heap.size, 0, none⟩) 2 2, .int .i64 2] (W.alloc (.cells #[.string a.key, .string a.val, .bool a.gone, .string b.key, .string b.val, .bool b.gone] 35)) fun e w' => e = .returned (.bool (lightChgs [a, b] 2)) ∧ Below W.heap.size W w' :=
  (lightChgs_some [a, b] 2 W.heap.size 0 2 _ (chgsAt_two _ _ a b 35 (Go.heap_alloc_new _ _)) (by omega)).mono fun _ _ h => ⟨h.1, by rw [h.2]; exact below_alloc1 _ _⟩

def oneC : Chg := ⟨⟨#[116, 47, 97]⟩, ⟨#[]⟩, true⟩
theorem one_fault : chgFault oneC = 0 := by
  have hk : keyL oneC.key.data.toList = true := by decide
  unfold chgFault
  rw [hk]
  simp [oneC, Lib.toList_data]
  rfl
theorem one_bytes (w : World) : Calls Try.prog 12 #[.agg #[.string ⟨#[116, 47, 97]⟩, .string ⟨#[]⟩, .bool true]] w fun e w' => e = .returned (.tuple #[.string ⟨#[1, 3, 116, 47, 97]⟩, .nilIface]) ∧ Below w.heap.size w w' :=
  (chg_bytes oneC w (by decide) (by decide) 0 one_fault).mono fun _ _ h => ⟨h.1.trans rfl, h.2⟩

/-- a list of changes that Put has made, or nil -/
def rowCh (w : World) (v : Value) (l : List Chg) : Prop := (v = .slice none 0 0 ∧ l = []) ∨ ∃ g cap, v = .slice (some ⟨g, 0, none⟩) l.length cap ∧ l.length ≤ cap ∧ cap ≤ 9223372036854775807 ∧ chgsAt w g 0 l
theorem rowCh_on {w w' : World} {v : Value} {l : List Chg} (hb : Below w.heap.size w w') (h : rowCh w v l) : rowCh w' v l := by
  rcases h with h | ⟨g, cap, h1, h2, h3, h4⟩
  · exact .inl h
  · exact .inr ⟨g, cap, h1, h2, h3, chgsAt_on hb h4⟩
theorem row_of_own {w : World} {B : Nat} {v : Value} {l : List Chg} (h : ownCh w B v l) (hn : 0 < l.length) : rowCh w v l := by
  obtain ⟨g, cap, hv, _, hc⟩ := own_chgs h hn
  rcases h.2 with ⟨_, h0⟩ | ⟨g2, cap2, cur, hv2, _, _, k1, k2, _, _⟩
  · omega
  · refine .inr ⟨g, cap, hv, ?_, ?_, hc⟩
    · rw [hv] at hv2; cases hv2; exact k1
    · rw [hv] at hv2; cases hv2; exact k2
theorem put_row (l : List Chg) (c : Chg) (v : Value) (w : World) (hv : rowCh w v l) (hn : l.length ≤ 1000) :
    Calls Try.prog 15 #[v, .agg #[.string c.key, .string c.val, .bool c.gone]] w fun e w' => ∃ u, e = .returned u ∧ rowCh w' u (insL l c) ∧ Below w.heap.size w w' := by
  rcases hv with ⟨rfl, rfl⟩ | ⟨g, cap, rfl, h1, h2, h3⟩
  · refine (put_nil c w).mono ?_
    rintro e w' ⟨u, rfl, ho, hb⟩
    exact ⟨u, rfl, row_of_own ho (Nat.zero_lt_succ _), hb⟩
  · refine (put_some l g 0 cap c w h3 h1 h2 hn).mono ?_
    rintro e w' ⟨u, rfl, ho, hb⟩
    rw [putL_ins] at ho
    exact ⟨u, rfl, row_of_own ho (ins_some l c), hb⟩
theorem find_row (l : List Chg) (c : Chg) (v : Value) (w : World) (hv : rowCh w v (insL l c)) (hn : (insL l c).length ≤ 1000) :
    Calls Try.prog 16 #[v, .string c.key] w fun e w' => e = .returned (.tuple #[.agg #[.string c.key, .string c.val, .bool c.gone], .bool true]) ∧ Below w.heap.size w w' := by
  have h0 := ins_some l c
  obtain ⟨hf, hp⟩ := ins_found l c
  rcases hv with ⟨rfl, h⟩ | ⟨g, cap, rfl, h1, h2, h3⟩
  · rw [h] at h0; simp at h0
  · obtain ⟨hlt, he⟩ := List.getElem?_eq_some_iff.1 hp
    have := find_some (insL l c) g 0 cap c.key w h3 hn _ rfl hf hlt
    rwa [he] at this
theorem same_row (l : List Chg) (v u : Value) (w : World) (hv : rowCh w v l) (hu : rowCh w u l) (h0 : 0 < l.length) (hn : l.length ≤ 1000) :
    Calls Try.prog 17 #[v, u] w fun e w' => e = .returned (.bool true) ∧ Below w.heap.size w w' := by
  rcases hv with ⟨rfl, h⟩ | ⟨g, cap, rfl, h1, h2, h3⟩
  · rw [h] at h0; simp at h0
  · rcases hu with ⟨rfl, h⟩ | ⟨g', cap', rfl, h1', h2', h3'⟩
    · rw [h] at h0; simp at h0
    · exact sameChgs l g 0 cap g' 0 cap' w h3 h3' hn

set_option maxHeartbeats 4000000 in
theorem topChange_heavy (l : List Chg) (a b : Chg) (cap : Nat) (ao : Option Addr) (w : World) (hl : heldCh w ao l) (hh : lightChgs l 30 = false ∨ lightChgs l 30 = true ∧ lightChgs [a, b] 2 = false) :
    Calls Try.prog 4 #[.slice ao l.length cap, .agg #[.string a.key, .string a.val, .bool a.gone], .agg #[.string b.key, .string b.val, .bool b.gone]] w fun e w' => e = .returned (.bool true) ∧ Below w.heap.size w w' := by
  have hB := below_alloc2 w (Obj.cells #[Value.string a.key, Value.string a.val, Value.bool a.gone] 35) (Obj.cells #[Value.string b.key, Value.string b.val, Value.bool b.gone] 35)
  have a0 : ((w.alloc (Obj.cells #[Value.string a.key, Value.string a.val, Value.bool a.gone] 35)).alloc (Obj.cells #[Value.string b.key, Value.string b.val, Value.bool b.gone] 35)).cell? ⟨w.heap.size, 0, none⟩ = some (.string a.key) := by simp
  have a1 : ((w.alloc (Obj.cells #[Value.string a.key, Value.string a.val, Value.bool a.gone] 35)).alloc (Obj.cells #[Value.string b.key, Value.string b.val, Value.bool b.gone] 35)).cell? ⟨w.heap.size, 1, none⟩ = some (.string a.val) := by simp
  have a2 : ((w.alloc (Obj.cells #[Value.string a.key, Value.string a.val, Value.bool a.gone] 35)).alloc (Obj.cells #[Value.string b.key, Value.string b.val, Value.bool b.gone] 35)).cell? ⟨w.heap.size, 2, none⟩ = some (.bool a.gone) := by simp
  have b0 : ((w.alloc (Obj.cells #[Value.string a.key, Value.string a.val, Value.bool a.gone] 35)).alloc (Obj.cells #[Value.string b.key, Value.string b.val, Value.bool b.gone] 35)).cell? ⟨w.heap.size + 1, 0, none⟩ = some (.string b.key) := by simp
  have b1 : ((w.alloc (Obj.cells #[Value.string a.key, Value.string a.val, Value.bool a.gone] 35)).alloc (Obj.cells #[Value.string b.key, Value.string b.val, Value.bool b.gone] 35)).cell? ⟨w.heap.size + 1, 1, none⟩ = some (.string b.val) := by simp
  have b2 : ((w.alloc (Obj.cells #[Value.string a.key, Value.string a.val, Value.bool a.gone] 35)).alloc (Obj.cells #[Value.string b.key, Value.string b.val, Value.bool b.gone] 35)).cell? ⟨w.heap.size + 1, 2, none⟩ = some (.bool b.gone) := by simp
  have HL := hide hl
  clear hl
  rcases hh with h | ⟨h, h'⟩
  all_goals
    go_enter Try.func4, Try.ntmps4
    go_wp2_with (first
      | (go_at_call 12; refine (one_bytes _).mono ?_; rintro e w1 ⟨rfl, hb⟩; replace hB := below_on hB (Nat.le_refl _) hb; replace a0 := cell_on hb a0; replace a1 := cell_on hb a1; replace a2 := cell_on hb a2; replace b0 := cell_on hb b0; replace b1 := cell_on hb b1; replace b2 := cell_on hb b2; clear hb)
      | (go_at_call_of 13 (Value.slice ao l.length cap); refine (light_held l 30 cap ao _ (heldCh_on hB HL.out) (by omega)).mono ?_; rintro e w2 ⟨rfl, rfl⟩)
      | (go_at_call 13; refine (light_two _ a b).mono ?_; rintro e w1 ⟨rfl, hb⟩; replace hB := below_on hB (Nat.le_refl _) hb; replace a0 := cell_on hb a0; replace a1 := cell_on hb a1; replace a2 := cell_on hb a2; replace b0 := cell_on hb b0; replace b1 := cell_on hb b1; replace b2 := cell_on hb b2; clear hb))
    all_goals
      go_ret
      exact ⟨rfl, hB⟩
end Go.Proofs.Ytcaopggeainpnab
