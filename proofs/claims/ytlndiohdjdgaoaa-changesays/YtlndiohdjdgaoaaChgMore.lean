/-
  What change.Find returns where there is none; what change.Put, haywainref.PutChange and haywainlaw.rising return of an empty list.
-/
import Derived.Test.YtlndiohdjdgaoaaRefPut
import Derived.Test.YtlndiohdjdgaoaaChgPut
import Derived.Test.YtlndiohdjdgaoaaChgLight
namespace Go.Proofs.Ytlndiohdjdgaoaa
open Go.RowKit Go.Joins

set_option maxHeartbeats 1000000 in
theorem find_none (l : List Chg) (b off cap : Nat) (key : ByteArray) (w : World) (hl : chgsAt w b off l) (hn : l.length ≤ 1000) (hf : foundL l key = false) :
    Calls Try.prog 27 #[.slice (some ⟨b, off, none⟩) l.length cap, .string key] w fun e w' =>
      e = .returned (.tuple #[.agg #[.string ⟨#[]⟩, .string ⟨#[]⟩, .bool false], .bool false]) ∧ Below w.heap.size w w' := by
  have hB := below_alloc1 w (Obj.cells #[Value.string ⟨#[]⟩, Value.string ⟨#[]⟩, Value.bool false] 36)
  have fz := frozen_new w #[Value.string ⟨#[]⟩, Value.string ⟨#[]⟩, Value.bool false] 36
  have r0 : (w.alloc (Obj.cells #[Value.string ⟨#[]⟩, Value.string ⟨#[]⟩, Value.bool false] 36)).cell? ⟨w.heap.size, 0, none⟩ = some (.string ⟨#[]⟩) := by simp
  have r1 : (w.alloc (Obj.cells #[Value.string ⟨#[]⟩, Value.string ⟨#[]⟩, Value.bool false] 36)).cell? ⟨w.heap.size, 1, none⟩ = some (.string ⟨#[]⟩) := by simp
  have r2 : (w.alloc (Obj.cells #[Value.string ⟨#[]⟩, Value.string ⟨#[]⟩, Value.bool false] 36)).cell? ⟨w.heap.size, 2, none⟩ = some (.bool false) := by simp
  have h0 : w.heap.size < (w.alloc (Obj.cells #[Value.string ⟨#[]⟩, Value.string ⟨#[]⟩, Value.bool false] 36)).heap.size := by simp
  have HP := fun w' (h : Below w.heap.size w w') => hide (place_some l b off cap key w' (chgsAt_on h hl) (by omega))
  rw [hf] at HP
  clear hf
  generalize placeL l key = p at HP
  go_enter Try.func27, Try.ntmps27
  go_wp2_with fail
  refine ((HP _ hB).out).mono ?_
  rintro e w1 ⟨rfl, hb⟩
  replace hB := below_on hB (Nat.le_refl _) hb
  replace fz := fun j => frozen_on hb h0 (fz j)
  replace r0 := cell_on hb r0
  replace r1 := cell_on hb r1
  replace r2 := cell_on hb r2
  clear hb h0
  go_wp2
  exact bodyPost_ret (v := .tuple #[.agg #[.string ⟨#[]⟩, .string ⟨#[]⟩, .bool false], .bool false]) (by simp [results, Try.results27, go_sem, r0, r1, r2]) rfl ⟨rfl, ((hB.setCell (Nat.le_refl _) _).setCell (Nat.le_refl _) _).setCell (Nat.le_refl _) _⟩

set_option maxHeartbeats 1000000 in
theorem find_bare (ao : Option Addr) (cap : Nat) (key : ByteArray) (w : World) :
    Calls Try.prog 27 #[.slice ao 0 cap, .string key] w fun e w' =>
      e = .returned (.tuple #[.agg #[.string ⟨#[]⟩, .string ⟨#[]⟩, .bool false], .bool false]) ∧ Below w.heap.size w w' := by
  have hB := below_alloc1 w (Obj.cells #[Value.string ⟨#[]⟩, Value.string ⟨#[]⟩, Value.bool false] 36)
  have fz := frozen_new w #[Value.string ⟨#[]⟩, Value.string ⟨#[]⟩, Value.bool false] 36
  have r0 : (w.alloc (Obj.cells #[Value.string ⟨#[]⟩, Value.string ⟨#[]⟩, Value.bool false] 36)).cell? ⟨w.heap.size, 0, none⟩ = some (.string ⟨#[]⟩) := by simp
  have r1 : (w.alloc (Obj.cells #[Value.string ⟨#[]⟩, Value.string ⟨#[]⟩, Value.bool false] 36)).cell? ⟨w.heap.size, 1, none⟩ = some (.string ⟨#[]⟩) := by simp
  have r2 : (w.alloc (Obj.cells #[Value.string ⟨#[]⟩, Value.string ⟨#[]⟩, Value.bool false] 36)).cell? ⟨w.heap.size, 2, none⟩ = some (.bool false) := by simp
  have h0 : w.heap.size < (w.alloc (Obj.cells #[Value.string ⟨#[]⟩, Value.string ⟨#[]⟩, Value.bool false] 36)).heap.size := by simp
  have HP := fun w' (_ : True) => hide (place_nil ao cap key w')
  go_enter Try.func27, Try.ntmps27
  go_wp2_with fail
  refine ((HP _ trivial).out).mono ?_
  rintro e w1 ⟨rfl, hb⟩
  replace hB := below_on hB (Nat.le_refl _) hb
  replace fz := fun j => frozen_on hb h0 (fz j)
  replace r0 := cell_on hb r0
  replace r1 := cell_on hb r1
  replace r2 := cell_on hb r2
  clear hb h0
  go_wp2
  exact bodyPost_ret (v := .tuple #[.agg #[.string ⟨#[]⟩, .string ⟨#[]⟩, .bool false], .bool false]) (by simp [results, Try.results27, go_sem, r0, r1, r2]) rfl ⟨rfl, ((hB.setCell (Nat.le_refl _) _).setCell (Nat.le_refl _) _).setCell (Nat.le_refl _) _⟩

set_option maxHeartbeats 1000000 in
theorem rising_bare (ao : Option Addr) (cap : Nat) (w : World) :
    Calls Try.prog 26 #[.slice ao 0 cap] w fun e w' => e = .returned (.bool true) ∧ Below w.heap.size w w' := by
  go_enter Try.func26, Try.ntmps26
  go_wp2
  refine wp_loop_rounds 1 ?_
  rw [rounds_succ]
  go_wp2
  go_ret
  exact ⟨rfl, Below.refl _ _⟩
set_option maxHeartbeats 1000000 in
theorem rput_bare (ao : Option Addr) (cap : Nat) (c : Chg) (w : World) :
    Calls Try.prog 30 #[.slice ao 0 cap, .agg #[.string c.key, .string c.val, .bool c.gone]] w fun e w' => ∃ v, e = .returned v ∧ ownCh w' w.heap.size v [c] ∧ Below w.heap.size w w' := by
  obtain ⟨i0, hi0, hz0, hs0, hb0⟩ := chg_info
  have hB := below_alloc1 w (Obj.cells #[Value.string c.key, Value.string c.val, Value.bool c.gone] 36)
  have hown : ownCh (w.alloc (Obj.cells #[Value.string c.key, Value.string c.val, Value.bool c.gone] 36)) w.heap.size (.slice none 0 0) [] := World.ownsRow_nil _ _ _ _
  have a0 : (w.alloc (Obj.cells #[Value.string c.key, Value.string c.val, Value.bool c.gone] 36)).cell? ⟨w.heap.size, 0, none⟩ = some (.string c.key) := by simp
  have a1 : (w.alloc (Obj.cells #[Value.string c.key, Value.string c.val, Value.bool c.gone] 36)).cell? ⟨w.heap.size, 1, none⟩ = some (.string c.val) := by simp
  have a2 : (w.alloc (Obj.cells #[Value.string c.key, Value.string c.val, Value.bool c.gone] 36)).cell? ⟨w.heap.size, 2, none⟩ = some (.bool c.gone) := by simp
  go_enter Try.func30, Try.ntmps30
  go_wp2
  generalize (w.alloc (Obj.cells #[Value.string c.key, Value.string c.val, Value.bool c.gone] 36)) = W0 at *
  refine wp_loop_rounds 1 ?_
  rw [rounds_succ]
  go_wp2_with (at_builtin; refine wp_append1 rfl _ _ 34 rfl w.heap.size 36 i0 _ 3 40 Try.underlying34 hi0 hz0 hs0 hb0 rfl (by omega) _ (cellsC c) rfl (cellsC_one _) _ 0 (cellsL []) hown rfl rfl (by omega) (by omega) hB.size ?_; intro v1 w1 ho1 hb1; replace hB := hb1 w hB; replace hown : ownCh w1 w.heap.size v1 [c] := own_snoc (l := []) ho1; clear ho1 hb1)
  go_ret
  exact ⟨_, rfl, hown, hB⟩
theorem src_bare (w : World) (ao : Option Addr) : chSrc w ao 0 0 (cellsL []) := by
  cases ao with
  | none => exact src_none w
  | some a => exact src_empty w a 0
set_option maxHeartbeats 2000000 in
theorem concat_bare (W : World) (a : Addr) (c : Chg) :
    Calls Try.prog 39 #[.slice (some ⟨W.heap.size + 1, 0, none⟩) 3 3]
      ((W.alloc (Obj.cells #[Value.string c.key, Value.string c.val, Value.bool c.gone] 36)).alloc (Obj.cells #[Value.slice (some a) 0 0, Value.slice (some ⟨W.heap.size, 0, none⟩) 1 1, Value.slice (some a) 0 0] 34)).drew fun e w' =>
        ∃ v, e = .returned v ∧ ownCh w' W.heap.size v [c] ∧ Below W.heap.size W w' := by
  have hB := (below_alloc2 W (Obj.cells #[Value.string c.key, Value.string c.val, Value.bool c.gone] 36) (Obj.cells #[Value.slice (some a) 0 0, Value.slice (some ⟨W.heap.size, 0, none⟩) 1 1, Value.slice (some a) 0 0] 34)).drew
  generalize hX : ((W.alloc (Obj.cells #[Value.string c.key, Value.string c.val, Value.bool c.gone] 36)).alloc (Obj.cells #[Value.slice (some a) 0 0, Value.slice (some ⟨W.heap.size, 0, none⟩) 1 1, Value.slice (some a) 0 0] 34)).drew = X at hB ⊢
  have g0 : X.cell? ⟨W.heap.size + 1, 0, none⟩ = some (.slice (some a) 0 0) := by rw [← hX]; simp
  have g1 : X.cell? ⟨W.heap.size + 1, 1, none⟩ = some (.slice (some ⟨W.heap.size, 0, none⟩) 1 1) := by rw [← hX]; simp
  have g2 : X.cell? ⟨W.heap.size + 1, 2, none⟩ = some (.slice (some a) 0 0) := by rw [← hX]; simp
  have k1 : chgsAt X W.heap.size 0 [c] := by
    intro i hi
    have e : i = 0 := by simp at hi; omega
    subst e
    rw [← hX]
    simp
  refine (concat_any (W.heap.size + 1) _ _ _ 0 1 0 _ _ _ _ _ _ X g0 g1 g2 (src_bare X _) (src_of k1 1) (src_bare X _) (by omega) (by omega)).mono ?_
  rintro e w' ⟨v, rfl, ho, hb⟩
  exact ⟨v, rfl, ownsRow_le ho hB.size, below_on hB (Nat.le_refl _) hb⟩
attribute [local go_sem ↓] Go.wp_at_zero Go.wp_at_succ
set_option maxHeartbeats 4000000 in
theorem put_bare (a : Addr) (c : Chg) (w : World) :
    Calls Try.prog 29 #[.slice (some a) 0 0, .agg #[.string c.key, .string c.val, .bool c.gone]] w fun e w' =>
      ∃ v, e = .returned v ∧ ownCh w' w.heap.size v [c] ∧ Below w.heap.size w w' := by
  have hB := below_alloc1 w (Obj.cells #[Value.string c.key, Value.string c.val, Value.bool c.gone] 36)
  have a0 : (w.alloc (Obj.cells #[Value.string c.key, Value.string c.val, Value.bool c.gone] 36)).cell? ⟨w.heap.size, 0, none⟩ = some (.string c.key) := by simp
  have a1 : (w.alloc (Obj.cells #[Value.string c.key, Value.string c.val, Value.bool c.gone] 36)).cell? ⟨w.heap.size, 1, none⟩ = some (.string c.val) := by simp
  have a2 : (w.alloc (Obj.cells #[Value.string c.key, Value.string c.val, Value.bool c.gone] 36)).cell? ⟨w.heap.size, 2, none⟩ = some (.bool c.gone) := by simp
  have HP := fun w' => hide (place_nil (some a) 0 c.key w')
  go_enter Try.func29, Try.ntmps29
  go_wp2_with fail
  refine ((HP _).out).mono ?_
  rintro e w1 ⟨rfl, hb⟩
  replace hB := below_on hB (Nat.le_refl _) hb
  replace a0 := cell_on hb a0
  replace a1 := cell_on hb a1
  replace a2 := cell_on hb a2
  have m0 := World.new_ne w1 _ a0
  have m1 := World.new_ne w1 _ a1
  have m2 := World.new_ne w1 _ a2
  have HC := hide (concat_bare w1 a c)
  go_wp2
  go_region_held3 (fun w' => w'.cell? ⟨w.heap.size, 0, none⟩ = some (.string c.key) ∧ w'.cell? ⟨w.heap.size, 1, none⟩ = some (.string c.val) ∧ w'.cell? ⟨w.heap.size, 2, none⟩ = some (.bool c.gone)) (first | go_keep | exact ⟨cell_on hb2 a0, cell_on hb2 a1, cell_on hb2 a2⟩) (first | (go_at_call 39; refine HC.out.mono ?_; rintro e w2 ⟨v, rfl, ho, hb2⟩; dsimp only))
  go_wp2
  all_goals
    go_ret
    exact ⟨v, rfl, ownCh_le ho hB.size, below_on hB (Nat.le_refl _) hb2⟩
end Go.Proofs.Ytlndiohdjdgaoaa
