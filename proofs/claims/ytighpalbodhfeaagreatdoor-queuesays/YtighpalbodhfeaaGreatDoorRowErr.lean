/-
  What strconv.Atoi returns of every text that isn't great: some number, some error; where the library's two errors are laid. Nothing that was there is changed.
-/
import Derived.Test.YtighpalbodhfeaaGreatDoorCutWalk
import Derived.Test.YtighpalbodhfeaaGreatDoorShelfB
import Derived.Test.YtighpalbodhfeaaGreatDoorBase
import Derived.Test.YtighpalbodhfeaaGreatDoorShelfA
import Derived.Test.YtighpalbodhfeaaGreatDoorKeyB
namespace Go.Proofs.YtighpalbodhfeaaGreatDoor
open Go.RowKit Go.Joins

def ErrIs (w : World) (name : String) : Prop := ∃ tp p, w.var? Tryz.prog name = some #[.iface tp p]
/-- the library's table and errors, as the row lists them -/
structure Laid (w : World) : Prop where
  tab : Lib.TabIs Tryz.prog w "internal/strconv.uint64pow10" .u64 Lib.pow10Tab
  syn : ErrIs w "strconv.ErrSyntax"
  rng : ErrIs w "strconv.ErrRange"
theorem syn_named : Tryz.prog.globalNamed "strconv.ErrSyntax" = some 1 := by kernel_rfl
theorem rng_named : Tryz.prog.globalNamed "strconv.ErrRange" = some 2 := by kernel_rfl
theorem laid_on {w w' : World} (h : Laid w) (hb : Below w.heap.size w w') : Laid w' := by
  obtain ⟨t, ⟨a, b, hs⟩, ⟨c, d, hr⟩⟩ := h
  exact ⟨tab_on t hb, ⟨a, b, var_stays syn_named hs hb (Nat.le_refl _)⟩, ⟨c, d, var_stays rng_named hr hb (Nat.le_refl _)⟩⟩
theorem atoi_total (s : ByteArray) (hs : s.size ≤ 1000) : ∃ x : Int, ∀ w, Laid w →
    Calls Tryz.prog 122 #[.string s] w fun e w' => (∃ ev, e = .returned (.tuple #[.int .i64 x, ev])) ∧ Below w.heap.size w w' := by
  cases h : Lib.atoiAll s.data.toList with
  | ok v =>
    refine ⟨v, fun w _ => (Tryz.strconv_Atoi_ok s (by omega) v h w).mono ?_⟩
    rintro e w' ⟨he, hw⟩
    refine ⟨⟨_, he⟩, ?_⟩
    rcases hw with rfl | ⟨t, rfl⟩
    · exact Below.refl _ _
    · exact below_bytesWorld _ w 5 t (Nat.le_refl _)
  | «syntax» =>
    refine ⟨0, fun w hL => ?_⟩
    obtain ⟨tp, p, hv⟩ := hL.syn
    refine (Tryz.strconv_Atoi_syntax_var s (by omega) h tp p w hv).mono ?_
    rintro e w' ⟨N, he, _, _, hb⟩
    exact ⟨⟨_, he⟩, hb⟩
  | range =>
    refine ⟨Lib.atoiSat s.data.toList, fun w hL => ?_⟩
    obtain ⟨tp, p, hv⟩ := hL.rng
    refine (Tryz.strconv_Atoi_range_var s (by omega) h tp p w hv).mono ?_
    rintro e w' ⟨N, he, _, _, hb⟩
    exact ⟨⟨_, he⟩, hb⟩
/-- the fields of every text: something -/
theorem split_total (s : ByteArray) (hs : s.size ≤ 1000) : ∃ (x y : Int) (r : ByteArray), r.size ≤ 1000 ∧ ∀ w, Laid w →
    Calls Tryz.prog 106 #[.string s] w fun e w' => e = .returned (.tuple #[.int .i64 x, .int .i64 y, .string r]) ∧ Below w.heap.size w w' := by
  have cut : ∀ z : ByteArray, z.size ≤ 1000 → ∃ (f b : ByteArray) (c : Bool), f.size ≤ 1000 ∧ b.size ≤ 1000 ∧ cutV z (Lib.indexByte z.data.toList 32) = .tuple #[.string f, .string b, .bool c] := by
    intro z hz
    unfold cutV
    split
    · refine ⟨_, _, _, ?_, ?_, rfl⟩
      · rw [Lib.size_eq, takeB_data, List.length_take]; have := len_data z; omega
      · rw [Lib.size_eq, dropB_data, List.length_drop]; have := len_data z; omega
    · exact ⟨_, _, _, hz, Nat.zero_le _, rfl⟩
  obtain ⟨f, b, c1, hf, hb, h1⟩ := cut s hs
  obtain ⟨g, r, c2, hg, hr, h2⟩ := cut b hb
  obtain ⟨x, hx⟩ := atoi_total f hf
  obtain ⟨y, hy⟩ := atoi_total g hg
  exact ⟨x, y, r, hr, fun w hL => split_of s f b g r c1 c2 x y w (by unfold maxLen; omega) (by unfold maxLen; omega) h1 h2 (fun w' hb' => hx w' (laid_on hL hb')) (fun w' hb' => hy w' (laid_on hL hb'))⟩
end Go.Proofs.YtighpalbodhfeaaGreatDoor

/-
  What haywainlaw.same returns of an error of package api and a number. It changes nothing.
-/
namespace Go.Proofs.YtighpalbodhfeaaGreatDoor
open Go.RowKit Go.Joins

set_option maxHeartbeats 400000 in
theorem same_nil (f : Int) (w : World) :
    Calls Tryz.prog 14 #[.nilIface, .int .i64 f] w fun e w' => e = .returned (.bool (f == 0)) ∧ w' = w := by
  go_enter Tryz.func14, Tryz.ntmps14
  go_wp2
  go_ret
  exact ⟨rfl, rfl⟩
theorem assert_errno (v : Value) (W : World) : (Instr.typeAssert (.iface 108 v) 43 108 true).run Tryz.prog W = .ok (.tuple #[v, .bool true]) W := by kernel_rfl
theorem err_not_nil (u : TypeId) (v : Value) (W : World) : (binOp .eql 43 (.iface u v) .nilIface).run Tryz.prog W = .ok (.bool false) W := by kernel_rfl
theorem err_neq_nil (u : TypeId) (v : Value) (W : World) : (binOp .neq 43 (.iface u v) .nilIface).run Tryz.prog W = .ok (.bool true) W := by kernel_rfl
theorem nil_neq_nil (W : World) : (binOp .neq 43 .nilIface .nilIface).run Tryz.prog W = .ok (.bool false) W := by kernel_rfl
set_option maxHeartbeats 400000 in
theorem same_err (n f : Int) (w : World) (hf : 0 < f) :
    Calls Tryz.prog 14 #[.iface 108 (.int .i64 n), .int .i64 f] w fun e w' => e = .returned (.bool (n == f)) ∧ w' = w := by
  have h1 := assert_errno (.int .i64 n)
  have h2 := err_not_nil 108 (.int .i64 n)
  go_enter Tryz.func14, Tryz.ntmps14
  go_wp2
  all_goals
    go_ret
    exact ⟨rfl, rfl⟩
/-- an error of package api by its number, held against that number -/
theorem same_of (n : Nat) (v : Value) (w : World) (hv : v = if n = 0 then .nilIface else .iface 108 (.int .i64 n)) :
    Calls Tryz.prog 14 #[v, .int .i64 n] w fun e w' => e = .returned (.bool true) ∧ w' = w := by
  by_cases h : n = 0
  · subst h
    rw [if_pos rfl] at hv
    subst hv
    exact same_nil 0 w
  · rw [if_neg h] at hv
    subst hv
    refine (same_err n n w (by omega)).mono fun e w' ⟨he, hw⟩ => ⟨?_, hw⟩
    rw [he]; simp

end Go.Proofs.YtighpalbodhfeaaGreatDoor

/-
  What package row's ParseQueue and ParseMessage return of a text that QueueText, or MessageText, has made; nothing that was there is changed.
-/
namespace Go.Proofs.YtighpalbodhfeaaGreatDoor
open Go.RowKit Go.Joins

theorem atoi_any (n : Nat) (w : World) (hn : n ≤ 9999999) :
    Calls Tryz.prog 122 #[.string (decB n)] w fun e w' => (∃ ev, e = .returned (.tuple #[.int .i64 n, ev])) ∧ Below w.heap.size w w' :=
  (Tryz.strconv_Atoi (decB n) n (by rw [Lib.size_eq, decB_l]; have := len_dec_lt n hn; omega) (by rw [decB_l]; exact atoi_dec n) w).mono fun e w' ⟨he, t, hw⟩ =>
    ⟨⟨_, he⟩, by rw [hw]; exact below_bytesWorld _ w 5 t (Nat.le_refl _)⟩
theorem split_join (a b : Nat) (r : ByteArray) (w : World) (ha : a ≤ 9999999) (hb : b ≤ 9999999) (hr : r.size ≤ 1000) :
    Calls Tryz.prog 106 #[.string (joinB a b r)] w fun e w' => e = .returned (.tuple #[.int .i64 a, .int .i64 b, .string r]) ∧ Below w.heap.size w w' :=
  have hs := join_size a b r ha hb
  split_of (joinB a b r) (decB a) (tailB b r) (decB b) r true true a b w (by unfold maxLen; omega) (by unfold maxLen; omega) (cut_join a b r) (cut_tail b r)
    (fun w' _ => atoi_any a w' ha) (fun w' _ => atoi_any b w' hb)

set_option maxHeartbeats 2000000 in
theorem parseQueue_join (n t : Nat) (d : ByteArray) (w : World) (hn : n ≤ 999999) (ht : 1 ≤ t) (ht' : t ≤ 9) (hd : d.toList.isEmpty = true ∨ (d.toList.isEmpty = false ∧ nameL d.data.toList = true)) (hs : d.size ≤ 1000) (htab : Lib.TabIs Tryz.prog w "internal/strconv.uint64pow10" .u64 Lib.pow10Tab) :
    Calls Tryz.prog 66 #[.string (joinB n t d)] w fun e w' => e = .returned (.tuple #[.agg #[.int .i64 n, .int .i64 t, .string d], .nilIface]) ∧ Below w.heap.size w w' := by
  have k1 := fun w => split_join n t d w (by omega) (by omega) hs
  have k2 := fun w => queueText_ok n t d w hn ht ht' hd hs
  have K1 := hide k1
  have K2 := hide k2
  have HT := hide htab
  have n1 := nil_neq_nil
  clear k1 k2 htab hd
  generalize joinB n t d = s at *
  have hB := below_alloc1 w (Obj.cells #[Value.int .i64 0, Value.int .i64 0, Value.string ⟨#[]⟩] 76)
  have fz := frozen_new w #[Value.int .i64 0, Value.int .i64 0, Value.string ⟨#[]⟩] 76
  have r0 : (w.alloc (Obj.cells #[Value.int .i64 0, Value.int .i64 0, Value.string ⟨#[]⟩] 76)).cell? ⟨w.heap.size, 0, none⟩ = some (Value.int .i64 0) := by simp
  have r1 : (w.alloc (Obj.cells #[Value.int .i64 0, Value.int .i64 0, Value.string ⟨#[]⟩] 76)).cell? ⟨w.heap.size, 1, none⟩ = some (Value.int .i64 0) := by simp
  have r2 : (w.alloc (Obj.cells #[Value.int .i64 0, Value.int .i64 0, Value.string ⟨#[]⟩] 76)).cell? ⟨w.heap.size, 2, none⟩ = some (Value.string ⟨#[]⟩) := by simp
  have hlt : w.heap.size < (w.alloc (Obj.cells #[Value.int .i64 0, Value.int .i64 0, Value.string ⟨#[]⟩] 76)).heap.size := by simp
  go_enter Tryz.func66, Tryz.ntmps66
  go_wp2_with fail
  refine (K1.out _).mono ?_
  rintro e w1 ⟨rfl, hb1⟩
  replace hB := below_on hB (Nat.le_refl _) hb1
  replace fz := fun j => frozen_on hb1 hlt (fz j)
  replace r0 := cell_on hb1 r0
  replace r1 := cell_on hb1 r1
  replace r2 := cell_on hb1 r2
  replace hlt := Nat.lt_of_lt_of_le hlt hb1.size
  have hb2 := below_alloc1 w1 (Obj.cells #[Value.int .i64 n, Value.int .i64 t, Value.string d] 76)
  replace hB := below_on hB (Nat.le_refl _) hb2
  replace fz := fun j => frozen_on hb2 hlt (fz j)
  replace r0 := cell_on hb2 r0
  replace r1 := cell_on hb2 r1
  replace r2 := cell_on hb2 r2
  have q0 : (w1.alloc (Obj.cells #[Value.int .i64 n, Value.int .i64 t, Value.string d] 76)).cell? ⟨w1.heap.size, 0, none⟩ = some (Value.int .i64 n) := by simp
  have q1 : (w1.alloc (Obj.cells #[Value.int .i64 n, Value.int .i64 t, Value.string d] 76)).cell? ⟨w1.heap.size, 1, none⟩ = some (Value.int .i64 t) := by simp
  have q2 : (w1.alloc (Obj.cells #[Value.int .i64 n, Value.int .i64 t, Value.string d] 76)).cell? ⟨w1.heap.size, 2, none⟩ = some (Value.string d) := by simp
  replace hlt := Nat.lt_of_lt_of_le hlt hb2.size
  go_wp2_with fail
  refine (K2.out _ (tab_on HT.out hB)).mono ?_
  rintro e w2 ⟨rfl, hb3⟩
  replace hB := below_on hB (Nat.le_refl _) hb3
  replace fz := fun j => frozen_on hb3 hlt (fz j)
  replace r0 := cell_on hb3 r0
  replace r1 := cell_on hb3 r1
  replace r2 := cell_on hb3 r2
  replace q0 := cell_on hb3 q0
  replace q1 := cell_on hb3 q1
  replace q2 := cell_on hb3 q2
  clear hb1 hb2 hb3 hlt
  go_wp2
  exact bodyPost_ret (v := .tuple #[.agg #[.int .i64 n, .int .i64 t, .string d], .nilIface]) (by simp [results, Tryz.results66, go_sem, r0, r1, r2]) rfl ⟨rfl, (((hB.setCell (Nat.le_refl _) _).setCell (Nat.le_refl _) _).setCell (Nat.le_refl _) _)⟩

set_option maxHeartbeats 2000000 in
theorem parseMessage_join (k : Int) (t u : Nat) (d : ByteArray) (w : World) (ht : t ≤ 9) (hu : u ≤ 2000000) (hs : d.size ≤ 28) (htab : Lib.TabIs Tryz.prog w "internal/strconv.uint64pow10" .u64 Lib.pow10Tab) :
    Calls Tryz.prog 98 #[.int .i64 k, .string (joinB t u d)] w fun e w' => e = .returned (.tuple #[.agg #[.int .i64 k, .int .i64 t, .int .i64 u, .string d], .nilIface]) ∧ Below w.heap.size w w' := by
  have k1 := fun w => split_join t u d w (by omega) (by omega) (by omega)
  have k2 := fun w => messageText_ok k t u d w ht hu hs
  have K1 := hide k1
  have K2 := hide k2
  have HT := hide htab
  have n1 := nil_neq_nil
  clear k1 k2 htab
  generalize joinB t u d = s at *
  have hB := below_alloc1 w (Obj.cells #[Value.int .i64 0, Value.int .i64 0, Value.int .i64 0, Value.string ⟨#[]⟩] 48)
  have fz := frozen_new w #[Value.int .i64 0, Value.int .i64 0, Value.int .i64 0, Value.string ⟨#[]⟩] 48
  have r0 : (w.alloc (Obj.cells #[Value.int .i64 0, Value.int .i64 0, Value.int .i64 0, Value.string ⟨#[]⟩] 48)).cell? ⟨w.heap.size, 0, none⟩ = some (Value.int .i64 0) := by simp
  have r1 : (w.alloc (Obj.cells #[Value.int .i64 0, Value.int .i64 0, Value.int .i64 0, Value.string ⟨#[]⟩] 48)).cell? ⟨w.heap.size, 1, none⟩ = some (Value.int .i64 0) := by simp
  have r2 : (w.alloc (Obj.cells #[Value.int .i64 0, Value.int .i64 0, Value.int .i64 0, Value.string ⟨#[]⟩] 48)).cell? ⟨w.heap.size, 2, none⟩ = some (Value.int .i64 0) := by simp
  have r3 : (w.alloc (Obj.cells #[Value.int .i64 0, Value.int .i64 0, Value.int .i64 0, Value.string ⟨#[]⟩] 48)).cell? ⟨w.heap.size, 3, none⟩ = some (Value.string ⟨#[]⟩) := by simp
  have hlt : w.heap.size < (w.alloc (Obj.cells #[Value.int .i64 0, Value.int .i64 0, Value.int .i64 0, Value.string ⟨#[]⟩] 48)).heap.size := by simp
  go_enter Tryz.func98, Tryz.ntmps98
  go_wp2_with fail
  refine (K1.out _).mono ?_
  rintro e w1 ⟨rfl, hb1⟩
  replace hB := below_on hB (Nat.le_refl _) hb1
  replace fz := fun j => frozen_on hb1 hlt (fz j)
  replace r0 := cell_on hb1 r0
  replace r1 := cell_on hb1 r1
  replace r2 := cell_on hb1 r2
  replace r3 := cell_on hb1 r3
  replace hlt := Nat.lt_of_lt_of_le hlt hb1.size
  have hb2 := below_alloc1 w1 (Obj.cells #[Value.int .i64 k, Value.int .i64 t, Value.int .i64 u, Value.string d] 48)
  replace hB := below_on hB (Nat.le_refl _) hb2
  replace fz := fun j => frozen_on hb2 hlt (fz j)
  replace r0 := cell_on hb2 r0
  replace r1 := cell_on hb2 r1
  replace r2 := cell_on hb2 r2
  replace r3 := cell_on hb2 r3
  have q0 : (w1.alloc (Obj.cells #[Value.int .i64 k, Value.int .i64 t, Value.int .i64 u, Value.string d] 48)).cell? ⟨w1.heap.size, 0, none⟩ = some (Value.int .i64 k) := by simp
  have q1 : (w1.alloc (Obj.cells #[Value.int .i64 k, Value.int .i64 t, Value.int .i64 u, Value.string d] 48)).cell? ⟨w1.heap.size, 1, none⟩ = some (Value.int .i64 t) := by simp
  have q2 : (w1.alloc (Obj.cells #[Value.int .i64 k, Value.int .i64 t, Value.int .i64 u, Value.string d] 48)).cell? ⟨w1.heap.size, 2, none⟩ = some (Value.int .i64 u) := by simp
  have q3 : (w1.alloc (Obj.cells #[Value.int .i64 k, Value.int .i64 t, Value.int .i64 u, Value.string d] 48)).cell? ⟨w1.heap.size, 3, none⟩ = some (Value.string d) := by simp
  replace hlt := Nat.lt_of_lt_of_le hlt hb2.size
  go_wp2_with fail
  refine (K2.out _ (tab_on HT.out hB)).mono ?_
  rintro e w2 ⟨rfl, hb3⟩
  replace hB := below_on hB (Nat.le_refl _) hb3
  replace fz := fun j => frozen_on hb3 hlt (fz j)
  replace r0 := cell_on hb3 r0
  replace r1 := cell_on hb3 r1
  replace r2 := cell_on hb3 r2
  replace r3 := cell_on hb3 r3
  replace q0 := cell_on hb3 q0
  replace q1 := cell_on hb3 q1
  replace q2 := cell_on hb3 q2
  replace q3 := cell_on hb3 q3
  clear hb1 hb2 hb3 hlt
  go_wp2
  exact bodyPost_ret (v := .tuple #[.agg #[.int .i64 k, .int .i64 t, .int .i64 u, .string d], .nilIface]) (by simp [results, Tryz.results98, go_sem, r0, r1, r2, r3]) rfl ⟨rfl, ((((hB.setCell (Nat.le_refl _) _).setCell (Nat.le_refl _) _).setCell (Nat.le_refl _) _).setCell (Nat.le_refl _) _)⟩
end Go.Proofs.YtighpalbodhfeaaGreatDoor

/-
  What package row's ParseQueue and ParseMessage return of texts that are none; nothing that was there is changed.
-/
namespace Go.Proofs.YtighpalbodhfeaaGreatDoor
open Go.RowKit Go.Joins

set_option maxHeartbeats 2000000 in
theorem parseQueue_err (s : ByteArray) (x y : Int) (r : ByteArray) (c : Int) (w : World) (hL : Laid w)
    (k1 : ∀ w', Laid w' → Calls Tryz.prog 106 #[.string s] w' fun e w'' => e = .returned (.tuple #[.int .i64 x, .int .i64 y, .string r]) ∧ Below w'.heap.size w' w'')
    (k2 : ∀ w', Laid w' → Calls Tryz.prog 92 #[.agg #[.int .i64 x, .int .i64 y, .string r]] w' fun e w'' => e = .returned (.tuple #[.string ⟨#[]⟩, .iface 108 (.int .i64 c)]) ∧ Below w'.heap.size w' w'') :
    Calls Tryz.prog 66 #[.string s] w fun e w' => e = .returned (.tuple #[.agg #[.int .i64 0, .int .i64 0, .string ⟨#[]⟩], .iface 108 (.int .i64 4)]) ∧ Below w.heap.size w w' := by
  have K1 := hide k1
  have K2 := hide k2
  have HT := hide hL
  have n1 := err_neq_nil 108
  clear k1 k2 hL
  have hB := below_alloc1 w (Obj.cells #[Value.int .i64 0, Value.int .i64 0, Value.string ⟨#[]⟩] 76)
  have fz := frozen_new w #[Value.int .i64 0, Value.int .i64 0, Value.string ⟨#[]⟩] 76
  have r0 : (w.alloc (Obj.cells #[Value.int .i64 0, Value.int .i64 0, Value.string ⟨#[]⟩] 76)).cell? ⟨w.heap.size, 0, none⟩ = some (Value.int .i64 0) := by simp
  have r1 : (w.alloc (Obj.cells #[Value.int .i64 0, Value.int .i64 0, Value.string ⟨#[]⟩] 76)).cell? ⟨w.heap.size, 1, none⟩ = some (Value.int .i64 0) := by simp
  have r2 : (w.alloc (Obj.cells #[Value.int .i64 0, Value.int .i64 0, Value.string ⟨#[]⟩] 76)).cell? ⟨w.heap.size, 2, none⟩ = some (Value.string ⟨#[]⟩) := by simp
  have hlt : w.heap.size < (w.alloc (Obj.cells #[Value.int .i64 0, Value.int .i64 0, Value.string ⟨#[]⟩] 76)).heap.size := by simp
  go_enter Tryz.func66, Tryz.ntmps66
  go_wp2_with fail
  refine (K1.out _ (laid_on HT.out hB)).mono ?_
  rintro e w1 ⟨rfl, hb1⟩
  replace hB := below_on hB (Nat.le_refl _) hb1
  replace fz := fun j => frozen_on hb1 hlt (fz j)
  replace r0 := cell_on hb1 r0
  replace r1 := cell_on hb1 r1
  replace r2 := cell_on hb1 r2
  replace hlt := Nat.lt_of_lt_of_le hlt hb1.size
  have hb2 := below_alloc1 w1 (Obj.cells #[Value.int .i64 x, Value.int .i64 y, Value.string r] 76)
  replace hB := below_on hB (Nat.le_refl _) hb2
  replace fz := fun j => frozen_on hb2 hlt (fz j)
  replace r0 := cell_on hb2 r0
  replace r1 := cell_on hb2 r1
  replace r2 := cell_on hb2 r2
  have q0 : (w1.alloc (Obj.cells #[Value.int .i64 x, Value.int .i64 y, Value.string r] 76)).cell? ⟨w1.heap.size, 0, none⟩ = some (Value.int .i64 x) := by simp
  have q1 : (w1.alloc (Obj.cells #[Value.int .i64 x, Value.int .i64 y, Value.string r] 76)).cell? ⟨w1.heap.size, 1, none⟩ = some (Value.int .i64 y) := by simp
  have q2 : (w1.alloc (Obj.cells #[Value.int .i64 x, Value.int .i64 y, Value.string r] 76)).cell? ⟨w1.heap.size, 2, none⟩ = some (Value.string r) := by simp
  replace hlt := Nat.lt_of_lt_of_le hlt hb2.size
  go_wp2_with fail
  refine (K2.out _ (laid_on HT.out hB)).mono ?_
  rintro e w2 ⟨rfl, hb3⟩
  replace hB := below_on hB (Nat.le_refl _) hb3
  replace fz := fun j => frozen_on hb3 hlt (fz j)
  replace r0 := cell_on hb3 r0
  replace r1 := cell_on hb3 r1
  replace r2 := cell_on hb3 r2
  replace q0 := cell_on hb3 q0
  replace q1 := cell_on hb3 q1
  replace q2 := cell_on hb3 q2
  clear hb1 hb2 hb3 hlt
  go_wp2
  exact bodyPost_ret (v := .tuple #[.agg #[.int .i64 0, .int .i64 0, .string ⟨#[]⟩], .iface 108 (.int .i64 4)]) (by simp [results, Tryz.results66, go_sem, r0, r1, r2]) rfl ⟨rfl, (((hB.setCell (Nat.le_refl _) _).setCell (Nat.le_refl _) _).setCell (Nat.le_refl _) _)⟩
set_option maxHeartbeats 2000000 in
theorem parseQueue_ne (s : ByteArray) (x y : Int) (r : ByteArray) (T : ByteArray) (hne : ¬ T.toList = s.toList) (w : World) (hL : Laid w)
    (k1 : ∀ w', Laid w' → Calls Tryz.prog 106 #[.string s] w' fun e w'' => e = .returned (.tuple #[.int .i64 x, .int .i64 y, .string r]) ∧ Below w'.heap.size w' w'')
    (k2 : ∀ w', Laid w' → Calls Tryz.prog 92 #[.agg #[.int .i64 x, .int .i64 y, .string r]] w' fun e w'' => e = .returned (.tuple #[.string T, .nilIface]) ∧ Below w'.heap.size w' w'') :
    Calls Tryz.prog 66 #[.string s] w fun e w' => e = .returned (.tuple #[.agg #[.int .i64 0, .int .i64 0, .string ⟨#[]⟩], .iface 108 (.int .i64 4)]) ∧ Below w.heap.size w w' := by
  have K1 := hide k1
  have K2 := hide k2
  have HT := hide hL
  have n1 := nil_neq_nil
  have hn2 : (T.toList == s.toList) = false := beq_eq_false_iff_ne.2 hne
  have hn3 : (T.toList != s.toList) = true := bne_iff_ne.2 hne
  clear k1 k2 hL
  have hB := below_alloc1 w (Obj.cells #[Value.int .i64 0, Value.int .i64 0, Value.string ⟨#[]⟩] 76)
  have fz := frozen_new w #[Value.int .i64 0, Value.int .i64 0, Value.string ⟨#[]⟩] 76
  have r0 : (w.alloc (Obj.cells #[Value.int .i64 0, Value.int .i64 0, Value.string ⟨#[]⟩] 76)).cell? ⟨w.heap.size, 0, none⟩ = some (Value.int .i64 0) := by simp
  have r1 : (w.alloc (Obj.cells #[Value.int .i64 0, Value.int .i64 0, Value.string ⟨#[]⟩] 76)).cell? ⟨w.heap.size, 1, none⟩ = some (Value.int .i64 0) := by simp
  have r2 : (w.alloc (Obj.cells #[Value.int .i64 0, Value.int .i64 0, Value.string ⟨#[]⟩] 76)).cell? ⟨w.heap.size, 2, none⟩ = some (Value.string ⟨#[]⟩) := by simp
  have hlt : w.heap.size < (w.alloc (Obj.cells #[Value.int .i64 0, Value.int .i64 0, Value.string ⟨#[]⟩] 76)).heap.size := by simp
  go_enter Tryz.func66, Tryz.ntmps66
  go_wp2_with fail
  refine (K1.out _ (laid_on HT.out hB)).mono ?_
  rintro e w1 ⟨rfl, hb1⟩
  replace hB := below_on hB (Nat.le_refl _) hb1
  replace fz := fun j => frozen_on hb1 hlt (fz j)
  replace r0 := cell_on hb1 r0
  replace r1 := cell_on hb1 r1
  replace r2 := cell_on hb1 r2
  replace hlt := Nat.lt_of_lt_of_le hlt hb1.size
  have hb2 := below_alloc1 w1 (Obj.cells #[Value.int .i64 x, Value.int .i64 y, Value.string r] 76)
  replace hB := below_on hB (Nat.le_refl _) hb2
  replace fz := fun j => frozen_on hb2 hlt (fz j)
  replace r0 := cell_on hb2 r0
  replace r1 := cell_on hb2 r1
  replace r2 := cell_on hb2 r2
  have q0 : (w1.alloc (Obj.cells #[Value.int .i64 x, Value.int .i64 y, Value.string r] 76)).cell? ⟨w1.heap.size, 0, none⟩ = some (Value.int .i64 x) := by simp
  have q1 : (w1.alloc (Obj.cells #[Value.int .i64 x, Value.int .i64 y, Value.string r] 76)).cell? ⟨w1.heap.size, 1, none⟩ = some (Value.int .i64 y) := by simp
  have q2 : (w1.alloc (Obj.cells #[Value.int .i64 x, Value.int .i64 y, Value.string r] 76)).cell? ⟨w1.heap.size, 2, none⟩ = some (Value.string r) := by simp
  replace hlt := Nat.lt_of_lt_of_le hlt hb2.size
  go_wp2_with fail
  refine (K2.out _ (laid_on HT.out hB)).mono ?_
  rintro e w2 ⟨rfl, hb3⟩
  replace hB := below_on hB (Nat.le_refl _) hb3
  replace fz := fun j => frozen_on hb3 hlt (fz j)
  replace r0 := cell_on hb3 r0
  replace r1 := cell_on hb3 r1
  replace r2 := cell_on hb3 r2
  replace q0 := cell_on hb3 q0
  replace q1 := cell_on hb3 q1
  replace q2 := cell_on hb3 q2
  clear hb1 hb2 hb3 hlt
  go_wp2
  exact bodyPost_ret (v := .tuple #[.agg #[.int .i64 0, .int .i64 0, .string ⟨#[]⟩], .iface 108 (.int .i64 4)]) (by simp [results, Tryz.results66, go_sem, r0, r1, r2]) rfl ⟨rfl, (((hB.setCell (Nat.le_refl _) _).setCell (Nat.le_refl _) _).setCell (Nat.le_refl _) _)⟩
set_option maxHeartbeats 2000000 in
theorem parseMessage_err (s : ByteArray) (k : Int) (x y : Int) (r : ByteArray) (c : Int) (w : World) (hL : Laid w)
    (k1 : ∀ w', Laid w' → Calls Tryz.prog 106 #[.string s] w' fun e w'' => e = .returned (.tuple #[.int .i64 x, .int .i64 y, .string r]) ∧ Below w'.heap.size w' w'')
    (k2 : ∀ w', Laid w' → Calls Tryz.prog 102 #[.agg #[.int .i64 k, .int .i64 x, .int .i64 y, .string r]] w' fun e w'' => e = .returned (.tuple #[.string ⟨#[]⟩, .iface 108 (.int .i64 c)]) ∧ Below w'.heap.size w' w'') :
    Calls Tryz.prog 98 #[.int .i64 k, .string s] w fun e w' => e = .returned (.tuple #[.agg #[.int .i64 0, .int .i64 0, .int .i64 0, .string ⟨#[]⟩], .iface 108 (.int .i64 4)]) ∧ Below w.heap.size w w' := by
  have K1 := hide k1
  have K2 := hide k2
  have HT := hide hL
  have n1 := err_neq_nil 108
  clear k1 k2 hL
  have hB := below_alloc1 w (Obj.cells #[Value.int .i64 0, Value.int .i64 0, Value.int .i64 0, Value.string ⟨#[]⟩] 48)
  have fz := frozen_new w #[Value.int .i64 0, Value.int .i64 0, Value.int .i64 0, Value.string ⟨#[]⟩] 48
  have r0 : (w.alloc (Obj.cells #[Value.int .i64 0, Value.int .i64 0, Value.int .i64 0, Value.string ⟨#[]⟩] 48)).cell? ⟨w.heap.size, 0, none⟩ = some (Value.int .i64 0) := by simp
  have r1 : (w.alloc (Obj.cells #[Value.int .i64 0, Value.int .i64 0, Value.int .i64 0, Value.string ⟨#[]⟩] 48)).cell? ⟨w.heap.size, 1, none⟩ = some (Value.int .i64 0) := by simp
  have r2 : (w.alloc (Obj.cells #[Value.int .i64 0, Value.int .i64 0, Value.int .i64 0, Value.string ⟨#[]⟩] 48)).cell? ⟨w.heap.size, 2, none⟩ = some (Value.int .i64 0) := by simp
  have r3 : (w.alloc (Obj.cells #[Value.int .i64 0, Value.int .i64 0, Value.int .i64 0, Value.string ⟨#[]⟩] 48)).cell? ⟨w.heap.size, 3, none⟩ = some (Value.string ⟨#[]⟩) := by simp
  have hlt : w.heap.size < (w.alloc (Obj.cells #[Value.int .i64 0, Value.int .i64 0, Value.int .i64 0, Value.string ⟨#[]⟩] 48)).heap.size := by simp
  go_enter Tryz.func98, Tryz.ntmps98
  go_wp2_with fail
  refine (K1.out _ (laid_on HT.out hB)).mono ?_
  rintro e w1 ⟨rfl, hb1⟩
  replace hB := below_on hB (Nat.le_refl _) hb1
  replace fz := fun j => frozen_on hb1 hlt (fz j)
  replace r0 := cell_on hb1 r0
  replace r1 := cell_on hb1 r1
  replace r2 := cell_on hb1 r2
  replace r3 := cell_on hb1 r3
  replace hlt := Nat.lt_of_lt_of_le hlt hb1.size
  have hb2 := below_alloc1 w1 (Obj.cells #[Value.int .i64 k, Value.int .i64 x, Value.int .i64 y, Value.string r] 48)
  replace hB := below_on hB (Nat.le_refl _) hb2
  replace fz := fun j => frozen_on hb2 hlt (fz j)
  replace r0 := cell_on hb2 r0
  replace r1 := cell_on hb2 r1
  replace r2 := cell_on hb2 r2
  replace r3 := cell_on hb2 r3
  have q0 : (w1.alloc (Obj.cells #[Value.int .i64 k, Value.int .i64 x, Value.int .i64 y, Value.string r] 48)).cell? ⟨w1.heap.size, 0, none⟩ = some (Value.int .i64 k) := by simp
  have q1 : (w1.alloc (Obj.cells #[Value.int .i64 k, Value.int .i64 x, Value.int .i64 y, Value.string r] 48)).cell? ⟨w1.heap.size, 1, none⟩ = some (Value.int .i64 x) := by simp
  have q2 : (w1.alloc (Obj.cells #[Value.int .i64 k, Value.int .i64 x, Value.int .i64 y, Value.string r] 48)).cell? ⟨w1.heap.size, 2, none⟩ = some (Value.int .i64 y) := by simp
  have q3 : (w1.alloc (Obj.cells #[Value.int .i64 k, Value.int .i64 x, Value.int .i64 y, Value.string r] 48)).cell? ⟨w1.heap.size, 3, none⟩ = some (Value.string r) := by simp
  replace hlt := Nat.lt_of_lt_of_le hlt hb2.size
  go_wp2_with fail
  refine (K2.out _ (laid_on HT.out hB)).mono ?_
  rintro e w2 ⟨rfl, hb3⟩
  replace hB := below_on hB (Nat.le_refl _) hb3
  replace fz := fun j => frozen_on hb3 hlt (fz j)
  replace r0 := cell_on hb3 r0
  replace r1 := cell_on hb3 r1
  replace r2 := cell_on hb3 r2
  replace r3 := cell_on hb3 r3
  replace q0 := cell_on hb3 q0
  replace q1 := cell_on hb3 q1
  replace q2 := cell_on hb3 q2
  replace q3 := cell_on hb3 q3
  clear hb1 hb2 hb3 hlt
  go_wp2
  exact bodyPost_ret (v := .tuple #[.agg #[.int .i64 0, .int .i64 0, .int .i64 0, .string ⟨#[]⟩], .iface 108 (.int .i64 4)]) (by simp [results, Tryz.results98, go_sem, r0, r1, r2, r3]) rfl ⟨rfl, ((((hB.setCell (Nat.le_refl _) _).setCell (Nat.le_refl _) _).setCell (Nat.le_refl _) _).setCell (Nat.le_refl _) _)⟩
set_option maxHeartbeats 2000000 in
theorem parseMessage_ne (s : ByteArray) (k : Int) (x y : Int) (r : ByteArray) (T : ByteArray) (hne : ¬ T.toList = s.toList) (w : World) (hL : Laid w)
    (k1 : ∀ w', Laid w' → Calls Tryz.prog 106 #[.string s] w' fun e w'' => e = .returned (.tuple #[.int .i64 x, .int .i64 y, .string r]) ∧ Below w'.heap.size w' w'')
    (k2 : ∀ w', Laid w' → Calls Tryz.prog 102 #[.agg #[.int .i64 k, .int .i64 x, .int .i64 y, .string r]] w' fun e w'' => e = .returned (.tuple #[.string T, .nilIface]) ∧ Below w'.heap.size w' w'') :
    Calls Tryz.prog 98 #[.int .i64 k, .string s] w fun e w' => e = .returned (.tuple #[.agg #[.int .i64 0, .int .i64 0, .int .i64 0, .string ⟨#[]⟩], .iface 108 (.int .i64 4)]) ∧ Below w.heap.size w w' := by
  have K1 := hide k1
  have K2 := hide k2
  have HT := hide hL
  have n1 := nil_neq_nil
  have hn2 : (T.toList == s.toList) = false := beq_eq_false_iff_ne.2 hne
  have hn3 : (T.toList != s.toList) = true := bne_iff_ne.2 hne
  clear k1 k2 hL
  have hB := below_alloc1 w (Obj.cells #[Value.int .i64 0, Value.int .i64 0, Value.int .i64 0, Value.string ⟨#[]⟩] 48)
  have fz := frozen_new w #[Value.int .i64 0, Value.int .i64 0, Value.int .i64 0, Value.string ⟨#[]⟩] 48
  have r0 : (w.alloc (Obj.cells #[Value.int .i64 0, Value.int .i64 0, Value.int .i64 0, Value.string ⟨#[]⟩] 48)).cell? ⟨w.heap.size, 0, none⟩ = some (Value.int .i64 0) := by simp
  have r1 : (w.alloc (Obj.cells #[Value.int .i64 0, Value.int .i64 0, Value.int .i64 0, Value.string ⟨#[]⟩] 48)).cell? ⟨w.heap.size, 1, none⟩ = some (Value.int .i64 0) := by simp
  have r2 : (w.alloc (Obj.cells #[Value.int .i64 0, Value.int .i64 0, Value.int .i64 0, Value.string ⟨#[]⟩] 48)).cell? ⟨w.heap.size, 2, none⟩ = some (Value.int .i64 0) := by simp
  have r3 : (w.alloc (Obj.cells #[Value.int .i64 0, Value.int .i64 0, Value.int .i64 0, Value.string ⟨#[]⟩] 48)).cell? ⟨w.heap.size, 3, none⟩ = some (Value.string ⟨#[]⟩) := by simp
  have hlt : w.heap.size < (w.alloc (Obj.cells #[Value.int .i64 0, Value.int .i64 0, Value.int .i64 0, Value.string ⟨#[]⟩] 48)).heap.size := by simp
  go_enter Tryz.func98, Tryz.ntmps98
  go_wp2_with fail
  refine (K1.out _ (laid_on HT.out hB)).mono ?_
  rintro e w1 ⟨rfl, hb1⟩
  replace hB := below_on hB (Nat.le_refl _) hb1
  replace fz := fun j => frozen_on hb1 hlt (fz j)
  replace r0 := cell_on hb1 r0
  replace r1 := cell_on hb1 r1
  replace r2 := cell_on hb1 r2
  replace r3 := cell_on hb1 r3
  replace hlt := Nat.lt_of_lt_of_le hlt hb1.size
  have hb2 := below_alloc1 w1 (Obj.cells #[Value.int .i64 k, Value.int .i64 x, Value.int .i64 y, Value.string r] 48)
  replace hB := below_on hB (Nat.le_refl _) hb2
  replace fz := fun j => frozen_on hb2 hlt (fz j)
  replace r0 := cell_on hb2 r0
  replace r1 := cell_on hb2 r1
  replace r2 := cell_on hb2 r2
  replace r3 := cell_on hb2 r3
  have q0 : (w1.alloc (Obj.cells #[Value.int .i64 k, Value.int .i64 x, Value.int .i64 y, Value.string r] 48)).cell? ⟨w1.heap.size, 0, none⟩ = some (Value.int .i64 k) := by simp
  have q1 : (w1.alloc (Obj.cells #[Value.int .i64 k, Value.int .i64 x, Value.int .i64 y, Value.string r] 48)).cell? ⟨w1.heap.size, 1, none⟩ = some (Value.int .i64 x) := by simp
  have q2 : (w1.alloc (Obj.cells #[Value.int .i64 k, Value.int .i64 x, Value.int .i64 y, Value.string r] 48)).cell? ⟨w1.heap.size, 2, none⟩ = some (Value.int .i64 y) := by simp
  have q3 : (w1.alloc (Obj.cells #[Value.int .i64 k, Value.int .i64 x, Value.int .i64 y, Value.string r] 48)).cell? ⟨w1.heap.size, 3, none⟩ = some (Value.string r) := by simp
  replace hlt := Nat.lt_of_lt_of_le hlt hb2.size
  go_wp2_with fail
  refine (K2.out _ (laid_on HT.out hB)).mono ?_
  rintro e w2 ⟨rfl, hb3⟩
  replace hB := below_on hB (Nat.le_refl _) hb3
  replace fz := fun j => frozen_on hb3 hlt (fz j)
  replace r0 := cell_on hb3 r0
  replace r1 := cell_on hb3 r1
  replace r2 := cell_on hb3 r2
  replace r3 := cell_on hb3 r3
  replace q0 := cell_on hb3 q0
  replace q1 := cell_on hb3 q1
  replace q2 := cell_on hb3 q2
  replace q3 := cell_on hb3 q3
  clear hb1 hb2 hb3 hlt
  go_wp2
  exact bodyPost_ret (v := .tuple #[.agg #[.int .i64 0, .int .i64 0, .int .i64 0, .string ⟨#[]⟩], .iface 108 (.int .i64 4)]) (by simp [results, Tryz.results98, go_sem, r0, r1, r2, r3]) rfl ⟨rfl, ((((hB.setCell (Nat.le_refl _) _).setCell (Nat.le_refl _) _).setCell (Nat.le_refl _) _).setCell (Nat.le_refl _) _)⟩
end Go.Proofs.YtighpalbodhfeaaGreatDoor

/-
  Plain facts on numbers and words in texts. Nothing of the program is named here.
-/
namespace Go.Proofs.YtighpalbodhfeaaGreatDoor

def valL (l : List UInt8) : Nat := l.foldl (fun a c => 10 * a + (c.toNat - 48)) 0
theorem valL_snoc (l : List UInt8) (c : UInt8) : valL (l ++ [c]) = 10 * valL l + (c.toNat - 48) := by simp [valL]
theorem dig_back {c : UInt8} (h : isDig c = true) : UInt8.ofNat (48 + (c.toNat - 48)) = c ∧ c.toNat - 48 < 10 := by
  simp only [isDig, Bool.and_eq_true, decide_eq_true_eq] at h
  refine ⟨?_, by omega⟩
  rw [show 48 + (c.toNat - 48) = c.toNat by omega]
  simp
theorem dec_head (n : Nat) : 1 ≤ n → (Lib.decDigits n).head? ≠ some 48 := by
  induction n using Nat.strongRecOn with
  | _ n ih =>
    intro h
    by_cases h10 : n < 10
    · rw [Lib.decDigits_one h10]
      simp
      intro e
      have := congrArg UInt8.toNat e
      simp at this
      omega
    · rw [Lib.decDigits, dif_neg h10, List.head?_append]
      have := ih (n / 10) (by omega) (by omega)
      have hne := dec_ne (n / 10)
      cases hd : Lib.decDigits (n / 10) with
      | nil => exact absurd hd hne
      | cons a r => rw [hd] at this; simpa using this
theorem valL_dec (n : Nat) : valL (Lib.decDigits n) = n := by
  induction n using Nat.strongRecOn with
  | _ n ih =>
    by_cases h10 : n < 10
    · rw [Lib.decDigits_one h10]
      simp [valL]
      omega
    · rw [Lib.decDigits, dif_neg h10, valL_snoc, ih (n / 10) (by omega)]
      simp
      omega
theorem dec_valL : ∀ (k : Nat) (l : List UInt8), l.length = k → l ≠ [] → (∀ c ∈ l, isDig c = true) → (l.head? = some 48 → l.length = 1) → Lib.decDigits (valL l) = l := by
  intro k
  induction k using Nat.strongRecOn with
  | _ k ih =>
    intro l hk hne hd h0
    obtain ⟨l', c, rfl⟩ : ∃ l' c, l = l' ++ [c] := ⟨l.dropLast, l.getLast hne, (List.dropLast_concat_getLast hne).symm⟩
    obtain ⟨hc, hc10⟩ := dig_back (hd c (by simp))
    rw [valL_snoc]
    by_cases he : l' = []
    · subst he
      simp only [valL, List.foldl_nil, Nat.mul_zero, Nat.zero_add]
      rw [Lib.decDigits_one hc10, hc]
      rfl
    · have hh : l'.head? ≠ some 48 := fun e => by
        have : (l' ++ [c]).head? = some 48 := by rw [List.head?_append, e]; rfl
        have := h0 this
        simp at this
        exact he this
      have hi := ih l'.length (by simp at hk; omega) l' rfl he (fun x hx => hd x (by simp [hx])) (fun e => absurd e hh)
      have hv : 1 ≤ valL l' := by
        rcases Nat.eq_zero_or_pos (valL l') with e | e
        · rw [e, Lib.decDigits_one (by omega)] at hi
          rw [← hi] at hh
          exact absurd rfl hh
        · exact e
      rw [Lib.decDigits, dif_neg (by omega)]
      rw [show (10 * valL l' + (c.toNat - 48)) / 10 = valL l' by omega, show (10 * valL l' + (c.toNat - 48)) % 10 = c.toNat - 48 by omega, hi, hc]
/-- a number up to most, or none -/
def natR (l : List UInt8) (most : Nat) (r : Int) : Prop := (∃ n : Nat, n ≤ most ∧ l = Lib.decDigits n ∧ r = n) ∨ (r = -1 ∧ ∀ n : Nat, n ≤ most → l ≠ Lib.decDigits n)
theorem valL_lt (l : List UInt8) (h : ∀ c ∈ l, isDig c = true) : valL l < 10 ^ l.length := by
  have : ∀ (k : Nat) (l : List UInt8), l.length = k → (∀ c ∈ l, isDig c = true) → valL l < 10 ^ l.length := by
    intro k
    induction k with
    | zero => intro l hk _; rw [List.length_eq_zero_iff.1 hk]; simp [valL]
    | succ k ih =>
      intro l hk hd
      have hne : l ≠ [] := fun e => by rw [e] at hk; cases hk
      obtain ⟨l', c, rfl⟩ : ∃ l' c, l = l' ++ [c] := ⟨l.dropLast, l.getLast hne, (List.dropLast_concat_getLast hne).symm⟩
      have h1 := ih l' (by simpa using hk) (fun x hx => hd x (by simp [hx]))
      obtain ⟨_, h2⟩ := dig_back (hd c (by simp))
      rw [valL_snoc, List.length_append, List.length_singleton, Nat.pow_succ]
      omega
  exact this _ l rfl h

/-- words of a text, at most so many -/
def wordsR (s : ByteArray) (most : Nat) (out : List ByteArray) (rest : ByteArray) : Prop :=
  s.data.toList = (out.map fun x => x.data.toList ++ [32]).flatten ++ rest.data.toList ∧ (∀ x ∈ out, ∀ c ∈ x.data.toList, c ≠ 32) ∧ ((∀ c ∈ rest.data.toList, c ≠ 32) ∨ out.length + 1 = most) ∧ out.length + 1 ≤ most
end Go.Proofs.YtighpalbodhfeaaGreatDoor
