/-
  What View.seen returns of a view that has changed nothing: rows of a span as they were; what view.upTo and slices.Clip return.
-/
import Derived.Test.YtjphbmdmnicjpacViewGet2
import Derived.Test.YtjphbmdmnicjpacVerScan2
import Derived.Test.YtjphbmdmnicjpacVerSort
import Derived.Test.YtjphbmdmnicjpacVerLaw
namespace Go.Proofs.Ytjphbmdmnicjpac
open Go.RowKit Go.Joins Go.Shelf
attribute [local go_sem ↓] Go.wp_at_zero Go.wp_at_succ

set_option maxRecDepth 4000 in
set_option maxHeartbeats 2000000 in
theorem seen_nil (s : ByteArray × ByteArray) {B0 B wb vb mb n : Nat} {now since : Int} {D : DataW Value} {g : ByteArray → Value} {R : ByteArray → List Ver} {cv rv : Value} {rds : List (ByteArray × ByteArray)} (w : World) (hv : VS w B0 vb mb now n D g R) (h : VW w B wb vb since cv rv [] rds)
    (hn : n ≤ 1000000) (hR : ∀ key, (R key).length ≤ 1000000) :
    Calls Try.prog 73 #[.pointer (some ⟨wb, 0, none⟩), .agg #[.string s.1, .string s.2]] w fun e w' => ∃ v, e = .returned v ∧ Below w.heap.size w w' ∧ ∃ F, ownP w' w.heap.size v F ∧ (F.Pairwise fun a b => ltS a.1 b.1 = true) ∧ ∀ r, r ∈ F ↔ told R since s r := by
  have HV := hide hv
  have HR := hide hR
  have hB0 := below_alloc1 w (Obj.cells #[Value.string s.1, Value.string s.2] 37)
  have a0 : (w.alloc (Obj.cells #[Value.string s.1, Value.string s.2] 37)).cell? ⟨w.heap.size, 0, none⟩ = some (.string s.1) := cell_new _ _ _ 0
  have a1 : (w.alloc (Obj.cells #[Value.string s.1, Value.string s.2] 37)).cell? ⟨w.heap.size, 1, none⟩ = some (.string s.2) := cell_new _ _ _ 1
  have c0 := cell_on hB0 h.c0
  have c1 := cell_on hB0 h.c1
  have c2 := cell_on hB0 h.c2
  obtain ⟨ca, cc, rfl⟩ := own_shape h.chs
  have HB0 := hide hB0
  clear h hv hR hB0
  go_enter Try.func73, Try.ntmps73
  go_wp2
  go_region_held3 (fun w' => w'.cell? ⟨w.heap.size, 0, none⟩ = some (.string s.1) ∧ w'.cell? ⟨w.heap.size, 1, none⟩ = some (.string s.2) ∧ w'.cell? ⟨wb, 0, none⟩ = some (.pointer (some ⟨vb, 0, none⟩)) ∧ w'.cell? ⟨wb, 1, none⟩ = some (.int .i64 since))
    (first | go_keep | exact ⟨cell_on hb2 a0, cell_on hb2 a1, cell_on hb2 c0, cell_on hb2 c1⟩) (first | (go_at_call 14; refine (scan_any sort_says sort_nil s since _ ((HV.out.on HB0.out).on (Below.refl _ _).drew) hn HR.out).mono ?_; rintro e w2 ⟨v, rfl, hb2', F, ho, hs, hnd, hm⟩; have hb2 := below_on (Below.refl _ (w.alloc (Obj.cells #[Value.string s.1, Value.string s.2] 37))).drew (Nat.le_refl _) hb2'; clear hb2'; dsimp only))
  all_goals
    have HO := hide ho
    have HST := hide (rows_strict hs hnd)
    have HM := hide hm
    have HB2 := hide (below_on HB0.out (Nat.le_refl _) hb2)
    replace c2 := cell_on hb2 c2
    clear ho hs hnd hm hb2
    go_wp2
    refine wp_loop_rounds 1 ?_
    rw [rounds_succ]
    go_wp2
    go_ret
    exact ⟨v, rfl, HB2.out, F, own_low HO.out (by simp), HST.out, HM.out⟩
theorem field_to (a b : ByteArray) (w : World) : (Instr.field 37 (.agg #[.string a, .string b]) 1).run Try.prog w = .ok (.string b) w := by
  have h1 := Try.isAgg9
  have h2 := Try.sizeOf9
  simp [Instr.field, run_underlying Try.underlying37, asAgg, part, h1, go_sem]
set_option maxRecDepth 10000 in
set_option maxHeartbeats 1000000 in
theorem upTo_any (key : ByteArray) (w : World) (hk : key.size ≤ 1000) :
    Calls Try.prog 76 #[.string key] w fun e w' => e = .returned (.agg #[.string ⟨#[]⟩, .string (zeroS key)]) ∧ Below w.heap.size w w' := by
  have HP := fun w => hide (point_any key w hk)
  have hfl := field_to
  have hB := below_alloc1 w (Obj.cells #[Value.string ⟨#[]⟩, Value.string ⟨#[]⟩] 37)
  have fz := frozen_new w #[Value.string ⟨#[]⟩, Value.string ⟨#[]⟩] 37
  have r0 : (w.alloc (Obj.cells #[Value.string ⟨#[]⟩, Value.string ⟨#[]⟩] 37)).cell? ⟨w.heap.size, 0, none⟩ = some (.string ⟨#[]⟩) := by simp
  have r1 : (w.alloc (Obj.cells #[Value.string ⟨#[]⟩, Value.string ⟨#[]⟩] 37)).cell? ⟨w.heap.size, 1, none⟩ = some (.string ⟨#[]⟩) := by simp
  have h0 : w.heap.size < (w.alloc (Obj.cells #[Value.string ⟨#[]⟩, Value.string ⟨#[]⟩] 37)).heap.size := by simp
  generalize zeroS key = z at *
  go_enter Try.func76, Try.ntmps76
  go_wp2_with (go_at_call 71; refine (HP _).out.mono ?_; rintro e w1 ⟨rfl, hb⟩; replace hB := below_on hB (Nat.le_refl _) hb; replace fz := fun j => frozen_on hb h0 (fz j); replace r0 := cell_on hb r0; replace r1 := cell_on hb r1; clear hb h0)
  exact bodyPost_ret (v := .agg #[.string ⟨#[]⟩, .string z]) (by simp [results, Try.results76, go_sem, r0, r1]) rfl ⟨rfl, (hB.setCell (p := ⟨w.heap.size, 0, none⟩) (Nat.le_refl _) _).setCell (p := ⟨w.heap.size, 1, none⟩) (Nat.le_refl _) _⟩
set_option maxHeartbeats 1000000 in
theorem clip_any (a : Addr) (n cap : Nat) (w : World) (hn : n ≤ cap) (hc : cap ≤ 9223372036854775807) :
    Calls Try.prog 74 #[.slice (some a) n cap] w fun e w' => e = .returned (.slice (some a) n n) ∧ Below w.heap.size w w' := by
  have h1 : (n : Int) ≤ (cap : Int) := by omega
  have h2 : n ≤ 9223372036854775807 := by omega
  go_enter Try.func74, Try.ntmps74
  go_wp2
  go_ret
  exact ⟨rfl, Below.refl _ _⟩
end Go.Proofs.Ytjphbmdmnicjpac
