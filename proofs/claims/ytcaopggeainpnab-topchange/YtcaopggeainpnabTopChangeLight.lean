/-
  What haywaintop.TopChange returns of few small changes: true, in whatever memory; nothing that was there is changed.
-/
import Derived.Test.YtcaopggeainpnabTopChangeWalk
namespace Go.Proofs.Ytcaopggeainpnab
open Go.RowKit Go.Joins

theorem rowCh_drew {w : World} {v : Value} {l : List Chg} (h : rowCh w v l) : rowCh w.drew v l := rowCh_on (Below.refl _ _).drew h

set_option maxHeartbeats 8000000 in
theorem topChange_light (l : List Chg) (a b : Chg) (cap : Nat) (ao : Option Addr) (w : World) (hl : heldCh w ao l) (h : lightChgs l 30 = true) (h' : lightChgs [a, b] 2 = true) (fa : Nat) (hfa : chgFault a = fa) :
    Calls Try.prog 4 #[.slice ao l.length cap, .agg #[.string a.key, .string a.val, .bool a.gone], .agg #[.string b.key, .string b.val, .bool b.gone]] w fun e w' => e = .returned (.bool true) ∧ Below w.heap.size w w' := by
  have hB := below_alloc2 w (Obj.cells #[Value.string a.key, Value.string a.val, Value.bool a.gone] 35) (Obj.cells #[Value.string b.key, Value.string b.val, Value.bool b.gone] 35)
  have a0 : ((w.alloc (Obj.cells #[Value.string a.key, Value.string a.val, Value.bool a.gone] 35)).alloc (Obj.cells #[Value.string b.key, Value.string b.val, Value.bool b.gone] 35)).cell? ⟨w.heap.size, 0, none⟩ = some (.string a.key) := by simp
  have a1 : ((w.alloc (Obj.cells #[Value.string a.key, Value.string a.val, Value.bool a.gone] 35)).alloc (Obj.cells #[Value.string b.key, Value.string b.val, Value.bool b.gone] 35)).cell? ⟨w.heap.size, 1, none⟩ = some (.string a.val) := by simp
  have a2 : ((w.alloc (Obj.cells #[Value.string a.key, Value.string a.val, Value.bool a.gone] 35)).alloc (Obj.cells #[Value.string b.key, Value.string b.val, Value.bool b.gone] 35)).cell? ⟨w.heap.size, 2, none⟩ = some (.bool a.gone) := by simp
  have b0 : ((w.alloc (Obj.cells #[Value.string a.key, Value.string a.val, Value.bool a.gone] 35)).alloc (Obj.cells #[Value.string b.key, Value.string b.val, Value.bool b.gone] 35)).cell? ⟨w.heap.size + 1, 0, none⟩ = some (.string b.key) := by simp
  have b1 : ((w.alloc (Obj.cells #[Value.string a.key, Value.string a.val, Value.bool a.gone] 35)).alloc (Obj.cells #[Value.string b.key, Value.string b.val, Value.bool b.gone] 35)).cell? ⟨w.heap.size + 1, 1, none⟩ = some (.string b.val) := by simp
  have b2 : ((w.alloc (Obj.cells #[Value.string a.key, Value.string a.val, Value.bool a.gone] 35)).alloc (Obj.cells #[Value.string b.key, Value.string b.val, Value.bool b.gone] 35)).cell? ⟨w.heap.size + 1, 2, none⟩ = some (.bool b.gone) := by simp
  have HL := hide hl
  have hn : l.length ≤ 30 := by simp only [lightChgs, Bool.and_eq_true, decide_eq_true_eq] at h; exact h.1
  have ha : a.key.size ≤ 60 ∧ a.val.size ≤ 100 := by simp only [lightChgs, List.all_cons, lightChg, Bool.and_eq_true, decide_eq_true_eq] at h'; exact h'.2.1
  have HT : Hid (textB a = headB a ++ a.key ++ a.val) := rfl
  have HG : Hid (chgFault a = fa) := hfa
  clear hl hfa
  by_cases h0 : fa = 0
  · subst h0
    obtain ⟨k1, k2⟩ := fault_key HG.out
    have hs := text_size a
    have hs' : ¬ (90 : Int) < ((textB a).size : Int) := by omega
    generalize htx : textB a = tx at *
    go_enter Try.func4, Try.ntmps4
    go_wp2_with (first
      | (go_at_call_of 12 (Value.agg #[Value.string ⟨#[116, 47, 97]⟩, Value.string ⟨#[]⟩, Value.bool true]); refine (one_bytes _).mono ?_; rintro e w1 ⟨rfl, hb⟩; replace hB := below_on hB (Nat.le_refl _) hb; replace a0 := cell_on hb a0; replace a1 := cell_on hb a1; replace a2 := cell_on hb a2; replace b0 := cell_on hb b0; replace b1 := cell_on hb b1; replace b2 := cell_on hb b2; clear hb)
      | (go_at_call 12; refine (chg_bytes a _ (by omega) (by omega) 0 HG.out).mono ?_; rintro e w1 ⟨rfl, hb⟩; rw [if_pos rfl, ← HT.out]; replace hB := below_on hB (Nat.le_refl _) hb; replace a0 := cell_on hb a0; replace a1 := cell_on hb a1; replace a2 := cell_on hb a2; replace b0 := cell_on hb b0; replace b1 := cell_on hb b1; replace b2 := cell_on hb b2; clear hb)
      | (go_at_call 14; refine (htx ▸ parse_text a _ HG.out).mono ?_; rintro e w1 ⟨rfl, hb⟩; replace hB := below_on hB (Nat.le_refl _) hb; replace a0 := cell_on hb a0; replace a1 := cell_on hb a1; replace a2 := cell_on hb a2; replace b0 := cell_on hb b0; replace b1 := cell_on hb b1; replace b2 := cell_on hb b2; clear hb; have hb := below_alloc1 w1 (Obj.cells #[Value.string a.key, Value.string a.val, Value.bool a.gone] 35); have x0 : (w1.alloc (Obj.cells #[Value.string a.key, Value.string a.val, Value.bool a.gone] 35)).cell? ⟨w1.heap.size, 0, none⟩ = some (.string a.key) := cell_new _ _ _ 0; have x1 : (w1.alloc (Obj.cells #[Value.string a.key, Value.string a.val, Value.bool a.gone] 35)).cell? ⟨w1.heap.size, 1, none⟩ = some (.string a.val) := cell_new _ _ _ 1; have x2 : (w1.alloc (Obj.cells #[Value.string a.key, Value.string a.val, Value.bool a.gone] 35)).cell? ⟨w1.heap.size, 2, none⟩ = some (.bool a.gone) := cell_new _ _ _ 2; replace hB := below_on hB (Nat.le_refl _) hb; replace a0 := cell_on hb a0; replace a1 := cell_on hb a1; replace a2 := cell_on hb a2; replace b0 := cell_on hb b0; replace b1 := cell_on hb b1; replace b2 := cell_on hb b2; clear hb)
      | (go_at_call_of 13 (Value.slice ao l.length cap); refine (light_held l 30 cap ao _ (heldCh_on hB HL.out) (by omega)).mono ?_; rintro e w2 ⟨rfl, rfl⟩)
      | (go_at_call 13; refine (light_two _ a b).mono ?_; rintro e w1 ⟨rfl, hb⟩; replace hB := below_on hB (Nat.le_refl _) hb; replace a0 := cell_on hb a0; replace a1 := cell_on hb a1; replace a2 := cell_on hb a2; replace b0 := cell_on hb b0; replace b1 := cell_on hb b1; replace b2 := cell_on hb b2; clear hb))
    go_loopw [11, 12] (fun m i wr => ∃ (k : Nat) (L : List Chg), k ≤ l.length ∧ i = .int .i64 k ∧ rowCh wr m L ∧ rises L ∧ L.length ≤ k ∧ Below w.heap.size w wr ∧ wr.cell? ⟨w.heap.size, 0, none⟩ = some (.string a.key) ∧ wr.cell? ⟨w.heap.size, 1, none⟩ = some (.string a.val) ∧ wr.cell? ⟨w.heap.size, 2, none⟩ = some (.bool a.gone) ∧ wr.cell? ⟨w.heap.size + 1, 0, none⟩ = some (.string b.key) ∧ wr.cell? ⟨w.heap.size + 1, 1, none⟩ = some (.string b.val) ∧ wr.cell? ⟨w.heap.size + 1, 2, none⟩ = some (.bool b.gone)) (fun _ i _ => l.length - (intOf i).toNat)
    case atStart => exact ⟨0, [], Nat.zero_le _, rfl, .inl ⟨rfl, rfl⟩, List.Pairwise.nil, Nat.le_refl _, hB, a0, a1, a2, b0, b1, b2⟩
    case round =>
      clear hB a0 a1 a2 b0 b1 b2 x0 x1 x2
      obtain ⟨k, L, hk, rfl, hm, hr, hL, hB, a0, a1, a2, b0, b1, b2⟩ := hrel
      by_cases hlt : k < l.length
      · rcases heldCh_on hB HL.out with rfl | ⟨g, off, rfl, hc⟩
        · simp at hlt
        obtain ⟨c0, c1, c2⟩ := hc k hlt
        have hil := ins_length L l[k]
        have HR := hide (ins_rises l[k] hr)
        have hlt' : (k : Int) < (l.length : Int) := by omega
        clear hc hr
        go_wp2_with (first
          | (go_at_call 15; refine (put_row L l[k] _ _ hm (by omega)).mono ?_; rintro e w1 ⟨u, rfl, hu, hb⟩; replace hB := below_on hB (Nat.le_refl _) hb; replace a0 := cell_on hb a0; replace a1 := cell_on hb a1; replace a2 := cell_on hb a2; replace b0 := cell_on hb b0; replace b1 := cell_on hb b1; replace b2 := cell_on hb b2; replace c0 := cell_on hb c0; replace c1 := cell_on hb c1; replace c2 := cell_on hb c2; replace hm := hu; clear hb hu; dsimp only)
          | (go_at_call 16; refine (find_row L l[k] _ _ hm (by omega)).mono ?_; rintro e w1 ⟨rfl, hb⟩; replace hB := below_on hB (Nat.le_refl _) hb; replace a0 := cell_on hb a0; replace a1 := cell_on hb a1; replace a2 := cell_on hb a2; replace b0 := cell_on hb b0; replace b1 := cell_on hb b1; replace b2 := cell_on hb b2; replace c0 := cell_on hb c0; replace c1 := cell_on hb c1; replace c2 := cell_on hb c2; replace hm := rowCh_on hb hm; clear hb; have hb := below_alloc1 w1 (Obj.cells #[Value.string l[k].key, Value.string l[k].val, Value.bool l[k].gone] 35); have x0 : (w1.alloc (Obj.cells #[Value.string l[k].key, Value.string l[k].val, Value.bool l[k].gone] 35)).cell? ⟨w1.heap.size, 0, none⟩ = some (.string l[k].key) := cell_new _ _ _ 0; have x1 : (w1.alloc (Obj.cells #[Value.string l[k].key, Value.string l[k].val, Value.bool l[k].gone] 35)).cell? ⟨w1.heap.size, 1, none⟩ = some (.string l[k].val) := cell_new _ _ _ 1; have x2 : (w1.alloc (Obj.cells #[Value.string l[k].key, Value.string l[k].val, Value.bool l[k].gone] 35)).cell? ⟨w1.heap.size, 2, none⟩ = some (.bool l[k].gone) := cell_new _ _ _ 2; replace hB := below_on hB (Nat.le_refl _) hb; replace a0 := cell_on hb a0; replace a1 := cell_on hb a1; replace a2 := cell_on hb a2; replace b0 := cell_on hb b0; replace b1 := cell_on hb b1; replace b2 := cell_on hb b2; replace c0 := cell_on hb c0; replace c1 := cell_on hb c1; replace c2 := cell_on hb c2; replace hm := rowCh_on hb hm; clear hb))
        go_quiet (fail)
        go_wp2
        go_roundw
        case rel => exact ⟨k + 1, insL L l[k], by omega, by go_num, rowCh_on (below_draws _ _ _) hm, HR.out, by omega, hB.trans (below_draws _ _ _), a0, a1, a2, b0, b1, b2⟩
        case measure => simp [intOf]; omega
      · have hlt' : ¬ (k : Int) < (l.length : Int) := by omega
        have HR := hide hr
        clear hr
        rcases hm with ⟨rfl, hL0⟩ | ⟨g, mcap, rfl, hm1, hm2, hm⟩
        · go_wp2
          refine wp_loop_rounds 1 ?_
          rw [rounds_succ]
          have hm : rowCh wr (.slice none 0 0) L := .inl ⟨rfl, hL0⟩
          clear hL0
          have h1 : True := trivial
          have h2 : True := trivial
          have h3 : True := trivial
          have h4 : True := trivial
          have i1 := ins_length L a
          have i2 := ins_length L b
          have i3 := ins_length (insL L a) b
          have i4 := ins_length (insL L b) a
          by_cases hkey : a.key = b.key
          · have HS : Hid (insL L b = insL (insL L a) b) := (ins_same hkey L).symm
            have hq : (a.key.toList == b.key.toList) = true := by rw [hkey]; exact eqS_refl _
            clear hkey
            go_wp2
            go_region_held3 (fun w' => w'.cell? ⟨w.heap.size, 0, none⟩ = some (.string a.key) ∧ w'.cell? ⟨w.heap.size, 1, none⟩ = some (.string a.val) ∧ w'.cell? ⟨w.heap.size, 2, none⟩ = some (.bool a.gone) ∧ w'.cell? ⟨w.heap.size + 1, 0, none⟩ = some (.string b.key) ∧ w'.cell? ⟨w.heap.size + 1, 1, none⟩ = some (.string b.val) ∧ w'.cell? ⟨w.heap.size + 1, 2, none⟩ = some (.bool b.gone)) (first | exact ⟨a0, a1, a2, b0, b1, b2⟩ | go_keep) (first | (go_at_call 17; refine (same_row (insL (insL L a) b) _ _ _ h2 (HS.out ▸ h3) (ins_some _ _) (by omega)).mono ?_; rintro e w5 ⟨rfl, hb⟩; replace hB := below_on hB (Nat.le_refl _) hb; replace a0 := cell_on hb a0; replace a1 := cell_on hb a1; replace a2 := cell_on hb a2; replace b0 := cell_on hb b0; replace b1 := cell_on hb b1; replace b2 := cell_on hb b2; clear hb) | (go_at_call 15; have _ : rowCh _ _ (insL (insL L a) b) := h2; refine (put_row L b _ _ hm (by omega)).mono ?_; rintro e w3 ⟨u3, rfl, h3, hb⟩; replace hB := below_on hB (Nat.le_refl _) hb; replace a0 := cell_on hb a0; replace a1 := cell_on hb a1; replace a2 := cell_on hb a2; replace b0 := cell_on hb b0; replace b1 := cell_on hb b1; replace b2 := cell_on hb b2; replace h2 := rowCh_on hb h2; clear hb; dsimp only) | (go_at_call 15; have _ : rowCh _ _ (insL L a) := h1; refine (put_row (insL L a) b _ _ h1 (by omega)).mono ?_; rintro e w2 ⟨u2, rfl, h2, hb⟩; replace hB := below_on hB (Nat.le_refl _) hb; replace a0 := cell_on hb a0; replace a1 := cell_on hb a1; replace a2 := cell_on hb a2; replace b0 := cell_on hb b0; replace b1 := cell_on hb b1; replace b2 := cell_on hb b2; replace hm := rowCh_on hb hm; clear hb; dsimp only) | (go_at_call 15; refine (put_row L a _ _ (rowCh_drew hm) (by omega)).mono ?_; rintro e w1 ⟨u1, rfl, h1, hb⟩; replace hb := below_on (Below.refl wr.heap.size wr).drew (Nat.le_refl _) hb; replace hB := below_on hB (Nat.le_refl _) hb; replace a0 := cell_on hb a0; replace a1 := cell_on hb a1; replace a2 := cell_on hb a2; replace b0 := cell_on hb b0; replace b1 := cell_on hb b1; replace b2 := cell_on hb b2; replace hm := rowCh_on hb hm; clear hb; dsimp only))
            go_wp2
            go_ret
            exact ⟨rfl, hB⟩
          · have HS : Hid (insL (insL L b) a = insL (insL L a) b) := (ins_swap hkey L).symm
            have hq : (a.key.toList == b.key.toList) = false := Bool.eq_false_iff.2 fun hh => hkey ((eqS_iff _ _).1 hh)
            clear hkey
            go_wp2
            go_region_held3 (fun w' => w'.cell? ⟨w.heap.size, 0, none⟩ = some (.string a.key) ∧ w'.cell? ⟨w.heap.size, 1, none⟩ = some (.string a.val) ∧ w'.cell? ⟨w.heap.size, 2, none⟩ = some (.bool a.gone) ∧ w'.cell? ⟨w.heap.size + 1, 0, none⟩ = some (.string b.key) ∧ w'.cell? ⟨w.heap.size + 1, 1, none⟩ = some (.string b.val) ∧ w'.cell? ⟨w.heap.size + 1, 2, none⟩ = some (.bool b.gone)) (first | exact ⟨a0, a1, a2, b0, b1, b2⟩ | go_keep) (first | (go_at_call 17; refine (same_row (insL (insL L a) b) _ _ _ h2 (HS.out ▸ h4) (ins_some _ _) (by omega)).mono ?_; rintro e w5 ⟨rfl, hb⟩; replace hB := below_on hB (Nat.le_refl _) hb; replace a0 := cell_on hb a0; replace a1 := cell_on hb a1; replace a2 := cell_on hb a2; replace b0 := cell_on hb b0; replace b1 := cell_on hb b1; replace b2 := cell_on hb b2; clear hb) | (go_at_call 15; have _ : rowCh _ _ (insL L b) := h3; refine (put_row (insL L b) a _ _ h3 (by omega)).mono ?_; rintro e w4 ⟨u4, rfl, h4, hb⟩; replace hB := below_on hB (Nat.le_refl _) hb; replace a0 := cell_on hb a0; replace a1 := cell_on hb a1; replace a2 := cell_on hb a2; replace b0 := cell_on hb b0; replace b1 := cell_on hb b1; replace b2 := cell_on hb b2; replace h2 := rowCh_on hb h2; clear hb; dsimp only) | (go_at_call 15; have _ : rowCh _ _ (insL (insL L a) b) := h2; refine (put_row L b _ _ hm (by omega)).mono ?_; rintro e w3 ⟨u3, rfl, h3, hb⟩; replace hB := below_on hB (Nat.le_refl _) hb; replace a0 := cell_on hb a0; replace a1 := cell_on hb a1; replace a2 := cell_on hb a2; replace b0 := cell_on hb b0; replace b1 := cell_on hb b1; replace b2 := cell_on hb b2; replace h2 := rowCh_on hb h2; clear hb; dsimp only) | (go_at_call 15; have _ : rowCh _ _ (insL L a) := h1; refine (put_row (insL L a) b _ _ h1 (by omega)).mono ?_; rintro e w2 ⟨u2, rfl, h2, hb⟩; replace hB := below_on hB (Nat.le_refl _) hb; replace a0 := cell_on hb a0; replace a1 := cell_on hb a1; replace a2 := cell_on hb a2; replace b0 := cell_on hb b0; replace b1 := cell_on hb b1; replace b2 := cell_on hb b2; replace hm := rowCh_on hb hm; clear hb; dsimp only) | (go_at_call 15; refine (put_row L a _ _ (rowCh_drew hm) (by omega)).mono ?_; rintro e w1 ⟨u1, rfl, h1, hb⟩; replace hb := below_on (Below.refl wr.heap.size wr).drew (Nat.le_refl _) hb; replace hB := below_on hB (Nat.le_refl _) hb; replace a0 := cell_on hb a0; replace a1 := cell_on hb a1; replace a2 := cell_on hb a2; replace b0 := cell_on hb b0; replace b1 := cell_on hb b1; replace b2 := cell_on hb b2; replace hm := rowCh_on hb hm; clear hb; dsimp only))
            go_wp2
            go_ret
            exact ⟨rfl, hB⟩
        · go_wp2
          go_loopw [15] (fun i wr => ∃ k : Nat, 1 ≤ k ∧ i = .int .i64 k ∧ Below w.heap.size w wr ∧ chgsAt wr g 0 L ∧ wr.cell? ⟨w.heap.size, 0, none⟩ = some (.string a.key) ∧ wr.cell? ⟨w.heap.size, 1, none⟩ = some (.string a.val) ∧ wr.cell? ⟨w.heap.size, 2, none⟩ = some (.bool a.gone) ∧ wr.cell? ⟨w.heap.size + 1, 0, none⟩ = some (.string b.key) ∧ wr.cell? ⟨w.heap.size + 1, 1, none⟩ = some (.string b.val) ∧ wr.cell? ⟨w.heap.size + 1, 2, none⟩ = some (.bool b.gone)) (fun i _ => L.length - (intOf i).toNat)
          case atStart => exact ⟨1, Nat.le_refl _, rfl, hB, hm, a0, a1, a2, b0, b1, b2⟩
          case round =>
            clear hB a0 a1 a2 b0 b1 b2 hm
            rename_i kk _ _ _ _
            obtain ⟨k, hk1, rfl, hB, hm, a0, a1, a2, b0, b1, b2⟩ := hrel
            by_cases hlt : k < L.length
            · obtain ⟨j, hj⟩ : ∃ j, j + 1 = k := ⟨k - 1, by omega⟩
              have hjl : j < L.length := by omega
              have hle : leS L[k].key L[j].key = false := by subst hj; exact rises_at HR.out hlt
              obtain ⟨c0, _, _⟩ := hm k hlt
              obtain ⟨d0, _, _⟩ := hm j hjl
              have hle' : (Op.bytesLess L[k].key.toList L[j].key.toList || L[k].key.toList == L[j].key.toList) = false := hle
              rw [Bool.or_eq_false_iff] at hle'
              obtain ⟨q1, q2⟩ := hle'
              rw [Nat.zero_add] at c0 d0
              have e2 : (k : Int) - 1 = (j : Int) := by omega
              have e3 : wrap64 (j : Int) = (j : Int) := wrap_small (by omega) (by omega)
              have e4 : wrap64 ((k : Int) - 1) = (j : Int) := by rw [e2, e3]
              have e5 : (k : Int) < (L.length : Int) := by omega
              have e6 : (j : Int) < (L.length : Int) := by omega
              clear hle hj
              have e7 : (0 : Int) ≤ (j : Int) := by omega
              go_wp2
              have nS := OnW.some wr
              have n0 : ∀ n : OnW wr, n.w.cell? ⟨g, k * 3, none⟩ = some (.string L[k].key) := fun n => n.cell c0
              have n1 : ∀ n : OnW wr, n.w.cell? ⟨g, j * 3, none⟩ = some (.string L[j].key) := fun n => n.cell d0
              refine wp_region_on (by kernel_rfl) (by kernel_rfl) ?_
              repeat (go_big_quiet_step (fail))
              refine wpQuiet_nil ?_
              intro w3 hw3
              replace hw3 := on_end hw3
              go_wp2
              go_roundw
              case rel => exact ⟨k + 1, by omega, by go_num, below_on hB (Nat.le_refl _) hw3, chgsAt_on hw3 hm, cell_on hw3 a0, cell_on hw3 a1, cell_on hw3 a2, cell_on hw3 b0, cell_on hw3 b1, cell_on hw3 b2⟩
              case measure => simp [intOf]; omega
            · have e5 : ¬ (k : Int) < (L.length : Int) := by omega
              replace hm : rowCh wr (.slice (some ⟨g, 0, none⟩) L.length mcap) L := .inr ⟨g, mcap, rfl, hm1, hm2, hm⟩
              have h1 : True := trivial
              have h2 : True := trivial
              have h3 : True := trivial
              have h4 : True := trivial
              have i1 := ins_length L a
              have i2 := ins_length L b
              have i3 := ins_length (insL L a) b
              have i4 := ins_length (insL L b) a
              by_cases hkey : a.key = b.key
              · have HS : Hid (insL L b = insL (insL L a) b) := (ins_same hkey L).symm
                have hq : (a.key.toList == b.key.toList) = true := by rw [hkey]; exact eqS_refl _
                clear hkey
                go_wp2
                go_region_held3 (fun w' => w'.cell? ⟨w.heap.size, 0, none⟩ = some (.string a.key) ∧ w'.cell? ⟨w.heap.size, 1, none⟩ = some (.string a.val) ∧ w'.cell? ⟨w.heap.size, 2, none⟩ = some (.bool a.gone) ∧ w'.cell? ⟨w.heap.size + 1, 0, none⟩ = some (.string b.key) ∧ w'.cell? ⟨w.heap.size + 1, 1, none⟩ = some (.string b.val) ∧ w'.cell? ⟨w.heap.size + 1, 2, none⟩ = some (.bool b.gone)) (first | exact ⟨a0, a1, a2, b0, b1, b2⟩ | go_keep) (first | (go_at_call 17; refine (same_row (insL (insL L a) b) _ _ _ h2 (HS.out ▸ h3) (ins_some _ _) (by omega)).mono ?_; rintro e w5 ⟨rfl, hb⟩; replace hB := below_on hB (Nat.le_refl _) hb; replace a0 := cell_on hb a0; replace a1 := cell_on hb a1; replace a2 := cell_on hb a2; replace b0 := cell_on hb b0; replace b1 := cell_on hb b1; replace b2 := cell_on hb b2; clear hb) | (go_at_call 15; have _ : rowCh _ _ (insL (insL L a) b) := h2; refine (put_row L b _ _ hm (by omega)).mono ?_; rintro e w3 ⟨u3, rfl, h3, hb⟩; replace hB := below_on hB (Nat.le_refl _) hb; replace a0 := cell_on hb a0; replace a1 := cell_on hb a1; replace a2 := cell_on hb a2; replace b0 := cell_on hb b0; replace b1 := cell_on hb b1; replace b2 := cell_on hb b2; replace h2 := rowCh_on hb h2; clear hb; dsimp only) | (go_at_call 15; have _ : rowCh _ _ (insL L a) := h1; refine (put_row (insL L a) b _ _ h1 (by omega)).mono ?_; rintro e w2 ⟨u2, rfl, h2, hb⟩; replace hB := below_on hB (Nat.le_refl _) hb; replace a0 := cell_on hb a0; replace a1 := cell_on hb a1; replace a2 := cell_on hb a2; replace b0 := cell_on hb b0; replace b1 := cell_on hb b1; replace b2 := cell_on hb b2; replace hm := rowCh_on hb hm; clear hb; dsimp only) | (go_at_call 15; refine (put_row L a _ _ (rowCh_drew hm) (by omega)).mono ?_; rintro e w1 ⟨u1, rfl, h1, hb⟩; replace hb := below_on (Below.refl wr.heap.size wr).drew (Nat.le_refl _) hb; replace hB := below_on hB (Nat.le_refl _) hb; replace a0 := cell_on hb a0; replace a1 := cell_on hb a1; replace a2 := cell_on hb a2; replace b0 := cell_on hb b0; replace b1 := cell_on hb b1; replace b2 := cell_on hb b2; replace hm := rowCh_on hb hm; clear hb; dsimp only))
                go_wp2
                go_ret
                exact ⟨rfl, hB⟩
              · have HS : Hid (insL (insL L b) a = insL (insL L a) b) := (ins_swap hkey L).symm
                have hq : (a.key.toList == b.key.toList) = false := Bool.eq_false_iff.2 fun hh => hkey ((eqS_iff _ _).1 hh)
                clear hkey
                go_wp2
                go_region_held3 (fun w' => w'.cell? ⟨w.heap.size, 0, none⟩ = some (.string a.key) ∧ w'.cell? ⟨w.heap.size, 1, none⟩ = some (.string a.val) ∧ w'.cell? ⟨w.heap.size, 2, none⟩ = some (.bool a.gone) ∧ w'.cell? ⟨w.heap.size + 1, 0, none⟩ = some (.string b.key) ∧ w'.cell? ⟨w.heap.size + 1, 1, none⟩ = some (.string b.val) ∧ w'.cell? ⟨w.heap.size + 1, 2, none⟩ = some (.bool b.gone)) (first | exact ⟨a0, a1, a2, b0, b1, b2⟩ | go_keep) (first | (go_at_call 17; refine (same_row (insL (insL L a) b) _ _ _ h2 (HS.out ▸ h4) (ins_some _ _) (by omega)).mono ?_; rintro e w5 ⟨rfl, hb⟩; replace hB := below_on hB (Nat.le_refl _) hb; replace a0 := cell_on hb a0; replace a1 := cell_on hb a1; replace a2 := cell_on hb a2; replace b0 := cell_on hb b0; replace b1 := cell_on hb b1; replace b2 := cell_on hb b2; clear hb) | (go_at_call 15; have _ : rowCh _ _ (insL L b) := h3; refine (put_row (insL L b) a _ _ h3 (by omega)).mono ?_; rintro e w4 ⟨u4, rfl, h4, hb⟩; replace hB := below_on hB (Nat.le_refl _) hb; replace a0 := cell_on hb a0; replace a1 := cell_on hb a1; replace a2 := cell_on hb a2; replace b0 := cell_on hb b0; replace b1 := cell_on hb b1; replace b2 := cell_on hb b2; replace h2 := rowCh_on hb h2; clear hb; dsimp only) | (go_at_call 15; have _ : rowCh _ _ (insL (insL L a) b) := h2; refine (put_row L b _ _ hm (by omega)).mono ?_; rintro e w3 ⟨u3, rfl, h3, hb⟩; replace hB := below_on hB (Nat.le_refl _) hb; replace a0 := cell_on hb a0; replace a1 := cell_on hb a1; replace a2 := cell_on hb a2; replace b0 := cell_on hb b0; replace b1 := cell_on hb b1; replace b2 := cell_on hb b2; replace h2 := rowCh_on hb h2; clear hb; dsimp only) | (go_at_call 15; have _ : rowCh _ _ (insL L a) := h1; refine (put_row (insL L a) b _ _ h1 (by omega)).mono ?_; rintro e w2 ⟨u2, rfl, h2, hb⟩; replace hB := below_on hB (Nat.le_refl _) hb; replace a0 := cell_on hb a0; replace a1 := cell_on hb a1; replace a2 := cell_on hb a2; replace b0 := cell_on hb b0; replace b1 := cell_on hb b1; replace b2 := cell_on hb b2; replace hm := rowCh_on hb hm; clear hb; dsimp only) | (go_at_call 15; refine (put_row L a _ _ (rowCh_drew hm) (by omega)).mono ?_; rintro e w1 ⟨u1, rfl, h1, hb⟩; replace hb := below_on (Below.refl wr.heap.size wr).drew (Nat.le_refl _) hb; replace hB := below_on hB (Nat.le_refl _) hb; replace a0 := cell_on hb a0; replace a1 := cell_on hb a1; replace a2 := cell_on hb a2; replace b0 := cell_on hb b0; replace b1 := cell_on hb b1; replace b2 := cell_on hb b2; replace hm := rowCh_on hb hm; clear hb; dsimp only))
                go_wp2
                go_ret
                exact ⟨rfl, hB⟩
  · clear HT
    go_enter Try.func4, Try.ntmps4
    go_wp2_with (first
      | (go_at_call_of 12 (Value.agg #[Value.string ⟨#[116, 47, 97]⟩, Value.string ⟨#[]⟩, Value.bool true]); refine (one_bytes _).mono ?_; rintro e w1 ⟨rfl, hb⟩; replace hB := below_on hB (Nat.le_refl _) hb; replace a0 := cell_on hb a0; replace a1 := cell_on hb a1; replace a2 := cell_on hb a2; replace b0 := cell_on hb b0; replace b1 := cell_on hb b1; replace b2 := cell_on hb b2; clear hb)
      | (go_at_call 12; refine (chg_bytes a _ (by omega) (by omega) fa HG.out).mono ?_; rintro e w1 ⟨rfl, hb⟩; simp only [if_neg h0, errV]; replace hB := below_on hB (Nat.le_refl _) hb; replace a0 := cell_on hb a0; replace a1 := cell_on hb a1; replace a2 := cell_on hb a2; replace b0 := cell_on hb b0; replace b1 := cell_on hb b1; replace b2 := cell_on hb b2; clear hb)
      | (go_at_call_of 13 (Value.slice ao l.length cap); refine (light_held l 30 cap ao _ (heldCh_on hB HL.out) (by omega)).mono ?_; rintro e w2 ⟨rfl, rfl⟩)
      | (go_at_call 13; refine (light_two _ a b).mono ?_; rintro e w1 ⟨rfl, hb⟩; replace hB := below_on hB (Nat.le_refl _) hb; replace a0 := cell_on hb a0; replace a1 := cell_on hb a1; replace a2 := cell_on hb a2; replace b0 := cell_on hb b0; replace b1 := cell_on hb b1; replace b2 := cell_on hb b2; clear hb))
    go_loopw [11, 12] (fun m i wr => ∃ (k : Nat) (L : List Chg), k ≤ l.length ∧ i = .int .i64 k ∧ rowCh wr m L ∧ rises L ∧ L.length ≤ k ∧ Below w.heap.size w wr ∧ wr.cell? ⟨w.heap.size, 0, none⟩ = some (.string a.key) ∧ wr.cell? ⟨w.heap.size, 1, none⟩ = some (.string a.val) ∧ wr.cell? ⟨w.heap.size, 2, none⟩ = some (.bool a.gone) ∧ wr.cell? ⟨w.heap.size + 1, 0, none⟩ = some (.string b.key) ∧ wr.cell? ⟨w.heap.size + 1, 1, none⟩ = some (.string b.val) ∧ wr.cell? ⟨w.heap.size + 1, 2, none⟩ = some (.bool b.gone)) (fun _ i _ => l.length - (intOf i).toNat)
    case atStart => exact ⟨0, [], Nat.zero_le _, rfl, .inl ⟨rfl, rfl⟩, List.Pairwise.nil, Nat.le_refl _, hB, a0, a1, a2, b0, b1, b2⟩
    case round =>
      clear hB a0 a1 a2 b0 b1 b2
      obtain ⟨k, L, hk, rfl, hm, hr, hL, hB, a0, a1, a2, b0, b1, b2⟩ := hrel
      by_cases hlt : k < l.length
      · rcases heldCh_on hB HL.out with rfl | ⟨g, off, rfl, hc⟩
        · simp at hlt
        obtain ⟨c0, c1, c2⟩ := hc k hlt
        have hil := ins_length L l[k]
        have HR := hide (ins_rises l[k] hr)
        have hlt' : (k : Int) < (l.length : Int) := by omega
        clear hc hr
        go_wp2_with (first
          | (go_at_call 15; refine (put_row L l[k] _ _ hm (by omega)).mono ?_; rintro e w1 ⟨u, rfl, hu, hb⟩; replace hB := below_on hB (Nat.le_refl _) hb; replace a0 := cell_on hb a0; replace a1 := cell_on hb a1; replace a2 := cell_on hb a2; replace b0 := cell_on hb b0; replace b1 := cell_on hb b1; replace b2 := cell_on hb b2; replace c0 := cell_on hb c0; replace c1 := cell_on hb c1; replace c2 := cell_on hb c2; replace hm := hu; clear hb hu; dsimp only)
          | (go_at_call 16; refine (find_row L l[k] _ _ hm (by omega)).mono ?_; rintro e w1 ⟨rfl, hb⟩; replace hB := below_on hB (Nat.le_refl _) hb; replace a0 := cell_on hb a0; replace a1 := cell_on hb a1; replace a2 := cell_on hb a2; replace b0 := cell_on hb b0; replace b1 := cell_on hb b1; replace b2 := cell_on hb b2; replace c0 := cell_on hb c0; replace c1 := cell_on hb c1; replace c2 := cell_on hb c2; replace hm := rowCh_on hb hm; clear hb; have hb := below_alloc1 w1 (Obj.cells #[Value.string l[k].key, Value.string l[k].val, Value.bool l[k].gone] 35); have x0 : (w1.alloc (Obj.cells #[Value.string l[k].key, Value.string l[k].val, Value.bool l[k].gone] 35)).cell? ⟨w1.heap.size, 0, none⟩ = some (.string l[k].key) := cell_new _ _ _ 0; have x1 : (w1.alloc (Obj.cells #[Value.string l[k].key, Value.string l[k].val, Value.bool l[k].gone] 35)).cell? ⟨w1.heap.size, 1, none⟩ = some (.string l[k].val) := cell_new _ _ _ 1; have x2 : (w1.alloc (Obj.cells #[Value.string l[k].key, Value.string l[k].val, Value.bool l[k].gone] 35)).cell? ⟨w1.heap.size, 2, none⟩ = some (.bool l[k].gone) := cell_new _ _ _ 2; replace hB := below_on hB (Nat.le_refl _) hb; replace a0 := cell_on hb a0; replace a1 := cell_on hb a1; replace a2 := cell_on hb a2; replace b0 := cell_on hb b0; replace b1 := cell_on hb b1; replace b2 := cell_on hb b2; replace c0 := cell_on hb c0; replace c1 := cell_on hb c1; replace c2 := cell_on hb c2; replace hm := rowCh_on hb hm; clear hb))
        go_quiet (fail)
        go_wp2
        go_roundw
        case rel => exact ⟨k + 1, insL L l[k], by omega, by go_num, rowCh_on (below_draws _ _ _) hm, HR.out, by omega, hB.trans (below_draws _ _ _), a0, a1, a2, b0, b1, b2⟩
        case measure => simp [intOf]; omega
      · have hlt' : ¬ (k : Int) < (l.length : Int) := by omega
        have HR := hide hr
        clear hr
        rcases hm with ⟨rfl, hL0⟩ | ⟨g, mcap, rfl, hm1, hm2, hm⟩
        · go_wp2
          refine wp_loop_rounds 1 ?_
          rw [rounds_succ]
          have hm : rowCh wr (.slice none 0 0) L := .inl ⟨rfl, hL0⟩
          clear hL0
          have h1 : True := trivial
          have h2 : True := trivial
          have h3 : True := trivial
          have h4 : True := trivial
          have i1 := ins_length L a
          have i2 := ins_length L b
          have i3 := ins_length (insL L a) b
          have i4 := ins_length (insL L b) a
          by_cases hkey : a.key = b.key
          · have HS : Hid (insL L b = insL (insL L a) b) := (ins_same hkey L).symm
            have hq : (a.key.toList == b.key.toList) = true := by rw [hkey]; exact eqS_refl _
            clear hkey
            go_wp2
            go_region_held3 (fun w' => w'.cell? ⟨w.heap.size, 0, none⟩ = some (.string a.key) ∧ w'.cell? ⟨w.heap.size, 1, none⟩ = some (.string a.val) ∧ w'.cell? ⟨w.heap.size, 2, none⟩ = some (.bool a.gone) ∧ w'.cell? ⟨w.heap.size + 1, 0, none⟩ = some (.string b.key) ∧ w'.cell? ⟨w.heap.size + 1, 1, none⟩ = some (.string b.val) ∧ w'.cell? ⟨w.heap.size + 1, 2, none⟩ = some (.bool b.gone)) (first | exact ⟨a0, a1, a2, b0, b1, b2⟩ | go_keep) (first | (go_at_call 17; refine (same_row (insL (insL L a) b) _ _ _ h2 (HS.out ▸ h3) (ins_some _ _) (by omega)).mono ?_; rintro e w5 ⟨rfl, hb⟩; replace hB := below_on hB (Nat.le_refl _) hb; replace a0 := cell_on hb a0; replace a1 := cell_on hb a1; replace a2 := cell_on hb a2; replace b0 := cell_on hb b0; replace b1 := cell_on hb b1; replace b2 := cell_on hb b2; clear hb) | (go_at_call 15; have _ : rowCh _ _ (insL (insL L a) b) := h2; refine (put_row L b _ _ hm (by omega)).mono ?_; rintro e w3 ⟨u3, rfl, h3, hb⟩; replace hB := below_on hB (Nat.le_refl _) hb; replace a0 := cell_on hb a0; replace a1 := cell_on hb a1; replace a2 := cell_on hb a2; replace b0 := cell_on hb b0; replace b1 := cell_on hb b1; replace b2 := cell_on hb b2; replace h2 := rowCh_on hb h2; clear hb; dsimp only) | (go_at_call 15; have _ : rowCh _ _ (insL L a) := h1; refine (put_row (insL L a) b _ _ h1 (by omega)).mono ?_; rintro e w2 ⟨u2, rfl, h2, hb⟩; replace hB := below_on hB (Nat.le_refl _) hb; replace a0 := cell_on hb a0; replace a1 := cell_on hb a1; replace a2 := cell_on hb a2; replace b0 := cell_on hb b0; replace b1 := cell_on hb b1; replace b2 := cell_on hb b2; replace hm := rowCh_on hb hm; clear hb; dsimp only) | (go_at_call 15; refine (put_row L a _ _ (rowCh_drew hm) (by omega)).mono ?_; rintro e w1 ⟨u1, rfl, h1, hb⟩; replace hb := below_on (Below.refl wr.heap.size wr).drew (Nat.le_refl _) hb; replace hB := below_on hB (Nat.le_refl _) hb; replace a0 := cell_on hb a0; replace a1 := cell_on hb a1; replace a2 := cell_on hb a2; replace b0 := cell_on hb b0; replace b1 := cell_on hb b1; replace b2 := cell_on hb b2; replace hm := rowCh_on hb hm; clear hb; dsimp only))
            go_wp2
            go_ret
            exact ⟨rfl, hB⟩
          · have HS : Hid (insL (insL L b) a = insL (insL L a) b) := (ins_swap hkey L).symm
            have hq : (a.key.toList == b.key.toList) = false := Bool.eq_false_iff.2 fun hh => hkey ((eqS_iff _ _).1 hh)
            clear hkey
            go_wp2
            go_region_held3 (fun w' => w'.cell? ⟨w.heap.size, 0, none⟩ = some (.string a.key) ∧ w'.cell? ⟨w.heap.size, 1, none⟩ = some (.string a.val) ∧ w'.cell? ⟨w.heap.size, 2, none⟩ = some (.bool a.gone) ∧ w'.cell? ⟨w.heap.size + 1, 0, none⟩ = some (.string b.key) ∧ w'.cell? ⟨w.heap.size + 1, 1, none⟩ = some (.string b.val) ∧ w'.cell? ⟨w.heap.size + 1, 2, none⟩ = some (.bool b.gone)) (first | exact ⟨a0, a1, a2, b0, b1, b2⟩ | go_keep) (first | (go_at_call 17; refine (same_row (insL (insL L a) b) _ _ _ h2 (HS.out ▸ h4) (ins_some _ _) (by omega)).mono ?_; rintro e w5 ⟨rfl, hb⟩; replace hB := below_on hB (Nat.le_refl _) hb; replace a0 := cell_on hb a0; replace a1 := cell_on hb a1; replace a2 := cell_on hb a2; replace b0 := cell_on hb b0; replace b1 := cell_on hb b1; replace b2 := cell_on hb b2; clear hb) | (go_at_call 15; have _ : rowCh _ _ (insL L b) := h3; refine (put_row (insL L b) a _ _ h3 (by omega)).mono ?_; rintro e w4 ⟨u4, rfl, h4, hb⟩; replace hB := below_on hB (Nat.le_refl _) hb; replace a0 := cell_on hb a0; replace a1 := cell_on hb a1; replace a2 := cell_on hb a2; replace b0 := cell_on hb b0; replace b1 := cell_on hb b1; replace b2 := cell_on hb b2; replace h2 := rowCh_on hb h2; clear hb; dsimp only) | (go_at_call 15; have _ : rowCh _ _ (insL (insL L a) b) := h2; refine (put_row L b _ _ hm (by omega)).mono ?_; rintro e w3 ⟨u3, rfl, h3, hb⟩; replace hB := below_on hB (Nat.le_refl _) hb; replace a0 := cell_on hb a0; replace a1 := cell_on hb a1; replace a2 := cell_on hb a2; replace b0 := cell_on hb b0; replace b1 := cell_on hb b1; replace b2 := cell_on hb b2; replace h2 := rowCh_on hb h2; clear hb; dsimp only) | (go_at_call 15; have _ : rowCh _ _ (insL L a) := h1; refine (put_row (insL L a) b _ _ h1 (by omega)).mono ?_; rintro e w2 ⟨u2, rfl, h2, hb⟩; replace hB := below_on hB (Nat.le_refl _) hb; replace a0 := cell_on hb a0; replace a1 := cell_on hb a1; replace a2 := cell_on hb a2; replace b0 := cell_on hb b0; replace b1 := cell_on hb b1; replace b2 := cell_on hb b2; replace hm := rowCh_on hb hm; clear hb; dsimp only) | (go_at_call 15; refine (put_row L a _ _ (rowCh_drew hm) (by omega)).mono ?_; rintro e w1 ⟨u1, rfl, h1, hb⟩; replace hb := below_on (Below.refl wr.heap.size wr).drew (Nat.le_refl _) hb; replace hB := below_on hB (Nat.le_refl _) hb; replace a0 := cell_on hb a0; replace a1 := cell_on hb a1; replace a2 := cell_on hb a2; replace b0 := cell_on hb b0; replace b1 := cell_on hb b1; replace b2 := cell_on hb b2; replace hm := rowCh_on hb hm; clear hb; dsimp only))
            go_wp2
            go_ret
            exact ⟨rfl, hB⟩
        · go_wp2
          go_loopw [15] (fun i wr => ∃ k : Nat, 1 ≤ k ∧ i = .int .i64 k ∧ Below w.heap.size w wr ∧ chgsAt wr g 0 L ∧ wr.cell? ⟨w.heap.size, 0, none⟩ = some (.string a.key) ∧ wr.cell? ⟨w.heap.size, 1, none⟩ = some (.string a.val) ∧ wr.cell? ⟨w.heap.size, 2, none⟩ = some (.bool a.gone) ∧ wr.cell? ⟨w.heap.size + 1, 0, none⟩ = some (.string b.key) ∧ wr.cell? ⟨w.heap.size + 1, 1, none⟩ = some (.string b.val) ∧ wr.cell? ⟨w.heap.size + 1, 2, none⟩ = some (.bool b.gone)) (fun i _ => L.length - (intOf i).toNat)
          case atStart => exact ⟨1, Nat.le_refl _, rfl, hB, hm, a0, a1, a2, b0, b1, b2⟩
          case round =>
            clear hB a0 a1 a2 b0 b1 b2 hm
            rename_i kk _ _ _ _
            obtain ⟨k, hk1, rfl, hB, hm, a0, a1, a2, b0, b1, b2⟩ := hrel
            by_cases hlt : k < L.length
            · obtain ⟨j, hj⟩ : ∃ j, j + 1 = k := ⟨k - 1, by omega⟩
              have hjl : j < L.length := by omega
              have hle : leS L[k].key L[j].key = false := by subst hj; exact rises_at HR.out hlt
              obtain ⟨c0, _, _⟩ := hm k hlt
              obtain ⟨d0, _, _⟩ := hm j hjl
              have hle' : (Op.bytesLess L[k].key.toList L[j].key.toList || L[k].key.toList == L[j].key.toList) = false := hle
              rw [Bool.or_eq_false_iff] at hle'
              obtain ⟨q1, q2⟩ := hle'
              rw [Nat.zero_add] at c0 d0
              have e2 : (k : Int) - 1 = (j : Int) := by omega
              have e3 : wrap64 (j : Int) = (j : Int) := wrap_small (by omega) (by omega)
              have e4 : wrap64 ((k : Int) - 1) = (j : Int) := by rw [e2, e3]
              have e5 : (k : Int) < (L.length : Int) := by omega
              have e6 : (j : Int) < (L.length : Int) := by omega
              clear hle hj
              have e7 : (0 : Int) ≤ (j : Int) := by omega
              go_wp2
              have nS := OnW.some wr
              have n0 : ∀ n : OnW wr, n.w.cell? ⟨g, k * 3, none⟩ = some (.string L[k].key) := fun n => n.cell c0
              have n1 : ∀ n : OnW wr, n.w.cell? ⟨g, j * 3, none⟩ = some (.string L[j].key) := fun n => n.cell d0
              refine wp_region_on (by kernel_rfl) (by kernel_rfl) ?_
              repeat (go_big_quiet_step (fail))
              refine wpQuiet_nil ?_
              intro w3 hw3
              replace hw3 := on_end hw3
              go_wp2
              go_roundw
              case rel => exact ⟨k + 1, by omega, by go_num, below_on hB (Nat.le_refl _) hw3, chgsAt_on hw3 hm, cell_on hw3 a0, cell_on hw3 a1, cell_on hw3 a2, cell_on hw3 b0, cell_on hw3 b1, cell_on hw3 b2⟩
              case measure => simp [intOf]; omega
            · have e5 : ¬ (k : Int) < (L.length : Int) := by omega
              replace hm : rowCh wr (.slice (some ⟨g, 0, none⟩) L.length mcap) L := .inr ⟨g, mcap, rfl, hm1, hm2, hm⟩
              have h1 : True := trivial
              have h2 : True := trivial
              have h3 : True := trivial
              have h4 : True := trivial
              have i1 := ins_length L a
              have i2 := ins_length L b
              have i3 := ins_length (insL L a) b
              have i4 := ins_length (insL L b) a
              by_cases hkey : a.key = b.key
              · have HS : Hid (insL L b = insL (insL L a) b) := (ins_same hkey L).symm
                have hq : (a.key.toList == b.key.toList) = true := by rw [hkey]; exact eqS_refl _
                clear hkey
                go_wp2
                go_region_held3 (fun w' => w'.cell? ⟨w.heap.size, 0, none⟩ = some (.string a.key) ∧ w'.cell? ⟨w.heap.size, 1, none⟩ = some (.string a.val) ∧ w'.cell? ⟨w.heap.size, 2, none⟩ = some (.bool a.gone) ∧ w'.cell? ⟨w.heap.size + 1, 0, none⟩ = some (.string b.key) ∧ w'.cell? ⟨w.heap.size + 1, 1, none⟩ = some (.string b.val) ∧ w'.cell? ⟨w.heap.size + 1, 2, none⟩ = some (.bool b.gone)) (first | exact ⟨a0, a1, a2, b0, b1, b2⟩ | go_keep) (first | (go_at_call 17; refine (same_row (insL (insL L a) b) _ _ _ h2 (HS.out ▸ h3) (ins_some _ _) (by omega)).mono ?_; rintro e w5 ⟨rfl, hb⟩; replace hB := below_on hB (Nat.le_refl _) hb; replace a0 := cell_on hb a0; replace a1 := cell_on hb a1; replace a2 := cell_on hb a2; replace b0 := cell_on hb b0; replace b1 := cell_on hb b1; replace b2 := cell_on hb b2; clear hb) | (go_at_call 15; have _ : rowCh _ _ (insL (insL L a) b) := h2; refine (put_row L b _ _ hm (by omega)).mono ?_; rintro e w3 ⟨u3, rfl, h3, hb⟩; replace hB := below_on hB (Nat.le_refl _) hb; replace a0 := cell_on hb a0; replace a1 := cell_on hb a1; replace a2 := cell_on hb a2; replace b0 := cell_on hb b0; replace b1 := cell_on hb b1; replace b2 := cell_on hb b2; replace h2 := rowCh_on hb h2; clear hb; dsimp only) | (go_at_call 15; have _ : rowCh _ _ (insL L a) := h1; refine (put_row (insL L a) b _ _ h1 (by omega)).mono ?_; rintro e w2 ⟨u2, rfl, h2, hb⟩; replace hB := below_on hB (Nat.le_refl _) hb; replace a0 := cell_on hb a0; replace a1 := cell_on hb a1; replace a2 := cell_on hb a2; replace b0 := cell_on hb b0; replace b1 := cell_on hb b1; replace b2 := cell_on hb b2; replace hm := rowCh_on hb hm; clear hb; dsimp only) | (go_at_call 15; refine (put_row L a _ _ (rowCh_drew hm) (by omega)).mono ?_; rintro e w1 ⟨u1, rfl, h1, hb⟩; replace hb := below_on (Below.refl wr.heap.size wr).drew (Nat.le_refl _) hb; replace hB := below_on hB (Nat.le_refl _) hb; replace a0 := cell_on hb a0; replace a1 := cell_on hb a1; replace a2 := cell_on hb a2; replace b0 := cell_on hb b0; replace b1 := cell_on hb b1; replace b2 := cell_on hb b2; replace hm := rowCh_on hb hm; clear hb; dsimp only))
                go_wp2
                go_ret
                exact ⟨rfl, hB⟩
              · have HS : Hid (insL (insL L b) a = insL (insL L a) b) := (ins_swap hkey L).symm
                have hq : (a.key.toList == b.key.toList) = false := Bool.eq_false_iff.2 fun hh => hkey ((eqS_iff _ _).1 hh)
                clear hkey
                go_wp2
                go_region_held3 (fun w' => w'.cell? ⟨w.heap.size, 0, none⟩ = some (.string a.key) ∧ w'.cell? ⟨w.heap.size, 1, none⟩ = some (.string a.val) ∧ w'.cell? ⟨w.heap.size, 2, none⟩ = some (.bool a.gone) ∧ w'.cell? ⟨w.heap.size + 1, 0, none⟩ = some (.string b.key) ∧ w'.cell? ⟨w.heap.size + 1, 1, none⟩ = some (.string b.val) ∧ w'.cell? ⟨w.heap.size + 1, 2, none⟩ = some (.bool b.gone)) (first | exact ⟨a0, a1, a2, b0, b1, b2⟩ | go_keep) (first | (go_at_call 17; refine (same_row (insL (insL L a) b) _ _ _ h2 (HS.out ▸ h4) (ins_some _ _) (by omega)).mono ?_; rintro e w5 ⟨rfl, hb⟩; replace hB := below_on hB (Nat.le_refl _) hb; replace a0 := cell_on hb a0; replace a1 := cell_on hb a1; replace a2 := cell_on hb a2; replace b0 := cell_on hb b0; replace b1 := cell_on hb b1; replace b2 := cell_on hb b2; clear hb) | (go_at_call 15; have _ : rowCh _ _ (insL L b) := h3; refine (put_row (insL L b) a _ _ h3 (by omega)).mono ?_; rintro e w4 ⟨u4, rfl, h4, hb⟩; replace hB := below_on hB (Nat.le_refl _) hb; replace a0 := cell_on hb a0; replace a1 := cell_on hb a1; replace a2 := cell_on hb a2; replace b0 := cell_on hb b0; replace b1 := cell_on hb b1; replace b2 := cell_on hb b2; replace h2 := rowCh_on hb h2; clear hb; dsimp only) | (go_at_call 15; have _ : rowCh _ _ (insL (insL L a) b) := h2; refine (put_row L b _ _ hm (by omega)).mono ?_; rintro e w3 ⟨u3, rfl, h3, hb⟩; replace hB := below_on hB (Nat.le_refl _) hb; replace a0 := cell_on hb a0; replace a1 := cell_on hb a1; replace a2 := cell_on hb a2; replace b0 := cell_on hb b0; replace b1 := cell_on hb b1; replace b2 := cell_on hb b2; replace h2 := rowCh_on hb h2; clear hb; dsimp only) | (go_at_call 15; have _ : rowCh _ _ (insL L a) := h1; refine (put_row (insL L a) b _ _ h1 (by omega)).mono ?_; rintro e w2 ⟨u2, rfl, h2, hb⟩; replace hB := below_on hB (Nat.le_refl _) hb; replace a0 := cell_on hb a0; replace a1 := cell_on hb a1; replace a2 := cell_on hb a2; replace b0 := cell_on hb b0; replace b1 := cell_on hb b1; replace b2 := cell_on hb b2; replace hm := rowCh_on hb hm; clear hb; dsimp only) | (go_at_call 15; refine (put_row L a _ _ (rowCh_drew hm) (by omega)).mono ?_; rintro e w1 ⟨u1, rfl, h1, hb⟩; replace hb := below_on (Below.refl wr.heap.size wr).drew (Nat.le_refl _) hb; replace hB := below_on hB (Nat.le_refl _) hb; replace a0 := cell_on hb a0; replace a1 := cell_on hb a1; replace a2 := cell_on hb a2; replace b0 := cell_on hb b0; replace b1 := cell_on hb b1; replace b2 := cell_on hb b2; replace hm := rowCh_on hb hm; clear hb; dsimp only))
                go_wp2
                go_ret
                exact ⟨rfl, hB⟩
end Go.Proofs.Ytcaopggeainpnab
