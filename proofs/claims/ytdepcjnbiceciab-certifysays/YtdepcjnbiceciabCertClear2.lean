/-
  What History.Clear returns of a history that lies in memory (the whole of it).
-/
import Derived.Test.YtdepcjnbiceciabCertClear
namespace Go.Proofs.Ytdepcjnbiceciab
open Go.RowKit Go.Joins

def hitsV (reads : List (ByteArray × ByteArray)) (p : DeedL × Value) : Bool := hitsD reads p.1
theorem clear_dv (dv : List (DeedL × Value)) (reads : List (ByteArray × ByteArray)) (n : Int) : clearD (ofDV dv) reads n = (dv.drop (aboveD (ofDV dv) n)).all fun p => !hitsV reads p := by
  unfold clearD hitsV ofDV
  rw [← List.map_drop, List.all_map]
  rfl
theorem allv_take {l : List (DeedL × Value)} {f : DeedL × Value → Bool} {k : Nat} (hk : k < l.length) (h : (l.take k).all f = true) (h2 : f l[k] = true) : (l.take (k + 1)).all f = true := by
  rw [List.take_succ_eq_append_getElem hk, List.all_append, h]; simp [h2]
theorem allv_not {l : List (DeedL × Value)} {f : DeedL × Value → Bool} {k : Nat} (hk : k < l.length) (h : f l[k] = false) : l.all f = false := by
  rw [List.all_eq_false]; exact ⟨l[k], List.getElem_mem hk, by simp [h]⟩

set_option maxHeartbeats 2000000 in
theorem clear_any (dv : List (DeedL × Value)) (B hb : Nat) (v : Value) (n : Int) (l : List (ByteArray × ByteArray)) (ao : Option Addr) (cap : Nat) (w : World) (h : HistAt w B hb v dv) (hr : risesD (ofDV dv)) (hn : dv.length ≤ 1000) (hks : ∀ p ∈ dv, p.1.keys.length ≤ 1000000)
    (hl : heldSp w ao l) (hln : l.length ≤ maxLen) :
    Calls Try.prog 42 #[.pointer (some ⟨hb, 0, none⟩), .slice ao l.length cap, .int .i64 n] w fun e w' => e = .returned (.bool (clearD (ofDV dv) l n)) ∧ Below w.heap.size w w' := by
  have HC := hide (clear_dv dv l n)
  have hK : aboveD (ofDV dv) n ≤ dv.length := by have := aboveD_le (ofDV dv) n; simpa [ofDV] using this
  obtain ⟨K, hKe⟩ : ∃ K, aboveD (ofDV dv) n = K := ⟨_, rfl⟩
  rw [hKe] at HC hK
  have HK := hide hKe
  clear hKe
  have hb1 := below_alloc1 w (Obj.cells #[Value.slice ao l.length cap] 28)
  have HH := hide (h.on hb1)
  have HL := hide (heldSp_on hb1 hl)
  have HR := hide hr
  have cr : (w.alloc (Obj.cells #[Value.slice ao l.length cap] 28)).cell? ⟨w.heap.size, 0, none⟩ = some (.slice ao l.length cap) := cell_new _ _ _ 0
  have ch := HH.out.cell
  have HB := hide hb1
  clear h hl hr hb1
  rcases HH.out.form with ⟨rfl, rfl⟩ | ⟨g, gcap, rfl, _, _, hc1, hc2, _⟩
  · have hK0 : K = 0 := by simpa using hK
    subst hK0
    go_enter Try.func42, Try.ntmps42
    go_wp2
    generalize hX : w.alloc (Obj.cells #[Value.slice ao l.length cap] 28) = X at HH HL HB cr ch ⊢
    have nS := OnW.some X
    have n0 : ∀ m : OnW X, m.w.cell? ⟨hb, 0, none⟩ = some (.slice none 0 0) := fun m => m.cell ch
    refine wp_region_on (by kernel_rfl) (by kernel_rfl) ?_
    repeat (go_big_quiet_step ((first
      | (go_at_call 66; rename_i m; exact on_call (call_val (above_any [] B hb _ n _ (HH.out.on m.on) HR.out (by simp)) (show _ = Value.int .i64 0 by rw [HK.out]; rfl))))))
    refine wpQuiet_nil ?_
    intro w3 hw3
    replace hw3 := on_end hw3
    go_wp2
    refine wp_loop_rounds 1 ?_
    rw [rounds_succ]
    go_wp2
    go_ret
    exact ⟨ret_bool (by rw [HC.out]; rfl), below_on HB.out (Nat.le_refl _) hw3⟩
  · have hcK : K ≤ gcap := by omega
    have k0 : (0 : Int) ≤ (K : Int) := Int.natCast_nonneg _
    have k1 : (K : Int) ≤ (gcap : Int) := by omega
    rcases Nat.eq_or_lt_of_le hcK with hcc | hcc
    · subst hcc
      have hKl : dv.length = K := by omega
      go_enter Try.func42, Try.ntmps42
      go_wp2
      generalize hX : w.alloc (Obj.cells #[Value.slice ao l.length cap] 28) = X at HH HL HB cr ch ⊢
      have nS := OnW.some X
      have n0 : ∀ m : OnW X, m.w.cell? ⟨hb, 0, none⟩ = some (.slice (some ⟨g, 0, none⟩) dv.length K) := fun m => m.cell ch
      refine wp_region_on (by kernel_rfl) (by kernel_rfl) ?_
      repeat (go_big_quiet_step ((first
        | (go_at_call 66; rename_i m; exact on_call (call_val (above_any dv B hb _ n _ (HH.out.on m.on) HR.out (by omega)) (show _ = Value.int .i64 K by rw [HK.out]))))))
      refine wpQuiet_nil ?_
      intro w3 hw3
      replace hw3 := on_end hw3
      go_wp2
      refine wp_loop_rounds 1 ?_
      rw [rounds_succ]
      go_wp2
      go_ret
      exact ⟨ret_bool (by rw [HC.out, List.drop_eq_nil_of_le (by omega)]; rfl), below_on HB.out (Nat.le_refl _) hw3⟩
    · go_enter Try.func42, Try.ntmps42
      go_wp2
      generalize hX : w.alloc (Obj.cells #[Value.slice ao l.length cap] 28) = X at HH HL HB cr ch ⊢
      have nS := OnW.some X
      have n0 : ∀ m : OnW X, m.w.cell? ⟨hb, 0, none⟩ = some (.slice (some ⟨g, 0, none⟩) dv.length gcap) := fun m => m.cell ch
      refine wp_region_on (by kernel_rfl) (by kernel_rfl) ?_
      repeat (go_big_quiet_step ((first
        | (go_at_call 66; rename_i m; exact on_call (call_val (above_any dv B hb _ n _ (HH.out.on m.on) HR.out (by omega)) (show _ = Value.int .i64 K by rw [HK.out]))))))
      refine wpQuiet_nil ?_
      intro w3 hw3
      replace hw3 := on_end hw3
      clear n0 nS hX
      go_wp2
      go_loopw [18] (fun i wr => ∃ k : Nat, k ≤ dv.length - K ∧ i = .int .i64 k ∧ ((dv.drop K).take k).all (fun p => !hitsV l p) = true ∧ Below X.heap.size X wr) (fun i _ => dv.length - K - (intOf i).toNat)
      case atStart => exact ⟨0, Nat.zero_le _, rfl, by simp, hw3⟩
      case round =>
        obtain ⟨k, hk, rfl, hall, hB⟩ := hrel
        have HA := hide hall
        clear hall hw3
        by_cases hlt : k < dv.length - K
        · have hlt' : (k : Int) < ((dv.length - K : Nat) : Int) := by omega
          have hld : k < (dv.drop K).length := by rw [List.length_drop]; exact hlt
          have hHr := HH.out.on hB
          obtain ⟨c0, c1⟩ := hHr.deeds rfl (K + k) (by omega)
          have e2 : (K + k) * 2 = K * 2 + k * 2 := by omega
          rw [e2] at c0 c1
          have hmem : dv[K + k] ∈ dv := List.getElem_mem _
          have hkeys := hHr.keys _ hmem
          have hkl := hks _ hmem
          obtain ⟨xa, xl, xc, hval⟩ : ∃ xa xl xc, dv[K + k].2 = .slice xa xl xc := by
            rcases own_form hkeys with ⟨e, _⟩ | ⟨g', cap', e, _⟩
            · exact ⟨_, _, _, e⟩
            · exact ⟨_, _, _, e⟩
          rw [hval] at c1 hkeys
          clear hval
          have HE : Hid ((dv.drop K)[k] = dv[K + k]) := by unfold Hid; rw [List.getElem_drop]
          have crr := cell_on hB cr
          have HLr := hide (heldSp_on hB HL.out)
          have hbA := below_alloc1 wr (Obj.cells #[Value.int .i64 dv[K + k].1.n, Value.slice xa xl xc] 121)
          have HOr := hide (own_on hkeys hbA)
          have crA := cell_on hbA crr
          have HLA := hide (heldSp_on hbA HLr.out)
          have hBA := below_on hB (Nat.le_refl _) hbA
          clear hHr hkeys hmem e2 hbA crr
          cases hh : hitsV l dv[K + k] with
          | true =>
            have HH2 : Hid ((dv[K + k].1.keys.any fun k => l.any fun s => hasS s.1 s.2 k) = true) := hh
            clear hh
            go_wp2_with (go_at_call 67; refine (containsKeys_any B _ _ l ao cap _ _ HOr.out hkl crA HLA.out hln).mono ?_; rintro e w4 ⟨rfl, hb4⟩; rw [HH2.out]; replace hBA := below_on hBA (Nat.le_refl _) hb4; clear hb4)
            go_ret
            refine ⟨ret_bool ?_, below_on HB.out (Nat.le_refl _) hBA⟩
            rw [HC.out]
            exact (allv_not hld (by rw [HE.out]; show (!hitsV l dv[K + k]) = false; rw [show hitsV l dv[K + k] = true from HH2.out]; rfl)).symm
          | false =>
            have HH2 : Hid ((dv[K + k].1.keys.any fun k => l.any fun s => hasS s.1 s.2 k) = false) := hh
            clear hh
            go_wp2_with (go_at_call 67; refine (containsKeys_any B _ _ l ao cap _ _ HOr.out hkl crA HLA.out hln).mono ?_; rintro e w4 ⟨rfl, hb4⟩; rw [HH2.out]; replace hBA := below_on hBA (Nat.le_refl _) hb4; clear hb4)
            go_roundw
            case rel => exact ⟨k + 1, by omega, by go_num, allv_take hld HA.out (by rw [HE.out]; show (!hitsV l dv[K + k]) = true; rw [show hitsV l dv[K + k] = false from HH2.out]; rfl), hBA⟩
            case measure => simp [intOf]; omega
        · have hlt' : ¬ (k : Int) < ((dv.length - K : Nat) : Int) := by omega
          go_wp2
          go_ret
          refine ⟨ret_bool ?_, below_on HB.out (Nat.le_refl _) hB⟩
          have e : (dv.drop K).take k = dv.drop K := List.take_of_length_le (by rw [List.length_drop]; omega)
          have := HA.out
          rw [e] at this
          rw [HC.out, this]
end Go.Proofs.Ytdepcjnbiceciab
