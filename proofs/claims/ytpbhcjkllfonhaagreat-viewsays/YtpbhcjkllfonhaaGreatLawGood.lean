/-
  What haywainlaw.goodRows returns: true of few rows with short keys that rise alone. It changes nothing that was there.
-/
import Derived.Test.YtpbhcjkllfonhaaGreatGoodL
import Derived.Test.YtpbhcjkllfonhaaGreatRefKeyM
namespace Go.Proofs.YtpbhcjkllfonhaaGreat
open Go.RowKit Go.Joins

theorem keyFault_on (k : ByteArray) (w : World) (hn : k.size ≤ 1000) : Calls Tryz.prog 25 #[.string k] w fun e w' => e = .returned (.int .i64 (faultK k.data.toList)) ∧ Below w.heap.size w w' :=
  (keyFault_any k w hn).mono fun _ _ ⟨he, e⟩ => ⟨he, e ▸ Below.refl _ _⟩
set_option maxHeartbeats 4000000 in
theorem lawRows_some (l : List (ByteArray × ByteArray)) (b off cap : Nat) (w : World) (hl : spansAt w b off l) :
    Calls Tryz.prog 6 #[.slice (some ⟨b, off, none⟩) l.length cap] w fun e w' => goodV2 l w e w' := by
  by_cases h50 : l.length ≤ 50
  · have h50' : ¬ ((50 : Int) < (l.length : Int)) := by omega
    go_enter Tryz.func6, Tryz.ntmps6
    go_wp2
    go_loopw [3] (fun i wr => ∃ k : Nat, k ≤ l.length ∧ i = .int .i64 k ∧ Below w.heap.size w wr ∧ ∀ j (h : j < l.length), j < k → l[j].1.size ≤ 60 ∧ ∀ i (hi : i < l.length), i + 1 = j → leS l[j].1 l[i].1 = false) (fun i _ => l.length - (intOf i).toNat)
    case atStart => exact ⟨0, Nat.zero_le _, rfl, Below.refl _ _, by simp⟩
    case round =>
      obtain ⟨k, hk, rfl, hB, hz⟩ := hrel
      have HZ := hide hz
      clear hz
      by_cases hlt : k < l.length
      · have hlt' : (k : Int) < (l.length : Int) := by omega
        obtain ⟨c0, c1⟩ := spansAt_on hB hl k hlt
        have HHL := hide hl
        have HB := hide hB
        clear hl hB
        have nS := OnW.some wr
        have n0 : ∀ m : OnW wr, m.w.cell? ⟨b, off + k * 2, none⟩ = some (.string l[k].1) := fun m => m.cell c0
        have n1 : ∀ m : OnW wr, m.w.cell? ⟨b, off + k * 2 + 1, none⟩ = some (.string l[k].2) := fun m => m.cell c1
        by_cases h60 : l[k].1.size ≤ 60
        · have h60' : ¬ ((60 : Int) < (l[k].1.size : Int)) := by omega
          have d60 : decide ((60 : Int) < (l[k].1.size : Int)) = false := by simpa using h60'
          by_cases h40 : l[k].2.size ≤ 40
          · have h40' : ¬ ((40 : Int) < (l[k].2.size : Int)) := by omega
            have d40 : decide ((40 : Int) < (l[k].2.size : Int)) = false := by simpa using h40'
            cases hke : keyL l[k].1.data.toList with
            | true =>
              have HE : Hid (Value.int .i64 (faultK l[k].1.data.toList) = .int .i64 0) := by unfold Hid faultK; rw [hke]; rfl
              clear hke
              by_cases h0 : k = 0
              · have hd : ¬ ((0 : Int) < (k : Int)) := by omega
                have hd1 : decide ((0 : Int) < (k : Int)) = false := by simpa using hd
                have hd2 : decide (0 < k) = false := by simp; omega
                have H0 := hide h0
                clear h0
                go_wp2
                refine wp_region_on (by kernel_rfl) (by kernel_rfl) ?_
                repeat (go_big_quiet_step ((first
                  | (go_at_call 25; exact on_call (call_val (keyFault_on l[k].1 _ (by omega)) HE.out)))))
                refine wpQuiet_nil ?_
                intro w3 hw3
                replace hw3 := on_end hw3
                have HB3 := hide (below_on HB.out (Nat.le_refl _) hw3)
                go_wp2
                refine ⟨⟨k + 1, by omega, by go_num, HB3.out, fun j h1 h2 => ?_⟩, by simp [intOf]; omega⟩
                rcases Nat.lt_or_ge j k with h | h
                · exact HZ.out j h1 h
                · have e : j = k := by omega
                  subst e; exact ⟨h60, fun i hi e => by have := H0.out; omega⟩
              · obtain ⟨j0, hj⟩ : ∃ j, k = j + 1 := ⟨k - 1, by omega⟩
                have hjl : j0 < l.length := by omega
                have p0 := (spansAt_on HB.out HHL.out j0 hjl).1
                have n2 : ∀ m : OnW wr, m.w.cell? ⟨b, off + j0 * 2, none⟩ = some (.string l[j0].1) := fun m => m.cell p0
                have hd : (0 : Int) < (k : Int) := by omega
                have hd1 : decide ((0 : Int) < (k : Int)) = true := by simpa using hd
                have hd2 : decide (0 < k) = true := by simp; omega
                have k1 : (k : Int) - 1 = (j0 : Int) := by omega
                have k2 : (j0 : Int) < (l.length : Int) := by omega
                have k3 : IntKind.i64.wrap ((k : Int) - 1) = (j0 : Int) := by rw [k1, IntKind.wrap_i64]; omega
                have k4 : (0 : Int) ≤ (j0 : Int) := Int.natCast_nonneg _
                have HJ := hide hj
                clear h0 hj
                cases hle : leS l[k].1 l[j0].1 with
                | true =>
                  have hle' : (Op.bytesLess l[k].1.toList l[j0].1.toList || l[k].1.toList == l[j0].1.toList) = true := hle
                  clear hle
                  go_wp2
                  refine wp_region_on (by kernel_rfl) (by kernel_rfl) ?_
                  repeat (go_big_quiet_step ((first
                    | (go_at_call 25; exact on_call (call_val (keyFault_on l[k].1 _ (by omega)) HE.out)))))
                  refine wpQuiet_nil ?_
                  intro w3 hw3
                  replace hw3 := on_end hw3
                  have HB3 := hide (below_on HB.out (Nat.le_refl _) hw3)
                  go_wp2
                  go_ret
                  exact ⟨_, rfl, by simp, HB3.out⟩
                | false =>
                  have hle' : (Op.bytesLess l[k].1.toList l[j0].1.toList || l[k].1.toList == l[j0].1.toList) = false := hle
                  have HLE := hide hle
                  clear hle
                  go_wp2
                  refine wp_region_on (by kernel_rfl) (by kernel_rfl) ?_
                  repeat (go_big_quiet_step ((first
                    | (go_at_call 25; exact on_call (call_val (keyFault_on l[k].1 _ (by omega)) HE.out)))))
                  refine wpQuiet_nil ?_
                  intro w3 hw3
                  replace hw3 := on_end hw3
                  have HB3 := hide (below_on HB.out (Nat.le_refl _) hw3)
                  go_wp2
                  refine ⟨⟨k + 1, by omega, by go_num, HB3.out, fun j h1 h2 => ?_⟩, by simp [intOf]; omega⟩
                  rcases Nat.lt_or_ge j k with h | h
                  · exact HZ.out j h1 h
                  · have e : j = k := by omega
                    subst e
                    refine ⟨h60, fun i hi e => ?_⟩
                    have e2 : i = j0 := by have := HJ.out; omega
                    subst e2
                    exact HLE.out
            | false =>
              have HE : Hid (Value.int .i64 (faultK l[k].1.data.toList) = .int .i64 3) := by unfold Hid faultK; rw [hke]; rfl
              clear hke
              go_wp2
              refine wp_region_on (by kernel_rfl) (by kernel_rfl) ?_
              repeat (go_big_quiet_step ((first
                | (go_at_call 25; exact on_call (call_val (keyFault_on l[k].1 _ (by omega)) HE.out)))))
              refine wpQuiet_nil ?_
              intro w3 hw3
              replace hw3 := on_end hw3
              have HB3 := hide (below_on HB.out (Nat.le_refl _) hw3)
              go_wp2
              go_ret
              exact ⟨_, rfl, by simp, HB3.out⟩
          · have h40' : (40 : Int) < (l[k].2.size : Int) := by omega
            have d40 : decide ((40 : Int) < (l[k].2.size : Int)) = true := by simpa using h40'
            go_wp2
            refine wp_region_on (by kernel_rfl) (by kernel_rfl) ?_
            repeat (go_big_quiet_step (fail))
            refine wpQuiet_nil ?_
            intro w3 hw3
            replace hw3 := on_end hw3
            have HB3 := hide (below_on HB.out (Nat.le_refl _) hw3)
            go_wp2
            go_ret
            exact ⟨_, rfl, by simp, HB3.out⟩
        · have h60' : (60 : Int) < (l[k].1.size : Int) := by omega
          have d60 : decide ((60 : Int) < (l[k].1.size : Int)) = true := by simpa using h60'
          go_wp2
          refine wp_region_on (by kernel_rfl) (by kernel_rfl) ?_
          repeat (go_big_quiet_step (fail))
          refine wpQuiet_nil ?_
          intro w3 hw3
          replace hw3 := on_end hw3
          have HB3 := hide (below_on HB.out (Nat.le_refl _) hw3)
          go_wp2
          go_ret
          exact ⟨_, rfl, by simp, HB3.out⟩
      · have ek : k = l.length := by omega
        subst ek
        have hlt' : ¬ (l.length : Int) < (l.length : Int) := by omega
        go_wp2
        go_ret
        exact ⟨_, rfl, fun _ => ⟨⟨h50, fun r hr => by obtain ⟨j, hj, rfl⟩ := List.getElem_of_mem hr; exact (HZ.out j hj hj).1⟩, fun j hj i hi e => (HZ.out j hj hj).2 i hi e⟩, hB⟩
  · have h50' : (50 : Int) < (l.length : Int) := by omega
    go_enter Tryz.func6, Tryz.ntmps6
    go_wp2
    go_ret
    exact ⟨_, rfl, by simp, Below.refl _ _⟩
set_option maxHeartbeats 1000000 in
theorem lawRows_nil (ao : Option Addr) (cap : Nat) (w : World) : Calls Tryz.prog 6 #[.slice ao 0 cap] w fun e w' => goodV2 [] w e w' := by
  go_enter Tryz.func6, Tryz.ntmps6
  go_wp2
  go_loopw [3] (fun i wr => i = .int .i64 0 ∧ wr = w) (fun _ _ => 0)
  case atStart => exact ⟨rfl, rfl⟩
  case round =>
    obtain ⟨rfl, rfl⟩ := hrel
    go_wp2
    go_ret
    exact ⟨_, rfl, fun _ => ⟨⟨by simp, by simp⟩, fun j hj => by simp at hj⟩, Below.refl _ _⟩
theorem lawRows_any (l : List (ByteArray × ByteArray)) (ao : Option Addr) (cap : Nat) (w : World) (hl : heldSp w ao l) :
    Calls Tryz.prog 6 #[.slice ao l.length cap] w fun e w' => goodV2 l w e w' := by
  rcases hl with rfl | ⟨b, off, rfl, h⟩
  · exact lawRows_nil _ _ _
  · exact lawRows_some l b off cap w h
end Go.Proofs.YtpbhcjkllfonhaaGreat
