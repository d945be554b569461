/-
  What haywainref.natural returns of every text: the number, if it is one up to most, else -1; it changes nothing.
-/
import Derived.Test.YtlndiohdjdgaoaaDoorNatL
import Derived.Test.YtlndiohdjdgaoaaDoorRefKey
namespace Go.Proofs.YtlndiohdjdgaoaaDoor
open Go.RowKit Go.Joins

theorem nat_none {l : List UInt8} {most : Nat} (hm : most ≤ 9999999) (h : l = [] ∨ 9 < l.length ∨ (l.head? = some 48 ∧ 1 < l.length) ∨ (∃ c ∈ l, isDig c = false) ∨ most < valL l) : natR l most (-1) := by
  refine .inr ⟨rfl, fun n hn e => ?_⟩
  rcases h with h | h | ⟨h, h'⟩ | ⟨c, h, h'⟩ | h
  · exact dec_ne n (e ▸ h)
  · have := len_dec_lt n (by omega)
    rw [e] at h; omega
  · rcases Nat.eq_zero_or_pos n with e0 | e0
    · rw [e, e0, Lib.decDigits_one (by omega)] at h'
      simp at h'
    · exact dec_head n e0 (e ▸ h)
  · have := dec_dig n c (e ▸ h)
    rw [h'] at this; cases this
  · rw [e, valL_dec] at h; omega
theorem take_dig {l : List UInt8} {k : Nat} (hk : k < l.length) (h : ∀ c ∈ l.take k, isDig c = true) (h2 : isDig l[k] = true) : ∀ c ∈ l.take (k + 1), isDig c = true := by
  rw [List.take_succ_eq_append_getElem hk]
  intro c hc
  rcases List.mem_append.1 hc with hc | hc
  · exact h c hc
  · rw [List.mem_singleton.1 hc]; exact h2

set_option maxHeartbeats 2000000 in
theorem natural_any (s : ByteArray) (most : Nat) (w : World) (hm : most ≤ 9999999) (hs : s.size ≤ 1000) :
    Calls Tryd.prog 42 #[.string s, .int .i64 most] w fun e w' => (∃ r : Int, e = .returned (.int .i64 r) ∧ natR s.data.toList most r) ∧ w' = w := by
  have hl := len_data s
  by_cases h1 : s.size < 1
  · have HN := hide (nat_none (l := s.data.toList) hm (.inl (List.length_eq_zero_iff.1 (by omega))))
    have g1 : decide ((s.size : Int) < 1) = true := by simp; omega
    clear hl
    go_enter Tryd.func42, Tryd.ntmps42
    go_wp2
    go_ret
    exact ⟨⟨_, rfl, HN.out⟩, rfl⟩
  · have hz : 0 < s.size := by omega
    have g1 : decide ((s.size : Int) < 1) = false := by simp; omega
    by_cases h9 : 9 < s.size
    · have HN := hide (nat_none (l := s.data.toList) hm (.inr (.inl (by omega))))
      have g2 : decide ((9 : Int) < (s.size : Int)) = true := by simp; omega
      clear hl
      go_enter Tryd.func42, Tryd.ntmps42
      go_wp2
      go_ret
      exact ⟨⟨_, rfl, HN.out⟩, rfl⟩
    · have g2 : decide ((9 : Int) < (s.size : Int)) = false := by simp; omega
      have hh : s.data.toList.head? = some s[0] := by
        rw [List.head?_eq_getElem?, List.getElem?_eq_getElem (by omega)]; rfl
      by_cases h48 : s[0] = 48 ∧ 1 < s.size
      · have HN := hide (nat_none (l := s.data.toList) hm (.inr (.inr (.inl ⟨by rw [hh, h48.1], by omega⟩))))
        have c48 : ((s[0].toNat : Int) == 48) = true := by rw [h48.1]; rfl
        have g3 : decide ((1 : Int) < (s.size : Int)) = true := by simp; omega
        clear hl hh h48
        go_enter Tryd.func42, Tryd.ntmps42
        go_wp2
        go_ret
        exact ⟨⟨_, rfl, HN.out⟩, rfl⟩
      · have HO : Hid (s.data.toList.head? = some 48 → s.data.toList.length = 1) := fun e => by
          rw [hh] at e
          have := Option.some.inj e
          have : ¬ 1 < s.size := fun k => h48 ⟨this, k⟩
          omega
        have c48 : (s[0].toNat : Int) ≠ 48 ∨ ¬ (1 : Int) < (s.size : Int) := by
          by_cases e : s[0] = 48
          · right
            have : ¬ 1 < s.size := fun k => h48 ⟨e, k⟩
            omega
          · left; intro e'; exact e (UInt8.toNat_inj.1 (by simpa using Int.ofNat.inj e'))
        clear hh h48
        rcases c48 with c48 | c48
        rotate_left 1
        have d48 := decide_eq_false c48
        rotate_left 1
        have d48 := beq_eq_false_iff_ne.2 c48
        all_goals
          go_enter Tryd.func42, Tryd.ntmps42
          go_wp2
        all_goals
          go_loop [5, 6] (fun n i => ∃ k : Nat, k ≤ s.size ∧ i = .int .i64 k ∧ n = .int .i64 (valL (s.data.toList.take k) : Nat) ∧ ∀ c ∈ s.data.toList.take k, isDig c = true) (fun _ i => s.size - (intOf i).toNat)
          case atStart => exact ⟨0, Nat.zero_le _, rfl, rfl, by simp⟩
          case round =>
            obtain ⟨k, hk, rfl, rfl, hd⟩ := hrel
            have hv := valL_lt _ hd
            have hlen : (s.data.toList.take k).length ≤ 9 := by rw [List.length_take]; omega
            have hv9 : valL (s.data.toList.take k) < 1000000000 := Nat.lt_of_lt_of_le hv (Nat.pow_le_pow_right (n := 10) (by omega) hlen)
            have HD := hide hd
            clear hv hlen hd
            by_cases hlt : k < s.size
            · have hget : s.data.toList[k]'(by omega) = s[k] := rfl
              have HT := hide (show s.data.toList.take (k + 1) = s.data.toList.take k ++ [s[k]] by rw [List.take_succ_eq_append_getElem (by omega), hget])
              have HM := hide (show s[k] ∈ s.data.toList by rw [← hget]; exact List.getElem_mem _)
              have HL := hide hl
              have HG := hide (dig_iff s[k])
              have hlt' : (k : Int) < (s.size : Int) := by omega
              clear hget hl
              generalize hvv : valL (s.data.toList.take k) = v at *
              have HV := hide hvv
              clear hvv
              have hb8 : (s[k].toNat : Int) < 48 ∨ (48 ≤ (s[k].toNat : Int) ∧ (s[k].toNat : Int) ≤ 57) ∨ 57 < (s[k].toNat : Int) := by omega
              rcases hb8 with b | ⟨b, b'⟩ | b
              · have HN := hide (nat_none (l := s.data.toList) hm (.inr (.inr (.inr (.inl ⟨s[k], HM.out, Bool.eq_false_iff.2 fun h => by have := HG.out.1 h; omega⟩)))))
                go_wp2
                go_ret
                exact ⟨⟨_, rfl, HN.out⟩, rfl⟩
              · have HY := hide (HG.out.2 ⟨b, b'⟩)
                obtain ⟨x, hx⟩ : ∃ x : Nat, s[k].toNat = 48 + x := ⟨s[k].toNat - 48, by omega⟩
                have hx9 : x ≤ 9 := by omega
                go_wp2
                go_round
                case rel => exact ⟨k + 1, by omega, by go_num, by rw [HT.out, valL_snoc, HV.out]; congr 1; omega, by
                  rw [HT.out]
                  intro c hc
                  rcases List.mem_append.1 hc with hc | hc
                  · exact HD.out c hc
                  · rw [List.mem_singleton.1 hc]; exact HY.out⟩
                case measure => simp [intOf]; omega
              · have HN := hide (nat_none (l := s.data.toList) hm (.inr (.inr (.inr (.inl ⟨s[k], HM.out, Bool.eq_false_iff.2 fun h => by have := HG.out.1 h; omega⟩)))))
                go_wp2
                go_ret
                exact ⟨⟨_, rfl, HN.out⟩, rfl⟩
            · have e : s.data.toList.take k = s.data.toList := List.take_of_length_le (by omega)
              rw [e] at HD hv9 ⊢
              by_cases hmm : most < valL s.data.toList
              · have HN := hide (nat_none (l := s.data.toList) hm (.inr (.inr (.inr (.inr hmm)))))
                have g9 : (most : Int) < (valL s.data.toList : Int) := by omega
                go_wp2
                go_ret
                exact ⟨⟨_, rfl, HN.out⟩, rfl⟩
              · have hne : s.data.toList ≠ [] := fun e => by rw [e] at hl; simp at hl; omega
                have HN : Hid (natR s.data.toList most (valL s.data.toList)) := .inl ⟨_, by omega, (dec_valL _ _ rfl hne HD.out HO.out).symm, rfl⟩
                have g9 : ¬ (most : Int) < (valL s.data.toList : Int) := by omega
                clear e hl
                go_wp2
                go_ret
                exact ⟨⟨_, rfl, HN.out⟩, rfl⟩
end Go.Proofs.YtlndiohdjdgaoaaDoor
