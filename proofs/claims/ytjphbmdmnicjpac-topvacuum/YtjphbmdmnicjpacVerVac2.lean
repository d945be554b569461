/-
  What versions.since returns of versions that lie in memory: those that are read behind a deed, or later; as they lie, or in a row of their own.
-/
import Derived.Test.YtjphbmdmnicjpacVerVac1
namespace Go.Proofs.Ytjphbmdmnicjpac
open Go.RowKit Go.Joins Go.Shelf

theorem ver_facts : (Try.prog.info? 123).map (fun i => (i.zero, i.size, i.bytes)) = some (some (.agg #[.int .i64 0, .string ⟨#[]⟩, .bool false]), 3, 32) := by kernel_rfl
theorem clone_v (b off n c : Nat) (news : List Value) (w : World) (hl : news.length = n * 3) (hn : n ≤ 1000000) (hc : ∀ j u, news[j]? = some u → w.cell? ⟨b, off + j, none⟩ = some u) (h1 : ∀ u ∈ news, u.oneCell' = true) :
    Calls Try.prog 90 #[.slice (some ⟨b, off, none⟩) n c] w fun e w' => ∃ v', e = .returned v' ∧ w'.ownsRow w.heap.size 123 3 v' n news ∧ v' ≠ .slice none 0 0 ∧ Below w.heap.size w w' := by
  obtain ⟨i0, hi0, hz0, hz1, hz2⟩ := info_parts ver_facts
  exact AnyE.slices_Clone Try.cloneV i0 _ 3 32 hi0 hz0 hz1 hz2 rfl (by omega) Try.sizeOf123 b off n c news w hl (by unfold maxLen; omega) (by omega) hc h1
/-- versions from a place on, in a row of their own -/
theorem clone_from {w : World} {g cap : Nat} {vs : List Ver} {B : Nat} (h : ownV w B (.slice (some ⟨g, 0, none⟩) vs.length cap) vs) (q : Nat) (hq : q ≤ vs.length) (hlen : vs.length ≤ 1000000) (c : Nat) (a : Nat) (ha : a = q * 3 ∨ q = vs.length) (m : Nat) (hm0 : m = vs.length - q) :
    Calls Try.prog 90 #[.slice (some ⟨g, a, none⟩) m c] w fun e w' => ∃ v', e = .returned v' ∧ ownV w' w.heap.size v' (vs.drop q) ∧ v' ≠ .slice none 0 0 ∧ Below w.heap.size w w' := by
  subst hm0
  have hl : (vs.drop q).length = vs.length - q := List.length_drop
  have hfl : ((vs.drop q).flatMap cellV).length = (vs.length - q) * 3 := by rw [flat_len cellV 3 cellV_len, hl]
  refine (clone_v g a (vs.length - q) c ((vs.drop q).flatMap cellV) w hfl (by omega) (fun j u hj => ?_) (cellV_one _)).mono ?_
  · have hj3 : j < (vs.length - q) * 3 := by
      rcases Nat.lt_or_ge j ((vs.length - q) * 3) with h' | h'
      · exact h'
      · rw [List.getElem?_eq_none (by omega)] at hj; cases hj
    have ha' : a = q * 3 := by
      rcases ha with e | e
      · exact e
      · subst e; simp at hj3
    subst ha'
    have hm : j / 3 < vs.length - q := Nat.div_lt_of_lt_mul (by omega)
    have hr : j % 3 < 3 := Nat.mod_lt _ (by omega)
    have ej : j = j / 3 * 3 + j % 3 := by omega
    have e1 := flat_get cellV 3 cellV_len (vs.drop q) (j / 3) (j % 3) (by omega) hr
    rw [← ej, hj] at e1
    have e2 := (own_get cellV_len h (q + j / 3) (j % 3) (by omega) hr).1
    rw [List.getElem_drop] at e1
    rw [show q * 3 + j = (q + j / 3) * 3 + j % 3 by omega, e2, ← e1]
  · rintro e w' ⟨v', rfl, ho, hne, hb⟩
    refine ⟨v', rfl, ?_, hne, hb⟩
    unfold ownV
    rw [hl]
    exact ho
def SinceAt (w w' : World) (v : Value) (vs : List Ver) (n : Int) (v' : Value) : Prop := Below w.heap.size w w' ∧ ((v' = v ∧ sinceV vs n = vs) ∨ ownV w' w.heap.size v' (sinceV vs n))
set_option maxHeartbeats 1000000 in
theorem since_any (ao : Option Addr) (cap : Nat) (vs : List Ver) (n : Int) {B : Nat} (w : World) (hlen : vs.length ≤ 1000000) (h : ownV w B (.slice ao vs.length cap) vs) :
    Calls Try.prog 52 #[.slice ao vs.length cap, .int .i64 n] w fun e w' => ∃ v', e = .returned v' ∧ SinceAt w w' (.slice ao vs.length cap) vs n v' := by
  have hI : versIn w.heap.size w ao cap vs := by
    obtain ⟨ao', cap', e', hI, _⟩ := ownV_in h
    cases e'
    exact hI
  have HI := hide hI
  clear hI
  rcases lastP_spec vs n with ⟨hl, _⟩ | ⟨p, hp, hl, h1, h2⟩
  · have HS := hide (since_none hl)
    have HL := hide hl
    clear hl
    go_enter Try.func52, Try.ntmps52
    go_wp2_with (go_at_call 89; refine (last_any ao cap vs n _ hlen HI.out).mono ?_; rintro e w1 ⟨rfl, hb⟩; rw [HL.out])
    go_ret
    exact ⟨_, rfl, hb, .inl ⟨rfl, HS.out⟩⟩
  · have hs := since_some hp hl
    have HL := hide hl
    clear hl h2
    rcases own_form h with ⟨_, h0⟩ | ⟨g, cap', hv, _, _, hc1, hc2⟩
    · omega
    cases hv
    have HO := hide h
    have i0 : (0 : Int) ≤ (p : Int) := by omega
    have i1 : (p : Int) < (vs.length : Int) := by omega
    have i3 : (vs.length : Int) ≤ (cap : Int) := by omega
    have i4 : cap ≤ 9223372036854775807 := by unfold maxLen at hc2; omega
    have c2 := (own_get cellV_len h p 2 hp (by omega)).1
    simp only [cellV, List.getElem?_cons_succ, List.getElem?_cons_zero] at c2
    clear h hc2
    cases hg : vs[p].gone with
    | true =>
      rw [hg, if_pos rfl] at hs
      rw [hg] at c2
      have HS := hide hs
      clear hs hg h1
      have i5 : (p : Int) + 1 ≤ (vs.length : Int) := by omega
      have i6 : (p : Int) + 1 ≤ (cap : Int) := by omega
      have i7 : (0 : Int) ≤ (p : Int) + 1 := by omega
      have i8 : ¬ ((p : Int) + 1 ≤ 0) := by omega
      by_cases hcp : cap = p + 1
      · subst hcp
        go_enter Try.func52, Try.ntmps52
        go_wp2_with (first
          | (go_at_call 89; refine (last_any _ _ vs n _ hlen HI.out).mono ?_; rintro e w1 ⟨rfl, hb⟩; rw [HL.out]; replace c2 := cell_on hb c2)
          | (go_at_call 90; refine (clone_from (own_on HO.out hb) (p + 1) (by omega) hlen 0 0 (.inr (by omega)) 0 (by omega)).mono ?_; rintro e w2 ⟨v', rfl, ho, hne, hb2⟩; have HO2 := hide ho; have HB2 := hide (below_on hb (Nat.le_refl _) hb2); clear ho hne hb2))
        go_ret
        exact ⟨_, rfl, HB2.out, .inr (by rw [HS.out]; exact ownsRow_base_a HO2.out hb.size)⟩
      · go_enter Try.func52, Try.ntmps52
        go_wp2_with (first
          | (go_at_call 89; refine (last_any _ _ vs n _ hlen HI.out).mono ?_; rintro e w1 ⟨rfl, hb⟩; rw [HL.out]; replace c2 := cell_on hb c2)
          | (go_at_call 90; refine (clone_from (own_on HO.out hb) (p + 1) (by omega) hlen (cap - (p + 1)) ((p + 1) * 3) (.inl rfl) (vs.length - (p + 1)) rfl).mono ?_; rintro e w2 ⟨v', rfl, ho, hne, hb2⟩; have HO2 := hide ho; have HB2 := hide (below_on hb (Nat.le_refl _) hb2); clear ho hne hb2))
        go_ret
        exact ⟨_, rfl, HB2.out, .inr (by rw [HS.out]; exact ownsRow_base_a HO2.out hb.size)⟩
    | false =>
      rw [hg, if_neg (by simp)] at hs
      rw [hg] at c2
      have HS := hide hs
      clear hs hg h1
      by_cases h0 : p = 0
      · subst h0
        go_enter Try.func52, Try.ntmps52
        go_wp2_with (first
          | (go_at_call 89; refine (last_any _ cap vs n _ hlen HI.out).mono ?_; rintro e w1 ⟨rfl, hb⟩; rw [HL.out]; replace c2 := cell_on hb c2))
        go_ret
        exact ⟨_, rfl, hb, .inl ⟨rfl, by rw [HS.out]; rfl⟩⟩
      · have i2 : (p : Int) ≤ (vs.length : Int) := by omega
        have i6 : (p : Int) ≤ (cap : Int) := by omega
        have i8 : ¬ ((p : Int) ≤ 0) := by omega
        have i9 : decide ((p : Int) ≤ 0) = false := by simpa using i8
        have hcp : ¬ cap = p := by omega
        clear h0
        go_enter Try.func52, Try.ntmps52
        go_wp2_with (first
          | (go_at_call 89; refine (last_any _ _ vs n _ hlen HI.out).mono ?_; rintro e w1 ⟨rfl, hb⟩; rw [HL.out]; replace c2 := cell_on hb c2)
          | (go_at_call 90; refine (clone_from (own_on HO.out hb) p (by omega) hlen (cap - p) (p * 3) (.inl rfl) (vs.length - p) rfl).mono ?_; rintro e w2 ⟨v', rfl, ho, hne, hb2⟩; have HO2 := hide ho; have HB2 := hide (below_on hb (Nat.le_refl _) hb2); clear ho hne hb2))
        go_ret
        exact ⟨_, rfl, HB2.out, .inr (by rw [HS.out]; exact ownsRow_base_a HO2.out hb.size)⟩
end Go.Proofs.Ytjphbmdmnicjpac
