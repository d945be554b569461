/-
  What History.place and History.above return of a history that lies in memory; nothing that was there is changed.
-/
import Derived.Test.YtdepcjnbiceciabCertMem
namespace Go.Proofs.Ytdepcjnbiceciab
open Go.RowKit Go.Joins

def cmpI (x y : Int) : Int := if x < y then -1 else if y < x then 1 else 0
theorem cmp_any (x y : Int) (w : World) : Calls Try.prog 82 #[.int .i64 x, .int .i64 y] w fun e w' => e = .returned (.int .i64 (cmpI x y)) ∧ w' = w := by
  rcases Int.lt_trichotomy x y with h | h | h
  · have e : cmpI x y = -1 := by simp [cmpI, h]
    have E := hide e
    clear e
    go_enter Try.func82, Try.ntmps82
    go_wp2
    go_ret
    exact ⟨ret_int E.out.symm, rfl⟩
  · have e : cmpI x y = 0 := by simp [cmpI, h]
    have E := hide e
    have h1 : ¬ x < y := by omega
    have h2 : ¬ y < x := by omega
    clear e h
    go_enter Try.func82, Try.ntmps82
    go_wp2
    go_ret
    exact ⟨ret_int E.out.symm, rfl⟩
  · have e : cmpI x y = 1 := by simp [cmpI, h]; omega
    have E := hide e
    have h1 : ¬ x < y := by omega
    clear e
    go_enter Try.func82, Try.ntmps82
    go_wp2
    go_ret
    exact ⟨ret_int E.out.symm, rfl⟩
set_option maxHeartbeats 400000 in
theorem placeCmp_any (x y : Int) (v : Value) (w : World) : Calls Try.prog 81 #[.agg #[.int .i64 x, v], .int .i64 y] w fun e w' => e = .returned (.int .i64 (cmpI x y)) ∧ Below w.heap.size w w' := by
  go_enter Try.func81, Try.ntmps81
  go_wp2_with (go_at_call 82; refine (cmp_any _ _ _).mono ?_; rintro e w1 ⟨rfl, rfl⟩)
  go_ret
  exact ⟨rfl, below_alloc1 _ _⟩
theorem cmpI_neg {x y : Int} (h : x < y) : cmpI x y = -1 := by simp [cmpI, h]
theorem cmpI_no {x y : Int} (h : y ≤ x) : 0 ≤ cmpI x y ∧ cmpI x y ≤ 1 := by
  unfold cmpI; rw [if_neg (by omega)]; split <;> omega
theorem cmpI_eq (x y : Int) : (cmpI x y == 0) = (x == y) := by
  rw [Bool.eq_iff_iff]
  simp only [beq_iff_eq]
  unfold cmpI
  split
  · omega
  · split <;> omega

/-- deeds lie in block g, from its head on -/
def deedsAt (w : World) (g : Nat) (dv : List (DeedL × Value)) : Prop := ∀ i (hi : i < dv.length), w.cell? ⟨g, i * 2, none⟩ = some (.int .i64 dv[i].1.n) ∧ w.cell? ⟨g, i * 2 + 1, none⟩ = some dv[i].2
theorem deedsAt_on {w w' : World} {g : Nat} {dv : List (DeedL × Value)} (hb : Below w.heap.size w w') (h : deedsAt w g dv) : deedsAt w' g dv := fun i hi => ⟨cell_on hb (h i hi).1, cell_on hb (h i hi).2⟩
def ofDV (dv : List (DeedL × Value)) : List DeedL := dv.map (·.1)
theorem known_at {dv : List (DeedL × Value)} {n : Int} {i : Nat} (hp : posD (ofDV dv) n = i) (hi : i < dv.length) : knownD (ofDV dv) n = (dv[i].1.n == n) := by
  unfold knownD
  rw [hp, List.getElem?_eq_getElem (by simpa [ofDV] using hi)]
  simp [ofDV]
theorem known_no {dv : List (DeedL × Value)} {n : Int} {i : Nat} (hp : posD (ofDV dv) n = i) (hi : dv.length ≤ i) : knownD (ofDV dv) n = false := by
  unfold knownD
  rw [hp, List.getElem?_eq_none (by simpa [ofDV] using hi)]

set_option maxHeartbeats 1000000 in
theorem search_some (dv : List (DeedL × Value)) (g cap : Nat) (n : Int) (w : World) (hl : deedsAt w g dv) (hr : risesD (ofDV dv)) (hn : dv.length ≤ 1000000) :
    Calls Try.prog 80 #[.slice (some ⟨g, 0, none⟩) dv.length cap, .int .i64 n, .func (Fn.func 81) #[] #[]] w
      fun e w' => e = .returned (.tuple #[.int .i64 (posD (ofDV dv) n), .bool (knownD (ofDV dv) n)]) ∧ Below w.heap.size w w' := by
  have HR := hide hr
  clear hr
  go_enter Try.func80, Try.ntmps80
  go_wp2
  go_loopw [9, 10] (fun i j wr => ∃ p q : Nat, p ≤ q ∧ q ≤ dv.length ∧ i = .int .i64 p ∧ j = .int .i64 q ∧ (∀ m (hm : m < dv.length), m < p → dv[m].1.n < n) ∧ (∀ m (hm : m < dv.length), q ≤ m → n ≤ dv[m].1.n) ∧ Below w.heap.size w wr) (fun i j _ => (intOf j).toNat - (intOf i).toNat)
  case atStart => exact ⟨0, dv.length, Nat.zero_le _, Nat.le_refl _, rfl, rfl, fun m hm h => by omega, fun m hm h => by omega, Below.refl _ _⟩
  case round =>
    obtain ⟨p, q, hpq, hq, rfl, rfl, h1, h2, hB⟩ := hrel
    have H1 := hide h1
    have H2 := hide h2
    clear h1 h2
    by_cases hlt : p < q
    · have hlt' : (p : Int) < (q : Int) := by omega
      obtain ⟨m, em⟩ : ∃ m, m = (p + q) / 2 := ⟨_, rfl⟩
      have hm : m < dv.length := by omega
      have b1 : p ≤ m := by omega
      have b2 : m < q := by omega
      obtain ⟨c0, c1⟩ := deedsAt_on hB hl m hm
      have hmi : ((p : Int) + (q : Int)) / 2 = (m : Int) := by omega
      clear em
      by_cases hc : dv[m].1.n < n
      · have hcm := cmpI_neg hc
        have N1 : Hid (∀ k (hk : k < dv.length), k < m + 1 → dv[k].1.n < n) := fun k hk hk' => by
          rcases Nat.lt_or_ge k m with h | h
          · have h3 := rises_at HR.out (i := k) (j := m) (by simpa [ofDV] using hm) h
            simp [ofDV] at h3
            omega
          · have e : k = m := by omega
            subst e; exact hc
        clear hc
        go_wp2_with (go_at_call 81; refine (placeCmp_any _ _ _ _).mono ?_; rintro e w1 ⟨rfl, hb⟩; replace hB := below_on hB (Nat.le_refl _) hb; clear hb)
        go_roundw
        case rel => exact ⟨m + 1, q, by omega, hq, by go_num, rfl, N1.out, H2.out, hB⟩
        case measure => simp [intOf]; omega
      · obtain ⟨k0, k1⟩ := cmpI_no (x := dv[m].1.n) (y := n) (by omega)
        have N2 : Hid (∀ k (hk : k < dv.length), m ≤ k → n ≤ dv[k].1.n) := fun k hk hk' => by
          rcases Nat.lt_or_ge m k with h | h
          · have h3 := rises_at HR.out (i := m) (j := k) (by simpa [ofDV] using hk) h
            simp [ofDV] at h3
            omega
          · have e : k = m := by omega
            subst e; omega
        have hcf : ¬ cmpI dv[m].1.n n < 0 := by omega
        clear hc
        go_wp2_with (go_at_call 81; refine (placeCmp_any _ _ _ _).mono ?_; rintro e w1 ⟨rfl, hb⟩; replace hB := below_on hB (Nat.le_refl _) hb; clear hb)
        go_roundw
        case rel => exact ⟨p, m, by omega, by omega, rfl, rfl, H1.out, N2.out, hB⟩
        case measure => simp [intOf]; omega
    · have hlt' : ¬ (p : Int) < (q : Int) := by omega
      have epq : p = q := by omega
      subst epq
      have HP := hide (posD_eq (ds := ofDV dv) (n := n) (i := p) (by simpa [ofDV] using hq) (fun m hm h => by simpa [ofDV] using H1.out m (by simpa [ofDV] using hm) h) (fun m hm h => by simpa [ofDV] using H2.out m (by simpa [ofDV] using hm) h))
      by_cases hp : p < dv.length
      · have HK := hide (known_at HP.out hp)
        have hp' : (p : Int) < (dv.length : Int) := by omega
        obtain ⟨c0, c1⟩ := deedsAt_on hB hl p hp
        have HC := hide (cmpI_eq dv[p].1.n n)
        go_wp2_with (go_at_call 81; refine (placeCmp_any _ _ _ _).mono ?_; rintro e w1 ⟨rfl, hb⟩; replace hB := below_on hB (Nat.le_refl _) hb; clear hb)
        go_ret2
        exact ⟨by rw [HP.out, HK.out, ← HC.out]; rfl, hB⟩
      · have HK := hide (known_no HP.out (by omega))
        have hp' : ¬ (p : Int) < (dv.length : Int) := by omega
        go_wp2
        go_ret2
        exact ⟨by rw [HP.out, HK.out]; rfl, hB⟩
set_option maxHeartbeats 400000 in
theorem search_nil (n : Int) (w : World) :
    Calls Try.prog 80 #[.slice none 0 0, .int .i64 n, .func (Fn.func 81) #[] #[]] w
      fun e w' => e = .returned (.tuple #[.int .i64 0, .bool false]) ∧ w' = w := by
  go_enter Try.func80, Try.ntmps80
  go_wp2
  refine wp_loop_rounds 1 ?_
  rw [rounds_succ]
  go_wp2
  go_ret2
  exact ⟨rfl, rfl⟩
theorem HistAt.deeds {w : World} {B hb : Nat} {v : Value} {dv : List (DeedL × Value)} (h : HistAt w B hb v dv) {g cap : Nat} (hv : v = .slice (some ⟨g, 0, none⟩) dv.length cap) : deedsAt w g dv := by
  rcases h.form with ⟨h1, _⟩ | ⟨g', cap', h1, _, _, _, _, h2⟩
  · rw [h1] at hv; cases hv
  · rw [h1] at hv; cases hv
    exact fun i hi => ⟨(h2 i hi).1, (h2 i hi).2.1⟩
set_option maxHeartbeats 400000 in
theorem place_any (dv : List (DeedL × Value)) (B hb : Nat) (v : Value) (n : Int) (w : World) (h : HistAt w B hb v dv) (hr : risesD (ofDV dv)) (hn : dv.length ≤ 1000000) :
    Calls Try.prog 63 #[.pointer (some ⟨hb, 0, none⟩), .int .i64 n] w fun e w' => e = .returned (.tuple #[.int .i64 (posD (ofDV dv) n), .bool (knownD (ofDV dv) n)]) ∧ Below w.heap.size w w' := by
  have c := h.cell
  have HR := hide hr
  rcases h.form with ⟨rfl, rfl⟩ | ⟨g, cap, rfl, _, _, _, _, _⟩
  · clear hr
    go_enter Try.func63, Try.ntmps63
    go_wp2_with (go_at_call 80; refine (search_nil _ _).mono ?_; rintro e w1 ⟨rfl, rfl⟩)
    go_ret2
    exact ⟨rfl, Below.refl _ _⟩
  · have hd := h.deeds rfl
    clear hr
    go_enter Try.func63, Try.ntmps63
    go_wp2_with (go_at_call 80; refine (search_some dv g cap n _ hd HR.out hn).mono ?_; rintro e w1 ⟨rfl, hb⟩)
    go_ret2
    exact ⟨rfl, hb⟩
set_option maxHeartbeats 400000 in
theorem above_any (dv : List (DeedL × Value)) (B hb : Nat) (v : Value) (n : Int) (w : World) (h : HistAt w B hb v dv) (hr : risesD (ofDV dv)) (hn : dv.length ≤ 1000000) :
    Calls Try.prog 66 #[.pointer (some ⟨hb, 0, none⟩), .int .i64 n] w fun e w' => e = .returned (.int .i64 (aboveD (ofDV dv) n)) ∧ Below w.heap.size w w' := by
  have hp : posD (ofDV dv) n ≤ 1000000 := Nat.le_trans (posD_le _ _) (by simpa [ofDV] using hn)
  cases hk : knownD (ofDV dv) n with
  | true =>
    have HA := hide (show aboveD (ofDV dv) n = posD (ofDV dv) n + 1 by simp [aboveD, hk])
    have HR := hide hr
    have HK := hide hk
    clear hr hk
    go_enter Try.func66, Try.ntmps66
    go_wp2_with (go_at_call 63; refine (place_any dv B hb v n _ h HR.out hn).mono ?_; rintro e w1 ⟨rfl, hb⟩; rw [HK.out])
    go_ret
    exact ⟨ret_int (by rw [HA.out]; omega), hb⟩
  | false =>
    have HA := hide (show aboveD (ofDV dv) n = posD (ofDV dv) n by simp [aboveD, hk])
    have HR := hide hr
    have HK := hide hk
    clear hr hk
    go_enter Try.func66, Try.ntmps66
    go_wp2_with (go_at_call 63; refine (place_any dv B hb v n _ h HR.out hn).mono ?_; rintro e w1 ⟨rfl, hb⟩; rw [HK.out])
    go_ret
    exact ⟨ret_int (by rw [HA.out]), hb⟩
end Go.Proofs.Ytdepcjnbiceciab
