/-
  Plain facts: what was stays as it was: rows behind a deed are the same behind all deeds to come; a list of rows that rises is told by its members.
-/
import Derived.Test.YtpbhcjkllfonhaaVerDeeds
import Derived.Test.YtpbhcjkllfonhaaVerScan
namespace Go.Proofs.Ytpbhcjkllfonhaa
open Go.RowKit Go.Joins

theorem behind_snoc {vs : List Ver} {x : Ver} {n : Int} (h : n < x.deed) : behindV (vs ++ [x]) n = behindV vs n := by
  have e : lastV (vs ++ [x]) n = lastV vs n := by
    unfold lastV
    rw [List.reverse_append, List.reverse_singleton, List.singleton_append, List.find?_cons, decide_eq_false (by omega)]
  unfold behindV
  rw [e]
theorem behind_apply {d n : Int} (h : n < d) (key : ByteArray) : ∀ (l : List Chg) (R : ByteArray → List Ver), behindV (applyR R d l key) n = behindV (R key) n
  | [], R => rfl
  | c :: l, R => by
    have e : applyR R d (c :: l) = applyR (putG R c.key (R c.key ++ [⟨d, c.val, c.gone⟩])) d l := rfl
    rw [e, behind_apply h key l]
    by_cases hk : key = c.key
    · subst hk; rw [putG_same]; exact behind_snoc h
    · rw [putG_other _ _ hk]
theorem behind_step {p : Int × (ByteArray → List Ver)} {n : Int} (h : n ≤ p.1) (l : List Chg) (key : ByteArray) : n ≤ (stepR p l).1 ∧ behindV ((stepR p l).2 key) n = behindV (p.2 key) n := by
  unfold stepR
  split
  · exact ⟨by show n ≤ p.1 + 1; omega, behind_apply (by omega) key l p.2⟩
  · exact ⟨h, rfl⟩
theorem behind_steps {n : Int} (key : ByteArray) : ∀ (l : List Dd) {p : Int × (ByteArray → List Ver)}, n ≤ p.1 → n ≤ (stepsR p l).1 ∧ behindV ((stepsR p l).2 key) n = behindV (p.2 key) n
  | [], _, h => ⟨h, rfl⟩
  | d :: l, p, h => by
    have e : stepsR p (d :: l) = stepsR (stepR p d.chs) l := rfl
    have h1 := behind_step h d.chs key
    have h2 := behind_steps key l h1.1
    rw [e]
    exact ⟨h2.1, h2.2.trans h1.2⟩
theorem told_steps {n : Int} (l : List Dd) {p : Int × (ByteArray → List Ver)} (h : n ≤ p.1) (s r : ByteArray × ByteArray) : told (stepsR p l).2 n s r ↔ told p.2 n s r := by
  unfold told
  rw [(behind_steps r.1 l h).2]
/-- rows that rise by keys, each key once -/
theorem rows_strict {F : List (ByteArray × ByteArray)} (h : F.Pairwise fun a b => ltS b.1 a.1 = false) (hn : (F.map (·.1)).Nodup) : F.Pairwise fun a b => ltS a.1 b.1 = true := by
  have hn' : F.Pairwise fun a b => a.1 ≠ b.1 := List.pairwise_map.1 hn
  refine (h.and hn').imp fun {a b} h' => ?_
  rcases ltS_total a.1 b.1 with k | k | k
  · exact k
  · exact absurd k h'.2
  · rw [h'.1] at k; cases k
theorem rows_eq : ∀ {F G : List (ByteArray × ByteArray)}, F.Pairwise (fun a b => ltS a.1 b.1 = true) → G.Pairwise (fun a b => ltS a.1 b.1 = true) → (∀ r, r ∈ F ↔ r ∈ G) → F = G
  | [], [], _, _, _ => rfl
  | [], b :: G, _, _, h => by have := (h b).2 (by simp); cases this
  | a :: F, [], _, _, h => by have := (h a).1 (by simp); cases this
  | a :: F, b :: G, hF, hG, h => by
    rw [List.pairwise_cons] at hF hG
    have e : a = b := by
      rcases List.mem_cons.1 ((h a).1 (by simp)) with e | h1
      · exact e
      · rcases List.mem_cons.1 ((h b).2 (by simp)) with e | h2
        · exact e.symm
        · have := ltS_asymm (hG.1 a h1)
          rw [hF.1 b h2] at this
          cases this
    subst e
    refine congrArg (a :: ·) (rows_eq hF.2 hG.2 fun r => ?_)
    have := h r
    constructor
    · intro hr
      rcases List.mem_cons.1 (this.1 (List.mem_cons_of_mem _ hr)) with e | h'
      · subst e; have := hF.1 r hr; rw [ltS_irrefl] at this; cases this
      · exact h'
    · intro hr
      rcases List.mem_cons.1 (this.2 (List.mem_cons_of_mem _ hr)) with e | h'
      · subst e; have := hG.1 r hr; rw [ltS_irrefl] at this; cases this
      · exact h'
end Go.Proofs.Ytpbhcjkllfonhaa

/-
  What haywainref.SameRows returns of rows that are the same. It changes nothing that was there.
-/
namespace Go.Proofs.Ytpbhcjkllfonhaa
open Go.RowKit Go.Joins

/-- rows of one's own, as they lie -/
theorem ownP_held {w : World} {B : Nat} {v : Value} {F : List (ByteArray × ByteArray)} (h : ownP w B v F) : ∃ ao cap, v = .slice ao F.length cap ∧ heldSp w ao F := by
  rcases own_form h with ⟨hv, h0⟩ | ⟨g, cap, hv, _, hl, hc, hm⟩
  · have e : F = [] := List.length_eq_zero_iff.1 h0
    subst e
    exact ⟨none, 0, hv, .inl rfl⟩
  · refine ⟨_, cap, hv, .inr ⟨g, 0, rfl, fun i hi => ?_⟩⟩
    unfold ownP at h
    rw [hv] at h
    have h0 := (own_get cellP_len h i 0 hi (by omega)).1
    have h1 := (own_get cellP_len h i 1 hi (by omega)).1
    rw [show 0 + i * 2 = i * 2 + 0 by omega]
    exact ⟨h0, by rw [show i * 2 + 0 + 1 = i * 2 + 1 by omega]; exact h1⟩
theorem ownP_has {w : World} {B : Nat} {la : Option Addr} {lc : Nat} {F : List (ByteArray × ByteArray)} (h : ownP w B (.slice la F.length lc) F) : heldSp w la F ∧ F.length ≤ 9223372036854775807 := by
  refine ⟨?_, ?_⟩
  · obtain ⟨ao, cap, e, hh⟩ := ownP_held h
    cases e
    exact hh
  · rcases own_form h with ⟨_, h0⟩ | ⟨g, cap, hv, _, hl, hc, hm⟩
    · omega
    · unfold maxLen at hm; omega
set_option maxHeartbeats 1000000 in
theorem sameRows_some (l : List (ByteArray × ByteArray)) (b off cap b2 off2 cap2 : Nat) (w : World) (hl : spansAt w b off l) (hl2 : spansAt w b2 off2 l) (hn : l.length ≤ 9223372036854775807) :
    Calls Try.prog 16 #[.slice (some ⟨b, off, none⟩) l.length cap, .slice (some ⟨b2, off2, none⟩) l.length cap2] w fun e w' => e = .returned (.bool true) ∧ Below w.heap.size w w' := by
  go_enter Try.func16, Try.ntmps16
  go_wp2
  go_loopw [5] (fun i wr => ∃ k : Nat, k ≤ l.length ∧ i = .int .i64 k ∧ Below w.heap.size w wr) (fun i _ => l.length - (intOf i).toNat)
  case atStart => exact ⟨0, Nat.zero_le _, rfl, Below.refl _ _⟩
  case round =>
    obtain ⟨k, hk, rfl, hB⟩ := hrel
    by_cases hlt : k < l.length
    · obtain ⟨c0, c1⟩ := spansAt_on hB hl k hlt
      obtain ⟨d0, d1⟩ := spansAt_on hB hl2 k hlt
      go_wp2
      go_quiet (fail)
      go_wp2
      go_roundw
      case rel => exact ⟨k + 1, by omega, by go_num, hB.trans (below_draws _ _ _)⟩
      case measure => simp [intOf]; omega
    · go_wp2
      go_ret
      exact ⟨rfl, hB⟩
set_option maxHeartbeats 1000000 in
theorem sameRows_nil (ao ao2 : Option Addr) (cap cap2 : Nat) (w : World) :
    Calls Try.prog 16 #[.slice ao 0 cap, .slice ao2 0 cap2] w fun e w' => e = .returned (.bool true) ∧ Below w.heap.size w w' := by
  go_enter Try.func16, Try.ntmps16
  go_wp2
  go_loopw [5] (fun i wr => i = .int .i64 0 ∧ wr = w) (fun _ _ => 0)
  case atStart => exact ⟨rfl, rfl⟩
  case round =>
    obtain ⟨rfl, rfl⟩ := hrel
    go_wp2
    go_ret
    exact ⟨rfl, Below.refl _ _⟩
theorem sameRows_held (l : List (ByteArray × ByteArray)) (ao ao2 : Option Addr) (cap cap2 : Nat) (w : World) (hl : heldSp w ao l) (hl2 : heldSp w ao2 l) (hn : l.length ≤ 9223372036854775807) :
    Calls Try.prog 16 #[.slice ao l.length cap, .slice ao2 l.length cap2] w fun e w' => e = .returned (.bool true) ∧ Below w.heap.size w w' := by
  rcases hl with rfl | ⟨b, off, rfl, h⟩
  · exact sameRows_nil _ _ _ _ _
  · rcases hl2 with rfl | ⟨b2, off2, rfl, h2⟩
    · exact sameRows_nil _ _ _ _ _
    · exact sameRows_some l b off cap b2 off2 cap2 w h h2 hn
end Go.Proofs.Ytpbhcjkllfonhaa
