/-
  What was stays behind a deed; rows that rise are told by what they are. Plain facts.
-/
import Derived.Test.YtpbhcjkllfonhaaGreatVerPut
import Derived.Test.YtpbhcjkllfonhaaGreatViewGet2
import Derived.Test.YtpbhcjkllfonhaaGreatVerScan2
import Derived.Test.YtpbhcjkllfonhaaGreatVerSort
namespace Go.Proofs.YtpbhcjkllfonhaaGreat
open Go.RowKit Go.Joins

theorem behind_snoc {vs : List Ver} {x : Ver} {n : Int} (h : n < x.deed) : behindV (vs ++ [x]) n = behindV vs n := by
  have e : lastV (vs ++ [x]) n = lastV vs n := by
    unfold lastV
    rw [List.reverse_append, List.reverse_singleton, List.singleton_append, List.find?_cons, decide_eq_false (by omega)]
  unfold behindV
  rw [e]
theorem behind_apply {d n : Int} (h : n < d) (key : ByteArray) : ∀ (l : List Chg) (R : ByteArray → List Ver), behindV (applyR R d l key) n = behindV (R key) n
  | [], R => rfl
  | c :: l, R => by
    have e : applyR R d (c :: l) = applyR (putG R c.key (R c.key ++ [⟨d, c.val, c.gone⟩])) d l := rfl
    rw [e, behind_apply h key l]
    by_cases hk : key = c.key
    · subst hk; rw [putG_same]; exact behind_snoc h
    · rw [putG_other _ _ hk]
theorem rows_strict {F : List (ByteArray × ByteArray)} (h : F.Pairwise fun a b => ltS b.1 a.1 = false) (hn : (F.map (·.1)).Nodup) : F.Pairwise fun a b => ltS a.1 b.1 = true := by
  have hn' : F.Pairwise fun a b => a.1 ≠ b.1 := List.pairwise_map.1 hn
  refine (h.and hn').imp fun {a b} h' => ?_
  rcases ltS_total a.1 b.1 with k | k | k
  · exact k
  · exact absurd k h'.2
  · rw [h'.1] at k; cases k
theorem rows_eq : ∀ {F G : List (ByteArray × ByteArray)}, F.Pairwise (fun a b => ltS a.1 b.1 = true) → G.Pairwise (fun a b => ltS a.1 b.1 = true) → (∀ r, r ∈ F ↔ r ∈ G) → F = G
  | [], [], _, _, _ => rfl
  | [], b :: G, _, _, h => by have := (h b).2 (by simp); cases this
  | a :: F, [], _, _, h => by have := (h a).1 (by simp); cases this
  | a :: F, b :: G, hF, hG, h => by
    rw [List.pairwise_cons] at hF hG
    have e : a = b := by
      rcases List.mem_cons.1 ((h a).1 (by simp)) with e | h1
      · exact e
      · rcases List.mem_cons.1 ((h b).2 (by simp)) with e | h2
        · exact e.symm
        · have := ltS_asymm (hG.1 a h1)
          rw [hF.1 b h2] at this
          cases this
    subst e
    refine congrArg (a :: ·) (rows_eq hF.2 hG.2 fun r => ?_)
    have := h r
    constructor
    · intro hr
      rcases List.mem_cons.1 (this.1 (List.mem_cons_of_mem _ hr)) with e | h'
      · subst e; have := hF.1 r hr; rw [ltS_irrefl] at this; cases this
      · exact h'
    · intro hr
      rcases List.mem_cons.1 (this.2 (List.mem_cons_of_mem _ hr)) with e | h'
      · subst e; have := hG.1 r hr; rw [ltS_irrefl] at this; cases this
      · exact h'
theorem initR_len (l : List (ByteArray × ByteArray)) (key : ByteArray) : (initR l key).length ≤ 1 := by
  unfold initR
  have : ∀ (l : List (ByteArray × ByteArray)) (R : ByteArray → List Ver), (R key).length ≤ 1 → ((l.foldl (fun R r => putG R r.1 [⟨0, r.2, false⟩]) R) key).length ≤ 1 := by
    intro l
    induction l with
    | nil => exact fun R h => h
    | cons r l ih =>
      intro R h
      refine ih _ ?_
      by_cases e : key = r.1
      · simp [putG, e]
      · simp [putG, e]; exact h
  exact this l _ (by simp)
end Go.Proofs.YtpbhcjkllfonhaaGreat

/-
  What haywainref.SameRows returns of rows that are the same. It changes nothing that was there.
-/
namespace Go.Proofs.YtpbhcjkllfonhaaGreat
open Go.RowKit Go.Joins

/-- rows of one's own, as they lie -/
theorem ownP_held {w : World} {B : Nat} {v : Value} {F : List (ByteArray × ByteArray)} (h : ownP w B v F) : ∃ ao cap, v = .slice ao F.length cap ∧ heldSp w ao F := by
  rcases own_form h with ⟨hv, h0⟩ | ⟨g, cap, hv, _, hl, hc, hm⟩
  · have e : F = [] := List.length_eq_zero_iff.1 h0
    subst e
    exact ⟨none, 0, hv, .inl rfl⟩
  · refine ⟨_, cap, hv, .inr ⟨g, 0, rfl, fun i hi => ?_⟩⟩
    unfold ownP at h
    rw [hv] at h
    have h0 := (own_get cellP_len h i 0 hi (by omega)).1
    have h1 := (own_get cellP_len h i 1 hi (by omega)).1
    rw [show 0 + i * 2 = i * 2 + 0 by omega]
    exact ⟨h0, by rw [show i * 2 + 0 + 1 = i * 2 + 1 by omega]; exact h1⟩
theorem ownP_has {w : World} {B : Nat} {la : Option Addr} {lc : Nat} {F : List (ByteArray × ByteArray)} (h : ownP w B (.slice la F.length lc) F) : heldSp w la F ∧ F.length ≤ 9223372036854775807 := by
  refine ⟨?_, ?_⟩
  · obtain ⟨ao, cap, e, hh⟩ := ownP_held h
    cases e
    exact hh
  · rcases own_form h with ⟨_, h0⟩ | ⟨g, cap, hv, _, hl, hc, hm⟩
    · omega
    · unfold maxLen at hm; omega
set_option maxHeartbeats 1000000 in
theorem sameRows_some (l : List (ByteArray × ByteArray)) (b off cap b2 off2 cap2 : Nat) (w : World) (hl : spansAt w b off l) (hl2 : spansAt w b2 off2 l) (hn : l.length ≤ 9223372036854775807) :
    Calls Tryz.prog 16 #[.slice (some ⟨b, off, none⟩) l.length cap, .slice (some ⟨b2, off2, none⟩) l.length cap2] w fun e w' => e = .returned (.bool true) ∧ Below w.heap.size w w' := by
  go_enter Tryz.func16, Tryz.ntmps16
  go_wp2
  go_loopw [5] (fun i wr => ∃ k : Nat, k ≤ l.length ∧ i = .int .i64 k ∧ Below w.heap.size w wr) (fun i _ => l.length - (intOf i).toNat)
  case atStart => exact ⟨0, Nat.zero_le _, rfl, Below.refl _ _⟩
  case round =>
    obtain ⟨k, hk, rfl, hB⟩ := hrel
    by_cases hlt : k < l.length
    · obtain ⟨c0, c1⟩ := spansAt_on hB hl k hlt
      obtain ⟨d0, d1⟩ := spansAt_on hB hl2 k hlt
      go_wp2
      go_quiet (fail)
      go_wp2
      go_roundw
      case rel => exact ⟨k + 1, by omega, by go_num, hB.trans (below_draws _ _ _)⟩
      case measure => simp [intOf]; omega
    · go_wp2
      go_ret
      exact ⟨rfl, hB⟩
set_option maxHeartbeats 1000000 in
theorem sameRows_nil (ao ao2 : Option Addr) (cap cap2 : Nat) (w : World) :
    Calls Tryz.prog 16 #[.slice ao 0 cap, .slice ao2 0 cap2] w fun e w' => e = .returned (.bool true) ∧ Below w.heap.size w w' := by
  go_enter Tryz.func16, Tryz.ntmps16
  go_wp2
  go_loopw [5] (fun i wr => i = .int .i64 0 ∧ wr = w) (fun _ _ => 0)
  case atStart => exact ⟨rfl, rfl⟩
  case round =>
    obtain ⟨rfl, rfl⟩ := hrel
    go_wp2
    go_ret
    exact ⟨rfl, Below.refl _ _⟩
theorem sameRows_held (l : List (ByteArray × ByteArray)) (ao ao2 : Option Addr) (cap cap2 : Nat) (w : World) (hl : heldSp w ao l) (hl2 : heldSp w ao2 l) (hn : l.length ≤ 9223372036854775807) :
    Calls Tryz.prog 16 #[.slice ao l.length cap, .slice ao2 l.length cap2] w fun e w' => e = .returned (.bool true) ∧ Below w.heap.size w w' := by
  rcases hl with rfl | ⟨b, off, rfl, h⟩
  · exact sameRows_nil _ _ _ _ _
  · rcases hl2 with rfl | ⟨b2, off2, rfl, h2⟩
    · exact sameRows_nil _ _ _ _ _
    · exact sameRows_some l b off cap b2 off2 cap2 w h h2 hn
end Go.Proofs.YtpbhcjkllfonhaaGreat

/-
  What View.seen returns of a view that has changed nothing: rows of a span as they were; what view.upTo and slices.Clip return.
-/
namespace Go.Proofs.YtpbhcjkllfonhaaGreat
open Go.RowKit Go.Joins Go.Shelf
attribute [local go_sem ↓] Go.wp_at_zero Go.wp_at_succ

set_option maxRecDepth 4000 in
set_option maxHeartbeats 2000000 in
theorem seen_nil (s : ByteArray × ByteArray) {B0 B wb vb mb n : Nat} {now since : Int} {D : DataW Value} {g : ByteArray → Value} {R : ByteArray → List Ver} {cv rv : Value} {rds : List (ByteArray × ByteArray)} (w : World) (hv : VS w B0 vb mb now n D g R) (h : VW w B wb vb since cv rv [] rds)
    (hn : n ≤ 1000000) (hR : ∀ key, (R key).length ≤ 1000000) :
    Calls Tryz.prog 31 #[.pointer (some ⟨wb, 0, none⟩), .agg #[.string s.1, .string s.2]] w fun e w' => ∃ v, e = .returned v ∧ Below w.heap.size w w' ∧ ∃ F, ownP w' w.heap.size v F ∧ (F.Pairwise fun a b => ltS a.1 b.1 = true) ∧ ∀ r, r ∈ F ↔ told R since s r := by
  have HV := hide hv
  have HR := hide hR
  have hB0 := below_alloc1 w (Obj.cells #[Value.string s.1, Value.string s.2] 49)
  have a0 : (w.alloc (Obj.cells #[Value.string s.1, Value.string s.2] 49)).cell? ⟨w.heap.size, 0, none⟩ = some (.string s.1) := cell_new _ _ _ 0
  have a1 : (w.alloc (Obj.cells #[Value.string s.1, Value.string s.2] 49)).cell? ⟨w.heap.size, 1, none⟩ = some (.string s.2) := cell_new _ _ _ 1
  have c0 := cell_on hB0 h.c0
  have c1 := cell_on hB0 h.c1
  have c2 := cell_on hB0 h.c2
  obtain ⟨ca, cc, rfl⟩ := own_shape h.chs
  have HB0 := hide hB0
  clear h hv hR hB0
  go_enter Tryz.func31, Tryz.ntmps31
  go_wp2
  go_region_held3 (fun w' => w'.cell? ⟨w.heap.size, 0, none⟩ = some (.string s.1) ∧ w'.cell? ⟨w.heap.size, 1, none⟩ = some (.string s.2) ∧ w'.cell? ⟨wb, 0, none⟩ = some (.pointer (some ⟨vb, 0, none⟩)) ∧ w'.cell? ⟨wb, 1, none⟩ = some (.int .i64 since))
    (first | go_keep | exact ⟨cell_on hb2 a0, cell_on hb2 a1, cell_on hb2 c0, cell_on hb2 c1⟩) (first | (go_at_call 52; refine (scan_any sort_says sort_nil s since _ ((HV.out.on HB0.out).on (Below.refl _ _).drew) hn HR.out).mono ?_; rintro e w2 ⟨v, rfl, hb2', F, ho, hs, hnd, hm⟩; have hb2 := below_on (Below.refl _ (w.alloc (Obj.cells #[Value.string s.1, Value.string s.2] 49))).drew (Nat.le_refl _) hb2'; clear hb2'; dsimp only))
  all_goals
    have HO := hide ho
    have HST := hide (rows_strict hs hnd)
    have HM := hide hm
    have HB2 := hide (below_on HB0.out (Nat.le_refl _) hb2)
    replace c2 := cell_on hb2 c2
    clear ho hs hnd hm hb2
    go_wp2
    refine wp_loop_rounds 1 ?_
    rw [rounds_succ]
    go_wp2
    go_ret
    exact ⟨v, rfl, HB2.out, F, own_low HO.out (by simp), HST.out, HM.out⟩
theorem field_to (a b : ByteArray) (w : World) : (Instr.field 49 (.agg #[.string a, .string b]) 1).run Tryz.prog w = .ok (.string b) w := by
  have h1 := Tryz.isAgg9
  have h2 := Tryz.sizeOf9
  simp [Instr.field, run_underlying Tryz.underlying49, asAgg, part, h1, go_sem]
set_option maxRecDepth 10000 in
set_option maxHeartbeats 1000000 in
theorem upTo_any (key : ByteArray) (w : World) (hk : key.size ≤ 1000) :
    Calls Tryz.prog 34 #[.string key] w fun e w' => e = .returned (.agg #[.string ⟨#[]⟩, .string (zeroS key)]) ∧ Below w.heap.size w w' := by
  have HP := fun w => hide (point_any key w hk)
  have hfl := field_to
  have hB := below_alloc1 w (Obj.cells #[Value.string ⟨#[]⟩, Value.string ⟨#[]⟩] 49)
  have fz := frozen_new w #[Value.string ⟨#[]⟩, Value.string ⟨#[]⟩] 49
  have r0 : (w.alloc (Obj.cells #[Value.string ⟨#[]⟩, Value.string ⟨#[]⟩] 49)).cell? ⟨w.heap.size, 0, none⟩ = some (.string ⟨#[]⟩) := by simp
  have r1 : (w.alloc (Obj.cells #[Value.string ⟨#[]⟩, Value.string ⟨#[]⟩] 49)).cell? ⟨w.heap.size, 1, none⟩ = some (.string ⟨#[]⟩) := by simp
  have h0 : w.heap.size < (w.alloc (Obj.cells #[Value.string ⟨#[]⟩, Value.string ⟨#[]⟩] 49)).heap.size := by simp
  generalize zeroS key = z at *
  go_enter Tryz.func34, Tryz.ntmps34
  go_wp2_with (go_at_call 43; refine (HP _).out.mono ?_; rintro e w1 ⟨rfl, hb⟩; replace hB := below_on hB (Nat.le_refl _) hb; replace fz := fun j => frozen_on hb h0 (fz j); replace r0 := cell_on hb r0; replace r1 := cell_on hb r1; clear hb h0)
  exact bodyPost_ret (v := .agg #[.string ⟨#[]⟩, .string z]) (by simp [results, Tryz.results34, go_sem, r0, r1]) rfl ⟨rfl, (hB.setCell (p := ⟨w.heap.size, 0, none⟩) (Nat.le_refl _) _).setCell (p := ⟨w.heap.size, 1, none⟩) (Nat.le_refl _) _⟩
set_option maxHeartbeats 1000000 in
theorem clip_any (a : Addr) (n cap : Nat) (w : World) (hn : n ≤ cap) (hc : cap ≤ 9223372036854775807) :
    Calls Tryz.prog 32 #[.slice (some a) n cap] w fun e w' => e = .returned (.slice (some a) n n) ∧ Below w.heap.size w w' := by
  have h1 : (n : Int) ≤ (cap : Int) := by omega
  have h2 : n ≤ 9223372036854775807 := by omega
  go_enter Tryz.func32, Tryz.ntmps32
  go_wp2
  go_ret
  exact ⟨rfl, Below.refl _ _⟩
end Go.Proofs.YtpbhcjkllfonhaaGreat
