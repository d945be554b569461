/-
  What View.note of haywainref makes of the document's view: a span more that was read, if it isn't there, and if there aren't too many.
-/
import Derived.Test.YtpbhcjkllfonhaaGreatRefView
namespace Go.Proofs.YtpbhcjkllfonhaaGreat
open Go.RowKit Go.Joins Go.Shelf Go.WideShapes
attribute [local go_sem ↓] Go.wp_at_zero Go.wp_at_succ

theorem hasSp_hit {l : Rws} {s : ByteArray × ByteArray} {k : Nat} (hk : k < l.length) (h1 : eqS l[k].1 s.1 = true) (h2 : eqS l[k].2 s.2 = true) : hasSp l s = true := by
  have e : l[k] = s := Prod.ext ((eqS_iff _ _).1 h1) ((eqS_iff _ _).1 h2)
  unfold hasSp
  rw [List.any_eq_true]
  exact ⟨l[k], List.getElem_mem hk, by rw [e]; exact (eqSp_iff _ _).2 rfl⟩
theorem hasSp_miss {l : Rws} {s : ByteArray × ByteArray} (h : ∀ i (hi : i < l.length), ¬ (eqS l[i].1 s.1 = true ∧ eqS l[i].2 s.2 = true)) : hasSp l s = false := by
  unfold hasSp
  rw [List.any_eq_false]
  intro x hx e
  obtain ⟨i, hi, rfl⟩ := List.getElem_of_mem hx
  have := (eqSp_iff _ _).1 e
  exact h i hi (by rw [← this]; exact ⟨(eqS_iff _ _).2 rfl, (eqS_iff _ _).2 rfl⟩)
theorem sp_nothing (W : World) (ty : TypeId) (sa : Option Addr) (sc : Nat) : (Builtin.append_ #[33, 33] ty #[.slice none 0 0, .slice sa 0 sc]).run Tryz.prog W = .ok (.slice none 0 0) W := by
  obtain ⟨i0, hi0, hz0, hz1, hz2⟩ := info_parts span_info
  cases sa <;> simp [Builtin.append_, run_underlying Tryz.underlying33, sizeOf, typeInfo, hi0, Builtin.lenOf, Builtin.firstCells, loadCells, loadCellsFrom]
/-- one more, appended in memory of one's own, and stored -/
theorem note_push {w w2 : World} {B rb g2 c2 : Nat} {ra ca sa : Option Addr} {rc cc sc : Nat} {P : Rws} {since : Int} {chs : List Chg} {rds : Rws} {s : ByteArray × ByteArray} (h : RWx w rb ra rc ca cc sa sc P since chs rds) (h2 : ∀ k, atB ra k → P ≠ [] → k ≠ rb) (h3 : ∀ k, atB ca k → chs ≠ [] → k ≠ rb) (hB : B ≤ w.heap.size) (hrb : B ≤ rb) (hb : Below w.heap.size w w2)
    (ho : w2.ownsRow w.heap.size 49 2 (.slice (some ⟨g2, 0, none⟩) (rds.length + 1) c2) (rds.length + 1) (rds.flatMap cellS ++ [.string s.1, .string s.2])) :
    ActR w (w2.setCell ⟨rb, 3, none⟩ (.slice (some ⟨g2, 0, none⟩) (rds.length + 1) c2)) B rb (inRW rb ra ca sa P chs rds) P since chs (rds ++ [s]) := by
  have ho' : ownSp w2 w.heap.size (.slice (some ⟨g2, 0, none⟩) (rds ++ [s]).length c2) (rds ++ [s]) := by
    unfold ownSp
    rw [List.length_append, List.flatMap_append]
    exact ho
  obtain ⟨ao, cap, e, hh, _⟩ := ownSp_held ho'
  cases e
  have := act_setR h h2 h3 hB hrb hb (sc' := c2) hh (fun k e _ => by
    obtain ⟨off, e⟩ := e
    cases e
    exact (World.ownsRow.lt ho g2 rfl).1)
  rw [List.length_append, List.length_singleton] at this
  exact this
theorem sp_news {W : World} {b off : Nat} {l : Rws} (h : spansAt W b off l) : ∀ j u, (l.flatMap cellS)[j]? = some u → W.cell? ((⟨b, off, none⟩ : Addr).add j) = some u := by
  intro j u hj
  have hjl := (List.getElem?_eq_some_iff.1 hj).1
  rw [flat_len cellS 2 cellS_len] at hjl
  have hq : j / 2 < l.length := by omega
  have ej : j = j / 2 * 2 + j % 2 := by omega
  have hg := flat_get cellS 2 cellS_len l (j / 2) (j % 2) hq (by omega)
  rw [← ej, hj] at hg
  obtain ⟨c0, c1⟩ := h (j / 2) hq
  rw [Addr.add_lit]
  rcases Nat.mod_two_eq_zero_or_one j with e | e
  · rw [e] at hg
    simp [cellS] at hg
    have e2 : off + j = off + j / 2 * 2 := by omega
    rw [e2, c0, hg]
  · rw [e] at hg
    simp [cellS] at hg
    have e2 : off + j = off + j / 2 * 2 + 1 := by omega
    rw [e2, c1, hg]
set_option maxRecDepth 4000 in
set_option maxHeartbeats 4000000 in
theorem rnote_any (s : ByteArray × ByteArray) {B rb : Nat} {G : Nat → Prop} {P : Rws} {since : Int} {chs : List Chg} {rds : Rws} (w : World) (h : RW w rb G P since chs rds) (hB : B ≤ w.heap.size) (hrb : B ≤ rb) (hn : rds.length ≤ 40) :
    Calls Tryz.prog 39 #[.pointer (some ⟨rb, 0, none⟩), .agg #[.string s.1, .string s.2]] w fun e w' => e = .returned (.int .i64 (readF rds s : Nat)) ∧ ActR w w' B rb G P since chs (readL rds s) := by
  have HW := hide h
  obtain ⟨ra, rc, ca, cc, sa, sc, h1, rfl, h2, h3, h4⟩ := h
  have HX := hide h1
  have H2 := hide h2
  have H3 := hide h3
  have hB0 := below_alloc1 w (Obj.cells #[Value.string s.1, Value.string s.2] 49)
  have a0 : (w.alloc (Obj.cells #[Value.string s.1, Value.string s.2] 49)).cell? ⟨w.heap.size, 0, none⟩ = some (.string s.1) := cell_new _ _ _ 0
  have a1 : (w.alloc (Obj.cells #[Value.string s.1, Value.string s.2] 49)).cell? ⟨w.heap.size, 1, none⟩ = some (.string s.2) := cell_new _ _ _ 1
  have c3 := cell_on hB0 h1.c3
  have f3 := frozen_on hB0 (h1.lt (.inl rfl)) (h1.soft 3)
  have hlt := h1.lt (k := rb) (.inl rfl)
  have HR := hide (heldSp_on hB0 h1.hR)
  have HB0 := hide hB0
  clear h1 h2 h3 h4 hB0
  go_enter Tryz.func39, Tryz.ntmps39
  go_wp2
  generalize hW0 : (w.alloc (Obj.cells #[Value.string s.1, Value.string s.2] 49)) = W0 at *
  have hz : w.heap.size < W0.heap.size := by rw [← hW0]; simp
  clear hW0
  go_loopw [5] (fun i wr => ∃ k : Nat, k ≤ rds.length ∧ i = .int .i64 k ∧ (∀ i (hi : i < rds.length), i < k → ¬ (eqS rds[i].1 s.1 = true ∧ eqS rds[i].2 s.2 = true)) ∧ Below W0.heap.size W0 wr) (fun i _ => rds.length - (intOf i).toNat)
  case atStart => exact ⟨0, Nat.zero_le _, rfl, fun i _ h => absurd h (Nat.not_lt_zero _), Below.refl _ _⟩
  case round =>
    obtain ⟨k, hk, rfl, hno, hBr⟩ := hrel
    have HNO := hide hno
    clear hno
    have b0 := cell_on hBr a0
    have b1 := cell_on hBr a1
    have b3 := cell_on hBr c3
    have g3 := frozen_on hBr (show rb < W0.heap.size by omega) f3
    have HBr := hide (below_on HB0.out (Nat.le_refl _) hBr)
    have HBr0 := hide hBr
    by_cases hlk : k < rds.length
    · have hlk' : (k : Int) < (rds.length : Int) := by omega
      have hk0 : (0 : Int) ≤ (k : Int) := Int.natCast_nonneg _
      rcases HR.out with e | ⟨b, off, esa, hsp⟩
      · rw [e] at hlk; simp at hlk
      subst esa
      obtain ⟨d0, d1⟩ := spansAt_on hBr hsp k hlk
      obtain ⟨p1, hp1⟩ : ∃ p, (rds[k].1.toList == s.1.toList) = p := ⟨_, rfl⟩
      obtain ⟨p2, hp2⟩ : ∃ p, (rds[k].2.toList == s.2.toList) = p := ⟨_, rfl⟩
      have HP1 : Hid (eqS rds[k].1 s.1 = p1) := hp1
      have HP2 : Hid (eqS rds[k].2 s.2 = p2) := hp2
      clear hsp a0 a1 c3 f3
      by_cases hpp : p1 = true ∧ p2 = true
      · obtain ⟨rfl, rfl⟩ := hpp
        have HH := hide (hasSp_hit hlk HP1.out HP2.out)
        go_wp2
        go_quiet (fail)
        go_wp2
        go_ret
        refine ⟨?_, ?_⟩
        · unfold readF; rw [HH.out]; rfl
        · unfold readL; rw [HH.out]; exact act_same HW.out hB (HBr.out.trans (below_draws _ _ _))
      · have hno2 : ∀ i (hi : i < rds.length), i < k + 1 → ¬ (eqS rds[i].1 s.1 = true ∧ eqS rds[i].2 s.2 = true) := fun i hi hik => by
          rcases Nat.eq_or_lt_of_le (Nat.le_of_lt_succ hik) with e | e
          · subst e; rw [HP1.out, HP2.out]; exact hpp
          · exact HNO.out i hi e
        have HN2 := hide hno2
        clear hno2
        cases p1 <;> cases p2
        case true.true => exact absurd ⟨rfl, rfl⟩ hpp
        all_goals
          go_wp2
          go_quiet (fail)
          go_wp2
          exact ⟨⟨k + 1, by omega, by go_num, HN2.out, hBr.trans (below_draws _ _ _)⟩, by simp [intOf]; omega⟩
    · have ek : k = rds.length := by omega
      subst ek
      have hlk' : ¬ (rds.length : Int) < (rds.length : Int) := by omega
      have HH : Hid (hasSp rds s = false) := hasSp_miss fun i hi => HNO.out i hi hi
      by_cases h40 : rds.length = 40
      · have h40' : (rds.length : Int) = 40 := by omega
        go_wp2
        go_ret
        refine ⟨?_, ?_⟩
        · unfold readF; rw [HH.out, if_pos (show 40 ≤ rds.length by omega)]; rfl
        · unfold readL; rw [HH.out, if_pos (show 40 ≤ rds.length by omega)]; exact act_same HW.out hB HBr.out
      · have h40' : ¬ (rds.length : Int) = 40 := by omega
        have h41 : ¬ 40 ≤ rds.length := by omega
        have HRF : Hid (readF rds s = 0) := by unfold Hid readF; rw [HH.out, if_neg h41]; rfl
        have HRL : Hid (readL rds s = rds ++ [s]) := by unfold Hid readL; rw [HH.out, if_neg h41]; rfl
        have hsr := HBr.out.size
        have hrl : rb < wr.heap.size := by omega
        obtain ⟨i0, hi0, hz0, hz1, hz2⟩ := info_parts span_info
        have HNW : Hid (∀ (W : World) (j : Nat) (u : Value), [Value.string s.1, Value.string s.2][j]? = some u → (W.alloc (Obj.cells #[Value.string s.1, Value.string s.2] 49)).cell? ((⟨W.heap.size, 0, none⟩ : Addr).add j) = some u) := fun W =>
          World.news_of_block (cs := #[.string s.1, .string s.2]) (t := 49) (fr := (0, 0)) (heap_alloc_new W _)
        clear hBr a0 a1 c3 f3
        by_cases h0 : rds = []
        · subst h0
          rcases sa with _ | sa
          all_goals
            go_wp2
            go_region_law (first
              | (refine step_append_lies _ (by rfl) _ _ _ (by rfl) w.heap.size 49 i0 _ 2 32 Tryz.underlying33 hi0 hz0 hz1 hz2 rfl (by omega) (.slice none 0 0) 0 [] (by rfl) (World.ownsRow_nil _ _ _ _) ⟨wr.heap.size, 0, none⟩ 1 1 [.string s.1, .string s.2] (by rfl) (by rfl) (HNW.out wr) (by simp [Value.oneCell']) (by omega) (by unfold maxLen; omega) (by omega) (by simp; omega) (wr.heap.size + 1) (by simp) ?_; intro g2 c2 w2 ho2 hg2 hat2 hlt2; have hbw2 : Below wr.heap.size wr w2 := ((below_alloc1 wr (Obj.cells #[Value.string s.1, Value.string s.2] 49)).drew).grown hg2 (by simp) (fun k e => by cases e); have k3 := cell_on hbw2 b3; have k2 := frozen_on hbw2 hrl g3)
              | fail)
            all_goals
              have HRP := hide (note_push HX.out H2.out H3.out hB hrb (below_on HBr.out (Nat.le_refl _) hbw2) ho2)
              clear k3 k2 ho2 hg2 hat2 hlt2 b0 b1 b3 g3 hbw2
              go_wp2
              go_ret
              exact ⟨by rw [HRF.out]; rfl, by rw [HRL.out]; exact HRP.out⟩
        · rcases HR.out with e | ⟨b, off, esa, hsp⟩
          · exact absurd e h0
          subst esa
          have hpos : 0 < rds.length := List.length_pos_iff.2 h0
          have HN1 : Hid (∀ W, Below wr.heap.size wr W → ∀ j u, (rds.flatMap cellS)[j]? = some u → W.cell? ((⟨b, off, none⟩ : Addr).add j) = some u) := fun W hb => sp_news (spansAt_on hb (spansAt_on HBr0.out hsp))
          clear hsp
          go_wp2
          go_region_law (first
            | (refine step_append_lies _ (by rfl) _ _ _ (by rfl) w.heap.size 49 i0 _ 2 32 Tryz.underlying33 hi0 hz0 hz1 hz2 rfl (by omega) (.slice none 0 0) 0 [] (by rfl) (World.ownsRow_nil _ _ _ _) ⟨b, off, none⟩ rds.length sc (rds.flatMap cellS) (by rfl) (flat_len cellS 2 cellS_len rds) (HN1.out _ (by first | exact (Below.refl _ _).drew | exact (below_alloc1 _ _).drew)) (cellS_one rds) hpos (by unfold maxLen; omega) (by omega) (by simp; omega) _ rfl ?_; intro g1 c1 w1 ho1 hg1 hat1 hlt1; simp only [Nat.zero_add, List.nil_append] at ho1; have hbw1 : Below wr.heap.size wr w1 := by first | exact ((Below.refl _ wr).drew).grown hg1 (by simp) (fun k e => by cases e) | exact ((below_alloc1 wr (Obj.cells #[Value.string s.1, Value.string s.2] 49)).drew).grown hg1 (by simp) (fun k e => by cases e)
               have hge1 : wr.heap.size ≤ g1 := hat1.elim (fun e => by cases e) (fun e => by rw [e]; simp)
               replace b0 := cell_on hbw1 b0; replace b1 := cell_on hbw1 b1)
            | (refine step_append_lies _ (by rfl) _ _ _ (by rfl) w.heap.size 49 i0 _ 2 32 Tryz.underlying33 hi0 hz0 hz1 hz2 rfl (by omega) (.slice (some ⟨g1, 0, none⟩) rds.length c1) _ _ (by rfl) (ho1.alloc _) ⟨w1.heap.size, 0, none⟩ 1 1 [.string s.1, .string s.2] (by rfl) (by rfl) (HNW.out w1) (by simp [Value.oneCell']) (by omega) (by unfold maxLen; omega) (by omega) (by have := hbw1.size; simp; omega) _ rfl ?_; intro g2 c2 w2 ho2 hg2 hat2 hlt2; have hbw2 : Below wr.heap.size wr w2 := (below_on hbw1 (Nat.le_refl _) (below_alloc1 w1 (Obj.cells #[Value.string s.1, Value.string s.2] 49))).grown hg2 (by have := hbw1.size; simp; omega) (fun k e => by simp [Value.ownBlock] at e; omega); have k3 := cell_on hbw2 b3; have k2 := frozen_on hbw2 hrl g3)
            | (refine step_append_lies _ (by rfl) _ _ _ (by rfl) w.heap.size 49 i0 _ 2 32 Tryz.underlying33 hi0 hz0 hz1 hz2 rfl (by omega) (.slice (some ⟨g1, 0, none⟩) rds.length c1) _ _ (by rfl) ho1 ⟨wr.heap.size, 0, none⟩ 1 1 [.string s.1, .string s.2] (by rfl) (by rfl) (fun j u hj => hg1.cell (HNW.out wr j u hj) (by simp [Value.ownBlock])) (by simp [Value.oneCell']) (by omega) (by unfold maxLen; omega) (by omega) (by have := hbw1.size; omega) _ rfl ?_; intro g2 c2 w2 ho2 hg2 hat2 hlt2; have hbw2 : Below wr.heap.size wr w2 := hbw1.grown hg2 hbw1.size (fun k e => by simp [Value.ownBlock] at e; omega); have k3 := cell_on hbw2 b3; have k2 := frozen_on hbw2 hrl g3)
            | fail)
          all_goals
            have HRP := hide (note_push HX.out H2.out H3.out hB hrb (below_on HBr.out (Nat.le_refl _) hbw2) ho2)
            clear k3 k2 ho2 hg2 hat2 hlt2 b0 b1 b3 g3 hbw2
            go_wp2
            go_ret
            exact ⟨by rw [HRF.out]; rfl, by rw [HRL.out]; exact HRP.out⟩
end Go.Proofs.YtpbhcjkllfonhaaGreat
