/-
  What haywaintop.TopClear returns of few small acts and spans: true, in whatever memory; nothing that was there is changed.
-/
import Derived.Test.YtdepcjnbiceciacTopClearWalk
namespace Go.Proofs.Ytdepcjnbiceciac
open Go.RowKit Go.Joins

theorem held_block {w : World} {ao : Option Addr} {l : List Chg} (h : heldCh w ao l) (h0 : l ≠ []) : ∀ b off, ao = some ⟨b, off, none⟩ → b < w.heap.size := fun b off e => by
  rcases h with h | ⟨b', off', e', h⟩
  · exact absurd h h0
  · rw [e] at e'; cases e'
    exact World.block_lt_of_cell? _ _ (h 0 (List.length_pos_iff.2 h0)).1

set_option maxRecDepth 4000 in
set_option maxHeartbeats 8000000 in
theorem topClear_light (acts : List ActL) (ao : Option Addr) (cap : Nat) (a : List (ByteArray × ByteArray)) (aa : Option Addr) (ac : Nat) (b : List (ByteArray × ByteArray)) (ba : Option Addr) (bc : Nat) (since : Int) (w : World)
    (hl : heldAc w ao acts) (ha : heldSp w aa a) (hb : heldSp w ba b) (na : a.length ≤ maxLen) (nb : b.length ≤ maxLen) (hna : aa = none → ac = 0 ∧ a = []) (hnb : ba = none → bc = 0 ∧ b = [])
    (h : lightActs acts 30 = true) (h' : lightSpans a = true) (h'' : lightSpans b = true) :
    Calls Try.prog 4 #[.slice ao acts.length cap, .slice aa a.length ac, .slice ba b.length bc, .int .i64 since] w fun e w' => e = .returned (.bool true) ∧ Below w.heap.size w w' := by
  have hn : acts.length ≤ 30 := by simp only [lightActs, Bool.and_eq_true, decide_eq_true_eq] at h; exact h.1
  have hla : a.length ≤ 50 := by simp only [lightSpans, Bool.and_eq_true, decide_eq_true_eq] at h'; exact h'.1
  have hlb : b.length ≤ 50 := by simp only [lightSpans, Bool.and_eq_true, decide_eq_true_eq] at h''; exact h''.1
  have HX := hide h
  have HY := hide h'
  have HZ := hide h''
  have HNA := hide hna
  have HNB := hide hnb
  clear h h' h'' hna hnb
  have hB1 := below_alloc2 w (Obj.cells #[Value.slice none 0 0] 46) (Obj.cells #[Value.string keyTA, Value.string ⟨#[]⟩, Value.bool false] 29)
  have hH : HistAt ((w.alloc (Obj.cells #[Value.slice none 0 0] 46)).alloc (Obj.cells #[Value.string keyTA, Value.string ⟨#[]⟩, Value.bool false] 29)) w.heap.size w.heap.size (.slice none 0 0) [] := hist_made (Nat.le_refl _) (by simp) (frozen_on (below_alloc1 _ _) (by simp) (frozen_new w _ _ 0))
  have hC : heldCh ((w.alloc (Obj.cells #[Value.slice none 0 0] 46)).alloc (Obj.cells #[Value.string keyTA, Value.string ⟨#[]⟩, Value.bool false] 29)) (some ⟨w.heap.size + 1, 0, none⟩) [⟨keyTA, ⟨#[]⟩, false⟩] := .inr ⟨_, _, rfl, fun i hi => by
    have e : i = 0 := by simp at hi; omega
    subst e
    simp⟩
  have HN := hide (note_any [] w.heap.size w.heap.size (.slice none 0 0) 2 (some ⟨w.heap.size + 1, 0, none⟩) 1 [⟨keyTA, ⟨#[]⟩, false⟩] _ hH List.Pairwise.nil (by simp [ofDV]) (by simp; omega) (by simp) hC (by simp) (fun _ b off e => by cases e; simp [Value.ownBlock]))
  clear hH hC
  have HL := hide hl
  have HA := hide ha
  have HB := hide hb
  clear hl ha hb
  go_enter Try.func4, Try.ntmps4
  go_wp2_with fail
  refine HN.out.mono ?_
  rintro e w1 ⟨rfl, v1, dv1, h1, e1, hb1⟩
  have H1 : Hid (Hist w1 w.heap.size w.heap.size [⟨2, [keyTA]⟩]) := ⟨v1, dv1, h1, e1⟩
  have hB := hB1.trans hb1
  clear HN hB1 h1 e1 hb1
  go_wp2_with fail
  refine (allS_any _).mono ?_
  rintro e w2 ⟨rfl, hb2⟩
  have hb3 := below_alloc1 w2 (Obj.cells #[Value.string ⟨#[]⟩, Value.string ⟨#[]⟩] 37)
  have hb23 := below_on hb2 (Nat.le_refl _) hb3
  have H2 := hide (H1.out.on hb23)
  have hS : heldSp (w2.alloc (Obj.cells #[Value.string ⟨#[]⟩, Value.string ⟨#[]⟩] 37)) (some ⟨w2.heap.size, 0, none⟩) [(⟨#[]⟩, ⟨#[]⟩)] := .inr ⟨_, _, rfl, fun i hi => by
    have e : i = 0 := by simp at hi; omega
    subst e
    simp⟩
  replace hB := hB.trans (hb23.mono hB.size)
  clear hb2 hb3 H1 hb23
  go_wp2_with fail
  refine (clear_h [⟨2, [keyTA]⟩] w.heap.size w.heap.size 1 [(⟨#[]⟩, ⟨#[]⟩)] _ _ _ H2.out (by simp [risesD]) (by simp) (by simp) hS (by simp [maxLen])).mono ?_
  rintro e w3 ⟨rfl, hb3⟩
  rw [one_false]
  have H3 := hide (H2.out.on hb3)
  replace hB := hB.trans (hb3.mono hB.size)
  clear hb3 hS H2
  go_wp2_with fail
  refine (clear_h [⟨2, [keyTA]⟩] w.heap.size w.heap.size 0 [] _ _ _ H3.out (by simp [risesD]) (by simp) (by simp) (.inl rfl) (by simp [maxLen])).mono ?_
  rintro e w4 ⟨rfl, hb4⟩
  rw [clear_nil]
  replace hB := hB.trans (hb4.mono hB.size)
  clear hb4 H3
  go_wp2_with (first
    | (go_at_call 18; refine (lightAc_held acts 30 _ _ _ (heldAc_on hB HL.out) (by omega)).mono ?_; rintro e w5 ⟨rfl, rfl⟩; rw [HX.out]))
  refine (lightSp_held a _ _ _ (heldSp_on hB HA.out) na).mono ?_
  rintro e w5 ⟨rfl, rfl⟩
  rw [HY.out]
  go_wp2_with fail
  refine (lightSp_held b _ _ _ (heldSp_on hB HB.out) nb).mono ?_
  rintro e w5 ⟨rfl, rfl⟩
  rw [HZ.out]
  have hb6 := below_alloc1 w5 (Obj.cells #[Value.slice none 0 0] 46)
  have H6 : Hid (Hist (w5.alloc (Obj.cells #[Value.slice none 0 0] 46)) w.heap.size w5.heap.size (dsK acts 0)) := ⟨_, _, hist_made hB.size (cell_new w5 _ _ 0) (frozen_new w5 _ _ 0), rfl⟩
  replace hB := hB.trans (hb6.mono hB.size)
  have HB6 := hide hB
  clear hb6 hB
  go_wp2
  go_loopw [10] (fun i wr => ∃ k : Nat, k ≤ acts.length ∧ i = .int .i64 k ∧ Hist wr w.heap.size w5.heap.size (dsK acts k) ∧ Below w.heap.size w wr) (fun i _ => acts.length - (intOf i).toNat)
  case atStart => exact ⟨0, Nat.zero_le _, rfl, H6.out, HB6.out⟩
  case round =>
    obtain ⟨k, hk, rfl, hH, hB⟩ := hrel
    have HH := hide hH
    clear hH H6 HB6
    by_cases hlt : k < acts.length
    · rcases HL.out with e0 | ⟨xb, xoff, eao, hx⟩
      · rw [e0] at hlt; simp at hlt
      · subst eao
        have hx0 := hx k hlt
        have hxr := hx0.on hB
        have c7 := hxr.cl
        have H7 := hide hxr.hc
        have HO : Hid (acts[k].chs ≠ [] → ∀ b off, acts[k].ca = some ⟨b, off, none⟩ → b < w.heap.size) := fun h0 => held_block hx0.hc h0
        have hcl := (light_chs HX.out hlt).1
        have hlt' : (k : Int) < (acts.length : Int) := by omega
        clear hx hx0 hxr
        go_wp2_with (first
          | (go_at_call 16; refine (note_h (dsK acts k) w.heap.size _ _ _ _ acts[k].chs _ HH.out (dsK_rises _ _) (dsK_top _ _) hB.size (by rw [dsK_len]; omega) H7.out (by omega) HO.out).mono ?_; rintro e w7 ⟨rfl, hH7, hb7⟩; rw [← dsK_succ hlt] at hH7; have H8 := hide hH7; replace hB := hB.trans hb7; clear hb7 hH7))
        go_roundw
        case rel => exact ⟨k + 1, by omega, by go_num, H8.out, hB⟩
        case measure => simp [intOf]; omega
    · have ek : k = acts.length := by omega
      subst ek
      have hlt' : ¬ (acts.length : Int) < (acts.length : Int) := by omega
      have hr := dsK_rises acts acts.length
      have hdl : (dsK acts acts.length).length ≤ 1000 := by rw [dsK_len]; omega
      have hks := dsK_keys HX.out acts.length
      generalize hds : dsK acts acts.length = ds at HH hr hdl hks
      have HR := hide hr
      have HKS := hide hks
      clear hr hks hds
      obtain ⟨X, hX⟩ : ∃ X, clearD ds a since = X := ⟨_, rfl⟩
      obtain ⟨Y, hY⟩ : ∃ Y, clearD ds b since = Y := ⟨_, rfl⟩
      have hXY : clearD ds (a ++ b) since = (X && Y) := by rw [clear_append, hX, hY]
      have hXF : clearD (ds.drop (aboveD ds since)) (a ++ b) since = (X && Y) := by rw [clear_forget HR.out, hXY]
      have KX := hide hX
      have KY := hide hY
      have KXY := hide hXY
      have KXF := hide hXF
      clear hX hY hXY hXF
      obtain ⟨va, wa, hra, hoa, hga⟩ := append_sp wr.heap.size (.slice none 0 0) [] wr (World.ownsRow_nil _ _ _ _) (Nat.le_refl _) aa ac a (heldSp_on hB HA.out) HNA.out (by simp; omega) 42
      have hBa : Below wr.heap.size wr wa := (Below.refl _ _).grown hga (Nat.le_refl _) (fun k hk => by cases hk)
      rw [List.nil_append] at hoa
      obtain ⟨vb, wb, hrb, hob, hgb⟩ := append_sp wr.heap.size va a wa hoa hBa.size ba bc b (heldSp_on hBa (heldSp_on hB HB.out)) HNB.out (by omega) 42
      have hBb : Below wr.heap.size wr wb := hBa.grown hgb hBa.size (fun k hk => (World.ownsRow.lt hoa k hk).1)
      obtain ⟨bo, bcap, rfl, hheld, hblk⟩ := ownSp_held hob
      have HE := hide hheld
      have HK := hide hblk
      have HBb := hide hBb
      have hlab : (a ++ b).length ≤ maxLen := by rw [List.length_append]; unfold maxLen; omega
      have HB0 := hide hB
      clear hoa hob hga hgb hheld hblk hB hBa hBb
      generalize hLab : a ++ b = L at hrb HE hlab KXY KXF HK
      clear hLab
      go_wp2_with (first
        | (at_builtin; refine Lib.wpList_append_run wr rfl _ _ _ _ rfl (.slice none 0 0) (.slice aa a.length ac) rfl rfl va wa hra ?_)
        | (at_builtin; refine Lib.wpList_append_run wa rfl _ _ _ _ rfl va (.slice ba b.length bc) rfl rfl (.slice bo L.length bcap) wb hrb ?_))
      have hBw : Below w.heap.size w wb := HB0.out.trans (HBb.out.mono HB0.out.size)
      refine (clear_h ds w.heap.size _ since a _ _ _ (HH.out.on HBb.out) HR.out hdl HKS.out (heldSp_on hBw HA.out) na).mono ?_
      rintro e w8 ⟨rfl, hb8⟩
      rw [KX.out]
      go_wp2_with fail
      have hBw8 := hBw.trans (hb8.mono hBw.size)
      have hb8r := below_on HBb.out (Nat.le_refl _) hb8
      refine (clear_h ds w.heap.size _ since b _ _ _ (HH.out.on hb8r) HR.out hdl HKS.out (heldSp_on hBw8 HB.out) nb).mono ?_
      rintro e w9 ⟨rfl, hb9⟩
      rw [KY.out]
      go_wp2_with fail
      have hb9r := below_on hb8r (Nat.le_refl _) hb9
      refine (clear_h ds w.heap.size _ since L _ _ _ (HH.out.on hb9r) HR.out hdl HKS.out (heldSp_on hb9 (heldSp_on hb8 HE.out)) hlab).mono ?_
      rintro e w10 ⟨rfl, hb10⟩
      rw [KXY.out]
      go_wp2_with fail
      have hb10r := below_on hb9r (Nat.le_refl _) hb10
      have hB10 := HB0.out.trans (hb10r.mono HB0.out.size)
      have HE10 := hide (heldSp_on hb10 (heldSp_on hb9 (heldSp_on hb8 HE.out)))
      refine (forget_behind ds w.heap.size _ since wr _ HH.out hb10r HR.out HB0.out.size hdl).mono ?_
      rintro e w11 ⟨rfl, hH11, hb11, hfar⟩
      have HE11 : Hid (heldSp w11 bo L) := heldSp_block HE10.out fun xb xoff e hlt => hfar xb (HK.out xb (by rw [e]; rfl)) hlt
      have H11 := hide hH11
      have hB11 := hB10.trans hb11
      have hr' := hide (rises_drop HR.out (aboveD ds since))
      have hdl' : (ds.drop (aboveD ds since)).length ≤ 1000 := by rw [List.length_drop]; omega
      have hks' : Hid (∀ d ∈ ds.drop (aboveD ds since), d.keys.length ≤ 1000000) := fun d hd => HKS.out d (List.mem_of_mem_drop hd)
      clear hH11 hb11 hfar hB10 hb10r hb10 hb9r hb9 hb8r hb8 hBw8 hBw
      cases X <;> cases Y
      all_goals
        simp only [Bool.and_true, Bool.and_false] at KXF ⊢
        go_wp2_with fail
        refine (clear_h _ w.heap.size _ since L _ _ _ H11.out hr'.out hdl' hks'.out HE11.out hlab).mono ?_
        rintro e w12 ⟨rfl, hb12⟩
        rw [KXF.out]
        go_wp2_with fail
        refine (clear_h _ w.heap.size _ since [] _ _ _ (H11.out.on hb12) hr'.out hdl' hks'.out (.inl rfl) (by simp [maxLen])).mono ?_
        rintro e w13 ⟨rfl, hb13⟩
        rw [clear_nil]
        go_wp2
        go_ret
        exact ⟨rfl, (hB11.trans (hb12.mono hB11.size)).trans (hb13.mono (Nat.le_trans hB11.size hb12.size))⟩
end Go.Proofs.Ytdepcjnbiceciac
