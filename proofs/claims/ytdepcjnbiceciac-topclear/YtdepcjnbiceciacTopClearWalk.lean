/-
  What haywaintop.TopClear returns: true, for all acts, spans and numbers, in whatever memory; nothing that was there is changed.
-/
import Derived.Test.YtdepcjnbiceciacTopClearL
namespace Go.Proofs.Ytdepcjnbiceciac
open Go.RowKit Go.Joins

theorem allS_any (w : World) : Calls Try.prog 14 #[] w fun e w' => e = .returned (.agg #[.string ⟨#[]⟩, .string ⟨#[]⟩]) ∧ Below w.heap.size w w' := by
  go_enter Try.func14, Try.ntmps14
  go_wp2
  exact bodyPost_ret (v := .agg #[.string ⟨#[]⟩, .string ⟨#[]⟩]) (by simp [results, Try.results14, go_sem]) rfl ⟨rfl, by first | exact below_alloc1 _ _ | exact Below.refl _ _⟩

def keyTA : ByteArray := ⟨#[116, 47, 97]⟩
theorem one_false : clearD [⟨2, [keyTA]⟩] [(⟨#[]⟩, ⟨#[]⟩)] 1 = false := by decide +kernel

set_option maxRecDepth 4000 in
set_option maxHeartbeats 4000000 in
theorem topClear_heavy (acts : List ActL) (ao : Option Addr) (cap : Nat) (a : List (ByteArray × ByteArray)) (aa : Option Addr) (ac : Nat) (b : List (ByteArray × ByteArray)) (ba : Option Addr) (bc : Nat) (since : Int) (w : World)
    (hl : heldAc w ao acts) (ha : heldSp w aa a) (hb : heldSp w ba b) (na : a.length ≤ maxLen) (nb : b.length ≤ maxLen) (hh : lightActs acts 30 = false ∨ lightActs acts 30 = true ∧ (lightSpans a = false ∨ lightSpans a = true ∧ lightSpans b = false)) :
    Calls Try.prog 4 #[.slice ao acts.length cap, .slice aa a.length ac, .slice ba b.length bc, .int .i64 since] w fun e w' => e = .returned (.bool true) ∧ Below w.heap.size w w' := by
  have hB1 := below_alloc2 w (Obj.cells #[Value.slice none 0 0] 46) (Obj.cells #[Value.string keyTA, Value.string ⟨#[]⟩, Value.bool false] 29)
  have hH : HistAt ((w.alloc (Obj.cells #[Value.slice none 0 0] 46)).alloc (Obj.cells #[Value.string keyTA, Value.string ⟨#[]⟩, Value.bool false] 29)) w.heap.size w.heap.size (.slice none 0 0) [] := hist_made (Nat.le_refl _) (by simp) (frozen_on (below_alloc1 _ _) (by simp) (frozen_new w _ _ 0))
  have hC : heldCh ((w.alloc (Obj.cells #[Value.slice none 0 0] 46)).alloc (Obj.cells #[Value.string keyTA, Value.string ⟨#[]⟩, Value.bool false] 29)) (some ⟨w.heap.size + 1, 0, none⟩) [⟨keyTA, ⟨#[]⟩, false⟩] := .inr ⟨_, _, rfl, fun i hi => by
    have e : i = 0 := by simp at hi; omega
    subst e
    simp⟩
  have HN := hide (note_any [] w.heap.size w.heap.size (.slice none 0 0) 2 (some ⟨w.heap.size + 1, 0, none⟩) 1 [⟨keyTA, ⟨#[]⟩, false⟩] _ hH List.Pairwise.nil (by simp [ofDV]) (by simp; omega) (by simp) hC (by simp) (fun _ b off e => by cases e; simp [Value.ownBlock]))
  clear hH hC
  have HL := hide hl
  have HA := hide ha
  have HB := hide hb
  clear hl ha hb
  go_enter Try.func4, Try.ntmps4
  go_wp2_with fail
  refine HN.out.mono ?_
  rintro e w1 ⟨rfl, v1, dv1, h1, e1, hb1⟩
  have H1 : Hid (Hist w1 w.heap.size w.heap.size [⟨2, [keyTA]⟩]) := ⟨v1, dv1, h1, e1⟩
  have hB := hB1.trans hb1
  clear HN hB1 h1 e1 hb1
  go_wp2_with fail
  refine (allS_any _).mono ?_
  rintro e w2 ⟨rfl, hb2⟩
  have hb3 := below_alloc1 w2 (Obj.cells #[Value.string ⟨#[]⟩, Value.string ⟨#[]⟩] 37)
  have hb23 := below_on hb2 (Nat.le_refl _) hb3
  have H2 := hide (H1.out.on hb23)
  have hS : heldSp (w2.alloc (Obj.cells #[Value.string ⟨#[]⟩, Value.string ⟨#[]⟩] 37)) (some ⟨w2.heap.size, 0, none⟩) [(⟨#[]⟩, ⟨#[]⟩)] := .inr ⟨_, _, rfl, fun i hi => by
    have e : i = 0 := by simp at hi; omega
    subst e
    simp⟩
  replace hB := hB.trans (hb23.mono hB.size)
  clear hb2 hb3 H1 hb23
  go_wp2_with fail
  refine (clear_h [⟨2, [keyTA]⟩] w.heap.size w.heap.size 1 [(⟨#[]⟩, ⟨#[]⟩)] _ _ _ H2.out (by simp [risesD]) (by simp) (by simp) hS (by simp [maxLen])).mono ?_
  rintro e w3 ⟨rfl, hb3⟩
  rw [one_false]
  have H3 := hide (H2.out.on hb3)
  replace hB := hB.trans (hb3.mono hB.size)
  clear hb3 hS H2
  go_wp2_with fail
  refine (clear_h [⟨2, [keyTA]⟩] w.heap.size w.heap.size 0 [] _ _ _ H3.out (by simp [risesD]) (by simp) (by simp) (.inl rfl) (by simp [maxLen])).mono ?_
  rintro e w4 ⟨rfl, hb4⟩
  rw [clear_nil]
  replace hB := hB.trans (hb4.mono hB.size)
  clear hb4 H3
  rcases hh with h | ⟨h, h' | ⟨h', h''⟩⟩
  · have HX := hide h
    clear h
    go_wp2_with (first
      | (go_at_call 18; refine (lightAc_held acts 30 _ _ _ (heldAc_on hB HL.out) (by omega)).mono ?_; rintro e w5 ⟨rfl, rfl⟩; rw [HX.out]))
    go_ret
    exact ⟨rfl, hB⟩
  · have HX := hide h
    have HY := hide h'
    clear h h'
    go_wp2_with (first
      | (go_at_call 18; refine (lightAc_held acts 30 _ _ _ (heldAc_on hB HL.out) (by omega)).mono ?_; rintro e w5 ⟨rfl, rfl⟩; rw [HX.out])
      | (go_at_call 19; refine (lightSp_held a _ _ _ (heldSp_on hB HA.out) na).mono ?_; rintro e w5 ⟨rfl, rfl⟩; rw [HY.out]))
    go_ret
    exact ⟨rfl, hB⟩
  · have HX := hide h
    have HY := hide h'
    have HZ := hide h''
    clear h h' h''
    go_wp2_with (first
      | (go_at_call 18; refine (lightAc_held acts 30 _ _ _ (heldAc_on hB HL.out) (by omega)).mono ?_; rintro e w5 ⟨rfl, rfl⟩; rw [HX.out]))
    refine (lightSp_held a _ _ _ (heldSp_on hB HA.out) na).mono ?_
    rintro e w5 ⟨rfl, rfl⟩
    rw [HY.out]
    go_wp2_with fail
    refine (lightSp_held b _ _ _ (heldSp_on hB HB.out) nb).mono ?_
    rintro e w5 ⟨rfl, rfl⟩
    rw [HZ.out]
    go_wp2
    go_ret
    exact ⟨rfl, hB⟩
end Go.Proofs.Ytdepcjnbiceciac
