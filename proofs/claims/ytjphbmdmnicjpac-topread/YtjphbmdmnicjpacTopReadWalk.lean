/-
  What haywaintop.TopRead returns: true, of whatever came in.
-/
import Derived.Test.YtjphbmdmnicjpacTopReadL
namespace Go.Proofs.Ytjphbmdmnicjpac
open Go.RowKit Go.Joins Go.Shelf
attribute [local go_sem ↓] Go.wp_at_zero Go.wp_at_succ

theorem readF_none (s : ByteArray × ByteArray) : readF [] s = 0 := rfl
theorem readL_none (s : ByteArray × ByteArray) : readL [] s = [s] := rfl
/-- a view that is new reads a span of rows that rise -/
def FreshAt (w w' : World) (e : Ending) (B wb vb : Nat) (s : ByteArray × ByteArray) (m : Nat) (l : List (ByteArray × ByteArray)) : Prop :=
  ∃ ao cap, e = .returned (.tuple #[.slice ao ((inS l s).take m).length cap, .nilIface]) ∧ (((inS l s).take m).length ≤ cap ∧ cap ≤ 9223372036854775807) ∧ heldSp w' ao ((inS l s).take m) ∧ ∃ rv', VW w' B wb vb 0 (.slice none 0 0) rv' [] [rdS (inS l s) s m] ∧ Below B w w' ∧ farW w w' wb (.slice none 0 0) (.slice none 0 0) (.slice none 0 0) rv' ∧ ∀ b off, ao = some ⟨b, off, none⟩ → w.heap.size ≤ b ∧ b < w'.heap.size ∧ ¬ inVW wb (.slice none 0 0) rv' b
theorem scan_fresh (s : ByteArray × ByteArray) (m : Nat) {B0 B wb vb mb n : Nat} {D : DataW Value} {g : ByteArray → Value} {l : List (ByteArray × ByteArray)} (w : World) (hv : VS w B0 vb mb 0 n D g (initR l)) (h : VW w B wb vb 0 (.slice none 0 0) (.slice none 0 0) [] []) (hp : l.Pairwise fun a b => ltS a.1 b.1 = true) (hk : ∀ r ∈ l, r.1.size ≤ 1000) (hl : l.length ≤ 1000)
    (hn : n ≤ 1000000) (hB : B ≤ w.heap.size) (hm : 1 ≤ m) (hm2 : m ≤ 9223372036854775807) :
    Calls Try.prog 31 #[.pointer (some ⟨wb, 0, none⟩), .agg #[.string s.1, .string s.2], .int .i64 m] w fun e w' => FreshAt w w' e B wb vb s m l := by
  have hs : SeenSays w wb s (fun F => F = inS l s) := fun W hb => (seen_nil s W (hv.on hb) (h.on hb) hn (fun key => by have := initR_len l key; omega)).mono fun e w' ⟨v, he, hb', F, ho, hF, hm⟩ => ⟨v, he, hb', F, ho, seen_rows hp hk hF hm⟩
  refine (scan_ok s m w h hs (fun F e => ?_) hB (by simp) hm hm2).mono ?_
  · subst e
    exact ⟨Nat.le_trans (List.length_filter_le _ _) (by omega), fun r hr => hk r (List.mem_filter.1 hr).1⟩
  · rintro e w' ⟨F, rfl, hq, _⟩
    obtain ⟨ao, cap, h1, h2, h3, rv', h4, h5, h6, h7⟩ := hq (readF_none _)
    exact ⟨ao, cap, h1, h2, h3, rv', by rw [readL_none] at h4; exact h4, h5, h6, h7⟩
def twoR : List (ByteArray × ByteArray) := [(⟨#[116, 47, 97]⟩, ⟨#[]⟩), (⟨#[116, 47, 98]⟩, ⟨#[]⟩)]
theorem two_pair : twoR.Pairwise fun a b => ltS a.1 b.1 = true := by decide +kernel
theorem two_small : ∀ r ∈ twoR, r.1.size ≤ 1000 := by decide +kernel
theorem two_len : ((inS twoR (ByteArray.empty, ByteArray.empty)).take 1).length = 1 := by decide +kernel
theorem two_has : hasS (rdS (inS twoR (ByteArray.empty, ByteArray.empty)) (ByteArray.empty, ByteArray.empty) 1).1 (rdS (inS twoR (ByteArray.empty, ByteArray.empty)) (ByteArray.empty, ByteArray.empty) 1).2 ⟨#[116, 47, 98]⟩ = false := by decide +kernel
theorem span_one' (w : World) (s : ByteArray × ByteArray) : spansAt (w.alloc (Obj.cells #[Value.string s.1, Value.string s.2] 37)) w.heap.size 0 [s] := fun i hi => by
  have e : i = 0 := by simpa using hi
  subst e
  exact ⟨cell_new _ _ _ 0, cell_new _ _ _ 1⟩

theorem read_facts (F : List (ByteArray × ByteArray)) {N M : Nat} (h : N ≤ M) : (F.take N).length ≤ N ∧ (F.take N).length ≤ (F.take M).length ∧ (F.take M).take (F.take N).length = F.take N ∧ ((F.take N).length = N ∨ (F.take M).length = (F.take N).length) := by
  simp only [List.length_take, List.take_take]
  refine ⟨by omega, by omega, ?_, by omega⟩
  by_cases h' : N ≤ F.length
  · rw [show min (min N F.length) M = N by omega]
  · rw [show min (min N F.length) M = F.length by omega, List.take_length, List.take_of_length_le (by omega)]
theorem heldSp_take {w : World} {ao : Option Addr} {l : List (ByteArray × ByteArray)} (h : heldSp w ao l) (k : Nat) : heldSp w ao (l.take k) := by
  rcases h with rfl | ⟨b, off, rfl, h⟩
  · exact .inl (by simp)
  · refine .inr ⟨b, off, rfl, fun i hi => ?_⟩
    rw [List.length_take] at hi
    have := h i (by omega)
    simpa using this

def hasR (l : List (ByteArray × ByteArray)) (r : ByteArray × ByteArray) : Bool := l.any fun y => y.1.toList == r.1.toList && y.2.toList == r.2.toList
theorem hasR_iff (l : List (ByteArray × ByteArray)) (r : ByteArray × ByteArray) : hasR l r = true ↔ r ∈ l := by
  unfold hasR
  rw [List.any_eq_true]
  constructor
  · rintro ⟨y, hy, h⟩
    rw [Bool.and_eq_true] at h
    have e1 := (eqS_iff _ _).1 h.1
    have e2 := (eqS_iff _ _).1 h.2
    have : y = r := Prod.ext e1 e2
    exact this ▸ hy
  · exact fun h => ⟨r, h, by simp⟩
theorem hasR_succ {l : List (ByteArray × ByteArray)} {j : Nat} (h : j < l.length) (r : ByteArray × ByteArray) : hasR (l.take (j + 1)) r = (hasR (l.take j) r || (l[j].1.toList == r.1.toList && l[j].2.toList == r.2.toList)) := by
  unfold hasR
  rw [List.take_succ_eq_append_getElem h, List.any_append, List.any_cons, List.any_nil, Bool.or_false]

set_option maxRecDepth 4000 in
set_option maxHeartbeats 800000 in
theorem topRead_walk (rows : List (ByteArray × ByteArray)) (ra : Option Addr) (rc : Nat) (s : ByteArray × ByteArray) (n m : Int) (w : World) (hr : heldSp w ra rows) :
    Calls Try.prog 6 #[.slice ra rows.length rc, .agg #[.string s.1, .string s.2], .int .i64 n, .int .i64 m] w fun e w' => e = .returned (.bool true) ∧ Below w.heap.size w w' := by
  have HR := hide hr
  clear hr
  go_enter Try.func6, Try.ntmps6
  have HS0 : Hid (((w.alloc (Obj.cells #[Value.string s.1, Value.string s.2] 37)).alloc (Obj.cells #[Value.string ⟨#[116, 47, 97]⟩, Value.string ⟨#[]⟩, Value.string ⟨#[116, 47, 98]⟩, Value.string ⟨#[]⟩] 27)).cell? ⟨w.heap.size, 0, none⟩ = some (.string s.1) ∧ ((w.alloc (Obj.cells #[Value.string s.1, Value.string s.2] 37)).alloc (Obj.cells #[Value.string ⟨#[116, 47, 97]⟩, Value.string ⟨#[]⟩, Value.string ⟨#[116, 47, 98]⟩, Value.string ⟨#[]⟩] 27)).cell? ⟨w.heap.size, 1, none⟩ = some (.string s.2)) := ⟨cell_on (below_alloc1 _ _) (cell_new w _ _ 0), cell_on (below_alloc1 _ _) (cell_new w _ _ 1)⟩
  have HB0 := hide (below_alloc2 w (Obj.cells #[Value.string s.1, Value.string s.2] 37) (Obj.cells #[Value.string ⟨#[116, 47, 97]⟩, Value.string ⟨#[]⟩, Value.string ⟨#[116, 47, 98]⟩, Value.string ⟨#[]⟩] 27))
  have HT : Hid (heldSp ((w.alloc (Obj.cells #[Value.string s.1, Value.string s.2] 37)).alloc (Obj.cells #[Value.string ⟨#[116, 47, 97]⟩, Value.string ⟨#[]⟩, Value.string ⟨#[116, 47, 98]⟩, Value.string ⟨#[]⟩] 27)) (some ⟨(w.alloc (Obj.cells #[Value.string s.1, Value.string s.2] 37)).heap.size, 0, none⟩) twoR) := .inr ⟨_, 0, rfl, fun i hi => by
    have e : i = 0 ∨ i = 1 := by have : i < 2 := hi; omega
    rcases e with rfl | rfl
    · exact ⟨cell_new _ _ _ 0, cell_new _ _ _ 1⟩
    · exact ⟨cell_new _ _ _ 2, cell_new _ _ _ 3⟩⟩
  rw [World.size_alloc] at HT
  go_wp2_with fail
  generalize ((w.alloc (Obj.cells #[Value.string s.1, Value.string s.2] 37)).alloc (Obj.cells #[Value.string ⟨#[116, 47, 97]⟩, Value.string ⟨#[]⟩, Value.string ⟨#[116, 47, 98]⟩, Value.string ⟨#[]⟩] 27)) = W0 at *
  refine (new_any twoR _ 2 _ HT.out (by decide) (fun r hr => by have := two_small r hr; omega)).mono ?_
  rintro e w1 ⟨vb, rfl, hb1, mb, D, g, hv⟩
  have HV1 := hide hv
  have HB1 := hide hb1
  clear hv hb1
  go_wp2_with fail
  refine (view_new _ HV1.out).mono ?_
  rintro e w2 ⟨wb, rfl, hw2, hb2⟩
  have HW2 := hide hw2
  have HB2 := hide hb2
  clear hw2 hb2
  go_wp2_with fail
  refine (all_any _).mono ?_
  rintro e w3 ⟨rfl, hb3⟩
  have HB3 := hide hb3
  clear hb3
  go_wp2_with fail
  refine (scan_fresh (ByteArray.empty, ByteArray.empty) 1 _ ((HV1.out.on HB2.out).on HB3.out) (HW2.out.on HB3.out) two_pair two_small (by decide) (by decide) (Nat.le_trans HB2.out.size HB3.out.size) (by omega) (by omega)).mono ?_
  rintro e w4 ⟨ao, cap, rfl, _, _, rv', hw4, hb4, _, _⟩
  rw [two_len]
  have HW4 := hide hw4
  have HB4 := hide (((HB1.out.trans (HB2.out.mono HB1.out.size)).trans (HB3.out.mono (Nat.le_trans HB1.out.size HB2.out.size))).trans (hb4.mono HB1.out.size))
  clear hw4 hb4 HB1 HB2 HB3 HV1 HW2 HT
  go_wp2_with (first
    | (go_at_call 32; refine (reads_any _ HW4.out (by simp)).mono ?_; rintro e w5 ⟨v5, rfl, ho5, hb5⟩; obtain ⟨ao5, cap5, rfl, hh5, _⟩ := ownSp_held ho5; replace HW4 := hide (HW4.out.on hb5); replace HB4 := hide (below_on HB4.out (Nat.le_refl _) hb5); have HH5 := hide hh5; clear hb5 ho5 hh5)
    | (go_at_call 33; refine (any_held _ _ _ ⟨#[116, 47, 98]⟩ _ HH5.out (by simp [maxLen])).mono ?_; rintro e w6 ⟨rfl, hb6⟩; simp only [List.any_cons, List.any_nil, two_has]; replace HB4 := hide (below_on HB4.out (Nat.le_refl _) hb6); clear hb6))
  clear HH5
  replace HS0 : Hid (w6.cell? ⟨w.heap.size, 0, none⟩ = some (.string s.1) ∧ w6.cell? ⟨w.heap.size, 1, none⟩ = some (.string s.2)) := ⟨cell_on HB4.out HS0.out.1, cell_on HB4.out HS0.out.2⟩
  have HB6 := hide (HB0.out.trans (HB4.out.mono HB0.out.size))
  clear HB4 HB0 HW4
  refine (goodRows_rise rows ra rc _ (heldSp_on HB6.out HR.out)).mono ?_
  rintro e w8 ⟨v, rfl, hgood, hb8⟩
  have HGD := hide hgood
  have HB8 := hide (below_on HB6.out (Nat.le_refl _) hb8)
  have t0 := cell_on hb8 HS0.out.1
  have t1 := cell_on hb8 HS0.out.2
  clear hb8 hgood HB6 HS0
  cases v
  · go_wp2
    go_ret
    exact ⟨rfl, HB8.out⟩
  obtain ⟨hgb, hri⟩ := HGD.out rfl
  have hrn : rows.length ≤ 50 := hgb.1
  have HRK : Hid (∀ r ∈ rows, r.1.size ≤ 1000) := fun r hr => by have := hgb.2 r hr; omega
  have HPR := hide (rise_pair hri)
  clear HGD hgb hri
  by_cases h1 : n < 1
  · go_wp2_with (go_at_call 20; have hb9 := below_alloc1 w8 (Obj.cells #[Value.string s.1, Value.string s.2] 37); have HB9 := hide (below_on HB8.out (Nat.le_refl _) hb9); replace t0 := cell_on hb9 t0; replace t1 := cell_on hb9 t1; refine (lightSpans_some [s] w8.heap.size 0 1 _ (span_one' w8 s) (by simp [maxLen])).mono ?_; rintro e w9 ⟨rfl, rfl⟩; clear hb9; cases hlS : lightSpans [s])
    all_goals (go_ret; exact ⟨rfl, HB9.out⟩)
  by_cases h2 : 100 < n
  · go_wp2_with (go_at_call 20; have hb9 := below_alloc1 w8 (Obj.cells #[Value.string s.1, Value.string s.2] 37); have HB9 := hide (below_on HB8.out (Nat.le_refl _) hb9); replace t0 := cell_on hb9 t0; replace t1 := cell_on hb9 t1; refine (lightSpans_some [s] w8.heap.size 0 1 _ (span_one' w8 s) (by simp [maxLen])).mono ?_; rintro e w9 ⟨rfl, rfl⟩; clear hb9; cases hlS : lightSpans [s])
    all_goals (go_ret; exact ⟨rfl, HB9.out⟩)
  by_cases h3 : m < n
  · go_wp2_with (go_at_call 20; have hb9 := below_alloc1 w8 (Obj.cells #[Value.string s.1, Value.string s.2] 37); have HB9 := hide (below_on HB8.out (Nat.le_refl _) hb9); replace t0 := cell_on hb9 t0; replace t1 := cell_on hb9 t1; refine (lightSpans_some [s] w8.heap.size 0 1 _ (span_one' w8 s) (by simp [maxLen])).mono ?_; rintro e w9 ⟨rfl, rfl⟩; clear hb9; cases hlS : lightSpans [s])
    all_goals (go_ret; exact ⟨rfl, HB9.out⟩)
  by_cases h4 : 200 < m
  · go_wp2_with (go_at_call 20; have hb9 := below_alloc1 w8 (Obj.cells #[Value.string s.1, Value.string s.2] 37); have HB9 := hide (below_on HB8.out (Nat.le_refl _) hb9); replace t0 := cell_on hb9 t0; replace t1 := cell_on hb9 t1; refine (lightSpans_some [s] w8.heap.size 0 1 _ (span_one' w8 s) (by simp [maxLen])).mono ?_; rintro e w9 ⟨rfl, rfl⟩; clear hb9; cases hlS : lightSpans [s])
    all_goals (go_ret; exact ⟨rfl, HB9.out⟩)
  go_wp2_with (go_at_call 20; have hb9 := below_alloc1 w8 (Obj.cells #[Value.string s.1, Value.string s.2] 37); have HB9 := hide (below_on HB8.out (Nat.le_refl _) hb9); replace t0 := cell_on hb9 t0; replace t1 := cell_on hb9 t1; refine (lightSpans_some [s] w8.heap.size 0 1 _ (span_one' w8 s) (by simp [maxLen])).mono ?_; rintro e w9 ⟨rfl, rfl⟩; clear hb9; cases hlS : lightSpans [s])
  · go_ret
    exact ⟨rfl, HB9.out⟩
  clear hlS
  obtain ⟨N, rfl⟩ : ∃ N : Nat, n = N := ⟨n.toNat, by omega⟩
  obtain ⟨M, rfl⟩ : ∃ M : Nat, m = M := ⟨m.toNat, by omega⟩
  generalize (w8.alloc (Obj.cells #[Value.string s.1, Value.string s.2] 37)) = w9 at *
  have T9 : Hid (w9.cell? ⟨w.heap.size, 0, none⟩ = some (.string s.1) ∧ w9.cell? ⟨w.heap.size, 1, none⟩ = some (.string s.2)) := ⟨t0, t1⟩
  refine (new_any rows ra rc _ (heldSp_on HB9.out HR.out) (by omega) (fun r hr => by have := HRK.out r hr; omega)).mono ?_
  rintro e w10 ⟨vb10, rfl, hb10, mb10, D10, g10, hv10⟩
  have HV10 := hide hv10
  have HB10 := hide hb10
  replace t0 := cell_on hb10 t0
  replace t1 := cell_on hb10 t1
  clear hv10 hb10
  go_wp2_with fail
  refine (view_new _ HV10.out).mono ?_
  rintro e w11 ⟨wb11, rfl, hw11, hb11⟩
  have HW11 := hide hw11
  have HB11 := hide hb11
  replace t0 := cell_on hb11 t0
  replace t1 := cell_on hb11 t1
  clear hw11 hb11
  go_wp2_with fail
  refine (scan_fresh s N _ (HV10.out.on HB11.out) HW11.out HPR.out HRK.out (by omega) (by omega) HB11.out.size (by omega) (by omega)).mono ?_
  rintro e w12 ⟨ao12, cap12, rfl, hcap12, hh12, rv12, hw12, hb12, hfar12, hblk12⟩
  have HW12 := hide hw12
  have hb912 := (HB10.out.trans (HB11.out.mono HB10.out.size)).trans (hb12.mono HB10.out.size)
  have HB12 := hide (HB9.out.trans (hb912.mono HB9.out.size))
  have HH12 := hide hh12
  replace t0 := cell_on hb912 T9.out.1
  replace t1 := cell_on hb912 T9.out.2
  have HRT : Hid (∀ r ∈ rows, hasS (rdS (inS rows s) s N).1 (rdS (inS rows s) s N).2 r.1 = true ↔ r ∈ (inS rows s).take N) := fun r hr => read_told HPR.out s (by omega) hr
  have hfac := read_facts (inS rows s) (N := N) (M := M) (by omega)
  clear hw12 hb12 hb912 hh12 hfar12 hblk12 HB10 HB11 HV10 HW11 T9
  generalize (inS rows s).take N = A at *
  generalize rdS (inS rows s) s N = rd at *
  have T12 : Hid (w12.cell? ⟨w.heap.size, 0, none⟩ = some (.string s.1) ∧ w12.cell? ⟨w.heap.size, 1, none⟩ = some (.string s.2)) := ⟨t0, t1⟩
  go_wp2_with fail
  refine (new_any rows ra rc _ (heldSp_on HB12.out HR.out) (by omega) (fun r hr => by have := HRK.out r hr; omega)).mono ?_
  rintro e w13 ⟨vb13, rfl, hb13, mb13, D13, g13, hv13⟩
  have HV13 := hide hv13
  have HB13 := hide hb13
  replace t0 := cell_on hb13 t0
  replace t1 := cell_on hb13 t1
  clear hv13 hb13
  go_wp2_with fail
  refine (view_new _ HV13.out).mono ?_
  rintro e w14 ⟨wb14, rfl, hw14, hb14⟩
  have HW14 := hide hw14
  have HB14 := hide hb14
  replace t0 := cell_on hb14 t0
  replace t1 := cell_on hb14 t1
  clear hw14 hb14
  go_wp2_with fail
  refine (scan_fresh s M _ (HV13.out.on HB14.out) HW14.out HPR.out HRK.out (by omega) (by omega) HB14.out.size (by omega) (by omega)).mono ?_
  rintro e w15 ⟨ao15, cap15, rfl, hcap15, hh15, rv15, hw15, hb15, hfar15, hblk15⟩
  have hb1215 := (HB13.out.trans (HB14.out.mono HB13.out.size)).trans (hb15.mono HB13.out.size)
  replace HB12 := hide (below_on HB12.out (Nat.le_refl _) hb1215)
  replace HW12 := hide (HW12.out.on hb1215)
  replace HH12 := hide (heldSp_on hb1215 HH12.out)
  have HH15 := hide hh15
  clear hw15 hb15 hb1215 hh15 hfar15 hblk15 HB13 HB14 HV13 HW14 t0 t1 T12
  generalize (inS rows s).take M = Bl at *
  obtain ⟨hf1, hf2, hf3, hf4⟩ := hfac
  have HBA : Hid (heldSp w15 ao15 A) := by have := heldSp_take HH15.out A.length; rw [hf3] at this; exact this
  have HF4 := hide hf4
  clear HH15 hf3 hf4
  go_wp2_with (go_at_call 16; refine (sameRows_held A ao15 ao12 cap15 cap12 _ HBA.out HH12.out (by omega)).mono ?_; rintro e w16 ⟨rfl, hb16⟩; replace HB12 := hide (below_on HB12.out (Nat.le_refl _) hb16); replace HW12 := hide (HW12.out.on hb16); replace HH12 := hide (heldSp_on hb16 HH12.out); clear hb16 HBA)
  go_loopw [17] (fun i wr => ∃ k : Nat, k ≤ rows.length ∧ i = .int .i64 k ∧ Below w16.heap.size w16 wr) (fun i _ => rows.length - (intOf i).toNat)
  case atStart => exact ⟨0, Nat.zero_le _, rfl, Below.refl _ _⟩
  case round =>
    obtain ⟨k, hk, rfl, hBr⟩ := hrel
    have HBR := hide hBr
    clear hBr
    by_cases hlt : k < rows.length
    · have hlt' : (k : Int) < (rows.length : Int) := by omega
      rcases HR.out with e | ⟨b, off, e, hsp⟩
      · rw [e] at hlt; simp at hlt
      subst e
      have HWB := hide (below_on HB12.out (Nat.le_refl _) HBR.out)
      obtain ⟨c0, c1⟩ := spansAt_on HWB.out hsp k hlt
      have HRK := hide (HRT.out _ (List.getElem_mem hlt))
      generalize rows[k] = r at *
      obtain ⟨q, hq⟩ : ∃ q, hasR A r = q := ⟨_, rfl⟩
      have HQ : Hid (hasS rd.1 rd.2 r.1 = q) := by
        unfold Hid; rw [← hq, Bool.eq_iff_iff, HRK.out, hasR_iff]
      have HDQ := hide hq
      clear hq HRK HRT
      go_wp2
      go_region_with (first
        | (go_at_call 32; refine (reads_any _ (HW12.out.on (below_on HBR.out (Nat.le_refl _) (Below.refl _ _).drew)) (by simp)).mono ?_; rintro e w17 ⟨v17, rfl, ho17, hb17'⟩; have hb17 : Below wr.heap.size wr w17 := below_on (Below.refl _ _).drew (Nat.le_refl _) hb17'; obtain ⟨ao17, cap17, rfl, hh17, _⟩ := ownSp_held ho17; have HBR17 := hide (below_on HBR.out (Nat.le_refl _) hb17); replace c0 := cell_on hb17 c0; replace c1 := cell_on hb17 c1; have HH17 := hide hh17; clear hb17 hb17' ho17 hh17)
        | (go_at_call 33; refine (any_held _ _ _ r.1 _ HH17.out (by simp [maxLen])).mono ?_; rintro e w18 ⟨rfl, hb18⟩; simp only [List.any_cons, List.any_nil, Bool.or_false, HQ.out]; have HBR18 := hide (below_on HBR17.out (Nat.le_refl _) hb18); replace c0 := cell_on hb18 c0; replace c1 := cell_on hb18 c1; clear hb18))
      all_goals
        clear HH17 HBR17 HBR
        go_wp2
        go_loopw [19, 20] (fun td x w2 => ∃ j : Nat, j ≤ A.length ∧ td = .bool (hasR (A.take j) r) ∧ x = .int .i64 j ∧ Below w18.heap.size w18 w2) (fun _ x _ => A.length - (intOf x).toNat)
        case atStart => exact ⟨0, Nat.zero_le _, rfl, rfl, Below.refl _ _⟩
        case round =>
          obtain ⟨j, hj, rfl, rfl, hBj⟩ := hrel
          have HBJ := hide (below_on HBR18.out (Nat.le_refl _) hBj)
          by_cases hlj : j < A.length
          · have hlj' : (j : Int) < (A.length : Int) := by omega
            rcases HH12.out with e | ⟨b2, off2, e, hsp2⟩
            · rw [e] at hlj; simp at hlj
            subst e
            obtain ⟨d0, d1⟩ := spansAt_on HBJ.out hsp2 j hlj
            replace c0 := cell_on hBj c0
            replace c1 := cell_on hBj c1
            have HTS := hide (hasR_succ hlj r)
            generalize A[j] = y at *
            cases htd : hasR (A.take j) r with
            | true =>
              have HTD := hide htd
              clear htd
              go_wp2
              go_quiet (fail)
              go_wp2
              go_roundw
              case rel => exact ⟨j + 1, by omega, by rw [HTS.out, HTD.out]; rfl, by go_num, hBj.trans (below_draws _ _ _)⟩
              case measure => simp [intOf]; omega
            | false =>
              have HTD := hide htd
              clear htd
              cases he1 : (y.1.toList == r.1.toList) with
              | false =>
                have HE1 := hide he1
                go_wp2
                go_quiet (fail)
                go_wp2
                go_roundw
                case rel => exact ⟨j + 1, by omega, by rw [HTS.out, HTD.out, HE1.out]; rfl, by go_num, hBj.trans (below_draws _ _ _)⟩
                case measure => simp [intOf]; omega
              | true =>
                have HE1 := hide he1
                cases he2 : (y.2.toList == r.2.toList) with
                | false =>
                  have HE2 := hide he2
                  go_wp2
                  go_quiet (fail)
                  go_wp2
                  go_roundw
                  case rel => exact ⟨j + 1, by omega, by rw [HTS.out, HTD.out, HE1.out, HE2.out]; rfl, by go_num, hBj.trans (below_draws _ _ _)⟩
                  case measure => simp [intOf]; omega
                | true =>
                  have HE2 := hide he2
                  go_wp2
                  go_quiet (fail)
                  go_wp2
                  go_roundw
                  case rel => exact ⟨j + 1, by omega, by rw [HTS.out, HTD.out, HE1.out, HE2.out]; rfl, by go_num, hBj.trans (below_draws _ _ _)⟩
                  case measure => simp [intOf]; omega
          · have ej : j = A.length := by omega
            subst ej
            have hlj' : ¬ (A.length : Int) < (A.length : Int) := by omega
            rw [List.take_length, HDQ.out]
            cases q
            all_goals
              go_wp2
              exact ⟨⟨k + 1, by omega, by go_num, HBJ.out⟩, by simp [intOf]; omega⟩
    · have ek : k = rows.length := by omega
      subst ek
      have hlt' : ¬ (rows.length : Int) < (rows.length : Int) := by omega
      have HWB := hide (below_on HB12.out (Nat.le_refl _) HBR.out)
      by_cases hx : A.length = N
      · have hx' : (A.length : Int) = (N : Int) := by omega
        go_wp2
        go_ret
        exact ⟨rfl, HWB.out⟩
      · have hy : Bl.length = A.length := HF4.out.resolve_left hx
        have hx' : ¬ (A.length : Int) = (N : Int) := by omega
        have hy' : (Bl.length : Int) = (A.length : Int) := by omega
        go_wp2
        go_ret
        exact ⟨rfl, HWB.out⟩
end Go.Proofs.Ytjphbmdmnicjpac
