/-
  What haywaintop.TopVacuum returns: true, of whatever came in.
-/
import Derived.Test.YtjphbmdmnicjpacTopPastOne
import Derived.Test.YtjphbmdmnicjpacVerCount
import Derived.Test.YtjphbmdmnicjpacSpanPt
namespace Go.Proofs.Ytjphbmdmnicjpac
open Go.RowKit Go.Joins Go.Shelf

theorem one_worldR (w : World) (s : ByteArray × ByteArray) : Below w.heap.size w (((w.alloc (Obj.cells #[Value.string s.1, Value.string s.2] 27)).alloc (Obj.cells #[Value.string ⟨#[116, 47, 97]⟩, Value.string ⟨#[120]⟩, Value.bool false] 29)).alloc (Obj.cells #[Value.slice (some ⟨w.heap.size + 1, 0, none⟩) 1 1] 30)) ∧ (((w.alloc (Obj.cells #[Value.string s.1, Value.string s.2] 27)).alloc (Obj.cells #[Value.string ⟨#[116, 47, 97]⟩, Value.string ⟨#[120]⟩, Value.bool false] 29)).alloc (Obj.cells #[Value.slice (some ⟨w.heap.size + 1, 0, none⟩) 1 1] 30)).cell? ⟨w.heap.size, 0, none⟩ = some (.string s.1) ∧ (((w.alloc (Obj.cells #[Value.string s.1, Value.string s.2] 27)).alloc (Obj.cells #[Value.string ⟨#[116, 47, 97]⟩, Value.string ⟨#[120]⟩, Value.bool false] 29)).alloc (Obj.cells #[Value.slice (some ⟨w.heap.size + 1, 0, none⟩) 1 1] 30)).cell? ⟨w.heap.size, 1, none⟩ = some (.string s.2) ∧ heldDs (((w.alloc (Obj.cells #[Value.string s.1, Value.string s.2] 27)).alloc (Obj.cells #[Value.string ⟨#[116, 47, 97]⟩, Value.string ⟨#[120]⟩, Value.bool false] 29)).alloc (Obj.cells #[Value.slice (some ⟨w.heap.size + 1, 0, none⟩) 1 1] 30)) (some ⟨w.heap.size + 2, 0, none⟩) [⟨some ⟨w.heap.size + 1, 0, none⟩, 1, [oneC]⟩] := by
  have b1 := below_alloc1 w (Obj.cells #[Value.string s.1, Value.string s.2] 27)
  have s0 : (w.alloc (Obj.cells #[Value.string s.1, Value.string s.2] 27)).cell? ⟨w.heap.size, 0, none⟩ = some (.string s.1) := cell_new _ _ _ 0
  have s1 : (w.alloc (Obj.cells #[Value.string s.1, Value.string s.2] 27)).cell? ⟨w.heap.size, 1, none⟩ = some (.string s.2) := cell_new _ _ _ 1
  have e1 : (w.alloc (Obj.cells #[Value.string s.1, Value.string s.2] 27)).heap.size = w.heap.size + 1 := by simp
  generalize w.alloc (Obj.cells #[Value.string s.1, Value.string s.2] 27) = W1 at *
  have b2 := below_alloc1 W1 (Obj.cells #[Value.string ⟨#[116, 47, 97]⟩, Value.string ⟨#[120]⟩, Value.bool false] 29)
  have c0 : (W1.alloc (Obj.cells #[Value.string ⟨#[116, 47, 97]⟩, Value.string ⟨#[120]⟩, Value.bool false] 29)).cell? ⟨W1.heap.size, 0, none⟩ = some (.string ⟨#[116, 47, 97]⟩) := cell_new _ _ _ 0
  have c1 : (W1.alloc (Obj.cells #[Value.string ⟨#[116, 47, 97]⟩, Value.string ⟨#[120]⟩, Value.bool false] 29)).cell? ⟨W1.heap.size, 1, none⟩ = some (.string ⟨#[120]⟩) := cell_new _ _ _ 1
  have c2 : (W1.alloc (Obj.cells #[Value.string ⟨#[116, 47, 97]⟩, Value.string ⟨#[120]⟩, Value.bool false] 29)).cell? ⟨W1.heap.size, 2, none⟩ = some (.bool false) := cell_new _ _ _ 2
  have e2 : (W1.alloc (Obj.cells #[Value.string ⟨#[116, 47, 97]⟩, Value.string ⟨#[120]⟩, Value.bool false] 29)).heap.size = w.heap.size + 2 := by simp [e1]
  generalize W1.alloc (Obj.cells #[Value.string ⟨#[116, 47, 97]⟩, Value.string ⟨#[120]⟩, Value.bool false] 29) = W2 at *
  have b3 := below_alloc1 W2 (Obj.cells #[Value.slice (some ⟨w.heap.size + 1, 0, none⟩) 1 1] 30)
  have d0 : (W2.alloc (Obj.cells #[Value.slice (some ⟨w.heap.size + 1, 0, none⟩) 1 1] 30)).cell? ⟨W2.heap.size, 0, none⟩ = some (.slice (some ⟨w.heap.size + 1, 0, none⟩) 1 1) := cell_new _ _ _ 0
  rw [e1] at c0 c1 c2
  rw [e2] at d0
  refine ⟨below_on (below_on b1 (Nat.le_refl _) b2) (Nat.le_refl _) b3, cell_on b3 (cell_on b2 s0), cell_on b3 (cell_on b2 s1), .inr ⟨_, _, rfl, fun i hi => ?_⟩⟩
  have e : i = 0 := by simpa using hi
  subst e
  refine ⟨d0, .inr ⟨_, _, rfl, fun j hj => ?_⟩⟩
  have e : j = 0 := by simpa using hj
  subst e
  exact ⟨cell_on b3 c0, cell_on b3 c1, cell_on b3 c2⟩
theorem i64_and1023 (n : Int) : bits .and .i64 n 1023 = n % 1024 := by
  have h7 : (BitVec.ofInt 64 1023).toNat = 2 ^ 10 - 1 := by decide
  have key : (BitVec.ofInt 64 n &&& BitVec.ofInt 64 1023).toNat = (n % ((2 ^ 64 : Nat) : Int)).toNat % 2 ^ 10 := by
    rw [BitVec.toNat_and, BitVec.toNat_ofInt, h7, Nat.and_two_pow_sub_one_eq_mod]
  show IntKind.i64.wrap ((BitVec.ofInt 64 n &&& BitVec.ofInt 64 1023).toNat : Nat) = n % 1024
  rw [key, IntKind.wrap_i64]
  omega
theorem and_tmod (n k : Int) (hk : 0 < k) : 0 ≤ (bits .and .i64 n 1023).tmod k ∧ (bits .and .i64 n 1023).tmod k < k := by
  rw [i64_and1023]
  have h0 : 0 ≤ n % 1024 := by omega
  rw [Int.tmod_eq_emod_of_nonneg h0]
  exact ⟨Int.emod_nonneg _ (by omega), Int.emod_lt_of_pos _ hk⟩
def oneR : List (ByteArray × ByteArray) := [(⟨#[116, 47, 97]⟩, ⟨#[121]⟩)]
theorem oneR_steps (ao : Option Addr) (cap : Nat) : stepsR (0, initR oneR) [⟨ao, cap, [oneC]⟩] = (1, applyR (initR oneR) 1 [oneC]) := by
  show stepR (0, initR oneR) [oneC] = _
  unfold stepR
  rw [if_pos one_fault]
  rfl
theorem oneR_at : applyR (initR oneR) 1 [oneC] ⟨#[116, 47, 97]⟩ = [⟨0, ⟨#[121]⟩, false⟩, ⟨1, ⟨#[120]⟩, false⟩] := by
  unfold applyR initR oneR oneC
  simp [putG]
theorem oneR_off {k : ByteArray} (h : k ≠ ⟨#[116, 47, 97]⟩) : applyR (initR oneR) 1 [oneC] k = [] := by
  unfold applyR initR oneR oneC
  simp [putG, h]
theorem oneR_count {K K' : List ByteArray} (hK : keysV (applyR (initR oneR) 1 [oneC]) K) (hK' : keysV (vacR (applyR (initR oneR) 1 [oneC]) 1 K) K') : sumK (vacR (applyR (initR oneR) 1 [oneC]) 1 K) K' = 1 := by
  have hz : (⟨#[116, 47, 97]⟩ : ByteArray).size ≤ maxLen := by decide +kernel
  have hin : (⟨#[116, 47, 97]⟩ : ByteArray) ∈ K := (hK.2 _).2 ⟨hz, by rw [oneR_at]; simp⟩
  have e1 : vacR (applyR (initR oneR) 1 [oneC]) 1 K ⟨#[116, 47, 97]⟩ = [⟨1, ⟨#[120]⟩, false⟩] := by
    rw [vacR_in hin, oneR_at]
    rfl
  have hk : keysV (vacR (applyR (initR oneR) 1 [oneC]) 1 K) [⟨#[116, 47, 97]⟩] := by
    refine ⟨by simp, fun k => ?_⟩
    by_cases e : k = ⟨#[116, 47, 97]⟩
    · subst e; rw [e1]; simp [hz]
    · have : vacR (applyR (initR oneR) 1 [oneC]) 1 K k = [] := by
        by_cases h : k ∈ K
        · rw [vacR_in h, oneR_off e, since_nil]
        · rw [vacR_out h, oneR_off e]
      rw [this]; simp [e]
  rw [keysV_same hK' hk]
  show (vacR (applyR (initR oneR) 1 [oneC]) 1 K ⟨#[116, 47, 97]⟩).length + 0 = 1
  rw [e1]; rfl
theorem oneR_held (W : World) (b : Nat) (h0 : W.cell? ⟨b, 0, none⟩ = some (.string ⟨#[116, 47, 97]⟩)) (h1 : W.cell? ⟨b, 1, none⟩ = some (.string ⟨#[121]⟩)) : heldSp W (some ⟨b, 0, none⟩) oneR := .inr ⟨b, 0, rfl, fun i hi => by
  have e : i = 0 := by simpa [oneR] using hi
  subst e
  exact ⟨h0, h1⟩⟩

theorem oneR_small : ∀ r ∈ oneR, r.1.size ≤ 1000000 := by
  intro r hr
  have e : r = (⟨#[116, 47, 97]⟩, ⟨#[121]⟩) := by simpa [oneR] using hr
  subst e
  decide +kernel
/-- behind all the acts -/
theorem told_vac {R : ByteArray → List Ver} {a b : Int} {K : List ByteArray} (hab : a ≤ b) (s r : ByteArray × ByteArray) : told (vacR R a K) b s r ↔ told R b s r := by
  unfold told
  rw [behind_vac K hab]
set_option maxRecDepth 4000 in
set_option maxHeartbeats 800000 in
theorem topVacuum_walk (rows : List (ByteArray × ByteArray)) (ra : Option Addr) (rc : Nat) (ds : List Dd) (da : Option Addr) (dc : Nat) (n m : Int) (w : World)
    (hr : heldSp w ra rows) (hd : heldDs w da ds) :
    Calls Try.prog 3 #[.slice ra rows.length rc, .slice da ds.length dc, .int .i64 n, .int .i64 m] w fun e w' => e = .returned (.bool true) ∧ Below w.heap.size w w' := by
  have HR := hide hr
  have HD := hide hd
  clear hr hd
  go_enter Try.func3, Try.ntmps3
  obtain ⟨b3, hS0, hS1, hDD⟩ := one_worldR w (⟨#[116, 47, 97]⟩, ⟨#[121]⟩)
  have HB3 := hide b3
  have HOR := hide (oneR_held _ _ hS0 hS1)
  have HDD := hide hDD
  clear b3 hS0 hS1 hDD
  go_wp2_with (first
    | (go_at_call 8; refine (grown_any oneR _ _ 1 _ 1 _ HOR.out (by simp [oneR]) oneR_small HDD.out one_light).mono ?_; rintro e w1 ⟨vb, rfl, hb1, hgr⟩; rw [oneR_steps] at hgr; obtain ⟨mb, n1, D, g, hn1, hvs, hsm⟩ := hgr; have HB1 := hide (HB3.out.trans (hb1.mono HB3.out.size)); have hs3 := HB3.out.size; have hs1 := hb1.size; have HV1 := hide hvs; have HRL1 : Hid (∀ key, (applyR (initR oneR) 1 [oneC] key).length ≤ 1000000) := fun key => Nat.le_trans (hsm.2.2 key) (by omega); clear hb1 hvs hsm HB3 HDD HOR)
    | (go_at_call 9; refine (vacuum_any 1 _ HV1.out hs1 (by omega) HRL1.out).mono ?_; rintro e w2 ⟨rfl, K, n2, D2, g2, hK, hn2, hv2, hb2, _⟩; have HK := hide hK; have HV2 := hide hv2; have HB2 := hide (HB1.out.trans (hb2.mono hs3)); clear hK hv2 hb2)
    | (go_at_call 10; refine (count_v _ HV2.out (by omega) (fun key => Nat.le_trans (vac_len _ _ _ key) (HRL1.out key))).mono ?_; rintro e w3 ⟨K2, rfl, hK2, hb3⟩; rw [oneR_count HK.out hK2]; have HB3 := hide (below_on HB2.out (Nat.le_refl _) hb3); clear hK2 hb3)
    | (go_at_call 11; refine (goodRows_any rows ra rc _ (heldSp_on HB3.out HR.out)).mono ?_; rintro e w4 ⟨v, rfl, hgood, hb4⟩; have HGD := hide hgood; have HB4 := hide (below_on HB3.out (Nat.le_refl _) hb4); clear hb4 hgood HB3; cases v))
  · go_ret
    exact ⟨rfl, HB4.out⟩
  go_wp2_with (first
    | (go_at_call 12; refine (lightDeeds_any ds da dc 12 _ (heldDs_on HB4.out HD.out) (by omega)).mono ?_; rintro e w5 ⟨rfl, rfl⟩; cases hlD : lightDeeds ds 12))
  · go_ret
    exact ⟨rfl, HB4.out⟩
  have hgb : goodB rows := HGD.out (by trivial)
  have hrn : rows.length ≤ 1000 := by have := hgb.1; omega
  have HRK : Hid (∀ r ∈ rows, r.1.size ≤ 1000000) := fun r hr => by have := hgb.2 r hr; omega
  have HLD := hide (light_ds hlD)
  clear hlD HGD hgb HV2 HK HB2 HB1 HRL1 HV1
  go_wp2_with (first
    | (go_at_call 8; refine (grown_any rows ra da rc ds dc _ (heldSp_on HB4.out HR.out) hrn HRK.out (heldDs_on HB4.out HD.out) HLD.out).mono ?_; rintro e w7 ⟨vb2, rfl, hb7, hgr⟩; obtain ⟨mb2, n7, D7, g7, hn7, hvs, hsm⟩ := hgr; have HB7 := hide (below_on HB4.out (Nat.le_refl _) hb7); have hs5 := HB4.out.size; have hs7 := hb7.size; generalize stepsR (0, initR rows) ds = p at hvs hsm; have hp0 := hsm.1; have hp1 := hsm.2.1; have HRL : Hid (∀ key, (p.2 key).length ≤ 1000000) := fun key => by have := hsm.2.2 key; omega
       have HV7 := hide hvs; obtain ⟨a, ha⟩ : ∃ a, (bits .and .i64 n 1023).tmod (p.1 + 1) = a := ⟨_, rfl⟩; have hab := and_tmod n (p.1 + 1) (by omega); rw [ha] at hab; obtain ⟨ha0, ha1⟩ := hab; obtain ⟨c, hc⟩ : ∃ c, (bits .and .i64 m 1023).tmod (p.1 + 1 - a) = c := ⟨_, rfl⟩; have hcb := and_tmod m (p.1 + 1 - a) (by omega); rw [hc] at hcb; obtain ⟨hc0, hc1⟩ := hcb; clear hb7 hvs hsm)
    | (go_at_call 13; refine (now_any _ HV7.out).mono ?_; rintro e w8 ⟨rfl, rfl⟩))
  obtain ⟨b, hb⟩ : ∃ b, a + c = b := ⟨_, rfl⟩
  have hab : a ≤ b := by omega
  rw [hb]
  clear ha hc
  go_wp2_with (first
    | (go_at_call 15; refine (all_any _).mono ?_; rintro e w9 ⟨rfl, hb9⟩; have HB9 := hide (below_on HB7.out (Nat.le_refl _) hb9); have HV9 := hide (HV7.out.on hb9); have hs9 := hb9.size; clear hb9)
    | (go_at_call 14; refine (scan_any sort_says sort_nil (ByteArray.empty, ByteArray.empty) b _ HV9.out (by omega) HRL.out).mono ?_; rintro e w10 ⟨v, rfl, hb10, F, hoF, hsF, hnF, hmF⟩; obtain ⟨la, lc, rfl, _⟩ := ownP_held hoF; have HB10 := hide (below_on HB9.out (Nat.le_refl _) hb10); have HV10 := hide (HV9.out.on hb10); have hs10 := hb10.size; have HOF := hide hoF; have HSF := hide (rows_strict hsF hnF); have HMF := hide hmF; have HAP : Hid (∀ j, (Value.slice la F.length lc).ownBlock = some j → ¬ inVS vb2 mb2 g7 j) := fun j e hin => by have a1 := HV9.out.lt hin; have a2 := (World.ownsRow.lt hoF j e).1; omega
       clear hb10 hoF hsF hnF hmF)
    | (go_at_call 10; refine (count_v _ HV10.out (by omega) HRL.out).mono ?_; rintro e w11 ⟨K0, rfl, hK0, hb11⟩; have HK0 := hide hK0; have HB11 := hide (below_on HB10.out (Nat.le_refl _) hb11); have HV11 := hide (HV10.out.on hb11); have HO11 := hide (own_on HOF.out hb11); have hs11 := hb11.size; clear hK0 hb11 HOF))
  go_wp2_with (first
    | (go_at_call 9; refine (vacuum_any a _ HV11.out (by omega) (by omega) HRL.out).mono ?_; clear HV10 HV9 HV7; rintro e w12 ⟨rfl, K1, n12, D12, g12, hK1, hn12, hv12, hb12, hf12⟩; have HK1 := hide hK1; have HV12 := hide hv12; have HB12 := hide (HB11.out.trans (hb12.mono (by omega))); have hs12 := hb12.size; have HO12 := hide (own_block HO11.out fun j e => (hf12 j (World.ownsRow.lt HO11.out j e).2 (HAP.out j e)).1); have HA12 : Hid (∀ j, (Value.slice la F.length lc).ownBlock = some j → ¬ inVS vb2 mb2 g12 j) := fun j e => (hf12 j (World.ownsRow.lt HO11.out j e).2 (HAP.out j e)).2
       clear hK1 hv12 hb12 hf12 HV11)
    | (go_at_call 10; refine (count_v _ HV12.out (by omega) (fun key => Nat.le_trans (vac_len _ _ _ key) (HRL.out key))).mono ?_; rintro e w13 ⟨K2, rfl, hK2, hb13⟩; have HK2 := hide hK2; have HB13 := hide (below_on HB12.out (Nat.le_refl _) hb13); have HV13 := hide (HV12.out.on hb13); have HO13 := hide (own_on HO12.out hb13); have hs13 := hb13.size; clear hK2 hb13 HO12))
  have hle1 := keysV_vac HK0.out HK2.out
  have HRL2 : Hid (∀ key, (vacR p.2 a K1 key).length ≤ 1000000) := fun key => Nat.le_trans (vac_len _ _ _ key) (HRL.out key)
  have HT1 : Hid (∀ r, told (vacR p.2 a K1) b (ByteArray.empty, ByteArray.empty) r ↔ told p.2 b (ByteArray.empty, ByteArray.empty) r) := fun r => told_vac hab _ r
  have HTW : Hid (∀ K3, keysV (vacR p.2 a K1) K3 → vacR (vacR p.2 a K1) a K3 = vacR p.2 a K1) := fun K3 h => vac_twice HK1.out h
  have HSM : Hid (∀ K4, keysV (vacR p.2 a K1) K4 → sumK (vacR p.2 a K1) K4 = sumK (vacR p.2 a K1) K2) := fun K4 h => keysV_same h HK2.out
  clear HK1 HV12 hb
  generalize vacR p.2 a K1 = R1 at *
  generalize sumK R1 K2 = S1 at *
  generalize sumK p.2 K0 = S0 at *
  have hle2 : (S1 : Int) ≤ (S0 : Int) := by omega
  have hle3 : decide ((S1 : Int) ≤ (S0 : Int)) = true := by simpa using hle2
  go_wp2_with (first
    | (go_at_call 9; refine (vacuum_any a _ HV13.out (by omega) (by omega) HRL2.out).mono ?_; rintro e w14 ⟨rfl, K3, n14, D14, g14, hK3, hn14, hv14, hb14, hf14⟩; rw [HTW.out K3 hK3] at hv14; have HV14 := hide hv14; have HB14 := hide (HB13.out.trans (hb14.mono (by omega))); have hs14 := hb14.size; have HO14 := hide (own_block HO13.out fun j e => (hf14 j (World.ownsRow.lt HO13.out j e).2 (HA12.out j e)).1); clear hK3 hv14 hb14 hf14 HV13 HO13)
    | (go_at_call 15; refine (all_any _).mono ?_; rintro e w15 ⟨rfl, hb15⟩; have HB15 := hide (below_on HB14.out (Nat.le_refl _) hb15); have HV15 := hide (HV14.out.on hb15); have HO15 := hide (own_on HO14.out hb15); have hs15 := hb15.size; clear hb15)
    | (go_at_call 14; refine (scan_any sort_says sort_nil (ByteArray.empty, ByteArray.empty) b _ HV15.out (by omega) HRL2.out).mono ?_; rintro e w16 ⟨v2, rfl, hb16, F2, hoF2, hsF2, hnF2, hmF2⟩; have eF : F2 = F := rows_eq (rows_strict hsF2 hnF2) HSF.out (fun r => (hmF2 r).trans ((HT1.out r).trans (HMF.out r).symm)); rw [eF] at hoF2; obtain ⟨ao1, cap1, rfl, hh1⟩ := ownP_held hoF2; have HH1 := hide hh1; have HH2 := hide (ownP_has (own_on HO15.out hb16)); have HB16 := hide (below_on HB15.out (Nat.le_refl _) hb16); have HV16 := hide (HV15.out.on hb16); clear hb16 hoF2 hsF2 hnF2 hmF2 eF hh1)
    | (go_at_call 16; refine (sameRows_held F ao1 la cap1 lc _ HH1.out HH2.out.1 HH2.out.2).mono ?_; rintro e w17 ⟨rfl, hb17⟩; have HB17 := hide (below_on HB16.out (Nat.le_refl _) hb17); have HV17 := hide (HV16.out.on hb17); clear hb17)
    | (go_at_call 10; refine (count_v _ HV17.out (by omega) HRL2.out).mono ?_; rintro e w18 ⟨K4, rfl, hK4, hb18⟩; rw [HSM.out K4 hK4]; have HB18 := hide (below_on HB17.out (Nat.le_refl _) hb18); clear hK4 hb18))
  go_ret
  exact ⟨rfl, HB18.out⟩
end Go.Proofs.Ytjphbmdmnicjpac
