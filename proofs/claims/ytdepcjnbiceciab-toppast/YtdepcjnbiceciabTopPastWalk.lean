/-
  What haywaintop.TopPast returns: true, of whatever came in.
-/
import Derived.Test.YtdepcjnbiceciabTopPastOne
namespace Go.Proofs.Ytdepcjnbiceciab
open Go.RowKit Go.Joins

theorem span_new (w : World) (s : ByteArray × ByteArray) : spansAt (w.alloc (Obj.cells #[Value.string s.1, Value.string s.2] 23)) w.heap.size 0 [s] := fun i hi => by
  have e : i = 0 := by simpa using hi
  subst e
  exact ⟨cell_new _ _ _ 0, cell_new _ _ _ 1⟩
/-- while more deeds are committed -/
def PastAt (w wr : World) (B vb mb : Nat) (p : Int × (ByteArray → List Ver)) (ms : List Dd) (k : Nat) (s : ByteArray × ByteArray) (v : Value) (Bf : Nat) (F : List (ByteArray × ByteArray)) : Prop :=
  ∃ n D g, n ≤ 102000 + k * 1000 ∧ VS wr B vb mb (stepsR p (ms.take k)).1 n D g (stepsR p (ms.take k)).2 ∧ smallR (200000 + k * 1001) (stepsR p (ms.take k)) ∧ Below w.heap.size w wr ∧ B ≤ wr.heap.size ∧ ownP wr Bf v F ∧ (∀ j, v.ownBlock = some j → ¬ inVS vb mb g j) ∧ wr.cell? ⟨w.heap.size, 0, none⟩ = some (.string s.1) ∧ wr.cell? ⟨w.heap.size, 1, none⟩ = some (.string s.2)
theorem cell_low {B : Nat} {w w' : World} {a : Addr} {v : Value} (hb : Below B w w') (ha : a.block < B) (h : w.cell? a = some v) : w'.cell? a = some v := (World.cell?_of_block (w := w) (hb.block _ ha)).trans h
theorem past_commit {w wr : World} {B vb mb b off k Bf : Nat} {p : Int × (ByteArray → List Ver)} {ms : List Dd} {s : ByteArray × ByteArray} {v : Value} {F : List (ByteArray × ByteArray)} (hd : deedsAt w b off ms) (hl : lightDs ms) (hk : k < ms.length) (hB : w.heap.size < B) (h : PastAt w wr B vb mb p ms k s v Bf F) :
    Calls Try.prog 26 #[.pointer (some ⟨vb, 0, none⟩), .slice ms[k].ao ms[k].chs.length ms[k].cap] wr fun e w' => ∃ u, e = .returned u ∧ (∃ a b, u = .tuple #[a, b]) ∧ PastAt w w' B vb mb p ms (k + 1) s v Bf F := by
  obtain ⟨n, D, g, h1, h2, h3, h4, h5, h6, h7, h8, h9⟩ := h
  have hm := hl.1
  have hch := (hl.2 _ (List.getElem_mem hk)).1
  have eT : stepsR p (ms.take (k + 1)) = stepR (stepsR p (ms.take k)) ms[k].chs := by rw [List.take_succ_eq_append_getElem hk, stepsR_snoc]
  refine (commit_at hd hl hk h4 (by omega) h5 h2 (h3.mono (by omega)) (by omega)).mono ?_
  rintro e w' ⟨u, rfl, hu, D', g', n', hn', hv', hb', hfar⟩
  refine ⟨u, rfl, hu, n', D', g', by omega, by rw [eT]; exact hv', by rw [eT]; exact (h3.step _ hch).mono (by omega), h4.trans (hb'.mono (by omega)), Nat.le_trans h5 hb'.size, own_block h6 fun j e => (hfar j (World.ownsRow.lt h6 j e).2 (h7 j e)).1, fun j e => (hfar j (World.ownsRow.lt h6 j e).2 (h7 j e)).2, cell_low hb' hB h8, cell_low hb' hB h9⟩
set_option maxRecDepth 4000 in
set_option maxHeartbeats 800000 in
theorem topPast_walk (rows : List (ByteArray × ByteArray)) (ra : Option Addr) (rc : Nat) (ds : List Dd) (da : Option Addr) (dc : Nat) (ms : List Dd) (ma : Option Addr) (mc : Nat) (s : ByteArray × ByteArray) (key : ByteArray) (w : World)
    (hr : heldSp w ra rows) (hd : heldDs w da ds) (hm : heldDs w ma ms) (hkm : key.size ≤ maxLen) :
    Calls Try.prog 7 #[.slice ra rows.length rc, .slice da ds.length dc, .slice ma ms.length mc, .agg #[.string s.1, .string s.2], .string key] w fun e w' => e = .returned (.bool true) ∧ Below w.heap.size w w' := by
  have HR := hide hr
  have HD := hide hd
  have HM := hide hm
  clear hr hd hm
  go_enter Try.func7, Try.ntmps7
  obtain ⟨b3, hS0, hS1, hDD⟩ := one_world w s
  have HB3 := hide b3
  have HS0 := hide hS0
  have HS1 := hide hS1
  have HDD := hide hDD
  clear b3 hS0 hS1 hDD
  go_wp2_with (first
    | (go_at_call 44; refine (grown_any [] none _ 0 _ 1 _ (.inl rfl) (by simp) (by simp) HDD.out one_light).mono ?_; rintro e w1 ⟨vb, rfl, hb1, hgr⟩; rw [one_steps] at hgr; have HB1 := hide (HB3.out.trans (hb1.mono HB3.out.size)); have HG1 := hide hgr; have HS01 := hide (cell_on hb1 HS0.out); have HS11 := hide (cell_on hb1 HS1.out); clear hb1 hgr HS0 HS1 HB3 HDD)
    | (go_at_call 32; obtain ⟨mb, n, D, g, _, hvs, hsm⟩ := HG1.out; refine (read_any ⟨#[116, 47, 97]⟩ 1 _ hvs (by decide +kernel) (by have := hsm.2.2 ⟨#[116, 47, 97]⟩; omega)).mono ?_; rintro e w2 ⟨rfl, hb2⟩; rw [one_read]; have HB2 := hide (HB1.out.trans (hb2.mono HB1.out.size)); have HS02 := hide (cell_on hb2 HS01.out); have HS12 := hide (cell_on hb2 HS11.out); clear hb2 HB1 HG1 HS01 HS11 hvs hsm)
    | (go_at_call 45; refine (goodRows_any rows ra rc _ (heldSp_on HB2.out HR.out)).mono ?_; rintro e w3 ⟨v, rfl, hgood, hb3⟩; have HGD := hide hgood; have HB3 := hide (HB2.out.trans (hb3.mono HB2.out.size)); have HS03 := hide (cell_on hb3 HS02.out); have HS13 := hide (cell_on hb3 HS12.out); clear hb3 hgood HB2 HS02 HS12; cases v))
  · go_ret
    exact ⟨rfl, HB3.out⟩
  have t0 := HS03.out
  have t1 := HS13.out
  go_wp2_with (first
    | (go_at_call_of 46 (Value.slice da ds.length dc); refine (lightDeeds_any ds da dc 12 _ (heldDs_on HB3.out HD.out) (by omega)).mono ?_; rintro e w4 ⟨rfl, rfl⟩; cases hlD : lightDeeds ds 12)
    | (go_at_call_of 46 (Value.slice ma ms.length mc); refine (lightDeeds_any ms ma mc 12 _ (heldDs_on HB3.out HM.out) (by omega)).mono ?_; rintro e w4 ⟨rfl, rfl⟩; cases hlM : lightDeeds ms 12)
    | (go_at_call 12; have hb5 := below_alloc1 w4 (Obj.cells #[Value.string s.1, Value.string s.2] 23); have HB5 := hide (below_on HB3.out (Nat.le_refl _) hb5); replace t0 := cell_on hb5 t0; replace t1 := cell_on hb5 t1; refine (lightSpans_some [s] w4.heap.size 0 1 _ (span_new w4 s) (by simp [maxLen])).mono ?_; rintro e w5 ⟨rfl, rfl⟩; cases hlS : lightSpans [s] <;> by_cases hk60 : (60 : Int) < (key.size : Int)))
  · go_ret
    exact ⟨rfl, HB3.out⟩
  · go_ret
    exact ⟨rfl, HB3.out⟩
  · go_ret
    exact ⟨rfl, HB5.out⟩
  · go_ret
    exact ⟨rfl, HB5.out⟩
  · go_ret
    exact ⟨rfl, HB5.out⟩
  have hgb : goodB rows := HGD.out (by trivial)
  have hrn : rows.length ≤ 1000 := by have := hgb.1; omega
  have HRK : Hid (∀ r ∈ rows, r.1.size ≤ 1000000) := fun r hr => by have := hgb.2 r hr; omega
  have HLD := hide (light_ds hlD)
  have HLM := hide (light_ds hlM)
  clear hlD hlM hlS HGD hgb HS03 HS13
  go_wp2_with (first
    | (go_at_call 44; refine (grown_any rows ra da rc ds dc _ (heldSp_on HB5.out HR.out) hrn HRK.out (heldDs_on HB5.out HD.out) HLD.out).mono ?_; rintro e w6 ⟨vb2, rfl, hb6, hgr⟩; obtain ⟨mb, n, D, g, hn, hvs, hsm⟩ := hgr; have hwB : w.heap.size < (w4.alloc (Obj.cells #[Value.string s.1, Value.string s.2] 23)).heap.size := World.block_lt_of_cell? _ _ t0; have HB6 := hide (below_on HB5.out (Nat.le_refl _) hb6); replace t0 := cell_on hb6 t0; replace t1 := cell_on hb6 t1; have hsz6 := hb6.size; generalize stepsR (0, initR rows) ds = p at hvs hsm; have HV6 := hide hvs; have HSM := hide hsm; clear hb6 hvs hsm)
    | (go_at_call 37; refine (now_any _ HV6.out).mono ?_; rintro e w7 ⟨rfl, rfl⟩)
    | (go_at_call 32; refine (read_any key p.1 _ HV6.out hkm (by have := HSM.out.2.2 key; omega)).mono ?_; rintro e w8 ⟨rfl, hb8⟩; have HB8 := hide (below_on HB6.out (Nat.le_refl _) hb8); have HV8 := hide (HV6.out.on hb8); replace t0 := cell_on hb8 t0; replace t1 := cell_on hb8 t1; have hsz8 := hb8.size; clear hb8)
    | (go_at_call 35; refine (scan_any sort_says sort_nil s p.1 _ HV8.out (by omega) (fun key => by have := HSM.out.2.2 key; omega)).mono ?_; rintro e w9 ⟨v, rfl, hb9, F, hoF, hsF, hnF, hmF⟩; obtain ⟨la, lc, rfl, _⟩ := ownP_held hoF; have HB9 := hide (below_on HB8.out (Nat.le_refl _) hb9); have HV9 := hide (HV8.out.on hb9); replace t0 := cell_on hb9 t0; replace t1 := cell_on hb9 t1; have hsz9 := hb9.size; have HOF := hide hoF; have HSF := hide (rows_strict hsF hnF); have HMF := hide hmF; clear hb9 hoF hsF hnF hmF))
  have HP : Hid (PastAt w w9 (w4.alloc (Obj.cells #[Value.string s.1, Value.string s.2] 23)).heap.size vb2 mb p ms 0 s (.slice la F.length lc) w8.heap.size F) :=
    ⟨n, D, g, by omega, HV9.out, HSM.out.mono (by omega), HB9.out, by omega, HOF.out, fun j e hin => by have a1 := HV8.out.lt hin; have a2 := (World.ownsRow.lt HOF.out j e).1; omega, t0, t1⟩
  generalize (w4.alloc (Obj.cells #[Value.string s.1, Value.string s.2] 23)).heap.size = B at *
  have hml := HLM.out.1
  clear t0 t1 HV9 HV8 HV6 HB9 HB8 HB6 HB5 HOF hsz6 hsz8 hsz9 hn
  go_loopw [18] (fun i wr => ∃ k : Nat, k ≤ ms.length ∧ i = .int .i64 k ∧ PastAt w wr B vb2 mb p ms k s (.slice la F.length lc) w8.heap.size F) (fun i _ => ms.length - (intOf i).toNat)
  case atStart => exact ⟨0, Nat.zero_le _, rfl, HP.out⟩
  case round =>
    obtain ⟨k, hk, rfl, hP⟩ := hrel
    have HPK := hide hP
    clear hP HP
    by_cases hlt : k < ms.length
    · have hlt' : (k : Int) < (ms.length : Int) := by omega
      rcases HM.out with e | ⟨b, off, e, hd⟩
      · rw [e] at hlt; simp at hlt
      subst e
      have HB := hide (show Below w.heap.size w wr from by obtain ⟨_, _, _, _, _, _, h, _⟩ := HPK.out; exact h)
      have c0 := cell_on HB.out (hd k hlt).1
      have HC := hide (past_commit hd HLM.out hlt hwB HPK.out)
      generalize ms[k] = d at c0 HC
      obtain ⟨dao, dcap, dl⟩ := d
      simp only at c0 HC
      generalize dl.length = dn at c0 HC
      clear hd
      go_wp2_with (go_at_call 26; refine HC.out.mono ?_; rintro e w10 ⟨u, rfl, ⟨ua, ub, rfl⟩, hP2⟩; have HP2 := hide hP2; clear hP2)
      exact ⟨⟨k + 1, by omega, by go_num, HP2.out⟩, by simp [intOf]; omega⟩
    · have ek : k = ms.length := by omega
      subst ek
      have hlt' : ¬ (ms.length : Int) < (ms.length : Int) := by omega
      obtain ⟨n2, D2, g2, q1, q2, q3, q4, q5, q6, q7, q8, q9⟩ := HPK.out
      rw [List.take_length] at q2 q3
      have HV2 := hide q2
      have HSM2 := hide q3
      have HB2 := hide q4
      have HF2 := hide q6
      clear q2 q3 q4 q5 q6 q7 HPK
      have HRD : Hid (behindV ((stepsR p ms).2 key) p.1 = behindV (p.2 key) p.1) := (behind_steps key ms (Int.le_refl _)).2
      go_wp2_with (first
        | (go_at_call 32; refine (read_any key p.1 _ HV2.out hkm (by have := HSM2.out.2.2 key; omega)).mono ?_; rintro e w11 ⟨rfl, hb11⟩; rw [HRD.out]; have HB11 := hide (below_on HB2.out (Nat.le_refl _) hb11); have HV11 := hide (HV2.out.on hb11); replace q8 := cell_on hb11 q8; replace q9 := cell_on hb11 q9; have HF11 := hide (own_on HF2.out hb11); clear hb11)
        | (go_at_call 35; refine (scan_any sort_says sort_nil s p.1 _ HV11.out (by omega) (fun key => by have := HSM2.out.2.2 key; omega)).mono ?_; rintro e w12 ⟨v2, rfl, hb12, F2, hoF2, hsF2, hnF2, hmF2⟩; have eF : F2 = F := rows_eq (rows_strict hsF2 hnF2) HSF.out (fun r => (hmF2 r).trans ((told_steps ms (Int.le_refl _) s r).trans (HMF.out r).symm)); rw [eF] at hoF2; obtain ⟨ao1, cap1, rfl, hh1⟩ := ownP_held hoF2; have HH1 := hide hh1; have HH2 := hide (ownP_has (own_on HF11.out hb12)); have HB12 := hide (below_on HB11.out (Nat.le_refl _) hb12); clear hb12 hoF2 hsF2 hnF2 hmF2 eF hh1)
        | (go_at_call 34; refine (sameRows_held F ao1 la cap1 lc _ HH1.out HH2.out.1 HH2.out.2).mono ?_; rintro e w13 ⟨rfl, hb13⟩; have HB13 := hide (below_on HB12.out (Nat.le_refl _) hb13)))
      go_ret
      exact ⟨rfl, HB13.out⟩
end Go.Proofs.Ytdepcjnbiceciab
