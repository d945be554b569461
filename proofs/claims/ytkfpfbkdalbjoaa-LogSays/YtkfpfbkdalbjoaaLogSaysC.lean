/-
  What haywainlaw.logs, haywainlaw.addFault and log.Next return.
-/
import Derived.Test.YtkfpfbkdalbjoaaLogSaysL
import Derived.Test.YtkfpfbkdalbjoaaDskFlush
import Derived.Test.YtkfpfbkdalbjoaaSame1
namespace Go.Proofs.Ytkfpfbkdalbjoaa
open Go.RowKit Go.Joins
attribute [local go_sem ↓] Go.wp_at_zero Go.wp_at_succ

theorem lnext_any {lb db fr many first used : Nat} (w : World) (h : LHd w lb db fr many first used) (hm : many ≤ 1000) (hf : first ≤ 1500000) : Calls Try.prog 29 #[.pointer (some ⟨lb, 0, none⟩)] w fun e w' => e = .returned (.int .i64 ((first : Int) + (many : Int))) ∧ ∃ n, w' = w.drewN n := by
  have c2 := h.c2
  have c3 := h.c3
  have k0 : (0 : Int) ≤ (first : Int) := by omega
  have k1 : (many : Int) ≤ 1000 := by omega
  have k2 : (first : Int) ≤ 1500000 := by omega
  clear h
  go_enter Try.func29, Try.ntmps29
  go_wp2
  go_quiet (fail)
  go_wp2
  go_ret
  exact ⟨rfl, _, rfl⟩
set_option maxRecDepth 8000 in
set_option maxHeartbeats 2000000 in
theorem addFault_any (l : List Chg) (ao : Option Addr) (cap room : Nat) (w : World) (hd : heldCh w ao l) (hk : ∀ c ∈ l, c.key.size ≤ 1000) (hl : l.length ≤ 1000) (hr : room ≤ 1000) :
    Calls Try.prog 30 #[.slice ao l.length cap, .int .i64 (room : Int)] w fun e w' => e = .returned (.int .i64 (addF l room : Nat)) ∧ Below w.heap.size w w' := by
  have HD := hide hd
  have HK := hide hk
  clear hd hk
  unfold addF
  by_cases h12 : 12 < l.length
  · have h12' : (12 : Int) < (l.length : Int) := by omega
    rw [if_pos h12]
    go_enter Try.func30, Try.ntmps30
    go_wp2
    go_ret
    exact ⟨rfl, Below.refl _ _⟩
  · have h12' : ¬ (12 : Int) < (l.length : Int) := by omega
    rw [if_neg h12]
    by_cases hrm : room < l.length + 1
    · have hrm' : (room : Int) < (l.length : Int) + 1 := by omega
      rw [if_pos hrm]
      go_enter Try.func30, Try.ntmps30
      go_wp2
      go_ret
      exact ⟨rfl, Below.refl _ _⟩
    · have hrm' : ¬ (room : Int) < (l.length : Int) + 1 := by omega
      rw [if_neg hrm]
      go_enter Try.func30, Try.ntmps30
      go_wp2
      go_loopw [5] (fun iv wr => ∃ k : Nat, k ≤ l.length ∧ iv = .int .i64 (k : Int) ∧ chgsF (l.take k) = 0 ∧ Below w.heap.size w wr) (fun iv _ => l.length - (intOf iv).toNat)
      case atStart => exact ⟨0, Nat.zero_le _, rfl, rfl, Below.refl _ _⟩
      case round =>
        obtain ⟨k, hkl, rfl, hc0, hb⟩ := hrel
        by_cases hlt : k < l.length
        · have hlt' : (k : Int) < (l.length : Int) := by omega
          have hk0 : (0 : Int) ≤ (k : Int) := by omega
          rcases HD.out with e | ⟨b, off, e, hch⟩
          · rw [e] at hlt; simp at hlt
          subst e
          obtain ⟨x0, x1, x2⟩ := hch k hlt
          have hcf := chgsF_take hlt hc0
          have hkk := HK.out _ (List.getElem_mem hlt)
          clear hch
          generalize l[k] = x at *
          replace x0 := cell_on hb x0
          replace x1 := cell_on hb x1
          replace x2 := cell_on hb x2
          have HRF := fun w' => hide (rfault_any x w' hkk)
          have HB := hide hb
          have HCF := hide hcf
          clear hb hcf hc0
          by_cases hf : chgFault x = 0
          · have HF := hide hf
            rw [hf] at HRF
            clear hf
            go_wp2_with (go_at_call 54; refine ((HRF _).out).mono ?_; rintro e w7 ⟨rfl, hb7⟩; have HB7 := hide (below_on HB.out (Nat.le_refl _) hb7); clear hb7)
            exact ⟨⟨k + 1, by omega, by go_num, HCF.out.1.trans HF.out, HB7.out⟩, by simp [intOf]; omega⟩
          · have HF := hide (HCF.out.2 hf)
            have hf' : (0 : Int) < (chgFault x : Int) := by omega
            clear hf
            generalize chgFault x = cf at *
            go_wp2_with (go_at_call 54; refine ((HRF _).out).mono ?_; rintro e w7 ⟨rfl, hb7⟩; have HB7 := hide (below_on HB.out (Nat.le_refl _) hb7); clear hb7)
            go_ret
            exact ⟨ret_int (by rw [HF.out]), HB7.out⟩
        · have hlt' : ¬ (k : Int) < (l.length : Int) := by omega
          have ek : k = l.length := by omega
          rw [ek, List.take_length] at hc0
          have HC0 := hide hc0
          have HB := hide hb
          clear hb hc0
          go_wp2
          go_ret
          exact ⟨ret_int (by rw [HC0.out]; rfl), HB.out⟩
def aC : Chg := ⟨⟨#[116, 47, 97]⟩, ⟨#[120]⟩, false⟩
theorem aC_fault : chgFault aC = 0 := by
  have hk : keyL aC.key.data.toList = true := by decide
  unfold chgFault
  rw [hk]
  simp [aC, Lib.toList_data]
  rfl
theorem aC_add {room : Nat} (h : 2 ≤ room) : addF [aC] room = 0 := by
  unfold addF
  rw [if_neg (by show ¬ 12 < 1; decide), if_neg (by show ¬ room < 1 + 1; omega)]
  show (if chgFault aC = 0 then 0 else chgFault aC) = 0
  rw [if_pos aC_fault]
/-- a new disk's log -/
theorem fresh_log (n fr many first : Nat) (h1 : 1 ≤ many) (hf : fr + many ≤ n) : LGood (initD n) fr many first [] 0 := by
  refine ⟨rfl, rfl, rfl, by show fr + many ≤ (List.replicate n (zerosB 96)).length; simpa using hf, ?_⟩
  unfold HasL
  have hg : (regL (initD n).now fr many)[0]? = some (zerosB 96) := by
    rw [regL_get, if_pos (show 0 < many from h1)]
    show (List.replicate n (zerosB 96))[fr + 0]? = _
    rw [List.getElem?_replicate, if_pos (by omega)]
  cases hr : regL (initD n).now fr many with
  | nil => rw [hr] at hg; cases hg
  | cons t r =>
    rw [hr] at hg
    have e : t = zerosB 96 := by simpa using hg
    rw [e, scan_none (dec_zero _)]
theorem LK.of_openN {w w' : World} {B lb db : Nat} {S : Nat → Prop} {s : DSt} {fr many first u : Nat} {dv : Value} {ds : List (List Chg)} (hk : DK w B db S s) (ho : OpenAt w w' lb db fr many first dv ds u) (hu : u ≤ many) (hf : fr + many ≤ s.now.length) (h1 : 1 ≤ first) (h2 : first ≤ 1500000) : LK w' B lb db S fr many first u s :=
  ⟨hk.on ho.bel, ho.hd, fun e => by have := hk.lt e; have := ho.new; omega, Nat.le_trans hk.lo ho.new, hu, hf, h1, h2⟩
theorem deedsV_form {w : World} {N : Nat} {v : Value} {l : List Dd} (h : DeedsV w N v l) : ∃ ao cap, v = .slice ao l.length cap := by
  rcases h.1.2 with ⟨e, e2⟩ | ⟨g, cap, cur, e, _⟩
  · exact ⟨none, 0, by rw [e, e2]⟩
  · exact ⟨_, cap, e⟩
theorem one_chg (w : World) : chgsAt (w.alloc (Obj.cells #[Value.string ⟨#[116, 47, 97]⟩, Value.string ⟨#[120]⟩, Value.bool false] 67)) w.heap.size 0 [aC] := fun i hi => by
  have : i = 0 := by simp at hi; omega
  subst this
  exact ⟨cell_new _ _ _ 0, cell_new _ _ _ 1, cell_new _ _ _ 2⟩
theorem aC_small : ∀ c ∈ [aC], c.key.size ≤ 1000 ∧ c.val.size ≤ 1000 := fun c hc => by
  rw [List.mem_singleton] at hc
  rw [hc]
  exact ⟨by show 3 ≤ 1000; decide, by show 1 ≤ 1000; decide⟩
set_option maxRecDepth 8000 in
set_option maxHeartbeats 4000000 in
theorem logs_any (w : World) : Calls Try.prog 24 #[] w fun e w' => e = .returned (.bool true) ∧ Below w.heap.size w w' := by
  have HF8 := hide (fresh_log 8 2 6 1 (by decide) (by decide))
  have haf : addF [aC] (6 - 0) = 0 := aC_add (by decide)
  have HNV := hide (HF8.out.never rfl [aC] haf)
  have HU2 : Hid ((addR 2 6 1 0 (initD 8) [aC]).2.1 = 2) := by
    have h0 := HNV.out.1
    unfold addR at h0 ⊢
    rw [if_neg (by rw [haf]; decide)] at h0 ⊢
    simp only at h0 ⊢
    rw [h0, if_pos rfl]
    rfl
  have nn := nil_neq_nil
  clear haf
  go_enter Try.func24, Try.ntmps24
  go_wp2_with (first
    | (go_at_call 10; refine (newDisk_good 8 _ (by decide) (by decide)).mono ?_; rintro e w1 ⟨db, rfl, hn1⟩; obtain ⟨⟨S1, hk1⟩, hb1⟩ := hn1; have HK1 := hide hk1; have HB1 := hide hb1; have HOP := hide (lopen_good 2 6 1 _ hk1 rfl (by decide) (by decide) (by decide) HF8.out.fit); rw [HF8.out.deeds.1, HF8.out.deeds.2] at HOP; clear hk1 hb1)
    | (go_at_call 25; refine HOP.out.mono ?_; rintro e w2 ⟨lb, dv, rfl, ho2⟩; have HLK := hide (LK.of_openN HK1.out ho2 (Nat.zero_le _) HF8.out.fit (by decide) (by decide)); have HB2 := hide (below_on HB1.out (Nat.le_refl _) ho2.bel); obtain ⟨gl, hgl, hge, _⟩ := ho2.de; have hgn : gl = [] := (by simpa using hge); subst hgn; obtain ⟨ga, gc, rfl⟩ := deedsV_form hgl; clear ho2 hgl hge; have HZA := hide (below_alloc1 w2 (Obj.cells #[Value.string ⟨#[116, 47, 97]⟩, Value.string ⟨#[120]⟩, Value.bool false] 67)); have HZC : Hid (heldCh (w2.alloc (Obj.cells #[Value.string ⟨#[116, 47, 97]⟩, Value.string ⟨#[120]⟩, Value.bool false] 67)) (some ⟨w2.heap.size, 0, none⟩) [aC]) := (.inr ⟨w2.heap.size, 0, rfl, one_chg w2⟩); have HAD := hide (ladd_any [aC] (some ⟨w2.heap.size, 0, none⟩) 1 _ (HLK.out.on HZA.out) HZC.out aC_small (by show 1 ≤ 1000; decide)); rw [HNV.out.1, HU2.out, errD_nil] at HAD)
    | (go_at_call 31; refine HAD.out.mono ?_; rintro e w3 ⟨rfl, ha3⟩; obtain ⟨S3, hL3, hs3⟩ := ha3; have HL3 := hide hL3; have HB3 := hide ((below_on HB2.out (Nat.le_refl _) HZA.out).trans hs3.bel); clear hL3 hs3)
    | (go_at_call 12; refine (same_nil 0 _).mono ?_; rintro e w4 ⟨rfl, rfl⟩; have HRM := hide (lroom_any w4 HL3.out.hd (by decide) (by decide)))
    | (go_at_call 28; refine HRM.out.mono ?_; rintro e w5 ⟨rfl, n5, rfl⟩; have HNX := hide (lnext_any (w4.drewN n5) (HL3.out.hd.kept rfl) (by decide) (by decide)))
    | (go_at_call 29; refine HNX.out.mono ?_; rintro e w6 ⟨rfl, n6, rfl⟩)
    | fail)
  go_ret
  exact ⟨rfl, below_drewN HB3.out _⟩
end Go.Proofs.Ytkfpfbkdalbjoaa
