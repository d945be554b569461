/-
  What log.Add returns and leaves.
-/
import Derived.Test.YtkfpfbkdalbjoaaLogSecs
import Derived.Test.YtkfpfbkdalbjoaaLogRun
import Derived.Test.YtkfpfbkdalbjoaaLogOpen
namespace Go.Proofs.Ytkfpfbkdalbjoaa
open Go.RowKit Go.Joins
attribute [local go_sem ↓] Go.wp_at_zero Go.wp_at_succ

/-- a log, and its disk -/
structure LK (w : World) (B lb db : Nat) (S : Nat → Prop) (fr many first used : Nat) (s : DSt) : Prop where
  dk : DK w B db S s
  hd : LHd w lb db fr many first used
  nl : ¬ S lb
  lo : B ≤ lb
  us : used ≤ many
  fit : fr + many ≤ s.now.length
  f1 : 1 ≤ first ∧ first ≤ 1500000
/-- its blocks -/
def inL (lb : Nat) (S : Nat → Prop) (k : Nat) : Prop := k = lb ∨ S k
def addF (l : List Chg) (room : Nat) : Nat := if 12 < l.length then 2 else if room < l.length + 1 then 8 else chgsF l
/-- what adding comes to: its fault, how many sectors are used, the disk -/
def addR (fr many first used : Nat) (s : DSt) (l : List Chg) : Nat × Nat × DSt :=
  if addF l (many - used) ≠ 0 then (addF l (many - used), used, s)
  else
    let r := runD (addOps (fr + used) (deedSecs (first + used) l) (many - used)) s
    (r.1, if r.1 = 0 then used + l.length + 1 else used, r.2)
def ActL' (w w' : World) (B lb db : Nat) (S : Nat → Prop) (fr many first used : Nat) (s : DSt) : Prop := ∃ S', LK w' B lb db S' fr many first used s ∧ StepV w w' B (inL lb S) (inL lb S')
section
variable {w w' : World} {B lb db : Nat} {S : Nat → Prop} {fr many first used : Nat} {s s' : DSt}
theorem LK.on (h : LK w B lb db S fr many first used s) (hb : Below w.heap.size w w') : LK w' B lb db S fr many first used s :=
  ⟨h.dk.on hb, h.hd.kept (hb.block lb h.hd.lt), h.nl, h.lo, h.us, h.fit, h.f1⟩
theorem LK.stay (h : LK w B lb db S fr many first used s) (hb : Below w.heap.size w w') : ActL' w w' B lb db S fr many first used s := ⟨S, h.on hb, .on h.dk.lo hb⟩
theorem stepV_in {S' : Nat → Prop} (hs : StepV w w' B S S') : StepV w w' B (inL lb S) (inL lb S') :=
  ⟨hs.bel, fun j hj hn2 => ⟨(hs.far j hj fun e => hn2 (.inr e)).1, fun e => e.elim (fun e => hn2 (.inl e)) (hs.far j hj fun e => hn2 (.inr e)).2⟩⟩
theorem LK.step {S' : Nat → Prop} (h : LK w B lb db S fr many first used s) (hk : DK w' B db S' s') (hs : StepV w w' B S S') (hl : s'.now.length = s.now.length) : LK w' B lb db S' fr many first used s' :=
  have f1 := hs.far lb h.hd.lt h.nl
  ⟨hk, h.hd.kept f1.1, f1.2, h.lo, h.us, by rw [hl]; exact h.fit, h.f1⟩
theorem LK.use (h : LK w B lb db S fr many first used s) (n : Nat) (hn : n ≤ many) : ActL' w (w.setCell ⟨lb, 4, none⟩ (.int .i64 (n : Int))) B lb db S fr many first n s := by
  refine ⟨S, ⟨h.dk.kept (by simp) fun k e => Below.heap_setCell _ _ _ _ fun e2 => h.nl (by have e3 : k = lb := e2; rw [← e3]; exact e), h.hd.use n, h.nl, h.lo, hn, h.fit, h.f1⟩, ⟨(Below.refl _ _).setCell (p := ⟨lb, 4, none⟩) h.lo _, fun j hj hn => ⟨Below.heap_setCell _ _ _ _ fun e => hn (.inl e), hn⟩⟩⟩
theorem ActL'.after {w1 w2 : World} {S1 : Nat → Prop} {n : Nat} (hs : StepV w w1 B (inL lb S) (inL lb S1)) (ha : ActL' w1 w2 B lb db S1 fr many first n s) : ActL' w w2 B lb db S fr many first n s := by
  obtain ⟨S2, h1, h2⟩ := ha
  exact ⟨S2, h1, hs.trans h2⟩
set_option maxRecDepth 8000 in
set_option maxHeartbeats 4000000 in
theorem ladd_any (l : List Chg) (ao : Option Addr) (cap : Nat) (w : World) (h : LK w B lb db S fr many first used s) (hd : heldCh w ao l) (hsz : ∀ c ∈ l, c.key.size ≤ 1000 ∧ c.val.size ≤ 1000) (hlen : l.length ≤ 1000) :
    Calls Try.prog 31 #[.pointer (some ⟨lb, 0, none⟩), .slice ao l.length cap] w fun e w' => e = .returned (errV (addR fr many first used s l).1) ∧ ActL' w w' B lb db S fr many first (addR fr many first used s l).2.1 (addR fr many first used s l).2.2 := by
  have hmany := h.dk.many
  have hfit := h.fit
  have hus := h.us
  have hf1 := h.f1
  unfold addR addF
  by_cases h12 : 12 < l.length
  · have h12' : (12 : Int) < (l.length : Int) := by omega
    rw [if_pos h12, if_pos (by decide)]
    have H := hide h
    clear h
    go_enter Try.func31, Try.ntmps31
    go_wp2
    go_ret
    exact ⟨rfl, H.out.stay (Below.refl _ _)⟩
  rw [if_neg h12]
  have h12' : ¬ (12 : Int) < (l.length : Int) := by omega
  have HRM := hide (lroom_any w h.hd h.us (by omega))
  by_cases hroom : many - used < l.length + 1
  · have hroom' : ((many - used : Nat) : Int) < (l.length : Int) + 1 := by omega
    rw [if_pos hroom, if_pos (by decide)]
    have H := hide h
    clear h hmany hfit hus
    generalize many - used = room at *
    go_enter Try.func31, Try.ntmps31
    go_wp2_with (go_at_call 28; refine HRM.out.mono ?_; rintro e w1 ⟨rfl, nn, rfl⟩)
    go_ret
    exact ⟨rfl, H.out.stay (below_drewN (Below.refl _ _) _)⟩
  rw [if_neg hroom]
  have hroom' : ¬ ((many - used : Nat) : Int) < (l.length : Int) + 1 := by omega
  have HSE := hide (fun n => lsectors_any l ao cap (w.drewN n) (heldCh_on (below_drewN (Below.refl _ _) n) hd) (by omega) hsz (h.hd.kept (w' := w.drewN n) rfl) (by omega))
  by_cases hcf : chgsF l = 0
  · rw [if_neg (by rw [hcf]; decide)]
    have hdl := deedSecs_len (first + used) l
    have HLK := hide h
    have HSE2 : Hid (∀ n v w', SecsPost (w.drewN n) w' v l (first + used) → ∃ g c, v = .slice (some ⟨g, 0, none⟩) (l.length + 1) c ∧ AddI w' B lb db S fr many first used g c (deedSecs (first + used) l) s ∧ Below w.heap.size w w') := fun n v w' hp => by
      unfold SecsPost at hp
      rw [if_pos hcf] at hp
      obtain ⟨ho, hb⟩ := hp
      have hb2 : Below w.heap.size w w' := (below_drewN (Below.refl w.heap.size w) n).trans (hb.mono (Nat.le_refl _))
      obtain ⟨g, c, hv, hce⟩ := ownS_some (w := w') (B := w.heap.size) (l := deedSecs (first + used) l) ho (by omega)
      rw [hdl] at hv
      have hk2 := h.on hb2
      refine ⟨g, c, hv, ⟨hk2.dk, hk2.hd, hk2.nl, hce, fun e => ?_, by omega, by omega, h.fit⟩, hb2⟩
      have h1 := h.dk.lt e
      have h2 := (World.ownsRow.lt ho g (by rw [hv]; rfl)).1
      have h3 : w.heap.size ≤ g := h2
      omega
    rw [hcf, errD_nil] at HSE
    obtain ⟨r, hr⟩ : ∃ r, runD (addOps (fr + used) (deedSecs (first + used) l) (many - used)) s = r := ⟨_, rfl⟩
    simp only [hr]
    have HRU : Hid (∀ w' g c, AddI w' B lb db S fr many first used g c (deedSecs (first + used) l) s → Calls Try.prog 56 #[.agg #[.pointer (some ⟨lb, 0, none⟩), .slice (some ⟨g, 0, none⟩) (l.length + 1) c]] w' fun e w'' => e = .returned (errV r.1) ∧ ActD w' w'' B db S r.2) := fun w' g c ha => by
      have := arun_any w' ha
      rw [hdl, hr] at this
      exact this
    have HRL : Hid (r.2.now.length = s.now.length) := by rw [← hr]; exact runD_len _ _
    clear h hr hdl
    by_cases hr0 : r.1 = 0
    · rw [if_pos hr0, hr0, errD_nil]
      have HR0 := hide hr0
      simp only [hr0, errD_nil] at HRU
      have HNU : Hid ((used : Int) + ((l.length : Int) + 1) = ((used + l.length + 1 : Nat) : Int)) := hide (by omega)
      clear hr0
      generalize hrm : many - used = room at *
      have HRMD := hide hrm
      clear hrm
      go_enter Try.func31, Try.ntmps31
      go_wp2_with (first
        | (go_at_call 28; refine HRM.out.mono ?_; rintro e w1 ⟨rfl, nn, rfl⟩)
        | (go_at_call 55; refine (HSE.out _).mono ?_; rintro e w2 ⟨v2, rfl, hp2⟩; obtain ⟨g2, cc2, rfl, ha2, hb2⟩ := HSE2.out _ _ _ hp2; have HA2 := hide ha2; have HB2 := hide hb2; clear ha2 hb2 hp2)
        | (go_at_call 56; refine (HRU.out _ _ _ HA2.out).mono ?_; rintro e w3 ⟨rfl, ha3⟩; obtain ⟨S3, hk3, hs3⟩ := ha3; have HL3 := hide ((HLK.out.on HB2.out).step hk3 hs3 HRL.out); have HS3 := hide ((StepV.on HLK.out.dk.lo HB2.out).trans (stepV_in (lb := lb) hs3)); have c4 := HL3.out.hd.c4; have f4 := HL3.out.hd.soft 4; clear hk3 hs3)
        | fail)
      go_ret
      refine ⟨rfl, ActL'.after HS3.out ?_⟩
      have hu := HL3.out.use (used + l.length + 1) (by have := HRMD.out; omega)
      rw [← HNU.out] at hu
      exact hu
    · rw [if_neg hr0]
      have HR0 := hide hr0
      rw [errD_pos hr0] at HRU
      have HER : Hid (errV r.1 = .iface 82 (.int .i64 r.1)) := errD_pos hr0
      rw [HER.out]
      clear hr0
      generalize hrm : many - used = room at *
      clear hrm
      go_enter Try.func31, Try.ntmps31
      go_wp2_with (first
        | (go_at_call 28; refine HRM.out.mono ?_; rintro e w1 ⟨rfl, nn, rfl⟩)
        | (go_at_call 55; refine (HSE.out _).mono ?_; rintro e w2 ⟨v2, rfl, hp2⟩; obtain ⟨g2, cc2, rfl, ha2, hb2⟩ := HSE2.out _ _ _ hp2; have HA2 := hide ha2; have HB2 := hide hb2; clear ha2 hb2 hp2)
        | (go_at_call 56; refine (HRU.out _ _ _ HA2.out).mono ?_; rintro e w3 ⟨rfl, ha3⟩; obtain ⟨S3, hk3, hs3⟩ := ha3; have HL3 := hide ((HLK.out.on HB2.out).step hk3 hs3 HRL.out); have HS3 := hide ((StepV.on HLK.out.dk.lo HB2.out).trans (stepV_in (lb := lb) hs3)); clear hk3 hs3)
        | fail)
      go_ret
      exact ⟨rfl, S3, HL3.out, HS3.out⟩
  · rw [if_pos hcf]
    have HLK := hide h
    have HER : Hid (errV (chgsF l) = .iface 82 (.int .i64 (chgsF l))) := errD_pos hcf
    have HSE2 : Hid (∀ n v w', SecsPost (w.drewN n) w' v l (first + used) → Below w.heap.size w w') := fun n v w' hp => by
      unfold SecsPost at hp
      rw [if_neg hcf] at hp
      exact (below_drewN (Below.refl w.heap.size w) n).trans (hp.mono (Nat.le_refl _))
    rw [HER.out] at HSE
    simp only [HER.out]
    clear h hcf
    generalize hrm : many - used = room at *
    clear hrm
    go_enter Try.func31, Try.ntmps31
    go_wp2_with (first
      | (go_at_call 28; refine HRM.out.mono ?_; rintro e w1 ⟨rfl, nn, rfl⟩)
      | (go_at_call 55; refine (HSE.out _).mono ?_; rintro e w2 ⟨v2, rfl, hp2⟩; have HB2 := hide (HSE2.out _ _ _ hp2); clear hp2)
      | fail)
    go_ret
    exact ⟨rfl, HLK.out.stay HB2.out⟩
end
end Go.Proofs.Ytkfpfbkdalbjoaa
