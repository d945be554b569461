/-
  What log.Open returns.
-/
import Derived.Test.YtkfpfbkdalbjoaaGreatLogRead
import Derived.Test.YtkfpfbkdalbjoaaGreatLogSecs
import Derived.Test.YtkfpfbkdalbjoaaGreatLogWrite
import Derived.Test.YtkfpfbkdalbjoaaGreatLogQ
namespace Go.Proofs.YtkfpfbkdalbjoaaGreat
open Go.RowKit Go.Joins
attribute [local go_sem ↓] Go.wp_at_zero Go.wp_at_succ

section
variable {w : World} {B db : Nat} {S : Nat → Prop} {s : DSt}
/-- a log that was opened: its header, its deeds; nothing that was there is changed -/
structure OpenAt (w w' : World) (lb db fr many first : Nat) (dv : Value) (ds : List (List Chg)) (u : Nat) : Prop where
  de : ∃ l, DeedsV w' w.heap.size dv l ∧ l.map (·.chs) = ds ∧ ∀ d ∈ l, (ddV d).ownBlock ≠ some lb
  dn : dv.ownBlock ≠ some lb
  hd : LHd w' lb db fr many first u
  new : w.heap.size ≤ lb
  bel : Below w.heap.size w w'
set_option maxRecDepth 8000 in
set_option maxHeartbeats 4000000 in
theorem lopen_bad (fr many first : Int) (w : World) (hk : DK w B db S s) (h : fr < 0 ∨ many < 1 ∨ first < 1 ∨ (s.now.length : Int) - fr < many) (hf : fr ≤ 9223372036854775807) :
    Calls Tryz.prog 38 #[.pointer (some ⟨db, 0, none⟩), .int .i64 fr, .int .i64 many, .int .i64 first] w fun e w' => e = .returned (.tuple #[.pointer none, .slice none 0 0, errV 1]) ∧ w' = w := by
  have HS := hide (dsectors_any w hk)
  have hmany := hk.many
  clear hk
  generalize s.now.length = n at *
  have he1 : errV 1 = .iface 57 (.int .i64 1) := rfl
  rw [he1]
  clear he1
  by_cases h1 : fr < 0
  · go_enter Tryz.func38, Tryz.ntmps38
    go_wp2
    go_ret3
    exact ⟨rfl, rfl⟩
  · by_cases h2 : many < 1
    · go_enter Tryz.func38, Tryz.ntmps38
      go_wp2
      go_ret3
      exact ⟨rfl, rfl⟩
    · by_cases h3 : first < 1
      · go_enter Tryz.func38, Tryz.ntmps38
        go_wp2
        go_ret3
        exact ⟨rfl, rfl⟩
      · have h4 : (n : Int) - fr < many := by omega
        have h5 : (0 : Int) ≤ (n : Int) := by omega
        have h6 : (n : Int) ≤ 200 := by omega
        go_enter Tryz.func38, Tryz.ntmps38
        go_wp2_with (go_at_call 23; refine HS.out.mono ?_; rintro e w1 ⟨rfl, rfl⟩)
        go_ret3
        exact ⟨rfl, rfl⟩
set_option maxRecDepth 8000 in
set_option maxHeartbeats 4000000 in
theorem lopen_good (fr many first : Nat) (w : World) (hk : DK w B db S s) (hd : s.down = false) (h1 : 1 ≤ many) (h2 : 1 ≤ first) (hf : first ≤ 1500000) (hm : fr + many ≤ s.now.length) :
    Calls Tryz.prog 38 #[.pointer (some ⟨db, 0, none⟩), .int .i64 (fr : Int), .int .i64 (many : Int), .int .i64 (first : Int)] w fun e w' => ∃ lb dv, e = .returned (.tuple #[.pointer (some ⟨lb, 0, none⟩), dv, .nilIface]) ∧ OpenAt w w' lb db fr many first dv (deedsL (secsD s fr many) first) (usedL (secsD s fr many) first) := by
  have HS := hide (dsectors_any w hk)
  have hmany := hk.many
  have g1 : ¬ (fr : Int) < 0 := by omega
  have g2 : ¬ (many : Int) < 1 := by omega
  have g3 : ¬ (first : Int) < 1 := by omega
  have g4 : ¬ (s.now.length : Int) - (fr : Int) < (many : Int) := by omega
  have g5 : (s.now.length : Int) ≤ 200 := by omega
  have hb := below_alloc1 w (Obj.cells #[.pointer (some ⟨db, 0, none⟩), .int .i64 (fr : Int), .int .i64 (many : Int), .int .i64 (first : Int), .int .i64 0] 114)
  have HH : Hid (LHd (w.alloc (Obj.cells #[.pointer (some ⟨db, 0, none⟩), .int .i64 (fr : Int), .int .i64 (many : Int), .int .i64 (first : Int), .int .i64 0] 114)) w.heap.size db fr many first 0) := ⟨cell_new _ _ _ 0, cell_new _ _ _ 1, cell_new _ _ _ 2, cell_new _ _ _ 3, cell_new _ _ _ 4, fun j => frozen_new _ _ _ j⟩
  have HR := hide (lread_any _ (hk.on hb) HH.out (fun e => by have := hk.lt e; omega) hk.lo hd hf hm)
  have HB := hide hb
  clear hk hd hb
  generalize deedsL (secsD s fr many) first = ds at *
  generalize usedL (secsD s fr many) first = u at *
  generalize s.now.length = n at *
  go_enter Tryz.func38, Tryz.ntmps38
  go_wp2_with (first
    | (go_at_call 23; refine HS.out.mono ?_; rintro e w1 ⟨rfl, rfl⟩)
    | (go_at_call 57; refine HR.out.mono ?_; rintro e w2 ⟨dv, rfl, hra⟩; have HRA := hide hra; clear hra)
    | fail)
  go_ret3
  refine ⟨_, dv, rfl, ?_⟩
  obtain ⟨l, h3, h4, h5, h6⟩ := HRA.out
  have hz : (w1.alloc (Obj.cells #[.pointer (some ⟨db, 0, none⟩), .int .i64 (fr : Int), .int .i64 (many : Int), .int .i64 (first : Int), .int .i64 0] 114)).heap.size = w1.heap.size + 1 := by simp
  have hlow : ∀ v : Value, ∀ e z n xs, w2.ownsRow (w1.alloc (Obj.cells #[.pointer (some ⟨db, 0, none⟩), .int .i64 (fr : Int), .int .i64 (many : Int), .int .i64 (first : Int), .int .i64 0] 114)).heap.size e z v n xs → v.ownBlock ≠ some w1.heap.size := fun v e z n xs ho he => by
    have := (World.ownsRow.lt ho _ he).1
    rw [hz] at this
    omega
  refine ⟨⟨l, ⟨ownsRow_le h3.1 (by rw [hz]; omega), fun d hd => ownCh_le (h3.2.1 d hd) (by rw [hz]; omega), h3.2.2⟩, h4, fun d hd => hlow _ _ _ _ _ (h3.2.1 d hd)⟩, hlow _ _ _ _ _ h3.1, h5, Nat.le_refl _, ?_⟩
  exact ⟨h6.bel.os.trans HB.out.os, h6.bel.tape.trans HB.out.tape, h6.bel.output.trans HB.out.output, Nat.le_trans HB.out.size h6.bel.size, fun k hk => (h6.far k (by rw [hz]; omega) (by omega)).trans (HB.out.block k hk)⟩
end
end Go.Proofs.YtkfpfbkdalbjoaaGreat

/-
  What log.Add returns and leaves.
-/
namespace Go.Proofs.YtkfpfbkdalbjoaaGreat
open Go.RowKit Go.Joins
attribute [local go_sem ↓] Go.wp_at_zero Go.wp_at_succ

/-- a log, and its disk -/
structure LK (w : World) (B lb db : Nat) (S : Nat → Prop) (fr many first used : Nat) (s : DSt) : Prop where
  dk : DK w B db S s
  hd : LHd w lb db fr many first used
  nl : ¬ S lb
  lo : B ≤ lb
  us : used ≤ many
  fit : fr + many ≤ s.now.length
  f1 : 1 ≤ first ∧ first ≤ 1500000
/-- its blocks -/
def inL (lb : Nat) (S : Nat → Prop) (k : Nat) : Prop := k = lb ∨ S k
def addF (l : List Chg) (room : Nat) : Nat := if 12 < l.length then 2 else if room < l.length + 1 then 8 else chgsF l
/-- what adding comes to: its fault, how many sectors are used, the disk -/
def addR (fr many first used : Nat) (s : DSt) (l : List Chg) : Nat × Nat × DSt :=
  if addF l (many - used) ≠ 0 then (addF l (many - used), used, s)
  else
    let r := runD (addOps (fr + used) (deedSecs (first + used) l) (many - used)) s
    (r.1, if r.1 = 0 then used + l.length + 1 else used, r.2)
def ActL' (w w' : World) (B lb db : Nat) (S : Nat → Prop) (fr many first used : Nat) (s : DSt) : Prop := ∃ S', LK w' B lb db S' fr many first used s ∧ StepV w w' B (inL lb S) (inL lb S')
section
variable {w w' : World} {B lb db : Nat} {S : Nat → Prop} {fr many first used : Nat} {s s' : DSt}
theorem LK.on (h : LK w B lb db S fr many first used s) (hb : Below w.heap.size w w') : LK w' B lb db S fr many first used s :=
  ⟨h.dk.on hb, h.hd.kept (hb.block lb h.hd.lt), h.nl, h.lo, h.us, h.fit, h.f1⟩
theorem LK.stay (h : LK w B lb db S fr many first used s) (hb : Below w.heap.size w w') : ActL' w w' B lb db S fr many first used s := ⟨S, h.on hb, .on h.dk.lo hb⟩
theorem stepV_in {S' : Nat → Prop} (hs : StepV w w' B S S') : StepV w w' B (inL lb S) (inL lb S') :=
  ⟨hs.bel, fun j hj hn2 => ⟨(hs.far j hj fun e => hn2 (.inr e)).1, fun e => e.elim (fun e => hn2 (.inl e)) (hs.far j hj fun e => hn2 (.inr e)).2⟩⟩
theorem LK.step {S' : Nat → Prop} (h : LK w B lb db S fr many first used s) (hk : DK w' B db S' s') (hs : StepV w w' B S S') (hl : s'.now.length = s.now.length) : LK w' B lb db S' fr many first used s' :=
  have f1 := hs.far lb h.hd.lt h.nl
  ⟨hk, h.hd.kept f1.1, f1.2, h.lo, h.us, by rw [hl]; exact h.fit, h.f1⟩
theorem LK.use (h : LK w B lb db S fr many first used s) (n : Nat) (hn : n ≤ many) : ActL' w (w.setCell ⟨lb, 4, none⟩ (.int .i64 (n : Int))) B lb db S fr many first n s := by
  refine ⟨S, ⟨h.dk.kept (by simp) fun k e => Below.heap_setCell _ _ _ _ fun e2 => h.nl (by have e3 : k = lb := e2; rw [← e3]; exact e), h.hd.use n, h.nl, h.lo, hn, h.fit, h.f1⟩, ⟨(Below.refl _ _).setCell (p := ⟨lb, 4, none⟩) h.lo _, fun j hj hn => ⟨Below.heap_setCell _ _ _ _ fun e => hn (.inl e), hn⟩⟩⟩
theorem ActL'.after {w1 w2 : World} {S1 : Nat → Prop} {n : Nat} (hs : StepV w w1 B (inL lb S) (inL lb S1)) (ha : ActL' w1 w2 B lb db S1 fr many first n s) : ActL' w w2 B lb db S fr many first n s := by
  obtain ⟨S2, h1, h2⟩ := ha
  exact ⟨S2, h1, hs.trans h2⟩
set_option maxRecDepth 8000 in
set_option maxHeartbeats 4000000 in
theorem ladd_any (l : List Chg) (ao : Option Addr) (cap : Nat) (w : World) (h : LK w B lb db S fr many first used s) (hd : heldCh w ao l) (hsz : ∀ c ∈ l, c.key.size ≤ 1000 ∧ c.val.size ≤ 1000) (hlen : l.length ≤ 1000) :
    Calls Tryz.prog 27 #[.pointer (some ⟨lb, 0, none⟩), .slice ao l.length cap] w fun e w' => e = .returned (errV (addR fr many first used s l).1) ∧ ActL' w w' B lb db S fr many first (addR fr many first used s l).2.1 (addR fr many first used s l).2.2 := by
  have hmany := h.dk.many
  have hfit := h.fit
  have hus := h.us
  have hf1 := h.f1
  unfold addR addF
  by_cases h12 : 12 < l.length
  · have h12' : (12 : Int) < (l.length : Int) := by omega
    rw [if_pos h12, if_pos (by decide)]
    have H := hide h
    clear h
    go_enter Tryz.func27, Tryz.ntmps27
    go_wp2
    go_ret
    exact ⟨rfl, H.out.stay (Below.refl _ _)⟩
  rw [if_neg h12]
  have h12' : ¬ (12 : Int) < (l.length : Int) := by omega
  have HRM := hide (lroom_any w h.hd h.us (by omega))
  by_cases hroom : many - used < l.length + 1
  · have hroom' : ((many - used : Nat) : Int) < (l.length : Int) + 1 := by omega
    rw [if_pos hroom, if_pos (by decide)]
    have H := hide h
    clear h hmany hfit hus
    generalize many - used = room at *
    go_enter Tryz.func27, Tryz.ntmps27
    go_wp2_with (go_at_call 30; refine HRM.out.mono ?_; rintro e w1 ⟨rfl, nn, rfl⟩)
    go_ret
    exact ⟨rfl, H.out.stay (below_drewN (Below.refl _ _) _)⟩
  rw [if_neg hroom]
  have hroom' : ¬ ((many - used : Nat) : Int) < (l.length : Int) + 1 := by omega
  have HSE := hide (fun n => lsectors_any l ao cap (w.drewN n) (heldCh_on (below_drewN (Below.refl _ _) n) hd) (by omega) hsz (h.hd.kept (w' := w.drewN n) rfl) (by omega))
  by_cases hcf : chgsF l = 0
  · rw [if_neg (by rw [hcf]; decide)]
    have hdl := deedSecs_len (first + used) l
    have HLK := hide h
    have HSE2 : Hid (∀ n v w', SecsPost (w.drewN n) w' v l (first + used) → ∃ g c, v = .slice (some ⟨g, 0, none⟩) (l.length + 1) c ∧ AddI w' B lb db S fr many first used g c (deedSecs (first + used) l) s ∧ Below w.heap.size w w') := fun n v w' hp => by
      unfold SecsPost at hp
      rw [if_pos hcf] at hp
      obtain ⟨ho, hb⟩ := hp
      have hb2 : Below w.heap.size w w' := (below_drewN (Below.refl w.heap.size w) n).trans (hb.mono (Nat.le_refl _))
      obtain ⟨g, c, hv, hce⟩ := ownS_some (w := w') (B := w.heap.size) (l := deedSecs (first + used) l) ho (by omega)
      rw [hdl] at hv
      have hk2 := h.on hb2
      refine ⟨g, c, hv, ⟨hk2.dk, hk2.hd, hk2.nl, hce, fun e => ?_, by omega, by omega, h.fit⟩, hb2⟩
      have h1 := h.dk.lt e
      have h2 := (World.ownsRow.lt ho g (by rw [hv]; rfl)).1
      have h3 : w.heap.size ≤ g := h2
      omega
    rw [hcf, errD_nil] at HSE
    obtain ⟨r, hr⟩ : ∃ r, runD (addOps (fr + used) (deedSecs (first + used) l) (many - used)) s = r := ⟨_, rfl⟩
    simp only [hr]
    have HRU : Hid (∀ w' g c, AddI w' B lb db S fr many first used g c (deedSecs (first + used) l) s → Calls Tryz.prog 51 #[.agg #[.pointer (some ⟨lb, 0, none⟩), .slice (some ⟨g, 0, none⟩) (l.length + 1) c]] w' fun e w'' => e = .returned (errV r.1) ∧ ActD w' w'' B db S r.2) := fun w' g c ha => by
      have := arun_any w' ha
      rw [hdl, hr] at this
      exact this
    have HRL : Hid (r.2.now.length = s.now.length) := by rw [← hr]; exact runD_len _ _
    clear h hr hdl
    by_cases hr0 : r.1 = 0
    · rw [if_pos hr0, hr0, errD_nil]
      have HR0 := hide hr0
      simp only [hr0, errD_nil] at HRU
      have HNU : Hid ((used : Int) + ((l.length : Int) + 1) = ((used + l.length + 1 : Nat) : Int)) := hide (by omega)
      clear hr0
      generalize hrm : many - used = room at *
      have HRMD := hide hrm
      clear hrm
      go_enter Tryz.func27, Tryz.ntmps27
      go_wp2_with (first
        | (go_at_call 30; refine HRM.out.mono ?_; rintro e w1 ⟨rfl, nn, rfl⟩)
        | (go_at_call 50; refine (HSE.out _).mono ?_; rintro e w2 ⟨v2, rfl, hp2⟩; obtain ⟨g2, cc2, rfl, ha2, hb2⟩ := HSE2.out _ _ _ hp2; have HA2 := hide ha2; have HB2 := hide hb2; clear ha2 hb2 hp2)
        | (go_at_call 51; refine (HRU.out _ _ _ HA2.out).mono ?_; rintro e w3 ⟨rfl, ha3⟩; obtain ⟨S3, hk3, hs3⟩ := ha3; have HL3 := hide ((HLK.out.on HB2.out).step hk3 hs3 HRL.out); have HS3 := hide ((StepV.on HLK.out.dk.lo HB2.out).trans (stepV_in (lb := lb) hs3)); have c4 := HL3.out.hd.c4; have f4 := HL3.out.hd.soft 4; clear hk3 hs3)
        | fail)
      go_ret
      refine ⟨rfl, ActL'.after HS3.out ?_⟩
      have hu := HL3.out.use (used + l.length + 1) (by have := HRMD.out; omega)
      rw [← HNU.out] at hu
      exact hu
    · rw [if_neg hr0]
      have HR0 := hide hr0
      rw [errD_pos hr0] at HRU
      have HER : Hid (errV r.1 = .iface 57 (.int .i64 r.1)) := errD_pos hr0
      rw [HER.out]
      clear hr0
      generalize hrm : many - used = room at *
      clear hrm
      go_enter Tryz.func27, Tryz.ntmps27
      go_wp2_with (first
        | (go_at_call 30; refine HRM.out.mono ?_; rintro e w1 ⟨rfl, nn, rfl⟩)
        | (go_at_call 50; refine (HSE.out _).mono ?_; rintro e w2 ⟨v2, rfl, hp2⟩; obtain ⟨g2, cc2, rfl, ha2, hb2⟩ := HSE2.out _ _ _ hp2; have HA2 := hide ha2; have HB2 := hide hb2; clear ha2 hb2 hp2)
        | (go_at_call 51; refine (HRU.out _ _ _ HA2.out).mono ?_; rintro e w3 ⟨rfl, ha3⟩; obtain ⟨S3, hk3, hs3⟩ := ha3; have HL3 := hide ((HLK.out.on HB2.out).step hk3 hs3 HRL.out); have HS3 := hide ((StepV.on HLK.out.dk.lo HB2.out).trans (stepV_in (lb := lb) hs3)); clear hk3 hs3)
        | fail)
      go_ret
      exact ⟨rfl, S3, HL3.out, HS3.out⟩
  · rw [if_pos hcf]
    have HLK := hide h
    have HER : Hid (errV (chgsF l) = .iface 57 (.int .i64 (chgsF l))) := errD_pos hcf
    have HSE2 : Hid (∀ n v w', SecsPost (w.drewN n) w' v l (first + used) → Below w.heap.size w w') := fun n v w' hp => by
      unfold SecsPost at hp
      rw [if_neg hcf] at hp
      exact (below_drewN (Below.refl w.heap.size w) n).trans (hp.mono (Nat.le_refl _))
    rw [HER.out] at HSE
    simp only [HER.out]
    clear h hcf
    generalize hrm : many - used = room at *
    clear hrm
    go_enter Tryz.func27, Tryz.ntmps27
    go_wp2_with (first
      | (go_at_call 30; refine HRM.out.mono ?_; rintro e w1 ⟨rfl, nn, rfl⟩)
      | (go_at_call 50; refine (HSE.out _).mono ?_; rintro e w2 ⟨v2, rfl, hp2⟩; have HB2 := hide (HSE2.out _ _ _ hp2); clear hp2)
      | fail)
    go_ret
    exact ⟨rfl, HLK.out.stay HB2.out⟩
end
end Go.Proofs.YtkfpfbkdalbjoaaGreat

/-
  A log on a disk, from deed to deed; plain.
-/
namespace Go.Proofs.YtkfpfbkdalbjoaaGreat

/-- nothing waits, and the log has these deeds -/
structure LGood (s : DSt) (fr many first : Nat) (ds : List (List Chg)) (u : Nat) : Prop where
  down : s.down = false
  wait : s.wait = []
  kept : s.kept = s.now
  fit : fr + many ≤ s.now.length
  has : HasL s.now fr many first ds u
section
variable {s : DSt} {fr many first u : Nat} {ds : List (List Chg)}
theorem LGood.us (h : LGood s fr many first ds u) : u ≤ many := h.has.used h.fit
theorem LGood.deeds (h : LGood s fr many first ds u) : deedsL (secsD s fr many) first = ds ∧ usedL (secsD s fr many) first = u := by
  have e : scanL first 0 (secsD s fr many) ([], []) 0 = (ds, u) := h.has
  unfold deedsL usedL
  rw [e]
  exact ⟨rfl, rfl⟩
theorem LGood.arm (h : LGood s fr many first ds u) (n : Int) : LGood (armD s n) fr many first ds u := ⟨h.down, h.wait, h.kept, h.fit, h.has⟩
theorem LGood.restart (h : LGood s fr many first ds u) (k : Int) : LGood (restartD s k) fr many first ds u ∧ (restartD s k).now.length = s.now.length := by
  have e : restartD s k = ⟨s.now, s.now, [], -1, false⟩ := by unfold restartD; rw [h.wait, h.kept]; rfl
  rw [e]
  exact ⟨⟨rfl, rfl, rfl, h.fit, h.has⟩, rfl⟩
theorem chgsF_small (l : List Chg) : chgsF l = 0 ∨ chgsF l = 1 ∨ chgsF l = 3 := by
  induction l with
  | nil => exact .inl rfl
  | cons c l ih =>
    show (if chgFault c = 0 then chgsF l else chgFault c) = 0 ∨ (if chgFault c = 0 then chgsF l else chgFault c) = 1 ∨ (if chgFault c = 0 then chgsF l else chgFault c) = 3
    by_cases h : chgFault c = 0
    · rw [if_pos h]; exact ih
    · rw [if_neg h]
      unfold chgFault at h ⊢
      split
      · exact .inr (.inr rfl)
      · split
        · exact .inr (.inr rfl)
        · split
          · exact .inr (.inl rfl)
          · exact .inl rfl
theorem addF_not (l : List Chg) (room : Nat) : addF l room ≠ 10 := by
  unfold addF
  split
  · decide
  · split
    · decide
    · rcases chgsF_small l with h | h | h <;> rw [h] <;> decide
theorem addF_zero {l : List Chg} {room : Nat} (h : addF l room = 0) : l.length ≤ 12 ∧ l.length + 1 ≤ room ∧ chgsF l = 0 := by
  unfold addF at h
  split at h
  · cases h
  · split at h
    · cases h
    · exact ⟨by omega, by omega, h⟩
/-- a deed is added, or is none, or it falls -/
theorem LGood.add (h : LGood s fr many first ds u) (l : List Chg) : (addR fr many first u s l).2.2.now.length = s.now.length ∧
    (((addR fr many first u s l).1 = 0 ∧ addF l (many - u) = 0 ∧ LGood (addR fr many first u s l).2.2 fr many first (ds ++ [l]) (addR fr many first u s l).2.1) ∨
    ((addR fr many first u s l).1 = addF l (many - u) ∧ addF l (many - u) ≠ 0 ∧ (addR fr many first u s l).1 ≠ 10 ∧ addR fr many first u s l = (addF l (many - u), u, s)) ∨
    ((addR fr many first u s l).1 = 10 ∧ addF l (many - u) = 0 ∧ (addR fr many first u s l).2.1 = u ∧ (addR fr many first u s l).2.2.down = true ∧ ∀ k, (restartD (addR fr many first u s l).2.2 k).now.length = s.now.length ∧ (LGood (restartD (addR fr many first u s l).2.2 k) fr many first ds u ∨ LGood (restartD (addR fr many first u s l).2.2 k) fr many first (ds ++ [l]) (u + l.length + 1)))) := by
  unfold addR
  by_cases hf : addF l (many - u) = 0
  · rw [if_neg (by rw [hf]; decide)]
    obtain ⟨_, q2, q3⟩ := addF_zero hf
    have hus := h.us
    have hrun := add_run h.down h.wait h.kept h.fit h.has q3 (by omega)
    have hlen := runD_len (addOps (fr + u) (deedSecs (first + u) l) (many - u)) s
    generalize runD (addOps (fr + u) (deedSecs (first + u) l) (many - u)) s = r at *
    refine ⟨hlen, ?_⟩
    by_cases h0 : r.1 = 0
    · obtain ⟨g1, g2, g3, g4⟩ := hrun.good h0
      refine .inl ⟨h0, hf, ?_⟩
      simp only [h0, if_true]
      exact ⟨g1, g2, g3, by rw [hlen]; exact h.fit, g4.has⟩
    · obtain ⟨g1, g2, g3⟩ := hrun.bad h0
      refine .inr (.inr ⟨g1, hf, ?_, g2, fun k => ?_⟩)
      · simp only [h0, if_false]
      · have hA : After r.2 (keepL k 0 r.2.wait r.2.kept) := ⟨k, rfl⟩
        have e : restartD r.2 k = ⟨keepL k 0 r.2.wait r.2.kept, keepL k 0 r.2.wait r.2.kept, [], -1, false⟩ := rfl
        rw [e]
        rcases g3 _ hA with g | g
        · exact ⟨g.len, .inl ⟨rfl, rfl, rfl, by show _ ≤ (keepL k 0 r.2.wait r.2.kept).length; rw [g.len]; exact h.fit, g.has⟩⟩
        · exact ⟨g.len, .inr ⟨rfl, rfl, rfl, by show _ ≤ (keepL k 0 r.2.wait r.2.kept).length; rw [g.len]; exact h.fit, g.has⟩⟩
  · rw [if_pos hf]
    exact ⟨rfl, .inr (.inl ⟨rfl, hf, addF_not l _, rfl⟩)⟩
/-- never armed: no step falls -/
theorem never_op (o : DOp) (s : DSt) (hd : s.down = false) (hl : s.left = -1) (ho : ∀ a d, o = .wr a d → a < s.now.length ∧ d.size ≤ 96) : opF o s = 0 ∧ (opD o s).down = false ∧ (opD o s).left = -1 ∧ (opD o s).now.length = s.now.length := by
  obtain ⟨e1, e3⟩ := dstep_go hd (show s.left ≠ 0 by rw [hl]; decide)
  have e2 : dstepD s = s := by rw [e3, if_neg (by rw [hl]; decide)]
  cases o with
  | wr a d =>
    obtain ⟨h1, h2⟩ := ho a d rfl
    have hb : ¬ ((a : Int) < 0 ∨ (s.now.length : Int) ≤ (a : Int) ∨ 96 < d.size) := by omega
    have eF : opF (.wr a d) s = 0 := by show dwriteF s a d = _; unfold dwriteF; rw [if_neg hb]; exact e1
    have eD : opD (.wr a d) s = laidD s a (dpadB d) := by show dwriteD s a d = _; unfold dwriteD; rw [if_neg hb, if_pos e1, e2, Int.toNat_natCast]
    rw [eF, eD]
    exact ⟨rfl, hd, hl, List.length_set ..⟩
  | fl =>
    have eD : opD .fl s = { s with kept := s.now, wait := [] } := by show flushD s = _; unfold flushD; rw [if_pos e1, e2]
    rw [eD]
    exact ⟨e1, hd, hl, rfl⟩
theorem never_run (n : Nat) : ∀ (ops : List DOp) (s : DSt), s.down = false → s.left = -1 → s.now.length = n → (∀ o ∈ ops, ∀ a d, o = .wr a d → a < n ∧ d.size ≤ 96) → (runD ops s).1 = 0 ∧ (runD ops s).2.left = -1
  | [], s, _, hl, _, _ => ⟨rfl, hl⟩
  | o :: l, s, hd, hl, hn, ho => by
    obtain ⟨q1, q2, q3, q4⟩ := never_op o s hd hl (by rw [hn]; exact ho o (List.mem_cons_self ..))
    show (if opF o s = 0 then runD l (opD o s) else (opF o s, opD o s)).1 = 0 ∧ (if opF o s = 0 then runD l (opD o s) else (opF o s, opD o s)).2.left = -1
    rw [if_pos q1]
    exact never_run n l _ q2 q3 (by rw [q4]; exact hn) fun o' h => ho o' (List.mem_cons_of_mem _ h)
theorem rest_mem : ∀ (l : List ByteArray) (b : Nat) (o : DOp), o ∈ restFrom b l → ∀ a d, o = .wr a d → b ≤ a ∧ a < b + l.length ∧ d ∈ l
  | [], _, o, h, _, _, _ => absurd h List.not_mem_nil
  | t :: l, b, o, h, a, d, e => by
    rcases List.mem_cons.1 h with rfl | h
    · cases e; exact ⟨Nat.le_refl _, by rw [List.length_cons]; omega, List.mem_cons_self ..⟩
    · obtain ⟨q1, q2, q3⟩ := rest_mem l (b + 1) o h a d e
      exact ⟨by omega, by rw [List.length_cons]; omega, List.mem_cons_of_mem _ q3⟩
theorem LGood.never (h : LGood s fr many first ds u) (hl : s.left = -1) (l : List Chg) (hf : addF l (many - u) = 0) : (addR fr many first u s l).1 = 0 ∧ (addR fr many first u s l).2.2.left = -1 := by
  obtain ⟨_, q2, q3⟩ := addF_zero hf
  have hus := h.us
  have hfit := h.fit
  have hsz := secs_size (n := first + u) q3
  have hdl := deedSecs_len (first + u) l
  unfold addR
  rw [if_neg (by rw [hf]; decide)]
  refine never_run s.now.length _ s h.down hl rfl fun o ho a d e => ?_
  generalize deedSecs (first + u) l = secs at *
  have hem : emptyB.size ≤ 96 := by decide
  unfold addOps addSteps at ho
  simp only [List.flatten_cons, List.flatten_nil, List.append_nil, List.mem_append, List.mem_singleton] at ho
  rcases ho with rfl | rfl | ho | ho | rfl | rfl | rfl
  · cases e; exact ⟨by omega, hem⟩
  · cases e
  · obtain ⟨p1, p2, p3⟩ := rest_mem _ _ o ho a d e
    rw [List.length_tail] at p2
    exact ⟨by omega, hsz d (List.mem_of_mem_tail p3)⟩
  · split at ho
    · exact absurd ho List.not_mem_nil
    · rw [List.mem_singleton] at ho
      rw [ho] at e
      cases e
      exact ⟨by omega, hem⟩
  · cases e
  · cases e
    refine ⟨by omega, ?_⟩
    cases secs with
    | nil => simp at hdl
    | cons t0 tl => exact hsz t0 (List.mem_cons_self ..)
  · cases e
end
end Go.Proofs.YtkfpfbkdalbjoaaGreat
