/-
  What adding.run returns and leaves.
-/
import Derived.Test.YtkfpfbkdalbjoaaLogWrite
import Derived.Test.YtkfpfbkdalbjoaaDskFlush
namespace Go.Proofs.Ytkfpfbkdalbjoaa
open Go.RowKit Go.Joins
attribute [local go_sem ↓] Go.wp_at_zero Go.wp_at_succ

section
variable {w w' : World} {B lb db : Nat} {S : Nat → Prop} {fr many first used sb cap : Nat} {secs : List ByteArray} {s s' : DSt}
theorem aflush_any (w : World) (h : AddI w B lb db S fr many first used sb cap secs s) : Calls Try.prog 18 #[.pointer (some ⟨db, 0, none⟩)] w fun e w' => e = .returned (errV (runD [.fl] s).1) ∧ ActD w w' B db S (runD [.fl] s).2 := by
  rw [runD_one]
  exact dflush_any w h.dk
set_option maxRecDepth 8000 in
set_option maxHeartbeats 8000000 in
theorem arun_any (w : World) (h : AddI w B lb db S fr many first used sb cap secs s) :
    Calls Try.prog 56 #[.agg #[.pointer (some ⟨lb, 0, none⟩), .slice (some ⟨sb, 0, none⟩) secs.length cap]] w fun e w' => e = .returned (errV (runD (addOps (fr + used) secs (many - used)) s).1) ∧ ActD w w' B db S (runD (addOps (fr + used) secs (many - used)) s).2 := by
  obtain ⟨h2, hst, hnw⟩ := h.box
  have hmany := h.dk.many
  have hfit := h.fit
  have hpos := h.pos
  have a0 : (w.alloc (Obj.cells #[.pointer (some ⟨lb, 0, none⟩), .slice (some ⟨sb, 0, none⟩) secs.length cap] 111)).cell? ⟨w.heap.size, 0, none⟩ = some (.pointer (some ⟨lb, 0, none⟩)) := cell_new _ _ _ 0
  have a1 : (w.alloc (Obj.cells #[.pointer (some ⟨lb, 0, none⟩), .slice (some ⟨sb, 0, none⟩) secs.length cap] 111)).cell? ⟨w.heap.size, 1, none⟩ = some (.slice (some ⟨sb, 0, none⟩) secs.length cap) := cell_new _ _ _ 1
  have c0 := h2.hd.c0
  have HST := hide hst
  have HNW := hide hnw
  have H2 := hide h2
  clear h h2 hst hnw
  generalize hW : w.alloc (Obj.cells #[.pointer (some ⟨lb, 0, none⟩), .slice (some ⟨sb, 0, none⟩) secs.length cap] 111) = W at *
  have HF : Hid (∀ i (hi : i < 7), (W.alloc (Obj.cells #[Value.func (Fn.func 74) #[Value.agg #[.pointer (some ⟨lb, 0, none⟩), .slice (some ⟨sb, 0, none⟩) secs.length cap]] #[], Value.func (Fn.func 18) #[Value.pointer (some ⟨db, 0, none⟩)] #[], Value.func (Fn.func 75) #[Value.agg #[.pointer (some ⟨lb, 0, none⟩), .slice (some ⟨sb, 0, none⟩) secs.length cap]] #[], Value.func (Fn.func 76) #[Value.agg #[.pointer (some ⟨lb, 0, none⟩), .slice (some ⟨sb, 0, none⟩) secs.length cap]] #[], Value.func (Fn.func 18) #[Value.pointer (some ⟨db, 0, none⟩)] #[], Value.func (Fn.func 77) #[Value.agg #[.pointer (some ⟨lb, 0, none⟩), .slice (some ⟨sb, 0, none⟩) secs.length cap]] #[], Value.func (Fn.func 18) #[Value.pointer (some ⟨db, 0, none⟩)] #[]] 46)).cell? ⟨W.heap.size, i, none⟩ = some ((#[Value.func (Fn.func 74) #[Value.agg #[.pointer (some ⟨lb, 0, none⟩), .slice (some ⟨sb, 0, none⟩) secs.length cap]] #[], Value.func (Fn.func 18) #[Value.pointer (some ⟨db, 0, none⟩)] #[], Value.func (Fn.func 75) #[Value.agg #[.pointer (some ⟨lb, 0, none⟩), .slice (some ⟨sb, 0, none⟩) secs.length cap]] #[], Value.func (Fn.func 76) #[Value.agg #[.pointer (some ⟨lb, 0, none⟩), .slice (some ⟨sb, 0, none⟩) secs.length cap]] #[], Value.func (Fn.func 18) #[Value.pointer (some ⟨db, 0, none⟩)] #[], Value.func (Fn.func 77) #[Value.agg #[.pointer (some ⟨lb, 0, none⟩), .slice (some ⟨sb, 0, none⟩) secs.length cap]] #[], Value.func (Fn.func 18) #[Value.pointer (some ⟨db, 0, none⟩)] #[]] : Array Value)[i]'hi)) := fun i hi => by
    rw [cell_new]
    exact Array.getElem?_eq_getElem hi
  have HWB := hide (below_alloc1 W (Obj.cells #[Value.func (Fn.func 74) #[Value.agg #[.pointer (some ⟨lb, 0, none⟩), .slice (some ⟨sb, 0, none⟩) secs.length cap]] #[], Value.func (Fn.func 18) #[Value.pointer (some ⟨db, 0, none⟩)] #[], Value.func (Fn.func 75) #[Value.agg #[.pointer (some ⟨lb, 0, none⟩), .slice (some ⟨sb, 0, none⟩) secs.length cap]] #[], Value.func (Fn.func 76) #[Value.agg #[.pointer (some ⟨lb, 0, none⟩), .slice (some ⟨sb, 0, none⟩) secs.length cap]] #[], Value.func (Fn.func 18) #[Value.pointer (some ⟨db, 0, none⟩)] #[], Value.func (Fn.func 77) #[Value.agg #[.pointer (some ⟨lb, 0, none⟩), .slice (some ⟨sb, 0, none⟩) secs.length cap]] #[], Value.func (Fn.func 18) #[Value.pointer (some ⟨db, 0, none⟩)] #[]] 46))
  have HFN : Hid (¬ S W.heap.size) := fun e => by have := H2.out.dk.lt e; omega
  have HFL : Hid (W.heap.size < (W.alloc (Obj.cells #[Value.func (Fn.func 74) #[Value.agg #[.pointer (some ⟨lb, 0, none⟩), .slice (some ⟨sb, 0, none⟩) secs.length cap]] #[], Value.func (Fn.func 18) #[Value.pointer (some ⟨db, 0, none⟩)] #[], Value.func (Fn.func 75) #[Value.agg #[.pointer (some ⟨lb, 0, none⟩), .slice (some ⟨sb, 0, none⟩) secs.length cap]] #[], Value.func (Fn.func 76) #[Value.agg #[.pointer (some ⟨lb, 0, none⟩), .slice (some ⟨sb, 0, none⟩) secs.length cap]] #[], Value.func (Fn.func 18) #[Value.pointer (some ⟨db, 0, none⟩)] #[], Value.func (Fn.func 77) #[Value.agg #[.pointer (some ⟨lb, 0, none⟩), .slice (some ⟨sb, 0, none⟩) secs.length cap]] #[], Value.func (Fn.func 18) #[Value.pointer (some ⟨db, 0, none⟩)] #[]] 46)).heap.size) := hide (by simp)
  have HRES0 : Hid (∃ res, runD (addOps (fr + used) secs (many - used)) s = res) := ⟨_, rfl⟩
  obtain ⟨res, hres⟩ := HRES0.out
  rw [hres]
  have HRES := hide hres
  clear hres HRES0
  have HSS : Hid (StepV w (W.alloc (Obj.cells #[Value.func (Fn.func 74) #[Value.agg #[.pointer (some ⟨lb, 0, none⟩), .slice (some ⟨sb, 0, none⟩) secs.length cap]] #[], Value.func (Fn.func 18) #[Value.pointer (some ⟨db, 0, none⟩)] #[], Value.func (Fn.func 75) #[Value.agg #[.pointer (some ⟨lb, 0, none⟩), .slice (some ⟨sb, 0, none⟩) secs.length cap]] #[], Value.func (Fn.func 76) #[Value.agg #[.pointer (some ⟨lb, 0, none⟩), .slice (some ⟨sb, 0, none⟩) secs.length cap]] #[], Value.func (Fn.func 18) #[Value.pointer (some ⟨db, 0, none⟩)] #[], Value.func (Fn.func 77) #[Value.agg #[.pointer (some ⟨lb, 0, none⟩), .slice (some ⟨sb, 0, none⟩) secs.length cap]] #[], Value.func (Fn.func 18) #[Value.pointer (some ⟨db, 0, none⟩)] #[]] 46)) B S S) := HST.out.trans (.on H2.out.dk.lo HWB.out)
  have H3 := hide (H2.out.on HWB.out)
  generalize hfb : W.heap.size = fb at *
  have HFB := hide hfb
  go_enter Try.func56, Try.ntmps56
  go_wp2
  generalize (W.alloc (Obj.cells #[Value.func (Fn.func 74) #[Value.agg #[.pointer (some ⟨lb, 0, none⟩), .slice (some ⟨sb, 0, none⟩) secs.length cap]] #[], Value.func (Fn.func 18) #[Value.pointer (some ⟨db, 0, none⟩)] #[], Value.func (Fn.func 75) #[Value.agg #[.pointer (some ⟨lb, 0, none⟩), .slice (some ⟨sb, 0, none⟩) secs.length cap]] #[], Value.func (Fn.func 76) #[Value.agg #[.pointer (some ⟨lb, 0, none⟩), .slice (some ⟨sb, 0, none⟩) secs.length cap]] #[], Value.func (Fn.func 18) #[Value.pointer (some ⟨db, 0, none⟩)] #[], Value.func (Fn.func 77) #[Value.agg #[.pointer (some ⟨lb, 0, none⟩), .slice (some ⟨sb, 0, none⟩) secs.length cap]] #[], Value.func (Fn.func 18) #[Value.pointer (some ⟨db, 0, none⟩)] #[]] 46)) = W2 at *
  clear hfb
  go_loopw [26] (fun iv wr => ∃ (i : Nat) (S' : Nat → Prop) (s' : DSt), i ≤ 7 ∧ iv = .int .i64 (i : Int) ∧ AddI wr B lb db S' fr many first used sb cap secs s' ∧ StepV W2 wr B S S' ∧ runD ((addSteps (fr + used) secs (many - used)).drop i).flatten s' = res) (fun iv _ => 7 - (intOf iv).toNat)
  case atStart => exact ⟨0, S, s, Nat.zero_le _, rfl, H3.out, .refl H3.out.dk.lo, HRES.out⟩
  case round =>
    obtain ⟨i, S', s', hi, rfl, hA, hV, hr⟩ := hrel
    have fW := hV.far fb HFL.out HFN.out
    have HA := hide hA
    have HV := hide hV
    have HR := hide hr
    clear hA hV hr
    by_cases hlt : i < 7
    · have ca := (World.cell?_of_block (a := ⟨fb, i, none⟩) fW.1).trans (HF.out i hlt)
      clear fW
      rcases (show i = 0 ∨ i = 1 ∨ i = 2 ∨ i = 3 ∨ i = 4 ∨ i = 5 ∨ i = 6 by omega) with rfl | rfl | rfl | rfl | rfl | rfl | rfl
      · have hR2 := HR.out
        have eS : ((addSteps (fr + used) secs (many - used)).drop 0).flatten = [.wr (fr + used) emptyB] ++ ((addSteps (fr + used) secs (many - used)).drop 1).flatten := rfl
        rw [eS] at hR2
        have HC : Hid (Calls Try.prog 74 #[.agg #[.pointer (some ⟨lb, 0, none⟩), .slice (some ⟨sb, 0, none⟩) secs.length cap]] wr fun e w' => e = .returned (errV (runD ([.wr (fr + used) emptyB]) s').1) ∧ ActD wr w' B db S' (runD ([.wr (fr + used) emptyB]) s').2) := (by have h := HA.out; exact acut_any _ h)
        have HLN := hide (runD_len ([.wr (fr + used) emptyB]) s')
        have ca' : wr.cell? ⟨fb, 0, none⟩ = some (Value.func (Fn.func 74) #[Value.agg #[.pointer (some ⟨lb, 0, none⟩), .slice (some ⟨sb, 0, none⟩) secs.length cap]] #[]) := ca
        clear ca eS
        by_cases hf : (runD ([.wr (fr + used) emptyB]) s').1 = 0
        · have HR3 := hide (hR2.symm.trans (runD_good hf)).symm
          rw [hf, errD_nil] at HC
          clear hf hR2 HR
          generalize (runD ([.wr (fr + used) emptyB]) s').2 = s2 at *
          go_wp2_with (go_at_call 74; refine HC.out.mono ?_; rintro e w7 ⟨rfl, ha7⟩; have HA7 := hide ha7; clear ha7)
          obtain ⟨S8, hk8, hs8⟩ := HA7.out
          exact ⟨⟨1, S8, s2, by omega, rfl, HA.out.step hk8 hs8 HLN.out, HV.out.trans hs8, HR3.out⟩, by simp [intOf]⟩
        · have HR3 := hide (hR2.symm.trans (runD_stop hf)).symm
          rw [errD_pos hf] at HC
          have HFF := hide hf
          clear hf hR2 HR
          generalize runD ([.wr (fr + used) emptyB]) s' = r2 at *
          go_wp2_with (go_at_call 74; refine HC.out.mono ?_; rintro e w7 ⟨rfl, ha7⟩; have HA7 := hide ha7; clear ha7)
          go_ret
          rw [← HR3.out]
          exact ⟨by show _ = Ending.returned (errV r2.1); rw [errD_pos HFF.out]; rfl, ActD.after HSS.out (ActD.after HV.out HA7.out)⟩
      · have hR2 := HR.out
        have eS : ((addSteps (fr + used) secs (many - used)).drop 1).flatten = [.fl] ++ ((addSteps (fr + used) secs (many - used)).drop 2).flatten := rfl
        rw [eS] at hR2
        have HC : Hid (Calls Try.prog 18 #[.pointer (some ⟨db, 0, none⟩)] wr fun e w' => e = .returned (errV (runD ([.fl]) s').1) ∧ ActD wr w' B db S' (runD ([.fl]) s').2) := (by have h := HA.out; exact aflush_any _ h)
        have HLN := hide (runD_len ([.fl]) s')
        have ca' : wr.cell? ⟨fb, 1, none⟩ = some (Value.func (Fn.func 18) #[Value.pointer (some ⟨db, 0, none⟩)] #[]) := ca
        clear ca eS
        by_cases hf : (runD ([.fl]) s').1 = 0
        · have HR3 := hide (hR2.symm.trans (runD_good hf)).symm
          rw [hf, errD_nil] at HC
          clear hf hR2 HR
          generalize (runD ([.fl]) s').2 = s2 at *
          go_wp2_with (go_at_call 18; refine HC.out.mono ?_; rintro e w7 ⟨rfl, ha7⟩; have HA7 := hide ha7; clear ha7)
          obtain ⟨S8, hk8, hs8⟩ := HA7.out
          exact ⟨⟨2, S8, s2, by omega, rfl, HA.out.step hk8 hs8 HLN.out, HV.out.trans hs8, HR3.out⟩, by simp [intOf]⟩
        · have HR3 := hide (hR2.symm.trans (runD_stop hf)).symm
          rw [errD_pos hf] at HC
          have HFF := hide hf
          clear hf hR2 HR
          generalize runD ([.fl]) s' = r2 at *
          go_wp2_with (go_at_call 18; refine HC.out.mono ?_; rintro e w7 ⟨rfl, ha7⟩; have HA7 := hide ha7; clear ha7)
          go_ret
          rw [← HR3.out]
          exact ⟨by show _ = Ending.returned (errV r2.1); rw [errD_pos HFF.out]; rfl, ActD.after HSS.out (ActD.after HV.out HA7.out)⟩
      · have hR2 := HR.out
        have eS : ((addSteps (fr + used) secs (many - used)).drop 2).flatten = restFrom (fr + used + 1) secs.tail ++ ((addSteps (fr + used) secs (many - used)).drop 3).flatten := rfl
        rw [eS] at hR2
        have HC : Hid (Calls Try.prog 75 #[.agg #[.pointer (some ⟨lb, 0, none⟩), .slice (some ⟨sb, 0, none⟩) secs.length cap]] wr fun e w' => e = .returned (errV (runD (restFrom (fr + used + 1) secs.tail) s').1) ∧ ActD wr w' B db S' (runD (restFrom (fr + used + 1) secs.tail) s').2) := (by have h := HA.out; exact arest_any _ h)
        have HLN := hide (runD_len (restFrom (fr + used + 1) secs.tail) s')
        have ca' : wr.cell? ⟨fb, 2, none⟩ = some (Value.func (Fn.func 75) #[Value.agg #[.pointer (some ⟨lb, 0, none⟩), .slice (some ⟨sb, 0, none⟩) secs.length cap]] #[]) := ca
        clear ca eS
        by_cases hf : (runD (restFrom (fr + used + 1) secs.tail) s').1 = 0
        · have HR3 := hide (hR2.symm.trans (runD_good hf)).symm
          rw [hf, errD_nil] at HC
          clear hf hR2 HR
          generalize (runD (restFrom (fr + used + 1) secs.tail) s').2 = s2 at *
          go_wp2_with (go_at_call 75; refine HC.out.mono ?_; rintro e w7 ⟨rfl, ha7⟩; have HA7 := hide ha7; clear ha7)
          obtain ⟨S8, hk8, hs8⟩ := HA7.out
          exact ⟨⟨3, S8, s2, by omega, rfl, HA.out.step hk8 hs8 HLN.out, HV.out.trans hs8, HR3.out⟩, by simp [intOf]⟩
        · have HR3 := hide (hR2.symm.trans (runD_stop hf)).symm
          rw [errD_pos hf] at HC
          have HFF := hide hf
          clear hf hR2 HR
          generalize runD (restFrom (fr + used + 1) secs.tail) s' = r2 at *
          go_wp2_with (go_at_call 75; refine HC.out.mono ?_; rintro e w7 ⟨rfl, ha7⟩; have HA7 := hide ha7; clear ha7)
          go_ret
          rw [← HR3.out]
          exact ⟨by show _ = Ending.returned (errV r2.1); rw [errD_pos HFF.out]; rfl, ActD.after HSS.out (ActD.after HV.out HA7.out)⟩
      · have hR2 := HR.out
        have eS : ((addSteps (fr + used) secs (many - used)).drop 3).flatten = (if secs.length = many - used then [] else [.wr (fr + used + secs.length) emptyB]) ++ ((addSteps (fr + used) secs (many - used)).drop 4).flatten := rfl
        rw [eS] at hR2
        have HC : Hid (Calls Try.prog 76 #[.agg #[.pointer (some ⟨lb, 0, none⟩), .slice (some ⟨sb, 0, none⟩) secs.length cap]] wr fun e w' => e = .returned (errV (runD ((if secs.length = many - used then [] else [.wr (fr + used + secs.length) emptyB])) s').1) ∧ ActD wr w' B db S' (runD ((if secs.length = many - used then [] else [.wr (fr + used + secs.length) emptyB])) s').2) := (by have h := HA.out; exact aend_any _ h)
        have HLN := hide (runD_len ((if secs.length = many - used then [] else [.wr (fr + used + secs.length) emptyB])) s')
        have ca' : wr.cell? ⟨fb, 3, none⟩ = some (Value.func (Fn.func 76) #[Value.agg #[.pointer (some ⟨lb, 0, none⟩), .slice (some ⟨sb, 0, none⟩) secs.length cap]] #[]) := ca
        clear ca eS
        by_cases hf : (runD ((if secs.length = many - used then [] else [.wr (fr + used + secs.length) emptyB])) s').1 = 0
        · have HR3 := hide (hR2.symm.trans (runD_good hf)).symm
          rw [hf, errD_nil] at HC
          clear hf hR2 HR
          generalize (runD ((if secs.length = many - used then [] else [.wr (fr + used + secs.length) emptyB])) s').2 = s2 at *
          go_wp2_with (go_at_call 76; refine HC.out.mono ?_; rintro e w7 ⟨rfl, ha7⟩; have HA7 := hide ha7; clear ha7)
          obtain ⟨S8, hk8, hs8⟩ := HA7.out
          exact ⟨⟨4, S8, s2, by omega, rfl, HA.out.step hk8 hs8 HLN.out, HV.out.trans hs8, HR3.out⟩, by simp [intOf]⟩
        · have HR3 := hide (hR2.symm.trans (runD_stop hf)).symm
          rw [errD_pos hf] at HC
          have HFF := hide hf
          clear hf hR2 HR
          generalize runD ((if secs.length = many - used then [] else [.wr (fr + used + secs.length) emptyB])) s' = r2 at *
          go_wp2_with (go_at_call 76; refine HC.out.mono ?_; rintro e w7 ⟨rfl, ha7⟩; have HA7 := hide ha7; clear ha7)
          go_ret
          rw [← HR3.out]
          exact ⟨by show _ = Ending.returned (errV r2.1); rw [errD_pos HFF.out]; rfl, ActD.after HSS.out (ActD.after HV.out HA7.out)⟩
      · have hR2 := HR.out
        have eS : ((addSteps (fr + used) secs (many - used)).drop 4).flatten = [.fl] ++ ((addSteps (fr + used) secs (many - used)).drop 5).flatten := rfl
        rw [eS] at hR2
        have HC : Hid (Calls Try.prog 18 #[.pointer (some ⟨db, 0, none⟩)] wr fun e w' => e = .returned (errV (runD ([.fl]) s').1) ∧ ActD wr w' B db S' (runD ([.fl]) s').2) := (by have h := HA.out; exact aflush_any _ h)
        have HLN := hide (runD_len ([.fl]) s')
        have ca' : wr.cell? ⟨fb, 4, none⟩ = some (Value.func (Fn.func 18) #[Value.pointer (some ⟨db, 0, none⟩)] #[]) := ca
        clear ca eS
        by_cases hf : (runD ([.fl]) s').1 = 0
        · have HR3 := hide (hR2.symm.trans (runD_good hf)).symm
          rw [hf, errD_nil] at HC
          clear hf hR2 HR
          generalize (runD ([.fl]) s').2 = s2 at *
          go_wp2_with (go_at_call 18; refine HC.out.mono ?_; rintro e w7 ⟨rfl, ha7⟩; have HA7 := hide ha7; clear ha7)
          obtain ⟨S8, hk8, hs8⟩ := HA7.out
          exact ⟨⟨5, S8, s2, by omega, rfl, HA.out.step hk8 hs8 HLN.out, HV.out.trans hs8, HR3.out⟩, by simp [intOf]⟩
        · have HR3 := hide (hR2.symm.trans (runD_stop hf)).symm
          rw [errD_pos hf] at HC
          have HFF := hide hf
          clear hf hR2 HR
          generalize runD ([.fl]) s' = r2 at *
          go_wp2_with (go_at_call 18; refine HC.out.mono ?_; rintro e w7 ⟨rfl, ha7⟩; have HA7 := hide ha7; clear ha7)
          go_ret
          rw [← HR3.out]
          exact ⟨by show _ = Ending.returned (errV r2.1); rw [errD_pos HFF.out]; rfl, ActD.after HSS.out (ActD.after HV.out HA7.out)⟩
      · have hR2 := HR.out
        have eS : ((addSteps (fr + used) secs (many - used)).drop 5).flatten = [.wr (fr + used) (secs.headD emptyB)] ++ ((addSteps (fr + used) secs (many - used)).drop 6).flatten := rfl
        rw [eS] at hR2
        have HC : Hid (Calls Try.prog 77 #[.agg #[.pointer (some ⟨lb, 0, none⟩), .slice (some ⟨sb, 0, none⟩) secs.length cap]] wr fun e w' => e = .returned (errV (runD ([.wr (fr + used) (secs.headD emptyB)]) s').1) ∧ ActD wr w' B db S' (runD ([.wr (fr + used) (secs.headD emptyB)]) s').2) := (by have h := HA.out; exact afirst_any _ h)
        have HLN := hide (runD_len ([.wr (fr + used) (secs.headD emptyB)]) s')
        have ca' : wr.cell? ⟨fb, 5, none⟩ = some (Value.func (Fn.func 77) #[Value.agg #[.pointer (some ⟨lb, 0, none⟩), .slice (some ⟨sb, 0, none⟩) secs.length cap]] #[]) := ca
        clear ca eS
        by_cases hf : (runD ([.wr (fr + used) (secs.headD emptyB)]) s').1 = 0
        · have HR3 := hide (hR2.symm.trans (runD_good hf)).symm
          rw [hf, errD_nil] at HC
          clear hf hR2 HR
          generalize (runD ([.wr (fr + used) (secs.headD emptyB)]) s').2 = s2 at *
          go_wp2_with (go_at_call 77; refine HC.out.mono ?_; rintro e w7 ⟨rfl, ha7⟩; have HA7 := hide ha7; clear ha7)
          obtain ⟨S8, hk8, hs8⟩ := HA7.out
          exact ⟨⟨6, S8, s2, by omega, rfl, HA.out.step hk8 hs8 HLN.out, HV.out.trans hs8, HR3.out⟩, by simp [intOf]⟩
        · have HR3 := hide (hR2.symm.trans (runD_stop hf)).symm
          rw [errD_pos hf] at HC
          have HFF := hide hf
          clear hf hR2 HR
          generalize runD ([.wr (fr + used) (secs.headD emptyB)]) s' = r2 at *
          go_wp2_with (go_at_call 77; refine HC.out.mono ?_; rintro e w7 ⟨rfl, ha7⟩; have HA7 := hide ha7; clear ha7)
          go_ret
          rw [← HR3.out]
          exact ⟨by show _ = Ending.returned (errV r2.1); rw [errD_pos HFF.out]; rfl, ActD.after HSS.out (ActD.after HV.out HA7.out)⟩
      · have hR2 := HR.out
        have eS : ((addSteps (fr + used) secs (many - used)).drop 6).flatten = [.fl] ++ ((addSteps (fr + used) secs (many - used)).drop 7).flatten := rfl
        rw [eS] at hR2
        have HC : Hid (Calls Try.prog 18 #[.pointer (some ⟨db, 0, none⟩)] wr fun e w' => e = .returned (errV (runD ([.fl]) s').1) ∧ ActD wr w' B db S' (runD ([.fl]) s').2) := (by have h := HA.out; exact aflush_any _ h)
        have HLN := hide (runD_len ([.fl]) s')
        have ca' : wr.cell? ⟨fb, 6, none⟩ = some (Value.func (Fn.func 18) #[Value.pointer (some ⟨db, 0, none⟩)] #[]) := ca
        clear ca eS
        by_cases hf : (runD ([.fl]) s').1 = 0
        · have HR3 := hide (hR2.symm.trans (runD_good hf)).symm
          rw [hf, errD_nil] at HC
          clear hf hR2 HR
          generalize (runD ([.fl]) s').2 = s2 at *
          go_wp2_with (go_at_call 18; refine HC.out.mono ?_; rintro e w7 ⟨rfl, ha7⟩; have HA7 := hide ha7; clear ha7)
          obtain ⟨S8, hk8, hs8⟩ := HA7.out
          exact ⟨⟨7, S8, s2, by omega, rfl, HA.out.step hk8 hs8 HLN.out, HV.out.trans hs8, HR3.out⟩, by simp [intOf]⟩
        · have HR3 := hide (hR2.symm.trans (runD_stop hf)).symm
          rw [errD_pos hf] at HC
          have HFF := hide hf
          clear hf hR2 HR
          generalize runD ([.fl]) s' = r2 at *
          go_wp2_with (go_at_call 18; refine HC.out.mono ?_; rintro e w7 ⟨rfl, ha7⟩; have HA7 := hide ha7; clear ha7)
          go_ret
          rw [← HR3.out]
          exact ⟨by show _ = Ending.returned (errV r2.1); rw [errD_pos HFF.out]; rfl, ActD.after HSS.out (ActD.after HV.out HA7.out)⟩
    · have ei : i = 7 := by omega
      subst ei
      have hR2 : (0, s') = res := HR.out
      have HR2 := hide hR2
      clear hR2 HR fW
      go_wp2
      go_ret
      rw [← HR2.out]
      exact ⟨rfl, S', HA.out.dk, HSS.out.trans HV.out⟩
end
end Go.Proofs.Ytkfpfbkdalbjoaa
