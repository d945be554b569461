/-
  What queue.Messages returns, of every view.
-/
import Derived.Test.YtighpalbodhfeaaGreatDoorQueTakeL
import Derived.Test.YtighpalbodhfeaaGreatDoorQueOwn
import Derived.Test.YtighpalbodhfeaaGreatDoorQueAdd
import Derived.Test.YtighpalbodhfeaaGreatDoorQueMem
namespace Go.Proofs.YtighpalbodhfeaaGreatDoor
open Go.RowKit Go.Joins Go.Shelf Go.WideShapes
attribute [local go_sem ↓] Go.wp_at_zero Go.wp_at_succ

def cellM (m : Msg) : List Value := [.int .i64 m.1, .int .i64 m.2.1, .int .i64 m.2.2.1, .string m.2.2.2.1]
theorem cellM_one (m : Msg) : ∀ u ∈ cellM m, u.oneCell' = true := by
  intro u hu
  simp only [cellM, List.mem_cons, List.not_mem_nil, or_false] at hu
  rcases hu with rfl | rfl | rfl | rfl <;> rfl
def ownM (w : World) (B : Nat) (v : Value) (l : List Msg) : Prop := w.ownsRow B 48 4 v l.length (l.flatMap cellM)
theorem msg_info : (Tryz.prog.info? 48).map (fun i => (i.zero, i.size, i.bytes)) = some (some (.agg #[.int .i64 0, .int .i64 0, .int .i64 0, .string ⟨#[]⟩]), 4, 40) := by kernel_rfl
theorem ownM_snoc {w : World} {B : Nat} {v : Value} {l : List Msg} {m : Msg} (h : w.ownsRow B 48 4 v (l.length + 1) (l.flatMap cellM ++ cellM m)) : ownM w B v (l ++ [m]) := by
  unfold ownM
  rw [List.flatMap_append, List.length_append]
  simpa using h
/-- messages in memory that is none of the view's -/
def MsgsQ (w w' : World) (v : Value) (B wb : Nat) (S : Nat → Prop) (P : Rws) (since : Int) (chs : List Chg) (rds : Rws) (l : List Msg) : Prop :=
  ∃ S', ownM w' w.heap.size v l ∧ QV w' B wb S' P since chs rds ∧ StepV w w' B S S' ∧ ∀ k, v.ownBlock = some k → ¬ S' k
def MsgsE (w w' : World) (e : Ending) (B wb : Nat) (S : Nat → Prop) (P : Rws) (since : Int) (chs : List Chg) (r : Nat × List Msg × Rws) : Prop :=
  (r.1 = 0 → ∃ v, e = .returned (.tuple #[v, .nilIface]) ∧ MsgsQ w w' v B wb S P since chs r.2.2 r.2.1) ∧ (r.1 ≠ 0 → e = .returned (.tuple #[.slice none 0 0, errV r.1]) ∧ ActQ w w' B wb S P since chs r.2.2)
theorem MsgsE.bad {w w' : World} {B wb : Nat} {S : Nat → Prop} {P : Rws} {since : Int} {chs : List Chg} {f : Nat} {l : List Msg} {rds : Rws} {ev : Value} (hf : f ≠ 0) (he : ev = errV f) (ha : ActQ w w' B wb S P since chs rds) : MsgsE w w' (.returned (.tuple #[.slice none 0 0, ev])) B wb S P since chs (f, l, rds) :=
  ⟨fun h => absurd h hf, fun _ => ⟨by rw [he], ha⟩⟩
theorem msgsF_take {l : Rws} {k : Nat} (hk : k < l.length) (h : msgsF (l.take k) = 0) : msgsF (l.take (k + 1)) = (mOf l[k].2 (numK l[k].1)).2.2.2.2 := by
  induction l generalizing k with
  | nil => cases hk
  | cons r l ih =>
    cases k with
    | zero =>
      show (if (mOf r.2 (numK r.1)).2.2.2.2 = 0 then 0 else (mOf r.2 (numK r.1)).2.2.2.2) = _
      split
      · rename_i e; exact e.symm
      · rfl
    | succ k =>
      have h' : (if (mOf r.2 (numK r.1)).2.2.2.2 = 0 then msgsF (l.take k) else (mOf r.2 (numK r.1)).2.2.2.2) = 0 := h
      show (if (mOf r.2 (numK r.1)).2.2.2.2 = 0 then msgsF (l.take (k + 1)) else (mOf r.2 (numK r.1)).2.2.2.2) = _
      split at h'
      · rename_i e
        rw [if_pos e]
        exact ih (by simpa using hk) h'
      · rename_i e; exact absurd h' e
theorem msgsF_first {l : Rws} {k : Nat} (hk : k < l.length) (h : msgsF (l.take k) = 0) (hb : (mOf l[k].2 (numK l[k].1)).2.2.2.2 ≠ 0) : msgsF l = (mOf l[k].2 (numK l[k].1)).2.2.2.2 := by
  induction l generalizing k with
  | nil => cases hk
  | cons r l ih =>
    cases k with
    | zero => show (if (mOf r.2 (numK r.1)).2.2.2.2 = 0 then msgsF l else (mOf r.2 (numK r.1)).2.2.2.2) = _; rw [if_neg (by simpa using hb)]; rfl
    | succ k =>
      have h' : (if (mOf r.2 (numK r.1)).2.2.2.2 = 0 then msgsF (l.take k) else (mOf r.2 (numK r.1)).2.2.2.2) = 0 := h
      show (if (mOf r.2 (numK r.1)).2.2.2.2 = 0 then msgsF l else (mOf r.2 (numK r.1)).2.2.2.2) = _
      split at h'
      · rename_i e
        rw [if_pos e]
        exact ih (by simpa using hk) h' (by simpa using hb)
      · rename_i e; exact absurd h' e
theorem msgsL_take {l : Rws} {k : Nat} (hk : k < l.length) : msgsL (l.take (k + 1)) = msgsL (l.take k) ++ [mOf l[k].2 (numK l[k].1)] := by
  unfold msgsL
  rw [List.take_succ_eq_append_getElem hk, List.map_append]; rfl
theorem MsgsE.good {w w' : World} {B wb : Nat} {S S' : Nat → Prop} {P : Rws} {since : Int} {chs : List Chg} {l : Rws} {rds : Rws} {v : Value} (hf : msgsF l = 0) (ho : ownM w' w.heap.size v (msgsL l)) (hq : QV w' B wb S' P since chs rds) (hs : StepV w w' B S S') (hn : ∀ k, v.ownBlock = some k → ¬ S' k) : MsgsE w w' (.returned (.tuple #[v, .nilIface])) B wb S P since chs (if msgsF l = 0 then (0, msgsL l, rds) else (msgsF l, [], rds)) := by
  rw [if_pos hf]
  exact ⟨fun _ => ⟨v, rfl, S', ho, hq, hs, hn⟩, fun h => absurd rfl h⟩
theorem MsgsE.worse {w w' : World} {B wb : Nat} {S : Nat → Prop} {P : Rws} {since : Int} {chs : List Chg} {f : Nat} {l : Rws} {rds : Rws} {ev : Value} (hl : msgsF l = f) (hf : f ≠ 0) (he : ev = errV f) (ha : ActQ w w' B wb S P since chs rds) : MsgsE w w' (.returned (.tuple #[.slice none 0 0, ev])) B wb S P since chs (if msgsF l = 0 then (0, msgsL l, rds) else (msgsF l, [], rds)) := by
  rw [if_neg (by rw [hl]; exact hf), hl]
  exact .bad hf he ha
set_option maxRecDepth 8000 in
set_option maxHeartbeats 8000000 in
theorem qmessages_any (name : ByteArray) {B wb : Nat} {S : Nat → Prop} {P : Rws} {since : Int} {chs : List Chg} {rds : Rws} (w : World) (h : QV w B wb S P since chs rds) (hn : name.size ≤ 1000) :
    Calls Tryz.prog 36 #[.pointer (some ⟨wb, 0, none⟩), .string name] w fun e w' => MsgsE w w' e B wb S P since chs (messagesQ P chs rds name) := by
  have n1 := err_neq_nil 108
  obtain ⟨i0, hi0, hz0, hs0, hb0⟩ := info_parts msg_info
  have HLO := hide h.pv.lo
  have HF := hide (qfind_any name w h hn)
  have HQ := hide h
  have HFN : Hid ((findQ P chs rds name).2.2.2 = 0 → nameL name.data.toList = true) := hide (fun he => by unfold findQ at he; split at he; assumption; cases he)
  unfold messagesQ
  generalize findQ P chs rds name = q at *
  generalize findL chs rds name = rds1 at *
  obtain ⟨qx, qy, qd, er⟩ := q
  dsimp only at HF HFN ⊢
  by_cases h1 : er = 0
  · subst h1
    rw [if_pos rfl]
    have hnm := HFN.out rfl
    have HE1 := hide errV_zero
    have HLF : Hid (∀ r ∈ (seenP P chs (fromB name, toB name)).take 53, ∃ n, n ≤ 999999 ∧ r.1 = msgB name n ∧ r.2.size ≤ 40) := hide (fun r hr => by
      have hm := List.mem_of_mem_take hr
      obtain ⟨a1, a2⟩ := seenQ_in HQ.out.ok (fromB name, toB name) r hm
      obtain ⟨n, hn', e⟩ := key_in hnm a1 (seenP_has HQ.out.pv.ok.rise hm)
      exact ⟨n, hn', e, a2⟩)
    have hl53 : ((seenP P chs (fromB name, toB name)).take 53).length ≤ 53 := by rw [List.length_take]; omega
    clear HFN h
    by_cases hsf : scanF (seenP P chs (fromB name, toB name)) rds1 (fromB name, toB name) 53 = 0
    · rw [if_pos hsf]
      have HSC := hide (fun (S1 : Nat → Prop) (W : World) (hW : QV W B wb S1 P since chs rds1) => qscan_ok (fromB name, toB name) 53 W hW (by omega) hsf)
      rw [show ((53 : Int).toNat) = 53 from rfl] at HSC
      clear hsf hnm
      generalize scanL (seenP P chs (fromB name, toB name)) rds1 (fromB name, toB name) 53 = rds2 at *
      generalize (seenP P chs (fromB name, toB name)).take 53 = l at *
      generalize hr : (if msgsF l = 0 then (0, msgsL l, rds2) else (msgsF l, [], rds2)) = r
      have HR := hide hr
      clear hr
      go_enter Tryz.func36, Tryz.ntmps36
      go_wp2_with (first
        | (go_at_call 26; refine HF.out.mono ?_; rintro e w1 ⟨rfl, ha⟩; obtain ⟨S1, hq1, hs1⟩ := ha; have hbQ := below_alloc1 w1 (Obj.cells #[Value.int .i64 qx, Value.int .i64 qy, Value.string qd] 76); have HQ1 := hide (hq1.on hbQ); have HS1 := hide (hs1.trans (.on hq1.pv.lo hbQ)); clear hq1 hs1 hbQ; rw [HE1.out])
        | (go_at_call 85; refine (messages_any name _ (by omega)).mono ?_; rintro e w2 ⟨rfl, hb2⟩; have HQ2 := hide (HQ1.out.on hb2); have HS2 := hide (HS1.out.trans (.on HQ1.out.pv.lo hb2)); clear hb2)
        | (go_at_call 33; refine (HSC.out _ _ HQ2.out).mono ?_; rintro e w3 ⟨v, rfl, ha⟩; obtain ⟨ao, cap, S3, rfl, hc1, hc2, hh, hq3, hs3, hn3⟩ := ha; have HQ3 := hide hq3; have HS3 := hide (HS2.out.trans hs3); have HH := hide hh; have hsz3 := (HS2.out.trans hs3).bel.size; clear hq3 hs3 hn3 hh)
        | fail)
      go_loopw [10, 36] (fun v i wr => ∃ k : Nat, k ≤ l.length ∧ i = .int .i64 k ∧ ownM wr w3.heap.size v (msgsL (l.take k)) ∧ Below w3.heap.size w3 wr ∧ msgsF (l.take k) = 0) (fun _ i _ => l.length - (intOf i).toNat)
      case atStart => exact ⟨0, Nat.zero_le _, rfl, World.ownsRow_nil _ _ _ _, Below.refl _ _, rfl⟩
      case round =>
        obtain ⟨k, hk, rfl, hown, hB, hM⟩ := hrel
        by_cases hlt : k < l.length
        · rcases HH.out with e | ⟨b, off, rfl, hsp⟩
          · rw [e] at hlt; cases hlt
          obtain ⟨c0, c1⟩ := spansAt_on hB hsp k hlt
          have lk : (k : Int) < (l.length : Int) := by omega
          obtain ⟨n, hn9, ek, hv40⟩ := HLF.out l[k] (List.getElem_mem hlt)
          have hnk : numK l[k].1 = n := by rw [ek]; exact numK_msg name hn9
          have HP : Hid (∀ W : World, (∀ W', Below W.heap.size W W' → Laid W') → Calls Tryz.prog 86 #[.agg #[.string l[k].1, .string l[k].2]] W fun e w' => e = .returned (.tuple #[mV (mOf l[k].2 (numK l[k].1)), errV (mOf l[k].2 (numK l[k].1)).2.2.2.2]) ∧ Below W.heap.size W w') := hide (by rw [hnk, ek]; exact fun W hL => qparse_any name n l[k].2 W (by omega) hn9 (by omega) hL)
          have HMT := hide (msgsF_take hlt hM)
          have HMF := hide (msgsF_first hlt hM)
          have HML := hide (msgsL_take hlt)
          have HOWN0 := hide hown
          have HB := hide hB
          have hlen : (msgsL (l.take k)).length ≤ 53 := by unfold msgsL; rw [List.length_map, List.length_take]; omega
          clear hnk ek hM hown hB hv40 HLF hsp
          generalize mOf l[k].2 (numK l[k].1) = m at *
          generalize msgsL (l.take k) = out at *
          generalize l[k].1 = rk at *
          generalize l[k].2 = rv at *
          obtain ⟨mk, mt, mu, md, em⟩ := m
          dsimp only at HP HMT HMF HML
          have HLD := hide (fun (W W' : World) (h1 : Below w3.heap.size w3 W) (h2 : Below W.heap.size W W') => HQ3.out.la W' ((h1.trans (h2.mono h1.size)).mono HQ3.out.pv.lo))
          by_cases hem : em = 0
          · subst hem
            have HEM := hide errV_zero
            go_wp2_with (first
              | (go_at_call 86; have hbR := below_alloc1 wr (Obj.cells #[Value.string rk, Value.string rv] 55); have HBR := hide (HB.out.trans (hbR.mono HB.out.size)); refine (HP.out _ (fun W' hW' => HLD.out _ _ HBR.out hW')).mono ?_; rintro e w5 ⟨rfl, hb5⟩; have HB5 := hide (HBR.out.trans (hb5.mono HBR.out.size)); have hbM := below_alloc1 w5 (Obj.cells #[Value.int .i64 mk, Value.int .i64 mt, Value.int .i64 mu, Value.string md] 48); have HOWN := hide (own_on (own_on (own_on HOWN0.out hbR) hb5) hbM); have hb6 := HB5.out.trans (hbM.mono HB5.out.size); clear hbR hb5 hbM; rw [HEM.out])
              | (at_builtin; refine wp_append1 rfl _ _ 97 rfl w3.heap.size 48 i0 _ 4 40 Tryz.underlying97 hi0 hz0 hs0 hb0 rfl (by omega) (w5.alloc (Obj.cells #[Value.int .i64 mk, Value.int .i64 mt, Value.int .i64 mu, Value.string md] 48)) (cellM (mk, mt, mu, md, 0)) rfl (cellM_one _) _ out.length (out.flatMap cellM) HOWN.out rfl (by rw [show (w5.alloc (Obj.cells #[Value.int .i64 mk, Value.int .i64 mt, Value.int .i64 mu, Value.string md] 48)).heap.size = w5.heap.size + 1 by simp]; rfl) (by omega) (by omega) hb6.size ?_; intro v1 w7 ho1 hb7; have HB7 : Hid (Below w3.heap.size w3 w7) := (by first | exact hb7 w3 hb6 | exact hb7 w3 (hb6.trans (below_draws _ _ _))); have HO7 : Hid (ownM w7 w3.heap.size v1 (out ++ [(mk, mt, mu, md, 0)])) := ownM_snoc ho1; clear ho1 hb7)
              | fail)
            exact ⟨⟨k + 1, by omega, by go_num, by rw [HML.out]; exact HO7.out, HB7.out, HMT.out⟩, by simp [intOf]; omega⟩
          · have HEM := hide (errV_pos hem)
            have HNZ := hide hem
            clear hem
            go_wp2_with (first
              | (go_at_call 86; have hbR := below_alloc1 wr (Obj.cells #[Value.string rk, Value.string rv] 55); have HBR := hide (HB.out.trans (hbR.mono HB.out.size)); refine (HP.out _ (fun W' hW' => HLD.out _ _ HBR.out hW')).mono ?_; rintro e w5 ⟨rfl, hb5⟩; have HB5 := hide (HBR.out.trans (hb5.mono HBR.out.size)); have hbM := below_alloc1 w5 (Obj.cells #[Value.int .i64 mk, Value.int .i64 mt, Value.int .i64 mu, Value.string md] 48); have hb6 := HB5.out.trans (hbM.mono HB5.out.size); clear hbR hb5 hbM; rw [HEM.out])
              | fail)
            go_ret2
            refine HR.out ▸ ?_
            exact .worse (HMF.out HNZ.out) HNZ.out HEM.out.symm ⟨_, HQ3.out.on hb6, HS3.out.trans (.on HQ3.out.pv.lo hb6)⟩
        · have ek : k = l.length := by omega
          subst ek
          have hlt' : ¬ (l.length : Int) < (l.length : Int) := by omega
          rw [List.take_length] at hown hM
          have HM := hide hM
          have HOWN := hide hown
          clear hM hown
          go_wp2
          go_ret2
          refine HR.out ▸ ?_
          exact .good HM.out (ownsRow_le HOWN.out hsz3) (HQ3.out.on hB) (HS3.out.trans (.on HQ3.out.pv.lo hB)) (fun k e hk => by have h1 := (World.ownsRow.lt HOWN.out k e).1; have h2 := HQ3.out.pv.lt hk; omega)
    · rw [if_neg hsf]
      have HSC := hide (fun (S1 : Nat → Prop) (W : World) (hW : QV W B wb S1 P since chs rds1) => qscan_bad (fromB name, toB name) 53 W hW (by omega) hsf)
      generalize scanL (seenP P chs (fromB name, toB name)) rds1 (fromB name, toB name) 53 = rds2 at *
      generalize scanF (seenP P chs (fromB name, toB name)) rds1 (fromB name, toB name) 53 = f at *
      have HE2 := hide (errV_pos hsf)
      have HSF := hide hsf
      clear hsf hnm
      go_enter Tryz.func36, Tryz.ntmps36
      go_wp2_with (first
        | (go_at_call 26; refine HF.out.mono ?_; rintro e w1 ⟨rfl, ha⟩; obtain ⟨S1, hq1, hs1⟩ := ha; have hbQ := below_alloc1 w1 (Obj.cells #[Value.int .i64 qx, Value.int .i64 qy, Value.string qd] 76); have HQ1 := hide (hq1.on hbQ); have HS1 := hide (hs1.trans (.on hq1.pv.lo hbQ)); clear hq1 hs1 hbQ; rw [HE1.out])
        | (go_at_call 85; refine (messages_any name _ (by omega)).mono ?_; rintro e w2 ⟨rfl, hb2⟩; have HQ2 := hide (HQ1.out.on hb2); have HS2 := hide (HS1.out.trans (.on HQ1.out.pv.lo hb2)); clear hb2)
        | (go_at_call 33; refine (HSC.out _ _ HQ2.out).mono ?_; rintro e w3 ⟨rfl, ha⟩; have HA := hide (ActQ.after HS2.out ha); clear ha; rw [HE2.out])
        | fail)
      go_ret2
      exact .bad HSF.out HE2.out.symm HA.out
  · rw [if_neg h1]
    have HE1 := hide (errV_pos h1)
    have HER := hide h1
    clear h1 HFN
    go_enter Tryz.func36, Tryz.ntmps36
    go_wp2_with (first
      | (go_at_call 26; refine HF.out.mono ?_; rintro e w1 ⟨rfl, ha⟩; have hbQ := below_alloc1 w1 (Obj.cells #[Value.int .i64 qx, Value.int .i64 qy, Value.string qd] 76); have HA := hide (ha.post hbQ); clear ha hbQ; rw [HE1.out])
      | fail)
    go_ret2
    exact .bad HER.out HE1.out.symm HA.out
end Go.Proofs.YtighpalbodhfeaaGreatDoor

/-
  What queue.whole makes of an act that takes up a message, and what queue.Receive returns.
-/
namespace Go.Proofs.YtighpalbodhfeaaGreatDoor
open Go.RowKit Go.Joins Go.Shelf
attribute [local go_sem ↓] Go.wp_at_zero Go.wp_at_succ

set_option maxHeartbeats 4000000 in
theorem qwholeM_any {a0 a1 a2 a3 a4 : Value} {m : Msg} {chs' : List Chg} {rds' : Rws} {B wb : Nat} {S : Nat → Prop} {P : Rws} {since : Int} {chs : List Chg} {rds : Rws} (w : World) (h : QV w B wb S P since chs rds)
    (hc : ∀ W, Below w.heap.size w W → Calls Tryz.prog 51 #[a0, a1, a2, a3, a4] W fun e w' => e = .returned (.tuple #[mV m, errV m.2.2.2.2]) ∧ ActQ W w' B wb S P since chs' rds') :
    Calls Tryz.prog 50 #[.pointer (some ⟨wb, 0, none⟩), .func (.func 51) #[] #[a0, a1, a2, a3, a4]] w fun e w' => e = .returned (.tuple #[mV (if m.2.2.2.2 = 0 then m else noM m.2.2.2.2), errV m.2.2.2.2]) ∧ ActQ w w' B wb S P since (if m.2.2.2.2 = 0 then chs' else chs) rds' := by
  have n1 := err_neq_nil 108
  have HQ := hide h
  have HC := hide hc
  have HLO := hide h.pv.lo
  have hbR := below_alloc1 w (Obj.cells #[Value.int .i64 0, Value.int .i64 0, Value.int .i64 0, Value.string ⟨#[]⟩] 48)
  have HX := hide (BoxQ.start h #[Value.int .i64 0, Value.int .i64 0, Value.int .i64 0, Value.string ⟨#[]⟩] 48)
  have HBR := hide hbR
  have HMK := hide (pv_mark _ HX.out.qv.pv)
  have r0 : (w.alloc (Obj.cells #[Value.int .i64 0, Value.int .i64 0, Value.int .i64 0, Value.string ⟨#[]⟩] 48)).cell? ⟨w.heap.size, 0, none⟩ = some (Value.int .i64 0) := by simp
  have r1 : (w.alloc (Obj.cells #[Value.int .i64 0, Value.int .i64 0, Value.int .i64 0, Value.string ⟨#[]⟩] 48)).cell? ⟨w.heap.size, 1, none⟩ = some (Value.int .i64 0) := by simp
  have r2 : (w.alloc (Obj.cells #[Value.int .i64 0, Value.int .i64 0, Value.int .i64 0, Value.string ⟨#[]⟩] 48)).cell? ⟨w.heap.size, 2, none⟩ = some (Value.int .i64 0) := by simp
  have r3 : (w.alloc (Obj.cells #[Value.int .i64 0, Value.int .i64 0, Value.int .i64 0, Value.string ⟨#[]⟩] 48)).cell? ⟨w.heap.size, 3, none⟩ = some (Value.string ⟨#[]⟩) := by simp
  obtain ⟨mk, mt, mu, md, em⟩ := m
  dsimp only at HC ⊢
  clear h hc hbR
  by_cases hf : em = 0
  · subst hf
    rw [if_pos rfl, if_pos rfl]
    go_enter Tryz.func50, Tryz.ntmps50
    go_wp2_with (first
      | (go_at_call 93; refine HMK.out.mono ?_; rintro e w1 ⟨mv, rfl, ho, hb1⟩; obtain ⟨ma1, mc1, hmv, _, _⟩ := ownCh_has ho; subst hmv; have HB1 := hide hb1; have HX1 := hide (HX.out.on hb1); replace r0 := cell_on hb1 r0; replace r1 := cell_on hb1 r1; replace r2 := cell_on hb1 r2; replace r3 := cell_on hb1 r3; clear ho hb1)
      | (go_at_call 51; refine (HC.out _ (below_on HBR.out (Nat.le_refl _) HB1.out)).mono ?_; rintro e w2 ⟨rfl, ha⟩; obtain ⟨S2, hx2, eb⟩ := HX1.out.act ha; have hbA := below_alloc1 w2 (Obj.cells #[Value.int .i64 mk, Value.int .i64 mt, Value.int .i64 mu, Value.string md] 48); have HX2 := hide (hx2.on hbA); have fz := HX2.out.fz; replace r0 := cell_on hbA ((World.cell?_of_block eb).trans r0); replace r1 := cell_on hbA ((World.cell?_of_block eb).trans r1); replace r2 := cell_on hbA ((World.cell?_of_block eb).trans r2); replace r3 := cell_on hbA ((World.cell?_of_block eb).trans r3); clear ha hx2 eb hbA; rw [errV_zero])
      | fail)
    exact bodyPost_ret (v := .tuple #[mV (mk, mt, mu, md, 0), errV 0]) (by simp [errV, results, Tryz.results50, go_sem, r0, r1, r2, r3]) rfl ⟨rfl, ((((HX2.out.set HLO.out 0 _).set HLO.out 1 _).set HLO.out 2 _).set HLO.out 3 _).done⟩
  · rw [if_neg hf, if_neg hf]
    have HE := hide (errV_pos hf)
    clear hf
    go_enter Tryz.func50, Tryz.ntmps50
    go_wp2_with (first
      | (go_at_call 93; refine HMK.out.mono ?_; rintro e w1 ⟨mv, rfl, ho, hb1⟩; obtain ⟨ma1, mc1, hmv, _, _⟩ := ownCh_has ho; subst hmv; have HB1 := hide hb1; have HO := hide ho; have HX1 := hide (HX.out.on hb1); replace r0 := cell_on hb1 r0; replace r1 := cell_on hb1 r1; replace r2 := cell_on hb1 r2; replace r3 := cell_on hb1 r3; clear ho hb1)
      | (go_at_call 51; refine (HC.out _ (below_on HBR.out (Nat.le_refl _) HB1.out)).mono ?_; rintro e w2 ⟨rfl, ha⟩; obtain ⟨S2, hq2, hs2⟩ := ha; have HO2 := hide (own_block HO.out fun k e => ((HX.out.qv.new hs2 (World.ownsRow.lt HO.out k e).1 (World.ownsRow.lt HO.out k e).2).1)); obtain ⟨hx2, eb⟩ := HX1.out.go hq2 hs2; have hbA := below_alloc1 w2 (Obj.cells #[Value.int .i64 mk, Value.int .i64 mt, Value.int .i64 mu, Value.string md] 48); have HX2 := hide (hx2.on hbA); have HO3 := hide (own_on HO2.out hbA); replace r0 := cell_on hbA ((World.cell?_of_block eb).trans r0); replace r1 := cell_on hbA ((World.cell?_of_block eb).trans r1); replace r2 := cell_on hbA ((World.cell?_of_block eb).trans r2); replace r3 := cell_on hbA ((World.cell?_of_block eb).trans r3); clear hq2 hs2 hx2 eb hbA; rw [HE.out])
      | (go_at_call 94; refine (qv_back _ HX2.out.qv HO3.out HQ.out.pv.ok.cn HQ.out.pv.ok.ck HQ.out.pv.ok.cr HQ.out.ok).mono ?_; rintro e w3 ⟨rfl, ha⟩; obtain ⟨S3, hx3, eb⟩ := HX2.out.act ha; have hbA := below_alloc1 w3 (Obj.cells #[Value.int .i64 0, Value.int .i64 0, Value.int .i64 0, Value.string ⟨#[]⟩] 48); have HX3 := hide (hx3.on hbA); have fz := HX3.out.fz; replace r0 := cell_on hbA ((World.cell?_of_block eb).trans r0); replace r1 := cell_on hbA ((World.cell?_of_block eb).trans r1); replace r2 := cell_on hbA ((World.cell?_of_block eb).trans r2); replace r3 := cell_on hbA ((World.cell?_of_block eb).trans r3); clear ha hx3 eb hbA)
      | fail)
    exact bodyPost_ret (v := .tuple #[mV (noM em), errV em]) (by simp [results, Tryz.results50, go_sem, r0, r1, r2, r3, HE.out]) rfl ⟨rfl, ((((HX3.out.set HLO.out 0 _).set HLO.out 1 _).set HLO.out 2 _).set HLO.out 3 _).done⟩
end Go.Proofs.YtighpalbodhfeaaGreatDoor

/-
  What queue.Receive returns, of every view.
-/
namespace Go.Proofs.YtighpalbodhfeaaGreatDoor
open Go.RowKit Go.Joins Go.Shelf
attribute [local go_sem ↓] Go.wp_at_zero Go.wp_at_succ

set_option maxHeartbeats 4000000 in
theorem qrecvFn_any (pb nb qb ob lb : Nat) (name : ByteArray) (qx tries : Int) (dead : ByteArray) (now long : Int) {B wb : Nat} {S : Nat → Prop} {P : Rws} {since : Int} {chs : List Chg} {rds : Rws} (w : World) (h : QV w B wb S P since chs rds) (hn : nameL name.data.toList = true) (hd : dead.size ≤ 1000) (ht : tries ≤ 9) (h0 : 0 ≤ now) (h1 : now ≤ 1000000) (h2 : 0 ≤ long) (h3 : long ≤ 1000000)
    (c0 : w.cell? ⟨pb, 0, none⟩ = some (.pointer (some ⟨wb, 0, none⟩))) (c1 : w.cell? ⟨nb, 0, none⟩ = some (.string name)) (c2 : w.cell? ⟨qb, 0, none⟩ = some (.int .i64 qx)) (c3 : w.cell? ⟨qb, 1, none⟩ = some (.int .i64 tries)) (c4 : w.cell? ⟨qb, 2, none⟩ = some (.string dead)) (c5 : w.cell? ⟨ob, 0, none⟩ = some (.int .i64 now)) (c6 : w.cell? ⟨lb, 0, none⟩ = some (.int .i64 long)) :
    Calls Tryz.prog 51 #[.pointer (some ⟨pb, 0, none⟩), .pointer (some ⟨nb, 0, none⟩), .pointer (some ⟨qb, 0, none⟩), .pointer (some ⟨ob, 0, none⟩), .pointer (some ⟨lb, 0, none⟩)] w fun e w' => e = .returned (.tuple #[mV (takeQ P name tries dead now (now + long) 1000001 chs rds (fromB name)).1, errV (takeQ P name tries dead now (now + long) 1000001 chs rds (fromB name)).1.2.2.2.2]) ∧ ActQ w w' B wb S P since (takeQ P name tries dead now (now + long) 1000001 chs rds (fromB name)).2.1 (takeQ P name tries dead now (now + long) 1000001 chs rds (fromB name)).2.2 := by
  have HX := hide (BoxQ.start h #[Value.int .i64 0, Value.int .i64 0, Value.int .i64 0, Value.string ⟨#[]⟩] 48)
  have HLO := hide h.pv.lo
  have hbA := below_alloc1 w (Obj.cells #[Value.int .i64 0, Value.int .i64 0, Value.int .i64 0, Value.string ⟨#[]⟩] 48)
  replace c0 := cell_on hbA c0
  replace c1 := cell_on hbA c1
  replace c2 := cell_on hbA c2
  replace c3 := cell_on hbA c3
  replace c4 := cell_on hbA c4
  replace c5 := cell_on hbA c5
  replace c6 := cell_on hbA c6
  have r0 : (w.alloc (Obj.cells #[Value.int .i64 0, Value.int .i64 0, Value.int .i64 0, Value.string ⟨#[]⟩] 48)).cell? ⟨w.heap.size, 0, none⟩ = some (Value.int .i64 0) := by simp
  have r1 : (w.alloc (Obj.cells #[Value.int .i64 0, Value.int .i64 0, Value.int .i64 0, Value.string ⟨#[]⟩] 48)).cell? ⟨w.heap.size, 1, none⟩ = some (Value.int .i64 0) := by simp
  have r2 : (w.alloc (Obj.cells #[Value.int .i64 0, Value.int .i64 0, Value.int .i64 0, Value.string ⟨#[]⟩] 48)).cell? ⟨w.heap.size, 2, none⟩ = some (Value.int .i64 0) := by simp
  have r3 : (w.alloc (Obj.cells #[Value.int .i64 0, Value.int .i64 0, Value.int .i64 0, Value.string ⟨#[]⟩] 48)).cell? ⟨w.heap.size, 3, none⟩ = some (Value.string ⟨#[]⟩) := by simp
  have hw1 : IntKind.i64.wrap (now + long) = now + long := by rw [IntKind.wrap_i64]; omega
  have HT := hide (qtake_any name qx tries dead now (now + long) _ HX.out.qv hn hd ht)
  clear h hbA hn
  generalize takeQ P name tries dead now (now + long) 1000001 chs rds (fromB name) = r at *
  obtain ⟨⟨mk, mt, mu, md, em⟩, chs1, rds1⟩ := r
  dsimp only at HT ⊢
  go_enter Tryz.func51, Tryz.ntmps51
  go_wp2_with (first
    | (go_at_call 52; refine HT.out.mono ?_; rintro e w1 ⟨rfl, ha⟩; obtain ⟨S1, hx1, eb⟩ := HX.out.act ha; have fz := hx1.fz; replace r0 := (World.cell?_of_block eb).trans r0; replace r1 := (World.cell?_of_block eb).trans r1; replace r2 := (World.cell?_of_block eb).trans r2; replace r3 := (World.cell?_of_block eb).trans r3; have HX1 := hide hx1; clear ha hx1 eb c0 c1 c2 c3 c4 c5 c6)
    | fail)
  exact bodyPost_ret (v := .tuple #[mV (mk, mt, mu, md, em), errV em]) (by simp [results, Tryz.results51, go_sem, r0, r1, r2, r3]) rfl ⟨rfl, ((((HX1.out.set HLO.out 0 _).set HLO.out 1 _).set HLO.out 2 _).set HLO.out 3 _).done⟩
theorem timeMay_bd {n : Int} (h : timeMay n = true) : 0 ≤ n ∧ n ≤ 1000000 := by unfold timeMay at h; rw [Bool.and_eq_true, decide_eq_true_eq, decide_eq_true_eq] at h; exact h
def RecvO (s b : Nat) : Prop := s ≤ b ∧ b < s + 5
set_option maxHeartbeats 8000000 in
theorem qreceive_any (name : ByteArray) (now long : Int) {B wb : Nat} {S : Nat → Prop} {P : Rws} {since : Int} {chs : List Chg} {rds : Rws} (w : World) (h : QV w B wb S P since chs rds) (hn : name.size ≤ 1000) :
    Calls Tryz.prog 13 #[.pointer (some ⟨wb, 0, none⟩), .string name, .int .i64 now, .int .i64 long] w fun e w' => e = .returned (.tuple #[mV (receiveQ P chs rds name now long).1, errV (receiveQ P chs rds name now long).1.2.2.2.2]) ∧ ActQ w w' B wb S P since (receiveQ P chs rds name now long).2.1 (receiveQ P chs rds name now long).2.2 := by
  have n1 := err_neq_nil 108
  have hmf : ∀ (fn : Fn) (first cap : Array Value) (w : World), (Instr.makeFunc fn first cap).run Tryz.prog w = .ok (.func fn first cap) w := fun _ _ _ _ => rfl
  have HLO := hide h.pv.lo
  have HFO := hide (fun h => findQ_ok (P := P) (chs := chs) (rds := rds) (name := name) h)
  have HFN : Hid ((findQ P chs rds name).2.2.2 = 0 → nameL name.data.toList = true) := hide (fun he => by unfold findQ at he; split at he; assumption; cases he)
  have z1 : (w.alloc (Obj.cells #[Value.pointer (some ⟨wb, 0, none⟩)] 27)).heap.size = w.heap.size + 1 := by simp
  have z2 : ((w.alloc (Obj.cells #[Value.pointer (some ⟨wb, 0, none⟩)] 27)).alloc (Obj.cells #[Value.string name] 9)).heap.size = w.heap.size + 1 + 1 := by simp
  have z3 : (((w.alloc (Obj.cells #[Value.pointer (some ⟨wb, 0, none⟩)] 27)).alloc (Obj.cells #[Value.string name] 9)).alloc (Obj.cells #[Value.int .i64 now] 3)).heap.size = w.heap.size + 1 + 1 + 1 := by simp
  have z4 : ((((w.alloc (Obj.cells #[Value.pointer (some ⟨wb, 0, none⟩)] 27)).alloc (Obj.cells #[Value.string name] 9)).alloc (Obj.cells #[Value.int .i64 now] 3)).alloc (Obj.cells #[Value.int .i64 long] 3)).heap.size = w.heap.size + 1 + 1 + 1 + 1 := by simp
  have z5 : (((((w.alloc (Obj.cells #[Value.pointer (some ⟨wb, 0, none⟩)] 27)).alloc (Obj.cells #[Value.string name] 9)).alloc (Obj.cells #[Value.int .i64 now] 3)).alloc (Obj.cells #[Value.int .i64 long] 3)).alloc (Obj.cells #[Value.int .i64 0, Value.int .i64 0, Value.int .i64 0, Value.string ⟨#[]⟩] 48)).heap.size = w.heap.size + 1 + 1 + 1 + 1 + 1 := by simp
  have HOx := hide (((((OwnQ.start h).box #[Value.pointer (some ⟨wb, 0, none⟩)] 27).box #[Value.string name] 9).box #[Value.int .i64 now] 3).box #[Value.int .i64 long] 3 |>.box #[Value.int .i64 0, Value.int .i64 0, Value.int .i64 0, Value.string ⟨#[]⟩] 48)
  rw [z1, z2, z3, z4] at HOx
  have HO := hide (HOx.out.less (O' := RecvO w.heap.size) (fun b hb => by unfold RecvO at hb; show b = w.heap.size + 1 + 1 + 1 + 1 ∨ b = w.heap.size + 1 + 1 + 1 ∨ b = w.heap.size + 1 + 1 ∨ b = w.heap.size + 1 ∨ b = w.heap.size ∨ False; omega))
  have hb1 := below_alloc1 w (Obj.cells #[Value.pointer (some ⟨wb, 0, none⟩)] 27)
  have hb2 := below_alloc1 (w.alloc (Obj.cells #[Value.pointer (some ⟨wb, 0, none⟩)] 27)) (Obj.cells #[Value.string name] 9)
  have hb3 := below_alloc1 ((w.alloc (Obj.cells #[Value.pointer (some ⟨wb, 0, none⟩)] 27)).alloc (Obj.cells #[Value.string name] 9)) (Obj.cells #[Value.int .i64 now] 3)
  have hb4 := below_alloc1 (((w.alloc (Obj.cells #[Value.pointer (some ⟨wb, 0, none⟩)] 27)).alloc (Obj.cells #[Value.string name] 9)).alloc (Obj.cells #[Value.int .i64 now] 3)) (Obj.cells #[Value.int .i64 long] 3)
  have hb5 := below_alloc1 ((((w.alloc (Obj.cells #[Value.pointer (some ⟨wb, 0, none⟩)] 27)).alloc (Obj.cells #[Value.string name] 9)).alloc (Obj.cells #[Value.int .i64 now] 3)).alloc (Obj.cells #[Value.int .i64 long] 3)) (Obj.cells #[Value.int .i64 0, Value.int .i64 0, Value.int .i64 0, Value.string ⟨#[]⟩] 48)
  have c0 : (((((w.alloc (Obj.cells #[Value.pointer (some ⟨wb, 0, none⟩)] 27)).alloc (Obj.cells #[Value.string name] 9)).alloc (Obj.cells #[Value.int .i64 now] 3)).alloc (Obj.cells #[Value.int .i64 long] 3)).alloc (Obj.cells #[Value.int .i64 0, Value.int .i64 0, Value.int .i64 0, Value.string ⟨#[]⟩] 48)).cell? ⟨w.heap.size, 0, none⟩ = some (.pointer (some ⟨wb, 0, none⟩)) := (cell_on hb5 (cell_on hb4 (cell_on hb3 (cell_on hb2 (cell_new w _ _ 0)))))
  have c1 : (((((w.alloc (Obj.cells #[Value.pointer (some ⟨wb, 0, none⟩)] 27)).alloc (Obj.cells #[Value.string name] 9)).alloc (Obj.cells #[Value.int .i64 now] 3)).alloc (Obj.cells #[Value.int .i64 long] 3)).alloc (Obj.cells #[Value.int .i64 0, Value.int .i64 0, Value.int .i64 0, Value.string ⟨#[]⟩] 48)).cell? ⟨w.heap.size + 1, 0, none⟩ = some (.string name) := (cell_on hb5 (cell_on hb4 (cell_on hb3 (by rw [← z1]; exact cell_new _ _ _ 0))))
  have c2 : (((((w.alloc (Obj.cells #[Value.pointer (some ⟨wb, 0, none⟩)] 27)).alloc (Obj.cells #[Value.string name] 9)).alloc (Obj.cells #[Value.int .i64 now] 3)).alloc (Obj.cells #[Value.int .i64 long] 3)).alloc (Obj.cells #[Value.int .i64 0, Value.int .i64 0, Value.int .i64 0, Value.string ⟨#[]⟩] 48)).cell? ⟨w.heap.size + 1 + 1, 0, none⟩ = some (.int .i64 now) := (cell_on hb5 (cell_on hb4 (by rw [← z2]; exact cell_new _ _ _ 0)))
  have c3 : (((((w.alloc (Obj.cells #[Value.pointer (some ⟨wb, 0, none⟩)] 27)).alloc (Obj.cells #[Value.string name] 9)).alloc (Obj.cells #[Value.int .i64 now] 3)).alloc (Obj.cells #[Value.int .i64 long] 3)).alloc (Obj.cells #[Value.int .i64 0, Value.int .i64 0, Value.int .i64 0, Value.string ⟨#[]⟩] 48)).cell? ⟨w.heap.size + 1 + 1 + 1, 0, none⟩ = some (.int .i64 long) := (cell_on hb5 (by rw [← z3]; exact cell_new _ _ _ 0))
  have r0 : (((((w.alloc (Obj.cells #[Value.pointer (some ⟨wb, 0, none⟩)] 27)).alloc (Obj.cells #[Value.string name] 9)).alloc (Obj.cells #[Value.int .i64 now] 3)).alloc (Obj.cells #[Value.int .i64 long] 3)).alloc (Obj.cells #[Value.int .i64 0, Value.int .i64 0, Value.int .i64 0, Value.string ⟨#[]⟩] 48)).cell? ⟨w.heap.size + 1 + 1 + 1 + 1, 0, none⟩ = some (.int .i64 0) := (by rw [← z4]; exact cell_new _ _ _ 0)
  have r1 : (((((w.alloc (Obj.cells #[Value.pointer (some ⟨wb, 0, none⟩)] 27)).alloc (Obj.cells #[Value.string name] 9)).alloc (Obj.cells #[Value.int .i64 now] 3)).alloc (Obj.cells #[Value.int .i64 long] 3)).alloc (Obj.cells #[Value.int .i64 0, Value.int .i64 0, Value.int .i64 0, Value.string ⟨#[]⟩] 48)).cell? ⟨w.heap.size + 1 + 1 + 1 + 1, 1, none⟩ = some (.int .i64 0) := (by rw [← z4]; exact cell_new _ _ _ 1)
  have r2 : (((((w.alloc (Obj.cells #[Value.pointer (some ⟨wb, 0, none⟩)] 27)).alloc (Obj.cells #[Value.string name] 9)).alloc (Obj.cells #[Value.int .i64 now] 3)).alloc (Obj.cells #[Value.int .i64 long] 3)).alloc (Obj.cells #[Value.int .i64 0, Value.int .i64 0, Value.int .i64 0, Value.string ⟨#[]⟩] 48)).cell? ⟨w.heap.size + 1 + 1 + 1 + 1, 2, none⟩ = some (.int .i64 0) := (by rw [← z4]; exact cell_new _ _ _ 2)
  have r3 : (((((w.alloc (Obj.cells #[Value.pointer (some ⟨wb, 0, none⟩)] 27)).alloc (Obj.cells #[Value.string name] 9)).alloc (Obj.cells #[Value.int .i64 now] 3)).alloc (Obj.cells #[Value.int .i64 long] 3)).alloc (Obj.cells #[Value.int .i64 0, Value.int .i64 0, Value.int .i64 0, Value.string ⟨#[]⟩] 48)).cell? ⟨w.heap.size + 1 + 1 + 1 + 1, 3, none⟩ = some (.string ⟨#[]⟩) := (by rw [← z4]; exact cell_new _ _ _ 3)
  have HF := hide (qfind_any name _ HO.out.qv hn)
  clear h HOx hb1 hb2 hb3 hb4 hb5 z1 z2 z3 z4 z5
  unfold receiveQ
  generalize findQ P chs rds name = q at *
  generalize findL chs rds name = rds1 at *
  obtain ⟨qx, qy, qd, er⟩ := q
  dsimp only at HF HFO HFN ⊢
  by_cases h1 : er = 0
  · subst h1
    rw [if_pos rfl]
    obtain ⟨hx0, hx1, hd6, hy0, hy9⟩ := HFO.out rfl
    have hnm := HFN.out rfl
    have HE1 := hide errV_zero
    clear HFO HFN
    by_cases ht : timeMay now = true ∧ timeMay long = true
    · rw [if_pos ht]
      obtain ⟨ht1, ht2⟩ := ht
      obtain ⟨t0, t1⟩ := timeMay_bd ht1
      obtain ⟨t2, t3⟩ := timeMay_bd ht2
      have HT1 := hide ht1
      have HT2 := hide ht2
      have HNM := hide hnm
      clear ht1 ht2 hnm
      have HWH := hide (fun (W0 : World) (S1 : Nat → Prop) (hQ : QV W0 B wb S1 P since chs rds1) (qb : Nat) (e0 : W0.cell? ⟨w.heap.size, 0, none⟩ = some (.pointer (some ⟨wb, 0, none⟩))) (e1 : W0.cell? ⟨w.heap.size + 1, 0, none⟩ = some (.string name)) (e2 : W0.cell? ⟨qb, 0, none⟩ = some (.int .i64 qx)) (e3 : W0.cell? ⟨qb, 1, none⟩ = some (.int .i64 qy)) (e4 : W0.cell? ⟨qb, 2, none⟩ = some (.string qd)) (e5 : W0.cell? ⟨w.heap.size + 1 + 1, 0, none⟩ = some (.int .i64 now)) (e6 : W0.cell? ⟨w.heap.size + 1 + 1 + 1, 0, none⟩ = some (.int .i64 long)) => qwholeM_any W0 hQ (fun W hb => qrecvFn_any w.heap.size (w.heap.size + 1) qb (w.heap.size + 1 + 1) (w.heap.size + 1 + 1 + 1) name qx qy qd now long W (hQ.on hb) HNM.out (by omega) hy9 t0 t1 t2 t3 (cell_on hb e0) (cell_on hb e1) (cell_on hb e2) (cell_on hb e3) (cell_on hb e4) (cell_on hb e5) (cell_on hb e6)))
      generalize takeQ P name qy qd now (now + long) 1000001 chs rds1 (fromB name) = r at *
      obtain ⟨⟨mk, mt, mu, md, em⟩, chs2, rds2⟩ := r
      dsimp only at HWH ⊢
      by_cases hz : em = 0
      · subst hz
        rw [if_pos rfl]
        simp only [if_true] at HWH
        go_enter Tryz.func13, Tryz.ntmps13
        go_wp2_with (first
          | (go_at_call 26; refine HF.out.mono ?_; rintro e w1 ⟨rfl, ha⟩; obtain ⟨S1, ho1, kp⟩ := HO.out.act ha; have hbQ := below_alloc1 w1 (Obj.cells #[Value.int .i64 qx, Value.int .i64 qy, Value.string qd] 76); have HO1 := hide (ho1.on hbQ); replace c0 := cell_on hbQ ((World.cell?_of_block (kp (w.heap.size) ⟨by omega, by omega⟩)).trans c0); replace c1 := cell_on hbQ ((World.cell?_of_block (kp (w.heap.size + 1) ⟨by omega, by omega⟩)).trans c1); replace c2 := cell_on hbQ ((World.cell?_of_block (kp (w.heap.size + 1 + 1) ⟨by omega, by omega⟩)).trans c2); replace c3 := cell_on hbQ ((World.cell?_of_block (kp (w.heap.size + 1 + 1 + 1) ⟨by omega, by omega⟩)).trans c3); replace r0 := cell_on hbQ ((World.cell?_of_block (kp (w.heap.size + 1 + 1 + 1 + 1) ⟨by omega, by omega⟩)).trans r0); replace r1 := cell_on hbQ ((World.cell?_of_block (kp (w.heap.size + 1 + 1 + 1 + 1) ⟨by omega, by omega⟩)).trans r1); replace r2 := cell_on hbQ ((World.cell?_of_block (kp (w.heap.size + 1 + 1 + 1 + 1) ⟨by omega, by omega⟩)).trans r2); replace r3 := cell_on hbQ ((World.cell?_of_block (kp (w.heap.size + 1 + 1 + 1 + 1) ⟨by omega, by omega⟩)).trans r3); have fz := (HO1.out.ow (w.heap.size + 1 + 1 + 1 + 1) ⟨by omega, by omega⟩).2.2.2; clear ha ho1 kp hbQ; rw [HE1.out])
          | (go_at_call 46; refine (qisTime_any _ _).mono ?_; rintro e w2 ⟨rfl, rfl⟩; first | rw [HT1.out] | rw [HT2.out])
          | (go_at_call 50; refine (HWH.out _ _ HO1.out.qv w1.heap.size c0 c1 (cell_new w1 _ _ 0) (cell_new w1 _ _ 1) (cell_new w1 _ _ 2) c2 c3).mono ?_; rintro e w3 ⟨rfl, ha⟩; obtain ⟨S3, ho3, kp3⟩ := HO1.out.act ha; replace r0 := (World.cell?_of_block (kp3 (w.heap.size + 1 + 1 + 1 + 1) ⟨by omega, by omega⟩)).trans r0; replace r1 := (World.cell?_of_block (kp3 (w.heap.size + 1 + 1 + 1 + 1) ⟨by omega, by omega⟩)).trans r1; replace r2 := (World.cell?_of_block (kp3 (w.heap.size + 1 + 1 + 1 + 1) ⟨by omega, by omega⟩)).trans r2; replace r3 := (World.cell?_of_block (kp3 (w.heap.size + 1 + 1 + 1 + 1) ⟨by omega, by omega⟩)).trans r3; have HO3 := hide ho3; clear fz; have fz := (HO3.out.ow (w.heap.size + 1 + 1 + 1 + 1) ⟨by omega, by omega⟩).2.2.2; clear ha ho3 kp3 c0 c1 c2 c3)
          | fail)
        exact bodyPost_ret (v := .tuple #[mV (mk, mt, mu, md, 0), errV 0]) (by simp [errV, results, Tryz.results13, go_sem, r0, r1, r2, r3]) rfl ⟨rfl, ((((HO3.out.set HLO.out (b := w.heap.size + 1 + 1 + 1 + 1) ⟨by omega, by omega⟩ 0 _).set HLO.out (b := w.heap.size + 1 + 1 + 1 + 1) ⟨by omega, by omega⟩ 1 _).set HLO.out (b := w.heap.size + 1 + 1 + 1 + 1) ⟨by omega, by omega⟩ 2 _).set HLO.out (b := w.heap.size + 1 + 1 + 1 + 1) ⟨by omega, by omega⟩ 3 _).done⟩
      · rw [if_neg hz]
        simp only [if_neg hz] at HWH
        clear hz
        go_enter Tryz.func13, Tryz.ntmps13
        go_wp2_with (first
          | (go_at_call 26; refine HF.out.mono ?_; rintro e w1 ⟨rfl, ha⟩; obtain ⟨S1, ho1, kp⟩ := HO.out.act ha; have hbQ := below_alloc1 w1 (Obj.cells #[Value.int .i64 qx, Value.int .i64 qy, Value.string qd] 76); have HO1 := hide (ho1.on hbQ); replace c0 := cell_on hbQ ((World.cell?_of_block (kp (w.heap.size) ⟨by omega, by omega⟩)).trans c0); replace c1 := cell_on hbQ ((World.cell?_of_block (kp (w.heap.size + 1) ⟨by omega, by omega⟩)).trans c1); replace c2 := cell_on hbQ ((World.cell?_of_block (kp (w.heap.size + 1 + 1) ⟨by omega, by omega⟩)).trans c2); replace c3 := cell_on hbQ ((World.cell?_of_block (kp (w.heap.size + 1 + 1 + 1) ⟨by omega, by omega⟩)).trans c3); replace r0 := cell_on hbQ ((World.cell?_of_block (kp (w.heap.size + 1 + 1 + 1 + 1) ⟨by omega, by omega⟩)).trans r0); replace r1 := cell_on hbQ ((World.cell?_of_block (kp (w.heap.size + 1 + 1 + 1 + 1) ⟨by omega, by omega⟩)).trans r1); replace r2 := cell_on hbQ ((World.cell?_of_block (kp (w.heap.size + 1 + 1 + 1 + 1) ⟨by omega, by omega⟩)).trans r2); replace r3 := cell_on hbQ ((World.cell?_of_block (kp (w.heap.size + 1 + 1 + 1 + 1) ⟨by omega, by omega⟩)).trans r3); have fz := (HO1.out.ow (w.heap.size + 1 + 1 + 1 + 1) ⟨by omega, by omega⟩).2.2.2; clear ha ho1 kp hbQ; rw [HE1.out])
          | (go_at_call 46; refine (qisTime_any _ _).mono ?_; rintro e w2 ⟨rfl, rfl⟩; first | rw [HT1.out] | rw [HT2.out])
          | (go_at_call 50; refine (HWH.out _ _ HO1.out.qv w1.heap.size c0 c1 (cell_new w1 _ _ 0) (cell_new w1 _ _ 1) (cell_new w1 _ _ 2) c2 c3).mono ?_; rintro e w3 ⟨rfl, ha⟩; obtain ⟨S3, ho3, kp3⟩ := HO1.out.act ha; replace r0 := (World.cell?_of_block (kp3 (w.heap.size + 1 + 1 + 1 + 1) ⟨by omega, by omega⟩)).trans r0; replace r1 := (World.cell?_of_block (kp3 (w.heap.size + 1 + 1 + 1 + 1) ⟨by omega, by omega⟩)).trans r1; replace r2 := (World.cell?_of_block (kp3 (w.heap.size + 1 + 1 + 1 + 1) ⟨by omega, by omega⟩)).trans r2; replace r3 := (World.cell?_of_block (kp3 (w.heap.size + 1 + 1 + 1 + 1) ⟨by omega, by omega⟩)).trans r3; have HO3 := hide ho3; clear fz; have fz := (HO3.out.ow (w.heap.size + 1 + 1 + 1 + 1) ⟨by omega, by omega⟩).2.2.2; clear ha ho3 kp3 c0 c1 c2 c3)
          | fail)
        exact bodyPost_ret (v := .tuple #[mV (noM em), errV em]) (by simp [results, Tryz.results13, go_sem, r0, r1, r2, r3]) rfl ⟨rfl, ((((HO3.out.set HLO.out (b := w.heap.size + 1 + 1 + 1 + 1) ⟨by omega, by omega⟩ 0 _).set HLO.out (b := w.heap.size + 1 + 1 + 1 + 1) ⟨by omega, by omega⟩ 1 _).set HLO.out (b := w.heap.size + 1 + 1 + 1 + 1) ⟨by omega, by omega⟩ 2 _).set HLO.out (b := w.heap.size + 1 + 1 + 1 + 1) ⟨by omega, by omega⟩ 3 _).done⟩
    · rw [if_neg ht]
      cases ht1 : timeMay now with
      | false =>
        have HT1 := hide ht1
        have HT2 := hide ht1
        clear ht ht1
        go_enter Tryz.func13, Tryz.ntmps13
        go_wp2_with (first
          | (go_at_call 26; refine HF.out.mono ?_; rintro e w1 ⟨rfl, ha⟩; obtain ⟨S1, ho1, kp⟩ := HO.out.act ha; have hbQ := below_alloc1 w1 (Obj.cells #[Value.int .i64 qx, Value.int .i64 qy, Value.string qd] 76); have HO1 := hide (ho1.on hbQ); replace c0 := cell_on hbQ ((World.cell?_of_block (kp (w.heap.size) ⟨by omega, by omega⟩)).trans c0); replace c1 := cell_on hbQ ((World.cell?_of_block (kp (w.heap.size + 1) ⟨by omega, by omega⟩)).trans c1); replace c2 := cell_on hbQ ((World.cell?_of_block (kp (w.heap.size + 1 + 1) ⟨by omega, by omega⟩)).trans c2); replace c3 := cell_on hbQ ((World.cell?_of_block (kp (w.heap.size + 1 + 1 + 1) ⟨by omega, by omega⟩)).trans c3); replace r0 := cell_on hbQ ((World.cell?_of_block (kp (w.heap.size + 1 + 1 + 1 + 1) ⟨by omega, by omega⟩)).trans r0); replace r1 := cell_on hbQ ((World.cell?_of_block (kp (w.heap.size + 1 + 1 + 1 + 1) ⟨by omega, by omega⟩)).trans r1); replace r2 := cell_on hbQ ((World.cell?_of_block (kp (w.heap.size + 1 + 1 + 1 + 1) ⟨by omega, by omega⟩)).trans r2); replace r3 := cell_on hbQ ((World.cell?_of_block (kp (w.heap.size + 1 + 1 + 1 + 1) ⟨by omega, by omega⟩)).trans r3); have fz := (HO1.out.ow (w.heap.size + 1 + 1 + 1 + 1) ⟨by omega, by omega⟩).2.2.2; clear ha ho1 kp hbQ; rw [HE1.out])
          | (go_at_call 46; refine (qisTime_any _ _).mono ?_; rintro e w2 ⟨rfl, rfl⟩; first | rw [HT1.out] | rw [HT2.out])
          | fail)
        exact bodyPost_ret (v := .tuple #[mV (noM 1), errV 1]) (by simp [errV, results, Tryz.results13, go_sem, r0, r1, r2, r3]) rfl ⟨rfl, ((((HO1.out.set HLO.out (b := w.heap.size + 1 + 1 + 1 + 1) ⟨by omega, by omega⟩ 0 _).set HLO.out (b := w.heap.size + 1 + 1 + 1 + 1) ⟨by omega, by omega⟩ 1 _).set HLO.out (b := w.heap.size + 1 + 1 + 1 + 1) ⟨by omega, by omega⟩ 2 _).set HLO.out (b := w.heap.size + 1 + 1 + 1 + 1) ⟨by omega, by omega⟩ 3 _).done⟩
      | true =>
        have ht2 : timeMay long = false := by
          cases e : timeMay long with
          | false => rfl
          | true => exact absurd ⟨ht1, e⟩ ht
        have HT1 := hide ht1
        have HT2 := hide ht2
        clear ht ht1 ht2
        go_enter Tryz.func13, Tryz.ntmps13
        go_wp2_with (first
          | (go_at_call 26; refine HF.out.mono ?_; rintro e w1 ⟨rfl, ha⟩; obtain ⟨S1, ho1, kp⟩ := HO.out.act ha; have hbQ := below_alloc1 w1 (Obj.cells #[Value.int .i64 qx, Value.int .i64 qy, Value.string qd] 76); have HO1 := hide (ho1.on hbQ); replace c0 := cell_on hbQ ((World.cell?_of_block (kp (w.heap.size) ⟨by omega, by omega⟩)).trans c0); replace c1 := cell_on hbQ ((World.cell?_of_block (kp (w.heap.size + 1) ⟨by omega, by omega⟩)).trans c1); replace c2 := cell_on hbQ ((World.cell?_of_block (kp (w.heap.size + 1 + 1) ⟨by omega, by omega⟩)).trans c2); replace c3 := cell_on hbQ ((World.cell?_of_block (kp (w.heap.size + 1 + 1 + 1) ⟨by omega, by omega⟩)).trans c3); replace r0 := cell_on hbQ ((World.cell?_of_block (kp (w.heap.size + 1 + 1 + 1 + 1) ⟨by omega, by omega⟩)).trans r0); replace r1 := cell_on hbQ ((World.cell?_of_block (kp (w.heap.size + 1 + 1 + 1 + 1) ⟨by omega, by omega⟩)).trans r1); replace r2 := cell_on hbQ ((World.cell?_of_block (kp (w.heap.size + 1 + 1 + 1 + 1) ⟨by omega, by omega⟩)).trans r2); replace r3 := cell_on hbQ ((World.cell?_of_block (kp (w.heap.size + 1 + 1 + 1 + 1) ⟨by omega, by omega⟩)).trans r3); have fz := (HO1.out.ow (w.heap.size + 1 + 1 + 1 + 1) ⟨by omega, by omega⟩).2.2.2; clear ha ho1 kp hbQ; rw [HE1.out])
          | (go_at_call 46; refine (qisTime_any _ _).mono ?_; rintro e w2 ⟨rfl, rfl⟩; first | rw [HT1.out] | rw [HT2.out])
          | fail)
        exact bodyPost_ret (v := .tuple #[mV (noM 1), errV 1]) (by simp [errV, results, Tryz.results13, go_sem, r0, r1, r2, r3]) rfl ⟨rfl, ((((HO1.out.set HLO.out (b := w.heap.size + 1 + 1 + 1 + 1) ⟨by omega, by omega⟩ 0 _).set HLO.out (b := w.heap.size + 1 + 1 + 1 + 1) ⟨by omega, by omega⟩ 1 _).set HLO.out (b := w.heap.size + 1 + 1 + 1 + 1) ⟨by omega, by omega⟩ 2 _).set HLO.out (b := w.heap.size + 1 + 1 + 1 + 1) ⟨by omega, by omega⟩ 3 _).done⟩
  · rw [if_neg h1]
    have HE1 := hide (errV_pos h1)
    clear h1 HFO HFN
    go_enter Tryz.func13, Tryz.ntmps13
    go_wp2_with (first
      | (go_at_call 26; refine HF.out.mono ?_; rintro e w1 ⟨rfl, ha⟩; obtain ⟨S1, ho1, kp⟩ := HO.out.act ha; have hbQ := below_alloc1 w1 (Obj.cells #[Value.int .i64 qx, Value.int .i64 qy, Value.string qd] 76); have HO1 := hide (ho1.on hbQ); replace c0 := cell_on hbQ ((World.cell?_of_block (kp (w.heap.size) ⟨by omega, by omega⟩)).trans c0); replace c1 := cell_on hbQ ((World.cell?_of_block (kp (w.heap.size + 1) ⟨by omega, by omega⟩)).trans c1); replace c2 := cell_on hbQ ((World.cell?_of_block (kp (w.heap.size + 1 + 1) ⟨by omega, by omega⟩)).trans c2); replace c3 := cell_on hbQ ((World.cell?_of_block (kp (w.heap.size + 1 + 1 + 1) ⟨by omega, by omega⟩)).trans c3); replace r0 := cell_on hbQ ((World.cell?_of_block (kp (w.heap.size + 1 + 1 + 1 + 1) ⟨by omega, by omega⟩)).trans r0); replace r1 := cell_on hbQ ((World.cell?_of_block (kp (w.heap.size + 1 + 1 + 1 + 1) ⟨by omega, by omega⟩)).trans r1); replace r2 := cell_on hbQ ((World.cell?_of_block (kp (w.heap.size + 1 + 1 + 1 + 1) ⟨by omega, by omega⟩)).trans r2); replace r3 := cell_on hbQ ((World.cell?_of_block (kp (w.heap.size + 1 + 1 + 1 + 1) ⟨by omega, by omega⟩)).trans r3); have fz := (HO1.out.ow (w.heap.size + 1 + 1 + 1 + 1) ⟨by omega, by omega⟩).2.2.2; clear ha ho1 kp hbQ; rw [HE1.out])
      | fail)
    exact bodyPost_ret (v := .tuple #[mV (noM er), errV er]) (by simp [results, Tryz.results13, go_sem, r0, r1, r2, r3, HE1.out]) rfl ⟨rfl, ((((HO1.out.set HLO.out (b := w.heap.size + 1 + 1 + 1 + 1) ⟨by omega, by omega⟩ 0 _).set HLO.out (b := w.heap.size + 1 + 1 + 1 + 1) ⟨by omega, by omega⟩ 1 _).set HLO.out (b := w.heap.size + 1 + 1 + 1 + 1) ⟨by omega, by omega⟩ 2 _).set HLO.out (b := w.heap.size + 1 + 1 + 1 + 1) ⟨by omega, by omega⟩ 3 _).done⟩
end Go.Proofs.YtighpalbodhfeaaGreatDoor

/-
  Plain facts on queues in a view of no rows: what is found, seen, and read of texts that were written.
-/
namespace Go.Proofs.YtighpalbodhfeaaGreatDoor
open Go.RowKit Go.Joins

theorem join_one (t u : Nat) (r : ByteArray) (ht : t ≤ 9) (hu : u ≤ 2000000) : (joinB t u r).size ≤ r.size + 10 := by
  have e : Lib.decDigits t = [UInt8.ofNat (48 + t)] := Lib.decDigits_one (by omega)
  have eu := len_dec_lt u (by omega)
  rw [Lib.size_eq, Lib.size_eq, joinB_l, e]
  simp only [List.length_append, List.length_cons, List.length_nil]
  omega
theorem findC_nil (key : ByteArray) : findC [] key = none := by simp [findC, foundL]
theorem findC_cons (x : Chg) (l : List Chg) (key : ByteArray) : findC (x :: l) key = if ltS x.key key then findC l key else if eqS x.key key then some x else none := by
  unfold findC
  rw [foundL_cons, placeL_cons]
  by_cases h : ltS x.key key = true
  · rw [if_pos h, if_pos h, if_pos h, List.getElem?_cons_succ]
  · rw [if_neg h, if_neg h, if_neg h]
    by_cases h2 : eqS x.key key = true
    · rw [if_pos h2, if_pos h2]; rfl
    · rw [if_neg h2, if_neg h2]
theorem lay_end {l : Rws} {c : Chg} (h : ∀ r ∈ l, ltS r.1 c.key = true) : layR l c = l ++ if c.gone then [] else [(c.key, c.val)] := by
  have e : placeR l c.key = l.length := by
    induction l with
    | nil => rfl
    | cons r l ih => rw [placeR_cons, if_pos (h r (List.mem_cons_self ..)), ih fun x hx => h x (List.mem_cons_of_mem _ hx)]; rfl
  have f : foundR l c.key = false := by unfold foundR; rw [e, List.getElem?_eq_none (Nat.le_refl _)]
  unfold layR pastR
  rw [f, e, List.take_length]
  simp
def seenF (s : ByteArray × ByteArray) (cs : List Chg) : Rws := (cs.filter fun c => hasS s.1 s.2 c.key && !c.gone).map fun c => (c.key, c.val)
theorem seen_from (s : ByteArray × ByteArray) : ∀ (cs : List Chg) (l : Rws), rises cs → (∀ r ∈ l, ∀ c ∈ cs, ltS r.1 c.key = true) → seenR l s cs = l ++ seenF s cs := by
  intro cs
  induction cs with
  | nil => intro l _ _; simp [seenR, seenF]
  | cons c cs ih =>
    intro l hr hl
    have hr' := List.pairwise_cons.1 hr
    have e : seenR l s (c :: cs) = seenR (if hasS s.1 s.2 c.key then layR l c else l) s cs := rfl
    rw [e]
    cases h : hasS s.1 s.2 c.key with
    | false =>
      rw [if_neg (by simp), ih l hr'.2 fun r hr c hc => hl r hr c (List.mem_cons_of_mem _ hc)]
      simp [seenF, h]
    | true =>
      rw [if_pos rfl, lay_end fun r hr => hl r hr c (List.mem_cons_self ..)]
      cases hg : c.gone with
      | true =>
        rw [if_pos rfl, List.append_nil, ih l hr'.2 fun r hr c hc => hl r hr c (List.mem_cons_of_mem _ hc)]
        simp [seenF, hg]
      | false =>
        rw [if_neg (by simp), ih _ hr'.2 (by
          intro r hr x hx
          rcases List.mem_append.1 hr with h1 | h1
          · exact hl r h1 x (List.mem_cons_of_mem _ hx)
          · rw [List.mem_singleton.1 h1]; exact hr'.1 x hx)]
        simp [seenF, h, hg]
theorem seen_none (s : ByteArray × ByteArray) {cs : List Chg} (h : rises cs) : seenP [] cs s = seenF s cs := by
  have e : seenP [] cs s = seenR [] s cs := rfl
  rw [e, seen_from s cs [] h (by simp)]
  rfl
theorem decD_inj {a b : Nat} (h : Lib.decDigits a = Lib.decDigits b) : a = b := by
  have h1 := dec_from a
  rw [h, dec_from b] at h1
  exact (Option.some.inj h1).symm
theorem cut_inj {x : UInt8} {a b u v : List UInt8} (ha : ∀ c ∈ a, c ≠ x) (hb : ∀ c ∈ b, c ≠ x) (h : a ++ x :: u = b ++ x :: v) : a = b ∧ u = v := by
  have e1 := index_no ha u
  have e2 := index_no hb v
  rw [h, e2] at e1
  have l : b.length = a.length := by omega
  exact ⟨(List.append_inj h l.symm).1, (List.cons.inj (List.append_inj h l.symm).2).2⟩
theorem joinB_inj {a b a' b' : Nat} {r r' : ByteArray} (h : joinB a b r = joinB a' b' r') : a = a' ∧ b = b' ∧ r = r' := by
  have h' := congrArg (fun s => s.data.toList) h
  simp only [joinB_l] at h'
  have nd : ∀ n, ∀ c ∈ Lib.decDigits n, c ≠ 32 := fun n c hc => dig_ne (dec_dig n c hc) 32 (by decide)
  obtain ⟨e1, h2⟩ := cut_inj (nd a) (nd a') h'
  obtain ⟨e2, e3⟩ := cut_inj (nd b) (nd b') h2
  exact ⟨decD_inj e1, decD_inj e2, data_inj e3⟩
theorem qOf_join {n t : Nat} {d : ByteArray} (h : queueMay n t d) : qOf (joinB n t d) = ((n : Int), (t : Int), d, 0) := by
  rcases qOf_cases (joinB n t d) with ⟨n', t', d', e, _, hj⟩ | ⟨_, hno⟩
  · obtain ⟨rfl, rfl, rfl⟩ := joinB_inj hj; exact e
  · exact absurd rfl (hno n t d h)
theorem mOf_join {t u : Nat} {d : ByteArray} (k : Int) (h : messageMay t u d) : mOf (joinB t u d) k = (k, (t : Int), (u : Int), d, 0) := by
  rcases mOf_cases (joinB t u d) k with ⟨t', u', d', e, _, hj⟩ | ⟨_, hno⟩
  · obtain ⟨rfl, rfl, rfl⟩ := joinB_inj hj; exact e
  · exact absurd rfl (hno t u d h)
end Go.Proofs.YtighpalbodhfeaaGreatDoor
