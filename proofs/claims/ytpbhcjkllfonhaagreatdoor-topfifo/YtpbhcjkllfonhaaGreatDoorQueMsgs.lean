/-
  What queue.Messages returns, of every view.
-/
import Derived.Test.YtpbhcjkllfonhaaGreatDoorQueTakeL
import Derived.Test.YtpbhcjkllfonhaaGreatDoorQueParse
import Derived.Test.YtpbhcjkllfonhaaGreatDoorQueOwn
import Derived.Test.YtpbhcjkllfonhaaGreatDoorQueMem
import Derived.Test.YtpbhcjkllfonhaaGreatDoorQueSend
namespace Go.Proofs.YtpbhcjkllfonhaaGreatDoor
open Go.RowKit Go.Joins Go.Shelf Go.WideShapes
attribute [local go_sem ↓] Go.wp_at_zero Go.wp_at_succ

def cellM (m : Msg) : List Value := [.int .i64 m.1, .int .i64 m.2.1, .int .i64 m.2.2.1, .string m.2.2.2.1]
theorem cellM_one (m : Msg) : ∀ u ∈ cellM m, u.oneCell' = true := by
  intro u hu
  simp only [cellM, List.mem_cons, List.not_mem_nil, or_false] at hu
  rcases hu with rfl | rfl | rfl | rfl <;> rfl
def ownM (w : World) (B : Nat) (v : Value) (l : List Msg) : Prop := w.ownsRow B 51 4 v l.length (l.flatMap cellM)
theorem msg_info : (Tryz.prog.info? 51).map (fun i => (i.zero, i.size, i.bytes)) = some (some (.agg #[.int .i64 0, .int .i64 0, .int .i64 0, .string ⟨#[]⟩]), 4, 40) := by kernel_rfl
theorem ownM_snoc {w : World} {B : Nat} {v : Value} {l : List Msg} {m : Msg} (h : w.ownsRow B 51 4 v (l.length + 1) (l.flatMap cellM ++ cellM m)) : ownM w B v (l ++ [m]) := by
  unfold ownM
  rw [List.flatMap_append, List.length_append]
  simpa using h
/-- messages in memory that is none of the view's -/
def MsgsQ (w w' : World) (v : Value) (B wb : Nat) (S : Nat → Prop) (P : Rws) (since : Int) (chs : List Chg) (rds : Rws) (l : List Msg) : Prop :=
  ∃ S', ownM w' w.heap.size v l ∧ QV w' B wb S' P since chs rds ∧ StepV w w' B S S' ∧ ∀ k, v.ownBlock = some k → ¬ S' k
def MsgsE (w w' : World) (e : Ending) (B wb : Nat) (S : Nat → Prop) (P : Rws) (since : Int) (chs : List Chg) (r : Nat × List Msg × Rws) : Prop :=
  (r.1 = 0 → ∃ v, e = .returned (.tuple #[v, .nilIface]) ∧ MsgsQ w w' v B wb S P since chs r.2.2 r.2.1) ∧ (r.1 ≠ 0 → e = .returned (.tuple #[.slice none 0 0, errV r.1]) ∧ ActQ w w' B wb S P since chs r.2.2)
theorem MsgsE.bad {w w' : World} {B wb : Nat} {S : Nat → Prop} {P : Rws} {since : Int} {chs : List Chg} {f : Nat} {l : List Msg} {rds : Rws} {ev : Value} (hf : f ≠ 0) (he : ev = errV f) (ha : ActQ w w' B wb S P since chs rds) : MsgsE w w' (.returned (.tuple #[.slice none 0 0, ev])) B wb S P since chs (f, l, rds) :=
  ⟨fun h => absurd h hf, fun _ => ⟨by rw [he], ha⟩⟩
theorem msgsF_take {l : Rws} {k : Nat} (hk : k < l.length) (h : msgsF (l.take k) = 0) : msgsF (l.take (k + 1)) = (mOf l[k].2 (numK l[k].1)).2.2.2.2 := by
  induction l generalizing k with
  | nil => cases hk
  | cons r l ih =>
    cases k with
    | zero =>
      show (if (mOf r.2 (numK r.1)).2.2.2.2 = 0 then 0 else (mOf r.2 (numK r.1)).2.2.2.2) = _
      split
      · rename_i e; exact e.symm
      · rfl
    | succ k =>
      have h' : (if (mOf r.2 (numK r.1)).2.2.2.2 = 0 then msgsF (l.take k) else (mOf r.2 (numK r.1)).2.2.2.2) = 0 := h
      show (if (mOf r.2 (numK r.1)).2.2.2.2 = 0 then msgsF (l.take (k + 1)) else (mOf r.2 (numK r.1)).2.2.2.2) = _
      split at h'
      · rename_i e
        rw [if_pos e]
        exact ih (by simpa using hk) h'
      · rename_i e; exact absurd h' e
theorem msgsF_first {l : Rws} {k : Nat} (hk : k < l.length) (h : msgsF (l.take k) = 0) (hb : (mOf l[k].2 (numK l[k].1)).2.2.2.2 ≠ 0) : msgsF l = (mOf l[k].2 (numK l[k].1)).2.2.2.2 := by
  induction l generalizing k with
  | nil => cases hk
  | cons r l ih =>
    cases k with
    | zero => show (if (mOf r.2 (numK r.1)).2.2.2.2 = 0 then msgsF l else (mOf r.2 (numK r.1)).2.2.2.2) = _; rw [if_neg (by simpa using hb)]; rfl
    | succ k =>
      have h' : (if (mOf r.2 (numK r.1)).2.2.2.2 = 0 then msgsF (l.take k) else (mOf r.2 (numK r.1)).2.2.2.2) = 0 := h
      show (if (mOf r.2 (numK r.1)).2.2.2.2 = 0 then msgsF l else (mOf r.2 (numK r.1)).2.2.2.2) = _
      split at h'
      · rename_i e
        rw [if_pos e]
        exact ih (by simpa using hk) h' (by simpa using hb)
      · rename_i e; exact absurd h' e
theorem msgsL_take {l : Rws} {k : Nat} (hk : k < l.length) : msgsL (l.take (k + 1)) = msgsL (l.take k) ++ [mOf l[k].2 (numK l[k].1)] := by
  unfold msgsL
  rw [List.take_succ_eq_append_getElem hk, List.map_append]; rfl
theorem MsgsE.good {w w' : World} {B wb : Nat} {S S' : Nat → Prop} {P : Rws} {since : Int} {chs : List Chg} {l : Rws} {rds : Rws} {v : Value} (hf : msgsF l = 0) (ho : ownM w' w.heap.size v (msgsL l)) (hq : QV w' B wb S' P since chs rds) (hs : StepV w w' B S S') (hn : ∀ k, v.ownBlock = some k → ¬ S' k) : MsgsE w w' (.returned (.tuple #[v, .nilIface])) B wb S P since chs (if msgsF l = 0 then (0, msgsL l, rds) else (msgsF l, [], rds)) := by
  rw [if_pos hf]
  exact ⟨fun _ => ⟨v, rfl, S', ho, hq, hs, hn⟩, fun h => absurd rfl h⟩
theorem MsgsE.worse {w w' : World} {B wb : Nat} {S : Nat → Prop} {P : Rws} {since : Int} {chs : List Chg} {f : Nat} {l : Rws} {rds : Rws} {ev : Value} (hl : msgsF l = f) (hf : f ≠ 0) (he : ev = errV f) (ha : ActQ w w' B wb S P since chs rds) : MsgsE w w' (.returned (.tuple #[.slice none 0 0, ev])) B wb S P since chs (if msgsF l = 0 then (0, msgsL l, rds) else (msgsF l, [], rds)) := by
  rw [if_neg (by rw [hl]; exact hf), hl]
  exact .bad hf he ha
set_option maxRecDepth 8000 in
set_option maxHeartbeats 8000000 in
theorem qmessages_any (name : ByteArray) {B wb : Nat} {S : Nat → Prop} {P : Rws} {since : Int} {chs : List Chg} {rds : Rws} (w : World) (h : QV w B wb S P since chs rds) (hn : name.size ≤ 1000) :
    Calls Tryz.prog 19 #[.pointer (some ⟨wb, 0, none⟩), .string name] w fun e w' => MsgsE w w' e B wb S P since chs (messagesQ P chs rds name) := by
  have n1 := err_neq_nil 116
  obtain ⟨i0, hi0, hz0, hs0, hb0⟩ := info_parts msg_info
  have HLO := hide h.pv.lo
  have HF := hide (qfind_any name w h hn)
  have HQ := hide h
  have HFN : Hid ((findQ P chs rds name).2.2.2 = 0 → nameL name.data.toList = true) := hide (fun he => by unfold findQ at he; split at he; assumption; cases he)
  unfold messagesQ
  generalize findQ P chs rds name = q at *
  generalize findL chs rds name = rds1 at *
  obtain ⟨qx, qy, qd, er⟩ := q
  dsimp only at HF HFN ⊢
  by_cases h1 : er = 0
  · subst h1
    rw [if_pos rfl]
    have hnm := HFN.out rfl
    have HE1 := hide errV_zero
    have HLF : Hid (∀ r ∈ (seenP P chs (fromB name, toB name)).take 53, ∃ n, n ≤ 999999 ∧ r.1 = msgB name n ∧ r.2.size ≤ 40) := hide (fun r hr => by
      have hm := List.mem_of_mem_take hr
      obtain ⟨a1, a2⟩ := seenQ_in HQ.out.ok (fromB name, toB name) r hm
      obtain ⟨n, hn', e⟩ := key_in hnm a1 (seenP_has HQ.out.pv.ok.rise hm)
      exact ⟨n, hn', e, a2⟩)
    have hl53 : ((seenP P chs (fromB name, toB name)).take 53).length ≤ 53 := by rw [List.length_take]; omega
    clear HFN h
    by_cases hsf : scanF (seenP P chs (fromB name, toB name)) rds1 (fromB name, toB name) 53 = 0
    · rw [if_pos hsf]
      have HSC := hide (fun (S1 : Nat → Prop) (W : World) (hW : QV W B wb S1 P since chs rds1) => qscan_ok (fromB name, toB name) 53 W hW (by omega) hsf)
      rw [show ((53 : Int).toNat) = 53 from rfl] at HSC
      clear hsf hnm
      generalize scanL (seenP P chs (fromB name, toB name)) rds1 (fromB name, toB name) 53 = rds2 at *
      generalize (seenP P chs (fromB name, toB name)).take 53 = l at *
      generalize hr : (if msgsF l = 0 then (0, msgsL l, rds2) else (msgsF l, [], rds2)) = r
      have HR := hide hr
      clear hr
      go_enter Tryz.func19, Tryz.ntmps19
      go_wp2_with (first
        | (go_at_call 33; refine HF.out.mono ?_; rintro e w1 ⟨rfl, ha⟩; obtain ⟨S1, hq1, hs1⟩ := ha; have hbQ := below_alloc1 w1 (Obj.cells #[Value.int .i64 qx, Value.int .i64 qy, Value.string qd] 87); have HQ1 := hide (hq1.on hbQ); have HS1 := hide (hs1.trans (.on hq1.pv.lo hbQ)); clear hq1 hs1 hbQ; rw [HE1.out])
        | (go_at_call 59; refine (messages_any name _ (by omega)).mono ?_; rintro e w2 ⟨rfl, hb2⟩; have HQ2 := hide (HQ1.out.on hb2); have HS2 := hide (HS1.out.trans (.on HQ1.out.pv.lo hb2)); clear hb2)
        | (go_at_call 40; refine (HSC.out _ _ HQ2.out).mono ?_; rintro e w3 ⟨v, rfl, ha⟩; obtain ⟨ao, cap, S3, rfl, hc1, hc2, hh, hq3, hs3, hn3⟩ := ha; have HQ3 := hide hq3; have HS3 := hide (HS2.out.trans hs3); have HH := hide hh; have hsz3 := (HS2.out.trans hs3).bel.size; clear hq3 hs3 hn3 hh)
        | fail)
      go_loopw [10, 36] (fun v i wr => ∃ k : Nat, k ≤ l.length ∧ i = .int .i64 k ∧ ownM wr w3.heap.size v (msgsL (l.take k)) ∧ Below w3.heap.size w3 wr ∧ msgsF (l.take k) = 0) (fun _ i _ => l.length - (intOf i).toNat)
      case atStart => exact ⟨0, Nat.zero_le _, rfl, World.ownsRow_nil _ _ _ _, Below.refl _ _, rfl⟩
      case round =>
        obtain ⟨k, hk, rfl, hown, hB, hM⟩ := hrel
        by_cases hlt : k < l.length
        · rcases HH.out with e | ⟨b, off, rfl, hsp⟩
          · rw [e] at hlt; cases hlt
          obtain ⟨c0, c1⟩ := spansAt_on hB hsp k hlt
          have lk : (k : Int) < (l.length : Int) := by omega
          obtain ⟨n, hn9, ek, hv40⟩ := HLF.out l[k] (List.getElem_mem hlt)
          have hnk : numK l[k].1 = n := by rw [ek]; exact numK_msg name hn9
          have HP : Hid (∀ W : World, (∀ W', Below W.heap.size W W' → Laid W') → Calls Tryz.prog 60 #[.agg #[.string l[k].1, .string l[k].2]] W fun e w' => e = .returned (.tuple #[mV (mOf l[k].2 (numK l[k].1)), errV (mOf l[k].2 (numK l[k].1)).2.2.2.2]) ∧ Below W.heap.size W w') := hide (by rw [hnk, ek]; exact fun W hL => qparse_any name n l[k].2 W (by omega) hn9 (by omega) hL)
          have HMT := hide (msgsF_take hlt hM)
          have HMF := hide (msgsF_first hlt hM)
          have HML := hide (msgsL_take hlt)
          have HOWN0 := hide hown
          have HB := hide hB
          have hlen : (msgsL (l.take k)).length ≤ 53 := by unfold msgsL; rw [List.length_map, List.length_take]; omega
          clear hnk ek hM hown hB hv40 HLF hsp
          generalize mOf l[k].2 (numK l[k].1) = m at *
          generalize msgsL (l.take k) = out at *
          generalize l[k].1 = rk at *
          generalize l[k].2 = rv at *
          obtain ⟨mk, mt, mu, md, em⟩ := m
          dsimp only at HP HMT HMF HML
          have HLD := hide (fun (W W' : World) (h1 : Below w3.heap.size w3 W) (h2 : Below W.heap.size W W') => HQ3.out.la W' ((h1.trans (h2.mono h1.size)).mono HQ3.out.pv.lo))
          by_cases hem : em = 0
          · subst hem
            have HEM := hide errV_zero
            go_wp2_with (first
              | (go_at_call 60; have hbR := below_alloc1 wr (Obj.cells #[Value.string rk, Value.string rv] 68); have HBR := hide (HB.out.trans (hbR.mono HB.out.size)); refine (HP.out _ (fun W' hW' => HLD.out _ _ HBR.out hW')).mono ?_; rintro e w5 ⟨rfl, hb5⟩; have HB5 := hide (HBR.out.trans (hb5.mono HBR.out.size)); have hbM := below_alloc1 w5 (Obj.cells #[Value.int .i64 mk, Value.int .i64 mt, Value.int .i64 mu, Value.string md] 51); have HOWN := hide (own_on (own_on (own_on HOWN0.out hbR) hb5) hbM); have hb6 := HB5.out.trans (hbM.mono HB5.out.size); clear hbR hb5 hbM; rw [HEM.out])
              | (at_builtin; refine wp_append1 rfl _ _ 54 rfl w3.heap.size 51 i0 _ 4 40 Tryz.underlying54 hi0 hz0 hs0 hb0 rfl (by omega) (w5.alloc (Obj.cells #[Value.int .i64 mk, Value.int .i64 mt, Value.int .i64 mu, Value.string md] 51)) (cellM (mk, mt, mu, md, 0)) rfl (cellM_one _) _ out.length (out.flatMap cellM) HOWN.out rfl (by rw [show (w5.alloc (Obj.cells #[Value.int .i64 mk, Value.int .i64 mt, Value.int .i64 mu, Value.string md] 51)).heap.size = w5.heap.size + 1 by simp]; rfl) (by omega) (by omega) hb6.size ?_; intro v1 w7 ho1 hb7; have HB7 : Hid (Below w3.heap.size w3 w7) := (by first | exact hb7 w3 hb6 | exact hb7 w3 (hb6.trans (below_draws _ _ _))); have HO7 : Hid (ownM w7 w3.heap.size v1 (out ++ [(mk, mt, mu, md, 0)])) := ownM_snoc ho1; clear ho1 hb7)
              | fail)
            exact ⟨⟨k + 1, by omega, by go_num, by rw [HML.out]; exact HO7.out, HB7.out, HMT.out⟩, by simp [intOf]; omega⟩
          · have HEM := hide (errV_pos hem)
            have HNZ := hide hem
            clear hem
            go_wp2_with (first
              | (go_at_call 60; have hbR := below_alloc1 wr (Obj.cells #[Value.string rk, Value.string rv] 68); have HBR := hide (HB.out.trans (hbR.mono HB.out.size)); refine (HP.out _ (fun W' hW' => HLD.out _ _ HBR.out hW')).mono ?_; rintro e w5 ⟨rfl, hb5⟩; have HB5 := hide (HBR.out.trans (hb5.mono HBR.out.size)); have hbM := below_alloc1 w5 (Obj.cells #[Value.int .i64 mk, Value.int .i64 mt, Value.int .i64 mu, Value.string md] 51); have hb6 := HB5.out.trans (hbM.mono HB5.out.size); clear hbR hb5 hbM; rw [HEM.out])
              | fail)
            go_ret2
            refine HR.out ▸ ?_
            exact .worse (HMF.out HNZ.out) HNZ.out HEM.out.symm ⟨_, HQ3.out.on hb6, HS3.out.trans (.on HQ3.out.pv.lo hb6)⟩
        · have ek : k = l.length := by omega
          subst ek
          have hlt' : ¬ (l.length : Int) < (l.length : Int) := by omega
          rw [List.take_length] at hown hM
          have HM := hide hM
          have HOWN := hide hown
          clear hM hown
          go_wp2
          go_ret2
          refine HR.out ▸ ?_
          exact .good HM.out (ownsRow_le HOWN.out hsz3) (HQ3.out.on hB) (HS3.out.trans (.on HQ3.out.pv.lo hB)) (fun k e hk => by have h1 := (World.ownsRow.lt HOWN.out k e).1; have h2 := HQ3.out.pv.lt hk; omega)
    · rw [if_neg hsf]
      have HSC := hide (fun (S1 : Nat → Prop) (W : World) (hW : QV W B wb S1 P since chs rds1) => qscan_bad (fromB name, toB name) 53 W hW (by omega) hsf)
      generalize scanL (seenP P chs (fromB name, toB name)) rds1 (fromB name, toB name) 53 = rds2 at *
      generalize scanF (seenP P chs (fromB name, toB name)) rds1 (fromB name, toB name) 53 = f at *
      have HE2 := hide (errV_pos hsf)
      have HSF := hide hsf
      clear hsf hnm
      go_enter Tryz.func19, Tryz.ntmps19
      go_wp2_with (first
        | (go_at_call 33; refine HF.out.mono ?_; rintro e w1 ⟨rfl, ha⟩; obtain ⟨S1, hq1, hs1⟩ := ha; have hbQ := below_alloc1 w1 (Obj.cells #[Value.int .i64 qx, Value.int .i64 qy, Value.string qd] 87); have HQ1 := hide (hq1.on hbQ); have HS1 := hide (hs1.trans (.on hq1.pv.lo hbQ)); clear hq1 hs1 hbQ; rw [HE1.out])
        | (go_at_call 59; refine (messages_any name _ (by omega)).mono ?_; rintro e w2 ⟨rfl, hb2⟩; have HQ2 := hide (HQ1.out.on hb2); have HS2 := hide (HS1.out.trans (.on HQ1.out.pv.lo hb2)); clear hb2)
        | (go_at_call 40; refine (HSC.out _ _ HQ2.out).mono ?_; rintro e w3 ⟨rfl, ha⟩; have HA := hide (ActQ.after HS2.out ha); clear ha; rw [HE2.out])
        | fail)
      go_ret2
      exact .bad HSF.out HE2.out.symm HA.out
  · rw [if_neg h1]
    have HE1 := hide (errV_pos h1)
    have HER := hide h1
    clear h1 HFN
    go_enter Tryz.func19, Tryz.ntmps19
    go_wp2_with (first
      | (go_at_call 33; refine HF.out.mono ?_; rintro e w1 ⟨rfl, ha⟩; have hbQ := below_alloc1 w1 (Obj.cells #[Value.int .i64 qx, Value.int .i64 qy, Value.string qd] 87); have HA := hide (ha.post hbQ); clear ha hbQ; rw [HE1.out])
      | fail)
    go_ret2
    exact .bad HER.out HE1.out.symm HA.out
end Go.Proofs.YtpbhcjkllfonhaaGreatDoor

/-
  Plain facts on queues in a view of no rows: what is found, seen, and read of texts that were written.
-/
namespace Go.Proofs.YtpbhcjkllfonhaaGreatDoor
open Go.RowKit Go.Joins

theorem join_one (t u : Nat) (r : ByteArray) (ht : t ≤ 9) (hu : u ≤ 2000000) : (joinB t u r).size ≤ r.size + 10 := by
  have e : Lib.decDigits t = [UInt8.ofNat (48 + t)] := Lib.decDigits_one (by omega)
  have eu := len_dec_lt u (by omega)
  rw [Lib.size_eq, Lib.size_eq, joinB_l, e]
  simp only [List.length_append, List.length_cons, List.length_nil]
  omega
theorem findC_nil (key : ByteArray) : findC [] key = none := by simp [findC, foundL]
theorem findC_cons (x : Chg) (l : List Chg) (key : ByteArray) : findC (x :: l) key = if ltS x.key key then findC l key else if eqS x.key key then some x else none := by
  unfold findC
  rw [foundL_cons, placeL_cons]
  by_cases h : ltS x.key key = true
  · rw [if_pos h, if_pos h, if_pos h, List.getElem?_cons_succ]
  · rw [if_neg h, if_neg h, if_neg h]
    by_cases h2 : eqS x.key key = true
    · rw [if_pos h2, if_pos h2]; rfl
    · rw [if_neg h2, if_neg h2]
theorem lay_end {l : Rws} {c : Chg} (h : ∀ r ∈ l, ltS r.1 c.key = true) : layR l c = l ++ if c.gone then [] else [(c.key, c.val)] := by
  have e : placeR l c.key = l.length := by
    induction l with
    | nil => rfl
    | cons r l ih => rw [placeR_cons, if_pos (h r (List.mem_cons_self ..)), ih fun x hx => h x (List.mem_cons_of_mem _ hx)]; rfl
  have f : foundR l c.key = false := by unfold foundR; rw [e, List.getElem?_eq_none (Nat.le_refl _)]
  unfold layR pastR
  rw [f, e, List.take_length]
  simp
def seenF (s : ByteArray × ByteArray) (cs : List Chg) : Rws := (cs.filter fun c => hasS s.1 s.2 c.key && !c.gone).map fun c => (c.key, c.val)
theorem seen_from (s : ByteArray × ByteArray) : ∀ (cs : List Chg) (l : Rws), rises cs → (∀ r ∈ l, ∀ c ∈ cs, ltS r.1 c.key = true) → seenR l s cs = l ++ seenF s cs := by
  intro cs
  induction cs with
  | nil => intro l _ _; simp [seenR, seenF]
  | cons c cs ih =>
    intro l hr hl
    have hr' := List.pairwise_cons.1 hr
    have e : seenR l s (c :: cs) = seenR (if hasS s.1 s.2 c.key then layR l c else l) s cs := rfl
    rw [e]
    cases h : hasS s.1 s.2 c.key with
    | false =>
      rw [if_neg (by simp), ih l hr'.2 fun r hr c hc => hl r hr c (List.mem_cons_of_mem _ hc)]
      simp [seenF, h]
    | true =>
      rw [if_pos rfl, lay_end fun r hr => hl r hr c (List.mem_cons_self ..)]
      cases hg : c.gone with
      | true =>
        rw [if_pos rfl, List.append_nil, ih l hr'.2 fun r hr c hc => hl r hr c (List.mem_cons_of_mem _ hc)]
        simp [seenF, hg]
      | false =>
        rw [if_neg (by simp), ih _ hr'.2 (by
          intro r hr x hx
          rcases List.mem_append.1 hr with h1 | h1
          · exact hl r h1 x (List.mem_cons_of_mem _ hx)
          · rw [List.mem_singleton.1 h1]; exact hr'.1 x hx)]
        simp [seenF, h, hg]
theorem seen_none (s : ByteArray × ByteArray) {cs : List Chg} (h : rises cs) : seenP [] cs s = seenF s cs := by
  have e : seenP [] cs s = seenR [] s cs := rfl
  rw [e, seen_from s cs [] h (by simp)]
  rfl
theorem decD_inj {a b : Nat} (h : Lib.decDigits a = Lib.decDigits b) : a = b := by
  have h1 := dec_from a
  rw [h, dec_from b] at h1
  exact (Option.some.inj h1).symm
theorem cut_inj {x : UInt8} {a b u v : List UInt8} (ha : ∀ c ∈ a, c ≠ x) (hb : ∀ c ∈ b, c ≠ x) (h : a ++ x :: u = b ++ x :: v) : a = b ∧ u = v := by
  have e1 := index_no ha u
  have e2 := index_no hb v
  rw [h, e2] at e1
  have l : b.length = a.length := by omega
  exact ⟨(List.append_inj h l.symm).1, (List.cons.inj (List.append_inj h l.symm).2).2⟩
theorem joinB_inj {a b a' b' : Nat} {r r' : ByteArray} (h : joinB a b r = joinB a' b' r') : a = a' ∧ b = b' ∧ r = r' := by
  have h' := congrArg (fun s => s.data.toList) h
  simp only [joinB_l] at h'
  have nd : ∀ n, ∀ c ∈ Lib.decDigits n, c ≠ 32 := fun n c hc => dig_ne (dec_dig n c hc) 32 (by decide)
  obtain ⟨e1, h2⟩ := cut_inj (nd a) (nd a') h'
  obtain ⟨e2, e3⟩ := cut_inj (nd b) (nd b') h2
  exact ⟨decD_inj e1, decD_inj e2, data_inj e3⟩
theorem qOf_join {n t : Nat} {d : ByteArray} (h : queueMay n t d) : qOf (joinB n t d) = ((n : Int), (t : Int), d, 0) := by
  rcases qOf_cases (joinB n t d) with ⟨n', t', d', e, _, hj⟩ | ⟨_, hno⟩
  · obtain ⟨rfl, rfl, rfl⟩ := joinB_inj hj; exact e
  · exact absurd rfl (hno n t d h)
theorem mOf_join {t u : Nat} {d : ByteArray} (k : Int) (h : messageMay t u d) : mOf (joinB t u d) k = (k, (t : Int), (u : Int), d, 0) := by
  rcases mOf_cases (joinB t u d) k with ⟨t', u', d', e, _, hj⟩ | ⟨_, hno⟩
  · obtain ⟨rfl, rfl, rfl⟩ := joinB_inj hj; exact e
  · exact absurd rfl (hno t u d h)
end Go.Proofs.YtpbhcjkllfonhaaGreatDoor
