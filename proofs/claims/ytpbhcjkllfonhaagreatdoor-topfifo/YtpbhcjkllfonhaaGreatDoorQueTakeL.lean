/-
  What a message's taking up makes of a view, by plain functions.
-/
import Derived.Test.YtpbhcjkllfonhaaGreatDoorQueSend
namespace Go.Proofs.YtpbhcjkllfonhaaGreatDoor
open Go.RowKit Go.Joins

/-- the number that a message's key bears -/
def numK (k : ByteArray) : Int := (Lib.atoi (k.data.toList.drop (k.size - 6))).getD 0
theorem numK_msg (q : ByteArray) {n : Nat} (hn : n ≤ 999999) : numK (msgB q n) = n := by
  have ql : q.data.toList.length = q.size := by rw [Array.length_toList]; rfl
  unfold numK
  rw [msg_size, msgB_l, show q.size + 9 - 6 = q.size + 3 by omega, ← ql]
  have d : (109 :: 47 :: (q.data.toList ++ 47 :: six n)).drop (q.data.toList.length + 3) = six n := by
    rw [List.drop_succ_cons, List.drop_succ_cons, List.drop_append]; simp
  rw [d, atoi_six n hn]
  rfl
/-- the first row of a span, of those that are seen: its error, and what was read -/
def firstF (L rds : Rws) (s : ByteArray × ByteArray) : Nat := if readF rds (rdS L s 1) = 0 then (match L with | [] => 12 | _ :: _ => 0) else readF rds (rdS L s 1)
def firstR (L rds : Rws) (s : ByteArray × ByteArray) : ByteArray × ByteArray := if readF rds (rdS L s 1) = 0 then (match L with | [] => (⟨#[]⟩, ⟨#[]⟩) | r :: _ => r) else (⟨#[]⟩, ⟨#[]⟩)
def firstL (L rds : Rws) (s : ByteArray × ByteArray) : Rws := readL rds (rdS L s 1)
theorem first_ok {L rds : Rws} {s : ByteArray × ByteArray} (h : firstF L rds s = 0) : firstR L rds s ∈ L := by
  unfold firstF at h
  unfold firstR
  split at h
  · rename_i h0
    rw [if_pos h0]
    cases L with
    | nil => cases h
    | cons r L => exact List.mem_cons_self ..
  · rename_i h0; exact absurd h h0
/-- error, changes, reads -/
noncomputable def buryQ (P : Rws) (chs : List Chg) (rds : Rws) (key dead body : ByteArray) : Nat × List Chg × Rws :=
  if alterF chs ⟨key, ⟨#[]⟩, true⟩ = 0 then
    if nilS dead = true then (0, alterL chs ⟨key, ⟨#[]⟩, true⟩, rds)
    else if (findQ P (alterL chs ⟨key, ⟨#[]⟩, true⟩) rds dead).2.2.2 = 0 then
      ((addQ (alterL chs ⟨key, ⟨#[]⟩, true⟩) dead (findQ P (alterL chs ⟨key, ⟨#[]⟩, true⟩) rds dead).1 (findQ P (alterL chs ⟨key, ⟨#[]⟩, true⟩) rds dead).2.1 (findQ P (alterL chs ⟨key, ⟨#[]⟩, true⟩) rds dead).2.2.1 body 0).2.1,
       (addQ (alterL chs ⟨key, ⟨#[]⟩, true⟩) dead (findQ P (alterL chs ⟨key, ⟨#[]⟩, true⟩) rds dead).1 (findQ P (alterL chs ⟨key, ⟨#[]⟩, true⟩) rds dead).2.1 (findQ P (alterL chs ⟨key, ⟨#[]⟩, true⟩) rds dead).2.2.1 body 0).2.2,
       findL (alterL chs ⟨key, ⟨#[]⟩, true⟩) rds dead)
    else ((findQ P (alterL chs ⟨key, ⟨#[]⟩, true⟩) rds dead).2.2.2, alterL chs ⟨key, ⟨#[]⟩, true⟩, findL (alterL chs ⟨key, ⟨#[]⟩, true⟩) rds dead)
  else (alterF chs ⟨key, ⟨#[]⟩, true⟩, alterL chs ⟨key, ⟨#[]⟩, true⟩, rds)
/-- the message or an error, changes, reads -/
noncomputable def takeQ (P : Rws) (name : ByteArray) (tries : Int) (dead : ByteArray) (now until_ : Int) : Nat → List Chg → Rws → ByteArray → Msg × List Chg × Rws
  | 0, chs, rds, _ => (noM 0, chs, rds)
  | k + 1, chs, rds, at_ =>
    let L := seenP P chs (at_, toB name)
    let rds1 := firstL L rds (at_, toB name)
    if firstF L rds (at_, toB name) = 0 then
      let r := firstR L rds (at_, toB name)
      let m := mOf r.2 (numK r.1)
      if m.2.2.2.2 = 0 then
        if now < m.2.2.1 then takeQ P name tries dead now until_ k chs rds1 (zeroS r.1)
        else if m.2.1 < tries then ((m.1, m.2.1 + 1, until_, m.2.2.2.1, putMF chs name m.1 (m.2.1 + 1) until_ m.2.2.2.1), putML chs name m.1 (m.2.1 + 1) until_ m.2.2.2.1, rds1)
        else if (buryQ P chs rds1 r.1 dead m.2.2.2.1).1 = 0 then takeQ P name tries dead now until_ k (buryQ P chs rds1 r.1 dead m.2.2.2.1).2.1 (buryQ P chs rds1 r.1 dead m.2.2.2.1).2.2 (zeroS r.1)
        else (noM (buryQ P chs rds1 r.1 dead m.2.2.2.1).1, (buryQ P chs rds1 r.1 dead m.2.2.2.1).2.1, (buryQ P chs rds1 r.1 dead m.2.2.2.1).2.2)
      else (noM m.2.2.2.2, chs, rds1)
    else (noM (firstF L rds (at_, toB name)), chs, rds1)
/-- where a search for messages stands: so many may still come -/
def AtQ (name : ByteArray) (k : Nat) (at_ : ByteArray) : Prop := (at_ = fromB name ∧ 1000001 ≤ k) ∨ ∃ n, n ≤ 999999 ∧ at_ = zeroS (msgB name n) ∧ 1000000 - n ≤ k
theorem hasS_le {f t k : ByteArray} (h : hasS f t k = true) : leS f k = true := by unfold hasS at h; rw [Bool.and_eq_true] at h; exact h.1
theorem leS_zero (a b : ByteArray) : leS (zeroS a) b = ltS a b := by rw [leS_not, ltS_zero, leS_not, Bool.not_not]
theorem AtQ.pos {name at_ : ByteArray} {k : Nat} (h : AtQ name k at_) : 0 < k := by
  rcases h with ⟨_, h⟩ | ⟨n, hn, _, h⟩ <;> omega
theorem from_msg {name : ByteArray} (hq : nameL name.data.toList = true) (n : Nat) : hasS (fromB name) (toB name) (msgB name n) = true := by rw [span_msg hq hq, eqS_refl]
theorem leS_trans {a b c : ByteArray} (h : leS a b = true) (k : leS b c = true) : leS a c = true := by
  rw [leS_iff] at *
  rcases h with h | rfl
  · rcases k with k | rfl
    · exact .inl (ltS_trans h k)
    · exact .inl h
  · exact k
theorem AtQ.span {name at_ key : ByteArray} {k : Nat} (h : AtQ name k at_) (hq : nameL name.data.toList = true) (hs : hasS at_ (toB name) key = true) : hasS (fromB name) (toB name) key = true := by
  rcases h with ⟨rfl, _⟩ | ⟨n, hn, rfl, _⟩
  · exact hs
  · have h1 := hasS_le hs
    rw [leS_zero] at h1
    have h2 := hasS_le (from_msg hq n)
    unfold hasS at hs ⊢
    rw [Bool.and_eq_true] at hs ⊢
    exact ⟨leS_trans h2 ((leS_iff _ _).2 (.inl h1)), hs.2⟩
/-- the next one: it is a message's row, and behind it fewer may come -/
theorem AtQ.next {name at_ key : ByteArray} {k : Nat} (h : AtQ name (k + 1) at_) (hq : nameL name.data.toList = true) (hk : keyL key.data.toList = true) (hs : hasS at_ (toB name) key = true) : ∃ n, n ≤ 999999 ∧ key = msgB name n ∧ AtQ name k (zeroS key) := by
  obtain ⟨n, hn, rfl⟩ := key_in hq hk (h.span hq hs)
  refine ⟨n, hn, rfl, .inr ⟨n, hn, rfl, ?_⟩⟩
  rcases h with ⟨_, h⟩ | ⟨m, hm, rfl, h⟩
  · omega
  · have h1 := hasS_le hs
    rw [leS_zero, msg_lt name hm hn, decide_eq_true_eq] at h1
    omega
/-- the message or an error, changes, reads -/
noncomputable def receiveQ (P : Rws) (chs : List Chg) (rds : Rws) (name : ByteArray) (now long : Int) : Msg × List Chg × Rws :=
  if (findQ P chs rds name).2.2.2 = 0 then
    if timeMay now = true ∧ timeMay long = true then
      if (takeQ P name (findQ P chs rds name).2.1 (findQ P chs rds name).2.2.1 now (now + long) 1000001 chs (findL chs rds name) (fromB name)).1.2.2.2.2 = 0 then takeQ P name (findQ P chs rds name).2.1 (findQ P chs rds name).2.2.1 now (now + long) 1000001 chs (findL chs rds name) (fromB name)
      else (noM (takeQ P name (findQ P chs rds name).2.1 (findQ P chs rds name).2.2.1 now (now + long) 1000001 chs (findL chs rds name) (fromB name)).1.2.2.2.2, chs, (takeQ P name (findQ P chs rds name).2.1 (findQ P chs rds name).2.2.1 now (now + long) 1000001 chs (findL chs rds name) (fromB name)).2.2)
    else (noM 1, chs, findL chs rds name)
  else (noM (findQ P chs rds name).2.2.2, chs, findL chs rds name)
/-- the first error of messages that are read in a row, or none -/
noncomputable def msgsF : Rws → Nat
  | [] => 0
  | r :: l => if (mOf r.2 (numK r.1)).2.2.2.2 = 0 then msgsF l else (mOf r.2 (numK r.1)).2.2.2.2
noncomputable def msgsL (l : Rws) : List Msg := l.map fun r => mOf r.2 (numK r.1)
/-- error, messages, reads -/
noncomputable def messagesQ (P : Rws) (chs : List Chg) (rds : Rws) (name : ByteArray) : Nat × List Msg × Rws :=
  if (findQ P chs rds name).2.2.2 = 0 then
    if scanF (seenP P chs (fromB name, toB name)) (findL chs rds name) (fromB name, toB name) 53 = 0 then
      if msgsF ((seenP P chs (fromB name, toB name)).take 53) = 0 then (0, msgsL ((seenP P chs (fromB name, toB name)).take 53), scanL (seenP P chs (fromB name, toB name)) (findL chs rds name) (fromB name, toB name) 53)
      else (msgsF ((seenP P chs (fromB name, toB name)).take 53), [], scanL (seenP P chs (fromB name, toB name)) (findL chs rds name) (fromB name, toB name) 53)
    else (scanF (seenP P chs (fromB name, toB name)) (findL chs rds name) (fromB name, toB name) 53, [], scanL (seenP P chs (fromB name, toB name)) (findL chs rds name) (fromB name, toB name) 53)
  else ((findQ P chs rds name).2.2.2, [], findL chs rds name)
end Go.Proofs.YtpbhcjkllfonhaaGreatDoor

/-
  What queue.first returns, of every view and span.
-/
namespace Go.Proofs.YtpbhcjkllfonhaaGreatDoor
open Go.RowKit Go.Joins Go.Shelf
attribute [local go_sem ↓] Go.wp_at_zero Go.wp_at_succ

section
variable {w w' : World} {B wb : Nat} {S S' : Nat → Prop} {P : Rws} {since : Int} {chs : List Chg} {rds rds' : Rws}
theorem QV.to (h : QV w B wb S P since chs rds) (hp : PV w' B wb S' P since chs rds') (hs : StepV w w' B S S') : QV w' B wb S' P since chs rds' := ⟨hp, h.ok, fun W hW => h.la W (hs.bel.trans hW)⟩
theorem scanF_one (L rds : Rws) (s : ByteArray × ByteArray) : scanF L rds s 1 = readF rds (rdS L s 1) := if_neg (by omega)
theorem scanL_one (L rds : Rws) (s : ByteArray × ByteArray) : scanL L rds s 1 = readL rds (rdS L s 1) := if_neg (by omega)
theorem qscan_bad (s : ByteArray × ByteArray) (m : Int) (w : World) (h : QV w B wb S P since chs rds) (hm : m ≤ 9223372036854775807) (hf : scanF (seenP P chs s) rds s m ≠ 0) :
    Calls Tryz.prog 40 #[.pointer (some ⟨wb, 0, none⟩), .agg #[.string s.1, .string s.2], .int .i64 m] w fun e w' => e = .returned (.tuple #[.slice none 0 0, errV (scanF (seenP P chs s) rds s m)]) ∧ ActQ w w' B wb S P since chs (scanL (seenP P chs s) rds s m) :=
  (pv_scan s m w h.pv hm).mono fun _ _ hv => ⟨(hv.2 hf).1, h.act h.ok (hv.2 hf).2⟩
def RowsQ (w w' : World) (v : Value) (B wb : Nat) (S : Nat → Prop) (P : Rws) (since : Int) (chs : List Chg) (rds l : Rws) : Prop :=
  ∃ ao cap S', v = .slice ao l.length cap ∧ l.length ≤ cap ∧ cap ≤ 9223372036854775807 ∧ heldSp w' ao l ∧ QV w' B wb S' P since chs rds ∧ StepV w w' B S S' ∧ ∀ b off, ao = some ⟨b, off, none⟩ → w.heap.size ≤ b ∧ b < w'.heap.size ∧ ¬ S' b
theorem qscan_ok (s : ByteArray × ByteArray) (m : Int) (w : World) (h : QV w B wb S P since chs rds) (hm : m ≤ 9223372036854775807) (hf : scanF (seenP P chs s) rds s m = 0) :
    Calls Tryz.prog 40 #[.pointer (some ⟨wb, 0, none⟩), .agg #[.string s.1, .string s.2], .int .i64 m] w fun e w' => ∃ v, e = .returned (.tuple #[v, .nilIface]) ∧ RowsQ w w' v B wb S P since chs (scanL (seenP P chs s) rds s m) ((seenP P chs s).take m.toNat) :=
  (pv_scan s m w h.pv hm).mono fun _ _ hv => by
    obtain ⟨ao, cap, he, hc, hh, S', hp, hs, hn⟩ := hv.1 hf
    exact ⟨_, he, ao, cap, S', rfl, hc.1, hc.2, hh, h.to hp hs, hs, hn⟩
end
set_option maxHeartbeats 4000000 in
theorem qfirst_any (s : ByteArray × ByteArray) {B wb : Nat} {S : Nat → Prop} {P : Rws} {since : Int} {chs : List Chg} {rds : Rws} (w : World) (h : QV w B wb S P since chs rds) :
    Calls Tryz.prog 101 #[.pointer (some ⟨wb, 0, none⟩), .agg #[.string s.1, .string s.2]] w fun e w' => e = .returned (.tuple #[.agg #[.string (firstR (seenP P chs s) rds s).1, .string (firstR (seenP P chs s) rds s).2], errV (firstF (seenP P chs s) rds s)]) ∧ ActQ w w' B wb S P since chs (firstL (seenP P chs s) rds s) := by
  have n1 := err_neq_nil 116
  have hb1 := below_alloc1 w (Obj.cells #[Value.string s.1, Value.string s.2] 102)
  have HX := hide (BoxQ.start (h.on hb1) #[Value.string ⟨#[]⟩, Value.string ⟨#[]⟩] 68)
  have hz : (w.alloc (Obj.cells #[Value.string s.1, Value.string s.2] 102)).heap.size = w.heap.size + 1 := by simp
  have hb2 := below_alloc1 (w.alloc (Obj.cells #[Value.string s.1, Value.string s.2] 102)) (Obj.cells #[Value.string ⟨#[]⟩, Value.string ⟨#[]⟩] 68)
  have HLO := hide h.pv.lo
  have HQ := hide h
  have HPRE := hide (fun (w' : World) (c : List Chg) (r : Rws) => h.pre (w' := w') (chs' := c) (rds' := r) hb1)
  have s0 : ((w.alloc (Obj.cells #[Value.string s.1, Value.string s.2] 102)).alloc (Obj.cells #[Value.string ⟨#[]⟩, Value.string ⟨#[]⟩] 68)).cell? ⟨w.heap.size, 0, none⟩ = some (.string s.1) := cell_on hb2 (cell_new w _ _ 0)
  have s1 : ((w.alloc (Obj.cells #[Value.string s.1, Value.string s.2] 102)).alloc (Obj.cells #[Value.string ⟨#[]⟩, Value.string ⟨#[]⟩] 68)).cell? ⟨w.heap.size, 1, none⟩ = some (.string s.2) := cell_on hb2 (cell_new w _ _ 1)
  have r0 : ((w.alloc (Obj.cells #[Value.string s.1, Value.string s.2] 102)).alloc (Obj.cells #[Value.string ⟨#[]⟩, Value.string ⟨#[]⟩] 68)).cell? ⟨w.heap.size + 1, 0, none⟩ = some (.string ⟨#[]⟩) := by simp
  have r1 : ((w.alloc (Obj.cells #[Value.string s.1, Value.string s.2] 102)).alloc (Obj.cells #[Value.string ⟨#[]⟩, Value.string ⟨#[]⟩] 68)).cell? ⟨w.heap.size + 1, 1, none⟩ = some (.string ⟨#[]⟩) := by simp
  rw [hz] at HX
  have HLO1 : Hid (B ≤ (w.alloc (Obj.cells #[Value.string s.1, Value.string s.2] 102)).heap.size) := hide (by rw [hz]; have := h.pv.lo; omega)
  by_cases hf : readF rds (rdS (seenP P chs s) s 1) = 0
  · have HSC := hide (qscan_ok s 1 _ HX.out.qv (by omega) ((scanF_one _ _ _).trans hf))
    rw [scanL_one, show ((1 : Int).toNat) = 1 from rfl] at HSC
    unfold firstL firstF firstR
    rw [if_pos hf, if_pos hf]
    clear h hb1 hb2 HQ hf
    generalize seenP P chs s = L at *
    generalize readL rds (rdS L s 1) = rds1 at *
    cases L with
    | nil =>
      dsimp only
      rw [List.take_nil] at HSC
      go_enter Tryz.func101, Tryz.ntmps101
      go_wp2_with (first
        | (go_at_call 40; refine HSC.out.mono ?_; rintro e w2 ⟨v, rfl, ha⟩; obtain ⟨ao, cap, S2, rfl, hc1, hc2, hh, hq2, hs2, hn2⟩ := ha; obtain ⟨hx2, eb⟩ := HX.out.go hq2 hs2; have fz := hx2.fz; replace r0 := (World.cell?_of_block eb).trans r0; replace r1 := (World.cell?_of_block eb).trans r1; have HX2 := hide hx2; clear hx2 eb hq2 hs2 hn2 hh; rw [List.length_nil])
        | fail)
      exact bodyPost_ret (v := .tuple #[.agg #[.string ⟨#[]⟩, .string ⟨#[]⟩], errV 12]) (by simp [errV, results, Tryz.results101, go_sem, r0, r1]) rfl ⟨rfl, HPRE.out _ _ _ ((HX2.out.set HLO1.out 0 _).set HLO1.out 1 _).done⟩
    | cons r L =>
      dsimp only
      rw [show (r :: L).take 1 = [r] from rfl] at HSC
      go_enter Tryz.func101, Tryz.ntmps101
      go_wp2_with (first
        | (go_at_call 40; refine HSC.out.mono ?_; rintro e w2 ⟨v, rfl, ha⟩; obtain ⟨ao, cap, S2, rfl, hc1, hc2, hh, hq2, hs2, hn2⟩ := ha; obtain ⟨hx2, eb⟩ := HX.out.go hq2 hs2; have fz := hx2.fz; replace r0 := (World.cell?_of_block eb).trans r0; replace r1 := (World.cell?_of_block eb).trans r1; have HX2 := hide hx2; rcases hh with hh | ⟨b, off, rfl, hh⟩; exact absurd hh (by simp); have a0 := (hh 0 (by simp)).1; have a1 := (hh 0 (by simp)).2; have hn3 := hn2 b off rfl; clear hx2 eb hq2 hs2 hn2 hh; rw [List.length_singleton]; simp only [Nat.zero_mul, Nat.add_zero, List.getElem_cons_zero] at a0 a1)
        | fail)
      exact bodyPost_ret (v := .tuple #[.agg #[.string r.1, .string r.2], errV 0]) (by simp [errV, results, Tryz.results101, go_sem, r0, r1]) rfl ⟨rfl, HPRE.out _ _ _ ((HX2.out.set HLO1.out 0 _).set HLO1.out 1 _).done⟩
  · have HSC := hide (qscan_bad s 1 _ HX.out.qv (by omega) (fun e => hf ((scanF_one _ _ _).symm.trans e)))
    rw [scanL_one, scanF_one] at HSC
    unfold firstL firstF firstR
    rw [if_neg hf, if_neg hf]
    clear h hb1 hb2 HQ
    generalize seenP P chs s = L at *
    generalize readL rds (rdS L s 1) = rds1 at *
    generalize readF rds (rdS L s 1) = f at *
    have HE := hide (errV_pos hf)
    clear hf
    go_enter Tryz.func101, Tryz.ntmps101
    go_wp2_with (first
      | (go_at_call 40; refine HSC.out.mono ?_; rintro e w2 ⟨rfl, ha⟩; obtain ⟨S2, hx2, eb⟩ := HX.out.act ha; have fz := hx2.fz; replace r0 := (World.cell?_of_block eb).trans r0; replace r1 := (World.cell?_of_block eb).trans r1; have HX2 := hide hx2; clear ha hx2 eb; rw [HE.out])
      | fail)
    exact bodyPost_ret (v := .tuple #[.agg #[.string ⟨#[]⟩, .string ⟨#[]⟩], errV f]) (by simp [results, Tryz.results101, go_sem, r0, r1, HE.out]) rfl ⟨rfl, HPRE.out _ _ _ ((HX2.out.set HLO1.out 0 _).set HLO1.out 1 _).done⟩
end Go.Proofs.YtpbhcjkllfonhaaGreatDoor
