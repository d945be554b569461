/-
  What a message's taking up makes of a view, by plain functions.
-/
import Derived.Test.YtighpalbodhfeaaGreatDoorQueAdd
import Derived.Test.YtighpalbodhfeaaGreatDoorShelfL
namespace Go.Proofs.YtighpalbodhfeaaGreatDoor
open Go.RowKit Go.Joins

/-- the number that a message's key bears -/
def numK (k : ByteArray) : Int := (Lib.atoi (k.data.toList.drop (k.size - 6))).getD 0
theorem numK_msg (q : ByteArray) {n : Nat} (hn : n ≤ 999999) : numK (msgB q n) = n := by
  have ql : q.data.toList.length = q.size := by rw [Array.length_toList]; rfl
  unfold numK
  rw [msg_size, msgB_l, show q.size + 9 - 6 = q.size + 3 by omega, ← ql]
  have d : (109 :: 47 :: (q.data.toList ++ 47 :: six n)).drop (q.data.toList.length + 3) = six n := by
    rw [List.drop_succ_cons, List.drop_succ_cons, List.drop_append]; simp
  rw [d, atoi_six n hn]
  rfl
/-- the first row of a span, of those that are seen: its error, and what was read -/
def firstF (L rds : Rws) (s : ByteArray × ByteArray) : Nat := if readF rds (rdS L s 1) = 0 then (match L with | [] => 12 | _ :: _ => 0) else readF rds (rdS L s 1)
def firstR (L rds : Rws) (s : ByteArray × ByteArray) : ByteArray × ByteArray := if readF rds (rdS L s 1) = 0 then (match L with | [] => (⟨#[]⟩, ⟨#[]⟩) | r :: _ => r) else (⟨#[]⟩, ⟨#[]⟩)
def firstL (L rds : Rws) (s : ByteArray × ByteArray) : Rws := readL rds (rdS L s 1)
theorem first_ok {L rds : Rws} {s : ByteArray × ByteArray} (h : firstF L rds s = 0) : firstR L rds s ∈ L := by
  unfold firstF at h
  unfold firstR
  split at h
  · rename_i h0
    rw [if_pos h0]
    cases L with
    | nil => cases h
    | cons r L => exact List.mem_cons_self ..
  · rename_i h0; exact absurd h h0
/-- error, changes, reads -/
noncomputable def buryQ (P : Rws) (chs : List Chg) (rds : Rws) (key dead body : ByteArray) : Nat × List Chg × Rws :=
  if alterF chs ⟨key, ⟨#[]⟩, true⟩ = 0 then
    if nilS dead = true then (0, alterL chs ⟨key, ⟨#[]⟩, true⟩, rds)
    else if (findQ P (alterL chs ⟨key, ⟨#[]⟩, true⟩) rds dead).2.2.2 = 0 then
      ((addQ (alterL chs ⟨key, ⟨#[]⟩, true⟩) dead (findQ P (alterL chs ⟨key, ⟨#[]⟩, true⟩) rds dead).1 (findQ P (alterL chs ⟨key, ⟨#[]⟩, true⟩) rds dead).2.1 (findQ P (alterL chs ⟨key, ⟨#[]⟩, true⟩) rds dead).2.2.1 body 0).2.1,
       (addQ (alterL chs ⟨key, ⟨#[]⟩, true⟩) dead (findQ P (alterL chs ⟨key, ⟨#[]⟩, true⟩) rds dead).1 (findQ P (alterL chs ⟨key, ⟨#[]⟩, true⟩) rds dead).2.1 (findQ P (alterL chs ⟨key, ⟨#[]⟩, true⟩) rds dead).2.2.1 body 0).2.2,
       findL (alterL chs ⟨key, ⟨#[]⟩, true⟩) rds dead)
    else ((findQ P (alterL chs ⟨key, ⟨#[]⟩, true⟩) rds dead).2.2.2, alterL chs ⟨key, ⟨#[]⟩, true⟩, findL (alterL chs ⟨key, ⟨#[]⟩, true⟩) rds dead)
  else (alterF chs ⟨key, ⟨#[]⟩, true⟩, alterL chs ⟨key, ⟨#[]⟩, true⟩, rds)
/-- the message or an error, changes, reads -/
noncomputable def takeQ (P : Rws) (name : ByteArray) (tries : Int) (dead : ByteArray) (now until_ : Int) : Nat → List Chg → Rws → ByteArray → Msg × List Chg × Rws
  | 0, chs, rds, _ => (noM 0, chs, rds)
  | k + 1, chs, rds, at_ =>
    let L := seenP P chs (at_, toB name)
    let rds1 := firstL L rds (at_, toB name)
    if firstF L rds (at_, toB name) = 0 then
      let r := firstR L rds (at_, toB name)
      let m := mOf r.2 (numK r.1)
      if m.2.2.2.2 = 0 then
        if now < m.2.2.1 then takeQ P name tries dead now until_ k chs rds1 (zeroS r.1)
        else if m.2.1 < tries then ((m.1, m.2.1 + 1, until_, m.2.2.2.1, putMF chs name m.1 (m.2.1 + 1) until_ m.2.2.2.1), putML chs name m.1 (m.2.1 + 1) until_ m.2.2.2.1, rds1)
        else if (buryQ P chs rds1 r.1 dead m.2.2.2.1).1 = 0 then takeQ P name tries dead now until_ k (buryQ P chs rds1 r.1 dead m.2.2.2.1).2.1 (buryQ P chs rds1 r.1 dead m.2.2.2.1).2.2 (zeroS r.1)
        else (noM (buryQ P chs rds1 r.1 dead m.2.2.2.1).1, (buryQ P chs rds1 r.1 dead m.2.2.2.1).2.1, (buryQ P chs rds1 r.1 dead m.2.2.2.1).2.2)
      else (noM m.2.2.2.2, chs, rds1)
    else (noM (firstF L rds (at_, toB name)), chs, rds1)
/-- where a search for messages stands: so many may still come -/
def AtQ (name : ByteArray) (k : Nat) (at_ : ByteArray) : Prop := (at_ = fromB name ∧ 1000001 ≤ k) ∨ ∃ n, n ≤ 999999 ∧ at_ = zeroS (msgB name n) ∧ 1000000 - n ≤ k
theorem hasS_le {f t k : ByteArray} (h : hasS f t k = true) : leS f k = true := by unfold hasS at h; rw [Bool.and_eq_true] at h; exact h.1
theorem leS_zero (a b : ByteArray) : leS (zeroS a) b = ltS a b := by rw [leS_not, ltS_zero, leS_not, Bool.not_not]
theorem AtQ.pos {name at_ : ByteArray} {k : Nat} (h : AtQ name k at_) : 0 < k := by
  rcases h with ⟨_, h⟩ | ⟨n, hn, _, h⟩ <;> omega
theorem from_msg {name : ByteArray} (hq : nameL name.data.toList = true) (n : Nat) : hasS (fromB name) (toB name) (msgB name n) = true := by rw [span_msg hq hq, eqS_refl]
theorem leS_trans {a b c : ByteArray} (h : leS a b = true) (k : leS b c = true) : leS a c = true := by
  rw [leS_iff] at *
  rcases h with h | rfl
  · rcases k with k | rfl
    · exact .inl (ltS_trans h k)
    · exact .inl h
  · exact k
theorem AtQ.span {name at_ key : ByteArray} {k : Nat} (h : AtQ name k at_) (hq : nameL name.data.toList = true) (hs : hasS at_ (toB name) key = true) : hasS (fromB name) (toB name) key = true := by
  rcases h with ⟨rfl, _⟩ | ⟨n, hn, rfl, _⟩
  · exact hs
  · have h1 := hasS_le hs
    rw [leS_zero] at h1
    have h2 := hasS_le (from_msg hq n)
    unfold hasS at hs ⊢
    rw [Bool.and_eq_true] at hs ⊢
    exact ⟨leS_trans h2 ((leS_iff _ _).2 (.inl h1)), hs.2⟩
/-- the next one: it is a message's row, and behind it fewer may come -/
theorem AtQ.next {name at_ key : ByteArray} {k : Nat} (h : AtQ name (k + 1) at_) (hq : nameL name.data.toList = true) (hk : keyL key.data.toList = true) (hs : hasS at_ (toB name) key = true) : ∃ n, n ≤ 999999 ∧ key = msgB name n ∧ AtQ name k (zeroS key) := by
  obtain ⟨n, hn, rfl⟩ := key_in hq hk (h.span hq hs)
  refine ⟨n, hn, rfl, .inr ⟨n, hn, rfl, ?_⟩⟩
  rcases h with ⟨_, h⟩ | ⟨m, hm, rfl, h⟩
  · omega
  · have h1 := hasS_le hs
    rw [leS_zero, msg_lt name hm hn, decide_eq_true_eq] at h1
    omega
/-- the message or an error, changes, reads -/
noncomputable def receiveQ (P : Rws) (chs : List Chg) (rds : Rws) (name : ByteArray) (now long : Int) : Msg × List Chg × Rws :=
  if (findQ P chs rds name).2.2.2 = 0 then
    if timeMay now = true ∧ timeMay long = true then
      if (takeQ P name (findQ P chs rds name).2.1 (findQ P chs rds name).2.2.1 now (now + long) 1000001 chs (findL chs rds name) (fromB name)).1.2.2.2.2 = 0 then takeQ P name (findQ P chs rds name).2.1 (findQ P chs rds name).2.2.1 now (now + long) 1000001 chs (findL chs rds name) (fromB name)
      else (noM (takeQ P name (findQ P chs rds name).2.1 (findQ P chs rds name).2.2.1 now (now + long) 1000001 chs (findL chs rds name) (fromB name)).1.2.2.2.2, chs, (takeQ P name (findQ P chs rds name).2.1 (findQ P chs rds name).2.2.1 now (now + long) 1000001 chs (findL chs rds name) (fromB name)).2.2)
    else (noM 1, chs, findL chs rds name)
  else (noM (findQ P chs rds name).2.2.2, chs, findL chs rds name)
/-- the first error of messages that are read in a row, or none -/
noncomputable def msgsF : Rws → Nat
  | [] => 0
  | r :: l => if (mOf r.2 (numK r.1)).2.2.2.2 = 0 then msgsF l else (mOf r.2 (numK r.1)).2.2.2.2
noncomputable def msgsL (l : Rws) : List Msg := l.map fun r => mOf r.2 (numK r.1)
/-- error, messages, reads -/
noncomputable def messagesQ (P : Rws) (chs : List Chg) (rds : Rws) (name : ByteArray) : Nat × List Msg × Rws :=
  if (findQ P chs rds name).2.2.2 = 0 then
    if scanF (seenP P chs (fromB name, toB name)) (findL chs rds name) (fromB name, toB name) 53 = 0 then
      if msgsF ((seenP P chs (fromB name, toB name)).take 53) = 0 then (0, msgsL ((seenP P chs (fromB name, toB name)).take 53), scanL (seenP P chs (fromB name, toB name)) (findL chs rds name) (fromB name, toB name) 53)
      else (msgsF ((seenP P chs (fromB name, toB name)).take 53), [], scanL (seenP P chs (fromB name, toB name)) (findL chs rds name) (fromB name, toB name) 53)
    else (scanF (seenP P chs (fromB name, toB name)) (findL chs rds name) (fromB name, toB name) 53, [], scanL (seenP P chs (fromB name, toB name)) (findL chs rds name) (fromB name, toB name) 53)
  else ((findQ P chs rds name).2.2.2, [], findL chs rds name)
end Go.Proofs.YtighpalbodhfeaaGreatDoor

/-
  What queue.first returns, of every view and span.
-/
namespace Go.Proofs.YtighpalbodhfeaaGreatDoor
open Go.RowKit Go.Joins Go.Shelf
attribute [local go_sem ↓] Go.wp_at_zero Go.wp_at_succ

section
variable {w w' : World} {B wb : Nat} {S S' : Nat → Prop} {P : Rws} {since : Int} {chs : List Chg} {rds rds' : Rws}
theorem QV.to (h : QV w B wb S P since chs rds) (hp : PV w' B wb S' P since chs rds') (hs : StepV w w' B S S') : QV w' B wb S' P since chs rds' := ⟨hp, h.ok, fun W hW => h.la W (hs.bel.trans hW)⟩
theorem scanF_one (L rds : Rws) (s : ByteArray × ByteArray) : scanF L rds s 1 = readF rds (rdS L s 1) := if_neg (by omega)
theorem scanL_one (L rds : Rws) (s : ByteArray × ByteArray) : scanL L rds s 1 = readL rds (rdS L s 1) := if_neg (by omega)
theorem qscan_bad (s : ByteArray × ByteArray) (m : Int) (w : World) (h : QV w B wb S P since chs rds) (hm : m ≤ 9223372036854775807) (hf : scanF (seenP P chs s) rds s m ≠ 0) :
    Calls Tryz.prog 33 #[.pointer (some ⟨wb, 0, none⟩), .agg #[.string s.1, .string s.2], .int .i64 m] w fun e w' => e = .returned (.tuple #[.slice none 0 0, errV (scanF (seenP P chs s) rds s m)]) ∧ ActQ w w' B wb S P since chs (scanL (seenP P chs s) rds s m) :=
  (pv_scan s m w h.pv hm).mono fun _ _ hv => ⟨(hv.2 hf).1, h.act h.ok (hv.2 hf).2⟩
def RowsQ (w w' : World) (v : Value) (B wb : Nat) (S : Nat → Prop) (P : Rws) (since : Int) (chs : List Chg) (rds l : Rws) : Prop :=
  ∃ ao cap S', v = .slice ao l.length cap ∧ l.length ≤ cap ∧ cap ≤ 9223372036854775807 ∧ heldSp w' ao l ∧ QV w' B wb S' P since chs rds ∧ StepV w w' B S S' ∧ ∀ b off, ao = some ⟨b, off, none⟩ → w.heap.size ≤ b ∧ b < w'.heap.size ∧ ¬ S' b
theorem qscan_ok (s : ByteArray × ByteArray) (m : Int) (w : World) (h : QV w B wb S P since chs rds) (hm : m ≤ 9223372036854775807) (hf : scanF (seenP P chs s) rds s m = 0) :
    Calls Tryz.prog 33 #[.pointer (some ⟨wb, 0, none⟩), .agg #[.string s.1, .string s.2], .int .i64 m] w fun e w' => ∃ v, e = .returned (.tuple #[v, .nilIface]) ∧ RowsQ w w' v B wb S P since chs (scanL (seenP P chs s) rds s m) ((seenP P chs s).take m.toNat) :=
  (pv_scan s m w h.pv hm).mono fun _ _ hv => by
    obtain ⟨ao, cap, he, hc, hh, S', hp, hs, hn⟩ := hv.1 hf
    exact ⟨_, he, ao, cap, S', rfl, hc.1, hc.2, hh, h.to hp hs, hs, hn⟩
end
set_option maxHeartbeats 4000000 in
theorem qfirst_any (s : ByteArray × ByteArray) {B wb : Nat} {S : Nat → Prop} {P : Rws} {since : Int} {chs : List Chg} {rds : Rws} (w : World) (h : QV w B wb S P since chs rds) :
    Calls Tryz.prog 95 #[.pointer (some ⟨wb, 0, none⟩), .agg #[.string s.1, .string s.2]] w fun e w' => e = .returned (.tuple #[.agg #[.string (firstR (seenP P chs s) rds s).1, .string (firstR (seenP P chs s) rds s).2], errV (firstF (seenP P chs s) rds s)]) ∧ ActQ w w' B wb S P since chs (firstL (seenP P chs s) rds s) := by
  have n1 := err_neq_nil 108
  have hb1 := below_alloc1 w (Obj.cells #[Value.string s.1, Value.string s.2] 91)
  have HX := hide (BoxQ.start (h.on hb1) #[Value.string ⟨#[]⟩, Value.string ⟨#[]⟩] 55)
  have hz : (w.alloc (Obj.cells #[Value.string s.1, Value.string s.2] 91)).heap.size = w.heap.size + 1 := by simp
  have hb2 := below_alloc1 (w.alloc (Obj.cells #[Value.string s.1, Value.string s.2] 91)) (Obj.cells #[Value.string ⟨#[]⟩, Value.string ⟨#[]⟩] 55)
  have HLO := hide h.pv.lo
  have HQ := hide h
  have HPRE := hide (fun (w' : World) (c : List Chg) (r : Rws) => h.pre (w' := w') (chs' := c) (rds' := r) hb1)
  have s0 : ((w.alloc (Obj.cells #[Value.string s.1, Value.string s.2] 91)).alloc (Obj.cells #[Value.string ⟨#[]⟩, Value.string ⟨#[]⟩] 55)).cell? ⟨w.heap.size, 0, none⟩ = some (.string s.1) := cell_on hb2 (cell_new w _ _ 0)
  have s1 : ((w.alloc (Obj.cells #[Value.string s.1, Value.string s.2] 91)).alloc (Obj.cells #[Value.string ⟨#[]⟩, Value.string ⟨#[]⟩] 55)).cell? ⟨w.heap.size, 1, none⟩ = some (.string s.2) := cell_on hb2 (cell_new w _ _ 1)
  have r0 : ((w.alloc (Obj.cells #[Value.string s.1, Value.string s.2] 91)).alloc (Obj.cells #[Value.string ⟨#[]⟩, Value.string ⟨#[]⟩] 55)).cell? ⟨w.heap.size + 1, 0, none⟩ = some (.string ⟨#[]⟩) := by simp
  have r1 : ((w.alloc (Obj.cells #[Value.string s.1, Value.string s.2] 91)).alloc (Obj.cells #[Value.string ⟨#[]⟩, Value.string ⟨#[]⟩] 55)).cell? ⟨w.heap.size + 1, 1, none⟩ = some (.string ⟨#[]⟩) := by simp
  rw [hz] at HX
  have HLO1 : Hid (B ≤ (w.alloc (Obj.cells #[Value.string s.1, Value.string s.2] 91)).heap.size) := hide (by rw [hz]; have := h.pv.lo; omega)
  by_cases hf : readF rds (rdS (seenP P chs s) s 1) = 0
  · have HSC := hide (qscan_ok s 1 _ HX.out.qv (by omega) ((scanF_one _ _ _).trans hf))
    rw [scanL_one, show ((1 : Int).toNat) = 1 from rfl] at HSC
    unfold firstL firstF firstR
    rw [if_pos hf, if_pos hf]
    clear h hb1 hb2 HQ hf
    generalize seenP P chs s = L at *
    generalize readL rds (rdS L s 1) = rds1 at *
    cases L with
    | nil =>
      dsimp only
      rw [List.take_nil] at HSC
      go_enter Tryz.func95, Tryz.ntmps95
      go_wp2_with (first
        | (go_at_call 33; refine HSC.out.mono ?_; rintro e w2 ⟨v, rfl, ha⟩; obtain ⟨ao, cap, S2, rfl, hc1, hc2, hh, hq2, hs2, hn2⟩ := ha; obtain ⟨hx2, eb⟩ := HX.out.go hq2 hs2; have fz := hx2.fz; replace r0 := (World.cell?_of_block eb).trans r0; replace r1 := (World.cell?_of_block eb).trans r1; have HX2 := hide hx2; clear hx2 eb hq2 hs2 hn2 hh; rw [List.length_nil])
        | fail)
      exact bodyPost_ret (v := .tuple #[.agg #[.string ⟨#[]⟩, .string ⟨#[]⟩], errV 12]) (by simp [errV, results, Tryz.results95, go_sem, r0, r1]) rfl ⟨rfl, HPRE.out _ _ _ ((HX2.out.set HLO1.out 0 _).set HLO1.out 1 _).done⟩
    | cons r L =>
      dsimp only
      rw [show (r :: L).take 1 = [r] from rfl] at HSC
      go_enter Tryz.func95, Tryz.ntmps95
      go_wp2_with (first
        | (go_at_call 33; refine HSC.out.mono ?_; rintro e w2 ⟨v, rfl, ha⟩; obtain ⟨ao, cap, S2, rfl, hc1, hc2, hh, hq2, hs2, hn2⟩ := ha; obtain ⟨hx2, eb⟩ := HX.out.go hq2 hs2; have fz := hx2.fz; replace r0 := (World.cell?_of_block eb).trans r0; replace r1 := (World.cell?_of_block eb).trans r1; have HX2 := hide hx2; rcases hh with hh | ⟨b, off, rfl, hh⟩; exact absurd hh (by simp); have a0 := (hh 0 (by simp)).1; have a1 := (hh 0 (by simp)).2; have hn3 := hn2 b off rfl; clear hx2 eb hq2 hs2 hn2 hh; rw [List.length_singleton]; simp only [Nat.zero_mul, Nat.add_zero, List.getElem_cons_zero] at a0 a1)
        | fail)
      exact bodyPost_ret (v := .tuple #[.agg #[.string r.1, .string r.2], errV 0]) (by simp [errV, results, Tryz.results95, go_sem, r0, r1]) rfl ⟨rfl, HPRE.out _ _ _ ((HX2.out.set HLO1.out 0 _).set HLO1.out 1 _).done⟩
  · have HSC := hide (qscan_bad s 1 _ HX.out.qv (by omega) (fun e => hf ((scanF_one _ _ _).symm.trans e)))
    rw [scanL_one, scanF_one] at HSC
    unfold firstL firstF firstR
    rw [if_neg hf, if_neg hf]
    clear h hb1 hb2 HQ
    generalize seenP P chs s = L at *
    generalize readL rds (rdS L s 1) = rds1 at *
    generalize readF rds (rdS L s 1) = f at *
    have HE := hide (errV_pos hf)
    clear hf
    go_enter Tryz.func95, Tryz.ntmps95
    go_wp2_with (first
      | (go_at_call 33; refine HSC.out.mono ?_; rintro e w2 ⟨rfl, ha⟩; obtain ⟨S2, hx2, eb⟩ := HX.out.act ha; have fz := hx2.fz; replace r0 := (World.cell?_of_block eb).trans r0; replace r1 := (World.cell?_of_block eb).trans r1; have HX2 := hide hx2; clear ha hx2 eb; rw [HE.out])
      | fail)
    exact bodyPost_ret (v := .tuple #[.agg #[.string ⟨#[]⟩, .string ⟨#[]⟩], errV f]) (by simp [results, Tryz.results95, go_sem, r0, r1, HE.out]) rfl ⟨rfl, HPRE.out _ _ _ ((HX2.out.set HLO1.out 0 _).set HLO1.out 1 _).done⟩
end Go.Proofs.YtighpalbodhfeaaGreatDoor

/-
  What queue.parse returns of a message's row.
-/
namespace Go.Proofs.YtighpalbodhfeaaGreatDoor
open Go.RowKit Go.Joins Go.Shelf
attribute [local go_sem ↓] Go.wp_at_zero Go.wp_at_succ

theorem atoi_key (s : ByteArray) (n : Nat) (w : World) (hn : n ≤ 999999) (hs : s.data.toList = six n) : Calls Tryz.prog 122 #[.string s] w fun e w' => e = .returned (.tuple #[.int .i64 n, .nilIface]) ∧ Below w.heap.size w w' :=
  (Tryz.strconv_Atoi s n (by rw [Lib.size_eq, hs]; show 6 ≤ _; omega) (by rw [hs]; exact atoi_six n hn) w).mono fun e w' ⟨he, t, hw⟩ =>
    ⟨he, by rw [hw]; exact below_bytesWorld _ w 5 t (Nat.le_refl _)⟩
set_option maxHeartbeats 4000000 in
theorem qparse_any (q : ByteArray) (n : Nat) (val : ByteArray) (w : World) (hq : q.size ≤ 1000) (hn : n ≤ 999999) (hv : val.size ≤ 100) (hL : ∀ W, Below w.heap.size w W → Laid W) :
    Calls Tryz.prog 86 #[.agg #[.string (msgB q n), .string val]] w fun e w' => e = .returned (.tuple #[mV (mOf val n), errV (mOf val n).2.2.2.2]) ∧ Below w.heap.size w w' := by
  have hks := msg_size q n
  have HLI := hide (fun W => call_val (Tryz.strings_LastIndexByte (msgB q n) 47 (by omega) W) (congrArg (Value.int .i64) (last_stroke (q := q) n)))
  have HDG := hide (digits_of (q := q) n)
  have hb1 := below_alloc1 w (Obj.cells #[Value.string (msgB q n), Value.string val] 55)
  have hb2 := below_alloc1 (w.alloc (Obj.cells #[Value.string (msgB q n), Value.string val] 55)) (Obj.cells #[Value.int .i64 0, Value.int .i64 0, Value.int .i64 0, Value.string ⟨#[]⟩] 48)
  have HB := hide (below_on hb1 (Nat.le_refl _) hb2)
  have HM := hide (fun W (hW : Below w.heap.size w W) => mOf_prog val n hv W (hL W hW))
  have k0 : ((w.alloc (Obj.cells #[Value.string (msgB q n), Value.string val] 55)).alloc (Obj.cells #[Value.int .i64 0, Value.int .i64 0, Value.int .i64 0, Value.string ⟨#[]⟩] 48)).cell? ⟨w.heap.size, 0, none⟩ = some (.string (msgB q n)) := cell_on hb2 (cell_new w _ _ 0)
  have k1 : ((w.alloc (Obj.cells #[Value.string (msgB q n), Value.string val] 55)).alloc (Obj.cells #[Value.int .i64 0, Value.int .i64 0, Value.int .i64 0, Value.string ⟨#[]⟩] 48)).cell? ⟨w.heap.size, 1, none⟩ = some (.string val) := cell_on hb2 (cell_new w _ _ 1)
  have hz : (w.alloc (Obj.cells #[Value.string (msgB q n), Value.string val] 55)).heap.size = w.heap.size + 1 := by simp
  have r0 : ((w.alloc (Obj.cells #[Value.string (msgB q n), Value.string val] 55)).alloc (Obj.cells #[Value.int .i64 0, Value.int .i64 0, Value.int .i64 0, Value.string ⟨#[]⟩] 48)).cell? ⟨w.heap.size + 1, 0, none⟩ = some (.int .i64 0) := by simp
  have r1 : ((w.alloc (Obj.cells #[Value.string (msgB q n), Value.string val] 55)).alloc (Obj.cells #[Value.int .i64 0, Value.int .i64 0, Value.int .i64 0, Value.string ⟨#[]⟩] 48)).cell? ⟨w.heap.size + 1, 1, none⟩ = some (.int .i64 0) := by simp
  have r2 : ((w.alloc (Obj.cells #[Value.string (msgB q n), Value.string val] 55)).alloc (Obj.cells #[Value.int .i64 0, Value.int .i64 0, Value.int .i64 0, Value.string ⟨#[]⟩] 48)).cell? ⟨w.heap.size + 1, 2, none⟩ = some (.int .i64 0) := by simp
  have r3 : ((w.alloc (Obj.cells #[Value.string (msgB q n), Value.string val] 55)).alloc (Obj.cells #[Value.int .i64 0, Value.int .i64 0, Value.int .i64 0, Value.string ⟨#[]⟩] 48)).cell? ⟨w.heap.size + 1, 3, none⟩ = some (.string ⟨#[]⟩) := by simp
  have fz0 : ∀ j, ((w.alloc (Obj.cells #[Value.string (msgB q n), Value.string val] 55)).alloc (Obj.cells #[Value.int .i64 0, Value.int .i64 0, Value.int .i64 0, Value.string ⟨#[]⟩] 48)).frozen? ⟨w.heap.size + 1, j, none⟩ = false := by rw [← hz]; exact frozen_new _ _ _
  have hsz : ((w.alloc (Obj.cells #[Value.string (msgB q n), Value.string val] 55)).alloc (Obj.cells #[Value.int .i64 0, Value.int .i64 0, Value.int .i64 0, Value.string ⟨#[]⟩] 48)).heap.size = w.heap.size + 2 := by simp
  clear hb1 hb2 hz hL
  generalize mOf val n = m at *
  obtain ⟨mk, mt, mu, md, em⟩ := m
  dsimp only at HM ⊢
  go_enter Tryz.func86, Tryz.ntmps86
  go_wp2
  generalize (w.alloc (Obj.cells #[Value.string (msgB q n), Value.string val] 55)).alloc (Obj.cells #[Value.int .i64 0, Value.int .i64 0, Value.int .i64 0, Value.string ⟨#[]⟩] 48) = X at *
  generalize hK : msgB q n = K at *
  clear hK
  have nS := OnW.some X
  have n0 : ∀ m : OnW X, m.w.cell? ⟨w.heap.size, 0, none⟩ = some (.string K) := fun m => m.cell k0
  have hw1 : IntKind.i64.wrap ((q.size : Int) + 2 + 1) = (q.size : Int) + 3 := by rw [IntKind.wrap_i64]; omega
  have h03 : (0 : Int) ≤ (q.size : Int) + 3 := by omega
  have h3l : (q.size : Int) + 3 ≤ (K.size : Int) := by omega
  have h3t : ((q.size : Int) + 3).toNat = q.size + 3 := by omega
  refine wp_region_on (by kernel_rfl) (by kernel_rfl) ?_
  repeat (go_big_quiet_step ((first
    | (go_at_call 121; rename_i m; exact on_same (HLI.out _)))))
  refine wpQuiet_nil ?_
  intro w3 hw3
  replace hw3 := on_end hw3
  have HB3 := hide (below_on HB.out (Nat.le_refl _) hw3)
  have HS := hide (show w.heap.size + 1 < X.heap.size by omega)
  replace k1 := cell_on hw3 k1
  replace r0 := cell_on hw3 r0
  replace r1 := cell_on hw3 r1
  replace r2 := cell_on hw3 r2
  replace r3 := cell_on hw3 r3
  have fz3 : ∀ j, w3.frozen? ⟨w.heap.size + 1, j, none⟩ = false := fun j => frozen_on hw3 HS.out (fz0 j)
  have hs3 : w.heap.size + 1 < w3.heap.size := Nat.lt_of_lt_of_le HS.out hw3.size
  clear fz0 k0 n0 nS hw3 hsz
  go_wp2_with (first
    | (go_at_call 122; refine (atoi_key _ n _ hn HDG.out).mono ?_; rintro e w4 ⟨rfl, hb4⟩; have HB4 := hide (below_on HB3.out (Nat.le_refl _) hb4); replace k1 := cell_on hb4 k1; replace r0 := cell_on hb4 r0; replace r1 := cell_on hb4 r1; replace r2 := cell_on hb4 r2; replace r3 := cell_on hb4 r3; have fz4 : ∀ j, w4.frozen? ⟨w.heap.size + 1, j, none⟩ = false := fun j => frozen_on hb4 hs3 (fz3 j); have hs4 := Nat.lt_of_lt_of_le hs3 hb4.size; clear hb4 fz3 hs3)
    | (go_at_call 98; refine (HM.out _ HB4.out).mono ?_; rintro e w5 ⟨rfl, hb5⟩; have HB5 := hide (below_on HB4.out (Nat.le_refl _) hb5); replace r0 := cell_on hb5 r0; replace r1 := cell_on hb5 r1; replace r2 := cell_on hb5 r2; replace r3 := cell_on hb5 r3; have fz5 : ∀ j, w5.frozen? ⟨w.heap.size + 1, j, none⟩ = false := fun j => frozen_on hb5 hs4 (fz4 j); clear hb5 fz4 hs4)
    | fail)
  exact bodyPost_ret (v := .tuple #[mV (mk, mt, mu, md, em), errV em]) (by simp [results, Tryz.results86, go_sem, r0, r1, r2, r3]) rfl ⟨rfl, (((HB5.out.setCell (p := ⟨w.heap.size + 1, 0, none⟩) (Nat.le_succ _) _).setCell (p := ⟨w.heap.size + 1, 1, none⟩) (Nat.le_succ _) _).setCell (p := ⟨w.heap.size + 1, 2, none⟩) (Nat.le_succ _) _).setCell (p := ⟨w.heap.size + 1, 3, none⟩) (Nat.le_succ _) _⟩
end Go.Proofs.YtighpalbodhfeaaGreatDoor

/-
  What queue.bury returns, of every view.
-/
namespace Go.Proofs.YtighpalbodhfeaaGreatDoor
open Go.RowKit Go.Joins Go.Shelf
attribute [local go_sem ↓] Go.wp_at_zero Go.wp_at_succ

set_option maxHeartbeats 4000000 in
theorem qbury_any (key dead body : ByteArray) {B wb : Nat} {S : Nat → Prop} {P : Rws} {since : Int} {chs : List Chg} {rds : Rws} (w : World) (h : QV w B wb S P since chs rds) (hk : key.size ≤ maxLen) (hd : dead.size ≤ 1000) :
    Calls Tryz.prog 96 #[.pointer (some ⟨wb, 0, none⟩), .string key, .string dead, .string body] w fun e w' => e = .returned (errV (buryQ P chs rds key dead body).1) ∧ ActQ w w' B wb S P since (buryQ P chs rds key dead body).2.1 (buryQ P chs rds key dead body).2.2 := by
  have n1 := err_neq_nil 108
  have HD := hide (qv_delete key w h hk)
  have HF := hide (fun (S1 : Nat → Prop) (W : World) (hW : QV W B wb S1 P since (alterL chs ⟨key, ⟨#[]⟩, true⟩) rds) => qfind_any dead W hW hd)
  have HFO := hide (fun h => findQ_ok (P := P) (chs := alterL chs ⟨key, ⟨#[]⟩, true⟩) (rds := rds) (name := dead) h)
  unfold buryQ
  clear h
  generalize alterF chs ⟨key, ⟨#[]⟩, true⟩ = f1 at *
  generalize alterL chs ⟨key, ⟨#[]⟩, true⟩ = chs1 at *
  generalize findQ P chs1 rds dead = q at *
  generalize findL chs1 rds dead = rds1 at *
  obtain ⟨qx, qy, qd, er⟩ := q
  dsimp only at HF HFO ⊢
  by_cases h1 : f1 = 0
  · subst h1
    rw [if_pos rfl]
    have HE1 := hide errV_zero
    cases hde : nilS dead with
    | true =>
      have hde' : (dead.toList == []) = true := by rw [List.isEmpty_iff.1 hde]; rfl
      rw [if_pos rfl]
      clear hde
      go_enter Tryz.func96, Tryz.ntmps96
      go_wp2_with (first
        | (go_at_call 30; refine HD.out.mono ?_; rintro e w1 ⟨rfl, ha⟩; have HA := hide ha; clear ha; rw [HE1.out])
        | fail)
      go_ret
      exact ⟨rfl, HA.out⟩
    | false =>
      have hde' : (dead.toList == []) = false := by unfold nilS at hde; cases e : dead.toList with | nil => rw [e] at hde; cases hde | cons a l => rfl
      rw [if_neg (by simp)]
      clear hde
      by_cases h2 : er = 0
      · subst h2
        rw [if_pos rfl]
        have HE2 := hide errV_zero
        obtain ⟨hx0, hx1, hd6, _, _⟩ := HFO.out rfl
        have HADD := hide (fun (S2 : Nat → Prop) (W : World) (hW : QV W B wb S2 P since chs1 rds1) => qadd_any dead qx qy qd body 0 W hW hd (by omega) hx0 hx1)
        clear HFO
        generalize addQ chs1 dead qx qy qd body 0 = r at *
        go_enter Tryz.func96, Tryz.ntmps96
        go_wp2_with (first
          | (go_at_call 30; refine HD.out.mono ?_; rintro e w1 ⟨rfl, ha⟩; obtain ⟨S1, hq1, hs1⟩ := ha; have HQ1 := hide hq1; have HS1 := hide hs1; clear hq1 hs1; rw [HE1.out])
          | (go_at_call 26; refine (HF.out _ _ HQ1.out).mono ?_; rintro e w2 ⟨rfl, ha⟩; obtain ⟨S2, hq2, hs2⟩ := ha; have hbA := below_alloc1 w2 (Obj.cells #[Value.int .i64 qx, Value.int .i64 qy, Value.string qd] 76); have HQ2 := hide (hq2.on hbA); have HS2 := hide ((HS1.out.trans hs2).trans (.on hq2.pv.lo hbA)); clear hq2 hs2 hbA; rw [HE2.out])
          | (go_at_call 49; refine (HADD.out _ _ HQ2.out).mono ?_; rintro e w3 ⟨rfl, ha⟩; have HA := hide (ActQ.after HS2.out ha); clear ha)
          | fail)
        go_ret
        exact ⟨rfl, HA.out⟩
      · rw [if_neg h2]
        have HE2 := hide (errV_pos h2)
        clear h2 HFO
        go_enter Tryz.func96, Tryz.ntmps96
        go_wp2_with (first
          | (go_at_call 30; refine HD.out.mono ?_; rintro e w1 ⟨rfl, ha⟩; obtain ⟨S1, hq1, hs1⟩ := ha; have HQ1 := hide hq1; have HS1 := hide hs1; clear hq1 hs1; rw [HE1.out])
          | (go_at_call 26; refine (HF.out _ _ HQ1.out).mono ?_; rintro e w2 ⟨rfl, ha⟩; obtain ⟨S2, hq2, hs2⟩ := ha; have hbA := below_alloc1 w2 (Obj.cells #[Value.int .i64 qx, Value.int .i64 qy, Value.string qd] 76); have HQ2 := hide (hq2.on hbA); have HS2 := hide ((HS1.out.trans hs2).trans (.on hq2.pv.lo hbA)); clear hq2 hs2 hbA; rw [HE2.out])
          | fail)
        go_ret
        exact ⟨HE2.out ▸ rfl, _, HQ2.out, HS2.out⟩
  · rw [if_neg h1]
    have HE1 := hide (errV_pos h1)
    clear h1 HFO
    go_enter Tryz.func96, Tryz.ntmps96
    go_wp2_with (first
      | (go_at_call 30; refine HD.out.mono ?_; rintro e w1 ⟨rfl, ha⟩; have HA := hide ha; clear ha; rw [HE1.out])
      | fail)
    go_ret
    exact ⟨HE1.out ▸ rfl, HA.out⟩
end Go.Proofs.YtighpalbodhfeaaGreatDoor
