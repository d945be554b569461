/-
  Laws over queues in a view of no rows: what the acts come to, and what haywaintop.waits and haywaintop.number return.
-/
import Derived.Test.YtpbhcjkllfonhaaGreatDoorQueRecv
import Derived.Test.YtpbhcjkllfonhaaGreatDoorQueMsgs
import Derived.Test.YtpbhcjkllfonhaaGreatDoorQueEval
import Derived.Test.YtpbhcjkllfonhaaGreatDoorRowKeys
import Derived.Lib.LaidTab
import Derived.Test.YtpbhcjkllfonhaaGreatDoorRowErr
namespace Go.Proofs.YtpbhcjkllfonhaaGreatDoor
open Go.RowKit Go.Joins Go.Shelf
attribute [local go_sem ↓] Go.wp_at_zero Go.wp_at_succ

/-- a view of no rows in a world behind w, with some changes, and so many reads at most -/
def LQ (w W : World) (wb : Nat) (chs : List Chg) (n : Nat) : Prop := ∃ B S rds, QV W B wb S [] 0 chs rds ∧ rds.length ≤ n ∧ w.heap.size ≤ B ∧ Below w.heap.size w W
section
variable {w W W' : World} {wb : Nat} {chs chs' : List Chg} {n n' : Nat}
theorem LQ.bel (h : LQ w W wb chs n) : Below w.heap.size w W := by obtain ⟨_, _, _, _, _, _, h⟩ := h; exact h
theorem LQ.on (h : LQ w W wb chs n) (hb : Below W.heap.size W W') : LQ w W' wb chs n := by
  obtain ⟨B, S, rds, hq, hl, hB, hw⟩ := h
  exact ⟨B, S, rds, hq.on hb, hl, hB, hw.trans (hb.mono hw.size)⟩
theorem LQ.more (h : LQ w W wb chs n) (hn : n ≤ n') : LQ w W wb chs n' := by
  obtain ⟨B, S, rds, hq, hl, hB, hw⟩ := h
  exact ⟨B, S, rds, hq, by omega, hB, hw⟩
theorem lq_to {B : Nat} {S : Nat → Prop} {rds' : Rws} (hw : Below w.heap.size w W) (hB : w.heap.size ≤ B) (ha : ActQ W W' B wb S [] 0 chs' rds') (hl : rds'.length ≤ n') : LQ w W' wb chs' n' := by
  obtain ⟨S', hq, hs⟩ := ha
  exact ⟨B, S', rds', hq, hl, hB, hw.trans (hs.bel.mono hB)⟩
theorem lq_make {w1 w2 : World} {vb mb : Nat} {D : DataW Value} {g : ByteArray → Value} (hL : Laid w) (hw : Below w.heap.size w W) (hb1 : Below W.heap.size W w1) (hv : VS w1 W.heap.size vb mb 0 0 D g (initR [])) (hw2 : VW w2 w1.heap.size wb vb 0 (.slice none 0 0) (.slice none 0 0) [] []) (hb2 : Below w1.heap.size w1 w2) : LQ w w2 wb [] 0 := by
  obtain ⟨S, hp, _⟩ := pv_make (rows := []) hv hw2 hb2 hb1.size List.Pairwise.nil (by simp) (by simp)
  have hw1 : Below w.heap.size w w1 := hw.trans (hb1.mono hw.size)
  have hw3 : Below w.heap.size w w2 := hw1.trans (hb2.mono hw1.size)
  exact ⟨w1.heap.size, S, [], ⟨hp, ⟨by simp, by simp⟩, fun W' hW' => laid_on hL (hw3.trans (hW'.mono hw1.size))⟩, by simp, hw1.size, hw3⟩
theorem lq_create {f : Nat} {name dead : ByteArray} {tries : Int} (h : LQ w W wb chs n) (hn : name.size ≤ 1000) (hd : dead.size ≤ 1000) (hp : ∀ rds : Rws, rds.length ≤ n → ∃ rds', createQ [] chs rds name tries dead = (f, chs', rds') ∧ rds'.length ≤ n') :
    Calls Tryz.prog 16 #[.pointer (some ⟨wb, 0, none⟩), .string name, .int .i64 tries, .string dead] W fun e W' => e = .returned (errV f) ∧ LQ w W' wb chs' n' := by
  obtain ⟨B, S, rds, hq, hl, hB, hw⟩ := h
  obtain ⟨rds', e, hl'⟩ := hp rds hl
  refine (qcreate_any name tries dead W hq hn hd).mono fun _ _ ⟨he, ha⟩ => ?_
  rw [e] at he ha
  exact ⟨he, lq_to hw hB ha hl'⟩
theorem lq_send {f : Nat} {k : Int} {name body : ByteArray} {until_ : Int} (h : LQ w W wb chs n) (hn : name.size ≤ 1000) (hp : ∀ rds : Rws, rds.length ≤ n → ∃ rds', sendQ [] chs rds name body until_ = (k, f, chs', rds') ∧ rds'.length ≤ n') :
    Calls Tryz.prog 17 #[.pointer (some ⟨wb, 0, none⟩), .string name, .string body, .int .i64 until_] W fun e W' => e = .returned (.tuple #[.int .i64 k, errV f]) ∧ LQ w W' wb chs' n' := by
  obtain ⟨B, S, rds, hq, hl, hB, hw⟩ := h
  obtain ⟨rds', e, hl'⟩ := hp rds hl
  refine (qsend_any name body until_ W hq hn).mono fun _ _ ⟨he, ha⟩ => ?_
  rw [e] at he ha
  exact ⟨he, lq_to hw hB ha hl'⟩
theorem lq_receive {m : Msg} {name : ByteArray} {now long : Int} (h : LQ w W wb chs n) (hn : name.size ≤ 1000) (hp : ∀ rds : Rws, rds.length ≤ n → ∃ rds', receiveQ [] chs rds name now long = (m, chs', rds') ∧ rds'.length ≤ n') :
    Calls Tryz.prog 18 #[.pointer (some ⟨wb, 0, none⟩), .string name, .int .i64 now, .int .i64 long] W fun e W' => e = .returned (.tuple #[mV m, errV m.2.2.2.2]) ∧ LQ w W' wb chs' n' := by
  obtain ⟨B, S, rds, hq, hl, hB, hw⟩ := h
  obtain ⟨rds', e, hl'⟩ := hp rds hl
  refine (qreceive_any name now long W hq hn).mono fun _ _ ⟨he, ha⟩ => ?_
  rw [e] at he ha
  exact ⟨he, lq_to hw hB ha hl'⟩
theorem lq_ack {f : Nat} {name : ByteArray} {k tries : Int} (h : LQ w W wb chs n) (hn : name.size ≤ 1000) (hk0 : -9223372036854775808 ≤ k) (hk1 : k ≤ 9223372036854775807) (hp : ∀ rds : Rws, rds.length ≤ n → ∃ rds', ackQ [] chs rds name k tries = (f, chs', rds') ∧ rds'.length ≤ n') :
    Calls Tryz.prog 21 #[.pointer (some ⟨wb, 0, none⟩), .string name, .int .i64 k, .int .i64 tries] W fun e W' => e = .returned (errV f) ∧ LQ w W' wb chs' n' := by
  obtain ⟨B, S, rds, hq, hl, hB, hw⟩ := h
  obtain ⟨rds', e, hl'⟩ := hp rds hl
  refine (qack_any name k tries W hq hn hk0 hk1).mono fun _ _ ⟨he, ha⟩ => ?_
  rw [e] at he ha
  exact ⟨he, lq_to hw hB ha hl'⟩
theorem lq_wait {f : Nat} {name : ByteArray} {k tries until_ : Int} (h : LQ w W wb chs n) (hn : name.size ≤ 1000) (hk0 : -9223372036854775808 ≤ k) (hk1 : k ≤ 9223372036854775807) (hp : ∀ rds : Rws, rds.length ≤ n → ∃ rds', waitQ [] chs rds name k tries until_ = (f, chs', rds') ∧ rds'.length ≤ n') :
    Calls Tryz.prog 22 #[.pointer (some ⟨wb, 0, none⟩), .string name, .int .i64 k, .int .i64 tries, .int .i64 until_] W fun e W' => e = .returned (errV f) ∧ LQ w W' wb chs' n' := by
  obtain ⟨B, S, rds, hq, hl, hB, hw⟩ := h
  obtain ⟨rds', e, hl'⟩ := hp rds hl
  refine (qwait_any name k tries until_ W hq hn hk0 hk1).mono fun _ _ ⟨he, ha⟩ => ?_
  rw [e] at he ha
  exact ⟨he, lq_to hw hB ha hl'⟩
theorem lq_messages {l : List Msg} {name : ByteArray} (h : LQ w W wb chs n) (hn : name.size ≤ 1000) (hp : ∀ rds : Rws, rds.length ≤ n → ∃ rds', messagesQ [] chs rds name = (0, l, rds') ∧ rds'.length ≤ n') :
    Calls Tryz.prog 19 #[.pointer (some ⟨wb, 0, none⟩), .string name] W fun e W' => ∃ v, e = .returned (.tuple #[v, .nilIface]) ∧ (ownM W' W.heap.size v l ∧ LQ w W' wb chs n') := by
  obtain ⟨B, S, rds, hq, hl, hB, hw⟩ := h
  obtain ⟨rds', e, hl'⟩ := hp rds hl
  refine (qmessages_any name W hq hn).mono fun _ _ he => ?_
  rw [e] at he
  obtain ⟨v, hv, S', ho, hq', hs', _⟩ := he.1 rfl
  exact ⟨v, hv, ho, lq_to hw hB ⟨S', hq', hs'⟩ hl'⟩
end
theorem nil_eql_nil (W : World) : (binOp .eql 46 .nilIface .nilIface).run Tryz.prog W = .ok (.bool true) W := by kernel_rfl
theorem err_eql_nil (u : TypeId) (v : Value) (W : World) : (binOp .eql 46 (.iface u v) .nilIface).run Tryz.prog W = .ok (.bool false) W := by kernel_rfl
set_option maxRecDepth 8000 in
set_option maxHeartbeats 1000000 in
theorem number_any (f : Nat) (w : World) : Calls Tryz.prog 20 #[errV f] w fun e w' => e = .returned (.int .i64 f) ∧ w' = w := by
  have n0 := nil_eql_nil
  have n1 := err_eql_nil 116
  by_cases h : f = 0
  · subst h
    rw [errV_zero]
    go_enter Tryz.func20, Tryz.ntmps20
    go_wp2
    go_ret
    exact ⟨rfl, rfl⟩
  · have h1 := assert_errno (.int .i64 f)
    rw [errV_pos h]
    go_enter Tryz.func20, Tryz.ntmps20
    go_wp2
    go_ret
    exact ⟨rfl, rfl⟩
theorem msgs_one {rds : Rws} {t u x y : Nat} {b : ByteArray} (h : rds.length ≤ 30) (hx : x ≤ 999999) (h1 : 1 ≤ y) (h9 : y ≤ 9) (hm : messageMay t u b) : ∃ rds', messagesQ [] (oneQ t u b x y) rds qB = (0, [(0, (t : Int), (u : Int), b, 0)], rds') ∧ rds'.length ≤ rds.length + 1 := by
  obtain ⟨f1, f2⟩ := findQ_some (P := []) (rds := rds) q_name (find_one t u b x y) (may_empty hx h1 h9)
  have hs : scanF (seenP [] (oneQ t u b x y) (fromB qB, toB qB)) rds (fromB qB, toB qB) 53 = 0 := (if_neg (by omega)).trans (readF_few _ (by omega))
  have hl : (scanL (seenP [] (oneQ t u b x y) (fromB qB, toB qB)) rds (fromB qB, toB qB) 53).length ≤ rds.length + 1 := by unfold scanL; rw [if_neg (by omega)]; exact readL_le _ _
  have hk : numK (msgB qB 0) = 0 := numK_msg qB (n := 0) (by omega)
  have ht : ([(msgB qB 0, joinB t u b)] : Rws).take 53 = [(msgB qB 0, joinB t u b)] := rfl
  have hf : msgsF [(msgB qB 0, joinB t u b)] = 0 := by
    unfold msgsF
    rw [hk, mOf_join 0 hm]; rfl
  have hg : msgsL [(msgB qB 0, joinB t u b)] = [(0, (t : Int), (u : Int), b, 0)] := by
    unfold msgsL
    rw [List.map_cons, hk, mOf_join 0 hm]; rfl
  unfold messagesQ
  rw [f1, f2, if_pos rfl, if_pos hs, seen_one, ht, if_pos hf, hg]
  rw [seen_one] at hl
  exact ⟨_, rfl, hl⟩
set_option maxRecDepth 8000 in
set_option maxHeartbeats 4000000 in
theorem waits_any (w : World) (hL : Laid w) : Calls Tryz.prog 15 #[] w fun e w' => ∃ wb, e = .returned (.tuple #[.pointer (some ⟨wb, 0, none⟩), .bool true]) ∧ Below w.heap.size w w' := by
  have n0 := nil_eql_nil
  have n1 := nil_neq_nil
  have HL := hide hL
  clear hL
  go_enter Tryz.func15, Tryz.ntmps15
  go_wp2_with (first
    | (go_at_call 12; refine (new_any [] none 0 _ (.inl rfl) (by decide) (by simp)).mono ?_; rintro e w1 ⟨vb, rfl, hb1, mb, D, g, hv⟩; have HV1 := hide hv; have HB1 := hide hb1; clear hv hb1)
    | (go_at_call 11; refine (view_new _ HV1.out).mono ?_; rintro e w2 ⟨wb, rfl, hw2, hb2⟩; have H2 := hide (lq_make HL.out (Below.refl _ _) HB1.out HV1.out hw2 hb2); clear hw2 hb2)
    | (go_at_call 16; refine (lq_create (f := 0) (n' := 1) (chs' := [cqQ qB 0 3 eB]) H2.out (by decide) (by decide) (fun rds hr => by obtain ⟨r, e, l⟩ := create_one (rds := rds) (y := 3) (by omega) (by omega) (by omega); exact ⟨r, e, by omega⟩)).mono ?_; rintro e w3 ⟨rfl, h3⟩; have H3 := hide h3; clear h3; rw [errV_zero])
    | (go_at_call 17; refine (lq_send (f := 0) (n' := 1) (k := 0) (chs' := oneQ 0 0 ⟨#[120]⟩ 1 3) H3.out (by decide) (fun rds hr => ⟨rds, send_one (by omega) (by omega) (by decide), hr⟩)).mono ?_; rintro e w4 ⟨rfl, h4⟩; have H4 := hide h4; clear h4; rw [errV_zero])
    | (go_at_call 19; refine (lq_messages (n' := 2) (l := [(0, 0, 0, ⟨#[120]⟩, 0)]) H4.out (by decide) (fun rds hr => by obtain ⟨r, e, l⟩ := msgs_one (rds := rds) (t := 0) (u := 0) (x := 1) (y := 3) (b := ⟨#[120]⟩) (by omega) (by omega) (by omega) (by omega) ⟨by omega, by omega, by decide⟩; exact ⟨r, e, by omega⟩)).mono ?_; rintro e w5 ⟨v, rfl, ho5, h5⟩; have H5 := hide h5; obtain ⟨g, cap, rfl, _⟩ := World.ownsRow.form ho5 (by simp); clear h5 ho5)
    | fail)
  go_ret2
  exact ⟨wb, rfl, H5.out.bel⟩
end Go.Proofs.YtpbhcjkllfonhaaGreatDoor

/-
  Laws over queues in a view of no rows: an act that leaves a block of one's own alone.
-/
namespace Go.Proofs.YtpbhcjkllfonhaaGreatDoor
open Go.RowKit Go.Joins Go.Shelf

/-- the same, with a block of one's own -/
def LQB (w W : World) (wb : Nat) (chs : List Chg) (n b : Nat) : Prop := ∃ B S rds, QV W B wb S [] 0 chs rds ∧ rds.length ≤ n ∧ w.heap.size ≤ B ∧ Below w.heap.size w W ∧ ¬ S b ∧ b < W.heap.size
theorem LQ.box {w W : World} {wb : Nat} {chs : List Chg} {n : Nat} (h : LQ w W wb chs n) (vs : Array Value) (t : TypeId) : LQB w (W.alloc (.cells vs t)) wb chs n W.heap.size := by
  obtain ⟨B, S, rds, hq, hl, hB, hw⟩ := h
  have hb := below_alloc1 W (.cells vs t)
  exact ⟨B, S, rds, hq.on hb, hl, hB, hw.trans (hb.mono hw.size), fun e => by have := hq.pv.lt e; omega, by simp⟩
theorem LQB.lq {w W : World} {wb : Nat} {chs : List Chg} {n b : Nat} (h : LQB w W wb chs n b) : LQ w W wb chs n := by
  obtain ⟨B, S, rds, hq, hl, hB, hw, _⟩ := h
  exact ⟨B, S, rds, hq, hl, hB, hw⟩
theorem lqb_wait {w W : World} {wb : Nat} {chs chs' : List Chg} {n n' b : Nat} {f : Nat} {name : ByteArray} {k tries until_ : Int} (h : LQB w W wb chs n b) (hn : name.size ≤ 1000) (hk0 : -9223372036854775808 ≤ k) (hk1 : k ≤ 9223372036854775807) (hp : ∀ rds : Rws, rds.length ≤ n → ∃ rds', waitQ [] chs rds name k tries until_ = (f, chs', rds') ∧ rds'.length ≤ n') :
    Calls Tryz.prog 22 #[.pointer (some ⟨wb, 0, none⟩), .string name, .int .i64 k, .int .i64 tries, .int .i64 until_] W fun e W' => e = .returned (errV f) ∧ (LQ w W' wb chs' n' ∧ W'.heap[b]? = W.heap[b]?) := by
  obtain ⟨B, S, rds, hq, hl, hB, hw, hnb, hlt⟩ := h
  obtain ⟨rds', e, hl'⟩ := hp rds hl
  refine (qwait_any name k tries until_ W hq hn hk0 hk1).mono fun _ _ ⟨he, ha⟩ => ?_
  rw [e] at he ha
  obtain ⟨S', hq', hs'⟩ := ha
  exact ⟨he, lq_to hw hB ⟨S', hq', hs'⟩ hl', (hs'.far b hlt hnb).1⟩
theorem recv_last {rds : Rws} {x y : Nat} (h : rds.length ≤ 30) (hx : x ≤ 999999) (h1 : 1 ≤ y) (h9 : y ≤ 9) : ∃ rds', receiveQ [] (goneQ x y) rds qB 1000000 0 = (noM 12, goneQ x y, rds') ∧ rds'.length ≤ rds.length + 1 := by
  have e := recv_none (rds := rds) (x := x) (y := y) (now := 1000000) (long := 0) h hx h1 h9 (Nat.le_refl _) (by omega)
  rw [show ((1000000 : Nat) : Int) = 1000000 from rfl, show ((0 : Nat) : Int) = 0 from rfl] at e
  exact e
end Go.Proofs.YtpbhcjkllfonhaaGreatDoor

/-
  What haywaintop.TopAck returns: true, whatever its arguments.
-/
namespace Go.Proofs.YtpbhcjkllfonhaaGreatDoor
open Go.RowKit Go.Joins Go.Shelf
attribute [local go_sem ↓] Go.wp_at_zero Go.wp_at_succ

set_option maxRecDepth 8000 in
set_option maxHeartbeats 4000000 in
theorem topAck_heavy (body : ByteArray) (u now : Int) (w : World) (hL : Laid w) (hh : 28 < body.size ∨ u < 0 ∨ 1000000 < u ∨ now < 0 ∨ 1000000 < now) :
    Calls Tryz.prog 7 #[.string body, .int .i64 u, .int .i64 now] w fun e w' => e = .returned (.bool true) ∧ Below w.heap.size w w' := by
  have HL := hide hL
  clear hL
  by_cases h0 : 28 < body.size
  · have d0 : decide (28 < (body.size : Int)) = true := decide_eq_true (by omega)
    clear hh h0
    go_enter Tryz.func7, Tryz.ntmps7
    go_wp2_with (first
      | (go_at_call 15; refine (waits_any _ HL.out).mono ?_; rintro e w1 ⟨wb, rfl, hb1⟩; have HB := hide hb1; clear hb1)
      | fail)
    go_ret
    exact ⟨rfl, HB.out⟩
  have d0 : decide (28 < (body.size : Int)) = false := decide_eq_false (by omega)
  by_cases h1 : u < 0
  · have d1 : decide (u < 0) = true := decide_eq_true (by omega)
    clear hh h1 h0
    go_enter Tryz.func7, Tryz.ntmps7
    go_wp2_with (first
      | (go_at_call 15; refine (waits_any _ HL.out).mono ?_; rintro e w1 ⟨wb, rfl, hb1⟩; have HB := hide hb1; clear hb1)
      | fail)
    go_ret
    exact ⟨rfl, HB.out⟩
  have d1 : decide (u < 0) = false := decide_eq_false (by omega)
  by_cases h2 : 1000000 < u
  · have d2 : decide (1000000 < u) = true := decide_eq_true (by omega)
    clear hh h2 h0 h1
    go_enter Tryz.func7, Tryz.ntmps7
    go_wp2_with (first
      | (go_at_call 15; refine (waits_any _ HL.out).mono ?_; rintro e w1 ⟨wb, rfl, hb1⟩; have HB := hide hb1; clear hb1)
      | fail)
    go_ret
    exact ⟨rfl, HB.out⟩
  have d2 : decide (1000000 < u) = false := decide_eq_false (by omega)
  by_cases h3 : now < 0
  · have d3 : decide (now < 0) = true := decide_eq_true (by omega)
    clear hh h3 h0 h1 h2
    go_enter Tryz.func7, Tryz.ntmps7
    go_wp2_with (first
      | (go_at_call 15; refine (waits_any _ HL.out).mono ?_; rintro e w1 ⟨wb, rfl, hb1⟩; have HB := hide hb1; clear hb1)
      | fail)
    go_ret
    exact ⟨rfl, HB.out⟩
  have d3 : decide (now < 0) = false := decide_eq_false (by omega)
  have h4 : 1000000 < now := by omega
  have d4 : decide (1000000 < now) = true := decide_eq_true (by omega)
  clear hh h4 h0 h1 h2 h3
  go_enter Tryz.func7, Tryz.ntmps7
  go_wp2_with (first
    | (go_at_call 15; refine (waits_any _ HL.out).mono ?_; rintro e w1 ⟨wb, rfl, hb1⟩; have HB := hide hb1; clear hb1)
    | fail)
  go_ret
  exact ⟨rfl, HB.out⟩
set_option maxRecDepth 8000 in
set_option maxHeartbeats 8000000 in
theorem topAck_light (body : ByteArray) (u now : Nat) (w : World) (hL : Laid w) (hb : body.size ≤ 28) (hu : u ≤ 1000000) (hn : now ≤ 1000000) :
    Calls Tryz.prog 7 #[.string body, .int .i64 u, .int .i64 now] w fun e w' => e = .returned (.bool true) ∧ Below w.heap.size w w' := by
  have n0 := nil_eql_nil
  have n1 := nil_neq_nil
  have n2 := err_eql_nil 116
  have n3 := err_neq_nil 116
  have d0 : decide (28 < (body.size : Int)) = false := decide_eq_false (by omega)
  have d1 : decide ((u : Int) < 0) = false := decide_eq_false (by omega)
  have d2 : decide (1000000 < (u : Int)) = false := decide_eq_false (by omega)
  have d3 : decide ((now : Int) < 0) = false := decide_eq_false (by omega)
  have d4 : decide (1000000 < (now : Int)) = false := decide_eq_false (by omega)
  have HL := hide hL
  clear hL
  by_cases hlt : now < u
  · have g0 : decide ((now : Int) < (u : Int)) = true := decide_eq_true (by omega)
    go_enter Tryz.func7, Tryz.ntmps7
    go_wp2_with (fail)
    (go_at_call 15; refine (waits_any _ HL.out).mono ?_; rintro e w1 ⟨wb0, rfl, hb1⟩; have HB := hide hb1; clear hb1)
    go_wp2_with (fail)
    (go_at_call 12; refine (new_any [] none 0 _ (.inl rfl) (by decide) (by simp)).mono ?_; rintro e w2 ⟨vb, rfl, hb2, mb, D, g, hv⟩; have HV := hide hv; have HB2 := hide hb2; clear hv hb2)
    go_wp2_with (fail)
    (go_at_call 11; refine (view_new _ HV.out).mono ?_; rintro e w3 ⟨wb, rfl, hw3, hb3⟩; have H0 := hide (lq_make HL.out HB.out HB2.out HV.out hw3 hb3); clear hw3 hb3 HV HB2)
    go_wp2_with (fail)
    (go_at_call 16; refine (lq_create (f := 0) (n' := 1) (chs' := [cqQ qB 0 9 eB]) H0.out (by decide) (by decide) (fun rds hr => by obtain ⟨r, e, l⟩ := create_one (rds := rds) (y := 9) (by omega) (by omega) (by omega); exact ⟨r, e, by omega⟩)).mono ?_; rintro e w4 ⟨rfl, h4⟩; have H1 := hide h4; clear h4; rw [errV_zero])
    go_wp2_with (fail)
    (go_at_call 17; refine (lq_send (f := 0) (n' := 1) (k := 0) (chs' := oneQ 0 0 body 1 9) H1.out (by decide) (fun rds hr => ⟨rds, send_one (by omega) (by omega) (by omega), hr⟩)).mono ?_; rintro e w5 ⟨rfl, h5⟩; have H2 := hide h5; clear h5; rw [errV_zero])
    go_wp2_with (fail)
    (go_at_call_of 18 (Value.int .i64 5); refine (lq_receive (n' := 2) (m := (0, 1, 5, body, 0)) (chs' := oneQ 1 5 body 1 9) (now := ((0 : Nat) : Int)) (long := ((5 : Nat) : Int)) H2.out (by decide) (fun rds hr => by obtain ⟨r, e, l⟩ := recv_hit (rds := rds) (t := 0) (u := 0) (x := 1) (y := 9) (now := 0) (long := 5) (b := body) (by omega) (by omega) (by omega) (by omega) hb (by omega) (by omega) (by omega) (by omega) (by omega); exact ⟨r, e, by omega⟩)).mono ?_; rintro e w6 ⟨rfl, h6⟩; have H3 := hide (h6.box #[Value.int .i64 0, Value.int .i64 1, Value.int .i64 5, Value.string body] 51); have k3 := cell_new w6 #[Value.int .i64 0, Value.int .i64 1, Value.int .i64 5, Value.string body] 51 3; clear h6 H2; dsimp only; rw [errV_zero])
    go_wp2_with (fail)
    (go_at_call 22; refine (lqb_wait (f := 0) (n' := 2) (chs' := oneQ 1 u body 1 9) (k := 0) (tries := ((1 : Nat) : Int)) H3.out (by decide) (by omega) (by omega) (fun rds hr => ⟨rds, wait_one (by omega) (by omega) (by omega) ⟨by omega, by omega, hb⟩ (by omega) hu, hr⟩)).mono ?_; rintro e w7 ⟨rfl, h7, e7⟩; have H4 := hide h7; replace k3 := (World.cell?_of_block e7).trans k3; clear h7 e7 H3; rw [errV_zero])
    go_wp2_with (fail)
    (go_at_call 18; refine (lq_receive (n' := 4) (m := noM 12) (chs' := oneQ 1 u body 1 9) (now := (now : Int)) (long := ((0 : Nat) : Int)) H4.out (by decide) (fun rds hr => by obtain ⟨r, e, l⟩ := recv_wait (rds := rds) (t := 1) (u := u) (x := 1) (y := 9) (now := now) (long := 0) (b := body) (by omega) (by omega) (by omega) (by omega) hb (by omega) (by omega) (by omega) (by omega) (by omega); exact ⟨r, e, by omega⟩)).mono ?_; rintro e w7b ⟨rfl, h7⟩; have H5 := hide (h7.on (below_alloc1 w7b (Obj.cells #[Value.int .i64 0, Value.int .i64 0, Value.int .i64 0, Value.string ⟨#[]⟩] 51))); clear h7)
    go_wp2_with (fail)
    (go_at_call 20; refine (number_any 12 _).mono ?_; rintro e w8 ⟨rfl, rfl⟩)
    go_wp2_with (fail)
    (go_at_call 21; refine (lq_ack (f := 0) (n' := 4) (chs' := goneQ 1 9) (k := 0) (tries := ((1 : Nat) : Int)) H5.out (by decide) (by omega) (by omega) (fun rds hr => ⟨rds, ack_one (by omega) (by omega) (by omega) ⟨by omega, by omega, hb⟩ (by omega), hr⟩)).mono ?_; rintro e w9 ⟨rfl, h9⟩; have H6 := hide h9; clear h9; rw [errV_zero])
    go_wp2_with (fail)
    (go_at_call_of 18 (Value.int .i64 1000000); refine (lq_receive (n' := 6) (m := noM 12) (chs' := goneQ 1 9) H6.out (by decide) (fun rds hr => by obtain ⟨r, e, l⟩ := recv_last (rds := rds) (x := 1) (y := 9) (by omega) (by omega) (by omega) (by omega); exact ⟨r, e, by omega⟩)).mono ?_; rintro e w10 ⟨rfl, h10⟩; have H7 := hide h10; clear h10)
    go_wp2_with (fail)
    (go_at_call 20; refine (number_any 12 _).mono ?_; rintro e w8 ⟨rfl, rfl⟩)
    go_wp2_with (fail)
    (go_at_call 21; refine (lq_ack (f := 11) (n' := 6) (chs' := goneQ 1 9) (k := 0) (tries := ((1 : Nat) : Int)) H7.out (by decide) (by omega) (by omega) (fun rds hr => ⟨rds, ack_gone (by omega) (by omega) (by omega) 1 (by omega), hr⟩)).mono ?_; rintro e w11 ⟨rfl, h11⟩; have H8 := hide h11; clear h11)
    go_wp2_with (fail)
    (go_at_call 20; refine (number_any 11 _).mono ?_; rintro e w8 ⟨rfl, rfl⟩)
    go_wp2_with (fail)
    go_ret
    exact ⟨rfl, H8.out.bel⟩
  · have g0 : decide ((now : Int) < (u : Int)) = false := decide_eq_false (by omega)
    go_enter Tryz.func7, Tryz.ntmps7
    go_wp2_with (fail)
    (go_at_call 15; refine (waits_any _ HL.out).mono ?_; rintro e w1 ⟨wb0, rfl, hb1⟩; have HB := hide hb1; clear hb1)
    go_wp2_with (fail)
    (go_at_call 12; refine (new_any [] none 0 _ (.inl rfl) (by decide) (by simp)).mono ?_; rintro e w2 ⟨vb, rfl, hb2, mb, D, g, hv⟩; have HV := hide hv; have HB2 := hide hb2; clear hv hb2)
    go_wp2_with (fail)
    (go_at_call 11; refine (view_new _ HV.out).mono ?_; rintro e w3 ⟨wb, rfl, hw3, hb3⟩; have H0 := hide (lq_make HL.out HB.out HB2.out HV.out hw3 hb3); clear hw3 hb3 HV HB2)
    go_wp2_with (fail)
    (go_at_call 16; refine (lq_create (f := 0) (n' := 1) (chs' := [cqQ qB 0 9 eB]) H0.out (by decide) (by decide) (fun rds hr => by obtain ⟨r, e, l⟩ := create_one (rds := rds) (y := 9) (by omega) (by omega) (by omega); exact ⟨r, e, by omega⟩)).mono ?_; rintro e w4 ⟨rfl, h4⟩; have H1 := hide h4; clear h4; rw [errV_zero])
    go_wp2_with (fail)
    (go_at_call 17; refine (lq_send (f := 0) (n' := 1) (k := 0) (chs' := oneQ 0 0 body 1 9) H1.out (by decide) (fun rds hr => ⟨rds, send_one (by omega) (by omega) (by omega), hr⟩)).mono ?_; rintro e w5 ⟨rfl, h5⟩; have H2 := hide h5; clear h5; rw [errV_zero])
    go_wp2_with (fail)
    (go_at_call_of 18 (Value.int .i64 5); refine (lq_receive (n' := 2) (m := (0, 1, 5, body, 0)) (chs' := oneQ 1 5 body 1 9) (now := ((0 : Nat) : Int)) (long := ((5 : Nat) : Int)) H2.out (by decide) (fun rds hr => by obtain ⟨r, e, l⟩ := recv_hit (rds := rds) (t := 0) (u := 0) (x := 1) (y := 9) (now := 0) (long := 5) (b := body) (by omega) (by omega) (by omega) (by omega) hb (by omega) (by omega) (by omega) (by omega) (by omega); exact ⟨r, e, by omega⟩)).mono ?_; rintro e w6 ⟨rfl, h6⟩; have H3 := hide (h6.box #[Value.int .i64 0, Value.int .i64 1, Value.int .i64 5, Value.string body] 51); have k3 := cell_new w6 #[Value.int .i64 0, Value.int .i64 1, Value.int .i64 5, Value.string body] 51 3; clear h6 H2; dsimp only; rw [errV_zero])
    go_wp2_with (fail)
    (go_at_call 22; refine (lqb_wait (f := 0) (n' := 2) (chs' := oneQ 1 u body 1 9) (k := 0) (tries := ((1 : Nat) : Int)) H3.out (by decide) (by omega) (by omega) (fun rds hr => ⟨rds, wait_one (by omega) (by omega) (by omega) ⟨by omega, by omega, hb⟩ (by omega) hu, hr⟩)).mono ?_; rintro e w7 ⟨rfl, h7, e7⟩; have H4 := hide h7; replace k3 := (World.cell?_of_block e7).trans k3; clear h7 e7 H3; rw [errV_zero])
    go_wp2_with (fail)
    (go_at_call 18; refine (lq_receive (n' := 4) (m := (0, 2, (now : Int) + 0, body, 0)) (chs' := oneQ 2 (now + 0) body 1 9) (now := (now : Int)) (long := ((0 : Nat) : Int)) H4.out (by decide) (fun rds hr => by obtain ⟨r, e, l⟩ := recv_hit (rds := rds) (t := 1) (u := u) (x := 1) (y := 9) (now := now) (long := 0) (b := body) (by omega) (by omega) (by omega) (by omega) hb (by omega) (by omega) (by omega) (by omega) (by omega); exact ⟨r, e, by omega⟩)).mono ?_; rintro e w7b ⟨rfl, h7⟩; have H5 := hide (h7.on (below_alloc1 w7b (Obj.cells #[Value.int .i64 0, Value.int .i64 2, Value.int .i64 ((now : Int) + 0), Value.string body] 51))); clear h7; dsimp only; rw [errV_zero])
    go_wp2_with (fail)
    (go_at_call 21; refine (lq_ack (f := 0) (n' := 4) (chs' := goneQ 1 9) (k := 0) (tries := ((2 : Nat) : Int)) H5.out (by decide) (by omega) (by omega) (fun rds hr => ⟨rds, ack_one (by omega) (by omega) (by omega) ⟨by omega, by omega, hb⟩ (by omega), hr⟩)).mono ?_; rintro e w9 ⟨rfl, h9⟩; have H6 := hide h9; clear h9; rw [errV_zero])
    go_wp2_with (fail)
    (go_at_call_of 18 (Value.int .i64 1000000); refine (lq_receive (n' := 6) (m := noM 12) (chs' := goneQ 1 9) H6.out (by decide) (fun rds hr => by obtain ⟨r, e, l⟩ := recv_last (rds := rds) (x := 1) (y := 9) (by omega) (by omega) (by omega) (by omega); exact ⟨r, e, by omega⟩)).mono ?_; rintro e w10 ⟨rfl, h10⟩; have H7 := hide h10; clear h10)
    go_wp2_with (fail)
    (go_at_call 20; refine (number_any 12 _).mono ?_; rintro e w8 ⟨rfl, rfl⟩)
    go_wp2_with (fail)
    (go_at_call 21; refine (lq_ack (f := 11) (n' := 6) (chs' := goneQ 1 9) (k := 0) (tries := ((1 : Nat) : Int)) H7.out (by decide) (by omega) (by omega) (fun rds hr => ⟨rds, ack_gone (by omega) (by omega) (by omega) 1 (by omega), hr⟩)).mono ?_; rintro e w11 ⟨rfl, h11⟩; have H8 := hide h11; clear h11)
    go_wp2_with (fail)
    (go_at_call 20; refine (number_any 11 _).mono ?_; rintro e w8 ⟨rfl, rfl⟩)
    go_wp2_with (fail)
    go_ret
    exact ⟨rfl, H8.out.bel⟩
theorem topAck_walk (body : ByteArray) (u now : Int) (w : World) (hL : Laid w) :
    Calls Tryz.prog 7 #[.string body, .int .i64 u, .int .i64 now] w fun e w' => e = .returned (.bool true) ∧ Below w.heap.size w w' := by
  by_cases hh : 28 < body.size ∨ u < 0 ∨ 1000000 < u ∨ now < 0 ∨ 1000000 < now
  · exact topAck_heavy body u now w hL hh
  · obtain ⟨a, rfl⟩ := Int.eq_ofNat_of_zero_le (show 0 ≤ u by omega)
    obtain ⟨b, rfl⟩ := Int.eq_ofNat_of_zero_le (show 0 ≤ now by omega)
    exact topAck_light body a b w hL (by omega) (by omega) (by omega)
end Go.Proofs.YtpbhcjkllfonhaaGreatDoor

/-
  What a row's list of variables gives: the library's table of powers of ten, third of the list, holds its numbers.
-/
namespace Go.Proofs.YtpbhcjkllfonhaaGreatDoor
open Go.Lib

theorem pow_type : (Tryz.prog.globals[3]?).map (·.type) = some 258 := by kernel_rfl
theorem pow_cells : Tryz.prog.cellsOf 258 = 20 := by kernel_rfl
theorem u64_cells : Tryz.prog.cellsOf 37 = 1 := by kernel_rfl
theorem tab_third {W : World} {x y : String × DataW Unit} {zs : List Int} {rest : List (String × DataW Unit)}
    (h : laidMet Tryz.prog (x :: y :: ("internal/strconv.uint64pow10", tabData .u64 zs) :: rest) W) : TabIs Tryz.prog W "internal/strconv.uint64pow10" .u64 zs := by
  obtain ⟨ps, ⟨_, _, _, _, _, _, _, _, _, _, ⟨_, _, _, _, _, _, _, _, _, _, ⟨g', t', cs, fuel, p, q, hg', ht', hvar, hd, _, _⟩, _⟩, _⟩, _⟩ := h
  obtain rfl := Option.some.inj (pow_named.symm.trans hg')
  obtain rfl := Option.some.inj (pow_type.symm.trans ht')
  have e := cells_of_tab Tryz.underlying258 Tryz.underlying37 u64_cells pow_cells hd
  unfold TabIs
  rw [hvar]
  congr 1
  exact Array.ext' (by simpa using e)
theorem pow_list : Lib.pow10Tab = [1, 10, 100, 1000, 10000, 100000, 1000000, 10000000, 100000000, 1000000000, 10000000000, 100000000000, 1000000000000, 10000000000000, 100000000000000, 1000000000000000, 10000000000000000, 100000000000000000, 1000000000000000000, 10000000000000000000] := by decide +kernel
end Go.Proofs.YtpbhcjkllfonhaaGreatDoor

/-
  What a row's list of variables gives: the library's two errors, fourth and fifth of the list, hold values.
-/
namespace Go.Proofs.YtpbhcjkllfonhaaGreatDoor
open Go.Lib

theorem rng_type : (Tryz.prog.globals[2]?).map (·.type) = some 46 := by kernel_rfl
theorem syn_type : (Tryz.prog.globals[1]?).map (·.type) = some 46 := by kernel_rfl
theorem err_fourth {W : World} {x y z : String × DataW Unit} {nm : String} {d : DataW Unit} {rest : List (String × DataW Unit)}
    (h : laidMet Tryz.prog (x :: y :: z :: ("strconv.ErrRange", .iface nm d) :: rest) W) : ErrIs W "strconv.ErrRange" := by
  obtain ⟨ps, ⟨_, _, _, _, _, _, _, _, _, _, ⟨_, _, _, _, _, _, _, _, _, _, ⟨_, _, _, _, _, _, _, _, _, _, ⟨g', t', cs, fuel, p, q, hg', ht', hvar, hd, _, _⟩, _⟩, _⟩, _⟩, _⟩ := h
  obtain rfl := Option.some.inj (rng_named.symm.trans hg')
  obtain rfl := Option.some.inj (rng_type.symm.trans ht')
  obtain ⟨_, u, v, hc, _, _⟩ := iface_of_trod Tryz.underlying46 hd
  have e : cs = #[.iface u v] := Array.ext' (by simpa using hc)
  exact ⟨u, v, by rw [hvar, e]⟩
theorem err_fifth {W : World} {x y z a : String × DataW Unit} {nm : String} {d : DataW Unit} {rest : List (String × DataW Unit)}
    (h : laidMet Tryz.prog (x :: y :: z :: a :: ("strconv.ErrSyntax", .iface nm d) :: rest) W) : ErrIs W "strconv.ErrSyntax" := by
  obtain ⟨ps, ⟨_, _, _, _, _, _, _, _, _, _, ⟨_, _, _, _, _, _, _, _, _, _, ⟨_, _, _, _, _, _, _, _, _, _, ⟨_, _, _, _, _, _, _, _, _, _, ⟨g', t', cs, fuel, p, q, hg', ht', hvar, hd, _, _⟩, _⟩, _⟩, _⟩, _⟩, _⟩ := h
  obtain rfl := Option.some.inj (syn_named.symm.trans hg')
  obtain rfl := Option.some.inj (syn_type.symm.trans ht')
  obtain ⟨_, u, v, hc, _, _⟩ := iface_of_trod Tryz.underlying46 hd
  have e : cs = #[.iface u v] := Array.ext' (by simpa using hc)
  exact ⟨u, v, by rw [hvar, e]⟩
theorem wf_range {n : Int} (h : (Lit.int .i64 n).wf = true) : -9223372036854775808 ≤ n ∧ n ≤ 9223372036854775807 := by
  rw [Lit.wf, Bool.and_eq_true, decide_eq_true_eq, decide_eq_true_eq] at h
  exact h
end Go.Proofs.YtpbhcjkllfonhaaGreatDoor
