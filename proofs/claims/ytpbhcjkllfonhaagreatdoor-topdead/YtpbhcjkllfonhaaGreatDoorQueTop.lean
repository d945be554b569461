/-
  Laws over queues in a view of no rows: what the acts come to, and what haywaintop.waits and haywaintop.number return.
-/
import Derived.Test.YtpbhcjkllfonhaaGreatDoorQueRecv
import Derived.Test.YtpbhcjkllfonhaaGreatDoorQueMsgs
import Derived.Test.YtpbhcjkllfonhaaGreatDoorQueEval
import Derived.Test.YtpbhcjkllfonhaaGreatDoorRowKeys
import Derived.Lib.LaidTab
import Derived.Test.YtpbhcjkllfonhaaGreatDoorRowErr
namespace Go.Proofs.YtpbhcjkllfonhaaGreatDoor
open Go.RowKit Go.Joins Go.Shelf
attribute [local go_sem ↓] Go.wp_at_zero Go.wp_at_succ

/-- a view of no rows in a world behind w, with some changes, and so many reads at most -/
def LQ (w W : World) (wb : Nat) (chs : List Chg) (n : Nat) : Prop := ∃ B S rds, QV W B wb S [] 0 chs rds ∧ rds.length ≤ n ∧ w.heap.size ≤ B ∧ Below w.heap.size w W
section
variable {w W W' : World} {wb : Nat} {chs chs' : List Chg} {n n' : Nat}
theorem LQ.bel (h : LQ w W wb chs n) : Below w.heap.size w W := by obtain ⟨_, _, _, _, _, _, h⟩ := h; exact h
theorem LQ.on (h : LQ w W wb chs n) (hb : Below W.heap.size W W') : LQ w W' wb chs n := by
  obtain ⟨B, S, rds, hq, hl, hB, hw⟩ := h
  exact ⟨B, S, rds, hq.on hb, hl, hB, hw.trans (hb.mono hw.size)⟩
theorem LQ.more (h : LQ w W wb chs n) (hn : n ≤ n') : LQ w W wb chs n' := by
  obtain ⟨B, S, rds, hq, hl, hB, hw⟩ := h
  exact ⟨B, S, rds, hq, by omega, hB, hw⟩
theorem lq_to {B : Nat} {S : Nat → Prop} {rds' : Rws} (hw : Below w.heap.size w W) (hB : w.heap.size ≤ B) (ha : ActQ W W' B wb S [] 0 chs' rds') (hl : rds'.length ≤ n') : LQ w W' wb chs' n' := by
  obtain ⟨S', hq, hs⟩ := ha
  exact ⟨B, S', rds', hq, hl, hB, hw.trans (hs.bel.mono hB)⟩
theorem lq_make {w1 w2 : World} {vb mb : Nat} {D : DataW Value} {g : ByteArray → Value} (hL : Laid w) (hw : Below w.heap.size w W) (hb1 : Below W.heap.size W w1) (hv : VS w1 W.heap.size vb mb 0 0 D g (initR [])) (hw2 : VW w2 w1.heap.size wb vb 0 (.slice none 0 0) (.slice none 0 0) [] []) (hb2 : Below w1.heap.size w1 w2) : LQ w w2 wb [] 0 := by
  obtain ⟨S, hp, _⟩ := pv_make (rows := []) hv hw2 hb2 hb1.size List.Pairwise.nil (by simp) (by simp)
  have hw1 : Below w.heap.size w w1 := hw.trans (hb1.mono hw.size)
  have hw3 : Below w.heap.size w w2 := hw1.trans (hb2.mono hw1.size)
  exact ⟨w1.heap.size, S, [], ⟨hp, ⟨by simp, by simp⟩, fun W' hW' => laid_on hL (hw3.trans (hW'.mono hw1.size))⟩, by simp, hw1.size, hw3⟩
theorem lq_create {f : Nat} {name dead : ByteArray} {tries : Int} (h : LQ w W wb chs n) (hn : name.size ≤ 1000) (hd : dead.size ≤ 1000) (hp : ∀ rds : Rws, rds.length ≤ n → ∃ rds', createQ [] chs rds name tries dead = (f, chs', rds') ∧ rds'.length ≤ n') :
    Calls Tryz.prog 16 #[.pointer (some ⟨wb, 0, none⟩), .string name, .int .i64 tries, .string dead] W fun e W' => e = .returned (errV f) ∧ LQ w W' wb chs' n' := by
  obtain ⟨B, S, rds, hq, hl, hB, hw⟩ := h
  obtain ⟨rds', e, hl'⟩ := hp rds hl
  refine (qcreate_any name tries dead W hq hn hd).mono fun _ _ ⟨he, ha⟩ => ?_
  rw [e] at he ha
  exact ⟨he, lq_to hw hB ha hl'⟩
theorem lq_send {f : Nat} {k : Int} {name body : ByteArray} {until_ : Int} (h : LQ w W wb chs n) (hn : name.size ≤ 1000) (hp : ∀ rds : Rws, rds.length ≤ n → ∃ rds', sendQ [] chs rds name body until_ = (k, f, chs', rds') ∧ rds'.length ≤ n') :
    Calls Tryz.prog 17 #[.pointer (some ⟨wb, 0, none⟩), .string name, .string body, .int .i64 until_] W fun e W' => e = .returned (.tuple #[.int .i64 k, errV f]) ∧ LQ w W' wb chs' n' := by
  obtain ⟨B, S, rds, hq, hl, hB, hw⟩ := h
  obtain ⟨rds', e, hl'⟩ := hp rds hl
  refine (qsend_any name body until_ W hq hn).mono fun _ _ ⟨he, ha⟩ => ?_
  rw [e] at he ha
  exact ⟨he, lq_to hw hB ha hl'⟩
theorem lq_receive {m : Msg} {name : ByteArray} {now long : Int} (h : LQ w W wb chs n) (hn : name.size ≤ 1000) (hp : ∀ rds : Rws, rds.length ≤ n → ∃ rds', receiveQ [] chs rds name now long = (m, chs', rds') ∧ rds'.length ≤ n') :
    Calls Tryz.prog 18 #[.pointer (some ⟨wb, 0, none⟩), .string name, .int .i64 now, .int .i64 long] W fun e W' => e = .returned (.tuple #[mV m, errV m.2.2.2.2]) ∧ LQ w W' wb chs' n' := by
  obtain ⟨B, S, rds, hq, hl, hB, hw⟩ := h
  obtain ⟨rds', e, hl'⟩ := hp rds hl
  refine (qreceive_any name now long W hq hn).mono fun _ _ ⟨he, ha⟩ => ?_
  rw [e] at he ha
  exact ⟨he, lq_to hw hB ha hl'⟩
theorem lq_ack {f : Nat} {name : ByteArray} {k tries : Int} (h : LQ w W wb chs n) (hn : name.size ≤ 1000) (hk0 : -9223372036854775808 ≤ k) (hk1 : k ≤ 9223372036854775807) (hp : ∀ rds : Rws, rds.length ≤ n → ∃ rds', ackQ [] chs rds name k tries = (f, chs', rds') ∧ rds'.length ≤ n') :
    Calls Tryz.prog 21 #[.pointer (some ⟨wb, 0, none⟩), .string name, .int .i64 k, .int .i64 tries] W fun e W' => e = .returned (errV f) ∧ LQ w W' wb chs' n' := by
  obtain ⟨B, S, rds, hq, hl, hB, hw⟩ := h
  obtain ⟨rds', e, hl'⟩ := hp rds hl
  refine (qack_any name k tries W hq hn hk0 hk1).mono fun _ _ ⟨he, ha⟩ => ?_
  rw [e] at he ha
  exact ⟨he, lq_to hw hB ha hl'⟩
theorem lq_wait {f : Nat} {name : ByteArray} {k tries until_ : Int} (h : LQ w W wb chs n) (hn : name.size ≤ 1000) (hk0 : -9223372036854775808 ≤ k) (hk1 : k ≤ 9223372036854775807) (hp : ∀ rds : Rws, rds.length ≤ n → ∃ rds', waitQ [] chs rds name k tries until_ = (f, chs', rds') ∧ rds'.length ≤ n') :
    Calls Tryz.prog 22 #[.pointer (some ⟨wb, 0, none⟩), .string name, .int .i64 k, .int .i64 tries, .int .i64 until_] W fun e W' => e = .returned (errV f) ∧ LQ w W' wb chs' n' := by
  obtain ⟨B, S, rds, hq, hl, hB, hw⟩ := h
  obtain ⟨rds', e, hl'⟩ := hp rds hl
  refine (qwait_any name k tries until_ W hq hn hk0 hk1).mono fun _ _ ⟨he, ha⟩ => ?_
  rw [e] at he ha
  exact ⟨he, lq_to hw hB ha hl'⟩
theorem lq_messages {l : List Msg} {name : ByteArray} (h : LQ w W wb chs n) (hn : name.size ≤ 1000) (hp : ∀ rds : Rws, rds.length ≤ n → ∃ rds', messagesQ [] chs rds name = (0, l, rds') ∧ rds'.length ≤ n') :
    Calls Tryz.prog 19 #[.pointer (some ⟨wb, 0, none⟩), .string name] W fun e W' => ∃ v, e = .returned (.tuple #[v, .nilIface]) ∧ (ownM W' W.heap.size v l ∧ LQ w W' wb chs n') := by
  obtain ⟨B, S, rds, hq, hl, hB, hw⟩ := h
  obtain ⟨rds', e, hl'⟩ := hp rds hl
  refine (qmessages_any name W hq hn).mono fun _ _ he => ?_
  rw [e] at he
  obtain ⟨v, hv, S', ho, hq', hs', _⟩ := he.1 rfl
  exact ⟨v, hv, ho, lq_to hw hB ⟨S', hq', hs'⟩ hl'⟩
end
theorem nil_eql_nil (W : World) : (binOp .eql 46 .nilIface .nilIface).run Tryz.prog W = .ok (.bool true) W := by kernel_rfl
theorem err_eql_nil (u : TypeId) (v : Value) (W : World) : (binOp .eql 46 (.iface u v) .nilIface).run Tryz.prog W = .ok (.bool false) W := by kernel_rfl
set_option maxRecDepth 8000 in
set_option maxHeartbeats 1000000 in
theorem number_any (f : Nat) (w : World) : Calls Tryz.prog 20 #[errV f] w fun e w' => e = .returned (.int .i64 f) ∧ w' = w := by
  have n0 := nil_eql_nil
  have n1 := err_eql_nil 116
  by_cases h : f = 0
  · subst h
    rw [errV_zero]
    go_enter Tryz.func20, Tryz.ntmps20
    go_wp2
    go_ret
    exact ⟨rfl, rfl⟩
  · have h1 := assert_errno (.int .i64 f)
    rw [errV_pos h]
    go_enter Tryz.func20, Tryz.ntmps20
    go_wp2
    go_ret
    exact ⟨rfl, rfl⟩
theorem msgs_one {rds : Rws} {t u x y : Nat} {b : ByteArray} (h : rds.length ≤ 30) (hx : x ≤ 999999) (h1 : 1 ≤ y) (h9 : y ≤ 9) (hm : messageMay t u b) : ∃ rds', messagesQ [] (oneQ t u b x y) rds qB = (0, [(0, (t : Int), (u : Int), b, 0)], rds') ∧ rds'.length ≤ rds.length + 1 := by
  obtain ⟨f1, f2⟩ := findQ_some (P := []) (rds := rds) q_name (find_one t u b x y) (may_empty hx h1 h9)
  have hs : scanF (seenP [] (oneQ t u b x y) (fromB qB, toB qB)) rds (fromB qB, toB qB) 53 = 0 := (if_neg (by omega)).trans (readF_few _ (by omega))
  have hl : (scanL (seenP [] (oneQ t u b x y) (fromB qB, toB qB)) rds (fromB qB, toB qB) 53).length ≤ rds.length + 1 := by unfold scanL; rw [if_neg (by omega)]; exact readL_le _ _
  have hk : numK (msgB qB 0) = 0 := numK_msg qB (n := 0) (by omega)
  have ht : ([(msgB qB 0, joinB t u b)] : Rws).take 53 = [(msgB qB 0, joinB t u b)] := rfl
  have hf : msgsF [(msgB qB 0, joinB t u b)] = 0 := by
    unfold msgsF
    rw [hk, mOf_join 0 hm]; rfl
  have hg : msgsL [(msgB qB 0, joinB t u b)] = [(0, (t : Int), (u : Int), b, 0)] := by
    unfold msgsL
    rw [List.map_cons, hk, mOf_join 0 hm]; rfl
  unfold messagesQ
  rw [f1, f2, if_pos rfl, if_pos hs, seen_one, ht, if_pos hf, hg]
  rw [seen_one] at hl
  exact ⟨_, rfl, hl⟩
set_option maxRecDepth 8000 in
set_option maxHeartbeats 4000000 in
theorem waits_any (w : World) (hL : Laid w) : Calls Tryz.prog 15 #[] w fun e w' => ∃ wb, e = .returned (.tuple #[.pointer (some ⟨wb, 0, none⟩), .bool true]) ∧ Below w.heap.size w w' := by
  have n0 := nil_eql_nil
  have n1 := nil_neq_nil
  have HL := hide hL
  clear hL
  go_enter Tryz.func15, Tryz.ntmps15
  go_wp2_with (first
    | (go_at_call 12; refine (new_any [] none 0 _ (.inl rfl) (by decide) (by simp)).mono ?_; rintro e w1 ⟨vb, rfl, hb1, mb, D, g, hv⟩; have HV1 := hide hv; have HB1 := hide hb1; clear hv hb1)
    | (go_at_call 11; refine (view_new _ HV1.out).mono ?_; rintro e w2 ⟨wb, rfl, hw2, hb2⟩; have H2 := hide (lq_make HL.out (Below.refl _ _) HB1.out HV1.out hw2 hb2); clear hw2 hb2)
    | (go_at_call 16; refine (lq_create (f := 0) (n' := 1) (chs' := [cqQ qB 0 3 eB]) H2.out (by decide) (by decide) (fun rds hr => by obtain ⟨r, e, l⟩ := create_one (rds := rds) (y := 3) (by omega) (by omega) (by omega); exact ⟨r, e, by omega⟩)).mono ?_; rintro e w3 ⟨rfl, h3⟩; have H3 := hide h3; clear h3; rw [errV_zero])
    | (go_at_call 17; refine (lq_send (f := 0) (n' := 1) (k := 0) (chs' := oneQ 0 0 ⟨#[120]⟩ 1 3) H3.out (by decide) (fun rds hr => ⟨rds, send_one (by omega) (by omega) (by decide), hr⟩)).mono ?_; rintro e w4 ⟨rfl, h4⟩; have H4 := hide h4; clear h4; rw [errV_zero])
    | (go_at_call 19; refine (lq_messages (n' := 2) (l := [(0, 0, 0, ⟨#[120]⟩, 0)]) H4.out (by decide) (fun rds hr => by obtain ⟨r, e, l⟩ := msgs_one (rds := rds) (t := 0) (u := 0) (x := 1) (y := 3) (b := ⟨#[120]⟩) (by omega) (by omega) (by omega) (by omega) ⟨by omega, by omega, by decide⟩; exact ⟨r, e, by omega⟩)).mono ?_; rintro e w5 ⟨v, rfl, ho5, h5⟩; have H5 := hide h5; obtain ⟨g, cap, rfl, _⟩ := World.ownsRow.form ho5 (by simp); clear h5 ho5)
    | fail)
  go_ret2
  exact ⟨wb, rfl, H5.out.bel⟩
end Go.Proofs.YtpbhcjkllfonhaaGreatDoor

/-
  Laws over queues in a view of no rows: an act that leaves a block of one's own alone.
-/
namespace Go.Proofs.YtpbhcjkllfonhaaGreatDoor
open Go.RowKit Go.Joins Go.Shelf

/-- the same, with a block of one's own -/
def LQB (w W : World) (wb : Nat) (chs : List Chg) (n b : Nat) : Prop := ∃ B S rds, QV W B wb S [] 0 chs rds ∧ rds.length ≤ n ∧ w.heap.size ≤ B ∧ Below w.heap.size w W ∧ ¬ S b ∧ b < W.heap.size
theorem LQ.box {w W : World} {wb : Nat} {chs : List Chg} {n : Nat} (h : LQ w W wb chs n) (vs : Array Value) (t : TypeId) : LQB w (W.alloc (.cells vs t)) wb chs n W.heap.size := by
  obtain ⟨B, S, rds, hq, hl, hB, hw⟩ := h
  have hb := below_alloc1 W (.cells vs t)
  exact ⟨B, S, rds, hq.on hb, hl, hB, hw.trans (hb.mono hw.size), fun e => by have := hq.pv.lt e; omega, by simp⟩
theorem LQB.lq {w W : World} {wb : Nat} {chs : List Chg} {n b : Nat} (h : LQB w W wb chs n b) : LQ w W wb chs n := by
  obtain ⟨B, S, rds, hq, hl, hB, hw, _⟩ := h
  exact ⟨B, S, rds, hq, hl, hB, hw⟩
theorem lqb_wait {w W : World} {wb : Nat} {chs chs' : List Chg} {n n' b : Nat} {f : Nat} {name : ByteArray} {k tries until_ : Int} (h : LQB w W wb chs n b) (hn : name.size ≤ 1000) (hk0 : -9223372036854775808 ≤ k) (hk1 : k ≤ 9223372036854775807) (hp : ∀ rds : Rws, rds.length ≤ n → ∃ rds', waitQ [] chs rds name k tries until_ = (f, chs', rds') ∧ rds'.length ≤ n') :
    Calls Tryz.prog 22 #[.pointer (some ⟨wb, 0, none⟩), .string name, .int .i64 k, .int .i64 tries, .int .i64 until_] W fun e W' => e = .returned (errV f) ∧ (LQ w W' wb chs' n' ∧ W'.heap[b]? = W.heap[b]?) := by
  obtain ⟨B, S, rds, hq, hl, hB, hw, hnb, hlt⟩ := h
  obtain ⟨rds', e, hl'⟩ := hp rds hl
  refine (qwait_any name k tries until_ W hq hn hk0 hk1).mono fun _ _ ⟨he, ha⟩ => ?_
  rw [e] at he ha
  obtain ⟨S', hq', hs'⟩ := ha
  exact ⟨he, lq_to hw hB ⟨S', hq', hs'⟩ hl', (hs'.far b hlt hnb).1⟩
theorem recv_last {rds : Rws} {x y : Nat} (h : rds.length ≤ 30) (hx : x ≤ 999999) (h1 : 1 ≤ y) (h9 : y ≤ 9) : ∃ rds', receiveQ [] (goneQ x y) rds qB 1000000 0 = (noM 12, goneQ x y, rds') ∧ rds'.length ≤ rds.length + 1 := by
  have e := recv_none (rds := rds) (x := x) (y := y) (now := 1000000) (long := 0) h hx h1 h9 (Nat.le_refl _) (by omega)
  rw [show ((1000000 : Nat) : Int) = 1000000 from rfl, show ((0 : Nat) : Int) = 0 from rfl] at e
  exact e
end Go.Proofs.YtpbhcjkllfonhaaGreatDoor

/-
  Two queues and three messages in a view of no rows: plain facts.
-/
namespace Go.Proofs.YtpbhcjkllfonhaaGreatDoor
open Go.RowKit Go.Joins

abbrev dB : ByteArray := ⟨#[100]⟩
abbrev nxB : ByteArray := ⟨#[110, 101, 120, 116]⟩
theorem d_name : nameL dB.data.toList = true := by decide +kernel
theorem d_nil : nilS dB = false := by decide +kernel
theorem kl00 : ltS (msgB dB 0) (msgB dB 0) = false := by decide +kernel
theorem ke00 : eqS (msgB dB 0) (msgB dB 0) = true := by decide +kernel
theorem kl01 : ltS (msgB dB 0) (msgB qB 0) = true := by decide +kernel
theorem ke01 : eqS (msgB dB 0) (msgB qB 0) = false := by decide +kernel
theorem kl02 : ltS (msgB dB 0) (msgB qB 1) = true := by decide +kernel
theorem ke02 : eqS (msgB dB 0) (msgB qB 1) = false := by decide +kernel
theorem kl03 : ltS (msgB dB 0) (queB dB) = true := by decide +kernel
theorem ke03 : eqS (msgB dB 0) (queB dB) = false := by decide +kernel
theorem kl04 : ltS (msgB dB 0) (queB qB) = true := by decide +kernel
theorem ke04 : eqS (msgB dB 0) (queB qB) = false := by decide +kernel
theorem kl10 : ltS (msgB qB 0) (msgB dB 0) = false := by decide +kernel
theorem ke10 : eqS (msgB qB 0) (msgB dB 0) = false := by decide +kernel
theorem kl11 : ltS (msgB qB 0) (msgB qB 0) = false := by decide +kernel
theorem ke11 : eqS (msgB qB 0) (msgB qB 0) = true := by decide +kernel
theorem kl12 : ltS (msgB qB 0) (msgB qB 1) = true := by decide +kernel
theorem ke12 : eqS (msgB qB 0) (msgB qB 1) = false := by decide +kernel
theorem kl13 : ltS (msgB qB 0) (queB dB) = true := by decide +kernel
theorem ke13 : eqS (msgB qB 0) (queB dB) = false := by decide +kernel
theorem kl14 : ltS (msgB qB 0) (queB qB) = true := by decide +kernel
theorem ke14 : eqS (msgB qB 0) (queB qB) = false := by decide +kernel
theorem kl20 : ltS (msgB qB 1) (msgB dB 0) = false := by decide +kernel
theorem ke20 : eqS (msgB qB 1) (msgB dB 0) = false := by decide +kernel
theorem kl21 : ltS (msgB qB 1) (msgB qB 0) = false := by decide +kernel
theorem ke21 : eqS (msgB qB 1) (msgB qB 0) = false := by decide +kernel
theorem kl22 : ltS (msgB qB 1) (msgB qB 1) = false := by decide +kernel
theorem ke22 : eqS (msgB qB 1) (msgB qB 1) = true := by decide +kernel
theorem kl23 : ltS (msgB qB 1) (queB dB) = true := by decide +kernel
theorem ke23 : eqS (msgB qB 1) (queB dB) = false := by decide +kernel
theorem kl24 : ltS (msgB qB 1) (queB qB) = true := by decide +kernel
theorem ke24 : eqS (msgB qB 1) (queB qB) = false := by decide +kernel
theorem kl30 : ltS (queB dB) (msgB dB 0) = false := by decide +kernel
theorem ke30 : eqS (queB dB) (msgB dB 0) = false := by decide +kernel
theorem kl31 : ltS (queB dB) (msgB qB 0) = false := by decide +kernel
theorem ke31 : eqS (queB dB) (msgB qB 0) = false := by decide +kernel
theorem kl32 : ltS (queB dB) (msgB qB 1) = false := by decide +kernel
theorem ke32 : eqS (queB dB) (msgB qB 1) = false := by decide +kernel
theorem kl33 : ltS (queB dB) (queB dB) = false := by decide +kernel
theorem ke33 : eqS (queB dB) (queB dB) = true := by decide +kernel
theorem kl34 : ltS (queB dB) (queB qB) = true := by decide +kernel
theorem ke34 : eqS (queB dB) (queB qB) = false := by decide +kernel
theorem kl40 : ltS (queB qB) (msgB dB 0) = false := by decide +kernel
theorem ke40 : eqS (queB qB) (msgB dB 0) = false := by decide +kernel
theorem kl41 : ltS (queB qB) (msgB qB 0) = false := by decide +kernel
theorem ke41 : eqS (queB qB) (msgB qB 0) = false := by decide +kernel
theorem kl42 : ltS (queB qB) (msgB qB 1) = false := by decide +kernel
theorem ke42 : eqS (queB qB) (msgB qB 1) = false := by decide +kernel
theorem kl43 : ltS (queB qB) (queB dB) = false := by decide +kernel
theorem ke43 : eqS (queB qB) (queB dB) = false := by decide +kernel
theorem kl44 : ltS (queB qB) (queB qB) = false := by decide +kernel
theorem ke44 : eqS (queB qB) (queB qB) = true := by decide +kernel
theorem khq0 : hasS (fromB qB) (toB qB) (msgB dB 0) = false := by decide +kernel
theorem khq1 : hasS (fromB qB) (toB qB) (msgB qB 0) = true := by decide +kernel
theorem khq2 : hasS (fromB qB) (toB qB) (msgB qB 1) = true := by decide +kernel
theorem khq3 : hasS (fromB qB) (toB qB) (queB dB) = false := by decide +kernel
theorem khq4 : hasS (fromB qB) (toB qB) (queB qB) = false := by decide +kernel
theorem khz0 : hasS (zeroS (msgB qB 0)) (toB qB) (msgB dB 0) = false := by decide +kernel
theorem khz1 : hasS (zeroS (msgB qB 0)) (toB qB) (msgB qB 0) = false := by decide +kernel
theorem khz2 : hasS (zeroS (msgB qB 0)) (toB qB) (msgB qB 1) = true := by decide +kernel
theorem khz3 : hasS (zeroS (msgB qB 0)) (toB qB) (queB dB) = false := by decide +kernel
theorem khz4 : hasS (zeroS (msgB qB 0)) (toB qB) (queB qB) = false := by decide +kernel
theorem khd0 : hasS (fromB dB) (toB dB) (msgB dB 0) = true := by decide +kernel
theorem khd1 : hasS (fromB dB) (toB dB) (msgB qB 0) = false := by decide +kernel
theorem khd2 : hasS (fromB dB) (toB dB) (msgB qB 1) = false := by decide +kernel
theorem khd3 : hasS (fromB dB) (toB dB) (queB dB) = false := by decide +kernel
theorem khd4 : hasS (fromB dB) (toB dB) (queB qB) = false := by decide +kernel
theorem may_d {x y : Nat} (hx : x ≤ 999999) (h1 : 1 ≤ y) (h9 : y ≤ 9) : queueMay x y dB := ⟨hx, h1, h9, .inr (by decide +kernel)⟩
section
variable {t u y : Nat} {b : ByteArray} {rds : Rws}
abbrev lB2 (t u : Nat) (b : ByteArray) (y : Nat) : List Chg := [cmQ qB 0 t u b, cmQ qB 1 0 0 nxB, cqQ qB 2 y eB]
theorem lB2_rises (t u : Nat) (b : ByteArray) (y : Nat) : rises (lB2 t u b y) := by simp [rises, kl12, kl14, kl24]
theorem lB2_fq (t u : Nat) (b : ByteArray) (y : Nat) : findC (lB2 t u b y) (queB qB) = some (cqQ qB 2 y eB) := by simp [findC_cons, kl14, kl24, kl44, ke44]
theorem lB2_sq (t u : Nat) (b : ByteArray) (y : Nat) : seenP [] (lB2 t u b y) (fromB qB, toB qB) = [(msgB qB 0, joinB t u b), (msgB qB 1, joinB 0 0 nxB)] := by
  rw [seen_none _ (lB2_rises t u b y)]
  simp [seenF, khq1, khq2, khq4]
theorem lB2_sz (t u : Nat) (b : ByteArray) (y : Nat) : seenP [] (lB2 t u b y) (zeroS (msgB qB 0), toB qB) = [(msgB qB 1, joinB 0 0 nxB)] := by
  rw [seen_none _ (lB2_rises t u b y)]
  simp [seenF, khz1, khz2, khz4]
abbrev lG2 (y : Nat) : List Chg := [cgQ qB 0, cmQ qB 1 0 0 nxB, cqQ qB 2 y eB]
theorem lG2_rises (y : Nat) : rises (lG2 y) := by simp [rises, kl12, kl14, kl24]
theorem lG2_fq (y : Nat) : findC (lG2 y) (queB qB) = some (cqQ qB 2 y eB) := by simp [findC_cons, kl14, kl24, kl44, ke44]
theorem lG2_sq (y : Nat) : seenP [] (lG2 y) (fromB qB, toB qB) = [(msgB qB 1, joinB 0 0 nxB)] := by
  rw [seen_none _ (lG2_rises y)]
  simp [seenF, khq1, khq2, khq4]
theorem lG2_sz (y : Nat) : seenP [] (lG2 y) (zeroS (msgB qB 0), toB qB) = [(msgB qB 1, joinB 0 0 nxB)] := by
  rw [seen_none _ (lG2_rises y)]
  simp [seenF, khz1, khz2, khz4]
abbrev lC2 (y : Nat) : List Chg := [cgQ qB 0, cmQ qB 1 1 99 nxB, cqQ qB 2 y eB]
theorem lC2_rises (y : Nat) : rises (lC2 y) := by simp [rises, kl12, kl14, kl24]
theorem lC2_fq (y : Nat) : findC (lC2 y) (queB qB) = some (cqQ qB 2 y eB) := by simp [findC_cons, kl14, kl24, kl44, ke44]
theorem lC2_sq (y : Nat) : seenP [] (lC2 y) (fromB qB, toB qB) = [(msgB qB 1, joinB 1 99 nxB)] := by
  rw [seen_none _ (lC2_rises y)]
  simp [seenF, khq1, khq2, khq4]
theorem lC2_sz (y : Nat) : seenP [] (lC2 y) (zeroS (msgB qB 0), toB qB) = [(msgB qB 1, joinB 1 99 nxB)] := by
  rw [seen_none _ (lC2_rises y)]
  simp [seenF, khz1, khz2, khz4]
abbrev lD0  : List Chg := [cqQ dB 0 1 eB]
theorem lD0_rises  : rises (lD0) := by simp [rises]
theorem lD0_fd  : findC (lD0) (queB dB) = some (cqQ dB 0 1 eB) := by simp [findC_cons, kl33, ke33]
abbrev lD1 (y : Nat) : List Chg := [cqQ dB 0 1 eB, cqQ qB 0 y dB]
theorem lD1_rises (y : Nat) : rises (lD1 y) := by simp [rises, kl34]
theorem lD1_fd (y : Nat) : findC (lD1 y) (queB dB) = some (cqQ dB 0 1 eB) := by simp [findC_cons, kl33, ke33]
theorem lD1_fq (y : Nat) : findC (lD1 y) (queB qB) = some (cqQ qB 0 y dB) := by simp [findC_cons, kl34, kl44, ke44]
abbrev lD2 (t u : Nat) (b : ByteArray) (y : Nat) : List Chg := [cmQ qB 0 t u b, cqQ dB 0 1 eB, cqQ qB 1 y dB]
theorem lD2_rises (t u : Nat) (b : ByteArray) (y : Nat) : rises (lD2 t u b y) := by simp [rises, kl13, kl14, kl34]
theorem lD2_fd (t u : Nat) (b : ByteArray) (y : Nat) : findC (lD2 t u b y) (queB dB) = some (cqQ dB 0 1 eB) := by simp [findC_cons, kl13, kl33, ke33]
theorem lD2_fq (t u : Nat) (b : ByteArray) (y : Nat) : findC (lD2 t u b y) (queB qB) = some (cqQ qB 1 y dB) := by simp [findC_cons, kl14, kl34, kl44, ke44]
theorem lD2_sq (t u : Nat) (b : ByteArray) (y : Nat) : seenP [] (lD2 t u b y) (fromB qB, toB qB) = [(msgB qB 0, joinB t u b)] := by
  rw [seen_none _ (lD2_rises t u b y)]
  simp [seenF, khq1, khq3, khq4]
theorem lD2_sz (t u : Nat) (b : ByteArray) (y : Nat) : seenP [] (lD2 t u b y) (zeroS (msgB qB 0), toB qB) = [] := by
  rw [seen_none _ (lD2_rises t u b y)]
  simp [seenF, khz1, khz3, khz4]
abbrev lE2 (b : ByteArray) (y : Nat) : List Chg := [cmQ dB 0 0 0 b, cgQ qB 0, cqQ dB 1 1 eB, cqQ qB 1 y dB]
theorem lE2_rises (b : ByteArray) (y : Nat) : rises (lE2 b y) := by simp [rises, kl01, kl03, kl04, kl13, kl14, kl34]
theorem lE2_fd (b : ByteArray) (y : Nat) : findC (lE2 b y) (queB dB) = some (cqQ dB 1 1 eB) := by simp [findC_cons, kl03, kl13, kl33, ke33]
theorem lE2_fq (b : ByteArray) (y : Nat) : findC (lE2 b y) (queB qB) = some (cqQ qB 1 y dB) := by simp [findC_cons, kl04, kl14, kl34, kl44, ke44]
theorem lE2_sq (b : ByteArray) (y : Nat) : seenP [] (lE2 b y) (fromB qB, toB qB) = [] := by
  rw [seen_none _ (lE2_rises b y)]
  simp [seenF, khq0, khq1, khq3, khq4]
theorem lE2_sz (b : ByteArray) (y : Nat) : seenP [] (lE2 b y) (zeroS (msgB qB 0), toB qB) = [] := by
  rw [seen_none _ (lE2_rises b y)]
  simp [seenF, khz0, khz1, khz3, khz4]
abbrev lF2 (y : Nat) : List Chg := [cgQ qB 0, cqQ dB 0 1 eB, cqQ qB 1 y dB]
theorem lF2_rises (y : Nat) : rises (lF2 y) := by simp [rises, kl13, kl14, kl34]
theorem lF2_fd (y : Nat) : findC (lF2 y) (queB dB) = some (cqQ dB 0 1 eB) := by simp [findC_cons, kl13, kl33, ke33]
theorem lF2_fq (y : Nat) : findC (lF2 y) (queB qB) = some (cqQ qB 1 y dB) := by simp [findC_cons, kl14, kl34, kl44, ke44]
theorem lF2_sq (y : Nat) : seenP [] (lF2 y) (fromB qB, toB qB) = [] := by
  rw [seen_none _ (lF2_rises y)]
  simp [seenF, khq1, khq3, khq4]
theorem lF2_sz (y : Nat) : seenP [] (lF2 y) (zeroS (msgB qB 0), toB qB) = [] := by
  rw [seen_none _ (lF2_rises y)]
  simp [seenF, khz1, khz3, khz4]
abbrev lD3 (t u : Nat) (b : ByteArray) (y : Nat) : List Chg := [cmQ qB 0 t u b, cmQ qB 1 0 0 nxB, cqQ dB 0 1 eB, cqQ qB 2 y dB]
theorem lD3_rises (t u : Nat) (b : ByteArray) (y : Nat) : rises (lD3 t u b y) := by simp [rises, kl12, kl13, kl14, kl23, kl24, kl34]
theorem lD3_fd (t u : Nat) (b : ByteArray) (y : Nat) : findC (lD3 t u b y) (queB dB) = some (cqQ dB 0 1 eB) := by simp [findC_cons, kl13, kl23, kl33, ke33]
theorem lD3_fq (t u : Nat) (b : ByteArray) (y : Nat) : findC (lD3 t u b y) (queB qB) = some (cqQ qB 2 y dB) := by simp [findC_cons, kl14, kl24, kl34, kl44, ke44]
theorem lD3_sq (t u : Nat) (b : ByteArray) (y : Nat) : seenP [] (lD3 t u b y) (fromB qB, toB qB) = [(msgB qB 0, joinB t u b), (msgB qB 1, joinB 0 0 nxB)] := by
  rw [seen_none _ (lD3_rises t u b y)]
  simp [seenF, khq1, khq2, khq3, khq4]
theorem lD3_sz (t u : Nat) (b : ByteArray) (y : Nat) : seenP [] (lD3 t u b y) (zeroS (msgB qB 0), toB qB) = [(msgB qB 1, joinB 0 0 nxB)] := by
  rw [seen_none _ (lD3_rises t u b y)]
  simp [seenF, khz1, khz2, khz3, khz4]
abbrev lF3 (y : Nat) : List Chg := [cgQ qB 0, cmQ qB 1 0 0 nxB, cqQ dB 0 1 eB, cqQ qB 2 y dB]
theorem lF3_rises (y : Nat) : rises (lF3 y) := by simp [rises, kl12, kl13, kl14, kl23, kl24, kl34]
theorem lF3_fd (y : Nat) : findC (lF3 y) (queB dB) = some (cqQ dB 0 1 eB) := by simp [findC_cons, kl13, kl23, kl33, ke33]
theorem lF3_fq (y : Nat) : findC (lF3 y) (queB qB) = some (cqQ qB 2 y dB) := by simp [findC_cons, kl14, kl24, kl34, kl44, ke44]
theorem lF3_sq (y : Nat) : seenP [] (lF3 y) (fromB qB, toB qB) = [(msgB qB 1, joinB 0 0 nxB)] := by
  rw [seen_none _ (lF3_rises y)]
  simp [seenF, khq1, khq2, khq3, khq4]
theorem lF3_sz (y : Nat) : seenP [] (lF3 y) (zeroS (msgB qB 0), toB qB) = [(msgB qB 1, joinB 0 0 nxB)] := by
  rw [seen_none _ (lF3_rises y)]
  simp [seenF, khz1, khz2, khz3, khz4]
abbrev lE3 (b : ByteArray) (y : Nat) : List Chg := [cmQ dB 0 0 0 b, cgQ qB 0, cmQ qB 1 0 0 nxB, cqQ dB 1 1 eB, cqQ qB 2 y dB]
theorem lE3_rises (b : ByteArray) (y : Nat) : rises (lE3 b y) := by simp [rises, kl01, kl02, kl03, kl04, kl12, kl13, kl14, kl23, kl24, kl34]
theorem lE3_fd (b : ByteArray) (y : Nat) : findC (lE3 b y) (queB dB) = some (cqQ dB 1 1 eB) := by simp [findC_cons, kl03, kl13, kl23, kl33, ke33]
theorem lE3_fq (b : ByteArray) (y : Nat) : findC (lE3 b y) (queB qB) = some (cqQ qB 2 y dB) := by simp [findC_cons, kl04, kl14, kl24, kl34, kl44, ke44]
theorem lE3_sq (b : ByteArray) (y : Nat) : seenP [] (lE3 b y) (fromB qB, toB qB) = [(msgB qB 1, joinB 0 0 nxB)] := by
  rw [seen_none _ (lE3_rises b y)]
  simp [seenF, khq0, khq1, khq2, khq3, khq4]
theorem lE3_sz (b : ByteArray) (y : Nat) : seenP [] (lE3 b y) (zeroS (msgB qB 0), toB qB) = [(msgB qB 1, joinB 0 0 nxB)] := by
  rw [seen_none _ (lE3_rises b y)]
  simp [seenF, khz0, khz1, khz2, khz3, khz4]
abbrev lD4 (b : ByteArray) (y : Nat) : List Chg := [cmQ dB 0 0 0 b, cgQ qB 0, cmQ qB 1 1 99 nxB, cqQ dB 1 1 eB, cqQ qB 2 y dB]
theorem lD4_rises (b : ByteArray) (y : Nat) : rises (lD4 b y) := by simp [rises, kl01, kl02, kl03, kl04, kl12, kl13, kl14, kl23, kl24, kl34]
theorem lD4_fd (b : ByteArray) (y : Nat) : findC (lD4 b y) (queB dB) = some (cqQ dB 1 1 eB) := by simp [findC_cons, kl03, kl13, kl23, kl33, ke33]
theorem lD4_fq (b : ByteArray) (y : Nat) : findC (lD4 b y) (queB qB) = some (cqQ qB 2 y dB) := by simp [findC_cons, kl04, kl14, kl24, kl34, kl44, ke44]
theorem lD4_sq (b : ByteArray) (y : Nat) : seenP [] (lD4 b y) (fromB qB, toB qB) = [(msgB qB 1, joinB 1 99 nxB)] := by
  rw [seen_none _ (lD4_rises b y)]
  simp [seenF, khq0, khq1, khq2, khq3, khq4]
theorem lD4_sz (b : ByteArray) (y : Nat) : seenP [] (lD4 b y) (zeroS (msgB qB 0), toB qB) = [(msgB qB 1, joinB 1 99 nxB)] := by
  rw [seen_none _ (lD4_rises b y)]
  simp [seenF, khz0, khz1, khz2, khz3, khz4]
theorem lD4_sd (b : ByteArray) (y : Nat) : seenP [] (lD4 b y) (fromB dB, toB dB) = [(msgB dB 0, joinB 0 0 b)] := by
  rw [seen_none _ (lD4_rises b y)]
  simp [seenF, khd0, khd1, khd2, khd3, khd4]
end
theorem gone_z (x y : Nat) : seenP [] (goneQ x y) (zeroS (msgB qB 0), toB qB) = [] := by
  rw [seen_none _ (gone_rises ..)]
  simp [seenF, khz4]
theorem i1 (t u : Nat) (b : ByteArray) (y : Nat) : insL (oneQ t u b 1 y) (cmQ qB 1 0 0 nxB) = [cmQ qB 0 t u b, cmQ qB 1 0 0 nxB, cqQ qB 1 y eB] := by simp [insL, kl12, kl42, ke42]
theorem i2 (t u : Nat) (b : ByteArray) (y : Nat) : insL ([cmQ qB 0 t u b, cmQ qB 1 0 0 nxB, cqQ qB 1 y eB]) (cqQ qB 2 y eB) = lB2 t u b y := by simp [insL, kl14, kl24, kl44, ke44]
theorem i3 (t u : Nat) (b : ByteArray) (y : Nat) : insL (lB2 t u b y) (cgQ qB 0) = lG2 y := by simp [insL, kl11, ke11]
theorem i4 (y : Nat) : insL (lG2 y) (cmQ qB 1 1 99 nxB) = lC2 y := by simp [insL, kl12, kl22, ke22]
theorem j1 (y : Nat) : insL (lD0) (cqQ qB 0 y dB) = lD1 y := by simp [insL, kl34]
theorem j2 (b : ByteArray) (y : Nat) : insL (lD1 y) (cmQ qB 0 0 0 b) = [cmQ qB 0 0 0 b, cqQ dB 0 1 eB, cqQ qB 0 y dB] := by simp [insL, kl31, ke31]
theorem j3 (b : ByteArray) (y : Nat) : insL ([cmQ qB 0 0 0 b, cqQ dB 0 1 eB, cqQ qB 0 y dB]) (cqQ qB 1 y dB) = lD2 0 0 b y := by simp [insL, kl14, kl34, kl44, ke44]
theorem j4 (t u t' u' : Nat) (b b' : ByteArray) (y : Nat) : insL (lD2 t u b y) (cmQ qB 0 t' u' b') = lD2 t' u' b' y := by simp [insL, kl11, ke11]
theorem j5 (t u : Nat) (b : ByteArray) (y : Nat) : insL (lD2 t u b y) (cgQ qB 0) = lF2 y := by simp [insL, kl11, ke11]
theorem j6 (b : ByteArray) (y : Nat) : insL (lF2 y) (cmQ dB 0 0 0 b) = [cmQ dB 0 0 0 b, cgQ qB 0, cqQ dB 0 1 eB, cqQ qB 1 y dB] := by simp [insL, kl10, ke10]
theorem j7 (b : ByteArray) (y : Nat) : insL ([cmQ dB 0 0 0 b, cgQ qB 0, cqQ dB 0 1 eB, cqQ qB 1 y dB]) (cqQ dB 1 1 eB) = lE2 b y := by simp [insL, kl03, kl13, kl33, ke33]
theorem j8 (t u : Nat) (b : ByteArray) (y : Nat) : insL (lD2 t u b y) (cmQ qB 1 0 0 nxB) = [cmQ qB 0 t u b, cmQ qB 1 0 0 nxB, cqQ dB 0 1 eB, cqQ qB 1 y dB] := by simp [insL, kl12, kl32, ke32]
theorem j9 (t u : Nat) (b : ByteArray) (y : Nat) : insL ([cmQ qB 0 t u b, cmQ qB 1 0 0 nxB, cqQ dB 0 1 eB, cqQ qB 1 y dB]) (cqQ qB 2 y dB) = lD3 t u b y := by simp [insL, kl14, kl24, kl34, kl44, ke44]
theorem jA (t u : Nat) (b : ByteArray) (y : Nat) : insL (lD3 t u b y) (cgQ qB 0) = lF3 y := by simp [insL, kl11, ke11]
theorem jB (b : ByteArray) (y : Nat) : insL (lF3 y) (cmQ dB 0 0 0 b) = [cmQ dB 0 0 0 b, cgQ qB 0, cmQ qB 1 0 0 nxB, cqQ dB 0 1 eB, cqQ qB 2 y dB] := by simp [insL, kl10, ke10]
theorem jC (b : ByteArray) (y : Nat) : insL ([cmQ dB 0 0 0 b, cgQ qB 0, cmQ qB 1 0 0 nxB, cqQ dB 0 1 eB, cqQ qB 2 y dB]) (cqQ dB 1 1 eB) = lE3 b y := by simp [insL, kl03, kl13, kl23, kl33, ke33]
theorem jD (b : ByteArray) (y : Nat) : insL (lE3 b y) (cmQ qB 1 1 99 nxB) = lD4 b y := by simp [insL, kl02, kl12, kl22, ke22]
end Go.Proofs.YtpbhcjkllfonhaaGreatDoor

/-
  What acts make of two queues and three messages in a view of no rows.
-/
namespace Go.Proofs.YtpbhcjkllfonhaaGreatDoor
open Go.RowKit Go.Joins

theorem msgs_gen {chs : List Chg} {name d : ByteArray} {rds : Rws} {n t u x y : Nat} {b : ByteArray} (h : rds.length ≤ 30) (hnm : nameL name.data.toList = true) (hf : findC chs (queB name) = some (cqQ name x y d)) (hq : queueMay x y d) (hm : messageMay t u b) (hn : n ≤ 999999) (hs : seenP [] chs (fromB name, toB name) = [(msgB name n, joinB t u b)]) :
    ∃ rds', messagesQ [] chs rds name = (0, [((n : Int), (t : Int), (u : Int), b, 0)], rds') ∧ rds'.length ≤ rds.length + 1 := by
  obtain ⟨f1, f2⟩ := findQ_some (P := []) (rds := rds) hnm hf hq
  have hsf : scanF (seenP [] chs (fromB name, toB name)) rds (fromB name, toB name) 53 = 0 := (if_neg (by omega)).trans (readF_few _ (by omega))
  have hl : (scanL (seenP [] chs (fromB name, toB name)) rds (fromB name, toB name) 53).length ≤ rds.length + 1 := by unfold scanL; rw [if_neg (by omega)]; exact readL_le _ _
  have hk : numK (msgB name n) = n := numK_msg name hn
  have ht : ([(msgB name n, joinB t u b)] : Rws).take 53 = [(msgB name n, joinB t u b)] := rfl
  have hf' : msgsF [(msgB name n, joinB t u b)] = 0 := by
    unfold msgsF
    rw [hk, mOf_join _ hm]; rfl
  have hg : msgsL [(msgB name n, joinB t u b)] = [((n : Int), (t : Int), (u : Int), b, 0)] := by
    unfold msgsL
    rw [List.map_cons, hk, mOf_join _ hm]; rfl
  unfold messagesQ
  rw [f1, f2, if_pos rfl, if_pos hsf, hs, ht, if_pos hf', hg]
  rw [hs] at hl
  exact ⟨_, rfl, hl⟩
section
variable {rds : Rws} {t u y now long : Nat} {b : ByteArray}
theorem recv_bury (h : rds.length ≤ 30) (h1 : 1 ≤ y) (h9 : y ≤ 9) (hb : b.size ≤ 28) (ht : y ≤ t) (ht9 : t ≤ 9) (hu : u ≤ now) (hn : now ≤ 1000000) (hl : long ≤ 1000000) :
    ∃ rds', receiveQ [] (oneQ t u b 1 y) rds qB now long = (noM 12, oneQ t u b 1 y, rds') ∧ rds'.length ≤ rds.length + 2 := by
  obtain ⟨rds1, e1, l1⟩ := take_bury (P := []) (dead := eB) (k := 1000000) (until_ := (now : Int) + (long : Int)) (tries := y) (now := now) (chs' := goneQ 1 y) (seen_one t u b 1 y) (by omega : rds.length < 40) (by omega) ⟨ht9, by omega, hb⟩ (by omega) (by omega) (fun rds => by have e := bury_none (P := []) (chs := oneQ t u b 1 y) (b := b) (n := 0) q_name e_nil (by rw [ins_gone]; simp) rds; rw [ins_gone] at e; exact e)
  obtain ⟨rds2, e2, l2⟩ := take_end (P := []) (name := qB) (dead := eB) (k := 999999) (until_ := (now : Int) + (long : Int)) (tries := y) (now := now) (gone_z 1 y) (by omega : rds1.length < 40)
  refine ⟨rds2, ?_, by omega⟩
  rw [receive_ok q_name (find_one t u b 1 y) (may_empty (by omega) h1 h9) (time_nat hn) (time_nat hl) (e1.trans e2)]
  rfl
theorem send_next (h1 : 1 ≤ y) (h9 : y ≤ 9) : sendQ [] (oneQ t u b 1 y) rds qB nxB 0 = (1, 0, lB2 t u b y, rds) := by
  have e := send_may (P := []) (rds := rds) (u := 0) (b := nxB) q_name (find_one t u b 1 y) (by omega) (by omega) (by decide) (may_empty (by omega) h1 h9) (by simp)
  rw [i1, show 1 + 1 = 2 from rfl, i2] at e
  exact e
theorem recv_next (h : rds.length ≤ 30) (h1 : 1 ≤ y) (h9 : y ≤ 9) (hb : b.size ≤ 28) (ht : y ≤ t) (ht9 : t ≤ 9) (hu : u ≤ 99) :
    ∃ rds', receiveQ [] (lB2 t u b y) rds qB 99 0 = ((1, 1, 99, nxB, 0), lC2 y, rds') ∧ rds'.length ≤ rds.length + 2 := by
  obtain ⟨rds1, e1, l1⟩ := take_bury (P := []) (dead := eB) (k := 1000000) (until_ := ((99 : Nat) : Int) + ((0 : Nat) : Int)) (tries := y) (now := ((99 : Nat) : Int)) (chs' := lG2 y) (lB2_sq t u b y) (by omega : rds.length < 40) (by omega) ⟨ht9, by omega, hb⟩ (by omega) (by omega) (fun rds => by have e := bury_none (P := []) (chs := lB2 t u b y) (b := b) (n := 0) q_name e_nil (by rw [i3]; simp) rds; rw [i3] at e; exact e)
  obtain ⟨rds2, e2, l2⟩ := take_hit (P := []) (name := qB) (dead := eB) (k := 999999) (v := 99) (until_ := ((99 : Nat) : Int) + ((0 : Nat) : Int)) (tries := y) (now := ((99 : Nat) : Int)) (lG2_sz y) (by omega : rds1.length < 40) (by omega) ⟨by omega, by omega, by decide⟩ (by omega) (by omega) rfl q_name ⟨by omega, by omega, by decide⟩ (by rw [i4]; simp)
  rw [i4] at e2
  refine ⟨rds2, ?_, by omega⟩
  have e := receive_ok (P := []) (rds := rds) (long := ((0 : Nat) : Int)) q_name (lB2_fq t u b y) (may_empty (by omega) h1 h9) (time_nat (n := 99) (by omega)) (time_nat (n := 0) (by omega)) (e1.trans e2)
  exact e
theorem msgs_next (h : rds.length ≤ 30) (h1 : 1 ≤ y) (h9 : y ≤ 9) : ∃ rds', messagesQ [] (lC2 y) rds qB = (0, [(1, 1, 99, nxB, 0)], rds') ∧ rds'.length ≤ rds.length + 1 :=
  msgs_gen (n := 1) (t := 1) (u := 99) (x := 2) h q_name (lC2_fq y) (may_empty (by omega) h1 h9) ⟨by omega, by omega, by decide⟩ (by omega) (lC2_sq y)
theorem create_d (h : rds.length ≤ 30) : ∃ rds', createQ [] [] rds dB 1 eB = (0, lD0, rds') ∧ rds'.length ≤ rds.length + 1 :=
  create_may (chs := []) d_name (findC_nil _) (by omega) (.inl e_nil) (may_empty (y := 1) (by omega) (by omega) (by omega)) (by simp [insL])
theorem create_qd (h : rds.length ≤ 30) (h1 : 1 ≤ y) (h9 : y ≤ 9) : ∃ rds', createQ [] lD0 rds qB y dB = (0, lD1 y, rds') ∧ rds'.length ≤ rds.length + 1 := by
  have hf : findC lD0 (queB qB) = none := by simp [findC_cons, findC_nil, kl34]
  have e := create_may (chs := lD0) (rds := rds) (y := y) q_name hf (by omega) (.inr ⟨by decide +kernel, d_name, 0, 1, eB, lD0_fd, may_empty (by omega) (by omega) (by omega)⟩) (may_d (by omega) h1 h9) (by rw [j1]; simp)
  rw [j1] at e
  exact e
theorem send_d (h1 : 1 ≤ y) (h9 : y ≤ 9) (hb : b.size ≤ 28) : sendQ [] (lD1 y) rds qB b 0 = (0, 0, lD2 0 0 b y, rds) := by
  have e := send_may (P := []) (rds := rds) (u := 0) (b := b) q_name (lD1_fq y) (by omega) (by omega) hb (may_d (by omega) h1 h9) (by simp)
  rw [j2, show 0 + 1 = 1 from rfl, j3] at e
  exact e
theorem recv_d (h : rds.length ≤ 30) (h1 : 1 ≤ y) (h9 : y ≤ 9) (hb : b.size ≤ 28) (ht : t < y) (hu : u ≤ now) (hn : now ≤ 1000000) (hl : long ≤ 1000000) :
    ∃ rds', receiveQ [] (lD2 t u b y) rds qB now long = ((0, (t : Int) + 1, (now : Int) + (long : Int), b, 0), lD2 (t + 1) (now + long) b y, rds') ∧ rds'.length ≤ rds.length + 1 := by
  obtain ⟨rds', e, l⟩ := take_hit (P := []) (dead := dB) (k := 1000000) (v := now + long) (until_ := (now : Int) + (long : Int)) (tries := y) (now := now) (lD2_sq t u b y) (by omega : rds.length < 40) (by omega) ⟨by omega, by omega, hb⟩ (by omega) (by omega) rfl q_name ⟨by omega, by omega, hb⟩ (by rw [j4]; simp)
  rw [j4] at e
  refine ⟨rds', ?_, l⟩
  rw [receive_ok q_name (lD2_fq t u b y) (may_d (by omega) h1 h9) (time_nat hn) (time_nat hl) e]
  rfl
theorem bury_d (hb : b.size ≤ 28) (rds : Rws) : buryQ [] (lD2 t u b y) rds (msgB qB 0) dB b = (0, lE2 b y, rds) := by
  have e := bury_some (P := []) (chs := lD2 t u b y) (b := b) (n := 0) (x := 0) (y := 1) (e := eB) q_name d_nil d_name (by rw [j5]; exact lF2_fd y) (by omega) (may_empty (by omega) (by omega) (by omega)) hb (by rw [j5]; simp) rds
  rw [j5, j6, show 0 + 1 = 1 from rfl, j7] at e
  exact e
theorem bury_e (hb : b.size ≤ 28) (rds : Rws) : buryQ [] (lD3 t u b y) rds (msgB qB 0) dB b = (0, lE3 b y, rds) := by
  have e := bury_some (P := []) (chs := lD3 t u b y) (b := b) (n := 0) (x := 0) (y := 1) (e := eB) q_name d_nil d_name (by rw [jA]; exact lF3_fd y) (by omega) (may_empty (by omega) (by omega) (by omega)) hb (by rw [jA]; simp) rds
  rw [jA, jB, show 0 + 1 = 1 from rfl, jC] at e
  exact e
theorem recv_buryD (h : rds.length ≤ 30) (h1 : 1 ≤ y) (h9 : y ≤ 9) (hb : b.size ≤ 28) (ht : y ≤ t) (ht9 : t ≤ 9) (hu : u ≤ now) (hn : now ≤ 1000000) (hl : long ≤ 1000000) :
    ∃ rds', receiveQ [] (lD2 t u b y) rds qB now long = (noM 12, lD2 t u b y, rds') ∧ rds'.length ≤ rds.length + 2 := by
  obtain ⟨rds1, e1, l1⟩ := take_bury (P := []) (dead := dB) (k := 1000000) (until_ := (now : Int) + (long : Int)) (tries := y) (now := now) (chs' := lE2 b y) (lD2_sq t u b y) (by omega : rds.length < 40) (by omega) ⟨ht9, by omega, hb⟩ (by omega) (by omega) (fun rds => bury_d hb rds)
  obtain ⟨rds2, e2, l2⟩ := take_end (P := []) (name := qB) (dead := dB) (k := 999999) (until_ := (now : Int) + (long : Int)) (tries := y) (now := now) (lE2_sz b y) (by omega : rds1.length < 40)
  refine ⟨rds2, ?_, by omega⟩
  rw [receive_ok q_name (lD2_fq t u b y) (may_d (by omega) h1 h9) (time_nat hn) (time_nat hl) (e1.trans e2)]
  rfl
theorem send_nextD (h1 : 1 ≤ y) (h9 : y ≤ 9) : sendQ [] (lD2 t u b y) rds qB nxB 0 = (1, 0, lD3 t u b y, rds) := by
  have e := send_may (P := []) (rds := rds) (u := 0) (b := nxB) q_name (lD2_fq t u b y) (by omega) (by omega) (by decide) (may_d (by omega) h1 h9) (by simp)
  rw [j8, show 1 + 1 = 2 from rfl, j9] at e
  exact e
theorem recv_nextD (h : rds.length ≤ 30) (h1 : 1 ≤ y) (h9 : y ≤ 9) (hb : b.size ≤ 28) (ht : y ≤ t) (ht9 : t ≤ 9) (hu : u ≤ 99) :
    ∃ rds', receiveQ [] (lD3 t u b y) rds qB 99 0 = ((1, 1, 99, nxB, 0), lD4 b y, rds') ∧ rds'.length ≤ rds.length + 2 := by
  obtain ⟨rds1, e1, l1⟩ := take_bury (P := []) (dead := dB) (k := 1000000) (until_ := ((99 : Nat) : Int) + ((0 : Nat) : Int)) (tries := y) (now := ((99 : Nat) : Int)) (chs' := lE3 b y) (lD3_sq t u b y) (by omega : rds.length < 40) (by omega) ⟨ht9, by omega, hb⟩ (by omega) (by omega) (fun rds => bury_e hb rds)
  obtain ⟨rds2, e2, l2⟩ := take_hit (P := []) (name := qB) (dead := dB) (k := 999999) (v := 99) (until_ := ((99 : Nat) : Int) + ((0 : Nat) : Int)) (tries := y) (now := ((99 : Nat) : Int)) (lE3_sz b y) (by omega : rds1.length < 40) (by omega) ⟨by omega, by omega, by decide⟩ (by omega) (by omega) rfl q_name ⟨by omega, by omega, by decide⟩ (by rw [jD]; simp)
  rw [jD] at e2
  refine ⟨rds2, ?_, by omega⟩
  have e := receive_ok (P := []) (rds := rds) (long := ((0 : Nat) : Int)) q_name (lD3_fq t u b y) (may_d (by omega) h1 h9) (time_nat (n := 99) (by omega)) (time_nat (n := 0) (by omega)) (e1.trans e2)
  exact e
theorem msgs_qD (h : rds.length ≤ 30) (h1 : 1 ≤ y) (h9 : y ≤ 9) : ∃ rds', messagesQ [] (lD4 b y) rds qB = (0, [(1, 1, 99, nxB, 0)], rds') ∧ rds'.length ≤ rds.length + 1 :=
  msgs_gen (n := 1) (t := 1) (u := 99) (x := 2) h q_name (lD4_fq b y) (may_d (by omega) h1 h9) ⟨by omega, by omega, by decide⟩ (by omega) (lD4_sq b y)
theorem msgs_dD (h : rds.length ≤ 30) (hb : b.size ≤ 28) : ∃ rds', messagesQ [] (lD4 b y) rds dB = (0, [(0, 0, 0, b, 0)], rds') ∧ rds'.length ≤ rds.length + 1 :=
  msgs_gen (n := 0) (t := 0) (u := 0) (x := 1) h d_name (lD4_fd b y) (may_empty (x := 1) (y := 1) (by omega) (by omega) (by omega)) ⟨by omega, by omega, hb⟩ (by omega) (lD4_sd b y)
end
end Go.Proofs.YtpbhcjkllfonhaaGreatDoor

/-
  What haywaintop.TopDead returns: true, whatever its arguments.
-/
namespace Go.Proofs.YtpbhcjkllfonhaaGreatDoor
open Go.RowKit Go.Joins Go.Shelf
attribute [local go_sem ↓] Go.wp_at_zero Go.wp_at_succ

set_option maxRecDepth 8000 in
set_option maxHeartbeats 4000000 in
theorem topDead_heavy (body : ByteArray) (tries : Int) (dead : Bool) (w : World) (hL : Laid w) (hh : 28 < body.size ∨ tries < 1 ∨ 9 < tries) :
    Calls Tryz.prog 6 #[.string body, .int .i64 tries, .bool dead] w fun e w' => e = .returned (.bool true) ∧ Below w.heap.size w w' := by
  have HL := hide hL
  clear hL
  by_cases h0 : 28 < body.size
  · have d0 : decide (28 < (body.size : Int)) = true := decide_eq_true (by omega)
    clear hh h0
    go_enter Tryz.func6, Tryz.ntmps6
    go_wp2_with (first
      | (go_at_call 15; refine (waits_any _ HL.out).mono ?_; rintro e w1 ⟨wb, rfl, hb1⟩; have HB := hide hb1; clear hb1)
      | fail)
    go_ret
    exact ⟨rfl, HB.out⟩
  have d0 : decide (28 < (body.size : Int)) = false := decide_eq_false (by omega)
  by_cases h1 : tries < 1
  · have d1 : decide (tries < 1) = true := decide_eq_true (by omega)
    clear hh h1 h0
    go_enter Tryz.func6, Tryz.ntmps6
    go_wp2_with (first
      | (go_at_call 15; refine (waits_any _ HL.out).mono ?_; rintro e w1 ⟨wb, rfl, hb1⟩; have HB := hide hb1; clear hb1)
      | fail)
    go_ret
    exact ⟨rfl, HB.out⟩
  have d1 : decide (tries < 1) = false := decide_eq_false (by omega)
  have h2 : 9 < tries := by omega
  have d2 : decide (9 < tries) = true := decide_eq_true (by omega)
  clear hh h2 h0 h1
  go_enter Tryz.func6, Tryz.ntmps6
  go_wp2_with (first
    | (go_at_call 15; refine (waits_any _ HL.out).mono ?_; rintro e w1 ⟨wb, rfl, hb1⟩; have HB := hide hb1; clear hb1)
    | fail)
  go_ret
  exact ⟨rfl, HB.out⟩
set_option maxRecDepth 8000 in
set_option maxHeartbeats 8000000 in
theorem topDead_none (body : ByteArray) (y : Nat) (w : World) (hL : Laid w) (hb : body.size ≤ 28) (h1 : 1 ≤ y) (h9 : y ≤ 9) :
    Calls Tryz.prog 6 #[.string body, .int .i64 y, .bool false] w fun e w' => e = .returned (.bool true) ∧ Below w.heap.size w w' := by
  have n0 := nil_eql_nil
  have n1 := nil_neq_nil
  have n2 := err_eql_nil 116
  have n3 := err_neq_nil 116
  have d0 : decide (28 < (body.size : Int)) = false := decide_eq_false (by omega)
  have d1 : decide ((y : Int) < 1) = false := decide_eq_false (by omega)
  have d2 : decide (9 < (y : Int)) = false := decide_eq_false (by omega)
  have ebb : (body.toList == body.toList) = true := by simp
  have HL := hide hL
  clear hL
  go_enter Tryz.func6, Tryz.ntmps6
  go_wp2_with (fail)
  (go_at_call 15; refine (waits_any _ HL.out).mono ?_; rintro e w1 ⟨wb0, rfl, hb1⟩; have HB := hide hb1; clear hb1)
  go_wp2_with (fail)
  (go_at_call 12; refine (new_any [] none 0 _ (.inl rfl) (by decide) (by simp)).mono ?_; rintro e w2 ⟨vb, rfl, hb2, mb, D, g, hv⟩; have HV := hide hv; have HB2 := hide hb2; clear hv hb2)
  go_wp2_with (fail)
  (go_at_call 11; refine (view_new _ HV.out).mono ?_; rintro e w3 ⟨wb, rfl, hw3, hb3⟩; have H0 := hide (lq_make HL.out HB.out HB2.out HV.out hw3 hb3); clear hw3 hb3 HV HB2)
  go_wp2_with (fail)
  (go_at_call 16; refine (lq_create (f := 0) (n' := 1) (chs' := [cqQ qB 0 y eB]) H0.out (by decide) (by decide) (fun rds hr => by obtain ⟨r, e, l⟩ := create_one (rds := rds) (y := y) (by omega) h1 h9; exact ⟨r, e, by omega⟩)).mono ?_; rintro e wC ⟨rfl, hC⟩; have H1 := hide hC; clear hC; rw [errV_zero])
  go_wp2_with (fail)
  (go_at_call 17; refine (lq_send (f := 0) (n' := 1) (k := 0) (chs' := oneQ 0 0 body 1 y) H1.out (by decide) (fun rds hr => ⟨rds, send_one h1 h9 hb, hr⟩)).mono ?_; rintro e wS ⟨rfl, hS⟩; have H2 := hide hS; clear hS; rw [errV_zero])
  go_wp2_with (fail)
  go_loopw [13] (fun v wr => ∃ k : Nat, k ≤ y ∧ v = .int .i64 ((k : Int) + 1) ∧ LQ w wr wb (oneQ k k body 1 y) (2 + k)) (fun v _ => y + 1 - (intOf v).toNat)
  case atStart => exact ⟨0, Nat.zero_le _, rfl, H2.out.more (by omega)⟩
  case round =>
    obtain ⟨k, hk, rfl, h⟩ := hrel
    have H3 := hide h
    clear h H2
    by_cases hlt : k < y
    · have g1 : decide ((k : Int) + 1 ≤ (y : Int)) = true := decide_eq_true (by omega)
      have hle : (k : Int) + 1 ≤ (y : Int) := by omega
      have hw1 : IntKind.i64.wrap ((k : Int) + 1 + 1) = (k : Int) + 1 + 1 := by rw [IntKind.wrap_i64]; omega
      go_wp2_with (fail)
      (go_at_call 18; refine (lq_receive (n' := (3 + k)) (m := (0, (k : Int) + 1, ((k + 1 : Nat) : Int) + ((0 : Nat) : Int), body, 0)) (chs' := oneQ (k + 1) (k + 1 + 0) body 1 y) (now := ((k + 1 : Nat) : Int)) (long := ((0 : Nat) : Int)) H3.out (by decide) (fun rds hr => by obtain ⟨r, e, l⟩ := recv_hit (rds := rds) (t := k) (u := k) (x := 1) (y := y) (now := k + 1) (long := 0) (b := body) (by omega) (by omega) h1 h9 hb hlt (by omega) (by omega) (by omega) (by omega); exact ⟨r, e, by omega⟩)).mono ?_; rintro e wR ⟨rfl, hR⟩; have H4 := hide (hR.on (below_alloc1 wR (Obj.cells #[Value.int .i64 0, Value.int .i64 ((k : Int) + 1), Value.int .i64 (((k + 1 : Nat) : Int) + ((0 : Nat) : Int)), Value.string body] 51))); clear hR; dsimp only; rw [errV_zero])
      go_wp2_with (fail)
      exact ⟨⟨k + 1, by omega, rfl, H4.out.more (by omega)⟩, by simp [intOf]; omega⟩
    · have ek : k = y := by omega
      subst ek
      have g1 : decide ((k : Int) + 1 ≤ (k : Int)) = false := decide_eq_false (by omega)
      have hle : ¬ (k : Int) + 1 ≤ (k : Int) := by omega
      go_wp2_with (fail)
      (go_at_call 18; refine (lq_receive (n' := (4 + k)) (m := (noM 12)) (chs' := oneQ k k body 1 k) (now := ((99 : Nat) : Int)) (long := ((0 : Nat) : Int)) H3.out (by decide) (fun rds hr => by obtain ⟨r, e, l⟩ := recv_bury (rds := rds) (t := k) (u := k) (y := k) (now := 99) (long := 0) (b := body) (by omega) h1 h9 hb (by omega) (by omega) (by omega) (by omega) (by omega); exact ⟨r, e, by omega⟩)).mono ?_; rintro e wR ⟨rfl, hR⟩; have H4 := hide (hR.on (below_alloc1 wR (Obj.cells #[Value.int .i64 0, Value.int .i64 0, Value.int .i64 0, Value.string ⟨#[]⟩] 51))); clear hR; dsimp only)
      go_wp2_with (fail)
      (go_at_call 20; refine (number_any 12 _).mono ?_; rintro e w8 ⟨rfl, rfl⟩)
      go_wp2_with (fail)
      (go_at_call 17; refine (lq_send (f := 0) (n' := (4 + k)) (k := 1) (chs' := lB2 k k body k) H4.out (by decide) (fun rds hr => ⟨rds, send_next h1 h9, hr⟩)).mono ?_; rintro e wS ⟨rfl, hS⟩; have H5 := hide hS; clear hS; rw [errV_zero])
      go_wp2_with (fail)
      (go_at_call 18; refine (lq_receive (n' := (6 + k)) (m := (1, 1, 99, nxB, 0)) (chs' := lC2 k) H5.out (by decide) (fun rds hr => by obtain ⟨r, e, l⟩ := recv_next (rds := rds) (t := k) (u := k) (y := k) (b := body) (by omega) h1 h9 hb (by omega) (by omega) (by omega); exact ⟨r, e, by omega⟩)).mono ?_; rintro e wR ⟨rfl, hR⟩; have H6 := hide (hR.on (below_alloc1 wR (Obj.cells #[Value.int .i64 1, Value.int .i64 1, Value.int .i64 99, Value.string nxB] 51))); clear hR; dsimp only; rw [errV_zero])
      go_wp2_with (fail)
      (go_at_call 19; refine (lq_messages (n' := (7 + k)) (l := [(1, 1, 99, nxB, 0)]) H6.out (by decide) (fun rds hr => by obtain ⟨r, e, l⟩ := msgs_next (rds := rds) (y := k) (by omega) h1 h9; exact ⟨r, e, by omega⟩)).mono ?_; rintro e wM ⟨v, rfl, hoM, hM⟩; have H7 := hide hM; obtain ⟨gq, capq, rfl, _⟩ := World.ownsRow.form hoM (by simp); have HOq := hide hoM; clear hM hoM)
      go_wp2_with (fail)
      go_ret
      exact ⟨rfl, H7.out.bel⟩
set_option maxRecDepth 8000 in
set_option maxHeartbeats 8000000 in
theorem topDead_some (body : ByteArray) (y : Nat) (w : World) (hL : Laid w) (hb : body.size ≤ 28) (h1 : 1 ≤ y) (h9 : y ≤ 9) :
    Calls Tryz.prog 6 #[.string body, .int .i64 y, .bool true] w fun e w' => e = .returned (.bool true) ∧ Below w.heap.size w w' := by
  have n0 := nil_eql_nil
  have n1 := nil_neq_nil
  have n2 := err_eql_nil 116
  have n3 := err_neq_nil 116
  have d0 : decide (28 < (body.size : Int)) = false := decide_eq_false (by omega)
  have d1 : decide ((y : Int) < 1) = false := decide_eq_false (by omega)
  have d2 : decide (9 < (y : Int)) = false := decide_eq_false (by omega)
  have ebb : (body.toList == body.toList) = true := by simp
  have HL := hide hL
  clear hL
  go_enter Tryz.func6, Tryz.ntmps6
  go_wp2_with (fail)
  (go_at_call 15; refine (waits_any _ HL.out).mono ?_; rintro e w1 ⟨wb0, rfl, hb1⟩; have HB := hide hb1; clear hb1)
  go_wp2_with (fail)
  (go_at_call 12; refine (new_any [] none 0 _ (.inl rfl) (by decide) (by simp)).mono ?_; rintro e w2 ⟨vb, rfl, hb2, mb, D, g, hv⟩; have HV := hide hv; have HB2 := hide hb2; clear hv hb2)
  go_wp2_with (fail)
  (go_at_call 11; refine (view_new _ HV.out).mono ?_; rintro e w3 ⟨wb, rfl, hw3, hb3⟩; have H0 := hide (lq_make HL.out HB.out HB2.out HV.out hw3 hb3); clear hw3 hb3 HV HB2)
  go_wp2_with (fail)
  (go_at_call 16; refine (lq_create (f := 0) (n' := 1) (chs' := lD0) H0.out (by decide) (by decide) (fun rds hr => by obtain ⟨r, e, l⟩ := create_d (rds := rds) (by omega); exact ⟨r, e, by omega⟩)).mono ?_; rintro e wC ⟨rfl, hC⟩; have H0b := hide hC; clear hC; rw [errV_zero])
  go_wp2_with (fail)
  (go_at_call 16; refine (lq_create (f := 0) (n' := 2) (chs' := lD1 y) H0b.out (by decide) (by decide) (fun rds hr => by obtain ⟨r, e, l⟩ := create_qd (rds := rds) (y := y) (by omega) h1 h9; exact ⟨r, e, by omega⟩)).mono ?_; rintro e wC ⟨rfl, hC⟩; have H1 := hide hC; clear hC; rw [errV_zero])
  go_wp2_with (fail)
  (go_at_call 17; refine (lq_send (f := 0) (n' := 2) (k := 0) (chs' := lD2 0 0 body y) H1.out (by decide) (fun rds hr => ⟨rds, send_d h1 h9 hb, hr⟩)).mono ?_; rintro e wS ⟨rfl, hS⟩; have H2 := hide hS; clear hS; rw [errV_zero])
  go_wp2_with (fail)
  go_loopw [13] (fun v wr => ∃ k : Nat, k ≤ y ∧ v = .int .i64 ((k : Int) + 1) ∧ LQ w wr wb (lD2 k k body y) (2 + k)) (fun v _ => y + 1 - (intOf v).toNat)
  case atStart => exact ⟨0, Nat.zero_le _, rfl, H2.out.more (by omega)⟩
  case round =>
    obtain ⟨k, hk, rfl, h⟩ := hrel
    have H3 := hide h
    clear h H2
    by_cases hlt : k < y
    · have g1 : decide ((k : Int) + 1 ≤ (y : Int)) = true := decide_eq_true (by omega)
      have hle : (k : Int) + 1 ≤ (y : Int) := by omega
      have hw1 : IntKind.i64.wrap ((k : Int) + 1 + 1) = (k : Int) + 1 + 1 := by rw [IntKind.wrap_i64]; omega
      go_wp2_with (fail)
      (go_at_call 18; refine (lq_receive (n' := (3 + k)) (m := (0, (k : Int) + 1, ((k + 1 : Nat) : Int) + ((0 : Nat) : Int), body, 0)) (chs' := lD2 (k + 1) (k + 1 + 0) body y) (now := ((k + 1 : Nat) : Int)) (long := ((0 : Nat) : Int)) H3.out (by decide) (fun rds hr => by obtain ⟨r, e, l⟩ := recv_d (rds := rds) (t := k) (u := k) (y := y) (now := k + 1) (long := 0) (b := body) (by omega) h1 h9 hb hlt (by omega) (by omega) (by omega); exact ⟨r, e, by omega⟩)).mono ?_; rintro e wR ⟨rfl, hR⟩; have H4 := hide (hR.on (below_alloc1 wR (Obj.cells #[Value.int .i64 0, Value.int .i64 ((k : Int) + 1), Value.int .i64 (((k + 1 : Nat) : Int) + ((0 : Nat) : Int)), Value.string body] 51))); clear hR; dsimp only; rw [errV_zero])
      go_wp2_with (fail)
      exact ⟨⟨k + 1, by omega, rfl, H4.out.more (by omega)⟩, by simp [intOf]; omega⟩
    · have ek : k = y := by omega
      subst ek
      have g1 : decide ((k : Int) + 1 ≤ (k : Int)) = false := decide_eq_false (by omega)
      have hle : ¬ (k : Int) + 1 ≤ (k : Int) := by omega
      go_wp2_with (fail)
      (go_at_call 18; refine (lq_receive (n' := (4 + k)) (m := (noM 12)) (chs' := lD2 k k body k) (now := ((99 : Nat) : Int)) (long := ((0 : Nat) : Int)) H3.out (by decide) (fun rds hr => by obtain ⟨r, e, l⟩ := recv_buryD (rds := rds) (t := k) (u := k) (y := k) (now := 99) (long := 0) (b := body) (by omega) h1 h9 hb (by omega) (by omega) (by omega) (by omega) (by omega); exact ⟨r, e, by omega⟩)).mono ?_; rintro e wR ⟨rfl, hR⟩; have H4 := hide (hR.on (below_alloc1 wR (Obj.cells #[Value.int .i64 0, Value.int .i64 0, Value.int .i64 0, Value.string ⟨#[]⟩] 51))); clear hR; dsimp only)
      go_wp2_with (fail)
      (go_at_call 20; refine (number_any 12 _).mono ?_; rintro e w8 ⟨rfl, rfl⟩)
      go_wp2_with (fail)
      (go_at_call 17; refine (lq_send (f := 0) (n' := (4 + k)) (k := 1) (chs' := lD3 k k body k) H4.out (by decide) (fun rds hr => ⟨rds, send_nextD h1 h9, hr⟩)).mono ?_; rintro e wS ⟨rfl, hS⟩; have H5 := hide hS; clear hS; rw [errV_zero])
      go_wp2_with (fail)
      (go_at_call 18; refine (lq_receive (n' := (6 + k)) (m := (1, 1, 99, nxB, 0)) (chs' := lD4 body k) H5.out (by decide) (fun rds hr => by obtain ⟨r, e, l⟩ := recv_nextD (rds := rds) (t := k) (u := k) (y := k) (b := body) (by omega) h1 h9 hb (by omega) (by omega) (by omega); exact ⟨r, e, by omega⟩)).mono ?_; rintro e wR ⟨rfl, hR⟩; have H6 := hide (hR.on (below_alloc1 wR (Obj.cells #[Value.int .i64 1, Value.int .i64 1, Value.int .i64 99, Value.string nxB] 51))); clear hR; dsimp only; rw [errV_zero])
      go_wp2_with (fail)
      (go_at_call 19; refine (lq_messages (n' := (7 + k)) (l := [(1, 1, 99, nxB, 0)]) H6.out (by decide) (fun rds hr => by obtain ⟨r, e, l⟩ := msgs_qD (rds := rds) (b := body) (y := k) (by omega) h1 h9; exact ⟨r, e, by omega⟩)).mono ?_; rintro e wM ⟨v, rfl, hoM, hM⟩; have H7 := hide hM; obtain ⟨gq, capq, rfl, _⟩ := World.ownsRow.form hoM (by simp); have HOq := hide hoM; clear hM hoM)
      go_wp2_with (fail)
      (go_at_call 19; refine (lq_messages (n' := (8 + k)) (l := [(0, 0, 0, body, 0)]) H7.out (by decide) (fun rds hr => by obtain ⟨r, e, l⟩ := msgs_dD (rds := rds) (y := k) (by omega) hb; exact ⟨r, e, by omega⟩)).mono ?_; rintro e wM ⟨v, rfl, hoM, hM⟩; have H8 := hide hM; obtain ⟨gd, capd, rfl, _⟩ := World.ownsRow.form hoM (by simp); have HOd := hide hoM; clear hM hoM)
      have x0 := World.ownsRow.cells HOd.out (g := gd) rfl 0 (.int .i64 0) rfl
      have x1 := World.ownsRow.cells HOd.out (g := gd) rfl 1 (.int .i64 0) rfl
      have x2 := World.ownsRow.cells HOd.out (g := gd) rfl 2 (.int .i64 0) rfl
      have x3 := World.ownsRow.cells HOd.out (g := gd) rfl 3 (.string body) rfl
      rw [Go.WideShapes.add_plain] at x0 x1 x2 x3
      simp only [Nat.zero_add] at x0 x1 x2 x3
      go_wp2_with (fail)
      go_ret
      exact ⟨rfl, H8.out.bel⟩
theorem topDead_walk (body : ByteArray) (tries : Int) (dead : Bool) (w : World) (hL : Laid w) :
    Calls Tryz.prog 6 #[.string body, .int .i64 tries, .bool dead] w fun e w' => e = .returned (.bool true) ∧ Below w.heap.size w w' := by
  by_cases hh : 28 < body.size ∨ tries < 1 ∨ 9 < tries
  · exact topDead_heavy body tries dead w hL hh
  · obtain ⟨a, rfl⟩ := Int.eq_ofNat_of_zero_le (show 0 ≤ tries by omega)
    cases dead with
    | false => exact topDead_none body a w hL (by omega) (by omega) (by omega)
    | true => exact topDead_some body a w hL (by omega) (by omega) (by omega)
end Go.Proofs.YtpbhcjkllfonhaaGreatDoor

/-
  What a row's list of variables gives: the library's table of powers of ten, third of the list, holds its numbers.
-/
namespace Go.Proofs.YtpbhcjkllfonhaaGreatDoor
open Go.Lib

theorem pow_type : (Tryz.prog.globals[3]?).map (·.type) = some 258 := by kernel_rfl
theorem pow_cells : Tryz.prog.cellsOf 258 = 20 := by kernel_rfl
theorem u64_cells : Tryz.prog.cellsOf 37 = 1 := by kernel_rfl
theorem tab_third {W : World} {x y : String × DataW Unit} {zs : List Int} {rest : List (String × DataW Unit)}
    (h : laidMet Tryz.prog (x :: y :: ("internal/strconv.uint64pow10", tabData .u64 zs) :: rest) W) : TabIs Tryz.prog W "internal/strconv.uint64pow10" .u64 zs := by
  obtain ⟨ps, ⟨_, _, _, _, _, _, _, _, _, _, ⟨_, _, _, _, _, _, _, _, _, _, ⟨g', t', cs, fuel, p, q, hg', ht', hvar, hd, _, _⟩, _⟩, _⟩, _⟩ := h
  obtain rfl := Option.some.inj (pow_named.symm.trans hg')
  obtain rfl := Option.some.inj (pow_type.symm.trans ht')
  have e := cells_of_tab Tryz.underlying258 Tryz.underlying37 u64_cells pow_cells hd
  unfold TabIs
  rw [hvar]
  congr 1
  exact Array.ext' (by simpa using e)
theorem pow_list : Lib.pow10Tab = [1, 10, 100, 1000, 10000, 100000, 1000000, 10000000, 100000000, 1000000000, 10000000000, 100000000000, 1000000000000, 10000000000000, 100000000000000, 1000000000000000, 10000000000000000, 100000000000000000, 1000000000000000000, 10000000000000000000] := by decide +kernel
end Go.Proofs.YtpbhcjkllfonhaaGreatDoor

/-
  What a row's list of variables gives: the library's two errors, fourth and fifth of the list, hold values.
-/
namespace Go.Proofs.YtpbhcjkllfonhaaGreatDoor
open Go.Lib

theorem rng_type : (Tryz.prog.globals[2]?).map (·.type) = some 46 := by kernel_rfl
theorem syn_type : (Tryz.prog.globals[1]?).map (·.type) = some 46 := by kernel_rfl
theorem err_fourth {W : World} {x y z : String × DataW Unit} {nm : String} {d : DataW Unit} {rest : List (String × DataW Unit)}
    (h : laidMet Tryz.prog (x :: y :: z :: ("strconv.ErrRange", .iface nm d) :: rest) W) : ErrIs W "strconv.ErrRange" := by
  obtain ⟨ps, ⟨_, _, _, _, _, _, _, _, _, _, ⟨_, _, _, _, _, _, _, _, _, _, ⟨_, _, _, _, _, _, _, _, _, _, ⟨g', t', cs, fuel, p, q, hg', ht', hvar, hd, _, _⟩, _⟩, _⟩, _⟩, _⟩ := h
  obtain rfl := Option.some.inj (rng_named.symm.trans hg')
  obtain rfl := Option.some.inj (rng_type.symm.trans ht')
  obtain ⟨_, u, v, hc, _, _⟩ := iface_of_trod Tryz.underlying46 hd
  have e : cs = #[.iface u v] := Array.ext' (by simpa using hc)
  exact ⟨u, v, by rw [hvar, e]⟩
theorem err_fifth {W : World} {x y z a : String × DataW Unit} {nm : String} {d : DataW Unit} {rest : List (String × DataW Unit)}
    (h : laidMet Tryz.prog (x :: y :: z :: a :: ("strconv.ErrSyntax", .iface nm d) :: rest) W) : ErrIs W "strconv.ErrSyntax" := by
  obtain ⟨ps, ⟨_, _, _, _, _, _, _, _, _, _, ⟨_, _, _, _, _, _, _, _, _, _, ⟨_, _, _, _, _, _, _, _, _, _, ⟨_, _, _, _, _, _, _, _, _, _, ⟨g', t', cs, fuel, p, q, hg', ht', hvar, hd, _, _⟩, _⟩, _⟩, _⟩, _⟩, _⟩ := h
  obtain rfl := Option.some.inj (syn_named.symm.trans hg')
  obtain rfl := Option.some.inj (syn_type.symm.trans ht')
  obtain ⟨_, u, v, hc, _, _⟩ := iface_of_trod Tryz.underlying46 hd
  have e : cs = #[.iface u v] := Array.ext' (by simpa using hc)
  exact ⟨u, v, by rw [hvar, e]⟩
theorem wf_range {n : Int} (h : (Lit.int .i64 n).wf = true) : -9223372036854775808 ≤ n ∧ n ≤ 9223372036854775807 := by
  rw [Lit.wf, Bool.and_eq_true, decide_eq_true_eq, decide_eq_true_eq] at h
  exact h
end Go.Proofs.YtpbhcjkllfonhaaGreatDoor
