/-
  Laws over queues in a view of no rows: what the acts come to, and what haywaintop.waits and haywaintop.number return.
-/
import Derived.Test.YtpbhcjkllfonhaaGreatDoorQueRecv
import Derived.Test.YtpbhcjkllfonhaaGreatDoorQueMsgs
import Derived.Test.YtpbhcjkllfonhaaGreatDoorQueEval
import Derived.Test.YtpbhcjkllfonhaaGreatDoorBase
import Derived.Test.YtpbhcjkllfonhaaGreatDoorLaw
import Derived.SliceStrings
import Derived.Test.YtpbhcjkllfonhaaGreatDoorRowKeys
import Derived.Lib.LaidTab
import Derived.Test.YtpbhcjkllfonhaaGreatDoorRowErr
namespace Go.Proofs.YtpbhcjkllfonhaaGreatDoor
open Go.RowKit Go.Joins Go.Shelf
attribute [local go_sem ↓] Go.wp_at_zero Go.wp_at_succ

/-- a view of no rows in a world behind w, with some changes, and so many reads at most -/
def LQ (w W : World) (wb : Nat) (chs : List Chg) (n : Nat) : Prop := ∃ B S rds, QV W B wb S [] 0 chs rds ∧ rds.length ≤ n ∧ w.heap.size ≤ B ∧ Below w.heap.size w W
section
variable {w W W' : World} {wb : Nat} {chs chs' : List Chg} {n n' : Nat}
theorem LQ.bel (h : LQ w W wb chs n) : Below w.heap.size w W := by obtain ⟨_, _, _, _, _, _, h⟩ := h; exact h
theorem LQ.on (h : LQ w W wb chs n) (hb : Below W.heap.size W W') : LQ w W' wb chs n := by
  obtain ⟨B, S, rds, hq, hl, hB, hw⟩ := h
  exact ⟨B, S, rds, hq.on hb, hl, hB, hw.trans (hb.mono hw.size)⟩
theorem LQ.more (h : LQ w W wb chs n) (hn : n ≤ n') : LQ w W wb chs n' := by
  obtain ⟨B, S, rds, hq, hl, hB, hw⟩ := h
  exact ⟨B, S, rds, hq, by omega, hB, hw⟩
theorem lq_to {B : Nat} {S : Nat → Prop} {rds' : Rws} (hw : Below w.heap.size w W) (hB : w.heap.size ≤ B) (ha : ActQ W W' B wb S [] 0 chs' rds') (hl : rds'.length ≤ n') : LQ w W' wb chs' n' := by
  obtain ⟨S', hq, hs⟩ := ha
  exact ⟨B, S', rds', hq, hl, hB, hw.trans (hs.bel.mono hB)⟩
theorem lq_make {w1 w2 : World} {vb mb : Nat} {D : DataW Value} {g : ByteArray → Value} (hL : Laid w) (hw : Below w.heap.size w W) (hb1 : Below W.heap.size W w1) (hv : VS w1 W.heap.size vb mb 0 0 D g (initR [])) (hw2 : VW w2 w1.heap.size wb vb 0 (.slice none 0 0) (.slice none 0 0) [] []) (hb2 : Below w1.heap.size w1 w2) : LQ w w2 wb [] 0 := by
  obtain ⟨S, hp, _⟩ := pv_make (rows := []) hv hw2 hb2 hb1.size List.Pairwise.nil (by simp) (by simp)
  have hw1 : Below w.heap.size w w1 := hw.trans (hb1.mono hw.size)
  have hw3 : Below w.heap.size w w2 := hw1.trans (hb2.mono hw1.size)
  exact ⟨w1.heap.size, S, [], ⟨hp, ⟨by simp, by simp⟩, fun W' hW' => laid_on hL (hw3.trans (hW'.mono hw1.size))⟩, by simp, hw1.size, hw3⟩
theorem lq_create {f : Nat} {name dead : ByteArray} {tries : Int} (h : LQ w W wb chs n) (hn : name.size ≤ 1000) (hd : dead.size ≤ 1000) (hp : ∀ rds : Rws, rds.length ≤ n → ∃ rds', createQ [] chs rds name tries dead = (f, chs', rds') ∧ rds'.length ≤ n') :
    Calls Tryz.prog 16 #[.pointer (some ⟨wb, 0, none⟩), .string name, .int .i64 tries, .string dead] W fun e W' => e = .returned (errV f) ∧ LQ w W' wb chs' n' := by
  obtain ⟨B, S, rds, hq, hl, hB, hw⟩ := h
  obtain ⟨rds', e, hl'⟩ := hp rds hl
  refine (qcreate_any name tries dead W hq hn hd).mono fun _ _ ⟨he, ha⟩ => ?_
  rw [e] at he ha
  exact ⟨he, lq_to hw hB ha hl'⟩
theorem lq_send {f : Nat} {k : Int} {name body : ByteArray} {until_ : Int} (h : LQ w W wb chs n) (hn : name.size ≤ 1000) (hp : ∀ rds : Rws, rds.length ≤ n → ∃ rds', sendQ [] chs rds name body until_ = (k, f, chs', rds') ∧ rds'.length ≤ n') :
    Calls Tryz.prog 17 #[.pointer (some ⟨wb, 0, none⟩), .string name, .string body, .int .i64 until_] W fun e W' => e = .returned (.tuple #[.int .i64 k, errV f]) ∧ LQ w W' wb chs' n' := by
  obtain ⟨B, S, rds, hq, hl, hB, hw⟩ := h
  obtain ⟨rds', e, hl'⟩ := hp rds hl
  refine (qsend_any name body until_ W hq hn).mono fun _ _ ⟨he, ha⟩ => ?_
  rw [e] at he ha
  exact ⟨he, lq_to hw hB ha hl'⟩
theorem lq_receive {m : Msg} {name : ByteArray} {now long : Int} (h : LQ w W wb chs n) (hn : name.size ≤ 1000) (hp : ∀ rds : Rws, rds.length ≤ n → ∃ rds', receiveQ [] chs rds name now long = (m, chs', rds') ∧ rds'.length ≤ n') :
    Calls Tryz.prog 18 #[.pointer (some ⟨wb, 0, none⟩), .string name, .int .i64 now, .int .i64 long] W fun e W' => e = .returned (.tuple #[mV m, errV m.2.2.2.2]) ∧ LQ w W' wb chs' n' := by
  obtain ⟨B, S, rds, hq, hl, hB, hw⟩ := h
  obtain ⟨rds', e, hl'⟩ := hp rds hl
  refine (qreceive_any name now long W hq hn).mono fun _ _ ⟨he, ha⟩ => ?_
  rw [e] at he ha
  exact ⟨he, lq_to hw hB ha hl'⟩
theorem lq_ack {f : Nat} {name : ByteArray} {k tries : Int} (h : LQ w W wb chs n) (hn : name.size ≤ 1000) (hk0 : -9223372036854775808 ≤ k) (hk1 : k ≤ 9223372036854775807) (hp : ∀ rds : Rws, rds.length ≤ n → ∃ rds', ackQ [] chs rds name k tries = (f, chs', rds') ∧ rds'.length ≤ n') :
    Calls Tryz.prog 21 #[.pointer (some ⟨wb, 0, none⟩), .string name, .int .i64 k, .int .i64 tries] W fun e W' => e = .returned (errV f) ∧ LQ w W' wb chs' n' := by
  obtain ⟨B, S, rds, hq, hl, hB, hw⟩ := h
  obtain ⟨rds', e, hl'⟩ := hp rds hl
  refine (qack_any name k tries W hq hn hk0 hk1).mono fun _ _ ⟨he, ha⟩ => ?_
  rw [e] at he ha
  exact ⟨he, lq_to hw hB ha hl'⟩
theorem lq_wait {f : Nat} {name : ByteArray} {k tries until_ : Int} (h : LQ w W wb chs n) (hn : name.size ≤ 1000) (hk0 : -9223372036854775808 ≤ k) (hk1 : k ≤ 9223372036854775807) (hp : ∀ rds : Rws, rds.length ≤ n → ∃ rds', waitQ [] chs rds name k tries until_ = (f, chs', rds') ∧ rds'.length ≤ n') :
    Calls Tryz.prog 22 #[.pointer (some ⟨wb, 0, none⟩), .string name, .int .i64 k, .int .i64 tries, .int .i64 until_] W fun e W' => e = .returned (errV f) ∧ LQ w W' wb chs' n' := by
  obtain ⟨B, S, rds, hq, hl, hB, hw⟩ := h
  obtain ⟨rds', e, hl'⟩ := hp rds hl
  refine (qwait_any name k tries until_ W hq hn hk0 hk1).mono fun _ _ ⟨he, ha⟩ => ?_
  rw [e] at he ha
  exact ⟨he, lq_to hw hB ha hl'⟩
theorem lq_messages {l : List Msg} {name : ByteArray} (h : LQ w W wb chs n) (hn : name.size ≤ 1000) (hp : ∀ rds : Rws, rds.length ≤ n → ∃ rds', messagesQ [] chs rds name = (0, l, rds') ∧ rds'.length ≤ n') :
    Calls Tryz.prog 19 #[.pointer (some ⟨wb, 0, none⟩), .string name] W fun e W' => ∃ v, e = .returned (.tuple #[v, .nilIface]) ∧ (ownM W' W.heap.size v l ∧ LQ w W' wb chs n') := by
  obtain ⟨B, S, rds, hq, hl, hB, hw⟩ := h
  obtain ⟨rds', e, hl'⟩ := hp rds hl
  refine (qmessages_any name W hq hn).mono fun _ _ he => ?_
  rw [e] at he
  obtain ⟨v, hv, S', ho, hq', hs', _⟩ := he.1 rfl
  exact ⟨v, hv, ho, lq_to hw hB ⟨S', hq', hs'⟩ hl'⟩
end
theorem nil_eql_nil (W : World) : (binOp .eql 46 .nilIface .nilIface).run Tryz.prog W = .ok (.bool true) W := by kernel_rfl
theorem err_eql_nil (u : TypeId) (v : Value) (W : World) : (binOp .eql 46 (.iface u v) .nilIface).run Tryz.prog W = .ok (.bool false) W := by kernel_rfl
set_option maxRecDepth 8000 in
set_option maxHeartbeats 1000000 in
theorem number_any (f : Nat) (w : World) : Calls Tryz.prog 20 #[errV f] w fun e w' => e = .returned (.int .i64 f) ∧ w' = w := by
  have n0 := nil_eql_nil
  have n1 := err_eql_nil 116
  by_cases h : f = 0
  · subst h
    rw [errV_zero]
    go_enter Tryz.func20, Tryz.ntmps20
    go_wp2
    go_ret
    exact ⟨rfl, rfl⟩
  · have h1 := assert_errno (.int .i64 f)
    rw [errV_pos h]
    go_enter Tryz.func20, Tryz.ntmps20
    go_wp2
    go_ret
    exact ⟨rfl, rfl⟩
theorem msgs_one {rds : Rws} {t u x y : Nat} {b : ByteArray} (h : rds.length ≤ 30) (hx : x ≤ 999999) (h1 : 1 ≤ y) (h9 : y ≤ 9) (hm : messageMay t u b) : ∃ rds', messagesQ [] (oneQ t u b x y) rds qB = (0, [(0, (t : Int), (u : Int), b, 0)], rds') ∧ rds'.length ≤ rds.length + 1 := by
  obtain ⟨f1, f2⟩ := findQ_some (P := []) (rds := rds) q_name (find_one t u b x y) (may_empty hx h1 h9)
  have hs : scanF (seenP [] (oneQ t u b x y) (fromB qB, toB qB)) rds (fromB qB, toB qB) 53 = 0 := (if_neg (by omega)).trans (readF_few _ (by omega))
  have hl : (scanL (seenP [] (oneQ t u b x y) (fromB qB, toB qB)) rds (fromB qB, toB qB) 53).length ≤ rds.length + 1 := by unfold scanL; rw [if_neg (by omega)]; exact readL_le _ _
  have hk : numK (msgB qB 0) = 0 := numK_msg qB (n := 0) (by omega)
  have ht : ([(msgB qB 0, joinB t u b)] : Rws).take 53 = [(msgB qB 0, joinB t u b)] := rfl
  have hf : msgsF [(msgB qB 0, joinB t u b)] = 0 := by
    unfold msgsF
    rw [hk, mOf_join 0 hm]; rfl
  have hg : msgsL [(msgB qB 0, joinB t u b)] = [(0, (t : Int), (u : Int), b, 0)] := by
    unfold msgsL
    rw [List.map_cons, hk, mOf_join 0 hm]; rfl
  unfold messagesQ
  rw [f1, f2, if_pos rfl, if_pos hs, seen_one, ht, if_pos hf, hg]
  rw [seen_one] at hl
  exact ⟨_, rfl, hl⟩
set_option maxRecDepth 8000 in
set_option maxHeartbeats 4000000 in
theorem waits_any (w : World) (hL : Laid w) : Calls Tryz.prog 15 #[] w fun e w' => ∃ wb, e = .returned (.tuple #[.pointer (some ⟨wb, 0, none⟩), .bool true]) ∧ Below w.heap.size w w' := by
  have n0 := nil_eql_nil
  have n1 := nil_neq_nil
  have HL := hide hL
  clear hL
  go_enter Tryz.func15, Tryz.ntmps15
  go_wp2_with (first
    | (go_at_call 12; refine (new_any [] none 0 _ (.inl rfl) (by decide) (by simp)).mono ?_; rintro e w1 ⟨vb, rfl, hb1, mb, D, g, hv⟩; have HV1 := hide hv; have HB1 := hide hb1; clear hv hb1)
    | (go_at_call 11; refine (view_new _ HV1.out).mono ?_; rintro e w2 ⟨wb, rfl, hw2, hb2⟩; have H2 := hide (lq_make HL.out (Below.refl _ _) HB1.out HV1.out hw2 hb2); clear hw2 hb2)
    | (go_at_call 16; refine (lq_create (f := 0) (n' := 1) (chs' := [cqQ qB 0 3 eB]) H2.out (by decide) (by decide) (fun rds hr => by obtain ⟨r, e, l⟩ := create_one (rds := rds) (y := 3) (by omega) (by omega) (by omega); exact ⟨r, e, by omega⟩)).mono ?_; rintro e w3 ⟨rfl, h3⟩; have H3 := hide h3; clear h3; rw [errV_zero])
    | (go_at_call 17; refine (lq_send (f := 0) (n' := 1) (k := 0) (chs' := oneQ 0 0 ⟨#[120]⟩ 1 3) H3.out (by decide) (fun rds hr => ⟨rds, send_one (by omega) (by omega) (by decide), hr⟩)).mono ?_; rintro e w4 ⟨rfl, h4⟩; have H4 := hide h4; clear h4; rw [errV_zero])
    | (go_at_call 19; refine (lq_messages (n' := 2) (l := [(0, 0, 0, ⟨#[120]⟩, 0)]) H4.out (by decide) (fun rds hr => by obtain ⟨r, e, l⟩ := msgs_one (rds := rds) (t := 0) (u := 0) (x := 1) (y := 3) (b := ⟨#[120]⟩) (by omega) (by omega) (by omega) (by omega) ⟨by omega, by omega, by decide⟩; exact ⟨r, e, by omega⟩)).mono ?_; rintro e w5 ⟨v, rfl, ho5, h5⟩; have H5 := hide h5; obtain ⟨g, cap, rfl, _⟩ := World.ownsRow.form ho5 (by simp); clear h5 ho5)
    | fail)
  go_ret2
  exact ⟨wb, rfl, H5.out.bel⟩
end Go.Proofs.YtpbhcjkllfonhaaGreatDoor

/-
  A queue and some messages in a row in a view of no rows: plain facts.
-/
namespace Go.Proofs.YtpbhcjkllfonhaaGreatDoor
open Go.RowKit Go.Joins

/-- messages from a number on; those below k were told till u -/
def fifoL (k u : Nat) : Nat → List ByteArray → List Chg
  | _, [] => []
  | i, b :: l => (if i < k then cmQ qB i 1 u b else cmQ qB i 0 0 b) :: fifoL k u (i + 1) l
abbrev fifoQ (k u : Nat) (l : List ByteArray) : List Chg := fifoL k u 0 l ++ [cqQ qB l.length 1 eB]
def rowF (k u i : Nat) (b : ByteArray) : ByteArray × ByteArray := (msgB qB i, if i < k then joinB 1 u b else joinB 0 0 b)
def rowsF (k u : Nat) : Nat → List ByteArray → Rws
  | _, [] => []
  | i, b :: l => rowF k u i b :: rowsF k u (i + 1) l
theorem fifo_key {k u : Nat} : ∀ (l : List ByteArray) (i : Nat), ∀ c ∈ fifoL k u i l, ∃ n, i ≤ n ∧ n < i + l.length ∧ c.key = msgB qB n
  | [], _, c, h => by cases h
  | b :: l, i, c, h => by
    rcases List.mem_cons.1 h with rfl | h
    · refine ⟨i, Nat.le_refl _, by simp, ?_⟩; split <;> rfl
    · obtain ⟨n, h1, h2, e⟩ := fifo_key l (i + 1) c h
      exact ⟨n, by omega, by simp only [List.length_cons]; omega, e⟩
theorem fifo_len {k u : Nat} : ∀ (l : List ByteArray) (i : Nat), (fifoL k u i l).length = l.length
  | [], _ => rfl
  | b :: l, i => by simp [fifoL, fifo_len l (i + 1)]
theorem fifo_rises {k u : Nat} (q : Chg) (hq : q.key = queB qB) : ∀ (l : List ByteArray) (i : Nat), i + l.length ≤ 999999 → rises (fifoL k u i l ++ [q])
  | [], _, _ => List.pairwise_singleton _ _
  | b :: l, i, hl => by
    simp only [List.length_cons] at hl
    refine List.pairwise_cons.2 ⟨fun c hc => ?_, fifo_rises q hq l (i + 1) (by omega)⟩
    have hk : (if i < k then cmQ qB i 1 u b else cmQ qB i 0 0 b).key = msgB qB i := by split <;> rfl
    rw [hk]
    rcases List.mem_append.1 hc with hc | hc
    · obtain ⟨n, h1, h2, e⟩ := fifo_key l (i + 1) c hc
      rw [e, msg_lt qB (by omega) (by omega)]
      exact decide_eq_true (by omega)
    · rw [List.mem_singleton.1 hc, hq]; exact (msg_que qB qB i).1
theorem fifo_find {k u : Nat} (q : Chg) (hq : q.key = queB qB) : ∀ (l : List ByteArray) (i : Nat), findC (fifoL k u i l ++ [q]) (queB qB) = some q
  | [], _ => by rw [fifoL, List.nil_append, findC_cons, hq, ltS_irrefl, eqS_refl]; rfl
  | b :: l, i => by
    have hk : (if i < k then cmQ qB i 1 u b else cmQ qB i 0 0 b).key = msgB qB i := by split <;> rfl
    rw [fifoL, List.cons_append, findC_cons, hk, (msg_que qB qB i).1, if_pos rfl]
    exact fifo_find q hq l (i + 1)
theorem fifo_push {u : Nat} (q : Chg) (hq : q.key = queB qB) (b : ByteArray) : ∀ (l : List ByteArray) (i : Nat), i + l.length ≤ 999999 → insL (fifoL 0 u i l ++ [q]) (cmQ qB (i + l.length) 0 0 b) = fifoL 0 u i (l ++ [b]) ++ [q]
  | [], i, _ => by
    have h := msg_que qB qB i
    simp [fifoL, insL, hq, h.2.1, h.2.2]
  | x :: l, i, hl => by
    simp only [List.length_cons] at hl
    have e := fifo_push (u := u) q hq b l (i + 1) (by omega)
    have hlt : ltS (msgB qB i) (msgB qB (i + (l.length + 1))) = true := by rw [msg_lt qB (by omega) (by omega)]; exact decide_eq_true (by omega)
    rw [show i + 1 + l.length = i + (l.length + 1) by omega] at e
    simp only [fifoL, List.cons_append, List.length_cons, insL, Nat.not_lt_zero, if_false, hlt, if_true]
    rw [e]
theorem fifo_last {k u : Nat} (q q' : Chg) (hq : q.key = queB qB) (hq' : q'.key = queB qB) : ∀ (l : List ByteArray) (i : Nat), insL (fifoL k u i l ++ [q]) q' = fifoL k u i l ++ [q']
  | [], _ => by simp [fifoL, insL, hq, hq', ltS_irrefl, eqS_refl]
  | b :: l, i => by
    have hk : (if i < k then cmQ qB i 1 u b else cmQ qB i 0 0 b).key = msgB qB i := by split <;> rfl
    rw [fifoL, List.cons_append, insL, hk, hq', (msg_que qB qB i).1, if_pos rfl, fifo_last q q' hq hq' l (i + 1)]
    rfl
theorem fifo_same {k u i : Nat} (h : k ≤ i) : ∀ (l : List ByteArray), fifoL (k + 1) u (i + 1) l = fifoL k u (i + 1) l := by
  intro l
  induction l generalizing i with
  | nil => rfl
  | cons b l ih =>
    rw [fifoL, fifoL, ih (by omega), if_neg (by omega), if_neg (by omega)]
theorem fifo_take {u : Nat} (q : Chg) (hq : q.key = queB qB) (b : ByteArray) (k : Nat) : ∀ (l : List ByteArray) (i : Nat), i ≤ k → i + l.length ≤ 999999 → l[k - i]? = some b → insL (fifoL k u i l ++ [q]) (cmQ qB k 1 u b) = fifoL (k + 1) u i l ++ [q]
  | [], i, _, _, h => by simp at h
  | x :: l, i, hi, hl, h => by
    simp only [List.length_cons] at hl
    rcases Nat.eq_or_lt_of_le hi with rfl | hlt
    · rw [Nat.sub_self, List.getElem?_cons_zero] at h
      obtain rfl := Option.some.inj h
      rw [fifoL, if_neg (Nat.lt_irrefl _), List.cons_append, insL, ltS_irrefl, eqS_refl, fifoL, if_pos (Nat.lt_succ_self _), fifo_same (Nat.le_refl _)]
      rfl
    · have e := fifo_take (u := u) q hq b k l (i + 1) (by omega) (by omega) (by rw [show k - i = (k - (i + 1)) + 1 by omega, List.getElem?_cons_succ] at h; exact h)
      have hl2 : ltS (msgB qB i) (msgB qB k) = true := by
        have : k < i + (l.length + 1) := by
          have h2 := (List.getElem?_eq_some_iff.1 h).1
          simp only [List.length_cons] at h2
          omega
        rw [msg_lt qB (by omega) (by omega)]; exact decide_eq_true hlt
      rw [fifoL, if_pos hlt, List.cons_append, insL, hl2, if_pos rfl, e, fifoL, if_pos (by omega)]
      rfl
/-- where a search stands ahead of a number -/
def atF (j : Nat) : ByteArray := if j = 0 then fromB qB else zeroS (msgB qB (j - 1))
theorem atF_has {j n : Nat} (hj : j ≤ 999999) (hn : n ≤ 999999) : hasS (atF j) (toB qB) (msgB qB n) = decide (j ≤ n) := by
  unfold atF
  split
  · rename_i h; subst h; rw [from_msg q_name]; simp
  · rw [msg_past (j - 1) n (by omega) hn q_name]
    congr 1
    exact propext ⟨fun h => by omega, fun h => by omega⟩
theorem fifo_seenF {k u : Nat} (q : Chg) (hq : q.key = queB qB) {j : Nat} (hj : j ≤ 999999) : ∀ (l : List ByteArray) (i : Nat), i + l.length ≤ 999999 → seenF (atF j, toB qB) (fifoL k u i l ++ [q]) = rowsF k u (max i j) (l.drop (j - i))
  | [], i, _ => by simp [seenF, fifoL, hq, que_past, rowsF]
  | b :: l, i, hl => by
    simp only [List.length_cons] at hl
    have e := fifo_seenF (k := k) (u := u) q hq hj l (i + 1) (by omega)
    have hk : (if i < k then cmQ qB i 1 u b else cmQ qB i 0 0 b).key = msgB qB i := by split <;> rfl
    have hg : (if i < k then cmQ qB i 1 u b else cmQ qB i 0 0 b).gone = false := by split <;> rfl
    have hv : (if i < k then cmQ qB i 1 u b else cmQ qB i 0 0 b).val = if i < k then joinB 1 u b else joinB 0 0 b := by split <;> rfl
    unfold seenF at e ⊢
    rw [fifoL, List.cons_append, List.filter_cons, hk, hg]
    dsimp only
    rw [atF_has hj (by omega)]
    by_cases hji : j ≤ i
    · rw [decide_eq_true hji, if_pos (show (true && !false) = true from rfl), List.map_cons, e, hk, hv, show j - i = 0 by omega, show j - (i + 1) = 0 by omega, List.drop_zero, List.drop_zero, show max i j = i by omega, show max (i + 1) j = i + 1 by omega]
      rfl
    · rw [decide_eq_false hji, if_neg (by simp), e, show j - i = (j - (i + 1)) + 1 by omega, List.drop_succ_cons, show max i j = max (i + 1) j by omega]
theorem fifo_seen {k u : Nat} (l : List ByteArray) (hl : l.length ≤ 999999) {j : Nat} (hj : j ≤ 999999) : seenP [] (fifoQ k u l) (atF j, toB qB) = rowsF k u j (l.drop j) := by
  rw [seen_none _ (fifo_rises _ rfl l 0 (by omega)), fifo_seenF _ rfl hj l 0 (by omega)]
  rw [show max 0 j = j by omega, Nat.sub_zero]
end Go.Proofs.YtpbhcjkllfonhaaGreatDoor

/-
  What acts make of a queue and some messages in a row in a view of no rows.
-/
namespace Go.Proofs.YtpbhcjkllfonhaaGreatDoor
open Go.RowKit Go.Joins

theorem send_fifo {u : Nat} {l : List ByteArray} {rds : Rws} {b : ByteArray} (hl : l.length ≤ 5) (hb : b.size ≤ 28) : sendQ [] (fifoQ 0 u l) rds qB b 0 = ((l.length : Int), 0, fifoQ 0 u (l ++ [b]), rds) := by
  have e := send_may (P := []) (rds := rds) (u := 0) (b := b) (x := l.length) (y := 1) (d := eB) (chs := fifoQ 0 u l) q_name (fifo_find _ rfl l 0) (by omega) (by omega) hb (may_empty (by omega) (by omega) (by omega)) (by simp only [List.length_append, fifo_len, List.length_singleton]; omega)
  have p := fifo_push (u := u) (cqQ qB l.length 1 eB) rfl b l 0 (by omega)
  rw [Nat.zero_add] at p
  rw [p, fifo_last (cqQ qB l.length 1 eB) (cqQ qB (l.length + 1) 1 eB) rfl rfl] at e
  rw [show fifoQ 0 u (l ++ [b]) = fifoL 0 u 0 (l ++ [b]) ++ [cqQ qB (l.length + 1) 1 eB] by simp [fifoQ]]
  exact e
theorem atF_next (j : Nat) : atF (j + 1) = zeroS (msgB qB j) := by unfold atF; rw [if_neg (by omega), Nat.add_sub_cancel]
section
variable {now : Nat} {l : List ByteArray}
theorem fifo_skips (hl : l.length ≤ 5) (hs : ∀ b ∈ l, b.size ≤ 28) (hn : now ≤ 1000000) (k : Nat) (hk : k ≤ l.length) : ∀ (d j f : Nat) (rds : Rws), j + d = k → rds.length + d < 40 →
    ∃ rds', takeQ [] qB 1 eB now ((now : Int) + 1) (f + d) (fifoQ k (now + 1) l) rds (atF j) = takeQ [] qB 1 eB now ((now : Int) + 1) f (fifoQ k (now + 1) l) rds' (atF k) ∧ rds'.length ≤ rds.length + d := by
  intro d
  induction d with
  | zero => intro j f rds hj _; exact ⟨rds, by rw [Nat.add_zero] at *; rw [hj], by omega⟩
  | succ d ih =>
    intro j f rds hj hr
    have hjl : j < l.length := by omega
    have hseen : seenP [] (fifoQ k (now + 1) l) (atF j, toB qB) = (msgB qB j, joinB 1 (now + 1) l[j]) :: rowsF k (now + 1) (j + 1) (l.drop (j + 1)) := by
      rw [fifo_seen l (by omega) (by omega), List.drop_eq_getElem_cons hjl, rowsF, rowF, if_pos (by omega)]
    obtain ⟨rds1, e1, l1⟩ := take_skip (P := []) (rds := rds) (dead := eB) (k := f + d) (until_ := (now : Int) + 1) (tries := 1) (now := (now : Int)) hseen (by omega) (by omega) ⟨by omega, by omega, hs _ (List.getElem_mem hjl)⟩ (by omega)
    rw [← atF_next] at e1
    obtain ⟨rds2, e2, l2⟩ := ih (j + 1) f rds1 (by omega) (by omega)
    exact ⟨rds2, e1.trans e2, by omega⟩
theorem recv_fifo {rds : Rws} {k : Nat} {b : ByteArray} (hl : l.length ≤ 5) (hs : ∀ b ∈ l, b.size ≤ 28) (hn : now ≤ 1000000) (hb : l[k]? = some b) (hr : rds.length ≤ 34) :
    ∃ rds', receiveQ [] (fifoQ k (now + 1) l) rds qB now 1 = (((k : Int), 1, (now : Int) + 1, b, 0), fifoQ (k + 1) (now + 1) l, rds') ∧ rds'.length ≤ rds.length + 6 := by
  obtain ⟨hkl, hbe⟩ := List.getElem?_eq_some_iff.1 hb
  have hb28 : b.size ≤ 28 := hs b (by rw [← hbe]; exact List.getElem_mem hkl)
  obtain ⟨rds1, e1, l1⟩ := fifo_skips hl hs hn k (by omega) k 0 (1000000 - k + 1) rds (by omega) (by omega)
  have hseen : seenP [] (fifoQ k (now + 1) l) (atF k, toB qB) = (msgB qB k, joinB 0 0 b) :: rowsF k (now + 1) (k + 1) (l.drop (k + 1)) := by
    rw [fifo_seen l (by omega) (by omega), List.drop_eq_getElem_cons hkl, rowsF, rowF, if_neg (by omega), hbe]
  have ht := fifo_take (u := now + 1) (cqQ qB l.length 1 eB) rfl b k l 0 (by omega) (by omega) (by rw [Nat.sub_zero]; exact hb)
  obtain ⟨rds2, e2, l2⟩ := take_hit (P := []) (name := qB) (dead := eB) (k := 1000000 - k) (v := now + 1) (until_ := (now : Int) + 1) (tries := 1) (now := (now : Int)) hseen (by omega : rds1.length < 40) (by omega) ⟨by omega, by omega, hb28⟩ (by omega) (by omega) rfl q_name ⟨by omega, by omega, hb28⟩ (by rw [ht]; simp only [List.length_append, fifo_len, List.length_singleton]; omega)
  rw [ht] at e2
  rw [show 1000000 - k + 1 + k = 1000001 by omega] at e1
  refine ⟨rds2, ?_, by omega⟩
  have e := receive_ok (P := []) (rds := rds) (long := 1) (x := l.length) (y := 1) (d := eB) q_name (fifo_find _ rfl l 0) (may_empty (by omega) (by omega) (by omega)) (time_nat hn) (time_nat (n := 1) (by omega)) (e1.trans e2)
  exact e
theorem recv_fifo_end {rds : Rws} (hl : l.length ≤ 5) (hs : ∀ b ∈ l, b.size ≤ 28) (hn : now ≤ 1000000) (hr : rds.length ≤ 33) :
    ∃ rds', receiveQ [] (fifoQ l.length (now + 1) l) rds qB now 1 = (noM 12, fifoQ l.length (now + 1) l, rds') ∧ rds'.length ≤ rds.length + 6 := by
  obtain ⟨rds1, e1, l1⟩ := fifo_skips hl hs hn l.length (Nat.le_refl _) l.length 0 (1000000 - l.length + 1) rds (by omega) (by omega)
  have hseen : seenP [] (fifoQ l.length (now + 1) l) (atF l.length, toB qB) = [] := by
    rw [fifo_seen l (by omega) (by omega), List.drop_length]; rfl
  obtain ⟨rds2, e2, l2⟩ := take_end (P := []) (name := qB) (dead := eB) (k := 1000000 - l.length) (until_ := (now : Int) + 1) (tries := 1) (now := (now : Int)) hseen (by omega : rds1.length < 40)
  rw [show 1000000 - l.length + 1 + l.length = 1000001 by omega] at e1
  refine ⟨rds2, ?_, by omega⟩
  have e := receive_ok (P := []) (rds := rds) (long := 1) (x := l.length) (y := 1) (d := eB) q_name (fifo_find _ rfl l 0) (may_empty (by omega) (by omega) (by omega)) (time_nat hn) (time_nat (n := 1) (by omega)) (e1.trans e2)
  exact e
theorem rowsF_len (k u : Nat) : ∀ (l : List ByteArray) (i : Nat), (rowsF k u i l).length = l.length
  | [], _ => rfl
  | b :: l, i => by simp [rowsF, rowsF_len k u l (i + 1)]
theorem rowsF_good (k u : Nat) (hu : u ≤ 2000000) : ∀ (l : List ByteArray) (i : Nat), (∀ b ∈ l, b.size ≤ 28) → msgsF (rowsF k u i l) = 0
  | [], _, _ => rfl
  | b :: l, i, hs => by
    have hb := hs b (List.mem_cons_self ..)
    have e : (mOf (rowF k u i b).2 (numK (rowF k u i b).1)).2.2.2.2 = 0 := by
      unfold rowF
      dsimp only
      split
      · rw [mOf_join _ ⟨by omega, hu, hb⟩]
      · rw [mOf_join _ ⟨by omega, by omega, hb⟩]
    show (if (mOf (rowF k u i b).2 (numK (rowF k u i b).1)).2.2.2.2 = 0 then msgsF (rowsF k u (i + 1) l) else _) = 0
    rw [if_pos e]
    exact rowsF_good k u hu l (i + 1) fun x hx => hs x (List.mem_cons_of_mem _ hx)
theorem msgs_fifo {rds : Rws} (k u : Nat) (hu : u ≤ 2000000) (hl : l.length ≤ 5) (hs : ∀ b ∈ l, b.size ≤ 28) (hr : rds.length < 40) : ∃ rds', messagesQ [] (fifoQ k u l) rds qB = (0, msgsL (rowsF k u 0 l), rds') ∧ rds'.length ≤ rds.length + 1 := by
  obtain ⟨f1, f2⟩ := findQ_some (P := []) (rds := rds) (chs := fifoQ k u l) (x := l.length) (y := 1) (d := eB) q_name (fifo_find _ rfl l 0) (may_empty (by omega) (by omega) (by omega))
  have hseen : seenP [] (fifoQ k u l) (fromB qB, toB qB) = rowsF k u 0 l := by
    have e := fifo_seen (k := k) (u := u) l (by omega) (j := 0) (by omega)
    rw [List.drop_zero] at e
    exact e
  have hsf : scanF (seenP [] (fifoQ k u l) (fromB qB, toB qB)) rds (fromB qB, toB qB) 53 = 0 := (if_neg (by omega)).trans (readF_few _ hr)
  have ht : (rowsF k u 0 l).take 53 = rowsF k u 0 l := List.take_of_length_le (by rw [rowsF_len]; omega)
  unfold messagesQ
  rw [f1, f2, if_pos rfl, if_pos hsf, hseen, ht, if_pos (rowsF_good k u hu l 0 hs)]
  exact ⟨_, rfl, by unfold scanL; rw [if_neg (by omega)]; exact readL_le _ _⟩
theorem msgs_count (k u : Nat) (l : List ByteArray) : (msgsL (rowsF k u 0 l)).length = l.length := by unfold msgsL; rw [List.length_map, rowsF_len]
end
end Go.Proofs.YtpbhcjkllfonhaaGreatDoor

/-
  Texts that came in, opened: as they lie.
-/
namespace Go.Proofs.YtpbhcjkllfonhaaGreatDoor
open Go.ChangeShapes Go.WideShapes Go.ChangeAt Go.RowKit Go.Joins Go.Deep

def strsAt (w : World) (b off : Nat) (l : List ByteArray) : Prop := ∀ i (h : i < l.length), w.cell? ⟨b, off + i, none⟩ = some (.string l[i])
def heldSt (w : World) (ao : Option Addr) (l : List ByteArray) : Prop := l = [] ∨ ∃ b off, ao = some ⟨b, off, none⟩ ∧ strsAt w b off l
set_option maxRecDepth 100000 in
theorem open_strsArg {H : Type} {enc : TypeId × Value → H} {W : World} {base : Nat} {v : Value} {d : DataW H} {p : List MemPlace}
    (hv : Value.okWide Tryz.prog W .any base 42 v) (h : DataW.Trod enc Tryz.prog W 0 (fun _ => true) true 42 v d p) :
    ∃ (ao : Option Addr) (cap : Nat) (l : List ByteArray), v = .slice ao l.length cap ∧ heldSt W ao l ∧ l.length ≤ cap ∧ cap ≤ maxLen := by
  obtain ⟨a0, len, cap, rfl⟩ := okWide_slice Tryz.underlying42 hv
  obtain ⟨fuel, hf⟩ := h
  have hf' : DataW.trod enc Tryz.prog W 0 (fun _ => true) true fuel 42 [.slice a0 len cap] = some (d, p) := by simpa [Value.cells] using hf
  rcases open_strings Tryz.underlying42 Tryz.underlying9 (show Tryz.prog.cellsOf 9 = 1 by kernel_rfl) hf' with ⟨hcs, _⟩ | ⟨a, len', cap', ss, hcs, _, hl, hm, hz, _, hcell, _⟩
  · simp at hcs
    obtain ⟨rfl, rfl, rfl⟩ := hcs
    exact ⟨none, 0, [], rfl, .inl rfl, Nat.le_refl _, Nat.zero_le _⟩
  · simp at hcs
    obtain ⟨rfl, rfl, rfl⟩ := hcs
    simp only [if_true] at hz
    by_cases h0 : len = 0
    · subst h0
      exact ⟨_, _, [], rfl, .inl rfl, Nat.zero_le _, hm⟩
    · obtain ⟨b, off, spot⟩ := a
      have hspot : spot = none := by
        have e0 := hcell 0 (by omega)
        simpa [Addr.add] using World.cell?_spot e0
      subst hspot
      have hlen : (ss.take len).length = len := by rw [List.length_take]; omega
      refine ⟨_, cap, ss.take len, by rw [hlen], .inr ⟨b, off, rfl, fun i hi => ?_⟩, by rw [hlen]; exact hl, hm⟩
      have hi' : i < len := by rw [hlen] at hi; exact hi
      have e := hcell i (by omega)
      rw [Go.WideShapes.add_plain] at e
      rw [e, List.getElem_take]
      simp [List.getD, List.getElem?_eq_getElem (show i < ss.length by omega)]
end Go.Proofs.YtpbhcjkllfonhaaGreatDoor

/-
  What haywaintop.TopFifo returns: true, whatever its arguments.
-/
namespace Go.Proofs.YtpbhcjkllfonhaaGreatDoor
open Go.RowKit Go.Joins Go.Shelf
attribute [local go_sem ↓] Go.wp_at_zero Go.wp_at_succ

set_option maxRecDepth 8000 in
set_option maxHeartbeats 4000000 in
theorem topFifo_heavy (l : List ByteArray) (ao : Option Addr) (cap : Nat) (now : Int) (w : World) (hL : Laid w) (hh : 5 < l.length ∨ now < 0 ∨ 1000000 < now) :
    Calls Tryz.prog 4 #[.slice ao l.length cap, .int .i64 now] w fun e w' => e = .returned (.bool true) ∧ Below w.heap.size w w' := by
  have HL := hide hL
  clear hL
  by_cases h0 : 5 < l.length
  · have d0 : decide (5 < (l.length : Int)) = true := decide_eq_true (by omega)
    clear hh h0
    go_enter Tryz.func4, Tryz.ntmps4
    go_wp2_with (first
      | (go_at_call 15; refine (waits_any _ HL.out).mono ?_; rintro e w1 ⟨wb, rfl, hb1⟩; have HB := hide hb1; clear hb1)
      | fail)
    go_ret
    exact ⟨rfl, HB.out⟩
  have d0 : decide (5 < (l.length : Int)) = false := decide_eq_false (by omega)
  by_cases h1 : now < 0
  · have d1 : decide (now < 0) = true := decide_eq_true (by omega)
    clear hh h1 h0
    go_enter Tryz.func4, Tryz.ntmps4
    go_wp2_with (first
      | (go_at_call 15; refine (waits_any _ HL.out).mono ?_; rintro e w1 ⟨wb, rfl, hb1⟩; have HB := hide hb1; clear hb1)
      | fail)
    go_ret
    exact ⟨rfl, HB.out⟩
  have d1 : decide (now < 0) = false := decide_eq_false (by omega)
  have h2 : 1000000 < now := by omega
  have d2 : decide (1000000 < now) = true := decide_eq_true (by omega)
  clear hh h2 h0 h1
  go_enter Tryz.func4, Tryz.ntmps4
  go_wp2_with (first
    | (go_at_call 15; refine (waits_any _ HL.out).mono ?_; rintro e w1 ⟨wb, rfl, hb1⟩; have HB := hide hb1; clear hb1)
    | fail)
  go_ret
  exact ⟨rfl, HB.out⟩
theorem ownM_slice {w : World} {B : Nat} {v : Value} {l : List Msg} (h : ownM w B v l) : ∃ ao cap, v = .slice ao l.length cap := by
  rcases h.2 with ⟨rfl, h0⟩ | ⟨g, cap, cur, rfl, _⟩
  · exact ⟨none, 0, by rw [h0]⟩
  · exact ⟨_, cap, rfl⟩
theorem heldSt_at {w : World} {ao : Option Addr} {l : List ByteArray} (h : heldSt w ao l) {k : Nat} (hk : k < l.length) : ∃ b off, ao = some ⟨b, off, none⟩ ∧ w.cell? ⟨b, off + k, none⟩ = some (.string l[k]) := by
  rcases h with rfl | ⟨b, off, e, hs⟩
  · cases hk
  · exact ⟨b, off, e, hs k hk⟩
set_option maxRecDepth 8000 in
set_option maxHeartbeats 8000000 in
theorem topFifo_light (l : List ByteArray) (ao : Option Addr) (cap : Nat) (now : Nat) (w : World) (hL : Laid w) (hl : heldSt w ao l) (h5 : l.length ≤ 5) (hn : now ≤ 1000000) :
    Calls Tryz.prog 4 #[.slice ao l.length cap, .int .i64 now] w fun e w' => e = .returned (.bool true) ∧ Below w.heap.size w w' := by
  have n0 := nil_eql_nil
  have n1 := nil_neq_nil
  have n2 := err_eql_nil 116
  have n3 := err_neq_nil 116
  have d0 : decide (5 < (l.length : Int)) = false := decide_eq_false (by omega)
  have d1 : decide ((now : Int) < 0) = false := decide_eq_false (by omega)
  have d2 : decide (1000000 < (now : Int)) = false := decide_eq_false (by omega)
  have hwn : IntKind.i64.wrap ((now : Int) + 1) = (now : Int) + 1 := by rw [IntKind.wrap_i64]; omega
  have HL := hide hL
  have HS := hide hl
  clear hL hl
  go_enter Tryz.func4, Tryz.ntmps4
  go_wp2_with (fail)
  (go_at_call 15; refine (waits_any _ HL.out).mono ?_; rintro e w1 ⟨wb0, rfl, hb1⟩; have HB := hide hb1; clear hb1)
  go_wp2_with (fail)
  (go_at_call 12; refine (new_any [] none 0 _ (.inl rfl) (by decide) (by simp)).mono ?_; rintro e w2 ⟨vb, rfl, hb2, mb, D, g, hv⟩; have HV := hide hv; have HB2 := hide hb2; clear hv hb2)
  go_wp2_with (fail)
  (go_at_call 11; refine (view_new _ HV.out).mono ?_; rintro e w3 ⟨wb, rfl, hw3, hb3⟩; have H0 := hide (lq_make HL.out HB.out HB2.out HV.out hw3 hb3); clear hw3 hb3 HV HB2)
  go_wp2_with (fail)
  (go_at_call 16; refine (lq_create (f := 0) (n' := 1) (chs' := fifoQ 0 (now + 1) []) H0.out (by decide) (by decide) (fun rds hr => by obtain ⟨r, e, l⟩ := create_one (rds := rds) (y := 1) (by omega) (by omega) (by omega); exact ⟨r, e, by omega⟩)).mono ?_; rintro e wC ⟨rfl, hC⟩; have H1 := hide hC; clear hC; rw [errV_zero])
  go_wp2_with (fail)
  go_loopw [8] (fun v wr => ∃ k : Nat, k ≤ l.length ∧ v = .int .i64 (k : Int) ∧ LQ w wr wb (fifoQ 0 (now + 1) (l.take k)) 1 ∧ ∀ b ∈ l.take k, b.size ≤ 28) (fun v _ => l.length - (intOf v).toNat)
  case atStart => exact ⟨0, Nat.zero_le _, rfl, H1.out, by simp⟩
  case round =>
    obtain ⟨k, hk, rfl, h, hs⟩ := hrel
    have H2 := hide h
    have HSZ := hide hs
    clear h hs H1
    by_cases hlt : k < l.length
    · have g1 : decide ((k : Int) < (l.length : Int)) = true := decide_eq_true (by omega)
      have lk : (k : Int) < (l.length : Int) := by omega
      obtain ⟨b, off, rfl, c0⟩ := heldSt_at HS.out hlt
      have HC := hide c0
      replace c0 := cell_on H2.out.bel c0
      have HBK := hide (show l.take (k + 1) = l.take k ++ [l[k]] from List.take_succ_eq_append_getElem hlt)
      have HLK := hide (show (l.take k).length = k by rw [List.length_take]; omega)
      have hw1 : IntKind.i64.wrap ((k : Int) + 1) = (k : Int) + 1 := by rw [IntKind.wrap_i64]; omega
      generalize l[k] = bk at *
      by_cases hbig : 28 < bk.size
      · have g2 : decide (28 < (bk.size : Int)) = true := decide_eq_true (by omega)
        go_wp2_with (fail)
        go_ret
        exact ⟨rfl, H2.out.bel⟩
      · have g2 : decide (28 < (bk.size : Int)) = false := decide_eq_false (by omega)
        go_wp2_with (fail)
        (go_at_call 17; refine (lq_send (f := 0) (n' := 1) (k := (k : Int)) (chs' := fifoQ 0 (now + 1) (l.take (k + 1))) H2.out (by decide) (fun rds hr => ⟨rds, by have e := send_fifo (u := now + 1) (l := l.take k) (rds := rds) (b := bk) (by rw [HLK.out]; omega) (by omega); rw [HLK.out, ← HBK.out] at e; exact e, hr⟩)).mono ?_; rintro e wS ⟨rfl, hS⟩; have H3 := hide hS; clear hS; rw [errV_zero])
        go_wp2_with (fail)
        exact ⟨⟨k + 1, by omega, rfl, H3.out, fun x hx => by rw [HBK.out] at hx; rcases List.mem_append.1 hx with hx | hx; exact HSZ.out x hx; rw [List.mem_singleton.1 hx]; omega⟩, by simp [intOf]; omega⟩
    · have ek : k = l.length := by omega
      subst ek
      have g1 : decide ((l.length : Int) < (l.length : Int)) = false := decide_eq_false (by omega)
      have lk : ¬ (l.length : Int) < (l.length : Int) := by omega
      have HQ := H2.out
      rw [List.take_length] at HQ
      have H3 := hide HQ
      have hs0 := HSZ.out
      rw [List.take_length] at hs0
      have HSA := hide hs0
      clear HQ H2 hs0 HSZ
      go_wp2_with (fail)
      go_loopw [11] (fun v wr => ∃ k : Nat, k ≤ l.length ∧ v = .int .i64 (k : Int) ∧ LQ w wr wb (fifoQ k (now + 1) l) (1 + 6 * k)) (fun v _ => l.length - (intOf v).toNat)
      case atStart => exact ⟨0, Nat.zero_le _, rfl, H3.out⟩
      case round =>
        obtain ⟨k, hk, rfl, h⟩ := hrel
        have H4 := hide h
        clear h H3
        by_cases hlt : k < l.length
        · have g2 : decide ((k : Int) < (l.length : Int)) = true := decide_eq_true (by omega)
          have lk2 : (k : Int) < (l.length : Int) := by omega
          obtain ⟨b, off, rfl, c0⟩ := heldSt_at HS.out hlt
          have HC := hide c0
          have HBK := hide (show l[k]? = some l[k] from List.getElem?_eq_getElem hlt)
          have hw1 : IntKind.i64.wrap ((k : Int) + 1) = (k : Int) + 1 := by rw [IntKind.wrap_i64]; omega
          clear c0
          generalize l[k] = bk at *
          have ebb : (bk.toList == bk.toList) = true := by simp
          go_wp2_with (fail)
          (go_at_call 18; refine (lq_receive (n' := (1 + 6 * (k + 1))) (m := ((k : Int), 1, (now : Int) + 1, bk, 0)) (chs' := fifoQ (k + 1) (now + 1) l) H4.out (by decide) (fun rds hr => by obtain ⟨r, e, l⟩ := recv_fifo (rds := rds) (k := k) (b := bk) h5 HSA.out hn HBK.out (by omega); exact ⟨r, e, by omega⟩)).mono ?_; rintro e wR ⟨rfl, hR⟩; have H5 := hide (hR.on (below_alloc1 wR (Obj.cells #[Value.int .i64 (k : Int), Value.int .i64 1, Value.int .i64 ((now : Int) + 1), Value.string bk] 51))); clear hR; dsimp only; rw [errV_zero])
          go_wp2_with (fail)
          have c0 := cell_on H5.out.bel HC.out
          have m0 := cell_new wR #[Value.int .i64 (k : Int), Value.int .i64 1, Value.int .i64 ((now : Int) + 1), Value.string bk] 51 0
          have m1 := cell_new wR #[Value.int .i64 (k : Int), Value.int .i64 1, Value.int .i64 ((now : Int) + 1), Value.string bk] 51 1
          have m2 := cell_new wR #[Value.int .i64 (k : Int), Value.int .i64 1, Value.int .i64 ((now : Int) + 1), Value.string bk] 51 2
          have m3 := cell_new wR #[Value.int .i64 (k : Int), Value.int .i64 1, Value.int .i64 ((now : Int) + 1), Value.string bk] 51 3
          generalize (wR.alloc (Obj.cells #[Value.int .i64 (k : Int), Value.int .i64 1, Value.int .i64 ((now : Int) + 1), Value.string bk] 51)) = WR at *
          generalize wR.heap.size = mb at *
          go_quiet (fail)
          go_wp2_with (fail)
          exact ⟨⟨k + 1, by omega, rfl, H5.out.on (below_draws _ _ _)⟩, by simp [intOf]; omega⟩
        · have ek : k = l.length := by omega
          subst ek
          have g2 : decide ((l.length : Int) < (l.length : Int)) = false := decide_eq_false (by omega)
          have HMC := hide (msgs_count l.length (now + 1) l)
          go_wp2_with (fail)
          (go_at_call 18; refine (lq_receive (n' := (7 + 6 * l.length)) (m := (noM 12)) (chs' := fifoQ l.length (now + 1) l) H4.out (by decide) (fun rds hr => by obtain ⟨r, e, l⟩ := recv_fifo_end (rds := rds) h5 HSA.out hn (by omega); exact ⟨r, e, by omega⟩)).mono ?_; rintro e wR ⟨rfl, hR⟩; have H5 := hide (hR.on (below_alloc1 wR (Obj.cells #[Value.int .i64 0, Value.int .i64 0, Value.int .i64 0, Value.string ⟨#[]⟩] 51))); clear hR; dsimp only)
          go_wp2_with (fail)
          (go_at_call 19; refine (lq_messages (n' := 8 + 6 * l.length) (l := msgsL (rowsF l.length (now + 1) 0 l)) H5.out (by decide) (fun rds hr => by obtain ⟨r, e, q⟩ := msgs_fifo (rds := rds) l.length (now + 1) (by omega) h5 HSA.out (by omega); exact ⟨r, e, by omega⟩)).mono ?_; rintro e wM ⟨v, rfl, hoM, hM⟩; have H6 := hide hM; obtain ⟨am, cm, rfl⟩ := ownM_slice hoM; clear hM hoM; rw [HMC.out])
          go_wp2_with (fail)
          (go_at_call 20; refine (number_any 12 _).mono ?_; rintro e w8 ⟨rfl, rfl⟩)
          go_wp2_with (fail)
          go_ret
          exact ⟨rfl, H6.out.bel⟩
theorem topFifo_walk (l : List ByteArray) (ao : Option Addr) (cap : Nat) (now : Int) (w : World) (hL : Laid w) (hl : heldSt w ao l) :
    Calls Tryz.prog 4 #[.slice ao l.length cap, .int .i64 now] w fun e w' => e = .returned (.bool true) ∧ Below w.heap.size w w' := by
  by_cases hh : 5 < l.length ∨ now < 0 ∨ 1000000 < now
  · exact topFifo_heavy l ao cap now w hL hh
  · obtain ⟨a, rfl⟩ := Int.eq_ofNat_of_zero_le (show 0 ≤ now by omega)
    exact topFifo_light l ao cap a w hL hl (by omega) (by omega)
end Go.Proofs.YtpbhcjkllfonhaaGreatDoor

/-
  What a row's list of variables gives: the library's table of powers of ten, third of the list, holds its numbers.
-/
namespace Go.Proofs.YtpbhcjkllfonhaaGreatDoor
open Go.Lib

theorem pow_type : (Tryz.prog.globals[3]?).map (·.type) = some 258 := by kernel_rfl
theorem pow_cells : Tryz.prog.cellsOf 258 = 20 := by kernel_rfl
theorem u64_cells : Tryz.prog.cellsOf 37 = 1 := by kernel_rfl
theorem tab_third {W : World} {x y : String × DataW Unit} {zs : List Int} {rest : List (String × DataW Unit)}
    (h : laidMet Tryz.prog (x :: y :: ("internal/strconv.uint64pow10", tabData .u64 zs) :: rest) W) : TabIs Tryz.prog W "internal/strconv.uint64pow10" .u64 zs := by
  obtain ⟨ps, ⟨_, _, _, _, _, _, _, _, _, _, ⟨_, _, _, _, _, _, _, _, _, _, ⟨g', t', cs, fuel, p, q, hg', ht', hvar, hd, _, _⟩, _⟩, _⟩, _⟩ := h
  obtain rfl := Option.some.inj (pow_named.symm.trans hg')
  obtain rfl := Option.some.inj (pow_type.symm.trans ht')
  have e := cells_of_tab Tryz.underlying258 Tryz.underlying37 u64_cells pow_cells hd
  unfold TabIs
  rw [hvar]
  congr 1
  exact Array.ext' (by simpa using e)
theorem pow_list : Lib.pow10Tab = [1, 10, 100, 1000, 10000, 100000, 1000000, 10000000, 100000000, 1000000000, 10000000000, 100000000000, 1000000000000, 10000000000000, 100000000000000, 1000000000000000, 10000000000000000, 100000000000000000, 1000000000000000000, 10000000000000000000] := by decide +kernel
end Go.Proofs.YtpbhcjkllfonhaaGreatDoor

/-
  What a row's list of variables gives: the library's two errors, fourth and fifth of the list, hold values.
-/
namespace Go.Proofs.YtpbhcjkllfonhaaGreatDoor
open Go.Lib

theorem rng_type : (Tryz.prog.globals[2]?).map (·.type) = some 46 := by kernel_rfl
theorem syn_type : (Tryz.prog.globals[1]?).map (·.type) = some 46 := by kernel_rfl
theorem err_fourth {W : World} {x y z : String × DataW Unit} {nm : String} {d : DataW Unit} {rest : List (String × DataW Unit)}
    (h : laidMet Tryz.prog (x :: y :: z :: ("strconv.ErrRange", .iface nm d) :: rest) W) : ErrIs W "strconv.ErrRange" := by
  obtain ⟨ps, ⟨_, _, _, _, _, _, _, _, _, _, ⟨_, _, _, _, _, _, _, _, _, _, ⟨_, _, _, _, _, _, _, _, _, _, ⟨g', t', cs, fuel, p, q, hg', ht', hvar, hd, _, _⟩, _⟩, _⟩, _⟩, _⟩ := h
  obtain rfl := Option.some.inj (rng_named.symm.trans hg')
  obtain rfl := Option.some.inj (rng_type.symm.trans ht')
  obtain ⟨_, u, v, hc, _, _⟩ := iface_of_trod Tryz.underlying46 hd
  have e : cs = #[.iface u v] := Array.ext' (by simpa using hc)
  exact ⟨u, v, by rw [hvar, e]⟩
theorem err_fifth {W : World} {x y z a : String × DataW Unit} {nm : String} {d : DataW Unit} {rest : List (String × DataW Unit)}
    (h : laidMet Tryz.prog (x :: y :: z :: a :: ("strconv.ErrSyntax", .iface nm d) :: rest) W) : ErrIs W "strconv.ErrSyntax" := by
  obtain ⟨ps, ⟨_, _, _, _, _, _, _, _, _, _, ⟨_, _, _, _, _, _, _, _, _, _, ⟨_, _, _, _, _, _, _, _, _, _, ⟨_, _, _, _, _, _, _, _, _, _, ⟨g', t', cs, fuel, p, q, hg', ht', hvar, hd, _, _⟩, _⟩, _⟩, _⟩, _⟩, _⟩ := h
  obtain rfl := Option.some.inj (syn_named.symm.trans hg')
  obtain rfl := Option.some.inj (syn_type.symm.trans ht')
  obtain ⟨_, u, v, hc, _, _⟩ := iface_of_trod Tryz.underlying46 hd
  have e : cs = #[.iface u v] := Array.ext' (by simpa using hc)
  exact ⟨u, v, by rw [hvar, e]⟩
theorem wf_range {n : Int} (h : (Lit.int .i64 n).wf = true) : -9223372036854775808 ≤ n ∧ n ≤ 9223372036854775807 := by
  rw [Lit.wf, Bool.and_eq_true, decide_eq_true_eq, decide_eq_true_eq] at h
  exact h
end Go.Proofs.YtpbhcjkllfonhaaGreatDoor
