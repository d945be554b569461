/-
  What queues in a view of no rows come to: plain facts.
-/
import Derived.Test.YtighpalbodhfeaaGreatDoorQueMsgs
import Derived.Test.YtighpalbodhfeaaGreatDoorQueTakeL
import Derived.Test.YtighpalbodhfeaaGreatDoorRowErr
namespace Go.Proofs.YtighpalbodhfeaaGreatDoor
open Go.RowKit Go.Joins

abbrev cmQ (q : ByteArray) (n t u : Nat) (b : ByteArray) : Chg := ⟨msgB q n, joinB t u b, false⟩
abbrev cqQ (q : ByteArray) (x y : Nat) (d : ByteArray) : Chg := ⟨queB q, joinB x y d, false⟩
abbrev cgQ (q : ByteArray) (n : Nat) : Chg := ⟨msgB q n, ⟨#[]⟩, true⟩
theorem readF_few {l : Rws} (s : ByteArray × ByteArray) (h : l.length < 40) : readF l s = 0 := by
  unfold readF
  split
  · rfl
  · rw [if_neg (by omega)]
theorem readL_le (l : Rws) (s : ByteArray × ByteArray) : (readL l s).length ≤ l.length + 1 := by
  unfold readL
  split
  · omega
  · split
    · omega
    · simp
theorem getP_some {chs : List Chg} {rds P : Rws} {key : ByteArray} {c : Chg} (hk : keyL key.data.toList = true) (h : findC chs key = some c) : getP chs rds P key = (c.val, !c.gone, 0) ∧ getL chs rds key = rds := by
  unfold getP getL; rw [hk, h]; exact ⟨rfl, rfl⟩
theorem getP_none {chs : List Chg} {rds : Rws} {key : ByteArray} (hk : keyL key.data.toList = true) (h : findC chs key = none) (hr : rds.length < 40) : getP chs rds [] key = (⟨#[]⟩, false, 0) ∧ (getL chs rds key).length ≤ rds.length + 1 := by
  unfold getP getL; rw [hk, h]
  refine ⟨?_, readL_le _ _⟩
  rw [if_pos rfl]
  show (if readF rds (key, zeroS key) = 0 then _ else _) = _
  rw [if_pos (readF_few _ hr)]
  rfl
theorem findQ_some {P : Rws} {chs : List Chg} {rds : Rws} {name : ByteArray} {x y : Nat} {d : ByteArray} (hn : nameL name.data.toList = true) (h : findC chs (queB name) = some (cqQ name x y d)) (hm : queueMay x y d) : findQ P chs rds name = ((x : Int), (y : Int), d, 0) ∧ findL chs rds name = rds := by
  obtain ⟨e1, e2⟩ := getP_some (rds := rds) (P := P) (key_que hn) h
  unfold findQ findL
  rw [if_pos hn, if_pos hn, e1, e2]
  refine ⟨?_, rfl⟩
  rw [if_pos rfl]
  exact qOf_join hm
theorem findQ_none {chs : List Chg} {rds : Rws} {name : ByteArray} (hn : nameL name.data.toList = true) (h : findC chs (queB name) = none) (hr : rds.length < 40) : findQ [] chs rds name = (0, 0, ⟨#[]⟩, 5) ∧ (findL chs rds name).length ≤ rds.length + 1 := by
  obtain ⟨e1, e2⟩ := getP_none (key_que hn) h hr
  unfold findQ findL
  rw [if_pos hn, if_pos hn, e1]
  exact ⟨rfl, e2⟩
theorem alter_may {l : List Chg} {c : Chg} (h : chgFault c = 0) (hl : (insL l c).length ≤ 12) : alterF l c = 0 ∧ alterL l c = insL l c := by
  have e : alterF l c = 0 := by unfold alterF; rw [if_pos h, if_neg (by omega)]
  exact ⟨e, by unfold alterL; rw [if_pos e]⟩
theorem fault_msg {name : ByteArray} (hn : nameL name.data.toList = true) (n : Nat) {t u : Nat} {b : ByteArray} (h : messageMay t u b) : chgFault (cmQ name n t u b) = 0 := by
  unfold chgFault
  have := join_one t u b h.1 h.2.1
  have h3 := h.2.2
  rw [show (cmQ name n t u b).key = msgB name n from rfl, key_msg hn n, show (cmQ name n t u b).gone = false from rfl, show (cmQ name n t u b).val = joinB t u b from rfl]
  simp only [Bool.not_true, Bool.false_eq_true, if_false, Bool.false_and]
  rw [if_neg (by omega)]
theorem fault_que {name : ByteArray} (hn : nameL name.data.toList = true) {x y : Nat} {d : ByteArray} (h : queueMay x y d) : chgFault (cqQ name x y d) = 0 := by
  unfold chgFault
  have h1 := (join_size x y d (by have := h.1; omega) (by have := h.2.2.1; omega)).1
  have h3 := may_size h
  rw [show (cqQ name x y d).key = queB name from rfl, key_que hn, show (cqQ name x y d).gone = false from rfl, show (cqQ name x y d).val = joinB x y d from rfl]
  simp only [Bool.not_true, Bool.false_eq_true, if_false, Bool.false_and]
  rw [if_neg (by omega)]
theorem fault_gone {name : ByteArray} (hn : nameL name.data.toList = true) (n : Nat) : chgFault (cgQ name n) = 0 := by
  unfold chgFault
  rw [show (cgQ name n).key = msgB name n from rfl, key_msg hn n, show (cgQ name n).val.toList.isEmpty = true from (by decide +kernel : (⟨#[]⟩ : ByteArray).toList.isEmpty = true), show (cgQ name n).val.size = 0 from rfl]
  simp
theorem putM_may {chs : List Chg} {name : ByteArray} (hn : nameL name.data.toList = true) {k t u : Nat} {b : ByteArray} (hk : k ≤ 999999) (h : messageMay t u b) (hl : (insL chs (cmQ name k t u b)).length ≤ 12) : putMF chs name k t u b = 0 ∧ putML chs name k t u b = insL chs (cmQ name k t u b) := by
  have e : mText t u b = (joinB t u b, 0) := by
    unfold mText
    have h1 := h.1; have h2 := h.2.1; have h3 := h.2.2
    rw [if_pos ⟨by omega, by omega, by omega, by omega, by omega⟩]; rfl
  have en : numOf (k : Int) = k := by unfold numOf; omega
  obtain ⟨e1, e2⟩ := alter_may (fault_msg hn k h) hl
  unfold putMF putML
  rw [e, en, if_pos rfl, if_pos rfl]
  exact ⟨e1, e2⟩
theorem putQ_may {chs : List Chg} {name : ByteArray} (hn : nameL name.data.toList = true) {x y : Nat} {d : ByteArray} (h : queueMay x y d) (hl : (insL chs (cqQ name x y d)).length ≤ 12) : putQF chs name x y d = 0 ∧ putQL chs name x y d = insL chs (cqQ name x y d) := by
  have e : qText x y d = (joinB x y d, 0) := by
    unfold qText
    have h1 := h.1; have h2 := h.2.1; have h3 := h.2.2.1
    have hd : (d.toList.isEmpty || nameL d.data.toList) = true := by
      rcases h.2.2.2 with h | h
      · rw [h]; rfl
      · rw [h.2]; simp
    rw [if_pos ⟨by omega, by omega, by omega, by omega⟩, if_pos hd]; rfl
  obtain ⟨e1, e2⟩ := alter_may (fault_que hn h) hl
  unfold putQF putQL
  rw [e, if_pos rfl, if_pos rfl]
  exact ⟨e1, e2⟩
theorem create_may {rds : Rws} {chs : List Chg} {name dead : ByteArray} {y : Nat} (hn : nameL name.data.toList = true) (h : findC chs (queB name) = none) (hr : rds.length < 38) (hd : nilS dead = true ∨ (eqS dead name = false ∧ nameL dead.data.toList = true ∧ ∃ x y d, findC chs (queB dead) = some (cqQ dead x y d) ∧ queueMay x y d)) (hy : queueMay 0 y dead) (hl : (insL chs (cqQ name 0 y dead)).length ≤ 12) :
    ∃ rds', createQ [] chs rds name y dead = (0, insL chs (cqQ name 0 y dead), rds') ∧ rds'.length ≤ rds.length + 1 := by
  obtain ⟨e1, l1⟩ := findQ_none hn h (by omega : rds.length < 40)
  obtain ⟨p1, p2⟩ := putQ_may hn hy hl
  have p1' : putQF chs name 0 (y : Int) dead = 0 := p1
  have p2' : putQL chs name 0 (y : Int) dead = insL chs (cqQ name 0 y dead) := p2
  have hne : eqS dead name = false := by
    rcases hd with hd | hd
    · rw [(nilS_iff dead).1 hd]
      cases e : eqS ByteArray.empty name with
      | false => rfl
      | true =>
        rw [← (eqS_iff _ _).1 e] at hn
        cases hn
    · exact hd.1
  unfold createQ
  rw [e1, if_pos (show missN 5 = 0 from rfl), if_neg (by rw [hne]; simp)]
  rcases hd with hd | ⟨_, hdn, x, y', d, hf, hm⟩
  · rw [if_pos (show dead.toList.isEmpty = true from hd), p1', p2']
    exact ⟨_, rfl, l1⟩
  · obtain ⟨f1, f2⟩ := findQ_some (P := []) (rds := findL chs rds name) hdn hf hm
    by_cases hz : dead.toList.isEmpty = true
    · rw [if_pos hz, p1', p2']
      exact ⟨_, rfl, l1⟩
    · rw [if_neg hz, f1, if_pos rfl, p1', p2', f2]
      exact ⟨_, rfl, l1⟩
theorem add_may {chs : List Chg} {name : ByteArray} (hn : nameL name.data.toList = true) {x y u : Nat} {d b : ByteArray} (hx : x < 999999) (hm : messageMay 0 u b) (hq : queueMay x y d) (hl : chs.length ≤ 10) : addQ chs name x y d b u = ((x : Int), 0, insL (insL chs (cmQ name x 0 u b)) (cqQ name (x + 1) y d)) := by
  have l1 := ins_length chs (cmQ name x 0 u b)
  have l2 := ins_length (insL chs (cmQ name x 0 u b)) (cqQ name (x + 1) y d)
  obtain ⟨e1, e2⟩ := putM_may (chs := chs) hn (k := x) (by omega) hm (by omega)
  obtain ⟨e3, e4⟩ := putQ_may (chs := insL chs (cmQ name x 0 u b)) hn (x := x + 1) (y := y) (d := d) ⟨by omega, hq.2⟩ (by omega)
  have e1' : putMF chs name (x : Int) 0 (u : Int) b = 0 := e1
  have e2' : putML chs name (x : Int) 0 (u : Int) b = insL chs (cmQ name x 0 u b) := e2
  have e3' : putQF (insL chs (cmQ name x 0 u b)) name ((x : Int) + 1) (y : Int) d = 0 := e3
  have e4' : putQL (insL chs (cmQ name x 0 u b)) name ((x : Int) + 1) (y : Int) d = _ := e4
  unfold addQ
  rw [if_neg (by omega), e1', e2', if_pos rfl, e3', e4']
theorem send_may {P : Rws} {chs : List Chg} {rds : Rws} {name : ByteArray} (hn : nameL name.data.toList = true) {x y u : Nat} {d b : ByteArray} (h : findC chs (queB name) = some (cqQ name x y d)) (hx : x < 999999) (hu : u ≤ 1000000) (hb : b.size ≤ 28) (hq : queueMay x y d) (hl : chs.length ≤ 10) : sendQ P chs rds name b u = ((x : Int), 0, insL (insL chs (cmQ name x 0 u b)) (cqQ name (x + 1) y d), rds) := by
  obtain ⟨e1, e2⟩ := findQ_some (P := P) (rds := rds) hn h hq
  have ht : timeMay (u : Int) = true := by unfold timeMay; rw [Bool.and_eq_true, decide_eq_true_eq, decide_eq_true_eq]; omega
  unfold sendQ
  rw [e1, e2, if_pos rfl, if_pos ht]
  dsimp only
  rw [add_may hn hx ⟨by omega, by omega, hb⟩ hq hl, if_pos rfl]
theorem first_nil {rds : Rws} (s : ByteArray × ByteArray) (h : rds.length < 40) : firstF [] rds s = 12 := by unfold firstF; rw [if_pos (readF_few _ h)]
theorem first_cons {rds : Rws} (r : ByteArray × ByteArray) (L : Rws) (s : ByteArray × ByteArray) (h : rds.length < 40) : firstF (r :: L) rds s = 0 ∧ firstR (r :: L) rds s = r := by
  unfold firstF firstR; rw [if_pos (readF_few _ h), if_pos (readF_few _ h)]; exact ⟨rfl, rfl⟩
section
variable {P : Rws} {name dead : ByteArray} {tries now until_ : Int} {k : Nat} {chs : List Chg} {rds : Rws} {at_ : ByteArray}
theorem take_end (h : seenP P chs (at_, toB name) = []) (hr : rds.length < 40) : ∃ rds', takeQ P name tries dead now until_ (k + 1) chs rds at_ = (noM 12, chs, rds') ∧ rds'.length ≤ rds.length + 1 := by
  rw [takeQ]
  dsimp only
  rw [h, first_nil _ hr, if_neg (by omega)]
  exact ⟨_, rfl, readL_le _ _⟩
variable {n t u : Nat} {b : ByteArray} {L : Rws}
theorem take_skip (h : seenP P chs (at_, toB name) = (msgB name n, joinB t u b) :: L) (hr : rds.length < 40) (hn : n ≤ 999999) (hm : messageMay t u b) (hu : now < u) : ∃ rds', takeQ P name tries dead now until_ (k + 1) chs rds at_ = takeQ P name tries dead now until_ k chs rds' (zeroS (msgB name n)) ∧ rds'.length ≤ rds.length + 1 := by
  rw [takeQ]
  dsimp only
  obtain ⟨e1, e2⟩ := first_cons (rds := rds) (msgB name n, joinB t u b) L (at_, toB name) hr
  rw [h, e1, if_pos rfl, e2]
  dsimp only
  rw [numK_msg name hn, mOf_join _ hm, if_pos rfl, if_pos hu]
  exact ⟨_, rfl, readL_le _ _⟩
theorem take_hit {v : Nat} (h : seenP P chs (at_, toB name) = (msgB name n, joinB t u b) :: L) (hr : rds.length < 40) (hn : n ≤ 999999) (hm : messageMay t u b) (hu : ¬ now < u) (ht : (t : Int) < tries) (hv : until_ = v) (hnm : nameL name.data.toList = true) (hm' : messageMay (t + 1) v b) (hl : (insL chs (cmQ name n (t + 1) v b)).length ≤ 12) :
    ∃ rds', takeQ P name tries dead now until_ (k + 1) chs rds at_ = (((n : Int), (t : Int) + 1, (v : Int), b, 0), insL chs (cmQ name n (t + 1) v b), rds') ∧ rds'.length ≤ rds.length + 1 := by
  rw [takeQ]
  dsimp only
  obtain ⟨e1, e2⟩ := first_cons (rds := rds) (msgB name n, joinB t u b) L (at_, toB name) hr
  obtain ⟨p1, p2⟩ := putM_may (chs := chs) hnm hn hm' hl
  have p1' : putMF chs name (n : Int) ((t : Int) + 1) (v : Int) b = 0 := p1
  have p2' : putML chs name (n : Int) ((t : Int) + 1) (v : Int) b = insL chs (cmQ name n (t + 1) v b) := p2
  rw [h, e1, if_pos rfl, e2]
  dsimp only
  rw [numK_msg name hn, mOf_join _ hm, if_pos rfl, if_neg hu, if_pos ht, hv]
  dsimp only
  rw [p1', p2']
  exact ⟨_, rfl, readL_le _ _⟩
theorem take_bury {chs' : List Chg} (h : seenP P chs (at_, toB name) = (msgB name n, joinB t u b) :: L) (hr : rds.length < 40) (hn : n ≤ 999999) (hm : messageMay t u b) (hu : ¬ now < u) (ht : ¬ (t : Int) < tries) (hb : ∀ rds : Rws, buryQ P chs rds (msgB name n) dead b = (0, chs', rds)) :
    ∃ rds', takeQ P name tries dead now until_ (k + 1) chs rds at_ = takeQ P name tries dead now until_ k chs' rds' (zeroS (msgB name n)) ∧ rds'.length ≤ rds.length + 1 := by
  rw [takeQ]
  dsimp only
  obtain ⟨e1, e2⟩ := first_cons (rds := rds) (msgB name n, joinB t u b) L (at_, toB name) hr
  rw [h, e1, if_pos rfl, e2]
  dsimp only
  rw [numK_msg name hn, mOf_join _ hm, if_pos rfl, if_neg hu, if_neg ht]
  dsimp only
  rw [hb, if_pos rfl]
  exact ⟨_, rfl, readL_le _ _⟩
theorem bury_none (hnm : nameL name.data.toList = true) (hd : nilS dead = true) (hl : (insL chs (cgQ name n)).length ≤ 12) (rds : Rws) : buryQ P chs rds (msgB name n) dead b = (0, insL chs (cgQ name n), rds) := by
  obtain ⟨e1, e2⟩ := alter_may (fault_gone hnm n) hl
  unfold buryQ
  rw [e1, e2, if_pos rfl, if_pos hd]
theorem bury_some {x y : Nat} {e : ByteArray} (hnm : nameL name.data.toList = true) (hd : nilS dead = false) (hdn : nameL dead.data.toList = true) (hf : findC (insL chs (cgQ name n)) (queB dead) = some (cqQ dead x y e)) (hx : x < 999999) (hq : queueMay x y e) (hb : b.size ≤ 28) (hl : (insL chs (cgQ name n)).length ≤ 10) (rds : Rws) :
    buryQ P chs rds (msgB name n) dead b = (0, insL (insL (insL chs (cgQ name n)) (cmQ dead x 0 0 b)) (cqQ dead (x + 1) y e), rds) := by
  obtain ⟨e1, e2⟩ := alter_may (l := chs) (fault_gone hnm n) (by omega)
  obtain ⟨f1, f2⟩ := findQ_some (P := P) (rds := rds) hdn hf hq
  have ha := add_may (chs := insL chs (cgQ name n)) hdn (x := x) (y := y) (u := 0) (d := e) (b := b) hx ⟨by omega, by omega, hb⟩ hq hl
  have ha' : addQ (insL chs (cgQ name n)) dead (x : Int) (y : Int) e b 0 = _ := ha
  unfold buryQ
  rw [e1, e2, if_pos rfl, if_neg (by rw [hd]; simp), f1, f2, if_pos rfl]
  dsimp only
  rw [ha']
theorem receive_ok {x y : Nat} {d : ByteArray} {long : Int} {m : Msg} {chs' : List Chg} {rds' : Rws} (hnm : nameL name.data.toList = true) (h : findC chs (queB name) = some (cqQ name x y d)) (hq : queueMay x y d) (h1 : timeMay now = true) (h2 : timeMay long = true) (ht : takeQ P name y d now (now + long) 1000001 chs rds (fromB name) = (m, chs', rds')) :
    receiveQ P chs rds name now long = if m.2.2.2.2 = 0 then (m, chs', rds') else (noM m.2.2.2.2, chs, rds') := by
  obtain ⟨f1, f2⟩ := findQ_some (P := P) (rds := rds) hnm h hq
  unfold receiveQ
  rw [f1, f2, if_pos rfl, if_pos ⟨h1, h2⟩]
  dsimp only
  rw [ht]
end
end Go.Proofs.YtighpalbodhfeaaGreatDoor

/-
  A queue and one message in a view of no rows: plain facts.
-/
namespace Go.Proofs.YtighpalbodhfeaaGreatDoor
open Go.RowKit Go.Joins

abbrev qB : ByteArray := ⟨#[113]⟩
abbrev eB : ByteArray := ⟨#[]⟩
theorem q_name : nameL qB.data.toList = true := by decide +kernel
theorem e_nil : nilS eB = true := by decide +kernel
theorem msg_que (a b : ByteArray) (n : Nat) : ltS (msgB a n) (queB b) = true ∧ ltS (queB b) (msgB a n) = false ∧ eqS (queB b) (msgB a n) = false := by
  unfold ltS eqS
  rw [Lib.toList_data, Lib.toList_data, msgB_l, queB_l]
  refine ⟨?_, ?_, ?_⟩
  · simp [Op.bytesLess]
  · simp [Op.bytesLess]
  · simp
theorem que_past (f a b : ByteArray) : hasS f (toB a) (queB b) = false := by
  have h1 : nilS (toB a) = false := by unfold nilS; rw [Lib.toList_data, toB_l]; rfl
  have h2 : ltS (queB b) (toB a) = false := by unfold ltS; rw [Lib.toList_data, Lib.toList_data, toB_l, queB_l]; simp [Op.bytesLess]
  unfold hasS
  rw [h1, h2]; simp
theorem msg_past {a : ByteArray} (n m : Nat) (hn : n ≤ 999999) (hm : m ≤ 999999) (ha : nameL a.data.toList = true) : hasS (zeroS (msgB a n)) (toB a) (msgB a m) = decide (n < m) := by
  have h := from_msg ha m
  unfold hasS at h ⊢
  rw [Bool.and_eq_true] at h
  rw [leS_zero, msg_lt a hn hm, h.2, Bool.and_true]
theorem may_empty {x y : Nat} (hx : x ≤ 999999) (h1 : 1 ≤ y) (h9 : y ≤ 9) : queueMay x y eB := ⟨hx, h1, h9, .inl (by decide +kernel)⟩
/-- a queue with one message -/
abbrev oneQ (t u : Nat) (b : ByteArray) (x y : Nat) : List Chg := [cmQ qB 0 t u b, cqQ qB x y eB]
/-- a queue whose one message is gone -/
abbrev goneQ (x y : Nat) : List Chg := [cgQ qB 0, cqQ qB x y eB]
theorem find_q (x y : Nat) : findC [cqQ qB x y eB] (queB qB) = some (cqQ qB x y eB) := by rw [findC_cons, ltS_irrefl, eqS_refl]; rfl
theorem find_one (t u : Nat) (b : ByteArray) (x y : Nat) : findC (oneQ t u b x y) (queB qB) = some (cqQ qB x y eB) := by
  rw [findC_cons, (msg_que qB qB 0).1, if_pos rfl]; exact find_q x y
theorem find_gone (x y : Nat) : findC (goneQ x y) (queB qB) = some (cqQ qB x y eB) := by
  rw [findC_cons, (msg_que qB qB 0).1, if_pos rfl]; exact find_q x y
theorem find_m (t u : Nat) (b : ByteArray) (x y : Nat) : findC (oneQ t u b x y) (msgB qB 0) = some (cmQ qB 0 t u b) := by rw [findC_cons, ltS_irrefl, eqS_refl]; rfl
theorem find_g (x y : Nat) : findC (goneQ x y) (msgB qB 0) = some (cgQ qB 0) := by rw [findC_cons, ltS_irrefl, eqS_refl]; rfl
theorem ins_send (b : ByteArray) (y : Nat) (u : Nat) : insL (insL [cqQ qB 0 y eB] (cmQ qB 0 0 u b)) (cqQ qB 1 y eB) = oneQ 0 u b 1 y := by
  obtain ⟨h1, h2, h3⟩ := msg_que qB qB 0
  simp only [insL, h1, h2, h3, ltS_irrefl, eqS_refl, Bool.false_eq_true, if_false, if_true]
theorem ins_one (t u t' u' : Nat) (b b' : ByteArray) (x y : Nat) : insL (oneQ t u b x y) (cmQ qB 0 t' u' b') = oneQ t' u' b' x y := by
  simp only [insL, ltS_irrefl, eqS_refl, Bool.false_eq_true, if_false, if_true]
theorem ins_gone (t u : Nat) (b : ByteArray) (x y : Nat) : insL (oneQ t u b x y) (cgQ qB 0) = goneQ x y := by
  simp only [insL, ltS_irrefl, eqS_refl, Bool.false_eq_true, if_false, if_true]
theorem one_rises (t u : Nat) (b : ByteArray) (x y : Nat) : rises (oneQ t u b x y) := List.pairwise_cons.2 ⟨fun c hc => by rw [List.mem_singleton.1 hc]; exact (msg_que qB qB 0).1, List.pairwise_singleton _ _⟩
theorem gone_rises (x y : Nat) : rises (goneQ x y) := List.pairwise_cons.2 ⟨fun c hc => by rw [List.mem_singleton.1 hc]; exact (msg_que qB qB 0).1, List.pairwise_singleton _ _⟩
theorem seen_one (t u : Nat) (b : ByteArray) (x y : Nat) : seenP [] (oneQ t u b x y) (fromB qB, toB qB) = [(msgB qB 0, joinB t u b)] := by
  rw [seen_none _ (one_rises ..)]
  unfold seenF
  simp only [List.filter_cons, List.filter_nil, from_msg q_name, que_past, Bool.not_false, Bool.and_true, if_true, Bool.false_eq_true, if_false, List.map_cons, List.map_nil]
theorem seen_past (t u : Nat) (b : ByteArray) (x y : Nat) : seenP [] (oneQ t u b x y) (zeroS (msgB qB 0), toB qB) = [] := by
  rw [seen_none _ (one_rises ..)]
  unfold seenF
  simp only [List.filter_cons, List.filter_nil, msg_past 0 0 (by omega) (by omega) q_name, que_past, Bool.false_and, Bool.false_eq_true, if_false, List.map_nil, Nat.lt_irrefl, decide_false]
theorem seen_gone (x y : Nat) : seenP [] (goneQ x y) (fromB qB, toB qB) = [] := by
  rw [seen_none _ (gone_rises ..)]
  unfold seenF
  simp only [List.filter_cons, List.filter_nil, que_past, Bool.not_true, Bool.and_false, Bool.false_and, Bool.false_eq_true, if_false, List.map_nil]
/-- what an act makes of every short list of reads -/
theorem create_one {rds : Rws} {y : Nat} (h : rds.length ≤ 30) (h1 : 1 ≤ y) (h9 : y ≤ 9) : ∃ rds', createQ [] [] rds qB y eB = (0, [cqQ qB 0 y eB], rds') ∧ rds'.length ≤ rds.length + 1 :=
  create_may (chs := []) q_name (findC_nil _) (by omega) (.inl e_nil) (may_empty (by omega) h1 h9) (by simp [insL])
theorem send_one {rds : Rws} {y : Nat} {b : ByteArray} (h1 : 1 ≤ y) (h9 : y ≤ 9) (hb : b.size ≤ 28) : sendQ [] [cqQ qB 0 y eB] rds qB b 0 = (0, 0, oneQ 0 0 b 1 y, rds) := by
  have e := send_may (P := []) (rds := rds) (u := 0) q_name (find_q 0 y) (by omega) (by omega) hb (may_empty (by omega) h1 h9) (by simp)
  rw [ins_send] at e
  exact e
theorem time_nat {n : Nat} (h : n ≤ 1000000) : timeMay (n : Int) = true := by unfold timeMay; rw [Bool.and_eq_true, decide_eq_true_eq, decide_eq_true_eq]; omega
theorem recv_hit {rds : Rws} {t u x y now long : Nat} {b : ByteArray} (h : rds.length ≤ 30) (hx : x ≤ 999999) (h1 : 1 ≤ y) (h9 : y ≤ 9) (hb : b.size ≤ 28) (ht : t < y) (hu : u ≤ now) (hn : now ≤ 1000000) (hl : long ≤ 1000000) (hu2 : u ≤ 2000000) :
    ∃ rds', receiveQ [] (oneQ t u b x y) rds qB now long = ((0, (t : Int) + 1, (now : Int) + (long : Int), b, 0), oneQ (t + 1) (now + long) b x y, rds') ∧ rds'.length ≤ rds.length + 1 := by
  obtain ⟨rds', e, l⟩ := take_hit (P := []) (dead := eB) (k := 1000000) (v := now + long) (until_ := (now : Int) + (long : Int)) (tries := y) (now := now) (seen_one t u b x y) (by omega : rds.length < 40) (by omega) ⟨by omega, hu2, hb⟩ (by omega) (by omega) rfl q_name ⟨by omega, by omega, hb⟩ (by rw [ins_one]; simp)
  rw [ins_one] at e
  refine ⟨rds', ?_, l⟩
  rw [receive_ok q_name (find_one t u b x y) (may_empty hx h1 h9) (time_nat hn) (time_nat hl) e]
  rfl
theorem recv_wait {rds : Rws} {t u x y now long : Nat} {b : ByteArray} (h : rds.length ≤ 30) (hx : x ≤ 999999) (h1 : 1 ≤ y) (h9 : y ≤ 9) (hb : b.size ≤ 28) (ht : t ≤ 9) (hu : now < u) (hn : now ≤ 1000000) (hl : long ≤ 1000000) (hu2 : u ≤ 2000000) :
    ∃ rds', receiveQ [] (oneQ t u b x y) rds qB now long = (noM 12, oneQ t u b x y, rds') ∧ rds'.length ≤ rds.length + 2 := by
  obtain ⟨rds1, e1, l1⟩ := take_skip (P := []) (dead := eB) (k := 1000000) (until_ := (now : Int) + (long : Int)) (tries := y) (now := now) (seen_one t u b x y) (by omega : rds.length < 40) (by omega) ⟨ht, hu2, hb⟩ (by omega)
  obtain ⟨rds2, e2, l2⟩ := take_end (P := []) (name := qB) (dead := eB) (k := 999999) (until_ := (now : Int) + (long : Int)) (tries := y) (now := now) (seen_past t u b x y) (by omega : rds1.length < 40)
  refine ⟨rds2, ?_, by omega⟩
  rw [receive_ok q_name (find_one t u b x y) (may_empty hx h1 h9) (time_nat hn) (time_nat hl) (e1.trans e2)]
  rfl
theorem recv_none {rds : Rws} {x y now long : Nat} (h : rds.length ≤ 30) (hx : x ≤ 999999) (h1 : 1 ≤ y) (h9 : y ≤ 9) (hn : now ≤ 1000000) (hl : long ≤ 1000000) :
    ∃ rds', receiveQ [] (goneQ x y) rds qB now long = (noM 12, goneQ x y, rds') ∧ rds'.length ≤ rds.length + 1 := by
  obtain ⟨rds2, e2, l2⟩ := take_end (P := []) (name := qB) (dead := eB) (k := 1000000) (until_ := (now : Int) + (long : Int)) (tries := y) (now := now) (seen_gone x y) (by omega : rds.length < 40)
  refine ⟨rds2, ?_, l2⟩
  rw [receive_ok q_name (find_gone x y) (may_empty hx h1 h9) (time_nat hn) (time_nat hl) e2]
  rfl
theorem held_one {rds : Rws} {t u x y : Nat} {b : ByteArray} (hx : x ≤ 999999) (h1 : 1 ≤ y) (h9 : y ≤ 9) (hm : messageMay t u b) (tries : Nat) (ht : 1 ≤ tries) : heldQ [] (oneQ t u b x y) rds qB 0 tries = (if t = tries then (0, (t : Int), (u : Int), b, 0) else noM 11, rds) := by
  obtain ⟨f1, f2⟩ := findQ_some (P := []) (rds := rds) q_name (find_one t u b x y) (may_empty hx h1 h9)
  obtain ⟨g1, g2⟩ := getP_some (rds := rds) (P := []) (key_msg q_name 0) (find_m t u b x y)
  have en : numOf 0 = 0 := rfl
  unfold heldQ
  rw [f1, f2, if_pos rfl, if_neg (by omega), en, g1, g2]
  unfold heldT
  dsimp only
  rw [if_pos rfl, if_pos (show (!false) = true from rfl), mOf_join 0 hm, if_pos rfl]
  by_cases e : t = tries
  · rw [if_pos (by dsimp only; omega), if_pos e]
  · rw [if_neg (by dsimp only; omega), if_neg e]
theorem ack_one {rds : Rws} {t u x y : Nat} {b : ByteArray} (hx : x ≤ 999999) (h1 : 1 ≤ y) (h9 : y ≤ 9) (hm : messageMay t u b) (ht : 1 ≤ t) : ackQ [] (oneQ t u b x y) rds qB 0 t = (0, goneQ x y, rds) := by
  have en : numOf 0 = 0 := rfl
  obtain ⟨e1, e2⟩ := alter_may (l := oneQ t u b x y) (fault_gone q_name 0) (by rw [ins_gone]; simp)
  unfold ackQ
  rw [held_one hx h1 h9 hm t ht, if_pos rfl, if_pos rfl, en, e1, e2, ins_gone]
theorem ack_late {rds : Rws} {t u x y : Nat} {b : ByteArray} (hx : x ≤ 999999) (h1 : 1 ≤ y) (h9 : y ≤ 9) (hm : messageMay t u b) (tries : Nat) (ht : 1 ≤ tries) (hne : t ≠ tries) : ackQ [] (oneQ t u b x y) rds qB 0 tries = (11, oneQ t u b x y, rds) := by
  unfold ackQ
  rw [held_one hx h1 h9 hm tries ht, if_neg hne, if_neg (by simp)]
theorem ack_gone {rds : Rws} {x y : Nat} (hx : x ≤ 999999) (h1 : 1 ≤ y) (h9 : y ≤ 9) (tries : Nat) (ht : 1 ≤ tries) : ackQ [] (goneQ x y) rds qB 0 tries = (11, goneQ x y, rds) := by
  obtain ⟨f1, f2⟩ := findQ_some (P := []) (rds := rds) q_name (find_gone x y) (may_empty hx h1 h9)
  obtain ⟨g1, g2⟩ := getP_some (rds := rds) (P := []) (key_msg q_name 0) (find_g x y)
  have en : numOf 0 = 0 := rfl
  have e : heldQ [] (goneQ x y) rds qB 0 tries = (noM 11, rds) := by
    unfold heldQ
    rw [f1, f2, if_pos rfl, if_neg (by omega), en, g1, g2]
    rfl
  unfold ackQ
  rw [e, if_neg (by simp)]
theorem wait_one {rds : Rws} {t u v x y : Nat} {b : ByteArray} (hx : x ≤ 999999) (h1 : 1 ≤ y) (h9 : y ≤ 9) (hm : messageMay t u b) (ht : 1 ≤ t) (hv : v ≤ 1000000) : waitQ [] (oneQ t u b x y) rds qB 0 t v = (0, oneQ t v b x y, rds) := by
  obtain ⟨p1, p2⟩ := putM_may (chs := oneQ t u b x y) q_name (k := 0) (t := t) (u := v) (b := b) (by omega) ⟨hm.1, by omega, hm.2.2⟩ (by rw [ins_one]; simp)
  have p1' : putMF (oneQ t u b x y) qB 0 (t : Int) (v : Int) b = 0 := p1
  have p2' : putML (oneQ t u b x y) qB 0 (t : Int) (v : Int) b = _ := p2
  unfold waitQ
  rw [held_one hx h1 h9 hm t ht, if_pos rfl, if_pos rfl, if_pos (time_nat hv)]
  dsimp only
  rw [p1', p2', ins_one]
end Go.Proofs.YtighpalbodhfeaaGreatDoor

/-
  Laws over queues in a view of no rows: what the acts come to, and what haywaintop.waits and haywaintop.number return.
-/
namespace Go.Proofs.YtighpalbodhfeaaGreatDoor
open Go.RowKit Go.Joins Go.Shelf
attribute [local go_sem ↓] Go.wp_at_zero Go.wp_at_succ

/-- a view of no rows in a world behind w, with some changes, and so many reads at most -/
def LQ (w W : World) (wb : Nat) (chs : List Chg) (n : Nat) : Prop := ∃ B S rds, QV W B wb S [] 0 chs rds ∧ rds.length ≤ n ∧ w.heap.size ≤ B ∧ Below w.heap.size w W
section
variable {w W W' : World} {wb : Nat} {chs chs' : List Chg} {n n' : Nat}
theorem LQ.bel (h : LQ w W wb chs n) : Below w.heap.size w W := by obtain ⟨_, _, _, _, _, _, h⟩ := h; exact h
theorem LQ.on (h : LQ w W wb chs n) (hb : Below W.heap.size W W') : LQ w W' wb chs n := by
  obtain ⟨B, S, rds, hq, hl, hB, hw⟩ := h
  exact ⟨B, S, rds, hq.on hb, hl, hB, hw.trans (hb.mono hw.size)⟩
theorem LQ.more (h : LQ w W wb chs n) (hn : n ≤ n') : LQ w W wb chs n' := by
  obtain ⟨B, S, rds, hq, hl, hB, hw⟩ := h
  exact ⟨B, S, rds, hq, by omega, hB, hw⟩
theorem lq_to {B : Nat} {S : Nat → Prop} {rds' : Rws} (hw : Below w.heap.size w W) (hB : w.heap.size ≤ B) (ha : ActQ W W' B wb S [] 0 chs' rds') (hl : rds'.length ≤ n') : LQ w W' wb chs' n' := by
  obtain ⟨S', hq, hs⟩ := ha
  exact ⟨B, S', rds', hq, hl, hB, hw.trans (hs.bel.mono hB)⟩
theorem lq_make {w1 w2 : World} {vb mb : Nat} {D : DataW Value} {g : ByteArray → Value} (hL : Laid w) (hw : Below w.heap.size w W) (hb1 : Below W.heap.size W w1) (hv : VS w1 W.heap.size vb mb 0 0 D g (initR [])) (hw2 : VW w2 w1.heap.size wb vb 0 (.slice none 0 0) (.slice none 0 0) [] []) (hb2 : Below w1.heap.size w1 w2) : LQ w w2 wb [] 0 := by
  obtain ⟨S, hp, _⟩ := pv_make (rows := []) hv hw2 hb2 hb1.size List.Pairwise.nil (by simp) (by simp)
  have hw1 : Below w.heap.size w w1 := hw.trans (hb1.mono hw.size)
  have hw3 : Below w.heap.size w w2 := hw1.trans (hb2.mono hw1.size)
  exact ⟨w1.heap.size, S, [], ⟨hp, ⟨by simp, by simp⟩, fun W' hW' => laid_on hL (hw3.trans (hW'.mono hw1.size))⟩, by simp, hw1.size, hw3⟩
theorem lq_create {f : Nat} {name dead : ByteArray} {tries : Int} (h : LQ w W wb chs n) (hn : name.size ≤ 1000) (hd : dead.size ≤ 1000) (hp : ∀ rds : Rws, rds.length ≤ n → ∃ rds', createQ [] chs rds name tries dead = (f, chs', rds') ∧ rds'.length ≤ n') :
    Calls Tryz.prog 11 #[.pointer (some ⟨wb, 0, none⟩), .string name, .int .i64 tries, .string dead] W fun e W' => e = .returned (errV f) ∧ LQ w W' wb chs' n' := by
  obtain ⟨B, S, rds, hq, hl, hB, hw⟩ := h
  obtain ⟨rds', e, hl'⟩ := hp rds hl
  refine (qcreate_any name tries dead W hq hn hd).mono fun _ _ ⟨he, ha⟩ => ?_
  rw [e] at he ha
  exact ⟨he, lq_to hw hB ha hl'⟩
theorem lq_send {f : Nat} {k : Int} {name body : ByteArray} {until_ : Int} (h : LQ w W wb chs n) (hn : name.size ≤ 1000) (hp : ∀ rds : Rws, rds.length ≤ n → ∃ rds', sendQ [] chs rds name body until_ = (k, f, chs', rds') ∧ rds'.length ≤ n') :
    Calls Tryz.prog 12 #[.pointer (some ⟨wb, 0, none⟩), .string name, .string body, .int .i64 until_] W fun e W' => e = .returned (.tuple #[.int .i64 k, errV f]) ∧ LQ w W' wb chs' n' := by
  obtain ⟨B, S, rds, hq, hl, hB, hw⟩ := h
  obtain ⟨rds', e, hl'⟩ := hp rds hl
  refine (qsend_any name body until_ W hq hn).mono fun _ _ ⟨he, ha⟩ => ?_
  rw [e] at he ha
  exact ⟨he, lq_to hw hB ha hl'⟩
theorem lq_receive {m : Msg} {name : ByteArray} {now long : Int} (h : LQ w W wb chs n) (hn : name.size ≤ 1000) (hp : ∀ rds : Rws, rds.length ≤ n → ∃ rds', receiveQ [] chs rds name now long = (m, chs', rds') ∧ rds'.length ≤ n') :
    Calls Tryz.prog 13 #[.pointer (some ⟨wb, 0, none⟩), .string name, .int .i64 now, .int .i64 long] W fun e W' => e = .returned (.tuple #[mV m, errV m.2.2.2.2]) ∧ LQ w W' wb chs' n' := by
  obtain ⟨B, S, rds, hq, hl, hB, hw⟩ := h
  obtain ⟨rds', e, hl'⟩ := hp rds hl
  refine (qreceive_any name now long W hq hn).mono fun _ _ ⟨he, ha⟩ => ?_
  rw [e] at he ha
  exact ⟨he, lq_to hw hB ha hl'⟩
theorem lq_ack {f : Nat} {name : ByteArray} {k tries : Int} (h : LQ w W wb chs n) (hn : name.size ≤ 1000) (hk0 : -9223372036854775808 ≤ k) (hk1 : k ≤ 9223372036854775807) (hp : ∀ rds : Rws, rds.length ≤ n → ∃ rds', ackQ [] chs rds name k tries = (f, chs', rds') ∧ rds'.length ≤ n') :
    Calls Tryz.prog 22 #[.pointer (some ⟨wb, 0, none⟩), .string name, .int .i64 k, .int .i64 tries] W fun e W' => e = .returned (errV f) ∧ LQ w W' wb chs' n' := by
  obtain ⟨B, S, rds, hq, hl, hB, hw⟩ := h
  obtain ⟨rds', e, hl'⟩ := hp rds hl
  refine (qack_any name k tries W hq hn hk0 hk1).mono fun _ _ ⟨he, ha⟩ => ?_
  rw [e] at he ha
  exact ⟨he, lq_to hw hB ha hl'⟩
theorem lq_wait {f : Nat} {name : ByteArray} {k tries until_ : Int} (h : LQ w W wb chs n) (hn : name.size ≤ 1000) (hk0 : -9223372036854775808 ≤ k) (hk1 : k ≤ 9223372036854775807) (hp : ∀ rds : Rws, rds.length ≤ n → ∃ rds', waitQ [] chs rds name k tries until_ = (f, chs', rds') ∧ rds'.length ≤ n') :
    Calls Tryz.prog 24 #[.pointer (some ⟨wb, 0, none⟩), .string name, .int .i64 k, .int .i64 tries, .int .i64 until_] W fun e W' => e = .returned (errV f) ∧ LQ w W' wb chs' n' := by
  obtain ⟨B, S, rds, hq, hl, hB, hw⟩ := h
  obtain ⟨rds', e, hl'⟩ := hp rds hl
  refine (qwait_any name k tries until_ W hq hn hk0 hk1).mono fun _ _ ⟨he, ha⟩ => ?_
  rw [e] at he ha
  exact ⟨he, lq_to hw hB ha hl'⟩
theorem lq_messages {l : List Msg} {name : ByteArray} (h : LQ w W wb chs n) (hn : name.size ≤ 1000) (hp : ∀ rds : Rws, rds.length ≤ n → ∃ rds', messagesQ [] chs rds name = (0, l, rds') ∧ rds'.length ≤ n') :
    Calls Tryz.prog 36 #[.pointer (some ⟨wb, 0, none⟩), .string name] W fun e W' => ∃ v, e = .returned (.tuple #[v, .nilIface]) ∧ (ownM W' W.heap.size v l ∧ LQ w W' wb chs n') := by
  obtain ⟨B, S, rds, hq, hl, hB, hw⟩ := h
  obtain ⟨rds', e, hl'⟩ := hp rds hl
  refine (qmessages_any name W hq hn).mono fun _ _ he => ?_
  rw [e] at he
  obtain ⟨v, hv, S', ho, hq', hs', _⟩ := he.1 rfl
  exact ⟨v, hv, ho, lq_to hw hB ⟨S', hq', hs'⟩ hl'⟩
end
theorem nil_eql_nil (W : World) : (binOp .eql 43 .nilIface .nilIface).run Tryz.prog W = .ok (.bool true) W := by kernel_rfl
theorem err_eql_nil (u : TypeId) (v : Value) (W : World) : (binOp .eql 43 (.iface u v) .nilIface).run Tryz.prog W = .ok (.bool false) W := by kernel_rfl
theorem msgs_one {rds : Rws} {t u x y : Nat} {b : ByteArray} (h : rds.length ≤ 30) (hx : x ≤ 999999) (h1 : 1 ≤ y) (h9 : y ≤ 9) (hm : messageMay t u b) : ∃ rds', messagesQ [] (oneQ t u b x y) rds qB = (0, [(0, (t : Int), (u : Int), b, 0)], rds') ∧ rds'.length ≤ rds.length + 1 := by
  obtain ⟨f1, f2⟩ := findQ_some (P := []) (rds := rds) q_name (find_one t u b x y) (may_empty hx h1 h9)
  have hs : scanF (seenP [] (oneQ t u b x y) (fromB qB, toB qB)) rds (fromB qB, toB qB) 53 = 0 := (if_neg (by omega)).trans (readF_few _ (by omega))
  have hl : (scanL (seenP [] (oneQ t u b x y) (fromB qB, toB qB)) rds (fromB qB, toB qB) 53).length ≤ rds.length + 1 := by unfold scanL; rw [if_neg (by omega)]; exact readL_le _ _
  have hk : numK (msgB qB 0) = 0 := numK_msg qB (n := 0) (by omega)
  have ht : ([(msgB qB 0, joinB t u b)] : Rws).take 53 = [(msgB qB 0, joinB t u b)] := rfl
  have hf : msgsF [(msgB qB 0, joinB t u b)] = 0 := by
    unfold msgsF
    rw [hk, mOf_join 0 hm]; rfl
  have hg : msgsL [(msgB qB 0, joinB t u b)] = [(0, (t : Int), (u : Int), b, 0)] := by
    unfold msgsL
    rw [List.map_cons, hk, mOf_join 0 hm]; rfl
  unfold messagesQ
  rw [f1, f2, if_pos rfl, if_pos hs, seen_one, ht, if_pos hf, hg]
  rw [seen_one] at hl
  exact ⟨_, rfl, hl⟩
end Go.Proofs.YtighpalbodhfeaaGreatDoor

/-
  What haywainlaw.lines returns: true.
-/
namespace Go.Proofs.YtighpalbodhfeaaGreatDoor
open Go.RowKit Go.Joins Go.Shelf
attribute [local go_sem ↓] Go.wp_at_zero Go.wp_at_succ

abbrev hayB : ByteArray := ⟨#[104, 97, 121]⟩
set_option maxRecDepth 8000 in
set_option maxHeartbeats 4000000 in
theorem lines_any (w : World) (hL : Laid w) : Calls Tryz.prog 4 #[] w fun e w' => e = .returned (.bool true) ∧ Below w.heap.size w w' := by
  have n0 := nil_eql_nil
  have n1 := nil_neq_nil
  have HL := hide hL
  have ebb : (hayB.toList == hayB.toList) = true := by simp
  clear hL
  go_enter Tryz.func4, Tryz.ntmps4
  go_wp2_with (fail)
  (go_at_call 8; refine (new_any [] none 0 _ (.inl rfl) (by decide) (by simp)).mono ?_; rintro e w2 ⟨vb, rfl, hb2, mb, D, g, hv⟩; have HV := hide hv; have HB2 := hide hb2; clear hv hb2)
  go_wp2_with (fail)
  (go_at_call 7; refine (view_new _ HV.out).mono ?_; rintro e w3 ⟨wb, rfl, hw3, hb3⟩; have H0 := hide (lq_make HL.out (Below.refl _ _) HB2.out HV.out hw3 hb3); clear hw3 hb3 HV HB2)
  go_wp2_with (fail)
  (go_at_call 11; refine (lq_create (f := 0) (n' := 1) (chs' := [cqQ qB 0 2 eB]) H0.out (by decide) (by decide) (fun rds hr => by obtain ⟨r, e, l⟩ := create_one (rds := rds) (y := 2) (by omega) (by omega) (by omega); exact ⟨r, e, by omega⟩)).mono ?_; rintro e wC ⟨rfl, hC⟩; have H1 := hide hC; clear hC; rw [errV_zero])
  go_wp2_with (fail)
  (go_at_call 12; refine (lq_send (f := 0) (n' := 1) (k := 0) (chs' := oneQ 0 0 hayB 1 2) H1.out (by decide) (fun rds hr => ⟨rds, send_one (by omega) (by omega) (by decide), hr⟩)).mono ?_; rintro e wS ⟨rfl, hS⟩; have H2 := hide hS; clear hS; rw [errV_zero])
  go_wp2_with (fail)
  (go_at_call 13; refine (lq_receive (n' := 2) (m := (0, 1, 15, hayB, 0)) (chs' := oneQ 1 (5 + 10) hayB 1 2) (now := ((5 : Nat) : Int)) (long := ((10 : Nat) : Int)) H2.out (by decide) (fun rds hr => by obtain ⟨r, e, l⟩ := recv_hit (rds := rds) (t := 0) (u := 0) (x := 1) (y := 2) (now := 5) (long := 10) (b := hayB) (by omega) (by omega) (by omega) (by omega) (by decide) (by omega) (by omega) (by omega) (by omega) (by omega); exact ⟨r, e, by omega⟩)).mono ?_; rintro e wR ⟨rfl, hR⟩; have H3 := hide (hR.on (below_alloc1 wR (Obj.cells #[Value.int .i64 0, Value.int .i64 1, Value.int .i64 15, Value.string hayB] 48))); clear hR; dsimp only; rw [errV_zero])
  go_wp2_with (fail)
  (go_at_call 14; refine (same_nil 0 _).mono ?_; rintro e w8 ⟨rfl, rfl⟩)
  go_wp2_with (fail)
  (go_at_call 14; refine (same_nil 0 _).mono ?_; rintro e w8 ⟨rfl, rfl⟩)
  go_wp2_with (fail)
  go_ret
  exact ⟨rfl, H3.out.bel⟩
end Go.Proofs.YtighpalbodhfeaaGreatDoor
