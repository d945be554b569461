/-
  A view and the store beneath it, taken together: what its acts make of it, told by lists alone, and what they leave alone.
-/
import Derived.Test.YtpbhcjkllfonhaaGreatViewLay
import Derived.Test.YtpbhcjkllfonhaaGreatViewScan
import Derived.Test.YtpbhcjkllfonhaaGreatViewPut
import Derived.Test.YtpbhcjkllfonhaaGreatSpOn
namespace Go.Proofs.YtpbhcjkllfonhaaGreat
open Go.RowKit Go.Joins Go.Shelf
attribute [local go_sem ↓] Go.wp_at_zero Go.wp_at_succ

abbrev Rws := List (ByteArray × ByteArray)
structure OkV (P : Rws) (chs : List Chg) (rds : Rws) : Prop where
  rise : riseP P
  len : P.length ≤ 50
  keys : ∀ r ∈ P, r.1.size ≤ 60
  cn : chs.length ≤ 12
  ck : ∀ c ∈ chs, c.key.size ≤ 60
  cr : rises chs
  rn : rds.length ≤ 40
/-- a view of rows P, since a deed, with its changes and what it has read; S: its blocks and the store's -/
def PV (w : World) (B wb : Nat) (S : Nat → Prop) (P : Rws) (since : Int) (chs : List Chg) (rds : Rws) : Prop :=
  ∃ (B0 vb mb n : Nat) (now : Int) (D : DataW Value) (g : ByteArray → Value) (R : ByteArray → List Ver) (cv rv : Value), VS w B0 vb mb now n D g R ∧ VW w B wb vb since cv rv chs rds ∧ (S = fun k => inVW wb cv rv k ∨ inVS vb mb g k) ∧ (∀ k, inVS vb mb g k → ¬ inVW wb cv rv k) ∧ sayR R since P ∧ n ≤ 1000000 ∧ (∀ key, (R key).length ≤ 1000000) ∧ OkV P chs rds ∧ B ≤ w.heap.size
/-- all else is left alone -/
structure StepV (w w' : World) (B : Nat) (S S' : Nat → Prop) : Prop where
  bel : Below B w w'
  far : ∀ j, j < w.heap.size → ¬ S j → w'.heap[j]? = w.heap[j]? ∧ ¬ S' j
theorem StepV.trans {w w1 w2 : World} {B : Nat} {S S1 S2 : Nat → Prop} (h : StepV w w1 B S S1) (h' : StepV w1 w2 B S1 S2) : StepV w w2 B S S2 :=
  ⟨h.bel.trans h'.bel, fun j hj hn => by
    obtain ⟨a, b⟩ := h.far j hj hn
    obtain ⟨c, d⟩ := h'.far j (Nat.lt_of_lt_of_le hj h.bel.size) b
    exact ⟨c.trans a, d⟩⟩
theorem StepV.on {w w' : World} {B : Nat} {S : Nat → Prop} (hB : B ≤ w.heap.size) (hb : Below w.heap.size w w') : StepV w w' B S S := ⟨hb.mono hB, fun j hj hn => ⟨hb.block j hj, hn⟩⟩
theorem StepV.refl {w : World} {B : Nat} {S : Nat → Prop} (hB : B ≤ w.heap.size) : StepV w w B S S := .on hB (Below.refl _ _)
theorem PV.kept {w w' : World} {B wb : Nat} {S : Nat → Prop} {P : Rws} {since : Int} {chs : List Chg} {rds : Rws} (h : PV w B wb S P since chs rds) (hs : w.heap.size ≤ w'.heap.size) (hk : ∀ k, S k → w'.heap[k]? = w.heap[k]?) : PV w' B wb S P since chs rds := by
  obtain ⟨B0, vb, mb, n, now, D, g, R, cv, rv, h1, h2, rfl, h4, h5, h6, h7, h8, h9⟩ := h
  exact ⟨B0, vb, mb, n, now, D, g, R, cv, rv, h1.kept fun k e => hk k (.inr e), h2.kept fun k e => hk k (.inl e), rfl, h4, h5, h6, h7, h8, Nat.le_trans h9 hs⟩
theorem PV.lt {w : World} {B wb : Nat} {S : Nat → Prop} {P : Rws} {since : Int} {chs : List Chg} {rds : Rws} (h : PV w B wb S P since chs rds) {k : Nat} (hk : S k) : k < w.heap.size := by
  obtain ⟨B0, vb, mb, n, now, D, g, R, cv, rv, h1, h2, rfl, h4, h5, h6, h7, h8, h9⟩ := h
  exact hk.elim (fun e => h2.lt e) fun e => h1.lt e
theorem PV.on {w w' : World} {B wb : Nat} {S : Nat → Prop} {P : Rws} {since : Int} {chs : List Chg} {rds : Rws} (h : PV w B wb S P since chs rds) (hb : Below w.heap.size w w') : PV w' B wb S P since chs rds :=
  h.kept hb.size fun k hk => hb.block k (h.lt hk)
theorem PV.ok {w : World} {B wb : Nat} {S : Nat → Prop} {P : Rws} {since : Int} {chs : List Chg} {rds : Rws} (h : PV w B wb S P since chs rds) : OkV P chs rds := by
  obtain ⟨B0, vb, mb, n, now, D, g, R, cv, rv, h1, h2, rfl, h4, h5, h6, h7, h8, h9⟩ := h
  exact h8
theorem PV.lo {w : World} {B wb : Nat} {S : Nat → Prop} {P : Rws} {since : Int} {chs : List Chg} {rds : Rws} (h : PV w B wb S P since chs rds) : B ≤ w.heap.size := by
  obtain ⟨B0, vb, mb, n, now, D, g, R, cv, rv, h1, h2, rfl, h4, h5, h6, h7, h8, h9⟩ := h
  exact h9
/-- a step of the view's own -/
theorem step_far {w w' : World} {B B0 wb vb mb n : Nat} {now since : Int} {D : DataW Value} {g : ByteArray → Value} {R : ByteArray → List Ver} {cv rv cv' rv' : Value} {P : Rws} {chs : List Chg} {rds : Rws} (h1 : VS w B0 vb mb now n D g R) (h4 : ∀ k, inVS vb mb g k → ¬ inVW wb cv rv k) (h5 : sayR R since P) (h6 : n ≤ 1000000) (h7 : ∀ key, (R key).length ≤ 1000000) (h9 : B ≤ w.heap.size)
    (hw : VW w' B wb vb since cv' rv' chs rds) (hb : Below B w w') (hf : farW w w' wb cv rv cv' rv') (ok : OkV P chs rds) :
    PV w' B wb (fun k => inVW wb cv' rv' k ∨ inVS vb mb g k) P since chs rds ∧ StepV w w' B (fun k => inVW wb cv rv k ∨ inVS vb mb g k) (fun k => inVW wb cv' rv' k ∨ inVS vb mb g k) := by
  obtain ⟨a, b⟩ := VS_farW h1 hf h4
  refine ⟨⟨B0, vb, mb, n, now, D, g, R, cv', rv', a, hw, rfl, b, h5, h6, h7, ok, Nat.le_trans h9 hb.size⟩, hb, fun j hj hn => ?_⟩
  obtain ⟨c, d⟩ := hf j hj fun e => hn (.inl e)
  exact ⟨c, fun e => e.elim d fun e => hn (.inr e)⟩
/-- behind an act of a view -/
def ActV (w w' : World) (B wb : Nat) (S : Nat → Prop) (P : Rws) (since : Int) (chs : List Chg) (rds : Rws) : Prop := ∃ S', PV w' B wb S' P since chs rds ∧ StepV w w' B S S'
theorem alter_ok {P : Rws} {chs : List Chg} {rds : Rws} {c : Chg} (h : OkV P chs rds) (hc : chgFault c = 0 → c.key.size ≤ 60) : OkV P (alterL chs c) rds := by
  unfold alterL
  split
  · rename_i hf
    have hf0 : chgFault c = 0 := by
      unfold alterF at hf
      split at hf
      · assumption
      · rename_i h'; exact absurd hf h'
    have hl : ¬ 12 < (insL chs c).length := by
      intro hl
      unfold alterF at hf
      rw [if_pos hf0, if_pos hl] at hf
      cases hf
    exact { h with cn := by omega, cr := ins_rises c h.cr, ck := fun x hx => (ins_mem hx).elim (fun e => by rw [e]; exact hc hf0) (h.ck x) }
  · exact h
theorem readL_len {l : Rws} {s : ByteArray × ByteArray} (h : l.length ≤ 40) : (readL l s).length ≤ 40 := by
  unfold readL
  split
  · exact h
  · split
    · exact h
    · rw [List.length_append, List.length_singleton]; omega
theorem pv_put (key val : ByteArray) {B wb : Nat} {S : Nat → Prop} {P : Rws} {since : Int} {chs : List Chg} {rds : Rws} (w : World) (h : PV w B wb S P since chs rds) (hk : key.size ≤ maxLen) (hf : chgFault ⟨key, val, false⟩ = 0 → key.size ≤ 60) :
    Calls Tryz.prog 11 #[.pointer (some ⟨wb, 0, none⟩), .string key, .string val] w fun e w' => e = .returned (errV (alterF chs ⟨key, val, false⟩)) ∧ ActV w w' B wb S P since (alterL chs ⟨key, val, false⟩) rds := by
  obtain ⟨B0, vb, mb, n, now, D, g, R, cv, rv, h1, h2, rfl, h4, h5, h6, h7, h8, h9⟩ := h
  refine (vput_any key val w h2 h9 (by have := h8.cn; omega) hk).mono ?_
  rintro e w' ⟨rfl, cv', hw, hb, hfar⟩
  exact ⟨rfl, _, step_far h1 h4 h5 h6 h7 h9 hw hb hfar (alter_ok h8 hf)⟩
theorem pv_delete (key : ByteArray) {B wb : Nat} {S : Nat → Prop} {P : Rws} {since : Int} {chs : List Chg} {rds : Rws} (w : World) (h : PV w B wb S P since chs rds) (hk : key.size ≤ maxLen) (hf : chgFault ⟨key, ⟨#[]⟩, true⟩ = 0 → key.size ≤ 60) :
    Calls Tryz.prog 13 #[.pointer (some ⟨wb, 0, none⟩), .string key] w fun e w' => e = .returned (errV (alterF chs ⟨key, ⟨#[]⟩, true⟩)) ∧ ActV w w' B wb S P since (alterL chs ⟨key, ⟨#[]⟩, true⟩) rds := by
  obtain ⟨B0, vb, mb, n, now, D, g, R, cv, rv, h1, h2, rfl, h4, h5, h6, h7, h8, h9⟩ := h
  refine (vdelete_any key w h2 h9 (by have := h8.cn; omega) hk).mono ?_
  rintro e w' ⟨rfl, cv', hw, hb, hfar⟩
  exact ⟨rfl, _, step_far h1 h4 h5 h6 h7 h9 hw hb hfar (alter_ok h8 hf)⟩
theorem pv_back {B2 : Nat} {mv : Value} {mk : List Chg} {B wb : Nat} {S : Nat → Prop} {P : Rws} {since : Int} {chs : List Chg} {rds : Rws} (w : World) (h : PV w B wb S P since chs rds) (hm : ownCh w B2 mv mk) (hn : mk.length ≤ 12) (hk : ∀ c ∈ mk, c.key.size ≤ 60) (hr : rises mk) :
    Calls Tryz.prog 17 #[.pointer (some ⟨wb, 0, none⟩), mv] w fun e w' => e = .returned (.tuple #[]) ∧ ActV w w' B wb S P since mk rds := by
  obtain ⟨B0, vb, mb, n, now, D, g, R, cv, rv, h1, h2, rfl, h4, h5, h6, h7, h8, h9⟩ := h
  refine (back_any w h2 h9 hm (by omega)).mono ?_
  rintro e w' ⟨rfl, cv', hw, hb, hfar⟩
  exact ⟨rfl, _, step_far h1 h4 h5 h6 h7 h9 hw hb hfar { h8 with cn := hn, ck := hk, cr := hr }⟩
theorem pv_mark {B wb : Nat} {S : Nat → Prop} {P : Rws} {since : Int} {chs : List Chg} {rds : Rws} (w : World) (h : PV w B wb S P since chs rds) :
    Calls Tryz.prog 9 #[.pointer (some ⟨wb, 0, none⟩)] w fun e w' => ∃ v, e = .returned v ∧ ownCh w' w.heap.size v chs ∧ Below w.heap.size w w' := by
  obtain ⟨B0, vb, mb, n, now, D, g, R, cv, rv, h1, h2, rfl, h4, h5, h6, h7, h8, h9⟩ := h
  exact mark_any w h2 (by have := h8.cn; omega)
theorem pv_changes {B wb : Nat} {S : Nat → Prop} {P : Rws} {since : Int} {chs : List Chg} {rds : Rws} (w : World) (h : PV w B wb S P since chs rds) :
    Calls Tryz.prog 27 #[.pointer (some ⟨wb, 0, none⟩)] w fun e w' => ∃ v, e = .returned v ∧ ownCh w' w.heap.size v chs ∧ Below w.heap.size w w' := by
  obtain ⟨B0, vb, mb, n, now, D, g, R, cv, rv, h1, h2, rfl, h4, h5, h6, h7, h8, h9⟩ := h
  exact changes_any w h2 (by have := h8.cn; omega)
theorem pv_reads {B wb : Nat} {S : Nat → Prop} {P : Rws} {since : Int} {chs : List Chg} {rds : Rws} (w : World) (h : PV w B wb S P since chs rds) :
    Calls Tryz.prog 21 #[.pointer (some ⟨wb, 0, none⟩)] w fun e w' => ∃ v, e = .returned v ∧ ownSp w' w.heap.size v rds ∧ Below w.heap.size w w' := by
  obtain ⟨B0, vb, mb, n, now, D, g, R, cv, rv, h1, h2, rfl, h4, h5, h6, h7, h8, h9⟩ := h
  exact reads_any w h2 (by have := h8.rn; omega)
/-- what is told of a key -/
def getP (chs : List Chg) (rds P : Rws) (key : ByteArray) : ByteArray × Bool × Nat :=
  if keyL key.data.toList then match findC chs key with
    | some c => (c.val, !c.gone, 0)
    | none => if readF rds (key, zeroS key) = 0 then ((valR P key).1, (valR P key).2, 0) else (⟨#[]⟩, false, readF rds (key, zeroS key))
  else (⟨#[]⟩, false, 3)
theorem getL_len {chs : List Chg} {rds : Rws} {key : ByteArray} (h : rds.length ≤ 40) : (getL chs rds key).length ≤ 40 := by
  unfold getL
  split
  · split
    · exact h
    · exact readL_len h
  · exact h
theorem getP_eq {chs : List Chg} {rds P : Rws} {R : ByteArray → List Ver} {since : Int} (h : sayR R since P) (key : ByteArray) : getR chs rds R since key = getP chs rds P key := by
  unfold getR getP
  rw [h key]
  rfl
theorem pv_get (key : ByteArray) {B wb : Nat} {S : Nat → Prop} {P : Rws} {since : Int} {chs : List Chg} {rds : Rws} (w : World) (h : PV w B wb S P since chs rds) (hk : key.size ≤ maxLen) :
    Calls Tryz.prog 18 #[.pointer (some ⟨wb, 0, none⟩), .string key] w fun e w' => e = .returned (.tuple #[.string (getP chs rds P key).1, .bool (getP chs rds P key).2.1, errV (getP chs rds P key).2.2]) ∧ ActV w w' B wb S P since chs (getL chs rds key) := by
  obtain ⟨B0, vb, mb, n, now, D, g, R, cv, rv, h1, h2, rfl, h4, h5, h6, h7, h8, h9⟩ := h
  refine (get_any key w h1 h2 h4 h9 (by have := h8.rn; omega) (by have := h8.cn; omega) hk (h7 key)).mono ?_
  rintro e w' ⟨rfl, rv', hw, hb, hfar⟩
  rw [getP_eq h5]
  exact ⟨rfl, _, step_far h1 h4 h5 h6 h7 h9 hw hb hfar { h8 with rn := getL_len h8.rn }⟩
/-- all rows of a span, as they are seen -/
def seenP (P : Rws) (chs : List Chg) (s : ByteArray × ByteArray) : Rws := seenR (inR P s) s chs
def scanF (L rds : Rws) (s : ByteArray × ByteArray) (m : Int) : Nat := if m < 1 then 1 else readF rds (rdS L s m.toNat)
def scanL (L rds : Rws) (s : ByteArray × ByteArray) (m : Int) : Rws := if m < 1 then rds else readL rds (rdS L s m.toNat)
theorem scanL_len {L rds : Rws} {s : ByteArray × ByteArray} {m : Int} (h : rds.length ≤ 40) : (scanL L rds s m).length ≤ 40 := by
  unfold scanL
  split
  · exact h
  · exact readL_len h
/-- behind a scan: rows in memory that is none of the view's, or an error -/
def ScanV (w w' : World) (e : Ending) (B wb : Nat) (S : Nat → Prop) (P : Rws) (since : Int) (chs : List Chg) (rds : Rws) (s : ByteArray × ByteArray) (m : Int) (L : Rws) : Prop :=
  (scanF L rds s m = 0 → ∃ ao cap, e = .returned (.tuple #[.slice ao (L.take m.toNat).length cap, .nilIface]) ∧ ((L.take m.toNat).length ≤ cap ∧ cap ≤ 9223372036854775807) ∧ heldSp w' ao (L.take m.toNat) ∧ ∃ S', PV w' B wb S' P since chs (scanL L rds s m) ∧ StepV w w' B S S' ∧ ∀ b off, ao = some ⟨b, off, none⟩ → w.heap.size ≤ b ∧ b < w'.heap.size ∧ ¬ S' b) ∧
  (scanF L rds s m ≠ 0 → e = .returned (.tuple #[.slice none 0 0, errV (scanF L rds s m)]) ∧ ActV w w' B wb S P since chs (scanL L rds s m))
theorem seenP_small {P : Rws} {chs : List Chg} {rds : Rws} (h : OkV P chs rds) (s : ByteArray × ByteArray) : (seenP P chs s).length ≤ 62 ∧ ∀ r ∈ seenP P chs s, r.1.size ≤ 60 := by
  refine ⟨?_, seen_keys chs (fun r hr => h.keys r (List.mem_filter.1 hr).1) h.ck⟩
  have h1 := seenR_len (inR P s) s chs
  have h2 : (inR P s).length ≤ P.length := List.length_filter_le _ _
  have h3 := h.len
  have h4 := h.cn
  unfold seenP
  omega
theorem pv_scan (s : ByteArray × ByteArray) (m : Int) {B wb : Nat} {S : Nat → Prop} {P : Rws} {since : Int} {chs : List Chg} {rds : Rws} (w : World) (h : PV w B wb S P since chs rds) (hm : m ≤ 9223372036854775807) :
    Calls Tryz.prog 14 #[.pointer (some ⟨wb, 0, none⟩), .agg #[.string s.1, .string s.2], .int .i64 m] w fun e w' => ScanV w w' e B wb S P since chs rds s m (seenP P chs s) := by
  by_cases h0 : m < 1
  · refine (scan_low s m wb w h0).mono ?_
    rintro e w' ⟨rfl, hb⟩
    have e1 : scanF (seenP P chs s) rds s m = 1 := if_pos h0
    have e2 : scanL (seenP P chs s) rds s m = rds := if_pos h0
    unfold ScanV
    rw [e1, e2]
    exact ⟨(fun e => by cases e), fun _ => ⟨rfl, S, h.on hb, .on h.lo hb⟩⟩
  · have ok := h.ok
    obtain ⟨B0, vb, mb, n, now, D, g, R, cv, rv, h1, h2, rfl, h4, h5, h6, h7, h8, h9⟩ := h
    have e0 : (m.toNat : Int) = m := by omega
    have e1 : scanF (seenP P chs s) rds s m = readF rds (rdS (seenP P chs s) s m.toNat) := if_neg h0
    have e2 : scanL (seenP P chs s) rds s m = readL rds (rdS (seenP P chs s) s m.toNat) := if_neg h0
    have hs : SeenSays w wb s (fun F => F = seenP P chs s) := fun W hb => (seen_any s W (h1.on hb) (h2.on hb) h6 h7 ok.rise (by have := ok.len; omega) (fun r hr => by have := ok.keys r hr; omega) h5 (by have := ok.cn; omega)).mono (by
      rintro e w' ⟨v, rfl, hb', ho⟩
      exact ⟨v, rfl, hb', _, ho, rfl⟩)
    have hc := scan_ok s m.toNat w h2 hs (fun F hF => by rw [hF]; exact ⟨by have := (seenP_small ok s).1; omega, fun r hr => by have := (seenP_small ok s).2 r hr; omega⟩) h9 (by have := ok.rn; omega) (by omega) (by omega)
    rw [e0] at hc
    refine hc.mono ?_
    rintro e w' ⟨F, rfl, hok, hbad⟩
    unfold ScanV
    rw [e1, e2]
    have ok2 : OkV P chs (readL rds (rdS (seenP P chs s) s m.toNat)) := { ok with rn := readL_len ok.rn }
    refine ⟨fun hz => ?_, fun hz => ?_⟩
    · obtain ⟨ao, cap, he, hcap, hh, rv', hw, hb, hfar, hnew⟩ := hok hz
      obtain ⟨q1, q2⟩ := step_far h1 h4 h5 h6 h7 h9 hw hb hfar ok2
      refine ⟨ao, cap, he, hcap, hh, _, q1, q2, fun b off e => ?_⟩
      obtain ⟨r1, r2, r3⟩ := hnew b off e
      exact ⟨r1, r2, fun e => e.elim r3 fun e => by have := h1.lt e; omega⟩
    · obtain ⟨he, rv', hw, hb, hfar⟩ := hbad hz
      exact ⟨he, _, step_far h1 h4 h5 h6 h7 h9 hw hb hfar ok2⟩
end Go.Proofs.YtpbhcjkllfonhaaGreat

/-
  Plain facts of the document's way to put a change among others: one by one, from the left. Nothing of the program is named here.
-/
namespace Go.Proofs.YtpbhcjkllfonhaaGreat

/-- one step: has it been laid, and what is out by now -/
def stepP (c : Chg) (s : Bool × List Chg) (x : Chg) : Bool × List Chg :=
  let s1 : Bool × List Chg := if !s.1 && leS c.key x.key then (true, s.2 ++ [c]) else s
  if eqS x.key c.key then s1 else (s1.1, s1.2 ++ [x])
def endP (c : Chg) (s : Bool × List Chg) : List Chg := if s.1 then s.2 else s.2 ++ [c]
theorem step_laid (c : Chg) (l : List Chg) (out : List Chg) (h : ∀ x ∈ l, ltS c.key x.key = true) : l.foldl (stepP c) (true, out) = (true, out ++ l) := by
  induction l generalizing out with
  | nil => simp
  | cons x l ih =>
    have hx := h x (by simp)
    have e : eqS x.key c.key = false := (eqS_comm _ _).trans (eqS_lt hx)
    rw [List.foldl_cons]
    have : stepP c (true, out) x = (true, out ++ [x]) := by simp [stepP, e]
    rw [this, ih _ (fun y hy => h y (by simp [hy]))]
    simp
theorem put_fold (c : Chg) (l : List Chg) (out : List Chg) (h : rises l) : endP c (l.foldl (stepP c) (false, out)) = out ++ insL l c := by
  induction l generalizing out with
  | nil => simp [endP, insL]
  | cons x l ih =>
    unfold rises at h
    obtain ⟨h1, h2⟩ := List.pairwise_cons.1 h
    rw [List.foldl_cons]
    rcases keys_three x.key c.key with ⟨k1, k2, k3, k4⟩ | k1 | ⟨k1, k2, k3, k4⟩
    · have e : leS c.key x.key = false := by rw [leS_not, k1]; rfl
      have : stepP c (false, out) x = (false, out ++ [x]) := by simp [stepP, e, k2]
      rw [this, ih _ h2]
      simp [insL, k1]
    · have e : leS c.key c.key = true := by rw [leS_not, ltS_irrefl]; rfl
      have : stepP c (false, out) x = (true, out ++ [c]) := by simp [stepP, e, k1, eqS_refl]
      rw [this, step_laid c l _ (fun y hy => k1 ▸ h1 y hy)]
      simp [endP, insL, k1, ltS_irrefl, eqS_refl]
    · have e : leS c.key x.key = true := by rw [leS_not, k1]; rfl
      have : stepP c (false, out) x = (true, out ++ [c] ++ [x]) := by simp [stepP, e, k2]
      rw [this, step_laid c l _ (fun y hy => ltS_trans k3 (h1 y hy))]
      simp [endP, insL, k1, k2]
theorem fold_take (c : Chg) (l : List Chg) (k : Nat) (hk : k < l.length) : (l.take (k + 1)).foldl (stepP c) (false, []) = stepP c ((l.take k).foldl (stepP c) (false, [])) l[k] := by
  rw [List.take_succ_eq_append_getElem hk, List.foldl_append]; rfl
theorem step_len (c : Chg) (s : Bool × List Chg) (x : Chg) : (stepP c s x).2.length ≤ s.2.length + 2 := by
  unfold stepP
  simp only
  split <;> split <;> simp <;> omega

/-- do they rise, up to the k-th? -/
def risesTo (l : List Chg) (k : Nat) : Prop := ∀ i (h : i + 1 < l.length), i + 1 < k → ltS l[i].key l[i + 1].key = true
theorem rises_all {l : List Chg} (h : risesTo l l.length) : rises l := by
  unfold rises
  have step : ∀ i j (hj : j < l.length), i < j → (hi : i < l.length) → ltS l[i].key l[j].key = true := by
    intro i j
    induction j with
    | zero => intro _ h; omega
    | succ j ih =>
      intro hj hij hi
      have hs := h j hj hj
      by_cases e : i = j
      · subst e; exact hs
      · exact ltS_trans (ih (by omega) (by omega) hi) hs
  exact List.pairwise_iff_getElem.2 fun i j hi hj hij => step i j hj hij hi
theorem rises_not {l : List Chg} {k : Nat} (h1 : 1 ≤ k) (hk : k < l.length) (h : ltS l[k - 1].key l[k].key = false) : ¬ rises l := fun hr => by
  have := List.pairwise_iff_getElem.1 hr (k - 1) k (by omega) hk (by omega)
  rw [h] at this; cases this
/-- found among changes that rise just if one has the key -/
theorem found_mem {l : List Chg} (h : rises l) (i : Nat) (hi : i < l.length) (key : ByteArray) (hk : l[i].key = key) : placeL l key = i ∧ foundL l key = true := by
  have hp : placeL l key = i := by
    refine placeL_eq ?_ (fun _ => by rw [hk, ltS_irrefl])
    rcases Nat.lt_or_ge (placeL l key) i with h' | h'
    · have hl : placeL l key < l.length := by omega
      have e := List.findIdx_getElem (p := fun c : Chg => !ltS c.key key) (xs := l) (w := hl)
      have := List.pairwise_iff_getElem.1 h _ i hl hi h'
      rw [hk] at this
      unfold placeL at this
      rw [this] at e
      cases e
    · exact h'
  refine ⟨hp, ?_⟩
  rw [foundL, hp, List.getElem?_eq_getElem hi]
  simp only
  rw [hk, eqS_refl]
theorem found_not {l : List Chg} {key : ByteArray} (h : ∀ i (hi : i < l.length), eqS l[i].key key = false) : foundL l key = false := by
  unfold foundL
  split
  · rename_i c hc
    obtain ⟨hi, rfl⟩ := List.getElem?_eq_some_iff.1 hc
    exact h _ hi
  · rfl
end Go.Proofs.YtpbhcjkllfonhaaGreat
