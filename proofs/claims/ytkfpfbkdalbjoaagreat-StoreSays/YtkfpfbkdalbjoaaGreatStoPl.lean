/-
  A store from deed to deed, and behind a fall; plain.
-/
import Derived.Test.YtkfpfbkdalbjoaaGreatStoLayW
import Derived.Test.YtkfpfbkdalbjoaaGreatStoCheck
import Derived.Test.YtkfpfbkdalbjoaaGreatRowG
import Derived.Test.YtkfpfbkdalbjoaaGreatAppend1
import Derived.Test.YtkfpfbkdalbjoaaGreatChgPlace
import Derived.Deep.CutBlock
import Derived.Test.YtkfpfbkdalbjoaaGreatDdWant
namespace Go.Proofs.YtkfpfbkdalbjoaaGreat

/-- rows that deeds make of rows: never too many -/
structure RowsOf (rows0 : List Chg) (ds : List (List Chg)) (rows : List Chg) : Prop where
  eq : ds.foldl behindL rows0 = rows
  few : ∀ k, ((ds.take k).foldl behindL rows0).length ≤ 40
  dl : ∀ d ∈ ds, d.length ≤ 12 ∧ chgsF d = 0
theorem RowsOf.nil {rows : List Chg} (h : rows.length ≤ 40) : RowsOf rows [] rows := ⟨rfl, fun k => by rw [List.take_nil]; exact h, fun d hd => absurd hd List.not_mem_nil⟩
theorem RowsOf.few' {rows0 rows : List Chg} {ds : List (List Chg)} (h : RowsOf rows0 ds rows) : rows.length ≤ 40 := by
  have := h.few ds.length
  rw [List.take_length, h.eq] at this
  exact this
theorem RowsOf.snoc {rows0 rows l : List Chg} {ds : List (List Chg)} (h : RowsOf rows0 ds rows) (hl : l.length ≤ 12) (hc : chgsF l = 0) (hf : (behindL rows l).length ≤ 40) : RowsOf rows0 (ds ++ [l]) (behindL rows l) := by
  refine ⟨by rw [List.foldl_append, h.eq]; rfl, fun k => ?_, fun d hd => ?_⟩
  · by_cases hk : k ≤ ds.length
    · rw [List.take_append_of_le_length hk]; exact h.few k
    · rw [List.take_of_length_le (by rw [List.length_append]; simp; omega), List.foldl_append, h.eq]; exact hf
  · rcases List.mem_append.1 hd with hd | hd
    · exact h.dl d hd
    · rw [List.mem_singleton] at hd; rw [hd]; exact ⟨hl, hc⟩
theorem fold_fine : ∀ (ds : List (List Chg)) (rows : List Chg), fineL rows → (∀ d ∈ ds, chgsF d = 0) → fineL (ds.foldl behindL rows)
  | [], _, h, _ => h
  | d :: ds, _, h, hd => fold_fine ds _ (behind_fine h (hd d (List.mem_cons_self ..))) fun e he => hd e (List.mem_cons_of_mem _ he)
theorem RowsOf.fine {rows0 rows : List Chg} {ds : List (List Chg)} (h : RowsOf rows0 ds rows) (hf : fineL rows0) : fineL rows := by
  rw [← h.eq]
  exact fold_fine ds rows0 hf fun d hd => (h.dl d hd).2
/-- a disk that rests, with a store of these rows -/
structure DRest (d : DSt) (area first u : Nat) (rows : List Chg) : Prop where
  down : d.down = false
  wait : d.wait = []
  kept : d.kept = d.now
  ex : ∃ rows0 ds, OnDisk d.now d.now.length area first rows0 ds u ∧ RowsOf rows0 ds rows
def RGood (d : DSt) (rows : List Chg) : Prop := ∃ area first u, DRest d area first u rows
structure SSt where
  d : DSt
  area : Nat
  first : Nat
  used : Nat
  rows : List Chg
def SGood (x : SSt) : Prop := DRest x.d x.area x.first x.used x.rows
section
variable {d : DSt} {area first u : Nat} {rows : List Chg}
theorem DRest.fine (h : DRest d area first u rows) : fineL rows := by
  obtain ⟨rows0, ds, h1, h2⟩ := h.ex
  exact h2.fine h1.fine
theorem DRest.few (h : DRest d area first u rows) : rows.length ≤ 40 := by
  obtain ⟨rows0, ds, h1, h2⟩ := h.ex
  exact h2.few'
theorem DRest.n54 (h : DRest d area first u rows) : 54 ≤ d.now.length := by
  obtain ⟨rows0, ds, h1, h2⟩ := h.ex
  exact h1.n54
theorem DRest.a1 (h : DRest d area first u rows) : area ≤ 1 ∧ 1 ≤ first ∧ first ≤ 2 := by
  obtain ⟨rows0, ds, h1, h2⟩ := h.ex
  exact ⟨h1.a1, h1.f1⟩
theorem DRest.us (h : DRest d area first u rows) : u ≤ d.now.length - 50 := by
  obtain ⟨rows0, ds, h1, h2⟩ := h.ex
  have := h1.n54
  exact h1.has.used (by omega)
theorem DRest.arm (h : DRest d area first u rows) (n : Int) : DRest (armD d n) area first u rows := ⟨h.down, h.wait, h.kept, h.ex⟩
theorem DRest.restart (h : DRest d area first u rows) (k : Int) : DRest (restartD d k) area first u rows ∧ (restartD d k).now.length = d.now.length := by
  have e : restartD d k = ⟨d.now, d.now, [], -1, false⟩ := by unfold restartD; rw [h.wait, h.kept]; rfl
  rw [e]
  exact ⟨⟨rfl, rfl, rfl, h.ex⟩, rfl⟩
/-- behind a fall -/
theorem rest_of {K : List ByteArray} {n : Nat} {rows0 : List Chg} {ds : List (List Chg)} (h : OnDisk K n area first rows0 ds u) (hr : RowsOf rows0 ds rows) : DRest ⟨K, K, [], -1, false⟩ area first u rows := ⟨rfl, rfl, rfl, rows0, ds, by show OnDisk K K.length area first rows0 ds u; rw [h.len]; exact h, hr⟩
end
/-- all rows are laid: its fault, and the store -/
def chkR (x : SSt) : Nat × SSt := if (layR (1 - x.area) x.rows x.d).1 = 0 then (0, ⟨(layR (1 - x.area) x.rows x.d).2, 1 - x.area, freshN x.d.now, 0, x.rows⟩) else ((layR (1 - x.area) x.rows x.d).1, { x with d := (layR (1 - x.area) x.rows x.d).2 })
/-- what may be behind a fall -/
def FellTo (d : DSt) (n : Nat) (P : List Chg → Prop) : Prop := d.down = true ∧ ∀ k, (restartD d k).now.length = n ∧ ∃ rows, P rows ∧ RGood (restartD d k) rows
theorem layR_len (area : Nat) (rows : List Chg) (s : DSt) : (layR area rows s).2.now.length = s.now.length := runD_len _ _
theorem SGood.chk {x : SSt} (h : SGood x) : (chkR x).2.d.now.length = x.d.now.length ∧ (chkR x).2.rows = x.rows ∧ (((chkR x).1 = 0 ∧ SGood (chkR x).2 ∧ (chkR x).2.used = 0) ∨ ((chkR x).1 = 10 ∧ FellTo (chkR x).2.d x.d.now.length (· = x.rows))) := by
  obtain ⟨rows0, ds, h1, h2⟩ := h.ex
  have hfine := DRest.fine h
  have hfew := DRest.few h
  have ha := h1.a1
  have run := lay_run (s := x.d) (n := x.d.now.length) (area := 1 - x.area) (rows := x.rows) (fun K => OnDisk K x.d.now.length x.area x.first rows0 ds x.used) (fun K => OnDisk K x.d.now.length x.area x.first rows0 ds x.used ∨ OnDisk K x.d.now.length (1 - x.area) (freshN x.d.now) x.rows [] 0) h.down rfl h1.n54 (by omega) hfine hfew
    (fun K hK => by rw [after_kept h.wait hK, h.kept]; exact h1) h1
    (fun K j d hj1 hj2 hK => hK.keep (List.length_set ..) fun i hi => List.getElem?_set_ne (by omega)) (fun K hK => .inl hK) (fun K hK => .inr hK)
  have hlen := layR_len (1 - x.area) x.rows x.d
  unfold layR at hlen
  unfold chkR layR
  generalize runD (layOps (1 - x.area) (freshN x.d.now) x.rows) x.d = r at *
  by_cases h0 : r.1 = 0
  · obtain ⟨g1, g2, g3, g4⟩ := run.good h0
    rw [if_pos h0]
    refine ⟨hlen, rfl, .inl ⟨rfl, ⟨g1, g2, g3, x.rows, [], ?_, .nil hfew⟩, rfl⟩⟩
    show OnDisk r.2.now r.2.now.length _ _ _ _ _
    rw [hlen]
    exact g4
  · obtain ⟨g1, g2, g3⟩ := run.bad h0
    rw [if_neg h0]
    refine ⟨hlen, rfl, .inr ⟨g1, g2, fun k => ?_⟩⟩
    have hA : After r.2 (keepL k 0 r.2.wait r.2.kept) := ⟨k, rfl⟩
    have e : restartD r.2 k = ⟨keepL k 0 r.2.wait r.2.kept, keepL k 0 r.2.wait r.2.kept, [], -1, false⟩ := rfl
    show (restartD r.2 k).now.length = _ ∧ ∃ rows, rows = x.rows ∧ RGood (restartD r.2 k) rows
    rw [e]
    rcases g3 _ hA with g | g
    · exact ⟨g.len, x.rows, rfl, _, _, _, rest_of g h2⟩
    · exact ⟨g.len, x.rows, rfl, _, _, _, rest_of g (.nil hfew)⟩
/-- never armed, no step falls -/
theorem SGood.chk_never {x : SSt} (h : SGood x) (hl : x.d.left = -1) : (chkR x).1 = 0 ∧ (chkR x).2.d.left = -1 := by
  have ha := DRest.a1 h
  obtain ⟨q1, q2⟩ := lay_never (s := x.d) (n := x.d.now.length) (area := 1 - x.area) (rows := x.rows) h.down hl rfl (DRest.n54 h) (by omega) (DRest.fine h) (DRest.few h)
  have e : (layR (1 - x.area) x.rows x.d).1 = 0 := q1
  unfold chkR
  rw [if_pos e]
  exact ⟨rfl, q2⟩
/-- a deed is committed: its fault, and the store -/
def comR1 (x : SSt) (l : List Chg) : Nat × SSt := if x.d.now.length - 50 - x.used < l.length + 1 then chkR x else (0, x)
def comR2 (c : SSt) (l rows : List Chg) : Nat × SSt :=
  ((addR 50 (c.d.now.length - 50) c.first c.used c.d l).1, ⟨(addR 50 (c.d.now.length - 50) c.first c.used c.d l).2.2, c.area, c.first, (addR 50 (c.d.now.length - 50) c.first c.used c.d l).2.1, if (addR 50 (c.d.now.length - 50) c.first c.used c.d l).1 = 0 then rows else c.rows⟩)
def comF (x : SSt) (l : List Chg) : Nat := if deedF l ≠ 0 then deedF l else if 40 < (behindL x.rows l).length ∨ x.d.now.length - 50 < l.length + 1 then 8 else 0
def comR (x : SSt) (l : List Chg) : Nat × SSt :=
  if comF x l ≠ 0 then (comF x l, x) else if (comR1 x l).1 ≠ 0 then comR1 x l else comR2 (comR1 x l).2 l (behindL x.rows l)
theorem comF_zero {x : SSt} {l : List Chg} (h : comF x l = 0) : l.length ≤ 12 ∧ chgsF l = 0 ∧ (behindL x.rows l).length ≤ 40 ∧ l.length + 1 ≤ x.d.now.length - 50 := by
  unfold comF at h
  split at h
  case isTrue h1 => exact absurd h h1
  case isFalse h1 =>
    split at h
    · cases h
    · rename_i h2
      have hd : deedF l = 0 := by simpa using h1
      unfold deedF at hd
      split at hd
      · cases hd
      · exact ⟨by omega, hd, by omega, by omega⟩
theorem comF_not (x : SSt) (l : List Chg) : comF x l ≠ 10 := by
  unfold comF
  split
  · unfold deedF
    split
    · decide
    · rcases chgsF_small l with h | h | h <;> rw [h] <;> decide
  · split <;> decide
/-- what adding to a store's log comes to -/
theorem SGood.add {c : SSt} (h : SGood c) {l : List Chg} (hl : l.length ≤ 12) (hc : chgsF l = 0) (hr : l.length + 1 ≤ c.d.now.length - 50 - c.used) (hf : (behindL c.rows l).length ≤ 40) :
    (comR2 c l (behindL c.rows l)).2.d.now.length = c.d.now.length ∧ (((comR2 c l (behindL c.rows l)).1 = 0 ∧ SGood (comR2 c l (behindL c.rows l)).2 ∧ (comR2 c l (behindL c.rows l)).2.rows = behindL c.rows l ∧ (comR2 c l (behindL c.rows l)).2.used = c.used + l.length + 1) ∨ ((comR2 c l (behindL c.rows l)).1 = 10 ∧ FellTo (comR2 c l (behindL c.rows l)).2.d c.d.now.length (fun r => r = c.rows ∨ r = behindL c.rows l))) := by
  obtain ⟨rows0, ds, h1, h2⟩ := h.ex
  have hus := DRest.us h
  have h54 := h1.n54
  have haf : addF l (c.d.now.length - 50 - c.used) = 0 := by
    unfold addF
    rw [if_neg (by omega), if_neg (by omega)]
    exact hc
  have run := add_run (l := l) h.down h.wait h.kept (show 50 + (c.d.now.length - 50) ≤ c.d.now.length by omega) h1.has hc (by omega)
  have hlen := runD_len (addOps (50 + c.used) (deedSecs (c.first + c.used) l) (c.d.now.length - 50 - c.used)) c.d
  have eR : addR 50 (c.d.now.length - 50) c.first c.used c.d l = ((runD (addOps (50 + c.used) (deedSecs (c.first + c.used) l) (c.d.now.length - 50 - c.used)) c.d).1, if (runD (addOps (50 + c.used) (deedSecs (c.first + c.used) l) (c.d.now.length - 50 - c.used)) c.d).1 = 0 then c.used + l.length + 1 else c.used, (runD (addOps (50 + c.used) (deedSecs (c.first + c.used) l) (c.d.now.length - 50 - c.used)) c.d).2) := by
    unfold addR
    rw [if_neg (by rw [haf]; decide)]
  unfold comR2
  rw [eR]
  generalize runD (addOps (50 + c.used) (deedSecs (c.first + c.used) l) (c.d.now.length - 50 - c.used)) c.d = r at *
  have on : ∀ K ds' u', LogAt c.d.now K 50 (c.d.now.length - 50) c.first (50 + c.used) ds' u' → OnDisk K c.d.now.length c.area c.first rows0 ds' u' := fun K ds' u' g => by
    have hp := pack_small h1.fine h1.few
    have ha := h1.a1
    refine ⟨g.len, h54, h1.a1, h1.f1, (g.out 0 (by omega)).trans h1.root, fun j hj => (g.out _ ?_).trans (h1.text j hj), h1.fine, h1.few, g.has⟩
    unfold piecesN at hj
    unfold areaN
    omega
  by_cases h0 : r.1 = 0
  · obtain ⟨g1, g2, g3, g4⟩ := run.good h0
    refine ⟨hlen, .inl ⟨h0, ⟨g1, g2, g3, rows0, ds ++ [l], ?_, ?_⟩, ?_, ?_⟩⟩
    · show OnDisk r.2.now r.2.now.length c.area c.first rows0 (ds ++ [l]) (if r.1 = 0 then c.used + l.length + 1 else c.used)
      rw [hlen, if_pos h0]
      exact on _ _ _ g4
    · show RowsOf rows0 (ds ++ [l]) (if r.1 = 0 then behindL c.rows l else c.rows)
      rw [if_pos h0]
      exact h2.snoc hl hc hf
    · show (if r.1 = 0 then behindL c.rows l else c.rows) = _
      rw [if_pos h0]
    · show (if r.1 = 0 then c.used + l.length + 1 else c.used) = _
      rw [if_pos h0]
  · obtain ⟨g1, g2, g3⟩ := run.bad h0
    refine ⟨hlen, .inr ⟨g1, g2, fun k => ?_⟩⟩
    have hA : After r.2 (keepL k 0 r.2.wait r.2.kept) := ⟨k, rfl⟩
    have e : restartD r.2 k = ⟨keepL k 0 r.2.wait r.2.kept, keepL k 0 r.2.wait r.2.kept, [], -1, false⟩ := rfl
    show (restartD r.2 k).now.length = _ ∧ ∃ rows, (rows = c.rows ∨ rows = behindL c.rows l) ∧ RGood (restartD r.2 k) rows
    rw [e]
    rcases g3 _ hA with g | g
    · exact ⟨g.len, c.rows, .inl rfl, _, _, _, rest_of (on _ _ _ g) h2⟩
    · exact ⟨g.len, behindL c.rows l, .inr rfl, _, _, _, rest_of (on _ _ _ g) (h2.snoc hl hc hf)⟩
theorem FellTo.mono {d : DSt} {n : Nat} {P Q : List Chg → Prop} (h : FellTo d n P) (hPQ : ∀ r, P r → Q r) : FellTo d n Q :=
  ⟨h.1, fun k => by obtain ⟨a, r, b, c⟩ := h.2 k; exact ⟨a, r, hPQ r b, c⟩⟩
/-- a deed is committed, or is none, or it falls -/
theorem SGood.commit {x : SSt} (h : SGood x) (l : List Chg) : (comR x l).2.d.now.length = x.d.now.length ∧
    (((comR x l).1 = 0 ∧ comF x l = 0 ∧ SGood (comR x l).2 ∧ (comR x l).2.rows = behindL x.rows l ∧ (comR x l).2.used = (if x.d.now.length - 50 - x.used < l.length + 1 then 0 else x.used) + l.length + 1) ∨
    ((comR x l).1 = comF x l ∧ comF x l ≠ 0 ∧ (comR x l).2 = x) ∨
    ((comR x l).1 = 10 ∧ comF x l = 0 ∧ FellTo (comR x l).2.d x.d.now.length (fun r => r = x.rows ∨ r = behindL x.rows l))) := by
  by_cases hF : comF x l = 0
  · obtain ⟨q1, q2, q3, q4⟩ := comF_zero hF
    have e : comR x l = if (comR1 x l).1 ≠ 0 then comR1 x l else comR2 (comR1 x l).2 l (behindL x.rows l) := by unfold comR; rw [if_neg (by rw [hF]; decide)]
    rw [e]
    by_cases hroom : x.d.now.length - 50 - x.used < l.length + 1
    · have e1 : comR1 x l = chkR x := if_pos hroom
      rw [e1, if_pos hroom]
      obtain ⟨k1, k2, k3⟩ := h.chk
      rcases k3 with ⟨k3, k4, k5⟩ | ⟨k3, k4⟩
      · rw [if_neg (by rw [k3]; decide)]
        have := SGood.add (c := (chkR x).2) k4 q1 q2 (by rw [k5, k1]; omega) (by rw [k2]; exact q3)
        rw [k2, k1, k5] at this
        refine ⟨this.1, ?_⟩
        rcases this.2 with ⟨a, b, c, d⟩ | ⟨a, b⟩
        · exact .inl ⟨a, hF, b, c, d⟩
        · exact .inr (.inr ⟨a, hF, b⟩)
      · rw [if_pos (by rw [k3]; decide)]
        exact ⟨k1, .inr (.inr ⟨k3, hF, k4.mono fun r e => .inl e⟩)⟩
    · have e1 : comR1 x l = (0, x) := if_neg hroom
      rw [e1, if_neg hroom, if_neg (by show ¬ 0 ≠ 0; decide)]
      have := SGood.add (c := x) h q1 q2 (by omega) q3
      refine ⟨this.1, ?_⟩
      rcases this.2 with ⟨a, b, c, d⟩ | ⟨a, b⟩
      · exact .inl ⟨a, hF, b, c, d⟩
      · exact .inr (.inr ⟨a, hF, b⟩)
  · have e : comR x l = (comF x l, x) := by unfold comR; rw [if_pos hF]
    rw [e]
    exact ⟨rfl, .inr (.inl ⟨rfl, hF, rfl⟩)⟩
/-- never armed: it comes to be as it should -/
theorem SGood.never {x : SSt} (h : SGood x) (hl : x.d.left = -1) (l : List Chg) : (comR x l).1 = comF x l ∧ (comR x l).2.d.left = -1 := by
  by_cases hF : comF x l = 0
  · obtain ⟨q1, q2, q3, q4⟩ := comF_zero hF
    have e : comR x l = if (comR1 x l).1 ≠ 0 then comR1 x l else comR2 (comR1 x l).2 l (behindL x.rows l) := by unfold comR; rw [if_neg (by rw [hF]; decide)]
    have add : ∀ (c : SSt), SGood c → c.d.left = -1 → l.length + 1 ≤ c.d.now.length - 50 - c.used → ∀ rows, (comR2 c l rows).1 = 0 ∧ (comR2 c l rows).2.d.left = -1 := fun c hc hcl hr rows => by
      obtain ⟨rows0, ds, h1, h2⟩ := hc.ex
      have h54 := h1.n54
      have hg : LGood c.d 50 (c.d.now.length - 50) c.first ds c.used := ⟨hc.down, hc.wait, hc.kept, by omega, h1.has⟩
      have haf : addF l (c.d.now.length - 50 - c.used) = 0 := by
        unfold addF
        rw [if_neg (by omega), if_neg (by omega)]
        exact q2
      exact hg.never hcl l haf
    rw [e]
    by_cases hroom : x.d.now.length - 50 - x.used < l.length + 1
    · have e1 : comR1 x l = chkR x := if_pos hroom
      rw [e1]
      obtain ⟨n1, n2⟩ := h.chk_never hl
      obtain ⟨k1, k2, k3⟩ := h.chk
      rw [if_neg (by rw [n1]; decide), hF]
      rcases k3 with ⟨k3, k4, k5⟩ | ⟨k3, _⟩
      · exact add _ k4 n2 (by rw [k5, k1]; omega) _
      · rw [n1] at k3; cases k3
    · have e1 : comR1 x l = (0, x) := if_neg hroom
      rw [e1, if_neg (by show ¬ 0 ≠ 0; decide), hF]
      exact add x h hl (by omega) _
  · have e : comR x l = (comF x l, x) := by unfold comR; rw [if_pos hF]
    rw [e]
    exact ⟨rfl, hl⟩
/-- an empty store is laid on a disk that was never armed -/
theorem format_good {s : DSt} (hd : s.down = false) (hl : s.left = -1) (h54 : 54 ≤ s.now.length) : (layR 0 [] s).1 = 0 ∧ DRest (layR 0 [] s).2 0 (freshN s.now) 0 [] ∧ (layR 0 [] s).2.left = -1 ∧ (layR 0 [] s).2.now.length = s.now.length := by
  have run := lay_run (s := s) (n := s.now.length) (area := 0) (rows := []) (fun _ => True) (fun _ => True) hd rfl h54 (by decide) fine_nil (by decide) (fun _ _ => trivial) trivial (fun _ _ _ _ _ _ => trivial) (fun _ _ => trivial) (fun _ _ => trivial)
  obtain ⟨q1, q2⟩ := lay_never (s := s) (n := s.now.length) (area := 0) (rows := []) hd hl rfl h54 (by decide) fine_nil (by decide)
  obtain ⟨g1, g2, g3, g4⟩ := run.good q1
  have hlen := layR_len 0 [] s
  refine ⟨q1, ⟨g1, g2, g3, [], [], ?_, .nil (by decide)⟩, q2, hlen⟩
  rw [hlen]
  exact g4
end Go.Proofs.YtkfpfbkdalbjoaaGreat

/-
  A store as it lies in memory: its header, its log and disk, its rows; what an act on it leaves alone; what Store.Rows and Store.Room return.
-/
namespace Go.Proofs.YtkfpfbkdalbjoaaGreat
open Go.RowKit Go.Joins
attribute [local go_sem ↓] Go.wp_at_zero Go.wp_at_succ

structure SHd (w : World) (sb db lb area : Nat) (v : Value) : Prop where
  c0 : w.cell? ⟨sb, 0, none⟩ = some (.pointer (some ⟨db, 0, none⟩))
  c1 : w.cell? ⟨sb, 1, none⟩ = some (.pointer (some ⟨lb, 0, none⟩))
  c2 : w.cell? ⟨sb, 2, none⟩ = some (.int .i64 (area : Int))
  c3 : w.cell? ⟨sb, 3, none⟩ = some v
  soft : ∀ j, w.frozen? ⟨sb, j, none⟩ = false
/-- a store, its blocks, and what it is -/
structure SK (w : World) (B sb lb db : Nat) (S : Nat → Prop) (v : Value) (x : SSt) : Prop where
  hd : SHd w sb db lb x.area v
  lk : LK w B lb db S 50 (x.d.now.length - 50) x.first x.used x.d
  own : ownCh w B v x.rows
  ns : ¬ S sb
  nl : sb ≠ lb
  nv : ∀ k, v.ownBlock = some k → k ≠ sb ∧ k ≠ lb ∧ ¬ S k
  lo : B ≤ sb
def inS (sb lb : Nat) (v : Value) (S : Nat → Prop) (k : Nat) : Prop := k = sb ∨ k = lb ∨ v.ownBlock = some k ∨ S k
/-- a store, wherever its log and its rows lie -/
def SA (w : World) (B sb db : Nat) (T : Nat → Prop) (x : SSt) : Prop := ∃ lb S v, SK w B sb lb db S v x ∧ T = inS sb lb v S
def ActS (w w' : World) (B sb db : Nat) (T : Nat → Prop) (x : SSt) : Prop := ∃ T', SA w' B sb db T' x ∧ StepV w w' B T T'
section
variable {w w' : World} {B sb lb db : Nat} {S T : Nat → Prop} {v : Value} {x : SSt}
theorem SHd.kept {area : Nat} (h : SHd w sb db lb area v) (hk : w'.heap[sb]? = w.heap[sb]?) : SHd w' sb db lb area v :=
  ⟨(World.cell?_of_block hk).trans h.c0, (World.cell?_of_block hk).trans h.c1, (World.cell?_of_block hk).trans h.c2, (World.cell?_of_block hk).trans h.c3, fun j => (World.frozen?_of_block hk).trans (h.soft j)⟩
theorem SHd.lt {area : Nat} (h : SHd w sb db lb area v) : sb < w.heap.size := World.block_lt_of_cell? _ _ h.c0
theorem SK.lt (h : SK w B sb lb db S v x) {k : Nat} (hk : inS sb lb v S k) : k < w.heap.size := by
  rcases hk with rfl | rfl | hk | hk
  · exact h.hd.lt
  · exact h.lk.hd.lt
  · exact (World.ownsRow.lt h.own k hk).2
  · exact h.lk.dk.lt hk
theorem SK.on (h : SK w B sb lb db S v x) (hb : Below w.heap.size w w') : SK w' B sb lb db S v x :=
  ⟨h.hd.kept (hb.block sb h.hd.lt), h.lk.on hb, own_on h.own hb, h.ns, h.nl, h.nv, h.lo⟩
theorem SA.on (h : SA w B sb db T x) (hb : Below w.heap.size w w') : SA w' B sb db T x := by
  obtain ⟨lb, S, v, h1, h2⟩ := h
  exact ⟨lb, S, v, h1.on hb, h2⟩
theorem SA.blo (h : SA w B sb db T x) : B ≤ w.heap.size := by
  obtain ⟨lb, S, v, h1, h2⟩ := h
  exact h1.lk.dk.lo
theorem SA.lt (h : SA w B sb db T x) {k : Nat} (hk : T k) : k < w.heap.size := by
  obtain ⟨lb, S, v, h1, rfl⟩ := h
  exact h1.lt hk
theorem SA.stay (h : SA w B sb db T x) (hb : Below w.heap.size w w') : ActS w w' B sb db T x := ⟨T, h.on hb, .on h.blo hb⟩
theorem ActS.after {w1 : World} {T1 : Nat → Prop} (hs : StepV w w1 B T T1) (ha : ActS w1 w' B sb db T1 x) : ActS w w' B sb db T x := by
  obtain ⟨T2, h1, h2⟩ := ha
  exact ⟨T2, h1, hs.trans h2⟩
theorem ActS.post {w1 : World} (ha : ActS w w1 B sb db T x) (hb : Below w1.heap.size w1 w') : ActS w w' B sb db T x := by
  obtain ⟨T2, h1, h2⟩ := ha
  exact ⟨T2, h1.on hb, h2.trans (.on h1.blo hb)⟩
set_option maxHeartbeats 1000000 in
theorem sroom_any (w : World) (h : SA w B sb db T x) : Calls Tryz.prog 13 #[.pointer (some ⟨sb, 0, none⟩)] w fun e w' => e = .returned (.int .i64 ((x.d.now.length - 50 - x.used : Nat) : Int)) ∧ ∃ n, w' = w.drewN n := by
  obtain ⟨lb, S, v, h1, _⟩ := h
  have c1 := h1.hd.c1
  have hm := h1.lk.dk.many
  have HR := hide (lroom_any w h1.lk.hd h1.lk.us (by omega))
  clear h1
  generalize x.d.now.length - 50 - x.used = r at *
  go_enter Tryz.func13, Tryz.ntmps13
  go_wp2_with (go_at_call 30; refine HR.out.mono ?_; rintro e w1 ⟨rfl, n, rfl⟩)
  go_ret
  exact ⟨rfl, n, rfl⟩
theorem rowsL_take {l : List Chg} {k : Nat} (hk : k < l.length) : rowsL (l.take (k + 1)) = rowsL (l.take k) ++ [(l[k].key, l[k].val)] := by
  unfold rowsL
  rw [List.take_succ_eq_append_getElem hk, List.map_append]
  rfl
set_option maxRecDepth 8000 in
set_option maxHeartbeats 4000000 in
theorem srows_any (w : World) (h : SA w B sb db T x) (hl : x.rows.length ≤ 1000) : Calls Tryz.prog 15 #[.pointer (some ⟨sb, 0, none⟩)] w fun e w' => ∃ v, e = .returned v ∧ ownP w' w.heap.size v (rowsL x.rows) ∧ Below w.heap.size w w' := by
  obtain ⟨lb, S, v, h1, _⟩ := h
  have c3 := h1.hd.c3
  have HO := hide h1.own
  clear h1
  generalize x.rows = l at *
  obtain ⟨i0, hi0, hz0, hs0, hb0⟩ := info_parts row_info
  obtain ⟨ao, cap, rfl, hh⟩ : ∃ ao cap, v = .slice ao l.length cap ∧ heldCh w ao l := by
    rcases own_form HO.out with ⟨e, e2⟩ | ⟨g, cap, e, _⟩
    · exact ⟨none, 0, by rw [e, e2], .inl (List.length_eq_zero_iff.1 e2)⟩
    · refine ⟨some ⟨g, 0, none⟩, cap, e, .inr ⟨g, 0, rfl, chgs_of_cells l 0 fun j u hj => ?_⟩⟩
      have := World.ownsRow.cells HO.out (g := g) (by rw [e]; rfl) j u hj
      rwa [Go.WideShapes.add_plain] at this
  have HD := hide hh
  clear hh HO
  go_enter Tryz.func15, Tryz.ntmps15
  go_wp2
  go_loopw [3, 11] (fun v iv wr => ∃ k : Nat, k ≤ l.length ∧ iv = .int .i64 (k : Int) ∧ ownP wr w.heap.size v (rowsL (l.take k)) ∧ Below w.heap.size w wr) (fun _ iv _ => l.length - (intOf iv).toNat)
  case atStart => exact ⟨0, Nat.zero_le _, rfl, World.ownsRow_nil _ _ _ _, Below.refl _ _⟩
  case round =>
    obtain ⟨k, hk, rfl, ho, hb⟩ := hrel
    clear c3
    have hrl : (rowsL (l.take k)).length = k := by unfold rowsL; rw [List.length_map, List.length_take]; omega
    by_cases hlt : k < l.length
    · have hlt' : (k : Int) < (l.length : Int) := by omega
      have hk0 : (0 : Int) ≤ (k : Int) := by omega
      rcases HD.out with e | ⟨b, off, e, hch⟩
      · rw [e] at hlt; simp at hlt
      subst e
      obtain ⟨x0, x1, x2⟩ := hch k hlt
      have hft := rowsL_take hlt
      clear hch
      generalize l[k] = c at *
      generalize rowsL (l.take k) = m at *
      replace x0 := cell_on hb x0
      replace x1 := cell_on hb x1
      replace x2 := cell_on hb x2
      have HO := hide ho
      have HBR := hide hb
      have HFT := hide hft
      have hbx := below_alloc1 wr (Obj.cells #[Value.string c.key, Value.string c.val, Value.bool c.gone] 54)
      have HBX := hide (below_on HBR.out (Nat.le_refl _) hbx)
      have HO1 := hide (own_on HO.out hbx)
      clear ho hb hft hbx
      have HRL := hide hrl
      have y0 : (wr.alloc (Obj.cells #[Value.string c.key, Value.string c.val, Value.bool c.gone] 54)).cell? ⟨wr.heap.size, 0, none⟩ = some (.string c.key) := cell_new _ _ _ 0
      have y1 : (wr.alloc (Obj.cells #[Value.string c.key, Value.string c.val, Value.bool c.gone] 54)).cell? ⟨wr.heap.size, 1, none⟩ = some (.string c.val) := cell_new _ _ _ 1
      go_upto_region 5 with (fail)
      generalize wr.alloc (Obj.cells #[Value.string c.key, Value.string c.val, Value.bool c.gone] 54) = W at *
      generalize wr.heap.size = cb at *
      go_wp2_with (at_builtin; refine wp_append1 rfl _ _ 36 rfl w.heap.size 81 i0 _ 2 32 Tryz.underlying36 hi0 hz0 hs0 hb0 rfl (by omega) W (cellP (c.key, c.val)) rfl (cellP_one _) _ m.length (m.flatMap cellP) HO1.out rfl rfl (by omega) (by omega) HBX.out.size ?_; intro v9 w9 ho9 hb9; have HO9 := hide (ownP_snoc ho9); have HB9 := hide (hb9 w HBX.out); clear ho9 hb9)
      exact ⟨⟨k + 1, by omega, by go_num, by rw [HFT.out]; exact HO9.out, HB9.out⟩, by simp [intOf]; omega⟩
    · have ek : k = l.length := by omega
      subst ek
      have hlt' : ¬ (l.length : Int) < (l.length : Int) := by omega
      rw [List.take_length] at ho
      have HO := hide ho
      have HBR := hide hb
      clear ho hb
      go_wp2
      go_ret
      exact ⟨_, rfl, HO.out, HBR.out⟩
end
end Go.Proofs.YtkfpfbkdalbjoaaGreat

/-
  What store.openLog and store.Open return of a disk that rests with a store on it.
-/
namespace Go.Proofs.YtkfpfbkdalbjoaaGreat
open Go.RowKit Go.Joins
attribute [local go_sem ↓] Go.wp_at_zero Go.wp_at_succ

section
variable {B db : Nat} {S : Nat → Prop} {s : DSt}
set_option maxHeartbeats 1000000 in
theorem logSectors_any (w : World) (hk : DK w B db S s) (hn : 50 ≤ s.now.length) : Calls Tryz.prog 26 #[.pointer (some ⟨db, 0, none⟩)] w fun e w' => e = .returned (.int .i64 ((s.now.length - 50 : Nat) : Int)) ∧ w' = w := by
  have HS := hide (dsectors_any w hk)
  have hm := hk.many
  clear hk
  generalize s.now.length = n at *
  have h0 : (50 : Int) ≤ (n : Int) := by omega
  have h1 : (n : Int) ≤ 200 := by omega
  go_enter Tryz.func26, Tryz.ntmps26
  go_wp2_with (go_at_call 23; refine HS.out.mono ?_; rintro e w1 ⟨rfl, rfl⟩)
  go_ret
  exact ⟨ret_int (by omega), rfl⟩
theorem OpenAt.le {w0 w w' : World} {lb fr many first u : Nat} {dv : Value} {ds : List (List Chg)} (h : OpenAt w0 w' lb db fr many first dv ds u) (hb : Below w.heap.size w w0) : OpenAt w w' lb db fr many first dv ds u := by
  obtain ⟨l, h1, h2, h3⟩ := h.de
  exact ⟨⟨l, ⟨ownsRow_le h1.1 hb.size, fun d hd => ownCh_le (h1.2.1 d hd) hb.size, h1.2.2⟩, h2, h3⟩, h.dn, h.hd, Nat.le_trans hb.size h.new, below_on hb (Nat.le_refl _) h.bel⟩
set_option maxRecDepth 8000 in
set_option maxHeartbeats 4000000 in
theorem openLog_good (area first size : Nat) (w : World) (hk : DK w B db S s) (hd : s.down = false) (h1 : 51 ≤ s.now.length) (h2 : 1 ≤ first) (hf : first ≤ 2) :
    Calls Tryz.prog 21 #[.pointer (some ⟨db, 0, none⟩), .agg #[.int .i64 (area : Int), .int .i64 (first : Int), .int .i64 (size : Int)]] w fun e w' => ∃ lb dv, e = .returned (.tuple #[.pointer (some ⟨lb, 0, none⟩), dv, .nilIface]) ∧ OpenAt w w' lb db 50 (s.now.length - 50) first dv (deedsL (secsD s 50 (s.now.length - 50)) first) (usedL (secsD s 50 (s.now.length - 50)) first) := by
  have hB0 := below_alloc1 w (Obj.cells #[Value.int .i64 (area : Int), Value.int .i64 (first : Int), Value.int .i64 (size : Int)] 64)
  have r1 : (w.alloc (Obj.cells #[Value.int .i64 (area : Int), Value.int .i64 (first : Int), Value.int .i64 (size : Int)] 64)).cell? ⟨w.heap.size, 1, none⟩ = some (.int .i64 (first : Int)) := cell_new _ _ _ 1
  have HLS : Hid (∀ W, Below w.heap.size w W → Calls Tryz.prog 26 #[.pointer (some ⟨db, 0, none⟩)] W fun e w' => e = .returned (.int .i64 ((s.now.length - 50 : Nat) : Int)) ∧ w' = W) := fun W hb => logSectors_any W (hk.on hb) (by omega)
  have HOP : Hid (∀ W, Below w.heap.size w W → Calls Tryz.prog 38 #[.pointer (some ⟨db, 0, none⟩), .int .i64 50, .int .i64 ((s.now.length - 50 : Nat) : Int), .int .i64 (first : Int)] W fun e w' => ∃ lb dv, e = .returned (.tuple #[.pointer (some ⟨lb, 0, none⟩), dv, .nilIface]) ∧ OpenAt w w' lb db 50 (s.now.length - 50) first dv (deedsL (secsD s 50 (s.now.length - 50)) first) (usedL (secsD s 50 (s.now.length - 50)) first)) := fun W hb => by
    refine (lopen_good 50 (s.now.length - 50) first W (hk.on hb) hd (by omega) h2 (by omega) (by omega)).mono ?_
    rintro e w' ⟨lb, dv, he, ho⟩
    exact ⟨lb, dv, he, ho.le hb⟩
  clear hk hd
  generalize deedsL (secsD s 50 (s.now.length - 50)) first = ds at *
  generalize usedL (secsD s 50 (s.now.length - 50)) first = u at *
  generalize s.now.length - 50 = m at *
  have HB0 := hide hB0
  clear hB0
  go_enter Tryz.func21, Tryz.ntmps21
  go_wp2_with fail
  go_region_with (first
    | (go_at_call 26; refine (HLS.out _ (by exact below_on HB0.out (Nat.le_refl _) (below_draws _ _ _))).mono ?_; rintro e w7 ⟨rfl, rfl⟩)
    | (go_at_call 38; refine (HOP.out _ (by exact below_on HB0.out (Nat.le_refl _) (below_draws _ _ _))).mono ?_; rintro e w8 ⟨lb, dv, rfl, ho8⟩; have HO8 := hide ho8; clear ho8; dsimp only))
  all_goals
    go_wp2
    go_ret3
    exact ⟨lb, dv, rfl, HO8.out⟩
end
end Go.Proofs.YtkfpfbkdalbjoaaGreat

/-
  What store.Open and store.Format return and leave.
-/
namespace Go.Proofs.YtkfpfbkdalbjoaaGreat
open Go.RowKit Go.Joins
attribute [local go_sem ↓] Go.wp_at_zero Go.wp_at_succ

section
variable {B db : Nat} {S : Nat → Prop} {s : DSt}
/-- a store that was opened: all of it but the disk is new -/
structure SNew (w w' : World) (B sb db : Nat) (S : Nat → Prop) (x : SSt) : Prop where
  ex : ∃ lb v, SK w' B sb lb db S v x ∧ w.heap.size ≤ lb ∧ ∀ k, v.ownBlock = some k → w.heap.size ≤ k
  new : w.heap.size ≤ sb
  bel : Below w.heap.size w w'
theorem fold_deeds {ds : List (List Chg)} {rows : List Chg} {k : Nat} (hk : k < ds.length) : (ds.take (k + 1)).foldl behindL rows = behindL ((ds.take k).foldl behindL rows) ds[k] := by
  rw [List.take_succ_eq_append_getElem hk, List.foldl_append]; rfl
set_option maxRecDepth 8000 in
set_option maxHeartbeats 8000000 in
theorem sopen_good {area first u : Nat} {rows : List Chg} (w : World) (hk : DK w B db S s) (hr : DRest s area first u rows) :
    Calls Tryz.prog 8 #[.pointer (some ⟨db, 0, none⟩)] w fun e w' => ∃ sb, e = .returned (.tuple #[.pointer (some ⟨sb, 0, none⟩), .nilIface]) ∧ SNew w w' B sb db S ⟨s, area, first, u, rows⟩ := by
  obtain ⟨rows0, ds, hod, hro⟩ := hr.ex
  have hps := pack_small hod.fine hod.few
  have ha1 := hod.a1
  have hf1 := hod.f1
  have h54 := hod.n54
  have hB := hk.lo
  have hus := DRest.us hr
  have hsc : scanL first 0 (secsD s 50 (s.now.length - 50)) ([], []) 0 = (ds, u) := hod.has
  have hde : deedsL (secsD s 50 (s.now.length - 50)) first = ds ∧ usedL (secsD s 50 (s.now.length - 50)) first = u := by unfold deedsL usedL; rw [hsc]; exact ⟨rfl, rfl⟩
  have HRR := hide (readRoot_good area first (packB rows0).size w hk hr.down ha1 hf1.1 hf1.2 hps h54 hod.root)
  have HRO : Hid (∀ W, Below w.heap.size w W → Calls Tryz.prog 20 #[.pointer (some ⟨db, 0, none⟩), .agg #[.int .i64 (area : Int), .int .i64 (first : Int), .int .i64 ((packB rows0).size : Int)]] W fun e w' => ∃ v, e = .returned (.tuple #[v, .nilIface]) ∧ ownCh w' W.heap.size v rows0 ∧ Below W.heap.size W w') := fun W hb => readRows_good area first rows0 W (hk.on hb) hr.down ha1 (by omega) hod.fine hod.few hod.text
  have HOL : Hid (∀ W, Below w.heap.size w W → Calls Tryz.prog 21 #[.pointer (some ⟨db, 0, none⟩), .agg #[.int .i64 (area : Int), .int .i64 (first : Int), .int .i64 ((packB rows0).size : Int)]] W fun e w' => ∃ lb dv, e = .returned (.tuple #[.pointer (some ⟨lb, 0, none⟩), dv, .nilIface]) ∧ OpenAt W w' lb db 50 (s.now.length - 50) first dv ds u) := fun W hb => by
    have := openLog_good area first (packB rows0).size W (hk.on hb) hr.down (by omega) hf1.1 hf1.2
    rw [hde.1, hde.2] at this
    exact this
  have HHK := hide hk
  have HHR := hide hr
  have HOD := hide hod
  have HRW := hide hro
  clear hk hr hod hro hsc hde
  generalize hsz : (packB rows0).size = size at *
  clear hsz
  go_enter Tryz.func8, Tryz.ntmps8
  go_wp2_with fail
  refine HRR.out.mono ?_
  rintro e w1 ⟨rfl, hb1⟩
  have hbA := below_on hb1 (Nat.le_refl _) (below_alloc1 w1 (Obj.cells #[Value.int IntKind.i64 (area : Int), Value.int IntKind.i64 (first : Int), Value.int IntKind.i64 (size : Int)] 64))
  have g0 : (w1.alloc (Obj.cells #[Value.int IntKind.i64 (area : Int), Value.int IntKind.i64 (first : Int), Value.int IntKind.i64 (size : Int)] 64)).cell? ⟨w1.heap.size, 0, none⟩ = some (.int .i64 (area : Int)) := cell_new _ _ _ 0
  have g1 : (w1.alloc (Obj.cells #[Value.int IntKind.i64 (area : Int), Value.int IntKind.i64 (first : Int), Value.int IntKind.i64 (size : Int)] 64)).cell? ⟨w1.heap.size, 1, none⟩ = some (.int .i64 (first : Int)) := cell_new _ _ _ 1
  have g2 : (w1.alloc (Obj.cells #[Value.int IntKind.i64 (area : Int), Value.int IntKind.i64 (first : Int), Value.int IntKind.i64 (size : Int)] 64)).cell? ⟨w1.heap.size, 2, none⟩ = some (.int .i64 (size : Int)) := cell_new _ _ _ 2
  have HG := hide (And.intro g0 (And.intro g1 g2))
  have HBA := hide hbA
  clear g0 g1 g2 hb1 hbA HRR
  go_wp2_with fail
  refine (HRO.out _ HBA.out).mono ?_
  rintro e w2 ⟨v2, rfl, ho2, hb2⟩
  have HB2 := hide (below_on HBA.out (Nat.le_refl _) hb2)
  have HO2 := hide (ownCh_le ho2 HBA.out.size)
  have g0 := cell_on hb2 HG.out.1
  have g1 := cell_on hb2 HG.out.2.1
  have g2 := cell_on hb2 HG.out.2.2
  clear ho2 hb2 HG HRO HBA
  go_wp2_with fail
  refine (HOL.out _ HB2.out).mono ?_
  rintro e w3 ⟨lb, dv, rfl, ho3⟩
  obtain ⟨dl, hdv, hdm, hdn⟩ := ho3.de
  have g0' := cell_on ho3.bel g0
  have HB3 := hide (below_on HB2.out (Nat.le_refl _) ho3.bel)
  have HO3 := hide (own_on HO2.out ho3.bel)
  have HLH := hide ho3.hd
  have HLN : Hid (w.heap.size ≤ lb) := Nat.le_trans HB2.out.size ho3.new
  have hlbn : ∀ k, v2.ownBlock = some k → k ≠ lb := fun k e e2 => by have h1 := (World.ownsRow.lt HO2.out k e).2; have h2 := ho3.new; omega
  have HLB := hide hlbn
  obtain ⟨da, dc, hdf⟩ : ∃ da dc, dv = .slice da dl.length dc := by
    rcases hdv.1.2 with ⟨e, e2⟩ | ⟨g, cap, cur, e, _⟩
    · exact ⟨none, 0, by rw [e, e2]⟩
    · exact ⟨_, cap, e⟩
  have hcell : ∀ k (h : k < dl.length), ∃ g, da = some ⟨g, 0, none⟩ ∧ w3.cell? ⟨g, k, none⟩ = some (ddV dl[k]) := fun k h => by
    rcases hdv.1.2 with ⟨e, e2⟩ | ⟨g, cap, cur, e, _⟩
    · omega
    · rw [hdf] at e
      have e3 : da = some ⟨g, 0, none⟩ := by cases e; rfl
      have := World.ownsRow.cells hdv.1 (g := g) (by rw [hdf, e3]; rfl) k (ddV dl[k]) (by rw [List.getElem?_map, List.getElem?_eq_getElem h]; rfl)
      rw [Go.WideShapes.add_plain, Nat.zero_add] at this
      exact ⟨g, e3, this⟩
  subst hdf
  have HCE := hide hcell
  have HHE : Hid (∀ d ∈ dl, heldCh w3 d.ao d.chs) := fun d hd => ddOwn_held (hdv.2.1 d hd)
  have HDM := hide hdm
  have hdl : dl.length ≤ 9223372036854775807 := by
    rcases hdv.1.2 with ⟨_, e2⟩ | ⟨g, cap, cur, _, _, _, h1, h2, _⟩
    · omega
    · unfold maxLen at h2; omega
  clear ho3 hdv hdm hdn hcell g0 g1 g2 HOL HO2 HB2 hlbn
  have HDI : Hid (∀ k (h : k < dl.length), ∃ h2 : k < ds.length, ds[k] = dl[k].chs) := fun k h => by
    have e := HDM.out
    subst e
    exact ⟨by rw [List.length_map]; exact h, by rw [List.getElem_map]⟩
  have HDN : Hid (ds.length = dl.length) := hide (by rw [← HDM.out, List.length_map])
  go_wp2_with fail
  go_loopw [6, 40] (fun v iv wr => ∃ k : Nat, k ≤ dl.length ∧ iv = .int .i64 (k : Int) ∧ ownCh wr w.heap.size v ((ds.take k).foldl behindL rows0) ∧ (∀ q, v.ownBlock = some q → q ≠ lb) ∧ Below w3.heap.size w3 wr) (fun _ iv _ => dl.length - (intOf iv).toNat)
  case atStart => exact ⟨0, Nat.zero_le _, rfl, HO3.out, HLB.out, Below.refl _ _⟩
  case round =>
    obtain ⟨k, hk, rfl, ho, hvl, hb⟩ := hrel
    clear HO3 HLB
    have hfew := HRW.out.few k
    by_cases hlt : k < dl.length
    · have hlt' : (k : Int) < (dl.length : Int) := by omega
      have hk0 : (0 : Int) ≤ (k : Int) := by omega
      obtain ⟨g, hg, hce⟩ := HCE.out k hlt
      subst hg
      obtain ⟨hk2, hdk⟩ := HDI.out k hlt
      have hfd := fold_deeds (rows := rows0) hk2
      have hld := HRW.out.dl _ (List.getElem_mem hk2)
      have hhe := heldCh_on hb (HHE.out _ (List.getElem_mem hlt))
      rw [hdk] at hfd hld
      replace hce := cell_on hb hce
      unfold ddV at hce
      generalize dl[k] = dd at *
      generalize (ds.take k).foldl behindL rows0 = m at *
      have HBH := hide (behind_any m dd.chs u6 dd.ao dd.cap w.heap.size wr ho hhe (by omega) (by omega))
      have HFD := hide hfd
      have HBR := hide hb
      have HZ : Hid (w.heap.size ≤ wr.heap.size ∧ lb < wr.heap.size) := ⟨Nat.le_trans HB3.out.size hb.size, Nat.lt_of_lt_of_le HLH.out.lt hb.size⟩
      clear ho hb hfd hhe hvl hdk hld hfew hk2
      go_wp2_with (go_at_call 22; refine HBH.out.mono ?_; rintro e w7 ⟨v7, rfl, ho7, hb7⟩; have HO7 := hide ho7; have HB7 := hide hb7; clear ho7 hb7)
      exact ⟨⟨k + 1, by omega, by go_num, by rw [HFD.out]; exact ownCh_le HO7.out HZ.out.1, fun q e e2 => by have h1 := (World.ownsRow.lt HO7.out q e).1; have h2 := HZ.out.2; omega, below_on HBR.out (Nat.le_refl _) HB7.out⟩, by simp [intOf]; omega⟩
    · have ek : k = dl.length := by omega
      subst ek
      have hlt' : ¬ (dl.length : Int) < (dl.length : Int) := by omega
      rw [← HDN.out, List.take_length] at ho hfew
      rw [HRW.out.eq] at ho hfew
      have c0 := cell_on hb g0'
      obtain ⟨va, vc, rfl⟩ : ∃ va vc, u6 = .slice va rows.length vc := by
        rcases own_form ho with ⟨e, e2⟩ | ⟨g, cap, e, _⟩
        · exact ⟨none, 0, by rw [e, e2]⟩
        · exact ⟨_, cap, e⟩
      have HO := hide ho
      have HVL := hide hvl
      have HBR := hide hb
      have h40 : ¬ (40 : Int) < (rows.length : Int) := by omega
      clear ho hvl hb g0' HCE HHE
      have HSB := hide (below_alloc1 wr (Obj.cells #[Value.pointer (some ⟨db, 0, none⟩), Value.pointer (some ⟨lb, 0, none⟩), Value.int .i64 (area : Int), Value.slice va rows.length vc] 75))
      go_wp2_with fail
      go_ret2
      have hlt3 := HLH.out.lt
      have hbw := below_on HB3.out (Nat.le_refl _) HBR.out
      have hSl : ∀ k, w.heap.size ≤ k → ¬ S k := fun k h e => by have := HHK.out.lt e; omega
      refine ⟨wr.heap.size, rfl, ⟨⟨lb, .slice va rows.length vc, ⟨⟨cell_new _ _ _ 0, cell_new _ _ _ 1, cell_new _ _ _ 2, cell_new _ _ _ 3, fun j => frozen_new _ _ _ j⟩, ⟨HHK.out.on (below_on hbw (Nat.le_refl _) HSB.out), HLH.out.kept ((HSB.out.block lb (Nat.lt_of_lt_of_le hlt3 HBR.out.size)).trans (HBR.out.block lb hlt3)), hSl _ HLN.out, Nat.le_trans hB HLN.out, hus, by show 50 + (s.now.length - 50) ≤ s.now.length; omega, hf1.1, by show first ≤ 1500000; omega⟩, ownCh_le (own_on HO.out HSB.out) hB, hSl _ hbw.size, ?_, ?_, Nat.le_trans hB hbw.size⟩, HLN.out, fun k e => (World.ownsRow.lt HO.out k e).1⟩, hbw.size, below_on hbw (Nat.le_refl _) HSB.out⟩⟩
      · have := HBR.out.size
        omega
      · intro k e
        have h1 := World.ownsRow.lt HO.out k e
        exact ⟨by omega, HVL.out k e, hSl _ h1.1⟩
set_option maxRecDepth 8000 in
set_option maxHeartbeats 1000000 in
theorem sopen_bad (w : World) (hk : DK w B db S s) (hd : s.down = false) (hr : s.now[0]? = some (zerosB 96)) :
    Calls Tryz.prog 8 #[.pointer (some ⟨db, 0, none⟩)] w fun e w' => e = .returned (.tuple #[.pointer none, errV 4]) ∧ Below w.heap.size w w' := by
  have HRR := hide (readRoot_bad w hk hd hr)
  have HE : Hid (errV 4 = .iface 57 (.int .i64 4)) := rfl
  rw [HE.out]
  clear hk hd hr HE
  go_enter Tryz.func8, Tryz.ntmps8
  go_wp2_with fail
  refine HRR.out.mono ?_
  rintro e w1 ⟨rfl, hb1⟩
  have HB := hide (below_on hb1 (Nat.le_refl _) (below_alloc1 w1 (Obj.cells #[Value.int IntKind.i64 0, Value.int IntKind.i64 0, Value.int IntKind.i64 0] 64)))
  clear hb1
  go_wp2
  go_ret2
  exact ⟨rfl, HB.out⟩
set_option maxRecDepth 8000 in
set_option maxHeartbeats 1000000 in
theorem format_full (w : World) (hk : DK w B db S s) (hn : s.now.length < 54) : Calls Tryz.prog 9 #[.pointer (some ⟨db, 0, none⟩)] w fun e w' => e = .returned (errV 8) ∧ w' = w := by
  have HS := hide (dsectors_any w hk)
  have HE : Hid (errV 8 = .iface 57 (.int .i64 8)) := rfl
  rw [HE.out]
  clear hk HE
  generalize s.now.length = n at *
  have h1 : (n : Int) < 54 := by omega
  go_enter Tryz.func9, Tryz.ntmps9
  go_wp2_with (go_at_call 23; refine HS.out.mono ?_; rintro e w1 ⟨rfl, rfl⟩)
  go_ret
  exact ⟨rfl, rfl⟩
set_option maxRecDepth 8000 in
set_option maxHeartbeats 1000000 in
theorem format_any (w : World) (hk : DK w B db S s) (hn : 54 ≤ s.now.length) : Calls Tryz.prog 9 #[.pointer (some ⟨db, 0, none⟩)] w fun e w' => e = .returned (errV (layR 0 [] s).1) ∧ ActD w w' B db S (layR 0 [] s).2 := by
  have HS := hide (dsectors_any w hk)
  have HLY := hide (lay_any 0 [] none 0 w hk (by decide) hn (.inl rfl) fine_nil (by decide))
  clear hk
  generalize (layR 0 [] s).1 = f at *
  generalize (layR 0 [] s).2 = s2 at *
  generalize s.now.length = n at *
  have h1 : ¬ (n : Int) < 54 := by omega
  go_enter Tryz.func9, Tryz.ntmps9
  go_wp2_with (first
    | (go_at_call 23; refine HS.out.mono ?_; rintro e w1 ⟨rfl, rfl⟩)
    | (go_at_call 24; refine HLY.out.mono ?_; rintro e w2 ⟨rv, rfl, ⟨x, y, z, rfl, _⟩, ha2⟩; have HA2 := hide ha2; clear ha2)
    | fail)
  go_ret
  exact ⟨rfl, HA2.out.post (below_alloc1 _ _)⟩
end
end Go.Proofs.YtkfpfbkdalbjoaaGreat
