/-
  Plain facts of haywainlaw.VersionsSays: rows that rise, changes applied to them, and what a store's versions tell of them.
-/
import Derived.Test.YtighpalbodhfeaaGreatDoorRefHas
import Derived.Test.YtighpalbodhfeaaGreatDoorVerNew
namespace Go.Proofs.YtighpalbodhfeaaGreatDoor
open Go.RowKit Go.Joins

abbrev riseP (l : List (ByteArray × ByteArray)) : Prop := l.Pairwise fun a b => ltS a.1 b.1 = true
theorem eqS_no {a b : ByteArray} (h : a ≠ b) : eqS a b = false := by
  cases e : eqS a b with
  | false => rfl
  | true => exact absurd ((eqS_iff _ _).1 e) h
theorem eqS_yes (a : ByteArray) : eqS a a = true := (eqS_iff _ _).2 rfl
theorem valR_cons (r : ByteArray × ByteArray) (l : List (ByteArray × ByteArray)) (key : ByteArray) : valR (r :: l) key = if eqS r.1 key then (r.2, true) else valR l key := by
  unfold valR
  rw [List.find?_cons]
  cases eqS r.1 key <;> rfl
theorem valR_app (a b : List (ByteArray × ByteArray)) (key : ByteArray) : valR (a ++ b) key = if (valR a key).2 then valR a key else valR b key := by
  induction a with
  | nil => rfl
  | cons r a ih =>
    rw [List.cons_append, valR_cons, valR_cons]
    cases h : eqS r.1 key with
    | true => simp
    | false => simpa using ih
/-- what the fold has told so far -/
theorem step_true (c : Chg) : ∀ (l out : List (ByteArray × ByteArray)), (l.foldl (stepA c) (true, out)) = (true, out ++ l.filter fun r => !eqS r.1 c.key)
  | [], out => by simp
  | r :: l, out => by
    rw [List.foldl_cons]
    have e : stepA c (true, out) r = (true, out ++ if eqS r.1 c.key then [] else [r]) := by simp [stepA]
    rw [e, step_true c l]
    cases h : eqS r.1 c.key <;> simp [h]
/-- one put among rows that rise: those below, it, those above -/
theorem step_false (c : Chg) : ∀ (l out : List (ByteArray × ByteArray)), riseP l → endA c (l.foldl (stepA c) (false, out)) = out ++ (l.filter fun r => ltS r.1 c.key) ++ (c.key, c.val) :: l.filter fun r => ltS c.key r.1
  | [], out, _ => by simp [endA]
  | r :: l, out, h => by
    replace h := List.pairwise_cons.1 h
    rw [List.foldl_cons]
    cases hle : leS c.key r.1 with
    | false =>
      have hlt : ltS r.1 c.key = true := by have := leS_not c.key r.1; rw [hle] at this; simpa using this
      have hne : eqS r.1 c.key = false := eqS_no fun e => by rw [e, ltS_irrefl] at hlt; cases hlt
      have hgt : ltS c.key r.1 = false := by
        cases e : ltS c.key r.1 with
        | false => rfl
        | true => have := ltS_trans e hlt; rw [ltS_irrefl] at this; cases this
      have e : stepA c (false, out) r = (false, out ++ [r]) := by simp [stepA, hle, hne]
      rw [e, step_false c l _ h.2]
      simp [hlt, hgt]
    | true =>
      have e : stepA c (false, out) r = (true, out ++ [(c.key, c.val)] ++ if eqS r.1 c.key then [] else [r]) := by simp [stepA, hle]
      rw [e, step_true]
      have hup : ∀ x ∈ l, ltS c.key x.1 = true := fun x hx => by
        have h1 := h.1 x hx
        rcases (leS_iff _ _).1 hle with h2 | h2
        · exact ltS_trans h2 h1
        · rw [h2]; exact h1
      have f1 : (l.filter fun r => ltS r.1 c.key) = [] := List.filter_eq_nil_iff.2 fun x hx e => by
        have := ltS_trans (hup x hx) e; rw [ltS_irrefl] at this; cases this
      have f2 : (l.filter fun r => ltS c.key r.1) = l := List.filter_eq_self.2 hup
      have f3 : (l.filter fun r => !eqS r.1 c.key) = l := List.filter_eq_self.2 fun x hx => by
        rw [eqS_no fun e => by have := hup x hx; rw [e, ltS_irrefl] at this; cases this]; rfl
      have hlt : ltS r.1 c.key = false := by have := leS_not c.key r.1; rw [hle] at this; simpa using this
      rw [f3]
      cases heq : eqS r.1 c.key with
      | true =>
        have e2 := (eqS_iff _ _).1 heq
        have hgt : ltS c.key r.1 = false := by rw [e2, ltS_irrefl]
        simp [endA, hlt, hgt, f1, f2]
      | false =>
        have hgt : ltS c.key r.1 = true := by
          rcases (leS_iff _ _).1 hle with h2 | h2
          · exact h2
          · rw [h2, eqS_yes] at heq; cases heq
        simp [endA, hlt, hgt, f1, f2]
theorem apply1_gone {l : List (ByteArray × ByteArray)} {c : Chg} (h : c.gone = true) : apply1 l c = l.filter fun r => !eqS r.1 c.key := by
  unfold apply1
  rw [h, step_true]
  simp [endA]
theorem apply1_put {l : List (ByteArray × ByteArray)} {c : Chg} (hl : riseP l) (h : c.gone = false) : apply1 l c = (l.filter fun r => ltS r.1 c.key) ++ (c.key, c.val) :: l.filter fun r => ltS c.key r.1 := by
  unfold apply1
  rw [h, step_false c l [] hl]
  simp
theorem apply1_rise {l : List (ByteArray × ByteArray)} (hl : riseP l) (c : Chg) : riseP (apply1 l c) := by
  cases h : c.gone with
  | true => rw [apply1_gone h]; exact hl.filter _
  | false =>
    rw [apply1_put hl h]
    unfold riseP
    rw [List.pairwise_append]
    refine ⟨hl.filter _, ?_, ?_⟩
    · rw [List.pairwise_cons]
      exact ⟨fun x hx => (List.mem_filter.1 hx).2, hl.filter _⟩
    · intro x hx y hy
      have h1 := (List.mem_filter.1 hx).2
      rcases List.mem_cons.1 hy with rfl | hy
      · exact h1
      · exact ltS_trans h1 (List.mem_filter.1 hy).2
theorem applied_rise {l : List (ByteArray × ByteArray)} (hl : riseP l) (cs : List Chg) : riseP (appliedA l cs) := by
  unfold appliedA
  induction cs generalizing l with
  | nil => exact hl
  | cons c cs ih => exact ih (apply1_rise hl c)
/-- the value of a key among rows that rise -/
theorem valR_iff {l : List (ByteArray × ByteArray)} (hl : riseP l) (key v : ByteArray) : valR l key = (v, true) ↔ (key, v) ∈ l := by
  induction l with
  | nil => simp [valR]
  | cons r l ih =>
    replace hl := List.pairwise_cons.1 hl
    rw [valR_cons]
    cases h : eqS r.1 key with
    | true =>
      have e := (eqS_iff _ _).1 h
      subst e
      constructor
      · intro h'
        have : r.2 = v := by simpa using h'
        subst this
        simp
      · intro h'
        rcases List.mem_cons.1 h' with e | e
        · rw [if_pos rfl, show r.2 = v from (congrArg Prod.snd e).symm]
        · have := hl.1 _ e; rw [ltS_irrefl] at this; cases this
    | false =>
      rw [if_neg (by simp), ih hl.2, List.mem_cons]
      constructor
      · exact .inr
      · rintro (e | e)
        · rw [← e, eqS_yes] at h; cases h
        · exact e
theorem valR_val {l : List (ByteArray × ByteArray)} {key : ByteArray} (h : (valR l key).2 = false) : valR l key = (⟨#[]⟩, false) := by
  unfold valR at h ⊢
  split at h <;> simp_all
theorem valR_ext {l m : List (ByteArray × ByteArray)} (hl : riseP l) (hm : riseP m) {key : ByteArray} (h : ∀ v, (key, v) ∈ l ↔ (key, v) ∈ m) : valR l key = valR m key := by
  cases e : (valR l key).2 with
  | true =>
    have e1 : valR l key = ((valR l key).1, true) := by rw [← e]
    have := (valR_iff hm key _).2 ((h _).1 ((valR_iff hl key _).1 e1))
    rw [e1, this]
  | false =>
    cases e' : (valR m key).2 with
    | false => rw [valR_val e, valR_val e']
    | true =>
      have e1 : valR m key = ((valR m key).1, true) := by rw [← e']
      have := (valR_iff hl key _).2 ((h _).2 ((valR_iff hm key _).1 e1))
      rw [this] at e; cases e
theorem apply1_other {l : List (ByteArray × ByteArray)} (hl : riseP l) {c : Chg} {key : ByteArray} (hk : key ≠ c.key) : valR (apply1 l c) key = valR l key := by
  refine valR_ext (apply1_rise hl c) hl fun v => ?_
  cases h : c.gone with
  | true =>
    rw [apply1_gone h, List.mem_filter, eqS_no hk]; simp
  | false =>
    rw [apply1_put hl h, List.mem_append, List.mem_cons, List.mem_filter, List.mem_filter]
    constructor
    · rintro (h' | h' | h')
      · exact h'.1
      · exact absurd (congrArg Prod.fst h') hk
      · exact h'.1
    · intro h'
      cases e : ltS key c.key with
      | true => exact .inl ⟨h', rfl⟩
      | false =>
        refine .inr (.inr ⟨h', ?_⟩)
        have h2 : leS c.key key = true := by rw [leS_not, e]; rfl
        rcases (leS_iff _ _).1 h2 with h3 | h3
        · exact h3
        · exact absurd h3.symm hk
theorem apply1_same {l : List (ByteArray × ByteArray)} (hl : riseP l) (c : Chg) : valR (apply1 l c) c.key = if c.gone then (⟨#[]⟩, false) else (c.val, true) := by
  cases h : c.gone with
  | true =>
    refine valR_miss fun r hr => ?_
    rw [apply1_gone h, List.mem_filter] at hr
    simpa using hr.2
  | false =>
    refine (valR_iff (apply1_rise hl c) _ _).2 ?_
    rw [apply1_put hl h]
    simp
/-- what the versions tell at a number is what the rows tell -/
def sayR (R : ByteArray → List Ver) (n : Int) (P : List (ByteArray × ByteArray)) : Prop := ∀ key, behindV (R key) n = valR P key
theorem behind_new {vs : List Ver} {x : Ver} {n : Int} (h : x.deed ≤ n) : behindV (vs ++ [x]) n = if x.gone then (⟨#[]⟩, false) else (x.val, true) := by
  unfold behindV
  rw [lastV_last h]
theorem say_apply {R : ByteArray → List Ver} {d n : Int} {P : List (ByteArray × ByteArray)} (hd : d ≤ n) (hP : riseP P) (h : sayR R n P) : ∀ (cs : List Chg), sayR (applyR R d cs) n (appliedA P cs) := by
  intro cs
  induction cs generalizing R P with
  | nil => exact h
  | cons c cs ih =>
    have : sayR (putG R c.key (R c.key ++ [⟨d, c.val, c.gone⟩])) n (apply1 P c) := fun key => by
      by_cases e : key = c.key
      · subst e
        rw [putG_same, behind_new (by exact hd), apply1_same hP]
      · rw [putG_other _ _ e, apply1_other hP e]
        exact h key
    exact ih (apply1_rise hP c) this
/-- and a span of them -/
theorem say_in {R : ByteArray → List Ver} {n : Int} {P F : List (ByteArray × ByteArray)} {s : ByteArray × ByteArray} (hP : riseP P) (hk : ∀ r ∈ P, r.1.size ≤ 1000000) (h : sayR R n P) (h1 : F.Pairwise fun a b => ltS b.1 a.1 = false) (h2 : (F.map (·.1)).Nodup) (hF : ∀ r, r ∈ F ↔ told R n s r) : F = inR P s := by
  refine rows_eq (rows_strict h1 h2) (hP.filter _) fun r => ?_
  unfold inR
  rw [hF, List.mem_filter]
  unfold told
  rw [h r.1, valR_iff hP]
  constructor
  · rintro ⟨_, h3, h4⟩; exact ⟨h4, h3⟩
  · rintro ⟨h3, h4⟩; exact ⟨by have := hk r h3; unfold maxLen; omega, h4, h3⟩
end Go.Proofs.YtighpalbodhfeaaGreatDoor

/-
  A change laid over rows that rise, as view.lay lays it: by the place of its key. Plain facts: it is what haywainref.Applied makes of them, also within a span.
-/
namespace Go.Proofs.YtighpalbodhfeaaGreatDoor
open Go.RowKit Go.Joins

def placeR (l : List (ByteArray × ByteArray)) (key : ByteArray) : Nat := l.findIdx fun r => !ltS r.1 key
def foundR (l : List (ByteArray × ByteArray)) (key : ByteArray) : Bool := match l[placeR l key]? with
  | some r => eqS r.1 key
  | none => false
/-- behind the row of a key, if it is there -/
def pastR (l : List (ByteArray × ByteArray)) (key : ByteArray) : Nat := if foundR l key then placeR l key + 1 else placeR l key
def layR (l : List (ByteArray × ByteArray)) (c : Chg) : List (ByteArray × ByteArray) := l.take (placeR l c.key) ++ (if c.gone then [] else [(c.key, c.val)]) ++ l.drop (pastR l c.key)
theorem placeR_le (l : List (ByteArray × ByteArray)) (key : ByteArray) : placeR l key ≤ l.length := List.findIdx_le_length
theorem placeR_cons (r : ByteArray × ByteArray) (l : List (ByteArray × ByteArray)) (key : ByteArray) : placeR (r :: l) key = if ltS r.1 key then placeR l key + 1 else 0 := by
  unfold placeR
  rw [List.findIdx_cons]
  cases ltS r.1 key <;> rfl
theorem foundR_lt {l : List (ByteArray × ByteArray)} {key : ByteArray} (h : foundR l key = true) : placeR l key < l.length := by
  rcases Nat.lt_or_ge (placeR l key) l.length with k | k
  · exact k
  · rw [foundR, List.getElem?_eq_none k] at h; cases h
theorem pastR_le (l : List (ByteArray × ByteArray)) (key : ByteArray) : pastR l key ≤ l.length := by
  unfold pastR
  split
  · rename_i h; exact foundR_lt h
  · exact placeR_le l key
theorem foundR_cons_lt {r : ByteArray × ByteArray} {l : List (ByteArray × ByteArray)} {key : ByteArray} (h : ltS r.1 key = true) : foundR (r :: l) key = foundR l key := by
  unfold foundR
  rw [placeR_cons, if_pos h, List.getElem?_cons_succ]
theorem foundR_cons_ge {r : ByteArray × ByteArray} {l : List (ByteArray × ByteArray)} {key : ByteArray} (h : ltS r.1 key = false) : foundR (r :: l) key = eqS r.1 key := by
  unfold foundR
  rw [placeR_cons, if_neg (by simp [h]), List.getElem?_cons_zero]
theorem pastR_cons_lt {r : ByteArray × ByteArray} {l : List (ByteArray × ByteArray)} {key : ByteArray} (h : ltS r.1 key = true) : pastR (r :: l) key = pastR l key + 1 := by
  unfold pastR
  rw [foundR_cons_lt h, placeR_cons, if_pos h]
  split <;> rfl
theorem pastR_cons_ge {r : ByteArray × ByteArray} {l : List (ByteArray × ByteArray)} {key : ByteArray} (h : ltS r.1 key = false) : pastR (r :: l) key = if eqS r.1 key then 1 else 0 := by
  unfold pastR
  rw [foundR_cons_ge h, placeR_cons, h]
  cases eqS r.1 key <;> rfl
theorem take_place {l : List (ByteArray × ByteArray)} (hl : riseP l) (key : ByteArray) : l.take (placeR l key) = l.filter fun r => ltS r.1 key := by
  induction l with
  | nil => rfl
  | cons r l ih =>
    replace hl := List.pairwise_cons.1 hl
    rw [placeR_cons]
    cases h : ltS r.1 key with
    | true => simp [h, ih hl.2]
    | false =>
      have : (l.filter fun x => ltS x.1 key) = [] := List.filter_eq_nil_iff.2 fun x hx e => by
        have := ltS_trans (hl.1 x hx) e
        rw [h] at this; cases this
      simp [h, this]
theorem drop_past {l : List (ByteArray × ByteArray)} (hl : riseP l) (key : ByteArray) : l.drop (pastR l key) = l.filter fun r => ltS key r.1 := by
  induction l with
  | nil => rfl
  | cons r l ih =>
    replace hl := List.pairwise_cons.1 hl
    cases h : ltS r.1 key with
    | true =>
      have h2 : ltS key r.1 = false := by
        cases e : ltS key r.1 with
        | false => rfl
        | true => have := ltS_trans e h; rw [ltS_irrefl] at this; cases this
      rw [pastR_cons_lt h, List.drop_succ_cons, ih hl.2]
      simp [h2]
    | false =>
      rw [pastR_cons_ge h]
      have hge : leS key r.1 = true := by rw [leS_not, h]; rfl
      have hup : ∀ x ∈ l, ltS key x.1 = true := fun x hx => by
        have h1 := hl.1 x hx
        rcases (leS_iff _ _).1 hge with h2 | h2
        · exact ltS_trans h2 h1
        · rw [h2]; exact h1
      have f2 : (l.filter fun x => ltS key x.1) = l := List.filter_eq_self.2 hup
      cases e : eqS r.1 key with
      | true =>
        have e2 := (eqS_iff _ _).1 e
        have hgt : ltS key r.1 = false := by rw [e2, ltS_irrefl]
        simp [hgt, f2]
      | false =>
        have hgt : ltS key r.1 = true := by
          rcases (leS_iff _ _).1 hge with h2 | h2
          · exact h2
          · rw [h2, eqS_yes] at e; cases e
        simp [hgt, f2]
/-- rows that rise, without one of a key: those below it and those above it -/
theorem filter_ne {l : List (ByteArray × ByteArray)} (hl : riseP l) (key : ByteArray) : (l.filter fun r => !eqS r.1 key) = (l.filter fun r => ltS r.1 key) ++ l.filter fun r => ltS key r.1 := by
  induction l with
  | nil => rfl
  | cons r l ih =>
    replace hl := List.pairwise_cons.1 hl
    have ih := ih hl.2
    cases h : ltS r.1 key with
    | true =>
      have hne : eqS r.1 key = false := eqS_no fun e => by rw [e, ltS_irrefl] at h; cases h
      have h2 : ltS key r.1 = false := by
        cases e : ltS key r.1 with
        | false => rfl
        | true => have := ltS_trans e h; rw [ltS_irrefl] at this; cases this
      simp [h, hne, h2, ih]
    | false =>
      have hge : leS key r.1 = true := by rw [leS_not, h]; rfl
      have hup : ∀ x ∈ l, ltS key x.1 = true := fun x hx => by
        have h1 := hl.1 x hx
        rcases (leS_iff _ _).1 hge with h2 | h2
        · exact ltS_trans h2 h1
        · rw [h2]; exact h1
      have f1 : (l.filter fun x => ltS x.1 key) = [] := List.filter_eq_nil_iff.2 fun x hx e => by
        have := ltS_trans (hup x hx) e; rw [ltS_irrefl] at this; cases this
      have f2 : (l.filter fun x => ltS key x.1) = l := List.filter_eq_self.2 hup
      rw [f1, f2] at ih
      cases e : eqS r.1 key with
      | true =>
        have e2 := (eqS_iff _ _).1 e
        have hgt : ltS key r.1 = false := by rw [e2, ltS_irrefl]
        simp [h, e, hgt, f1, f2, ih]
      | false =>
        have hgt : ltS key r.1 = true := by
          rcases (leS_iff _ _).1 hge with h2 | h2
          · exact h2
          · rw [h2, eqS_yes] at e; cases e
        simp [h, e, hgt, f1, f2, ih]
theorem lay_apply {l : List (ByteArray × ByteArray)} (hl : riseP l) (c : Chg) : layR l c = apply1 l c := by
  unfold layR
  rw [take_place hl, drop_past hl]
  cases h : c.gone with
  | true => rw [apply1_gone h, filter_ne hl]; simp
  | false => rw [apply1_put hl h]; simp
theorem in_apply1 {l : List (ByteArray × ByteArray)} (hl : riseP l) (c : Chg) (s : ByteArray × ByteArray) : inR (apply1 l c) s = if hasS s.1 s.2 c.key then apply1 (inR l s) c else inR l s := by
  unfold inR
  cases h : c.gone with
  | true =>
    rw [apply1_gone h, apply1_gone h, List.filter_filter]
    cases hs : hasS s.1 s.2 c.key with
    | true =>
      rw [if_pos rfl, List.filter_filter]
      refine List.filter_congr fun r _ => ?_
      rw [Bool.and_comm]
    | false =>
      rw [if_neg (by simp)]
      refine List.filter_congr fun r _ => ?_
      cases he : eqS r.1 c.key with
      | false => simp
      | true => rw [(eqS_iff _ _).1 he, hs]; rfl
  | false =>
    rw [apply1_put hl h, List.filter_append, List.filter_cons]
    cases hs : hasS s.1 s.2 c.key with
    | true =>
      rw [if_pos rfl, if_pos rfl, apply1_put (hl.filter _) h]
      simp only [List.filter_filter]
      congr 1
      · exact List.filter_congr fun r _ => Bool.and_comm _ _
      · rw [List.cons.injEq]
        exact ⟨rfl, List.filter_congr fun r _ => Bool.and_comm _ _⟩
    | false =>
      rw [if_neg (by simp), if_neg (by simp), ← List.filter_append, ← filter_ne hl, List.filter_filter]
      refine List.filter_congr fun r _ => ?_
      cases he : eqS r.1 c.key with
      | false => simp
      | true => rw [(eqS_iff _ _).1 he, hs]; rfl
/-- what a view sees of a span -/
def seenR (l : List (ByteArray × ByteArray)) (s : ByteArray × ByteArray) (cs : List Chg) : List (ByteArray × ByteArray) := cs.foldl (fun l c => if hasS s.1 s.2 c.key then layR l c else l) l
theorem seenR_take (l : List (ByteArray × ByteArray)) (s : ByteArray × ByteArray) (cs : List Chg) (k : Nat) (hk : k < cs.length) : seenR l s (cs.take (k + 1)) = if hasS s.1 s.2 cs[k].key then layR (seenR l s (cs.take k)) cs[k] else seenR l s (cs.take k) := by
  unfold seenR
  rw [List.take_succ_eq_append_getElem hk, List.foldl_append]; rfl
theorem seen_in : ∀ (cs : List Chg) {l : List (ByteArray × ByteArray)}, riseP l → ∀ (s : ByteArray × ByteArray), seenR (inR l s) s cs = inR (appliedA l cs) s
  | [], _, _, _ => rfl
  | c :: cs, l, hl, s => by
    have := seen_in cs (apply1_rise hl c) s
    show seenR (if hasS s.1 s.2 c.key then layR (inR l s) c else inR l s) s cs = inR (appliedA (apply1 l c) cs) s
    rw [← this, in_apply1 hl, lay_apply (show riseP (inR l s) from hl.filter _)]
theorem layR_len (l : List (ByteArray × ByteArray)) (c : Chg) : (layR l c).length ≤ l.length + 1 := by
  unfold layR
  have h1 := placeR_le l c.key
  have h2 := pastR_le l c.key
  have h3 : placeR l c.key ≤ pastR l c.key := by unfold pastR; split <;> omega
  simp only [List.length_append, List.length_take, List.length_drop]
  split <;> simp <;> omega
theorem seenR_len (l : List (ByteArray × ByteArray)) (s : ByteArray × ByteArray) : ∀ (cs : List Chg), (seenR l s cs).length ≤ l.length + cs.length := by
  intro cs
  induction cs generalizing l with
  | nil => exact Nat.le_refl _
  | cons c cs ih =>
    have h1 := ih (if hasS s.1 s.2 c.key then layR l c else l)
    have h2 := layR_len l c
    show (seenR (if hasS s.1 s.2 c.key then layR l c else l) s cs).length ≤ l.length + (cs.length + 1)
    split at h1 <;> rename_i hh
    · rw [if_pos hh]; omega
    · rw [if_neg hh]; omega
theorem lay_mem {l : List (ByteArray × ByteArray)} {c : Chg} {r : ByteArray × ByteArray} (h : r ∈ layR l c) : r ∈ l ∨ r.1 = c.key := by
  unfold layR at h
  rcases List.mem_append.1 h with h | h
  · rcases List.mem_append.1 h with h | h
    · exact .inl (List.mem_of_mem_take h)
    · cases hg : c.gone <;> rw [hg] at h
      · exact .inr (by rw [List.mem_singleton.1 h])
      · cases h
  · exact .inl (List.mem_of_mem_drop h)
theorem seen_keys {m : Nat} {s : ByteArray × ByteArray} : ∀ (cs : List Chg) {l : List (ByteArray × ByteArray)}, (∀ r ∈ l, r.1.size ≤ m) → (∀ c ∈ cs, c.key.size ≤ m) → ∀ r ∈ seenR l s cs, r.1.size ≤ m
  | [], _, hl, _ => hl
  | c :: cs, l, hl, hc => by
    have ih := seen_keys (s := s) cs (l := if hasS s.1 s.2 c.key then layR l c else l) (fun r hr => by
      split at hr
      · rcases lay_mem hr with h | h
        · exact hl r h
        · rw [h]; exact hc c (by simp)
      · exact hl r hr) (fun x hx => hc x (by simp [hx]))
    exact ih
end Go.Proofs.YtighpalbodhfeaaGreatDoor
