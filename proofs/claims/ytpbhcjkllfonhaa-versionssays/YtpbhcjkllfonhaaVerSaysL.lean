/-
  Plain facts of haywainlaw.VersionsSays: rows that rise, changes applied to them, and what a store's versions tell of them.
-/
import Derived.Test.YtpbhcjkllfonhaaRefAppL
import Derived.Test.YtpbhcjkllfonhaaVerPast
namespace Go.Proofs.Ytpbhcjkllfonhaa
open Go.RowKit Go.Joins

abbrev riseP (l : List (ByteArray × ByteArray)) : Prop := l.Pairwise fun a b => ltS a.1 b.1 = true
theorem eqS_no {a b : ByteArray} (h : a ≠ b) : eqS a b = false := by
  cases e : eqS a b with
  | false => rfl
  | true => exact absurd ((eqS_iff _ _).1 e) h
theorem eqS_yes (a : ByteArray) : eqS a a = true := (eqS_iff _ _).2 rfl
theorem valR_cons (r : ByteArray × ByteArray) (l : List (ByteArray × ByteArray)) (key : ByteArray) : valR (r :: l) key = if eqS r.1 key then (r.2, true) else valR l key := by
  unfold valR
  rw [List.find?_cons]
  cases eqS r.1 key <;> rfl
theorem valR_app (a b : List (ByteArray × ByteArray)) (key : ByteArray) : valR (a ++ b) key = if (valR a key).2 then valR a key else valR b key := by
  induction a with
  | nil => rfl
  | cons r a ih =>
    rw [List.cons_append, valR_cons, valR_cons]
    cases h : eqS r.1 key with
    | true => simp
    | false => simpa using ih
/-- what the fold has told so far -/
theorem step_true (c : Chg) : ∀ (l out : List (ByteArray × ByteArray)), (l.foldl (stepA c) (true, out)) = (true, out ++ l.filter fun r => !eqS r.1 c.key)
  | [], out => by simp
  | r :: l, out => by
    rw [List.foldl_cons]
    have e : stepA c (true, out) r = (true, out ++ if eqS r.1 c.key then [] else [r]) := by simp [stepA]
    rw [e, step_true c l]
    cases h : eqS r.1 c.key <;> simp [h]
/-- one put among rows that rise: those below, it, those above -/
theorem step_false (c : Chg) : ∀ (l out : List (ByteArray × ByteArray)), riseP l → endA c (l.foldl (stepA c) (false, out)) = out ++ (l.filter fun r => ltS r.1 c.key) ++ (c.key, c.val) :: l.filter fun r => ltS c.key r.1
  | [], out, _ => by simp [endA]
  | r :: l, out, h => by
    replace h := List.pairwise_cons.1 h
    rw [List.foldl_cons]
    cases hle : leS c.key r.1 with
    | false =>
      have hlt : ltS r.1 c.key = true := by have := leS_not c.key r.1; rw [hle] at this; simpa using this
      have hne : eqS r.1 c.key = false := eqS_no fun e => by rw [e, ltS_irrefl] at hlt; cases hlt
      have hgt : ltS c.key r.1 = false := by
        cases e : ltS c.key r.1 with
        | false => rfl
        | true => have := ltS_trans e hlt; rw [ltS_irrefl] at this; cases this
      have e : stepA c (false, out) r = (false, out ++ [r]) := by simp [stepA, hle, hne]
      rw [e, step_false c l _ h.2]
      simp [hlt, hgt]
    | true =>
      have e : stepA c (false, out) r = (true, out ++ [(c.key, c.val)] ++ if eqS r.1 c.key then [] else [r]) := by simp [stepA, hle]
      rw [e, step_true]
      have hup : ∀ x ∈ l, ltS c.key x.1 = true := fun x hx => by
        have h1 := h.1 x hx
        rcases (leS_iff _ _).1 hle with h2 | h2
        · exact ltS_trans h2 h1
        · rw [h2]; exact h1
      have f1 : (l.filter fun r => ltS r.1 c.key) = [] := List.filter_eq_nil_iff.2 fun x hx e => by
        have := ltS_trans (hup x hx) e; rw [ltS_irrefl] at this; cases this
      have f2 : (l.filter fun r => ltS c.key r.1) = l := List.filter_eq_self.2 hup
      have f3 : (l.filter fun r => !eqS r.1 c.key) = l := List.filter_eq_self.2 fun x hx => by
        rw [eqS_no fun e => by have := hup x hx; rw [e, ltS_irrefl] at this; cases this]; rfl
      have hlt : ltS r.1 c.key = false := by have := leS_not c.key r.1; rw [hle] at this; simpa using this
      rw [f3]
      cases heq : eqS r.1 c.key with
      | true =>
        have e2 := (eqS_iff _ _).1 heq
        have hgt : ltS c.key r.1 = false := by rw [e2, ltS_irrefl]
        simp [endA, hlt, hgt, f1, f2]
      | false =>
        have hgt : ltS c.key r.1 = true := by
          rcases (leS_iff _ _).1 hle with h2 | h2
          · exact h2
          · rw [h2, eqS_yes] at heq; cases heq
        simp [endA, hlt, hgt, f1, f2]
theorem apply1_gone {l : List (ByteArray × ByteArray)} {c : Chg} (h : c.gone = true) : apply1 l c = l.filter fun r => !eqS r.1 c.key := by
  unfold apply1
  rw [h, step_true]
  simp [endA]
theorem apply1_put {l : List (ByteArray × ByteArray)} {c : Chg} (hl : riseP l) (h : c.gone = false) : apply1 l c = (l.filter fun r => ltS r.1 c.key) ++ (c.key, c.val) :: l.filter fun r => ltS c.key r.1 := by
  unfold apply1
  rw [h, step_false c l [] hl]
  simp
theorem apply1_rise {l : List (ByteArray × ByteArray)} (hl : riseP l) (c : Chg) : riseP (apply1 l c) := by
  cases h : c.gone with
  | true => rw [apply1_gone h]; exact hl.filter _
  | false =>
    rw [apply1_put hl h]
    unfold riseP
    rw [List.pairwise_append]
    refine ⟨hl.filter _, ?_, ?_⟩
    · rw [List.pairwise_cons]
      exact ⟨fun x hx => (List.mem_filter.1 hx).2, hl.filter _⟩
    · intro x hx y hy
      have h1 := (List.mem_filter.1 hx).2
      rcases List.mem_cons.1 hy with rfl | hy
      · exact h1
      · exact ltS_trans h1 (List.mem_filter.1 hy).2
theorem applied_rise {l : List (ByteArray × ByteArray)} (hl : riseP l) (cs : List Chg) : riseP (appliedA l cs) := by
  unfold appliedA
  induction cs generalizing l with
  | nil => exact hl
  | cons c cs ih => exact ih (apply1_rise hl c)
/-- the value of a key among rows that rise -/
theorem valR_iff {l : List (ByteArray × ByteArray)} (hl : riseP l) (key v : ByteArray) : valR l key = (v, true) ↔ (key, v) ∈ l := by
  induction l with
  | nil => simp [valR]
  | cons r l ih =>
    replace hl := List.pairwise_cons.1 hl
    rw [valR_cons]
    cases h : eqS r.1 key with
    | true =>
      have e := (eqS_iff _ _).1 h
      subst e
      constructor
      · intro h'
        have : r.2 = v := by simpa using h'
        subst this
        simp
      · intro h'
        rcases List.mem_cons.1 h' with e | e
        · rw [if_pos rfl, show r.2 = v from (congrArg Prod.snd e).symm]
        · have := hl.1 _ e; rw [ltS_irrefl] at this; cases this
    | false =>
      rw [if_neg (by simp), ih hl.2, List.mem_cons]
      constructor
      · exact .inr
      · rintro (e | e)
        · rw [← e, eqS_yes] at h; cases h
        · exact e
theorem valR_val {l : List (ByteArray × ByteArray)} {key : ByteArray} (h : (valR l key).2 = false) : valR l key = (⟨#[]⟩, false) := by
  unfold valR at h ⊢
  split at h <;> simp_all
theorem valR_ext {l m : List (ByteArray × ByteArray)} (hl : riseP l) (hm : riseP m) {key : ByteArray} (h : ∀ v, (key, v) ∈ l ↔ (key, v) ∈ m) : valR l key = valR m key := by
  cases e : (valR l key).2 with
  | true =>
    have e1 : valR l key = ((valR l key).1, true) := by rw [← e]
    have := (valR_iff hm key _).2 ((h _).1 ((valR_iff hl key _).1 e1))
    rw [e1, this]
  | false =>
    cases e' : (valR m key).2 with
    | false => rw [valR_val e, valR_val e']
    | true =>
      have e1 : valR m key = ((valR m key).1, true) := by rw [← e']
      have := (valR_iff hl key _).2 ((h _).2 ((valR_iff hm key _).1 e1))
      rw [this] at e; cases e
theorem apply1_other {l : List (ByteArray × ByteArray)} (hl : riseP l) {c : Chg} {key : ByteArray} (hk : key ≠ c.key) : valR (apply1 l c) key = valR l key := by
  refine valR_ext (apply1_rise hl c) hl fun v => ?_
  cases h : c.gone with
  | true =>
    rw [apply1_gone h, List.mem_filter, eqS_no hk]; simp
  | false =>
    rw [apply1_put hl h, List.mem_append, List.mem_cons, List.mem_filter, List.mem_filter]
    constructor
    · rintro (h' | h' | h')
      · exact h'.1
      · exact absurd (congrArg Prod.fst h') hk
      · exact h'.1
    · intro h'
      cases e : ltS key c.key with
      | true => exact .inl ⟨h', rfl⟩
      | false =>
        refine .inr (.inr ⟨h', ?_⟩)
        have h2 : leS c.key key = true := by rw [leS_not, e]; rfl
        rcases (leS_iff _ _).1 h2 with h3 | h3
        · exact h3
        · exact absurd h3.symm hk
theorem apply1_same {l : List (ByteArray × ByteArray)} (hl : riseP l) (c : Chg) : valR (apply1 l c) c.key = if c.gone then (⟨#[]⟩, false) else (c.val, true) := by
  cases h : c.gone with
  | true =>
    refine valR_miss fun r hr => ?_
    rw [apply1_gone h, List.mem_filter] at hr
    simpa using hr.2
  | false =>
    refine (valR_iff (apply1_rise hl c) _ _).2 ?_
    rw [apply1_put hl h]
    simp
/-- what the versions tell at a number is what the rows tell -/
def sayR (R : ByteArray → List Ver) (n : Int) (P : List (ByteArray × ByteArray)) : Prop := ∀ key, behindV (R key) n = valR P key
theorem behind_new {vs : List Ver} {x : Ver} {n : Int} (h : x.deed ≤ n) : behindV (vs ++ [x]) n = if x.gone then (⟨#[]⟩, false) else (x.val, true) := by
  unfold behindV
  rw [lastV_last h]
theorem say_apply {R : ByteArray → List Ver} {d n : Int} {P : List (ByteArray × ByteArray)} (hd : d ≤ n) (hP : riseP P) (h : sayR R n P) : ∀ (cs : List Chg), sayR (applyR R d cs) n (appliedA P cs) := by
  intro cs
  induction cs generalizing R P with
  | nil => exact h
  | cons c cs ih =>
    have : sayR (putG R c.key (R c.key ++ [⟨d, c.val, c.gone⟩])) n (apply1 P c) := fun key => by
      by_cases e : key = c.key
      · subst e
        rw [putG_same, behind_new (by exact hd), apply1_same hP]
      · rw [putG_other _ _ e, apply1_other hP e]
        exact h key
    exact ih (apply1_rise hP c) this
/-- and a span of them -/
theorem say_in {R : ByteArray → List Ver} {n : Int} {P F : List (ByteArray × ByteArray)} {s : ByteArray × ByteArray} (hP : riseP P) (hk : ∀ r ∈ P, r.1.size ≤ 1000000) (h : sayR R n P) (h1 : F.Pairwise fun a b => ltS b.1 a.1 = false) (h2 : (F.map (·.1)).Nodup) (hF : ∀ r, r ∈ F ↔ told R n s r) : F = inR P s := by
  refine rows_eq (rows_strict h1 h2) (hP.filter _) fun r => ?_
  unfold inR
  rw [hF, List.mem_filter]
  unfold told
  rw [h r.1, valR_iff hP]
  constructor
  · rintro ⟨_, h3, h4⟩; exact ⟨h4, h3⟩
  · rintro ⟨h3, h4⟩; exact ⟨by have := hk r h3; unfold maxLen; omega, h4, h3⟩
end Go.Proofs.Ytpbhcjkllfonhaa

/-
  Plain facts of haywainlaw.VersionsSays: how many versions are left behind a vacuum of all numbers.
-/
namespace Go.Proofs.Ytpbhcjkllfonhaa
open Go.RowKit Go.Joins

/-- all deeds are of numbers up to n -/
def upToR (R : ByteArray → List Ver) (n : Int) : Prop := ∀ key, ∀ x ∈ R key, x.deed ≤ n
theorem since_all {vs : List Ver} {n : Int} (h : ∀ x ∈ vs, x.deed ≤ n) : (sinceV vs n).length = if (behindV vs n).2 then 1 else 0 := by
  by_cases e : vs = []
  · subst e; rw [since_nil]; rfl
  · have hl : vs.length - 1 < vs.length := by have := List.length_pos_iff.2 e; omega
    have hp : lastP vs n = ((vs.length - 1 : Nat) : Int) := lastP_at hl (h _ (List.getElem_mem hl)) fun j hj hlt => by omega
    have hv : vs = vs.dropLast ++ [vs[vs.length - 1]] := by
      rw [← List.getLast_eq_getElem e]; exact (List.dropLast_concat_getLast e).symm
    have hb : behindV vs n = if vs[vs.length - 1].gone then (⟨#[]⟩, false) else (vs[vs.length - 1].val, true) := by
      have := behind_new (vs := vs.dropLast) (h _ (List.getElem_mem hl))
      rwa [← hv] at this
    rw [since_some hl hp, hb]
    cases vs[vs.length - 1].gone with
    | true => simp; omega
    | false => simp; omega
theorem valR_mem {P : List (ByteArray × ByteArray)} (hP : riseP P) (key : ByteArray) : (valR P key).2 = true ↔ key ∈ P.map (·.1) := by
  rw [List.mem_map]
  constructor
  · intro h
    have e : valR P key = ((valR P key).1, true) := by rw [← h]
    exact ⟨_, (valR_iff hP _ _).1 e, rfl⟩
  · rintro ⟨r, hr, rfl⟩
    rw [(valR_iff hP r.1 r.2).2 hr]
theorem rise_nodup {P : List (ByteArray × ByteArray)} (hP : riseP P) : (P.map (·.1)).Nodup := by
  unfold List.Nodup
  rw [List.pairwise_map]
  exact List.Pairwise.imp (fun {a b} h e => by rw [e, ltS_irrefl] at h; cases h) hP
theorem ones : ∀ (P : List (ByteArray × ByteArray)), (P.map fun _ => 1).sum = P.length
  | [] => rfl
  | _ :: P => by rw [List.map_cons, List.sum_cons, ones P, List.length_cons, Nat.add_comm]
theorem count_all {R : ByteArray → List Ver} {n : Int} {K K' : List ByteArray} {P : List (ByteArray × ByteArray)} (hK : keysV R K) (hK' : keysV (vacR R n K) K') (hu : upToR R n) (hP : riseP P) (hk : ∀ r ∈ P, r.1.size ≤ maxLen) (h : sayR R n P) : sumK (vacR R n K) K' = P.length := by
  have hlen : ∀ key, key.size ≤ maxLen → (vacR R n K key).length = if (valR P key).2 then 1 else 0 := fun key hs => by
    by_cases hin : key ∈ K
    · rw [vacR_in hin, since_all (hu key), h key]
    · have e : R key = [] := by
        by_cases e : R key = []
        · exact e
        · exact absurd ((hK.2 key).2 ⟨hs, e⟩) hin
      rw [vacR_out hin, ← h key, e]
      rfl
  have hk' : keysV (vacR R n K) (P.map (·.1)) := ⟨rise_nodup hP, fun key => by
    constructor
    · intro hm
      have hs : key.size ≤ maxLen := by
        obtain ⟨r, hr, rfl⟩ := List.mem_map.1 hm
        exact hk r hr
      refine ⟨hs, fun e => ?_⟩
      have := hlen key hs
      rw [(valR_mem hP key).2 hm, e] at this
      simp at this
    · rintro ⟨hs, hne⟩
      rw [← valR_mem hP]
      cases e : (valR P key).2 with
      | true => rfl
      | false =>
        have := hlen key hs
        rw [e] at this
        exact absurd (List.length_eq_zero_iff.1 (by simpa using this)) hne⟩
  rw [keysV_same hK' hk']
  unfold sumK
  have : ((P.map (·.1)).map fun k => (vacR R n K k).length) = P.map fun _ => 1 := by
    rw [List.map_map]
    refine List.map_congr_left fun r hr => ?_
    show (vacR R n K r.1).length = 1
    rw [hlen r.1 (hk r hr), (valR_mem hP r.1).2 (List.mem_map_of_mem hr)]
    rfl
  rw [this]
  exact ones P
theorem upTo_init (l : List (ByteArray × ByteArray)) : upToR (initR l) 0 := by
  have aux : ∀ (l : List (ByteArray × ByteArray)) (R : ByteArray → List Ver), upToR R 0 → upToR (l.foldl (fun R r => putG R r.1 [⟨0, r.2, false⟩]) R) 0 := by
    intro l
    induction l with
    | nil => exact fun R h => h
    | cons r l ih =>
      intro R h
      refine ih _ fun key x hx => ?_
      dsimp only at hx
      by_cases e : key = r.1
      · subst e
        rw [putG_same] at hx
        rw [List.mem_singleton.1 hx]
        exact Int.le_refl _
      · rw [putG_other _ _ e] at hx
        exact h key x hx
  exact aux l _ fun key x hx => by cases hx
theorem upTo_apply {R : ByteArray → List Ver} {d : Int} (h : upToR R d) : ∀ (cs : List Chg), upToR (applyR R d cs) d := by
  intro cs
  induction cs generalizing R with
  | nil => exact h
  | cons c cs ih =>
    refine ih fun key x hx => ?_
    dsimp only at hx
    by_cases e : key = c.key
    · subst e
      rw [putG_same] at hx
      rcases List.mem_append.1 hx with hx | hx
      · exact h _ x hx
      · rw [List.mem_singleton.1 hx]
        exact Int.le_refl _
    · rw [putG_other _ _ e] at hx
      exact h key x hx
theorem upTo_mono {R : ByteArray → List Ver} {a b : Int} (h : upToR R a) (hab : a ≤ b) : upToR R b := fun key x hx => Int.le_trans (h key x hx) hab
theorem since_sub {vs : List Ver} {n : Int} {x : Ver} (h : x ∈ sinceV vs n) : x ∈ vs := by
  unfold sinceV at h
  split at h
  · exact h
  · split at h <;> exact List.mem_of_mem_drop h
theorem upTo_vac {R : ByteArray → List Ver} {d n : Int} (h : upToR R d) (K : List ByteArray) : upToR (vacR R n K) d := fun key x hx => by
  by_cases hin : key ∈ K
  · rw [vacR_in hin] at hx; exact h key x (since_sub hx)
  · rw [vacR_out hin] at hx; exact h key x hx
theorem say_init {l : List (ByteArray × ByteArray)} (hp : riseP l) : sayR (initR l) 0 l := by
  have aux : ∀ (l : List (ByteArray × ByteArray)), riseP l → ∀ (R : ByteArray → List Ver) (key : ByteArray), behindV ((l.foldl (fun R r => putG R r.1 [⟨0, r.2, false⟩]) R) key) 0 = if (valR l key).2 then valR l key else behindV (R key) 0 := by
    intro l
    induction l with
    | nil => intro _ R key; rfl
    | cons r l ih =>
      intro hp R key
      replace hp := List.pairwise_cons.1 hp
      rw [List.foldl_cons, ih hp.2, valR_cons]
      cases he : eqS r.1 key with
      | true =>
        have e := (eqS_iff _ _).1 he
        subst e
        have hm : valR l r.1 = (⟨#[]⟩, false) := valR_miss fun x hx => eqS_no fun e => by
          have := hp.1 x hx; rw [e, ltS_irrefl] at this; cases this
        rw [hm, putG_same]
        rfl
      | false =>
        have e : key ≠ r.1 := fun e => by rw [e, eqS_yes] at he; cases he
        rw [putG_other _ _ e]
        simp
  intro key
  have := aux l hp (fun _ => []) key
  cases e : (valR l key).2 with
  | true => rw [e] at this; exact this
  | false => rw [e] at this; rw [valR_val e]; exact this
end Go.Proofs.Ytpbhcjkllfonhaa
