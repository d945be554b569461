/-
  Changes applied to rows, as haywainref.Applied applies them: one by one, by a fold. Plain facts.
-/
import Derived.Test.YtpbhcjkllfonhaaRefRows
import Derived.Test.YtpbhcjkllfonhaaChgMem
import Derived.Test.YtpbhcjkllfonhaaVerBehind
namespace Go.Proofs.Ytpbhcjkllfonhaa
open Go.RowKit Go.Joins

def stepA (c : Chg) (s : Bool × List (ByteArray × ByteArray)) (r : ByteArray × ByteArray) : Bool × List (ByteArray × ByteArray) :=
  (s.1 || leS c.key r.1, (if !s.1 && leS c.key r.1 then s.2 ++ [(c.key, c.val)] else s.2) ++ if eqS r.1 c.key then [] else [r])
def endA (c : Chg) (s : Bool × List (ByteArray × ByteArray)) : List (ByteArray × ByteArray) := if s.1 then s.2 else s.2 ++ [(c.key, c.val)]
def apply1 (l : List (ByteArray × ByteArray)) (c : Chg) : List (ByteArray × ByteArray) := endA c (l.foldl (stepA c) (c.gone, []))
def appliedA (l : List (ByteArray × ByteArray)) (cs : List Chg) : List (ByteArray × ByteArray) := cs.foldl apply1 l
theorem foldA_take (c : Chg) (l : List (ByteArray × ByteArray)) (s0 : Bool × List (ByteArray × ByteArray)) (k : Nat) (hk : k < l.length) : (l.take (k + 1)).foldl (stepA c) s0 = stepA c ((l.take k).foldl (stepA c) s0) l[k] := by
  rw [List.take_succ_eq_append_getElem hk, List.foldl_append]; rfl
theorem foldA_len (c : Chg) (l : List (ByteArray × ByteArray)) : ∀ (s : Bool × List (ByteArray × ByteArray)), ((l.foldl (stepA c) s).1 = false → (l.foldl (stepA c) s).2.length ≤ s.2.length + l.length) ∧ (l.foldl (stepA c) s).2.length ≤ s.2.length + l.length + (if s.1 then 0 else 1) ∧ (s.1 = true → (l.foldl (stepA c) s).1 = true) := by
  induction l with
  | nil => intro s; simp
  | cons r l ih =>
    intro s
    obtain ⟨h1, h2, h3⟩ := ih (stepA c s r)
    rw [List.foldl_cons]
    generalize hs : List.foldl (stepA c) (stepA c s r) l = t at *
    obtain ⟨laid, out⟩ := s
    cases laid with
    | true =>
      have e1 : (stepA c (true, out) r).1 = true := rfl
      have e2 : (stepA c (true, out) r).2.length ≤ out.length + 1 := by cases he : eqS r.1 c.key <;> simp [stepA, he]
      rw [e1] at h2 h3
      refine ⟨fun h => ?_, ?_, fun _ => h3 rfl⟩
      · rw [h3 rfl] at h; cases h
      · simp only [List.length_cons, if_true] at h2 ⊢; omega
    | false =>
      cases hle : leS c.key r.1 with
      | true =>
        have e1 : (stepA c (false, out) r).1 = true := by simp [stepA, hle]
        have e2 : (stepA c (false, out) r).2.length ≤ out.length + 2 := by cases he : eqS r.1 c.key <;> simp [stepA, hle, he]
        rw [e1] at h2 h3
        refine ⟨fun h => ?_, ?_, fun h => by cases h⟩
        · rw [h3 rfl] at h; cases h
        · simp only [List.length_cons, if_true, Bool.false_eq_true, if_false] at h2 ⊢; omega
      | false =>
        have e1 : (stepA c (false, out) r).1 = false := by simp [stepA, hle]
        have e2 : (stepA c (false, out) r).2.length ≤ out.length + 1 := by cases he : eqS r.1 c.key <;> simp [stepA, hle, he]
        rw [e1] at h2
        refine ⟨fun h => ?_, ?_, fun h => by cases h⟩
        · have := h1 h; simp only [List.length_cons]; omega
        · simp only [List.length_cons, Bool.false_eq_true, if_false] at h2 ⊢; omega
theorem apply1_len (l : List (ByteArray × ByteArray)) (c : Chg) : (apply1 l c).length ≤ l.length + 1 := by
  unfold apply1 endA
  obtain ⟨h1, h2, _⟩ := foldA_len c l (c.gone, [])
  split
  · refine Nat.le_trans h2 ?_
    simp only [List.length_nil]
    split <;> omega
  · rename_i h
    have := h1 (by simpa using h)
    simp at this ⊢
    omega
theorem appliedA_len : ∀ (cs : List Chg) (l : List (ByteArray × ByteArray)), (appliedA l cs).length ≤ l.length + cs.length
  | [], l => by simp [appliedA]
  | c :: cs, l => by
    have := appliedA_len cs (apply1 l c)
    have h := apply1_len l c
    simp only [appliedA, List.foldl_cons, List.length_cons] at this ⊢
    omega
theorem appliedA_take (l : List (ByteArray × ByteArray)) (cs : List Chg) (k : Nat) (hk : k < cs.length) : appliedA l (cs.take (k + 1)) = apply1 (appliedA l (cs.take k)) cs[k] := by
  unfold appliedA
  rw [List.take_succ_eq_append_getElem hk, List.foldl_append]; rfl
end Go.Proofs.Ytpbhcjkllfonhaa

/-
  Plain facts of vacuums: what is read behind a deed, and later ones, of a row's versions is read of those that are kept; done twice it is done once; how many versions are kept.
-/
namespace Go.Proofs.Ytpbhcjkllfonhaa
open Go.RowKit Go.Joins

theorem lastP_spec (vs : List Ver) (n : Int) : (lastP vs n = -1 ∧ ∀ x ∈ vs, n < x.deed) ∨ ∃ p : Nat, ∃ h : p < vs.length, lastP vs n = (p : Int) ∧ vs[p].deed ≤ n ∧ ∀ j (hj : j < vs.length), p < j → n < vs[j].deed := by
  unfold lastP
  cases hf : vs.reverse.findIdx? (fun x => decide (x.deed ≤ n)) with
  | none =>
    left
    refine ⟨rfl, fun x hx => ?_⟩
    have := List.findIdx?_eq_none_iff.1 hf x (by simpa using hx)
    simpa using this
  | some j =>
    right
    obtain ⟨hj, hp, hlt⟩ := List.findIdx?_eq_some_iff_getElem.1 hf
    have hj' : j < vs.length := by simpa using hj
    refine ⟨vs.length - 1 - j, by omega, by show (vs.length : Int) - 1 - (j : Int) = _; omega, ?_, fun i hi h => ?_⟩
    · rw [List.getElem_reverse] at hp; simpa using hp
    · have hi2 : vs.length - 1 - i < j := by omega
      have := hlt (vs.length - 1 - i) hi2
      rw [List.getElem_reverse] at this
      have e : vs.length - 1 - (vs.length - 1 - i) = i := by omega
      simp only [e] at this
      simpa using this
theorem lastP_at {vs : List Ver} {n : Int} {p : Nat} (h : p < vs.length) (h1 : vs[p].deed ≤ n) (h2 : ∀ j (hj : j < vs.length), p < j → n < vs[j].deed) : lastP vs n = (p : Int) := by
  rcases lastP_spec vs n with ⟨_, hn⟩ | ⟨q, hq, e, hq1, hq2⟩
  · have := hn _ (List.getElem_mem h); omega
  · rcases Nat.lt_trichotomy p q with k | k | k
    · have := h2 q hq k; omega
    · rw [e, k]
    · have := hq2 p h k; omega
theorem lastP_no {vs : List Ver} {n : Int} (h : ∀ x ∈ vs, n < x.deed) : lastP vs n = -1 := by
  rcases lastP_spec vs n with ⟨e, _⟩ | ⟨q, hq, _, hq1, _⟩
  · exact e
  · have := h _ (List.getElem_mem hq); omega
theorem lastV_app (a b : List Ver) (n : Int) : lastV (a ++ b) n = (lastV b n).or (lastV a n) := by
  unfold lastV
  rw [List.reverse_append, List.find?_append]
theorem lastV_none {l : List Ver} {n : Int} (h : ∀ x ∈ l, n < x.deed) : lastV l n = none := by
  unfold lastV
  rw [List.find?_eq_none]
  intro x hx
  have := h x (by simpa using hx)
  simp; omega
theorem lastV_last {l : List Ver} {x : Ver} {n : Int} (h : x.deed ≤ n) : lastV (l ++ [x]) n = some x := by
  rw [lastV_app]
  unfold lastV
  simp [h]
/-- the versions that are kept -/
def sinceV (vs : List Ver) (n : Int) : List Ver :=
  if lastP vs n < 0 then vs else if (vs[(lastP vs n).toNat]?.map (·.gone)).getD false then vs.drop ((lastP vs n).toNat + 1) else vs.drop (lastP vs n).toNat
theorem since_none {vs : List Ver} {n : Int} (h : lastP vs n = -1) : sinceV vs n = vs := by unfold sinceV; rw [h]; rfl
theorem since_some {vs : List Ver} {n : Int} {p : Nat} (h : p < vs.length) (e : lastP vs n = (p : Int)) : sinceV vs n = if vs[p].gone then vs.drop (p + 1) else vs.drop p := by
  unfold sinceV
  rw [e, if_neg (by omega), Int.toNat_natCast, List.getElem?_eq_getElem h]
  rfl
theorem behind_since {vs : List Ver} {n m : Int} (hm : n ≤ m) : behindV (sinceV vs n) m = behindV vs m := by
  rcases lastP_spec vs n with ⟨e, _⟩ | ⟨p, hp, e, h1, h2⟩
  · rw [since_none e]
  · rw [since_some hp e]
    by_cases hg : vs[p].gone = true
    · rw [if_pos hg]
      have hs : vs = (vs.take p ++ [vs[p]]) ++ vs.drop (p + 1) := by
        rw [← List.take_succ_eq_append_getElem hp, List.take_append_drop]
      have ha : lastV (vs.take p ++ [vs[p]]) m = some vs[p] := lastV_last (by omega)
      have hl : lastV vs m = (lastV (vs.drop (p + 1)) m).or (some vs[p]) := by
        conv => lhs; rw [hs]
        rw [lastV_app, ha]
      unfold behindV
      rw [hl]
      cases hb : lastV (vs.drop (p + 1)) m with
      | none => simp [hg]
      | some x => rfl
    · rw [if_neg hg]
      have hs : vs = vs.take p ++ vs.drop p := (List.take_append_drop p vs).symm
      have hl : lastV vs m = (lastV (vs.drop p) m).or (lastV (vs.take p) m) := by
        conv => lhs; rw [hs]
        rw [lastV_app]
      unfold behindV
      rw [hl]
      cases hb : lastV (vs.drop p) m with
      | none =>
        unfold lastV at hb
        rw [List.find?_eq_none] at hb
        have hi : vs[p] ∈ vs.drop p := by rw [List.drop_eq_getElem_cons hp]; exact List.mem_cons_self
        have := hb vs[p] (List.mem_reverse.2 hi)
        simp at this
        omega
      | some x => rfl
theorem since_twice (vs : List Ver) (n : Int) : sinceV (sinceV vs n) n = sinceV vs n := by
  rcases lastP_spec vs n with ⟨e, _⟩ | ⟨p, hp, e, h1, h2⟩
  · rw [since_none e, since_none e]
  · rw [since_some hp e]
    by_cases hg : vs[p].gone = true
    · rw [if_pos hg]
      refine since_none (lastP_no fun x hx => ?_)
      obtain ⟨i, hi, rfl⟩ := List.getElem_of_mem hx
      rw [List.getElem_drop]
      exact h2 _ _ (by omega)
    · rw [if_neg hg]
      have hl : 0 < (vs.drop p).length := by rw [List.length_drop]; omega
      have e0 : (vs.drop p)[0] = vs[p] := by rw [List.getElem_drop]; simp
      have e1 : lastP (vs.drop p) n = ((0 : Nat) : Int) := by
        refine lastP_at hl (by rw [e0]; exact h1) fun j hj h => ?_
        rw [List.getElem_drop]
        exact h2 _ _ (by omega)
      rw [since_some hl e1, e0, if_neg hg, List.drop_zero]
theorem since_len (vs : List Ver) (n : Int) : (sinceV vs n).length ≤ vs.length := by
  unfold sinceV
  split
  · exact Nat.le_refl _
  · split <;> simp
theorem since_nil (n : Int) : sinceV [] n = [] := since_none rfl
theorem since_mem {vs : List Ver} {n : Int} (h : sinceV vs n ≠ []) : vs ≠ [] := fun e => h (by rw [e]; exact since_nil n)
/-- how many versions there are of keys -/
def sumK (R : ByteArray → List Ver) (K : List ByteArray) : Nat := (K.map fun k => (R k).length).sum
theorem sumK_perm {R : ByteArray → List Ver} {K K' : List ByteArray} (h : K.Perm K') : sumK R K = sumK R K' := by
  unfold sumK
  induction h with
  | nil => rfl
  | cons x _ ih => rw [List.map_cons, List.map_cons, List.sum_cons, List.sum_cons, ih]
  | swap x y l => simp only [List.map_cons, List.sum_cons]; omega
  | trans _ _ ih1 ih2 => exact ih1.trans ih2
theorem sumK_le {R R' : ByteArray → List Ver} (h : ∀ k, (R' k).length ≤ (R k).length) : ∀ K : List ByteArray, sumK R' K ≤ sumK R K
  | [] => Nat.le_refl _
  | k :: K => by
    have := sumK_le h K
    have := h k
    unfold sumK at *
    simp only [List.map_cons, List.sum_cons]
    omega
theorem sumK_filter (R : ByteArray → List Ver) : ∀ K : List ByteArray, sumK R (K.filter fun k => decide (R k ≠ [])) = sumK R K
  | [] => rfl
  | k :: K => by
    have ih := sumK_filter R K
    unfold sumK at *
    by_cases e : R k = []
    · rw [List.filter_cons_of_neg (by simp [e]), List.map_cons, List.sum_cons, ih, e]; simp
    · rw [List.filter_cons_of_pos (by simp [e]), List.map_cons, List.sum_cons, List.map_cons, List.sum_cons, ih]
/-- the keys of which there is a version -/
def keysV (R : ByteArray → List Ver) (K : List ByteArray) : Prop := K.Nodup ∧ ∀ k, k ∈ K ↔ k.size ≤ maxLen ∧ R k ≠ []
theorem keysV_same {R : ByteArray → List Ver} {K K' : List ByteArray} (h : keysV R K) (h' : keysV R K') : sumK R K = sumK R K' :=
  sumK_perm ((List.perm_ext_iff_of_nodup h.1 h'.1).2 fun k => (h.2 k).trans (h'.2 k).symm)
def inK (K : List ByteArray) (key : ByteArray) : Bool := K.any fun y => decide (y = key)
theorem inK_iff (K : List ByteArray) (key : ByteArray) : inK K key = true ↔ key ∈ K := by simp [inK]
/-- rows of whose keys some have been gone over -/
def vacR (R : ByteArray → List Ver) (n : Int) (K : List ByteArray) : ByteArray → List Ver := fun key => if inK K key then sinceV (R key) n else R key
theorem vacR_nil (R : ByteArray → List Ver) (n : Int) : vacR R n [] = R := rfl
theorem vacR_in {R : ByteArray → List Ver} {n : Int} {K : List ByteArray} {key : ByteArray} (h : key ∈ K) : vacR R n K key = sinceV (R key) n := if_pos ((inK_iff K key).2 h)
theorem vacR_out {R : ByteArray → List Ver} {n : Int} {K : List ByteArray} {key : ByteArray} (h : key ∉ K) : vacR R n K key = R key := if_neg (fun e => h ((inK_iff K key).1 e))
theorem vacR_snoc (R : ByteArray → List Ver) (n : Int) (K : List ByteArray) (key : ByteArray) : vacR R n (K ++ [key]) = fun k => if k = key then sinceV (R key) n else vacR R n K k := by
  funext k
  by_cases e : k = key
  · subst e; rw [vacR_in (by simp)]; simp
  · show vacR R n (K ++ [key]) k = if k = key then sinceV (R key) n else vacR R n K k
    rw [if_neg e]
    by_cases h : k ∈ K
    · rw [vacR_in h, vacR_in (by simp [h])]
    · rw [vacR_out h, vacR_out (by simp [h, e])]
theorem behind_vac {R : ByteArray → List Ver} {n m : Int} (K : List ByteArray) (hm : n ≤ m) (key : ByteArray) : behindV (vacR R n K key) m = behindV (R key) m := by
  by_cases h : key ∈ K
  · rw [vacR_in h, behind_since hm]
  · rw [vacR_out h]
theorem vac_len (R : ByteArray → List Ver) (n : Int) (K : List ByteArray) (key : ByteArray) : (vacR R n K key).length ≤ (R key).length := by
  by_cases h : key ∈ K
  · rw [vacR_in h]; exact since_len _ _
  · rw [vacR_out h]; exact Nat.le_refl _
theorem vac_mem {R : ByteArray → List Ver} {n : Int} {K : List ByteArray} {key : ByteArray} (h : vacR R n K key ≠ []) : R key ≠ [] := fun e => h (by
  have := vac_len R n K key
  rw [e] at this
  exact List.length_eq_zero_iff.1 (by simpa using this))
theorem keysV_vac {R : ByteArray → List Ver} {L K K' : List ByteArray} {n : Int} (h : keysV R K) (h' : keysV (vacR R n L) K') : sumK (vacR R n L) K' ≤ sumK R K := by
  have hp : (K.filter fun k => decide (vacR R n L k ≠ [])).Perm K' := by
    rw [List.perm_ext_iff_of_nodup (h.1.filter _) h'.1]
    intro k
    rw [List.mem_filter, h.2 k, h'.2 k, decide_eq_true_iff]
    exact ⟨fun ⟨⟨a, _⟩, c⟩ => ⟨a, c⟩, fun ⟨a, c⟩ => ⟨⟨a, vac_mem c⟩, c⟩⟩
  rw [← sumK_perm hp, sumK_filter (vacR R n L) K]
  exact sumK_le (vac_len R n L) K
theorem vac_twice {R : ByteArray → List Ver} {K K1 : List ByteArray} {n : Int} (h : keysV R K) (h1 : keysV (vacR R n K) K1) : vacR (vacR R n K) n K1 = vacR R n K := by
  funext key
  by_cases hk : key ∈ K1
  · obtain ⟨a, c⟩ := (h1.2 key).1 hk
    have hk' : key ∈ K := (h.2 key).2 ⟨a, vac_mem c⟩
    rw [vacR_in hk, vacR_in hk', since_twice]
  · rw [vacR_out hk]
end Go.Proofs.Ytpbhcjkllfonhaa
