/-
  Plain facts of haywainlaw.VersionsSays: how many versions are left behind a vacuum of all numbers.
-/
import Derived.Test.YtpbhcjkllfonhaaGreatRefAppL
namespace Go.Proofs.YtpbhcjkllfonhaaGreat
open Go.RowKit Go.Joins

/-- all deeds are of numbers up to n -/
def upToR (R : ByteArray → List Ver) (n : Int) : Prop := ∀ key, ∀ x ∈ R key, x.deed ≤ n
theorem since_all {vs : List Ver} {n : Int} (h : ∀ x ∈ vs, x.deed ≤ n) : (sinceV vs n).length = if (behindV vs n).2 then 1 else 0 := by
  by_cases e : vs = []
  · subst e; rw [since_nil]; rfl
  · have hl : vs.length - 1 < vs.length := by have := List.length_pos_iff.2 e; omega
    have hp : lastP vs n = ((vs.length - 1 : Nat) : Int) := lastP_at hl (h _ (List.getElem_mem hl)) fun j hj hlt => by omega
    have hv : vs = vs.dropLast ++ [vs[vs.length - 1]] := by
      rw [← List.getLast_eq_getElem e]; exact (List.dropLast_concat_getLast e).symm
    have hb : behindV vs n = if vs[vs.length - 1].gone then (⟨#[]⟩, false) else (vs[vs.length - 1].val, true) := by
      have := behind_new (vs := vs.dropLast) (h _ (List.getElem_mem hl))
      rwa [← hv] at this
    rw [since_some hl hp, hb]
    cases vs[vs.length - 1].gone with
    | true => simp; omega
    | false => simp; omega
theorem valR_mem {P : List (ByteArray × ByteArray)} (hP : riseP P) (key : ByteArray) : (valR P key).2 = true ↔ key ∈ P.map (·.1) := by
  rw [List.mem_map]
  constructor
  · intro h
    have e : valR P key = ((valR P key).1, true) := by rw [← h]
    exact ⟨_, (valR_iff hP _ _).1 e, rfl⟩
  · rintro ⟨r, hr, rfl⟩
    rw [(valR_iff hP r.1 r.2).2 hr]
theorem rise_nodup {P : List (ByteArray × ByteArray)} (hP : riseP P) : (P.map (·.1)).Nodup := by
  unfold List.Nodup
  rw [List.pairwise_map]
  exact List.Pairwise.imp (fun {a b} h e => by rw [e, ltS_irrefl] at h; cases h) hP
theorem ones : ∀ (P : List (ByteArray × ByteArray)), (P.map fun _ => 1).sum = P.length
  | [] => rfl
  | _ :: P => by rw [List.map_cons, List.sum_cons, ones P, List.length_cons, Nat.add_comm]
theorem count_all {R : ByteArray → List Ver} {n : Int} {K K' : List ByteArray} {P : List (ByteArray × ByteArray)} (hK : keysV R K) (hK' : keysV (vacR R n K) K') (hu : upToR R n) (hP : riseP P) (hk : ∀ r ∈ P, r.1.size ≤ maxLen) (h : sayR R n P) : sumK (vacR R n K) K' = P.length := by
  have hlen : ∀ key, key.size ≤ maxLen → (vacR R n K key).length = if (valR P key).2 then 1 else 0 := fun key hs => by
    by_cases hin : key ∈ K
    · rw [vacR_in hin, since_all (hu key), h key]
    · have e : R key = [] := by
        by_cases e : R key = []
        · exact e
        · exact absurd ((hK.2 key).2 ⟨hs, e⟩) hin
      rw [vacR_out hin, ← h key, e]
      rfl
  have hk' : keysV (vacR R n K) (P.map (·.1)) := ⟨rise_nodup hP, fun key => by
    constructor
    · intro hm
      have hs : key.size ≤ maxLen := by
        obtain ⟨r, hr, rfl⟩ := List.mem_map.1 hm
        exact hk r hr
      refine ⟨hs, fun e => ?_⟩
      have := hlen key hs
      rw [(valR_mem hP key).2 hm, e] at this
      simp at this
    · rintro ⟨hs, hne⟩
      rw [← valR_mem hP]
      cases e : (valR P key).2 with
      | true => rfl
      | false =>
        have := hlen key hs
        rw [e] at this
        exact absurd (List.length_eq_zero_iff.1 (by simpa using this)) hne⟩
  rw [keysV_same hK' hk']
  unfold sumK
  have : ((P.map (·.1)).map fun k => (vacR R n K k).length) = P.map fun _ => 1 := by
    rw [List.map_map]
    refine List.map_congr_left fun r hr => ?_
    show (vacR R n K r.1).length = 1
    rw [hlen r.1 (hk r hr), (valR_mem hP r.1).2 (List.mem_map_of_mem hr)]
    rfl
  rw [this]
  exact ones P
theorem upTo_init (l : List (ByteArray × ByteArray)) : upToR (initR l) 0 := by
  have aux : ∀ (l : List (ByteArray × ByteArray)) (R : ByteArray → List Ver), upToR R 0 → upToR (l.foldl (fun R r => putG R r.1 [⟨0, r.2, false⟩]) R) 0 := by
    intro l
    induction l with
    | nil => exact fun R h => h
    | cons r l ih =>
      intro R h
      refine ih _ fun key x hx => ?_
      dsimp only at hx
      by_cases e : key = r.1
      · subst e
        rw [putG_same] at hx
        rw [List.mem_singleton.1 hx]
        exact Int.le_refl _
      · rw [putG_other _ _ e] at hx
        exact h key x hx
  exact aux l _ fun key x hx => by cases hx
theorem upTo_apply {R : ByteArray → List Ver} {d : Int} (h : upToR R d) : ∀ (cs : List Chg), upToR (applyR R d cs) d := by
  intro cs
  induction cs generalizing R with
  | nil => exact h
  | cons c cs ih =>
    refine ih fun key x hx => ?_
    dsimp only at hx
    by_cases e : key = c.key
    · subst e
      rw [putG_same] at hx
      rcases List.mem_append.1 hx with hx | hx
      · exact h _ x hx
      · rw [List.mem_singleton.1 hx]
        exact Int.le_refl _
    · rw [putG_other _ _ e] at hx
      exact h key x hx
theorem upTo_mono {R : ByteArray → List Ver} {a b : Int} (h : upToR R a) (hab : a ≤ b) : upToR R b := fun key x hx => Int.le_trans (h key x hx) hab
theorem since_sub {vs : List Ver} {n : Int} {x : Ver} (h : x ∈ sinceV vs n) : x ∈ vs := by
  unfold sinceV at h
  split at h
  · exact h
  · split at h <;> exact List.mem_of_mem_drop h
theorem upTo_vac {R : ByteArray → List Ver} {d n : Int} (h : upToR R d) (K : List ByteArray) : upToR (vacR R n K) d := fun key x hx => by
  by_cases hin : key ∈ K
  · rw [vacR_in hin] at hx; exact h key x (since_sub hx)
  · rw [vacR_out hin] at hx; exact h key x hx
theorem say_init {l : List (ByteArray × ByteArray)} (hp : riseP l) : sayR (initR l) 0 l := by
  have aux : ∀ (l : List (ByteArray × ByteArray)), riseP l → ∀ (R : ByteArray → List Ver) (key : ByteArray), behindV ((l.foldl (fun R r => putG R r.1 [⟨0, r.2, false⟩]) R) key) 0 = if (valR l key).2 then valR l key else behindV (R key) 0 := by
    intro l
    induction l with
    | nil => intro _ R key; rfl
    | cons r l ih =>
      intro hp R key
      replace hp := List.pairwise_cons.1 hp
      rw [List.foldl_cons, ih hp.2, valR_cons]
      cases he : eqS r.1 key with
      | true =>
        have e := (eqS_iff _ _).1 he
        subst e
        have hm : valR l r.1 = (⟨#[]⟩, false) := valR_miss fun x hx => eqS_no fun e => by
          have := hp.1 x hx; rw [e, ltS_irrefl] at this; cases this
        rw [hm, putG_same]
        rfl
      | false =>
        have e : key ≠ r.1 := fun e => by rw [e, eqS_yes] at he; cases he
        rw [putG_other _ _ e]
        simp
  intro key
  have := aux l hp (fun _ => []) key
  cases e : (valR l key).2 with
  | true => rw [e] at this; exact this
  | false => rw [e] at this; rw [valR_val e]; exact this
end Go.Proofs.YtpbhcjkllfonhaaGreat
