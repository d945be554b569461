/-
  Plain facts of haywaintop.TopOwn: what is found among changes behind a change more; a row put and deleted is a row deleted.
-/
import Derived.Test.YtjphbmdmnicjpacViewGet2
namespace Go.Proofs.Ytjphbmdmnicjpac
open Go.RowKit Go.Joins

theorem findC_nil (key : ByteArray) : findC [] key = none := rfl
theorem findC_cons (x : Chg) (l : List Chg) (key : ByteArray) : findC (x :: l) key = if ltS x.key key then findC l key else if eqS x.key key then some x else none := by
  unfold findC
  rw [foundL_cons, placeL_cons]
  by_cases h : ltS x.key key = true
  · rw [if_pos h, if_pos h, if_pos h, List.getElem?_cons_succ]
  · rw [if_neg h, if_neg h, if_neg h, List.getElem?_cons_zero]
theorem findC_ins_same (l : List Chg) (c : Chg) : findC (insL l c) c.key = some c := by
  obtain ⟨h1, h2⟩ := ins_found l c
  unfold findC
  rw [if_pos h1, h2]
theorem findC_ins_other {c : Chg} {key : ByteArray} (hne : key ≠ c.key) : ∀ l : List Chg, findC (insL l c) key = findC l key
  | [] => by
    show findC [c] key = none
    rw [findC_cons]
    split
    · rfl
    · rw [if_neg (fun e => hne ((eqS_iff _ _).1 e).symm)]
  | x :: l => by
    have ih := findC_ins_other hne l
    unfold insL
    split
    · rw [findC_cons, findC_cons, ih]
    · rename_i h1
      split
      · rename_i h2
        have e : x.key = c.key := (eqS_iff _ _).1 h2
        rw [findC_cons, findC_cons, e]
        have h3 : eqS c.key key = false := by
          cases h : eqS c.key key
          · rfl
          · exact absurd ((eqS_iff _ _).1 h).symm hne
        rw [h3]
        simp
      · rename_i h2
        rw [findC_cons]
        split
        · rfl
        · rename_i h3
          have h4 : eqS c.key key = false := by
            cases h : eqS c.key key
            · rfl
            · exact absurd ((eqS_iff _ _).1 h).symm hne
          rw [h4]
          have hkc : ltS key c.key = true := by
            rcases ltS_total key c.key with k | k | k
            · exact k
            · exact absurd k hne
            · exact absurd k h3
          have hcx : ltS c.key x.key = true := by
            rcases ltS_total c.key x.key with k | k | k
            · exact k
            · exact absurd ((eqS_iff _ _).2 k.symm) h2
            · exact absurd k h1
          have hkx := ltS_trans hkc hcx
          have h5 : ltS x.key key = false := ltS_asymm hkx
          have h6 : eqS x.key key = false := by
            cases h : eqS x.key key
            · rfl
            · rw [(eqS_iff _ _).1 h, ltS_irrefl] at hkx; cases hkx
          rw [findC_cons, h5, h6]
          rfl
theorem ins_len_same {a b : Chg} (h : a.key = b.key) : ∀ l : List Chg, (insL l a).length = (insL l b).length
  | [] => rfl
  | x :: l => by
    have ih := ins_len_same h l
    unfold insL
    rw [h]
    split
    · rw [List.length_cons, List.length_cons, ih]
    · split <;> rfl
theorem alter_twice (l : List Chg) (s t : ByteArray) : alterF (alterL l ⟨s, t, false⟩) ⟨s, ⟨#[]⟩, true⟩ = alterF l ⟨s, ⟨#[]⟩, true⟩ ∧ alterL (alterL l ⟨s, t, false⟩) ⟨s, ⟨#[]⟩, true⟩ = alterL l ⟨s, ⟨#[]⟩, true⟩ := by
  by_cases h : alterF l ⟨s, t, false⟩ = 0
  · have e1 : alterL l ⟨s, t, false⟩ = insL l ⟨s, t, false⟩ := if_pos h
    have e2 : insL (insL l ⟨s, t, false⟩) ⟨s, ⟨#[]⟩, true⟩ = insL l ⟨s, ⟨#[]⟩, true⟩ := ins_same (a := ⟨s, t, false⟩) (b := ⟨s, ⟨#[]⟩, true⟩) rfl l
    have e3 : alterF (insL l ⟨s, t, false⟩) ⟨s, ⟨#[]⟩, true⟩ = alterF l ⟨s, ⟨#[]⟩, true⟩ := by unfold alterF; rw [e2]
    have e4 : alterF l ⟨s, ⟨#[]⟩, true⟩ = 0 := by
      unfold alterF at h ⊢
      by_cases hf : chgFault ⟨s, t, false⟩ = 0
      · rw [if_pos hf] at h
        have hk : keyL s.data.toList = true := by
          cases hk : keyL s.data.toList
          · unfold chgFault at hf; rw [show (⟨s, t, false⟩ : Chg).key = s from rfl, hk] at hf; simp at hf
          · rfl
        have hd : chgFault ⟨s, ⟨#[]⟩, true⟩ = 0 := by
          unfold chgFault
          have e5 : (!(⟨#[]⟩ : ByteArray).toList.isEmpty) = false := by decide +kernel
          have e6 : ¬ 40 < (⟨#[]⟩ : ByteArray).size := by decide +kernel
          simp only [hk, e5, e6, Bool.and_false, Bool.not_true, Bool.false_eq_true, if_false]
        rw [if_pos hd, ins_len_same (a := ⟨s, ⟨#[]⟩, true⟩) (b := ⟨s, t, false⟩) rfl l]
        exact h
      · rw [if_neg hf] at h
        exact absurd h hf
    rw [e1]
    refine ⟨e3, ?_⟩
    unfold alterL
    rw [e3, e4, if_pos rfl, if_pos rfl, e2]
  · have e1 : alterL l ⟨s, t, false⟩ = l := if_neg h
    rw [e1]
    exact ⟨rfl, rfl⟩
/-- what is known of a key's own change -/
def ownI (chs : List Chg) (key : ByteArray) (mine there : Bool) (last : ByteArray) : Prop := chs.length ≤ 12 ∧ findC chs key = if mine then some ⟨key, last, !there⟩ else none
theorem alter_len {l : List Chg} (h : l.length ≤ 12) (c : Chg) : (alterL l c).length ≤ 12 := by
  unfold alterL
  split
  · rename_i h0
    unfold alterF at h0
    split at h0
    · split at h0
      · cases h0
      · omega
    · rename_i hf; exact absurd h0 hf
  · exact h
theorem ownI_hit {chs : List Chg} {key last : ByteArray} {mine there : Bool} (h : ownI chs key mine there last) {v : ByteArray} {gone : Bool} (h0 : alterF chs ⟨key, v, gone⟩ = 0) : ownI (alterL chs ⟨key, v, gone⟩) key true (!gone) v := by
  refine ⟨alter_len h.1 _, ?_⟩
  have e : alterL chs ⟨key, v, gone⟩ = insL chs ⟨key, v, gone⟩ := if_pos h0
  rw [e]
  have := findC_ins_same chs ⟨key, v, gone⟩
  simpa using this
theorem ownI_miss {chs : List Chg} {key last : ByteArray} {mine there : Bool} (h : ownI chs key mine there last) {c : Chg} (h0 : alterF chs c = 0 → c.key ≠ key) : ownI (alterL chs c) key mine there last := by
  refine ⟨alter_len h.1 _, ?_⟩
  rw [← h.2]
  unfold alterL
  split
  · rename_i hz
    exact findC_ins_other (Ne.symm (h0 hz)) chs
  · rfl
theorem has_self (p : ByteArray × ByteArray) : hasSp [p] p = true := by
  unfold hasSp
  rw [List.any_eq_true]
  exact ⟨p, List.mem_cons_self, (eqSp_iff _ _).2 rfl⟩
theorem get_again {chs : List Chg} {key : ByteArray} {R : ByteArray → List Ver} {bv : ByteArray × Bool} (hk : keyL key.data.toList = true) (hb : behindV (R key) 0 = bv) (hf : findC chs key = none) : getR chs [(key, zeroS key)] R 0 key = (bv.1, bv.2, 0) ∧ getL chs [(key, zeroS key)] key = [(key, zeroS key)] := by
  have e1 : readF [(key, zeroS key)] (key, zeroS key) = 0 := if_pos (has_self _)
  have e2 : readL [(key, zeroS key)] (key, zeroS key) = [(key, zeroS key)] := if_pos (has_self _)
  unfold getR getL
  rw [if_pos hk, if_pos hk, hf]
  exact ⟨by rw [← hb]; exact if_pos e1, e2⟩
theorem get_own {chs : List Chg} {rds : List (ByteArray × ByteArray)} {key : ByteArray} {R : ByteArray → List Ver} {c : Chg} (hk : keyL key.data.toList = true) (hf : findC chs key = some c) : getR chs rds R 0 key = (c.val, !c.gone, 0) ∧ getL chs rds key = rds := by
  unfold getR getL
  rw [if_pos hk, if_pos hk, hf]
  exact ⟨rfl, rfl⟩
end Go.Proofs.Ytjphbmdmnicjpac
