/-
  Changes applied to rows, as haywainref.Applied applies them: one by one, by a fold. Plain facts.
-/
import Derived.Test.YtkfpfbkdalbjoaaGreatChgMem
namespace Go.Proofs.YtkfpfbkdalbjoaaGreat
open Go.RowKit Go.Joins

def stepA (c : Chg) (s : Bool × List (ByteArray × ByteArray)) (r : ByteArray × ByteArray) : Bool × List (ByteArray × ByteArray) :=
  (s.1 || leS c.key r.1, (if !s.1 && leS c.key r.1 then s.2 ++ [(c.key, c.val)] else s.2) ++ if eqS r.1 c.key then [] else [r])
def endA (c : Chg) (s : Bool × List (ByteArray × ByteArray)) : List (ByteArray × ByteArray) := if s.1 then s.2 else s.2 ++ [(c.key, c.val)]
def apply1 (l : List (ByteArray × ByteArray)) (c : Chg) : List (ByteArray × ByteArray) := endA c (l.foldl (stepA c) (c.gone, []))
def appliedA (l : List (ByteArray × ByteArray)) (cs : List Chg) : List (ByteArray × ByteArray) := cs.foldl apply1 l
theorem foldA_take (c : Chg) (l : List (ByteArray × ByteArray)) (s0 : Bool × List (ByteArray × ByteArray)) (k : Nat) (hk : k < l.length) : (l.take (k + 1)).foldl (stepA c) s0 = stepA c ((l.take k).foldl (stepA c) s0) l[k] := by
  rw [List.take_succ_eq_append_getElem hk, List.foldl_append]; rfl
theorem foldA_len (c : Chg) (l : List (ByteArray × ByteArray)) : ∀ (s : Bool × List (ByteArray × ByteArray)), ((l.foldl (stepA c) s).1 = false → (l.foldl (stepA c) s).2.length ≤ s.2.length + l.length) ∧ (l.foldl (stepA c) s).2.length ≤ s.2.length + l.length + (if s.1 then 0 else 1) ∧ (s.1 = true → (l.foldl (stepA c) s).1 = true) := by
  induction l with
  | nil => intro s; simp
  | cons r l ih =>
    intro s
    obtain ⟨h1, h2, h3⟩ := ih (stepA c s r)
    rw [List.foldl_cons]
    generalize hs : List.foldl (stepA c) (stepA c s r) l = t at *
    obtain ⟨laid, out⟩ := s
    cases laid with
    | true =>
      have e1 : (stepA c (true, out) r).1 = true := rfl
      have e2 : (stepA c (true, out) r).2.length ≤ out.length + 1 := by cases he : eqS r.1 c.key <;> simp [stepA, he]
      rw [e1] at h2 h3
      refine ⟨fun h => ?_, ?_, fun _ => h3 rfl⟩
      · rw [h3 rfl] at h; cases h
      · simp only [List.length_cons, if_true] at h2 ⊢; omega
    | false =>
      cases hle : leS c.key r.1 with
      | true =>
        have e1 : (stepA c (false, out) r).1 = true := by simp [stepA, hle]
        have e2 : (stepA c (false, out) r).2.length ≤ out.length + 2 := by cases he : eqS r.1 c.key <;> simp [stepA, hle, he]
        rw [e1] at h2 h3
        refine ⟨fun h => ?_, ?_, fun h => by cases h⟩
        · rw [h3 rfl] at h; cases h
        · simp only [List.length_cons, if_true, Bool.false_eq_true, if_false] at h2 ⊢; omega
      | false =>
        have e1 : (stepA c (false, out) r).1 = false := by simp [stepA, hle]
        have e2 : (stepA c (false, out) r).2.length ≤ out.length + 1 := by cases he : eqS r.1 c.key <;> simp [stepA, hle, he]
        rw [e1] at h2
        refine ⟨fun h => ?_, ?_, fun h => by cases h⟩
        · have := h1 h; simp only [List.length_cons]; omega
        · simp only [List.length_cons, Bool.false_eq_true, if_false] at h2 ⊢; omega
theorem apply1_len (l : List (ByteArray × ByteArray)) (c : Chg) : (apply1 l c).length ≤ l.length + 1 := by
  unfold apply1 endA
  obtain ⟨h1, h2, _⟩ := foldA_len c l (c.gone, [])
  split
  · refine Nat.le_trans h2 ?_
    simp only [List.length_nil]
    split <;> omega
  · rename_i h
    have := h1 (by simpa using h)
    simp at this ⊢
    omega
theorem appliedA_len : ∀ (cs : List Chg) (l : List (ByteArray × ByteArray)), (appliedA l cs).length ≤ l.length + cs.length
  | [], l => by simp [appliedA]
  | c :: cs, l => by
    have := appliedA_len cs (apply1 l c)
    have h := apply1_len l c
    simp only [appliedA, List.foldl_cons, List.length_cons] at this ⊢
    omega
theorem appliedA_take (l : List (ByteArray × ByteArray)) (cs : List Chg) (k : Nat) (hk : k < cs.length) : appliedA l (cs.take (k + 1)) = apply1 (appliedA l (cs.take k)) cs[k] := by
  unfold appliedA
  rw [List.take_succ_eq_append_getElem hk, List.foldl_append]; rfl
end Go.Proofs.YtkfpfbkdalbjoaaGreat

/-
  Rows that rise, and changes applied to them one by one. Plain facts.
-/
namespace Go.Proofs.YtkfpfbkdalbjoaaGreat
open Go.RowKit Go.Joins

abbrev riseP (l : List (ByteArray × ByteArray)) : Prop := l.Pairwise fun a b => ltS a.1 b.1 = true
theorem eqS_no {a b : ByteArray} (h : a ≠ b) : eqS a b = false := by
  cases e : eqS a b with
  | false => rfl
  | true => exact absurd ((eqS_iff _ _).1 e) h
theorem eqS_yes (a : ByteArray) : eqS a a = true := (eqS_iff _ _).2 rfl
/-- what the fold has told so far -/
theorem step_true (c : Chg) : ∀ (l out : List (ByteArray × ByteArray)), (l.foldl (stepA c) (true, out)) = (true, out ++ l.filter fun r => !eqS r.1 c.key)
  | [], out => by simp
  | r :: l, out => by
    rw [List.foldl_cons]
    have e : stepA c (true, out) r = (true, out ++ if eqS r.1 c.key then [] else [r]) := by simp [stepA]
    rw [e, step_true c l]
    cases h : eqS r.1 c.key <;> simp [h]
/-- one put among rows that rise: those below, it, those above -/
theorem step_false (c : Chg) : ∀ (l out : List (ByteArray × ByteArray)), riseP l → endA c (l.foldl (stepA c) (false, out)) = out ++ (l.filter fun r => ltS r.1 c.key) ++ (c.key, c.val) :: l.filter fun r => ltS c.key r.1
  | [], out, _ => by simp [endA]
  | r :: l, out, h => by
    replace h := List.pairwise_cons.1 h
    rw [List.foldl_cons]
    cases hle : leS c.key r.1 with
    | false =>
      have hlt : ltS r.1 c.key = true := by have := leS_not c.key r.1; rw [hle] at this; simpa using this
      have hne : eqS r.1 c.key = false := eqS_no fun e => by rw [e, ltS_irrefl] at hlt; cases hlt
      have hgt : ltS c.key r.1 = false := by
        cases e : ltS c.key r.1 with
        | false => rfl
        | true => have := ltS_trans e hlt; rw [ltS_irrefl] at this; cases this
      have e : stepA c (false, out) r = (false, out ++ [r]) := by simp [stepA, hle, hne]
      rw [e, step_false c l _ h.2]
      simp [hlt, hgt]
    | true =>
      have e : stepA c (false, out) r = (true, out ++ [(c.key, c.val)] ++ if eqS r.1 c.key then [] else [r]) := by simp [stepA, hle]
      rw [e, step_true]
      have hup : ∀ x ∈ l, ltS c.key x.1 = true := fun x hx => by
        have h1 := h.1 x hx
        rcases (leS_iff _ _).1 hle with h2 | h2
        · exact ltS_trans h2 h1
        · rw [h2]; exact h1
      have f1 : (l.filter fun r => ltS r.1 c.key) = [] := List.filter_eq_nil_iff.2 fun x hx e => by
        have := ltS_trans (hup x hx) e; rw [ltS_irrefl] at this; cases this
      have f2 : (l.filter fun r => ltS c.key r.1) = l := List.filter_eq_self.2 hup
      have f3 : (l.filter fun r => !eqS r.1 c.key) = l := List.filter_eq_self.2 fun x hx => by
        rw [eqS_no fun e => by have := hup x hx; rw [e, ltS_irrefl] at this; cases this]; rfl
      have hlt : ltS r.1 c.key = false := by have := leS_not c.key r.1; rw [hle] at this; simpa using this
      rw [f3]
      cases heq : eqS r.1 c.key with
      | true =>
        have e2 := (eqS_iff _ _).1 heq
        have hgt : ltS c.key r.1 = false := by rw [e2, ltS_irrefl]
        simp [endA, hlt, hgt, f1, f2]
      | false =>
        have hgt : ltS c.key r.1 = true := by
          rcases (leS_iff _ _).1 hle with h2 | h2
          · exact h2
          · rw [h2, eqS_yes] at heq; cases heq
        simp [endA, hlt, hgt, f1, f2]
theorem apply1_gone {l : List (ByteArray × ByteArray)} {c : Chg} (h : c.gone = true) : apply1 l c = l.filter fun r => !eqS r.1 c.key := by
  unfold apply1
  rw [h, step_true]
  simp [endA]
theorem apply1_put {l : List (ByteArray × ByteArray)} {c : Chg} (hl : riseP l) (h : c.gone = false) : apply1 l c = (l.filter fun r => ltS r.1 c.key) ++ (c.key, c.val) :: l.filter fun r => ltS c.key r.1 := by
  unfold apply1
  rw [h, step_false c l [] hl]
  simp
theorem apply1_rise {l : List (ByteArray × ByteArray)} (hl : riseP l) (c : Chg) : riseP (apply1 l c) := by
  cases h : c.gone with
  | true => rw [apply1_gone h]; exact hl.filter _
  | false =>
    rw [apply1_put hl h]
    unfold riseP
    rw [List.pairwise_append]
    refine ⟨hl.filter _, ?_, ?_⟩
    · rw [List.pairwise_cons]
      exact ⟨fun x hx => (List.mem_filter.1 hx).2, hl.filter _⟩
    · intro x hx y hy
      have h1 := (List.mem_filter.1 hx).2
      rcases List.mem_cons.1 hy with rfl | hy
      · exact h1
      · exact ltS_trans h1 (List.mem_filter.1 hy).2
theorem applied_rise {l : List (ByteArray × ByteArray)} (hl : riseP l) (cs : List Chg) : riseP (appliedA l cs) := by
  unfold appliedA
  induction cs generalizing l with
  | nil => exact hl
  | cons c cs ih => exact ih (apply1_rise hl c)
end Go.Proofs.YtkfpfbkdalbjoaaGreat
