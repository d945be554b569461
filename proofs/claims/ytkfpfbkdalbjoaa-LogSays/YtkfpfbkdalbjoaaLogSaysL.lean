/-
  A log on a disk that is never armed, from deed to deed; plain.
-/
import Derived.Test.YtkfpfbkdalbjoaaTopLogL
namespace Go.Proofs.Ytkfpfbkdalbjoaa

/-- alike, but for what is kept -/
structure SameN (s t : DSt) : Prop where
  now : s.now = t.now
  left : s.left = t.left
  down : s.down = t.down
theorem SameN.step {s t : DSt} (h : SameN s t) : dstepF s = dstepF t ∧ SameN (dstepD s) (dstepD t) := by
  refine ⟨by unfold dstepF; rw [h.left, h.down], ?_⟩
  unfold dstepD
  rw [h.left, h.down]
  split
  · exact h
  · split
    · exact ⟨h.now, rfl, rfl⟩
    · exact ⟨h.now, rfl, rfl⟩
theorem SameN.op {s t : DSt} (h : SameN s t) (o : DOp) : opF o s = opF o t ∧ SameN (opD o s) (opD o t) := by
  obtain ⟨h1, h2⟩ := h.step
  cases o with
  | wr a d =>
    have eF : opF (.wr a d) s = opF (.wr a d) t := by show dwriteF s a d = dwriteF t a d; unfold dwriteF; rw [h.now, h1]
    refine ⟨eF, ?_⟩
    show SameN (dwriteD s a d) (dwriteD t a d)
    unfold dwriteD
    rw [h.now, h1]
    split
    · exact h
    · split
      · exact ⟨by unfold laidD; show (dstepD s).now.set _ _ = (dstepD t).now.set _ _; rw [h2.now], h2.left, h2.down⟩
      · exact h2
  | fl =>
    refine ⟨h1, ?_⟩
    show SameN (flushD s) (flushD t)
    unfold flushD
    rw [h1]
    split
    · exact ⟨h2.now, h2.left, h2.down⟩
    · exact h2
theorem SameN.run : ∀ (l : List DOp) (s t : DSt), SameN s t → (runD l s).1 = (runD l t).1 ∧ SameN (runD l s).2 (runD l t).2
  | [], _, _, h => ⟨rfl, h⟩
  | o :: l, s, t, h => by
    obtain ⟨h1, h2⟩ := h.op o
    show (if opF o s = 0 then runD l (opD o s) else (opF o s, opD o s)).1 = (if opF o t = 0 then runD l (opD o t) else (opF o t, opD o t)).1 ∧ SameN (if opF o s = 0 then runD l (opD o s) else (opF o s, opD o s)).2 (if opF o t = 0 then runD l (opD o t) else (opF o t, opD o t)).2
    rw [h1]
    split
    · exact SameN.run l _ _ h2
    · exact ⟨rfl, h2⟩
theorem scan_small (first m : Nat) : ∀ (l : List ByteArray) (i : Nat) (st : RSt) (u0 : Nat) (ds : List (List Chg)) (u : Nat), scanL first i l st u0 = (ds, u) → st.1.length ≤ u0 → u0 ≤ i → (∀ x ∈ st.1, x.length ≤ m) → st.2.length ≤ i → i + l.length ≤ m → ds.length ≤ u ∧ ∀ x ∈ ds, x.length ≤ m
  | [], i, st, u0, ds, u, h, h1, _, h3, _, _ => by
    simp only [scanL, Prod.mk.injEq] at h
    rw [← h.1, ← h.2]; exact ⟨h1, h3⟩
  | t :: l, i, st, u0, ds, u, h, h1, h2, h3, h4, h5 => by
    rw [List.length_cons] at h5
    cases hd : decL t (first + i) with
    | none =>
      rw [scan_none hd] at h
      simp only [Prod.mk.injEq] at h
      rw [← h.1, ← h.2]; exact ⟨h1, h3⟩
    | some kd =>
      obtain ⟨k, d⟩ := kd
      cases ht : takeL st k d with
      | none =>
        rw [scan_stop hd ht] at h
        simp only [Prod.mk.injEq] at h
        rw [← h.1, ← h.2]; exact ⟨h1, h3⟩
      | some st' =>
        rw [scan_step hd ht] at h
        unfold takeL at ht
        rcases decL_kind hd with rfl | rfl
        · rw [if_pos rfl] at ht
          split at ht
          · simp only [Option.some.injEq] at ht
            subst ht
            exact scan_small first m l (i + 1) _ _ ds u h (by rw [if_neg (by decide)]; exact h1) (by rw [if_neg (by decide)]; omega) h3 (by simp; omega) (by omega)
          · cases ht
        · rw [if_neg (by decide)] at ht
          split at ht
          · simp only [Option.some.injEq] at ht
            subst ht
            refine scan_small first m l (i + 1) _ _ ds u h (by rw [if_pos rfl]; simp; omega) (by rw [if_pos rfl]; exact Nat.le_refl _) (fun x hx => ?_) (by simp) (by omega)
            rcases List.mem_append.1 hx with hx | hx
            · exact h3 x hx
            · rw [List.mem_singleton] at hx; rw [hx]; omega
          · cases ht
theorem HasL.small {K : List ByteArray} {fr many first u : Nat} {ds : List (List Chg)} (h : HasL K fr many first ds u) (hf : fr + many ≤ K.length) : ds.length ≤ many ∧ ∀ x ∈ ds, x.length ≤ many := by
  have := scan_small first many _ 0 ([], []) 0 ds u h (Nat.le_refl _) (Nat.le_refl _) (fun x hx => absurd hx List.not_mem_nil) (Nat.le_refl _) (by rw [regL_len hf]; omega)
  exact ⟨Nat.le_trans this.1 (h.used hf), this.2⟩
structure LNow (s : DSt) (fr many first : Nat) (ds : List (List Chg)) (u : Nat) : Prop where
  down : s.down = false
  left : s.left = -1
  fit : fr + many ≤ s.now.length
  has : HasL s.now fr many first ds u
section
variable {s : DSt} {fr many first u : Nat} {ds : List (List Chg)}
theorem LNow.us (h : LNow s fr many first ds u) : u ≤ many := h.has.used h.fit
theorem LNow.deeds (h : LNow s fr many first ds u) : deedsL (secsD s fr many) first = ds ∧ usedL (secsD s fr many) first = u := by
  have e : scanL first 0 (secsD s fr many) ([], []) 0 = (ds, u) := h.has
  unfold deedsL usedL
  rw [e]
  exact ⟨rfl, rfl⟩
theorem LNow.good (h : LNow s fr many first ds u) : LGood { s with kept := s.now, wait := [] } fr many first ds u := ⟨h.down, rfl, rfl, h.fit, h.has⟩
theorem LNow.add (h : LNow s fr many first ds u) (l : List Chg) (hf : addF l (many - u) = 0) : (addR fr many first u s l).1 = 0 ∧ LNow (addR fr many first u s l).2.2 fr many first (ds ++ [l]) (u + l.length + 1) ∧ (addR fr many first u s l).2.1 = u + l.length + 1 ∧ (addR fr many first u s l).2.2.now.length = s.now.length := by
  have hS : SameN s { s with kept := s.now, wait := [] } := ⟨rfl, rfl, rfl⟩
  have hr := SameN.run (addOps (fr + u) (deedSecs (first + u) l) (many - u)) _ _ hS
  have hn := h.good.never h.left l hf
  have ha := h.good.add l
  have hlen := runD_len (addOps (fr + u) (deedSecs (first + u) l) (many - u)) s
  unfold addR at hn ha ⊢
  rw [if_neg (by rw [hf]; decide)] at hn ha ⊢
  simp only at hn ha ⊢
  generalize runD (addOps (fr + u) (deedSecs (first + u) l) (many - u)) s = r at *
  generalize runD (addOps (fr + u) (deedSecs (first + u) l) (many - u)) { s with kept := s.now, wait := [] } = r' at *
  have h0 : r.1 = 0 := hr.1.trans hn.1
  rcases ha.2 with ⟨_, _, g⟩ | ⟨_, g2, _⟩ | ⟨g1, _⟩
  · rw [hn.1, if_pos rfl] at g
    refine ⟨h0, ⟨hr.2.down.trans g.down, hr.2.left.trans hn.2, by rw [hlen]; exact h.fit, by rw [hr.2.now]; exact g.has⟩, by rw [h0, if_pos rfl], hlen⟩
  · exact absurd hf g2
  · rw [hn.1] at g1; cases g1
end
end Go.Proofs.Ytkfpfbkdalbjoaa
