/-
  A log on a disk, from deed to deed; plain.
-/
import Derived.Test.YtkfpfbkdalbjoaaLogQ
import Derived.Test.YtkfpfbkdalbjoaaLogAdd
namespace Go.Proofs.Ytkfpfbkdalbjoaa

/-- nothing waits, and the log has these deeds -/
structure LGood (s : DSt) (fr many first : Nat) (ds : List (List Chg)) (u : Nat) : Prop where
  down : s.down = false
  wait : s.wait = []
  kept : s.kept = s.now
  fit : fr + many ≤ s.now.length
  has : HasL s.now fr many first ds u
section
variable {s : DSt} {fr many first u : Nat} {ds : List (List Chg)}
theorem LGood.us (h : LGood s fr many first ds u) : u ≤ many := h.has.used h.fit
theorem LGood.deeds (h : LGood s fr many first ds u) : deedsL (secsD s fr many) first = ds ∧ usedL (secsD s fr many) first = u := by
  have e : scanL first 0 (secsD s fr many) ([], []) 0 = (ds, u) := h.has
  unfold deedsL usedL
  rw [e]
  exact ⟨rfl, rfl⟩
theorem LGood.arm (h : LGood s fr many first ds u) (n : Int) : LGood (armD s n) fr many first ds u := ⟨h.down, h.wait, h.kept, h.fit, h.has⟩
theorem LGood.restart (h : LGood s fr many first ds u) (k : Int) : LGood (restartD s k) fr many first ds u ∧ (restartD s k).now.length = s.now.length := by
  have e : restartD s k = ⟨s.now, s.now, [], -1, false⟩ := by unfold restartD; rw [h.wait, h.kept]; rfl
  rw [e]
  exact ⟨⟨rfl, rfl, rfl, h.fit, h.has⟩, rfl⟩
theorem chgsF_small (l : List Chg) : chgsF l = 0 ∨ chgsF l = 1 ∨ chgsF l = 3 := by
  induction l with
  | nil => exact .inl rfl
  | cons c l ih =>
    show (if chgFault c = 0 then chgsF l else chgFault c) = 0 ∨ (if chgFault c = 0 then chgsF l else chgFault c) = 1 ∨ (if chgFault c = 0 then chgsF l else chgFault c) = 3
    by_cases h : chgFault c = 0
    · rw [if_pos h]; exact ih
    · rw [if_neg h]
      unfold chgFault at h ⊢
      split
      · exact .inr (.inr rfl)
      · split
        · exact .inr (.inr rfl)
        · split
          · exact .inr (.inl rfl)
          · exact .inl rfl
theorem addF_not (l : List Chg) (room : Nat) : addF l room ≠ 10 := by
  unfold addF
  split
  · decide
  · split
    · decide
    · rcases chgsF_small l with h | h | h <;> rw [h] <;> decide
theorem addF_zero {l : List Chg} {room : Nat} (h : addF l room = 0) : l.length ≤ 12 ∧ l.length + 1 ≤ room ∧ chgsF l = 0 := by
  unfold addF at h
  split at h
  · cases h
  · split at h
    · cases h
    · exact ⟨by omega, by omega, h⟩
/-- a deed is added, or is none, or it falls -/
theorem LGood.add (h : LGood s fr many first ds u) (l : List Chg) : (addR fr many first u s l).2.2.now.length = s.now.length ∧
    (((addR fr many first u s l).1 = 0 ∧ addF l (many - u) = 0 ∧ LGood (addR fr many first u s l).2.2 fr many first (ds ++ [l]) (addR fr many first u s l).2.1) ∨
    ((addR fr many first u s l).1 = addF l (many - u) ∧ addF l (many - u) ≠ 0 ∧ (addR fr many first u s l).1 ≠ 10 ∧ addR fr many first u s l = (addF l (many - u), u, s)) ∨
    ((addR fr many first u s l).1 = 10 ∧ addF l (many - u) = 0 ∧ (addR fr many first u s l).2.1 = u ∧ (addR fr many first u s l).2.2.down = true ∧ ∀ k, (restartD (addR fr many first u s l).2.2 k).now.length = s.now.length ∧ (LGood (restartD (addR fr many first u s l).2.2 k) fr many first ds u ∨ LGood (restartD (addR fr many first u s l).2.2 k) fr many first (ds ++ [l]) (u + l.length + 1)))) := by
  unfold addR
  by_cases hf : addF l (many - u) = 0
  · rw [if_neg (by rw [hf]; decide)]
    obtain ⟨_, q2, q3⟩ := addF_zero hf
    have hus := h.us
    have hrun := add_run h.down h.wait h.kept h.fit h.has q3 (by omega)
    have hlen := runD_len (addOps (fr + u) (deedSecs (first + u) l) (many - u)) s
    generalize runD (addOps (fr + u) (deedSecs (first + u) l) (many - u)) s = r at *
    refine ⟨hlen, ?_⟩
    by_cases h0 : r.1 = 0
    · obtain ⟨g1, g2, g3, g4⟩ := hrun.good h0
      refine .inl ⟨h0, hf, ?_⟩
      simp only [h0, if_true]
      exact ⟨g1, g2, g3, by rw [hlen]; exact h.fit, g4.has⟩
    · obtain ⟨g1, g2, g3⟩ := hrun.bad h0
      refine .inr (.inr ⟨g1, hf, ?_, g2, fun k => ?_⟩)
      · simp only [h0, if_false]
      · have hA : After r.2 (keepL k 0 r.2.wait r.2.kept) := ⟨k, rfl⟩
        have e : restartD r.2 k = ⟨keepL k 0 r.2.wait r.2.kept, keepL k 0 r.2.wait r.2.kept, [], -1, false⟩ := rfl
        rw [e]
        rcases g3 _ hA with g | g
        · exact ⟨g.len, .inl ⟨rfl, rfl, rfl, by show _ ≤ (keepL k 0 r.2.wait r.2.kept).length; rw [g.len]; exact h.fit, g.has⟩⟩
        · exact ⟨g.len, .inr ⟨rfl, rfl, rfl, by show _ ≤ (keepL k 0 r.2.wait r.2.kept).length; rw [g.len]; exact h.fit, g.has⟩⟩
  · rw [if_pos hf]
    exact ⟨rfl, .inr (.inl ⟨rfl, hf, addF_not l _, rfl⟩)⟩
/-- never armed: no step falls -/
theorem never_op (o : DOp) (s : DSt) (hd : s.down = false) (hl : s.left = -1) (ho : ∀ a d, o = .wr a d → a < s.now.length ∧ d.size ≤ 96) : opF o s = 0 ∧ (opD o s).down = false ∧ (opD o s).left = -1 ∧ (opD o s).now.length = s.now.length := by
  obtain ⟨e1, e3⟩ := dstep_go hd (show s.left ≠ 0 by rw [hl]; decide)
  have e2 : dstepD s = s := by rw [e3, if_neg (by rw [hl]; decide)]
  cases o with
  | wr a d =>
    obtain ⟨h1, h2⟩ := ho a d rfl
    have hb : ¬ ((a : Int) < 0 ∨ (s.now.length : Int) ≤ (a : Int) ∨ 96 < d.size) := by omega
    have eF : opF (.wr a d) s = 0 := by show dwriteF s a d = _; unfold dwriteF; rw [if_neg hb]; exact e1
    have eD : opD (.wr a d) s = laidD s a (dpadB d) := by show dwriteD s a d = _; unfold dwriteD; rw [if_neg hb, if_pos e1, e2, Int.toNat_natCast]
    rw [eF, eD]
    exact ⟨rfl, hd, hl, List.length_set ..⟩
  | fl =>
    have eD : opD .fl s = { s with kept := s.now, wait := [] } := by show flushD s = _; unfold flushD; rw [if_pos e1, e2]
    rw [eD]
    exact ⟨e1, hd, hl, rfl⟩
theorem never_run (n : Nat) : ∀ (ops : List DOp) (s : DSt), s.down = false → s.left = -1 → s.now.length = n → (∀ o ∈ ops, ∀ a d, o = .wr a d → a < n ∧ d.size ≤ 96) → (runD ops s).1 = 0 ∧ (runD ops s).2.left = -1
  | [], s, _, hl, _, _ => ⟨rfl, hl⟩
  | o :: l, s, hd, hl, hn, ho => by
    obtain ⟨q1, q2, q3, q4⟩ := never_op o s hd hl (by rw [hn]; exact ho o (List.mem_cons_self ..))
    show (if opF o s = 0 then runD l (opD o s) else (opF o s, opD o s)).1 = 0 ∧ (if opF o s = 0 then runD l (opD o s) else (opF o s, opD o s)).2.left = -1
    rw [if_pos q1]
    exact never_run n l _ q2 q3 (by rw [q4]; exact hn) fun o' h => ho o' (List.mem_cons_of_mem _ h)
theorem rest_mem : ∀ (l : List ByteArray) (b : Nat) (o : DOp), o ∈ restFrom b l → ∀ a d, o = .wr a d → b ≤ a ∧ a < b + l.length ∧ d ∈ l
  | [], _, o, h, _, _, _ => absurd h List.not_mem_nil
  | t :: l, b, o, h, a, d, e => by
    rcases List.mem_cons.1 h with rfl | h
    · cases e; exact ⟨Nat.le_refl _, by rw [List.length_cons]; omega, List.mem_cons_self ..⟩
    · obtain ⟨q1, q2, q3⟩ := rest_mem l (b + 1) o h a d e
      exact ⟨by omega, by rw [List.length_cons]; omega, List.mem_cons_of_mem _ q3⟩
theorem LGood.never (h : LGood s fr many first ds u) (hl : s.left = -1) (l : List Chg) (hf : addF l (many - u) = 0) : (addR fr many first u s l).1 = 0 ∧ (addR fr many first u s l).2.2.left = -1 := by
  obtain ⟨_, q2, q3⟩ := addF_zero hf
  have hus := h.us
  have hfit := h.fit
  have hsz := secs_size (n := first + u) q3
  have hdl := deedSecs_len (first + u) l
  unfold addR
  rw [if_neg (by rw [hf]; decide)]
  refine never_run s.now.length _ s h.down hl rfl fun o ho a d e => ?_
  generalize deedSecs (first + u) l = secs at *
  have hem : emptyB.size ≤ 96 := by decide
  unfold addOps addSteps at ho
  simp only [List.flatten_cons, List.flatten_nil, List.append_nil, List.mem_append, List.mem_singleton] at ho
  rcases ho with rfl | rfl | ho | ho | rfl | rfl | rfl
  · cases e; exact ⟨by omega, hem⟩
  · cases e
  · obtain ⟨p1, p2, p3⟩ := rest_mem _ _ o ho a d e
    rw [List.length_tail] at p2
    exact ⟨by omega, hsz d (List.mem_of_mem_tail p3)⟩
  · split at ho
    · exact absurd ho List.not_mem_nil
    · rw [List.mem_singleton] at ho
      rw [ho] at e
      cases e
      exact ⟨by omega, hem⟩
  · cases e
  · cases e
    refine ⟨by omega, ?_⟩
    cases secs with
    | nil => simp at hdl
    | cons t0 tl => exact hsz t0 (List.mem_cons_self ..)
  · cases e
end
end Go.Proofs.Ytkfpfbkdalbjoaa
