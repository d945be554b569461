/-
  Plain facts of haywaintop.TopScan: keys that are counted once each, of those that rows and deeds name, are as many as rows are told of a span.
-/
import Derived.Test.YtpbhcjkllfonhaaVerPast
namespace Go.Proofs.Ytpbhcjkllfonhaa
open Go.RowKit Go.Joins

instance memD (x : ByteArray) (a : List ByteArray) : Decidable (x ∈ a) := decidable_of_iff (a.any (fun y => decide (y = x)) = true) (by simp)
/-- keys, each once -/
def uniq (l : List ByteArray) : List ByteArray := l.foldl (fun a x => if x ∈ a then a else a ++ [x]) []
theorem uniq_snoc (l : List ByteArray) (x : ByteArray) : uniq (l ++ [x]) = if x ∈ uniq l then uniq l else uniq l ++ [x] := by
  unfold uniq
  rw [List.foldl_append, List.foldl_cons, List.foldl_nil]
theorem uniq_fold : ∀ (l a : List ByteArray), a.Nodup → (l.foldl (fun a x => if x ∈ a then a else a ++ [x]) a).Nodup ∧ ∀ y, y ∈ l.foldl (fun a x => if x ∈ a then a else a ++ [x]) a ↔ y ∈ a ∨ y ∈ l
  | [], a, h => ⟨h, fun y => by simp⟩
  | x :: l, a, h => by
    rw [List.foldl_cons]
    by_cases e : x ∈ a
    · rw [if_pos e]
      obtain ⟨h1, h2⟩ := uniq_fold l a h
      refine ⟨h1, fun y => (h2 y).trans ?_⟩
      rw [List.mem_cons]
      constructor
      · rintro (h | h)
        · exact .inl h
        · exact .inr (.inr h)
      · rintro (h | h | h)
        · exact .inl h
        · subst h; exact .inl e
        · exact .inr h
    · rw [if_neg e]
      have hn : (a ++ [x]).Nodup := by
        rw [List.nodup_append]
        refine ⟨h, by simp, fun b hb c hc => ?_⟩
        rw [List.mem_singleton] at hc
        subst hc
        intro e'
        subst e'
        exact e hb
      obtain ⟨h1, h2⟩ := uniq_fold l _ hn
      refine ⟨h1, fun y => (h2 y).trans ?_⟩
      rw [List.mem_append, List.mem_singleton, List.mem_cons, or_assoc]
theorem uniq_nodup (l : List ByteArray) : (uniq l).Nodup := (uniq_fold l [] List.nodup_nil).1
theorem mem_uniq (l : List ByteArray) (y : ByteArray) : y ∈ uniq l ↔ y ∈ l := by
  have := (uniq_fold l [] List.nodup_nil).2 y
  simpa [uniq] using this
/-- how many keys of those named are such -/
def manyL (p : ByteArray → Bool) (l : List ByteArray) : Nat := ((uniq l).filter p).length
theorem many_nil (p : ByteArray → Bool) : manyL p [] = 0 := rfl
theorem many_snoc (p : ByteArray → Bool) (l : List ByteArray) (x : ByteArray) : manyL p (l ++ [x]) = manyL p l + if p x && !decide (x ∈ l) then 1 else 0 := by
  unfold manyL
  rw [uniq_snoc]
  by_cases e : x ∈ l
  · rw [if_pos ((mem_uniq l x).2 e)]; simp [e]
  · rw [if_neg (fun h => e ((mem_uniq l x).1 h)), List.filter_append]
    cases hp : p x <;> simp [e, hp]
theorem many_le (p : ByteArray → Bool) (l : List ByteArray) : manyL p l ≤ l.length := by
  have : ∀ (l : List ByteArray), (uniq l).length ≤ l.length := by
    intro l
    have aux : ∀ (l a : List ByteArray), (l.foldl (fun a x => if x ∈ a then a else a ++ [x]) a).length ≤ a.length + l.length := by
      intro l
      induction l with
      | nil => intro a; simp
      | cons x l ih =>
        intro a
        rw [List.foldl_cons]
        split
        · have := ih a; simp; omega
        · have := ih (a ++ [x]); simp at this ⊢; omega
    simpa [uniq] using aux l []
  exact Nat.le_trans (List.length_filter_le _ _) (this l)
/-- is a row of the key told? -/
def seenP (R : ByteArray → List Ver) (n : Int) (s : ByteArray × ByteArray) (key : ByteArray) : Bool := (behindV (R key) n).2 && hasS s.1 s.2 key
theorem many_told {R : ByteArray → List Ver} {n : Int} {s : ByteArray × ByteArray} {F : List (ByteArray × ByteArray)} {K : List ByteArray} (hn : (F.map (·.1)).Nodup) (hF : ∀ r, r ∈ F ↔ told R n s r) (hK : ∀ k ∈ K, k.size ≤ maxLen) (hR : ∀ key, R key ≠ [] → key ∈ K) : manyL (seenP R n s) K = F.length := by
  have hp : ((uniq K).filter (seenP R n s)).Perm (F.map (·.1)) := by
    rw [List.perm_ext_iff_of_nodup ((uniq_nodup K).filter _) hn]
    intro key
    rw [List.mem_filter, mem_uniq, List.mem_map]
    constructor
    · rintro ⟨h1, h2⟩
      unfold seenP at h2
      rw [Bool.and_eq_true] at h2
      refine ⟨(key, (behindV (R key) n).1), (hF _).2 ⟨hK key h1, h2.2, ?_⟩, rfl⟩
      show behindV (R key) n = ((behindV (R key) n).1, true)
      rw [← h2.1]
    · rintro ⟨r, hr, rfl⟩
      obtain ⟨h1, h2, h3⟩ := (hF r).1 hr
      refine ⟨hR _ fun e => ?_, ?_⟩
      · rw [e] at h3; simp [behindV, lastV] at h3
      · unfold seenP; rw [h3, h2]; rfl
  have := hp.length_eq
  rw [List.length_map] at this
  exact this
/-- keys that rows and deeds name -/
def keysOf (rows : List (ByteArray × ByteArray)) (ds : List Dd) : List ByteArray := rows.map (·.1) ++ ds.flatMap fun d => d.chs.map (·.key)
theorem putG_some {R : ByteArray → List Ver} {a key : ByteArray} {v : List Ver} (h : putG R a v key ≠ []) : R key ≠ [] ∨ key = a := by
  by_cases e : key = a
  · exact .inr e
  · rw [putG_other _ _ e] at h; exact .inl h
theorem initR_keys (rows : List (ByteArray × ByteArray)) (key : ByteArray) (h : initR rows key ≠ []) : key ∈ rows.map (·.1) := by
  have aux : ∀ (l : List (ByteArray × ByteArray)) (R : ByteArray → List Ver), (l.foldl (fun R r => putG R r.1 [⟨0, r.2, false⟩]) R) key ≠ [] → R key ≠ [] ∨ key ∈ l.map (·.1) := by
    intro l
    induction l with
    | nil => exact fun R h => .inl h
    | cons r l ih =>
      intro R h
      rcases ih _ h with h' | h'
      · rcases putG_some h' with h'' | h''
        · exact .inl h''
        · exact .inr (by rw [h'']; simp)
      · exact .inr (List.mem_cons_of_mem _ h')
  rcases aux rows _ h with h' | h'
  · exact absurd rfl h'
  · exact h'
theorem applyR_keys (d : Int) (key : ByteArray) : ∀ (l : List Chg) (R : ByteArray → List Ver), applyR R d l key ≠ [] → R key ≠ [] ∨ key ∈ l.map (·.key)
  | [], _, h => .inl h
  | c :: l, R, h => by
    rcases applyR_keys d key l _ h with h' | h'
    · rcases putG_some h' with h'' | h''
      · exact .inl h''
      · exact .inr (by rw [h'']; simp)
    · exact .inr (List.mem_cons_of_mem _ h')
theorem stepsR_keys (key : ByteArray) : ∀ (l : List Dd) (p : Int × (ByteArray → List Ver)), (stepsR p l).2 key ≠ [] → p.2 key ≠ [] ∨ key ∈ l.flatMap fun d => d.chs.map (·.key)
  | [], _, h => .inl h
  | d :: l, p, h => by
    have e : stepsR p (d :: l) = stepsR (stepR p d.chs) l := rfl
    rw [e] at h
    rw [List.flatMap_cons, List.mem_append]
    rcases stepsR_keys key l _ h with h' | h'
    · unfold stepR at h'
      split at h'
      · rcases applyR_keys _ key d.chs _ h' with h'' | h''
        · exact .inl h''
        · exact .inr (.inl h'')
      · exact .inl h'
    · exact .inr (.inr h')
theorem grown_keys (rows : List (ByteArray × ByteArray)) (ds : List Dd) (key : ByteArray) (h : (stepsR (0, initR rows) ds).2 key ≠ []) : key ∈ keysOf rows ds := by
  rcases stepsR_keys key ds _ h with h' | h'
  · exact List.mem_append_left _ (initR_keys rows key h')
  · exact List.mem_append_right _ h'
end Go.Proofs.Ytpbhcjkllfonhaa
