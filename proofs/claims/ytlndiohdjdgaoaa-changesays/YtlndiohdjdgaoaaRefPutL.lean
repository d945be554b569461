/-
  Plain facts of the document's way to put a change among others: one by one, from the left. Nothing of the program is named here.
-/
import Derived.Test.YtlndiohdjdgaoaaChgRise
namespace Go.Proofs.Ytlndiohdjdgaoaa

/-- one step: has it been laid, and what is out by now -/
def stepP (c : Chg) (s : Bool × List Chg) (x : Chg) : Bool × List Chg :=
  let s1 : Bool × List Chg := if !s.1 && leS c.key x.key then (true, s.2 ++ [c]) else s
  if eqS x.key c.key then s1 else (s1.1, s1.2 ++ [x])
def endP (c : Chg) (s : Bool × List Chg) : List Chg := if s.1 then s.2 else s.2 ++ [c]
theorem step_laid (c : Chg) (l : List Chg) (out : List Chg) (h : ∀ x ∈ l, ltS c.key x.key = true) : l.foldl (stepP c) (true, out) = (true, out ++ l) := by
  induction l generalizing out with
  | nil => simp
  | cons x l ih =>
    have hx := h x (by simp)
    have e : eqS x.key c.key = false := (eqS_comm _ _).trans (eqS_lt hx)
    rw [List.foldl_cons]
    have : stepP c (true, out) x = (true, out ++ [x]) := by simp [stepP, e]
    rw [this, ih _ (fun y hy => h y (by simp [hy]))]
    simp
theorem put_fold (c : Chg) (l : List Chg) (out : List Chg) (h : rises l) : endP c (l.foldl (stepP c) (false, out)) = out ++ insL l c := by
  induction l generalizing out with
  | nil => simp [endP, insL]
  | cons x l ih =>
    unfold rises at h
    obtain ⟨h1, h2⟩ := List.pairwise_cons.1 h
    rw [List.foldl_cons]
    rcases keys_three x.key c.key with ⟨k1, k2, k3, k4⟩ | k1 | ⟨k1, k2, k3, k4⟩
    · have e : leS c.key x.key = false := by rw [leS_not, k1]; rfl
      have : stepP c (false, out) x = (false, out ++ [x]) := by simp [stepP, e, k2]
      rw [this, ih _ h2]
      simp [insL, k1]
    · have e : leS c.key c.key = true := by rw [leS_not, ltS_irrefl]; rfl
      have : stepP c (false, out) x = (true, out ++ [c]) := by simp [stepP, e, k1, eqS_refl]
      rw [this, step_laid c l _ (fun y hy => k1 ▸ h1 y hy)]
      simp [endP, insL, k1, ltS_irrefl, eqS_refl]
    · have e : leS c.key x.key = true := by rw [leS_not, k1]; rfl
      have : stepP c (false, out) x = (true, out ++ [c] ++ [x]) := by simp [stepP, e, k2]
      rw [this, step_laid c l _ (fun y hy => ltS_trans k3 (h1 y hy))]
      simp [endP, insL, k1, k2]
theorem fold_take (c : Chg) (l : List Chg) (k : Nat) (hk : k < l.length) : (l.take (k + 1)).foldl (stepP c) (false, []) = stepP c ((l.take k).foldl (stepP c) (false, [])) l[k] := by
  rw [List.take_succ_eq_append_getElem hk, List.foldl_append]; rfl
theorem step_len (c : Chg) (s : Bool × List Chg) (x : Chg) : (stepP c s x).2.length ≤ s.2.length + 2 := by
  unfold stepP
  simp only
  split <;> split <;> simp <;> omega

/-- do they rise, up to the k-th? -/
def risesTo (l : List Chg) (k : Nat) : Prop := ∀ i (h : i + 1 < l.length), i + 1 < k → ltS l[i].key l[i + 1].key = true
theorem rises_all {l : List Chg} (h : risesTo l l.length) : rises l := by
  unfold rises
  have step : ∀ i j (hj : j < l.length), i < j → (hi : i < l.length) → ltS l[i].key l[j].key = true := by
    intro i j
    induction j with
    | zero => intro _ h; omega
    | succ j ih =>
      intro hj hij hi
      have hs := h j hj hj
      by_cases e : i = j
      · subst e; exact hs
      · exact ltS_trans (ih (by omega) (by omega) hi) hs
  exact List.pairwise_iff_getElem.2 fun i j hi hj hij => step i j hj hij hi
theorem rises_not {l : List Chg} {k : Nat} (h1 : 1 ≤ k) (hk : k < l.length) (h : ltS l[k - 1].key l[k].key = false) : ¬ rises l := fun hr => by
  have := List.pairwise_iff_getElem.1 hr (k - 1) k (by omega) hk (by omega)
  rw [h] at this; cases this
/-- found among changes that rise just if one has the key -/
theorem found_mem {l : List Chg} (h : rises l) (i : Nat) (hi : i < l.length) (key : ByteArray) (hk : l[i].key = key) : placeL l key = i ∧ foundL l key = true := by
  have hp : placeL l key = i := by
    refine placeL_eq ?_ (fun _ => by rw [hk, ltS_irrefl])
    rcases Nat.lt_or_ge (placeL l key) i with h' | h'
    · have hl : placeL l key < l.length := by omega
      have e := List.findIdx_getElem (p := fun c : Chg => !ltS c.key key) (xs := l) (w := hl)
      have := List.pairwise_iff_getElem.1 h _ i hl hi h'
      rw [hk] at this
      unfold placeL at this
      rw [this] at e
      cases e
    · exact h'
  refine ⟨hp, ?_⟩
  rw [foundL, hp, List.getElem?_eq_getElem hi]
  simp only
  rw [hk, eqS_refl]
theorem found_not {l : List Chg} {key : ByteArray} (h : ∀ i (hi : i < l.length), eqS l[i].key key = false) : foundL l key = false := by
  unfold foundL
  split
  · rename_i c hc
    obtain ⟨hi, rfl⟩ := List.getElem?_eq_some_iff.1 hc
    exact h _ hi
  · rfl
end Go.Proofs.Ytlndiohdjdgaoaa
