/-
  Which deeds a log has, of its sectors; what stays of them where sectors behind the last one are changed; plain.
-/
import Derived.Test.YtkfpfbkdalbjoaaGreatLogSecs
import Derived.Test.YtkfpfbkdalbjoaaGreatStr
import Derived.Test.YtkfpfbkdalbjoaaGreatLogOps
import Derived.Test.YtkfpfbkdalbjoaaGreatDskL
namespace Go.Proofs.YtkfpfbkdalbjoaaGreat

def regL (K : List ByteArray) (fr many : Nat) : List ByteArray := (K.drop fr).take many
/-- its deeds, and how many sectors these have -/
def HasL (K : List ByteArray) (fr many first : Nat) (ds : List (List Chg)) (u : Nat) : Prop := scanL first 0 (regL K fr many) ([], []) 0 = (ds, u)
theorem scan_split (first : Nat) : ∀ (l : List ByteArray) (i : Nat) (st : RSt) (u0 : Nat) (ds : List (List Chg)) (u : Nat), scanL first i l st u0 = (ds, u) → (u = u0 ∧ ds = st.1) ∨ (i < u ∧ u ≤ i + l.length ∧ ∀ r, scanL first i (l.take (u - i) ++ r) st u0 = scanL first u r (ds, []) u)
  | [], i, st, u0, ds, u, h => by
    simp only [scanL, Prod.mk.injEq] at h
    exact .inl ⟨h.2.symm, h.1.symm⟩
  | t :: l, i, st, u0, ds, u, h => by
    cases hd : decL t (first + i) with
    | none =>
      rw [scan_none hd] at h
      simp only [Prod.mk.injEq] at h
      exact .inl ⟨h.2.symm, h.1.symm⟩
    | some kd =>
      obtain ⟨k, d⟩ := kd
      cases ht : takeL st k d with
      | none =>
        rw [scan_stop hd ht] at h
        simp only [Prod.mk.injEq] at h
        exact .inl ⟨h.2.symm, h.1.symm⟩
      | some st' =>
        rw [scan_step hd ht] at h
        have hk := decL_kind hd
        have hs : (k = 99 → st'.2 = []) ∧ (k = 111 → st'.1 = st.1) := by
          unfold takeL at ht
          rcases hk with rfl | rfl
          · rw [if_pos rfl] at ht
            split at ht
            · simp only [Option.some.injEq] at ht; rw [← ht]; exact ⟨fun e => absurd e (by decide), fun _ => rfl⟩
            · cases ht
          · rw [if_neg (by decide)] at ht
            split at ht
            · simp only [Option.some.injEq] at ht; rw [← ht]; exact ⟨fun _ => rfl, fun e => absurd e (by decide)⟩
            · cases ht
        rcases scan_split first l (i + 1) st' _ ds u h with ⟨e1, e2⟩ | ⟨h1, h2, h3⟩
        · rcases hk with rfl | rfl
          · rw [if_neg (by decide)] at e1
            exact .inl ⟨e1, by rw [e2, hs.2 rfl]⟩
          · rw [if_pos rfl] at e1
            refine .inr ⟨by omega, by rw [e1, List.length_cons]; omega, fun r => ?_⟩
            rw [e1, show i + 1 - i = 1 by omega]
            show scanL first i (t :: r) st u0 = _
            rw [scan_step hd ht, if_pos rfl, e2]
            have : st' = (st'.1, []) := by rw [← hs.1 rfl]
            rw [← this]
        · refine .inr ⟨by omega, by rw [List.length_cons]; omega, fun r => ?_⟩
          rw [show u - i = (u - (i + 1)) + 1 by omega]
          show scanL first i (t :: (l.take (u - (i + 1)) ++ r)) st u0 = _
          rw [scan_step hd ht, h3]
theorem regL_get (K : List ByteArray) (fr many j : Nat) : (regL K fr many)[j]? = if j < many then K[fr + j]? else none := by
  unfold regL
  rw [List.getElem?_take, List.getElem?_drop]
theorem regL_len {K : List ByteArray} {fr many : Nat} (h : fr + many ≤ K.length) : (regL K fr many).length = many := by
  unfold regL; rw [List.length_take, List.length_drop]; omega
section
variable {K K' : List ByteArray} {fr many first u : Nat} {ds : List (List Chg)}
theorem HasL.used (h : HasL K fr many first ds u) (hf : fr + many ≤ K.length) : u ≤ many := by
  rcases scan_split first _ 0 _ 0 ds u h with ⟨e, _⟩ | ⟨_, h2, _⟩
  · omega
  · rw [regL_len hf] at h2; omega
theorem HasL.go (h : HasL K fr many first ds u) (r : List ByteArray) : scanL first 0 ((regL K fr many).take u ++ r) ([], []) 0 = scanL first u r (ds, []) u := by
  rcases scan_split first _ 0 _ 0 ds u h with ⟨e, e2⟩ | ⟨_, _, h3⟩
  · rw [e, e2]; rfl
  · exact h3 r
/-- all that counts is the same -/
theorem HasL.same (h : HasL K fr many first ds u) (hf : fr + many ≤ K.length) (ha : ∀ j, j < u → K'[fr + j]? = K[fr + j]?) : scanL first 0 (regL K' fr many) ([], []) 0 = scanL first u ((regL K' fr many).drop u) (ds, []) u := by
  have hu := h.used hf
  have e : (regL K' fr many).take u = (regL K fr many).take u := by
    apply List.ext_getElem?
    intro j
    rw [List.getElem?_take, List.getElem?_take]
    by_cases hj : j < u
    · rw [if_pos hj, if_pos hj, regL_get, regL_get, if_pos (by omega), if_pos (by omega)]
      exact ha j hj
    · rw [if_neg hj, if_neg hj]
  have := h.go ((regL K' fr many).drop u)
  rw [← e, List.take_append_drop] at this
  exact this
theorem byteAt_zero (i : Nat) : byteAt (zerosB 96) i = 0 := by
  unfold byteAt
  split
  case isFalse => rfl
  case isTrue h =>
    have : (zerosB 96)[i] = 0 := by
      have hl : i < (List.replicate 96 (0 : UInt8)).length := h
      have : (List.replicate 96 (0 : UInt8))[i]'hl = 0 := List.getElem_replicate hl
      exact this
    rw [this]; rfl
theorem dec_zero (n : Nat) : decL (zerosB 96) n = none := by
  unfold decL
  rw [if_neg]
  rw [byteAt_zero]
  rintro ⟨h, _⟩
  rcases h with h | h <;> cases h
theorem pad_empty : dpadB emptyB = zerosB 96 := rfl
/-- behind its last deed are noughts -/
theorem HasL.nought (h : HasL K fr many first ds u) (hf : fr + many ≤ K.length) (ha : ∀ j, j < u → K'[fr + j]? = K[fr + j]?) (hz : K'[fr + u]? = some (zerosB 96)) (hu : u < many) : HasL K' fr many first ds u := by
  unfold HasL
  rw [h.same hf ha]
  have hg : (regL K' fr many)[u]? = some (zerosB 96) := by rw [regL_get, if_pos hu]; exact hz
  obtain ⟨hl, he⟩ := List.getElem?_eq_some_iff.1 hg
  rw [List.drop_eq_getElem_cons hl, he, scan_none (dec_zero _)]
end
theorem byteAt_get {t : ByteArray} {i : Nat} {x : UInt8} (h : t.data.toList[i]? = some x) : byteAt t i = x.toNat := by
  obtain ⟨hl, he⟩ := List.getElem?_eq_some_iff.1 h
  have hl' : i < t.size := by rw [Array.length_toList] at hl; exact hl
  unfold byteAt
  rw [dif_pos hl']
  congr 1
/-- a sector is read as it was written -/
theorem dec_enc (k n : Nat) (d : ByteArray) (hk : k = 111 ∨ k = 99) (hd : d.size ≤ 90) : decL (dpadB (encL k n d)) n = some (k, d) := by
  have hk2 : k < 256 := by rcases hk with rfl | rfl <;> decide
  have hlist : (dpadB (encL k n d)).data.toList = UInt8.ofNat k :: (fourL n ++ (UInt8.ofNat d.size :: (d.data.toList ++ List.replicate (96 - (encL k n d).size) 0))) := by
    unfold dpadB encL fourB
    simp [ByteArray.data_append]
  have b0 : byteAt (dpadB (encL k n d)) 0 = k := by
    rw [byteAt_get (x := UInt8.ofNat k) (by rw [hlist]; rfl), UInt8.toNat_ofNat']
    exact Nat.mod_eq_of_lt hk2
  have b5 : byteAt (dpadB (encL k n d)) 5 = d.size := by
    rw [byteAt_get (x := UInt8.ofNat d.size) (by rw [hlist]; rfl), UInt8.toNat_ofNat']
    exact Nat.mod_eq_of_lt (by omega)
  have ex : ∀ i j, ((dpadB (encL k n d)).extract i j).toList = ((dpadB (encL k n d)).data.toList.take j).drop i := fun i j => by
    rw [Lib.toList_data, ByteArray.data_extract, Array.toList_extract, List.extract_eq_take_drop, List.take_drop]
    by_cases h : i ≤ j
    · rw [show i + (j - i) = j by omega]
    · rw [List.drop_eq_nil_of_le (by rw [List.length_take]; omega), List.drop_eq_nil_of_le (by rw [List.length_take]; omega)]
  have e1 : ((dpadB (encL k n d)).extract 1 5).toList = (fourB n).toList := by
    rw [ex, hlist, Lib.toList_data]
    rfl
  have hdl : d.data.toList.length = d.size := by rw [Array.length_toList]; rfl
  have e2 : (dpadB (encL k n d)).extract 6 (6 + d.size) = d := by
    apply toList_inj
    rw [ex, hlist, Lib.toList_data]
    show ((UInt8.ofNat k :: UInt8.ofNat n :: UInt8.ofNat (n / 256) :: UInt8.ofNat (n / 65536) :: UInt8.ofNat (n / 16777216) :: UInt8.ofNat d.size :: (d.data.toList ++ List.replicate (96 - (encL k n d).size) 0)).take (6 + d.size)).drop 6 = _
    rw [show 6 + d.size = d.size + 6 by omega]
    simp only [List.take_succ_cons, List.drop_succ_cons, List.drop_zero]
    rw [List.take_append_of_le_length (by omega), List.take_of_length_le (by omega)]
  unfold decL
  rw [b0, b5, e1, e2, if_pos ⟨hk, by simp, hd⟩]
theorem take_four (st : RSt) : takeL st 99 (fourB st.2.length) = some (st.1 ++ [st.2], []) := by
  unfold takeL
  rw [if_neg (by decide), if_pos (by simp)]
theorem take_text (st : RSt) (c : Chg) (hf : chgFault c = 0) : takeL st 111 (textB c) = some (st.1, st.2 ++ [c]) := by
  unfold takeL
  obtain ⟨h1, h2⟩ := parse_own c hf
  rw [if_pos rfl, if_pos h1, h2]
theorem chgsF_cons {c : Chg} {l : List Chg} (h : chgsF (c :: l) = 0) : chgFault c = 0 ∧ chgsF l = 0 := by
  have h' : (if chgFault c = 0 then chgsF l else chgFault c) = 0 := h
  by_cases e : chgFault c = 0
  · rw [if_pos e] at h'; exact ⟨e, h'⟩
  · rw [if_neg e] at h'; exact absurd h' e
/-- a deed's sectors are read as it -/
theorem scan_changes (first : Nat) : ∀ (l : List Chg) (i : Nat) (st : RSt) (u : Nat) (r : List ByteArray), chgsF l = 0 → scanL first i ((secsFrom (first + i) l).map dpadB ++ r) st u = scanL first (i + l.length) r (st.1, st.2 ++ l) u
  | [], i, st, u, r, _ => by simp [secsFrom]
  | c :: l, i, st, u, r, h => by
    obtain ⟨h1, h2⟩ := chgsF_cons h
    obtain ⟨q1, q2⟩ := fault_key h1
    have hd := dec_enc 111 (first + i) (textB c) (.inl rfl) (by rw [text_size]; omega)
    show scanL first i (dpadB (encL 111 (first + i) (textB c)) :: ((secsFrom (first + (i + 1)) l).map dpadB ++ r)) st u = _
    rw [scan_step hd (take_text st c h1), if_neg (by decide), scan_changes first l (i + 1) _ u r h2]
    rw [show i + 1 + l.length = i + (c :: l).length by rw [List.length_cons]; omega, List.append_assoc]
    rfl
theorem scan_deed (first : Nat) (l : List Chg) (i : Nat) (ds : List (List Chg)) (u : Nat) (r : List ByteArray) (h : chgsF l = 0) : scanL first i ((deedSecs (first + i) l).map dpadB ++ r) (ds, []) u = scanL first (i + l.length + 1) r (ds ++ [l], []) (i + l.length + 1) := by
  unfold deedSecs
  rw [List.map_append, List.append_assoc, scan_changes first l i _ u _ h, List.nil_append]
  have hd := dec_enc 99 (first + i + l.length) (fourB l.length) (.inr rfl) (by show 4 ≤ 90; decide)
  show scanL first (i + l.length) (dpadB (encL 99 (first + i + l.length) (fourB l.length)) :: r) (ds, l) u = _
  rw [Nat.add_assoc first i] at hd ⊢
  rw [scan_step hd (take_four (ds, l)), if_pos rfl]
section
variable {K K' : List ByteArray} {fr many first u : Nat} {ds : List (List Chg)}
/-- a deed more, behind it noughts or nothing -/
theorem HasL.deed (h : HasL K fr many first ds u) (hf : fr + many ≤ K.length) (hK : K'.length = K.length) (ha : ∀ j, j < u → K'[fr + j]? = K[fr + j]?) (l : List Chg) (hl : chgsF l = 0) (hfit : u + l.length + 1 ≤ many)
    (hs : ∀ j (hj : j < (deedSecs (first + u) l).length), K'[fr + u + j]? = some (dpadB (deedSecs (first + u) l)[j])) (hz : u + l.length + 1 < many → K'[fr + u + l.length + 1]? = some (zerosB 96)) : HasL K' fr many first (ds ++ [l]) (u + l.length + 1) := by
  unfold HasL
  rw [h.same hf ha]
  have hdl := deedSecs_len (first + u) l
  have hrl : (regL K' fr many).length = many := regL_len (by omega)
  have e : (regL K' fr many).drop u = (deedSecs (first + u) l).map dpadB ++ (regL K' fr many).drop (u + l.length + 1) := by
    apply List.ext_getElem?
    intro j
    rw [List.getElem?_drop]
    by_cases hj : j < (deedSecs (first + u) l).length
    · rw [List.getElem?_append_left (by rw [List.length_map]; exact hj), List.getElem?_map, List.getElem?_eq_getElem hj, regL_get, if_pos (by omega), ← Nat.add_assoc, hs j hj]
      rfl
    · rw [List.getElem?_append_right (by rw [List.length_map]; omega), List.length_map, hdl, List.getElem?_drop]
      congr 1
      omega
  rw [e, scan_deed first l u ds u _ hl]
  by_cases hm : u + l.length + 1 < many
  · have hg : (regL K' fr many)[u + l.length + 1]? = some (zerosB 96) := by rw [regL_get, if_pos hm, show fr + (u + l.length + 1) = fr + u + l.length + 1 by omega]; exact hz hm
    obtain ⟨hl3, he⟩ := List.getElem?_eq_some_iff.1 hg
    rw [List.drop_eq_getElem_cons hl3, he, scan_none (dec_zero _)]
  · rw [List.drop_eq_nil_of_le (by omega)]
    rfl
end
end Go.Proofs.YtkfpfbkdalbjoaaGreat

/-
  What a fall at any step of adding a deed leaves; plain.
-/
namespace Go.Proofs.YtkfpfbkdalbjoaaGreat

/-- what may be there behind a restart -/
def After (s : DSt) (K : List ByteArray) : Prop := ∃ k : Int, K = keepL k 0 s.wait s.kept
theorem after_len {s : DSt} {K : List ByteArray} (h : After s K) : K.length = s.kept.length := by
  obtain ⟨k, rfl⟩ := h
  exact keepL_len _ _ _ _
theorem after_step (s : DSt) : After (dstepD s) = After s := by
  have h := dstepD_len s
  unfold After
  rw [h.2.1, h.2.2]
theorem after_kept {s : DSt} {K : List ByteArray} (hw : s.wait = []) (h : After s K) : K = s.kept := by
  obtain ⟨k, rfl⟩ := h
  rw [hw]; rfl
theorem after_laid {s : DSt} {a : Nat} {d : ByteArray} {K : List ByteArray} (h : After (laidD s a d) K) : ∃ K0, After s K0 ∧ (K = K0 ∨ K = K0.set a d) := by
  obtain ⟨k, rfl⟩ := h
  refine ⟨keepL k 0 s.wait s.kept, ⟨k, rfl⟩, ?_⟩
  have e : keepL k 0 (laidD s a d).wait (laidD s a d).kept = if keepB k ((0 + s.wait.length) % 64) then (keepL k 0 s.wait s.kept).set a d else keepL k 0 s.wait s.kept := keepL_more k s.wait (a, d) 0 s.kept
  rw [e]
  by_cases h : keepB k ((0 + s.wait.length) % 64) = true
  · rw [if_pos h]; exact .inr rfl
  · rw [if_neg h]; exact .inl rfl
/-- a step that is taken, or at which it falls -/
structure Fell (s s' : DSt) (f : Nat) : Prop where
  f10 : f = 10
  down : s'.down = true
  aft : After s' = After s
  now : s'.now = s.now
theorem step_cases (s : DSt) (hd : s.down = false) : (dstepF s = 0 ∧ (dstepD s).down = false) ∨ Fell s (dstepD s) (dstepF s) := by
  unfold dstepF dstepD
  rw [hd]
  by_cases h : s.left = 0
  · exact .inr ⟨by simp [h], by simp [h], by simp [h]; rfl, by simp [h]⟩
  · refine .inl ⟨by simp [h], ?_⟩
    simp [h]
/-- a write that fits -/
theorem write_cases (s : DSt) (hd : s.down = false) (a : Nat) (d : ByteArray) (ha : a < s.now.length) (hs : d.size ≤ 96) : (opF (.wr a d) s = 0 ∧ (opD (.wr a d) s).down = false ∧ (opD (.wr a d) s).now = s.now.set a (dpadB d) ∧ (opD (.wr a d) s).kept = s.kept ∧ ∀ K, After (opD (.wr a d) s) K → ∃ K0, After s K0 ∧ (K = K0 ∨ K = K0.set a (dpadB d))) ∨ Fell s (opD (.wr a d) s) (opF (.wr a d) s) := by
  have hb : ¬ ((a : Int) < 0 ∨ (s.now.length : Int) ≤ (a : Int) ∨ 96 < d.size) := by omega
  have eF : opF (.wr a d) s = dstepF s := by show dwriteF s a d = _; unfold dwriteF; rw [if_neg hb]
  have h3 := dstepD_len s
  rcases step_cases s hd with ⟨h1, h2⟩ | h
  · have eD : opD (.wr a d) s = laidD (dstepD s) a (dpadB d) := by show dwriteD s a d = _; unfold dwriteD; rw [if_neg hb, if_pos h1, Int.toNat_natCast]
    rw [eF, eD]
    refine .inl ⟨h1, h2, ?_, ?_, fun K hK => ?_⟩
    · show (dstepD s).now.set _ _ = _; rw [h3.1]
    · show (dstepD s).kept = _; rw [h3.2.1]
    · obtain ⟨K0, q1, q2⟩ := after_laid hK
      rw [after_step] at q1
      exact ⟨K0, q1, q2⟩
  · have eD : opD (.wr a d) s = dstepD s := by show dwriteD s a d = _; unfold dwriteD; rw [if_neg hb, if_neg (by rw [h.f10]; decide)]
    rw [eF, eD]
    exact .inr h
theorem flush_cases (s : DSt) (hd : s.down = false) : (opF .fl s = 0 ∧ (opD .fl s).down = false ∧ (opD .fl s).now = s.now ∧ (opD .fl s).kept = s.now ∧ (opD .fl s).wait = []) ∨ Fell s (opD .fl s) (opF .fl s) := by
  rcases step_cases s hd with ⟨h1, h2⟩ | h
  · have eD : opD .fl s = { dstepD s with kept := s.now, wait := [] } := by show flushD s = _; unfold flushD; rw [if_pos h1]
    rw [eD]
    exact .inl ⟨h1, h2, (dstepD_len s).1, rfl, rfl⟩
  · have eD : opD .fl s = dstepD s := by show flushD s = _; unfold flushD; rw [if_neg (by rw [h.f10]; decide)]
    rw [eD]
    exact .inr h
/-- of steps: none fell, and what is so; or one fell, and what may be there then -/
structure Run (r : Nat × DSt) (P : DSt → Prop) (X : List ByteArray → Prop) : Prop where
  good : r.1 = 0 → P r.2
  bad : r.1 ≠ 0 → r.1 = 10 ∧ r.2.down = true ∧ ∀ K, After r.2 K → X K
theorem Run.of_fell {s s' : DSt} {f : Nat} {P : DSt → Prop} {X : List ByteArray → Prop} (h : Fell s s' f) (hX : ∀ K, After s K → X K) : Run (f, s') P X :=
  ⟨fun e => absurd (h.f10.symm.trans e) (by decide), fun _ => ⟨h.f10, h.down, fun K hK => hX K (by rw [← h.aft]; exact hK)⟩⟩
theorem Run.bind {a b : List DOp} {s : DSt} {P Q : DSt → Prop} {X : List ByteArray → Prop} (h : Run (runD a s) P X) (h2 : ∀ s', P s' → Run (runD b s') Q X) : Run (runD (a ++ b) s) Q X := by
  rw [runD_append]
  by_cases e : (runD a s).1 = 0
  · rw [if_pos e]; exact h2 _ (h.good e)
  · rw [if_neg e]; exact ⟨fun e2 => absurd e2 e, h.bad⟩
theorem Run.mono {r : Nat × DSt} {P Q : DSt → Prop} {X Y : List ByteArray → Prop} (h : Run r P X) (h1 : ∀ s, P s → Q s) (h2 : ∀ K, X K → Y K) : Run r Q Y :=
  ⟨fun e => h1 _ (h.good e), fun e => ⟨(h.bad e).1, (h.bad e).2.1, fun K hK => h2 K ((h.bad e).2.2 K hK)⟩⟩
/-- writes at some places alone, that what counts does not look at -/
theorem Run.writes (X : List ByteArray → Prop) (n : Nat) : ∀ (l : List (Nat × ByteArray)) (s : DSt), s.down = false → s.now.length = n → (∀ K, After s K → X K) → (∀ x ∈ l, x.1 < n ∧ x.2.size ≤ 96 ∧ ∀ K, X K → X (K.set x.1 (dpadB x.2))) →
    Run (runD (l.map fun x => .wr x.1 x.2) s) (fun s' => s'.down = false ∧ s'.now = l.foldl (fun N x => N.set x.1 (dpadB x.2)) s.now ∧ ∀ K, After s' K → X K) X
  | [], s, hd, _, hX, _ => ⟨fun _ => ⟨hd, rfl, hX⟩, fun e => absurd rfl e⟩
  | x :: l, s, hd, hn, hX, hl => by
    obtain ⟨h1, h2, h3⟩ := hl x (List.mem_cons_self ..)
    show Run (if opF (.wr x.1 x.2) s = 0 then runD (l.map fun x => .wr x.1 x.2) (opD (.wr x.1 x.2) s) else (opF (.wr x.1 x.2) s, opD (.wr x.1 x.2) s)) _ _
    rcases write_cases s hd x.1 x.2 (by omega) h2 with ⟨q1, q2, q3, _, q5⟩ | h
    · rw [if_pos q1]
      have := Run.writes X n l (opD (.wr x.1 x.2) s) q2 (by rw [q3, List.length_set]; exact hn) (fun K hK => by
        obtain ⟨K0, a, b⟩ := q5 K hK
        rcases b with rfl | rfl
        · exact hX _ a
        · exact h3 _ (hX _ a)) (fun y hy => hl y (List.mem_cons_of_mem _ hy))
      rw [q3] at this
      exact this
    · rw [if_neg (by rw [h.f10]; decide)]
      exact .of_fell h hX
theorem Run.flush (X : List ByteArray → Prop) (s : DSt) (hd : s.down = false) (hX : ∀ K, After s K → X K) : Run (runD [.fl] s) (fun s' => s'.down = false ∧ s'.now = s.now ∧ s'.kept = s.now ∧ s'.wait = []) X := by
  rw [runD_one]
  rcases flush_cases s hd with ⟨q1, q2⟩ | h
  · exact ⟨fun _ => q2, fun e => absurd q1 e⟩
  · exact .of_fell h hX
theorem rest_map : ∀ (l : List ByteArray) (a : Nat), restFrom a l = (l.zipIdx a).map fun x => DOp.wr x.2 x.1
  | [], _ => rfl
  | t :: l, a => by
    show DOp.wr a t :: restFrom (a + 1) l = _
    rw [rest_map l (a + 1), List.zipIdx_cons]
    rfl
theorem set_fold (l : List (Nat × ByteArray)) (j : Nat) : ∀ (N : List ByteArray), (∀ x ∈ l, x.1 ≠ j) → (l.foldl (fun N x => N.set x.1 (dpadB x.2)) N)[j]? = N[j]? := by
  induction l with
  | nil => intro N _; rfl
  | cons x l ih =>
    intro N h
    show (l.foldl _ (N.set x.1 (dpadB x.2)))[j]? = _
    rw [ih _ fun y hy => h y (List.mem_cons_of_mem _ hy), List.getElem?_set_ne (h x (List.mem_cons_self ..))]
theorem set_fold_len (l : List (Nat × ByteArray)) : ∀ (N : List ByteArray), (l.foldl (fun N x => N.set x.1 (dpadB x.2)) N).length = N.length := by
  induction l with
  | nil => intro N; rfl
  | cons x l ih => intro N; show (l.foldl _ (N.set x.1 (dpadB x.2))).length = _; rw [ih, List.length_set]
/-- sectors one behind the other -/
theorem set_rest : ∀ (l : List ByteArray) (a : Nat) (N : List ByteArray) (j : Nat) (h : j < l.length), a + l.length ≤ N.length → ((l.zipIdx a).foldl (fun N x => N.set x.2 (dpadB x.1)) N)[a + j]? = some (dpadB l[j])
  | t :: l, a, N, j, h, hN => by
    rw [List.length_cons] at hN
    rw [List.zipIdx_cons, List.foldl_cons]
    cases j with
    | zero =>
      have e : ∀ (m : List ByteArray) (b : Nat) (M : List ByteArray), a < b → ((m.zipIdx b).foldl (fun N x => N.set x.2 (dpadB x.1)) M)[a]? = M[a]? := fun m => by
        induction m with
        | nil => intro b M _; rfl
        | cons y m ih =>
          intro b M hb
          rw [List.zipIdx_cons, List.foldl_cons, ih _ _ (by omega), List.getElem?_set_ne (by omega)]
      show (List.foldl _ (N.set a (dpadB t)) _)[a]? = _
      rw [e l (a + 1) _ (by omega), List.getElem?_set_self (by omega)]
      rfl
    | succ j =>
      have := set_rest l (a + 1) (N.set a (dpadB t)) j (by simpa using h) (by rw [List.length_set]; omega)
      rw [show a + 1 + j = a + (j + 1) by omega] at this
      exact this
end Go.Proofs.YtkfpfbkdalbjoaaGreat

/-
  A deed is there whole or not at all, behind a fall at any step of adding it; plain.
-/
namespace Go.Proofs.YtkfpfbkdalbjoaaGreat

/-- what is there of a disk whose log has these deeds; the rest as it was, but for the log's own sectors from one on -/
structure LogAt (N K : List ByteArray) (fr many first a : Nat) (ds : List (List Chg)) (u : Nat) : Prop where
  len : K.length = N.length
  out : ∀ j, j < a ∨ fr + many ≤ j → K[j]? = N[j]?
  has : HasL K fr many first ds u
theorem enc_size (k n : Nat) (d : ByteArray) : (encL k n d).size = 6 + d.size := by
  unfold encL
  rw [ByteArray.size_append, ByteArray.size_append, ByteArray.size_append]
  show 1 + 4 + 1 + d.size = _
  omega
theorem secs_size {n : Nat} {l : List Chg} (h : chgsF l = 0) : ∀ t ∈ deedSecs n l, t.size ≤ 96 := by
  intro t ht
  unfold deedSecs at ht
  rcases List.mem_append.1 ht with ht | ht
  · have : ∀ (l : List Chg) (n : Nat), chgsF l = 0 → ∀ t ∈ secsFrom n l, t.size ≤ 96 := fun l => by
      induction l with
      | nil => intro n _ t ht; exact absurd ht List.not_mem_nil
      | cons c l ih =>
        intro n h t ht
        obtain ⟨h1, h2⟩ := chgsF_cons h
        obtain ⟨q1, q2⟩ := fault_key h1
        rcases List.mem_cons.1 ht with rfl | ht
        · rw [enc_size, text_size]; omega
        · exact ih _ h2 t ht
    exact this l n h t ht
  · rw [List.mem_singleton] at ht
    rw [ht, enc_size]
    show 6 + 4 ≤ 96
    decide
section
variable {s : DSt} {fr many first u : Nat} {ds : List (List Chg)} {l : List Chg}
theorem add_run (hd : s.down = false) (hw : s.wait = []) (hk : s.kept = s.now) (hfit : fr + many ≤ s.now.length) (h : HasL s.now fr many first ds u) (hl : chgsF l = 0) (hroom : u + l.length + 1 ≤ many) :
    Run (runD (addOps (fr + u) (deedSecs (first + u) l) (many - u)) s) (fun s' => s'.down = false ∧ s'.wait = [] ∧ s'.kept = s'.now ∧ LogAt s.now s'.now fr many first (fr + u) (ds ++ [l]) (u + l.length + 1))
      (fun K => LogAt s.now K fr many first (fr + u) ds u ∨ LogAt s.now K fr many first (fr + u) (ds ++ [l]) (u + l.length + 1)) := by
  have hsz := secs_size (n := first + u) hl
  have hdl := deedSecs_len (first + u) l
  generalize hS : deedSecs (first + u) l = secs at *
  generalize hN : s.now = N at *
  obtain ⟨t0, tl, hsec⟩ : ∃ t0 tl, secs = t0 :: tl := by
    cases secs with
    | nil => simp at hdl
    | cons t0 tl => exact ⟨t0, tl, rfl⟩
  have htl : tl.length = l.length := by rw [hsec] at hdl; simpa using hdl
  have hops : addOps (fr + u) secs (many - u) = [.wr (fr + u) emptyB] ++ ([.fl] ++ (restFrom (fr + u + 1) tl ++ ((if secs.length = many - u then [] else [.wr (fr + u + secs.length) emptyB]) ++ ([.fl] ++ ([.wr (fr + u) t0] ++ ([.fl] ++ [])))))) := by
    rw [hsec]; rfl
  rw [hops]
  have hau : fr + u < N.length := by omega
  -- the cut
  have g0 : ∀ K, (K = N ∨ K = N.set (fr + u) (zerosB 96)) → LogAt N K fr many first (fr + u) ds u := fun K hK => by
    rcases hK with rfl | rfl
    · exact ⟨rfl, fun _ _ => rfl, h⟩
    · exact ⟨List.length_set .., fun j hj => List.getElem?_set_ne (by omega), h.nought hfit (fun j hj => List.getElem?_set_ne (by omega)) (List.getElem?_set_self hau) (by omega)⟩
  have r1 := Run.writes (fun K => K = N ∨ K = N.set (fr + u) (zerosB 96)) N.length [(fr + u, emptyB)] s hd (by rw [hN]) (fun K hK => .inl (by rw [after_kept hw hK, hk])) (fun x hx => by
    rw [List.mem_singleton] at hx
    subst hx
    refine ⟨hau, by show emptyB.size ≤ 96; decide, fun K hK => ?_⟩
    rcases hK with rfl | rfl
    · exact .inr rfl
    · refine .inr ?_
      show (N.set (fr + u) (zerosB 96)).set (fr + u) (zerosB 96) = _
      rw [List.set_set])
  refine Run.bind (r1.mono (fun _ h => h) (fun K hK => .inl (g0 K hK))) fun s1 ⟨d1, n1, x1⟩ => ?_
  have n1' : s1.now = N.set (fr + u) (zerosB 96) := by rw [n1, hN]; rfl
  refine Run.bind ((Run.flush _ s1 d1 x1).mono (fun _ h => h) (fun K hK => .inl (g0 K hK))) fun s2 ⟨d2, n2, k2, w2⟩ => ?_
  rw [n1'] at n2 k2
  -- the rest, and noughts behind it
  have hX2 : ∀ K : List ByteArray, (K.length = N.length ∧ (∀ j, j < fr + u ∨ fr + many ≤ j → K[j]? = N[j]?) ∧ K[fr + u]? = some (zerosB 96)) → LogAt N K fr many first (fr + u) ds u := fun K ⟨q1, q2, q3⟩ => ⟨q1, q2, h.nought hfit (fun j hj => q2 _ (by omega)) q3 (by omega)⟩
  have hset : ∀ (a : Nat) (d : ByteArray) (K : List ByteArray), fr + u < a → a < fr + many → (K.length = N.length ∧ (∀ j, j < fr + u ∨ fr + many ≤ j → K[j]? = N[j]?) ∧ K[fr + u]? = some (zerosB 96)) → ((K.set a (dpadB d)).length = N.length ∧ (∀ j, j < fr + u ∨ fr + many ≤ j → (K.set a (dpadB d))[j]? = N[j]?) ∧ (K.set a (dpadB d))[fr + u]? = some (zerosB 96)) := fun a d K h1 h2 ⟨q1, q2, q3⟩ =>
    ⟨by rw [List.length_set]; exact q1, fun j hj => by rw [List.getElem?_set_ne (by omega)]; exact q2 j hj, by rw [List.getElem?_set_ne (by omega)]; exact q3⟩
  have hx2 : (N.set (fr + u) (zerosB 96)).length = N.length ∧ (∀ j, j < fr + u ∨ fr + many ≤ j → (N.set (fr + u) (zerosB 96))[j]? = N[j]?) ∧ (N.set (fr + u) (zerosB 96))[fr + u]? = some (zerosB 96) :=
    ⟨List.length_set .., fun j hj => List.getElem?_set_ne (by omega), List.getElem?_set_self hau⟩
  have erest : restFrom (fr + u + 1) tl = ((tl.zipIdx (fr + u + 1)).map fun x => (x.2, x.1)).map fun x => DOp.wr x.1 x.2 := by rw [rest_map, List.map_map]; rfl
  rw [erest]
  have r3 := Run.writes (fun K => K.length = N.length ∧ (∀ j, j < fr + u ∨ fr + many ≤ j → K[j]? = N[j]?) ∧ K[fr + u]? = some (zerosB 96)) N.length ((tl.zipIdx (fr + u + 1)).map fun x => (x.2, x.1)) s2 d2 (by rw [n2, List.length_set]) (fun K hK => by rw [after_kept w2 hK, k2]; exact hx2) (fun x hx => by
    obtain ⟨y, hy, rfl⟩ := List.mem_map.1 hx
    have hy2 := List.mem_zipIdx hy
    refine ⟨by show y.2 < _; omega, hsz _ ?_, fun K hK => hset _ _ K (by show _ < y.2; omega) (by show y.2 < _; omega) hK⟩
    rw [hsec]
    have := hy2.2.2
    show y.1 ∈ t0 :: tl
    rw [this]
    exact List.mem_cons_of_mem _ (List.getElem_mem _))
  refine Run.bind (r3.mono (fun _ h => h) (fun K hK => .inl (hX2 K hK))) fun s3 ⟨d3, n3, x3⟩ => ?_
  rw [n2, List.foldl_map] at n3
  have n3len : s3.now.length = N.length := by
    rw [n3]
    have := set_fold_len ((tl.zipIdx (fr + u + 1)).map fun x => (x.2, x.1)) (N.set (fr + u) (zerosB 96))
    rw [List.foldl_map, List.length_set] at this
    exact this
  have n3out : ∀ j, j ≤ fr + u ∨ fr + u + 1 + tl.length ≤ j → s3.now[j]? = (N.set (fr + u) (zerosB 96))[j]? := fun j hj => by
    rw [n3]
    have := set_fold ((tl.zipIdx (fr + u + 1)).map fun x => (x.2, x.1)) j (N.set (fr + u) (zerosB 96)) (fun x hx => by
      obtain ⟨y, hy, rfl⟩ := List.mem_map.1 hx
      have hy2 := List.mem_zipIdx hy
      show y.2 ≠ j
      omega)
    rw [List.foldl_map] at this
    exact this
  have n3at : ∀ j (hj : j < tl.length), s3.now[fr + u + 1 + j]? = some (dpadB tl[j]) := fun j hj => by
    rw [n3]
    exact set_rest tl (fr + u + 1) _ j hj (by rw [List.length_set]; omega)
  have r4 : Run (runD (if secs.length = many - u then [] else [.wr (fr + u + secs.length) emptyB]) s3) (fun s' => s'.down = false ∧ s'.now = (if secs.length = many - u then s3.now else s3.now.set (fr + u + secs.length) (zerosB 96)) ∧ ∀ K, After s' K → (K.length = N.length ∧ (∀ j, j < fr + u ∨ fr + many ≤ j → K[j]? = N[j]?) ∧ K[fr + u]? = some (zerosB 96))) (fun K => K.length = N.length ∧ (∀ j, j < fr + u ∨ fr + many ≤ j → K[j]? = N[j]?) ∧ K[fr + u]? = some (zerosB 96)) := by
    by_cases hc : secs.length = many - u
    · rw [if_pos hc, if_pos hc]
      exact ⟨fun _ => ⟨d3, rfl, x3⟩, fun e => absurd rfl e⟩
    · rw [if_neg hc, if_neg hc]
      refine (Run.writes _ N.length [(fr + u + secs.length, emptyB)] s3 d3 n3len x3 (fun x hx => ?_)).mono (fun s' h => h) (fun K hK => hK)
      rw [List.mem_singleton] at hx
      subst hx
      exact ⟨by show fr + u + secs.length < _; omega, by show emptyB.size ≤ 96; decide, fun K hK => hset _ _ K (by omega) (by omega) hK⟩
  refine Run.bind (r4.mono (fun _ h => h) (fun K hK => .inl (hX2 K hK))) fun s4 ⟨d4, n4, x4⟩ => ?_
  refine Run.bind ((Run.flush _ s4 d4 x4).mono (fun _ h => h) (fun K hK => .inl (hX2 K hK))) fun s5 ⟨d5, n5, k5, w5⟩ => ?_
  -- the first one
  have n4len : s4.now.length = N.length := by rw [n4]; split <;> simp [n3len]
  have n4out : ∀ j, j < fr + u ∨ fr + many ≤ j → s4.now[j]? = N[j]? := fun j hj => by
    rw [n4]
    have e : s3.now[j]? = N[j]? := by rw [n3out j (by omega), List.getElem?_set_ne (by omega)]
    split
    · exact e
    · rw [List.getElem?_set_ne (by omega)]; exact e
  have n4z : s4.now[fr + u]? = some (zerosB 96) := by
    rw [n4]
    have e : s3.now[fr + u]? = some (zerosB 96) := by rw [n3out _ (by omega), List.getElem?_set_self hau]
    split
    · exact e
    · rw [List.getElem?_set_ne (by omega)]; exact e
  have n4at : ∀ j (hj : j < tl.length), s4.now[fr + u + 1 + j]? = some (dpadB tl[j]) := fun j hj => by
    rw [n4]
    split
    · exact n3at j hj
    · rw [List.getElem?_set_ne (by omega)]; exact n3at j hj
  have n4e : secs.length < many - u → s4.now[fr + u + secs.length]? = some (zerosB 96) := fun hc => by
    rw [n4, if_neg (by omega), List.getElem?_set_self (by omega)]
  have hg3 : LogAt N (s4.now.set (fr + u) (dpadB t0)) fr many first (fr + u) (ds ++ [l]) (u + l.length + 1) := by
    refine ⟨by rw [List.length_set, n4len], fun j hj => by rw [List.getElem?_set_ne (by omega)]; exact n4out j hj, h.deed hfit (by rw [List.length_set, n4len]) (fun j hj => by rw [List.getElem?_set_ne (by omega)]; exact n4out _ (by omega)) l hl hroom ?_ (fun hm => ?_)⟩
    · rw [hS]
      intro j hj
      subst hsec
      cases j with
      | zero => rw [Nat.add_zero, List.getElem?_set_self (by omega)]; rfl
      | succ j =>
        have hj' : j < tl.length := by simpa using hj
        rw [List.getElem?_set_ne (by omega), show fr + u + (j + 1) = fr + u + 1 + j by omega, n4at j hj']
        rfl
    · rw [List.getElem?_set_ne (by omega), show fr + u + l.length + 1 = fr + u + secs.length by omega]
      exact n4e (by omega)
  have g5 : ∀ K, (K = s4.now ∨ K = s4.now.set (fr + u) (dpadB t0)) → (LogAt N K fr many first (fr + u) ds u ∨ LogAt N K fr many first (fr + u) (ds ++ [l]) (u + l.length + 1)) := fun K hK => by
    rcases hK with rfl | rfl
    · exact .inl (hX2 _ ⟨n4len, n4out, n4z⟩)
    · exact .inr hg3
  have r6 := Run.writes (fun K => K = s4.now ∨ K = s4.now.set (fr + u) (dpadB t0)) N.length [(fr + u, t0)] s5 d5 (by rw [n5, n4len]) (fun K hK => .inl (by rw [after_kept w5 hK, k5])) (fun x hx => by
    rw [List.mem_singleton] at hx
    subst hx
    refine ⟨hau, hsz _ (by rw [hsec]; exact List.mem_cons_self ..), fun K hK => ?_⟩
    rcases hK with rfl | rfl
    · exact .inr rfl
    · refine .inr ?_
      show (s4.now.set (fr + u) (dpadB t0)).set (fr + u) (dpadB t0) = _
      rw [List.set_set])
  refine Run.bind (r6.mono (fun _ h => h) g5) fun s6 ⟨d6, n6, x6⟩ => ?_
  have n6' : s6.now = s4.now.set (fr + u) (dpadB t0) := by rw [n6, n5]; rfl
  refine Run.bind ((Run.flush _ s6 d6 x6).mono (fun _ h => h) g5) fun s7 ⟨d7, n7, k7, w7⟩ => ?_
  refine ⟨fun _ => ⟨d7, w7, by show s7.kept = s7.now; rw [k7, n7], ?_⟩, fun e => absurd rfl e⟩
  show LogAt N s7.now _ _ _ _ _ _
  rw [n7, n6']
  exact hg3
end
end Go.Proofs.YtkfpfbkdalbjoaaGreat
