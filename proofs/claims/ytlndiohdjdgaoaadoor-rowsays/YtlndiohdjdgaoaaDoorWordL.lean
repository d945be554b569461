/-
  Plain facts on texts of two numbers and a rest, and their words. Nothing of the program is named here.
-/
import Derived.Test.YtlndiohdjdgaoaaDoorNatL
import Derived.Test.YtlndiohdjdgaoaaDoorKeyB
namespace Go.Proofs.YtlndiohdjdgaoaaDoor

theorem dec_blank (n : Nat) : ∀ c ∈ Lib.decDigits n, c ≠ 32 := fun c hc => dig_ne (dec_dig n c hc) 32 (by decide)
theorem name_blank {l : List UInt8} (h : nameL l = true) : ∀ c ∈ l, c ≠ 32 := by
  intro c hc e
  subst e
  obtain ⟨i, hi, hx⟩ := List.mem_iff_getElem.1 hc
  simp only [nameL, Bool.and_eq_true] at h
  have h2 := h.2
  rw [nameTo, List.all_eq_true] at h2
  have := h2 i (List.mem_range.2 hi)
  rw [List.getD_eq_getElem?_getD, List.getElem?_eq_getElem hi, hx] at this
  simp [nameAt, isLet, isDig] at this
theorem split_blank {a b : List UInt8} (ha : ∀ c ∈ a, c ≠ 32) (hb : ∀ c ∈ b, c ≠ 32) {x y : List UInt8} (h : a ++ 32 :: x = b ++ 32 :: y) : a = b ∧ x = y := by
  induction a generalizing b with
  | nil =>
    cases b with
    | nil => simpa using h
    | cons d b =>
      simp at h
      exact absurd h.1.symm (hb d (by simp))
  | cons c a ih =>
    cases b with
    | nil =>
      simp at h
      exact absurd h.1 (ha c (by simp))
    | cons d b =>
      simp at h
      obtain ⟨rfl, h2⟩ := h
      obtain ⟨e1, e2⟩ := ih (fun x hx => ha x (by simp [hx])) (fun x hx => hb x (by simp [hx])) h2
      exact ⟨by rw [e1], e2⟩
theorem count_no {l : List UInt8} (h : ∀ c ∈ l, c ≠ 32) : l.count 32 = 0 := List.count_eq_zero.2 fun hc => h 32 hc rfl
theorem count_out (out : List ByteArray) (h : ∀ x ∈ out, ∀ c ∈ x.data.toList, c ≠ 32) : ((out.map fun x => x.data.toList ++ [32]).flatten).count 32 = out.length := by
  induction out with
  | nil => rfl
  | cons x out ih =>
    rw [List.map_cons, List.flatten_cons, List.count_append, List.count_append, ih (fun y hy => h y (by simp [hy])), count_no (h x (by simp))]
    simp
    omega
theorem words_count {s : ByteArray} {most : Nat} {out : List ByteArray} {rest : ByteArray} (h : wordsR s most out rest) : s.data.toList.count 32 = out.length + rest.data.toList.count 32 := by
  rw [h.1, List.count_append, count_out out h.2.1]
theorem words_two {s x y rest : ByteArray} {most : Nat} (h : wordsR s most [x, y] rest) : s.data.toList = x.data.toList ++ 32 :: (y.data.toList ++ 32 :: rest.data.toList) := by
  rw [h.1]; simp
theorem natR_dec {n most : Nat} {r : Int} (h : natR (Lib.decDigits n) most r) (hn : n ≤ most) : r = n := by
  rcases h with ⟨m, _, he, hr⟩ | ⟨_, hno⟩
  · rw [hr]
    have := congrArg valL he
    rw [valL_dec, valL_dec] at this
    rw [this]
  · exact absurd rfl (hno n hn)
def queueMay (n t : Nat) (d : ByteArray) : Prop := n ≤ 999999 ∧ 1 ≤ t ∧ t ≤ 9 ∧ (d.toList.isEmpty = true ∨ (d.toList.isEmpty = false ∧ nameL d.data.toList = true))
def messageMay (t u : Nat) (d : ByteArray) : Prop := t ≤ 9 ∧ u ≤ 2000000 ∧ d.size ≤ 28
theorem may_blank {n t : Nat} {d : ByteArray} (h : queueMay n t d) : ∀ c ∈ d.data.toList, c ≠ 32 := by
  rcases h.2.2.2 with h | ⟨_, h⟩
  · rw [← Lib.toList_data, List.isEmpty_iff.1 h]; simp
  · exact name_blank h
theorem out_two {out : List ByteArray} (h : out.length = 2) : ∃ x y, out = [x, y] := by
  match out, h with
  | [x, y], _ => exact ⟨x, y, rfl⟩
/-- the words of a queue's text -/
theorem words_queue {s : ByteArray} {out : List ByteArray} {rest : ByteArray} {n t : Nat} {d : ByteArray} (h : wordsR s 99 out rest) (hq : queueMay n t d) (hs : s = joinB n t d) : out = [decB n, decB t] ∧ rest = d := by
  have hc := words_count h
  have hl : s.data.toList = Lib.decDigits n ++ 32 :: (Lib.decDigits t ++ 32 :: d.data.toList) := by rw [hs, joinB_l]
  have h2 : s.data.toList.count 32 = 2 := by
    rw [hl, List.count_append, List.count_cons_self, List.count_append, List.count_cons_self, count_no (dec_blank n), count_no (dec_blank t), count_no (may_blank hq)]
  rw [h2] at hc
  have hr : ∀ c ∈ rest.data.toList, c ≠ 32 := by
    rcases h.2.2.1 with h | h
    · exact h
    · omega
  rw [count_no hr] at hc
  obtain ⟨x, y, rfl⟩ := out_two (by omega : out.length = 2)
  have e := words_two h
  rw [hl] at e
  obtain ⟨e1, e2⟩ := split_blank (dec_blank n) (h.2.1 x (by simp)) e
  obtain ⟨e3, e4⟩ := split_blank (dec_blank t) (h.2.1 y (by simp)) e2
  refine ⟨?_, (data_inj e4).symm⟩
  rw [show x = decB n from data_inj (by rw [decB_l, e1]), show y = decB t from data_inj (by rw [decB_l, e3])]
theorem words_message {s : ByteArray} {out : List ByteArray} {rest : ByteArray} {t u : Nat} {d : ByteArray} (h : wordsR s 3 out rest) (hs : s = joinB t u d) : out = [decB t, decB u] ∧ rest = d := by
  have hc := words_count h
  have hl : s.data.toList = Lib.decDigits t ++ 32 :: (Lib.decDigits u ++ 32 :: d.data.toList) := by rw [hs, joinB_l]
  have h2 : 2 ≤ s.data.toList.count 32 := by
    rw [hl, List.count_append, List.count_cons_self, List.count_append, List.count_cons_self]; omega
  have ho : out.length = 2 := by
    rcases h.2.2.1 with k | k
    · rw [count_no k] at hc
      have := h.2.2.2
      omega
    · omega
  obtain ⟨x, y, rfl⟩ := out_two ho
  have e := words_two h
  rw [hl] at e
  obtain ⟨e1, e2⟩ := split_blank (dec_blank t) (h.2.1 x (by simp)) e
  obtain ⟨e3, e4⟩ := split_blank (dec_blank u) (h.2.1 y (by simp)) e2
  refine ⟨?_, (data_inj e4).symm⟩
  rw [show x = decB t from data_inj (by rw [decB_l, e1]), show y = decB u from data_inj (by rw [decB_l, e3])]
theorem words_no_queue {s x y rest : ByteArray} {r1 r2 : Int} (h : wordsR s 99 [x, y] rest) (h1 : natR x.data.toList 999999 r1) (h2 : natR y.data.toList 9 r2) (hno : ∀ n t d, queueMay n t d → s ≠ joinB n t d) :
    r1 < 0 ∨ (0 ≤ r1 ∧ r2 < 1) ∨ (0 ≤ r1 ∧ 1 ≤ r2 ∧ rest.toList.isEmpty = false ∧ nameL rest.data.toList = false) := by
  rcases h1 with ⟨a, ha, hx, rfl⟩ | ⟨rfl, _⟩
  · rcases h2 with ⟨b, hb, hy, rfl⟩ | ⟨rfl, _⟩
    · by_cases hb1 : b < 1
      · right; left; omega
      · right; right
        refine ⟨by omega, by omega, ?_⟩
        have : ¬ (rest.toList.isEmpty = true ∨ (rest.toList.isEmpty = false ∧ nameL rest.data.toList = true)) := fun k =>
          hno a b rest ⟨ha, by omega, hb, k⟩ (data_inj (by rw [joinB_l, words_two h, hx, hy]))
        cases e : rest.toList.isEmpty <;> cases e2 : nameL rest.data.toList <;> simp_all
    · right; left; omega
  · left; omega
theorem words_no_message {s x y rest : ByteArray} {r1 r2 : Int} (h : wordsR s 3 [x, y] rest) (hr : rest.size ≤ 28) (h1 : natR x.data.toList 9 r1) (h2 : natR y.data.toList 2000000 r2) (hno : ∀ t u d, messageMay t u d → s ≠ joinB t u d) :
    r1 < 0 ∨ (0 ≤ r1 ∧ r2 < 0) := by
  rcases h1 with ⟨a, ha, hx, rfl⟩ | ⟨rfl, _⟩
  · rcases h2 with ⟨b, hb, hy, rfl⟩ | ⟨rfl, _⟩
    · exact absurd (data_inj (by rw [joinB_l, words_two h, hx, hy])) (hno a b rest ⟨ha, hb, hr⟩)
    · right; omega
  · left; omega
end Go.Proofs.YtlndiohdjdgaoaaDoor
