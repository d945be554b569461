/-
  Deeds that are known, as lists: plain facts. Nothing of the program's functions is named here.
-/
import Derived.Test.YtdepcjnbiceciabBase
import Derived.Test.YtdepcjnbiceciabStr
namespace Go.Proofs.Ytdepcjnbiceciab
open Go.RowKit Go.Joins

structure DeedL where
  n : Int
  keys : List ByteArray

def posD (ds : List DeedL) (n : Int) : Nat := ds.findIdx fun d => !decide (d.n < n)
def knownD (ds : List DeedL) (n : Int) : Bool := match ds[posD ds n]? with
  | some d => d.n == n
  | none => false
def aboveD (ds : List DeedL) (n : Int) : Nat := if knownD ds n = true then posD ds n + 1 else posD ds n
def risesD (ds : List DeedL) : Prop := ds.Pairwise fun a b => a.n < b.n
theorem posD_le (ds : List DeedL) (n : Int) : posD ds n ≤ ds.length := List.findIdx_le_length
theorem posD_eq {ds : List DeedL} {n : Int} {i : Nat} (hi : i ≤ ds.length) (h1 : ∀ m (hm : m < ds.length), m < i → ds[m].n < n) (h2 : ∀ m (hm : m < ds.length), i ≤ m → n ≤ ds[m].n) : posD ds n = i := by
  unfold posD
  rcases Nat.lt_trichotomy (ds.findIdx fun d => !decide (d.n < n)) i with h | h | h
  · have hl : ds.findIdx (fun d => !decide (d.n < n)) < ds.length := by omega
    have := List.findIdx_getElem (p := fun d : DeedL => !decide (d.n < n)) (xs := ds) (w := hl)
    have h3 := h1 _ hl h
    simp [h3] at this
  · exact h
  · have hl : i < ds.length := Nat.lt_of_lt_of_le h List.findIdx_le_length
    have := List.not_of_lt_findIdx (p := fun d : DeedL => !decide (d.n < n)) (xs := ds) (i := i) h
    have h3 := h2 i hl (Nat.le_refl _)
    simp at this
    omega
theorem rises_at {ds : List DeedL} (h : risesD ds) {i j : Nat} (hj : j < ds.length) (hij : i < j) : (ds[i]'(by omega)).n < ds[j].n := List.pairwise_iff_getElem.1 h i j (by omega) hj hij
theorem posD_lt {ds : List DeedL} {n : Int} {m : Nat} (hm : m < ds.length) (h : m < posD ds n) : ds[m].n < n := by
  have := List.not_of_lt_findIdx (p := fun d : DeedL => !decide (d.n < n)) (xs := ds) (i := m) h
  simpa using this
theorem posD_ge {ds : List DeedL} (hr : risesD ds) {n : Int} {m : Nat} (hm : m < ds.length) (h : posD ds n ≤ m) : n ≤ ds[m].n := by
  have hl : posD ds n < ds.length := by omega
  have h1 := List.findIdx_getElem (p := fun d : DeedL => !decide (d.n < n)) (xs := ds) (w := hl)
  have h3 : n ≤ (ds[ds.findIdx fun d => !decide (d.n < n)]'hl).n := by simpa using h1
  have h2 : n ≤ (ds[posD ds n]'hl).n := h3
  rcases Nat.lt_or_ge (posD ds n) m with h' | h'
  · have := rises_at hr hm h'; omega
  · have e : posD ds n = m := by omega
    simpa [e] using h2
/-- a number above all that are known belongs at the end, and isn't known -/
theorem posD_top {ds : List DeedL} {n : Int} (h : ∀ d ∈ ds, d.n < n) : posD ds n = ds.length ∧ knownD ds n = false := by
  have e : posD ds n = ds.length := posD_eq (Nat.le_refl _) (fun m hm _ => h _ (List.getElem_mem hm)) (fun m hm h' => by omega)
  exact ⟨e, by rw [knownD, e, List.getElem?_eq_none (Nat.le_refl _)]⟩
theorem aboveD_le (ds : List DeedL) (n : Int) : aboveD ds n ≤ ds.length := by
  unfold aboveD
  split
  · rename_i h
    unfold knownD at h
    split at h
    · rename_i d hd
      have := (List.getElem?_eq_some_iff.1 hd).1
      omega
    · cases h
  · exact posD_le ds n
theorem above_lt {ds : List DeedL} {n : Int} {m : Nat} (hm : m < ds.length) (h : m < aboveD ds n) : ds[m].n ≤ n := by
  unfold aboveD at h
  split at h
  · rename_i hk
    rcases Nat.lt_or_ge m (posD ds n) with h' | h'
    · have := posD_lt hm h'; omega
    · have e : m = posD ds n := by omega
      unfold knownD at hk
      rw [← e, List.getElem?_eq_getElem hm] at hk
      simp at hk
      omega
  · have := posD_lt hm h; omega
theorem above_ge {ds : List DeedL} (hr : risesD ds) {n : Int} {m : Nat} (hm : m < ds.length) (h : aboveD ds n ≤ m) : n < ds[m].n := by
  unfold aboveD at h
  split at h
  · rename_i hk
    have h1 : posD ds n < m := by omega
    have h2 := posD_ge hr (n := n) (m := posD ds n) (by omega) (Nat.le_refl _)
    have := rises_at hr hm h1
    omega
  · rename_i hk
    have h1 := posD_ge hr hm h
    rcases Nat.lt_or_ge (posD ds n) m with h' | h'
    · have h2 := posD_ge hr (n := n) (m := posD ds n) (by omega) (Nat.le_refl _)
      have := rises_at hr hm h'; omega
    · have e : m = posD ds n := by omega
      unfold knownD at hk
      rw [← e, List.getElem?_eq_getElem hm] at hk
      simp at hk
      omega
/-- the deeds above a number are what is behind the place -/
theorem above_drop {ds : List DeedL} (hr : risesD ds) (n : Int) : ds.drop (aboveD ds n) = ds.filter fun d => decide (n < d.n) := by
  conv => rhs; rw [← List.take_append_drop (aboveD ds n) ds]
  rw [List.filter_append]
  have h1 : (ds.take (aboveD ds n)).filter (fun d => decide (n < d.n)) = [] := by
    rw [List.filter_eq_nil_iff]
    intro d hd
    obtain ⟨m, hm, rfl⟩ := List.mem_iff_getElem.1 hd
    rw [List.length_take] at hm
    have := above_lt (ds := ds) (n := n) (m := m) (by omega) (by omega)
    rw [List.getElem_take]
    simp; omega
  have h2 : (ds.drop (aboveD ds n)).filter (fun d => decide (n < d.n)) = ds.drop (aboveD ds n) := by
    rw [List.filter_eq_self]
    intro d hd
    obtain ⟨m, hm, rfl⟩ := List.mem_iff_getElem.1 hd
    rw [List.length_drop] at hm
    have := above_ge hr (n := n) (m := aboveD ds n + m) (by omega) (by omega)
    rw [List.getElem_drop]
    simpa using this
  rw [h1, h2, List.nil_append]
def hitsD (reads : List (ByteArray × ByteArray)) (d : DeedL) : Bool := d.keys.any fun k => reads.any fun s => hasS s.1 s.2 k
def clearD (ds : List DeedL) (reads : List (ByteArray × ByteArray)) (since : Int) : Bool := (ds.drop (aboveD ds since)).all fun d => !hitsD reads d
theorem clear_nil (ds : List DeedL) (since : Int) : clearD ds [] since = true := by
  unfold clearD hitsD
  simp
theorem hits_append (a b : List (ByteArray × ByteArray)) (d : DeedL) : hitsD (a ++ b) d = (hitsD a d || hitsD b d) := by
  unfold hitsD
  rw [Bool.eq_iff_iff]
  simp only [List.any_append, List.any_eq_true, Bool.or_eq_true]
  constructor
  · rintro ⟨k, hk, h | h⟩
    · exact .inl ⟨k, hk, h⟩
    · exact .inr ⟨k, hk, h⟩
  · rintro (⟨k, hk, h⟩ | ⟨k, hk, h⟩)
    · exact ⟨k, hk, .inl h⟩
    · exact ⟨k, hk, .inr h⟩
theorem clear_append (ds : List DeedL) (a b : List (ByteArray × ByteArray)) (since : Int) : clearD ds (a ++ b) since = (clearD ds a since && clearD ds b since) := by
  unfold clearD
  rw [Bool.eq_iff_iff]
  simp only [List.all_eq_true, Bool.and_eq_true, hits_append, Bool.not_or]
  exact ⟨fun h => ⟨fun d hd => (h d hd).1, fun d hd => (h d hd).2⟩, fun h d hd => ⟨h.1 d hd, h.2 d hd⟩⟩
theorem rises_drop {ds : List DeedL} (hr : risesD ds) (k : Nat) : risesD (ds.drop k) := hr.drop
theorem clear_filter {ds : List DeedL} (hr : risesD ds) (reads : List (ByteArray × ByteArray)) (since : Int) : clearD ds reads since = (ds.filter fun d => decide (since < d.n)).all fun d => !hitsD reads d := by
  unfold clearD; rw [above_drop hr]
theorem clear_forget {ds : List DeedL} (hr : risesD ds) (reads : List (ByteArray × ByteArray)) (since : Int) : clearD (ds.drop (aboveD ds since)) reads since = clearD ds reads since := by
  rw [clear_filter (rises_drop hr _), clear_filter hr, above_drop hr, List.filter_filter]
  simp
end Go.Proofs.Ytdepcjnbiceciab
