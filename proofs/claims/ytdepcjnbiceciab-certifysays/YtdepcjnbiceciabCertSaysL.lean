/-
  The law's own lists beside a history: plain facts. Nothing of the program's functions is named here.
-/
import Derived.Test.YtdepcjnbiceciabCertL
import Derived.Laws.BitsLemmas
namespace Go.Proofs.Ytdepcjnbiceciab
open Go.RowKit Go.Joins

/-- each key with the number of its deed -/
def pairsD (ds : List DeedL) : List (Int × ByteArray) := ds.flatMap fun d => d.keys.map fun k => (d.n, k)
theorem pairs_snoc (ds : List DeedL) (d : DeedL) : pairsD (ds ++ [d]) = pairsD ds ++ d.keys.map fun k => (d.n, k) := by simp [pairsD]
theorem pairs_filter (ds : List DeedL) (a : Int) : (pairsD ds).filter (fun q => decide (a < q.1)) = pairsD (ds.filter fun d => decide (a < d.n)) := by
  induction ds with
  | nil => rfl
  | cons d ds ih =>
    unfold pairsD at ih ⊢
    rw [List.flatMap_cons, List.filter_append, ih, List.filter_cons]
    by_cases h : a < d.n
    · simp only [h, decide_true, if_true, List.flatMap_cons]
      congr 1
      rw [List.filter_eq_self]
      intro q hq
      obtain ⟨k, _, rfl⟩ := List.mem_map.1 hq
      simpa using h
    · simp only [h, decide_false, if_false, Bool.false_eq_true]
      have e : (d.keys.map fun k => (d.n, k)).filter (fun q => decide (a < q.1)) = [] := by
        rw [List.filter_eq_nil_iff]
        intro q hq
        obtain ⟨k, _, rfl⟩ := List.mem_map.1 hq
        simpa using h
      rw [e, List.nil_append]
/-- what the law reckons -/
def lawHit (a : Int) (q : Int × ByteArray) (s : ByteArray × ByteArray) : Bool := !(hasS s.1 s.2 q.2 && decide (a < q.1))
def lawClear (qs : List (Int × ByteArray)) (sp : List (ByteArray × ByteArray)) (a : Int) : Bool := qs.all fun q => sp.all (lawHit a q)
theorem law_clear {ds : List DeedL} (hr : risesD ds) (sp : List (ByteArray × ByteArray)) (a : Int) : lawClear (pairsD ds) sp a = clearD ds sp a := by
  rw [clear_filter hr]
  unfold lawClear lawHit hitsD pairsD
  rw [Bool.eq_iff_iff]
  simp only [List.all_eq_true, List.mem_flatMap, List.mem_filter, List.mem_map, decide_eq_true_eq, Bool.not_eq_true', List.any_eq_false, Bool.and_eq_false_iff, decide_eq_false_iff_not]
  constructor
  · intro h d hd k hk
    rw [Bool.not_eq_true, List.any_eq_false]
    intro s hs
    rcases h (d.n, k) ⟨d, hd.1, k, hk, rfl⟩ s hs with e | e
    · simp [e]
    · exact absurd hd.2 e
  · rintro h q ⟨d, hd, k, hk, rfl⟩ s hs
    by_cases ha : a < d.n
    · left
      have := h d ⟨hd, ha⟩ k hk
      rw [Bool.not_eq_true, List.any_eq_false] at this
      simpa using this s hs
    · exact .inr ha
theorem filt_take {α : Type} {l : List α} {p : α → Bool} {k : Nat} (hk : k < l.length) : (l.take (k + 1)).filter p = (l.take k).filter p ++ if p l[k] then [l[k]] else [] := by
  rw [List.take_succ_eq_append_getElem hk, List.filter_append, List.filter_cons]
  simp
theorem all_take {α : Type} {l : List α} {p : α → Bool} {k : Nat} (hk : k < l.length) : (l.take (k + 1)).all p = ((l.take k).all p && p l[k]) := by
  rw [List.take_succ_eq_append_getElem hk, List.all_append]
  simp
theorem i64_and7 (n : Int) : bits .and .i64 n 7 = n % 8 := by
  have h7 : (BitVec.ofInt 64 7).toNat = 2 ^ 3 - 1 := by decide
  have key : (BitVec.ofInt 64 n &&& BitVec.ofInt 64 7).toNat = (n % ((2 ^ 64 : Nat) : Int)).toNat % 2 ^ 3 := by
    rw [BitVec.toNat_and, BitVec.toNat_ofInt, h7, Nat.and_two_pow_sub_one_eq_mod]
  show IntKind.i64.wrap ((BitVec.ofInt 64 n &&& BitVec.ofInt 64 7).toNat : Nat) = n % 8
  rw [key, IntKind.wrap_i64]
  omega
theorem and7_bounds (n : Int) : 0 ≤ bits .and .i64 n 7 ∧ bits .and .i64 n 7 ≤ 7 := by rw [i64_and7]; omega
theorem pairs_fst (ds : List DeedL) (d : DeedL) : (pairsD (ds ++ [d])).map (·.1) = (pairsD ds).map (·.1) ++ List.replicate d.keys.length d.n := by
  rw [pairs_snoc, List.map_append, List.map_map]
  congr 1
  rw [List.eq_replicate_iff]
  refine ⟨by simp, fun b hb => ?_⟩
  obtain ⟨k, _, rfl⟩ := List.mem_map.1 hb
  rfl
theorem pairs_snd (ds : List DeedL) (d : DeedL) : (pairsD (ds ++ [d])).map (·.2) = (pairsD ds).map (·.2) ++ d.keys := by
  rw [pairs_snoc, List.map_append, List.map_map]
  congr 1
  exact List.map_id _
theorem pairs_le (ds : List DeedL) (n m : Nat) (h1 : ds.length ≤ n) (h2 : ∀ d ∈ ds, d.keys.length ≤ m) : (pairsD ds).length ≤ n * m := by
  induction ds generalizing n with
  | nil => simp [pairsD]
  | cons d ds ih =>
    cases n with
    | zero => simp at h1
    | succ n =>
      have h3 := ih n (by simpa using h1) (fun e he => h2 e (by simp [he]))
      have h4 := h2 d (by simp)
      have e : (pairsD (d :: ds)).length = d.keys.length + (pairsD ds).length := by simp [pairsD]
      rw [e, Nat.succ_mul]
      omega
end Go.Proofs.Ytdepcjnbiceciab
