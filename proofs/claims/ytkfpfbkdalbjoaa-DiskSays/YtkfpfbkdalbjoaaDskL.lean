/-
  A disk, told by lists: sectors as they are read, as they are kept, what was written since, and what becomes of them. Plain facts alone.
-/
import Derived.Test.YtkfpfbkdalbjoaaDskDel2
namespace Go.Proofs.Ytkfpfbkdalbjoaa

structure DSt where
  now : List ByteArray
  kept : List ByteArray
  wait : List (Nat × ByteArray)
  left : Int
  down : Bool
/-- is a write's bit set? -/
def keepB (k : Int) (b : Nat) : Bool := Go.bits .and .u64 (k / 2 ^ b) 1 == 1
/-- what is there of a sector, of those writes whose bit is set -/
def lastW (k : Int) (l : List Wr) (d : ByteArray) : ByteArray := l.foldl (fun d x => if keepB k x.1.toNat then x.2 else d) d
/-- of what was written what has to do with one sector, by bits -/
def bitsFrom (i : Nat) (l : List (Nat × ByteArray)) (at_ : Nat) : List Wr := match l with
  | [] => []
  | x :: l => if x.1 = at_ then (((i % 64 : Nat) : Int), x.2) :: bitsFrom (i + 1) l at_ else bitsFrom (i + 1) l at_
def keepL (k : Int) (i : Nat) (l : List (Nat × ByteArray)) (K : List ByteArray) : List ByteArray := match l with
  | [] => K
  | x :: l => keepL k (i + 1) l (if keepB k (i % 64) then K.set x.1 x.2 else K)
def zerosB (n : Nat) : ByteArray := ⟨(List.replicate n 0).toArray⟩
def dpadB (s : ByteArray) : ByteArray := ⟨(s.data.toList ++ List.replicate (96 - s.size) 0).toArray⟩
def initD (n : Nat) : DSt := ⟨List.replicate n (zerosB 96), List.replicate n (zerosB 96), [], -1, false⟩
/-- a step: its fault, and what is behind it -/
def dstepF (s : DSt) : Nat := if s.down || s.left == 0 then 10 else 0
def dstepD (s : DSt) : DSt := if s.down then s else if s.left == 0 then { s with down := true } else { s with left := if 0 < s.left then s.left - 1 else s.left }
def dwriteF (s : DSt) (at_ : Int) (d : ByteArray) : Nat := if at_ < 0 ∨ (s.now.length : Int) ≤ at_ ∨ 96 < d.size then 1 else dstepF s
def laidD (s : DSt) (at_ : Nat) (d : ByteArray) : DSt := { s with now := s.now.set at_ d, wait := s.wait ++ [(at_, d)] }
def dwriteD (s : DSt) (at_ : Int) (d : ByteArray) : DSt := if at_ < 0 ∨ (s.now.length : Int) ≤ at_ ∨ 96 < d.size then s else if dstepF s = 0 then laidD (dstepD s) at_.toNat (dpadB d) else dstepD s
def flushD (s : DSt) : DSt := if dstepF s = 0 then { dstepD s with kept := s.now, wait := [] } else dstepD s
def dreadF (s : DSt) (at_ : Int) : Nat := if s.down then 10 else if at_ < 0 ∨ (s.now.length : Int) ≤ at_ then 1 else 0
def dreadD (s : DSt) (at_ : Int) : ByteArray := if dreadF s at_ = 0 then s.now[at_.toNat]?.getD ⟨#[]⟩ else ⟨#[]⟩
def armD (s : DSt) (n : Int) : DSt := { s with left := max n (-1) }
def restartD (s : DSt) (k : Int) : DSt := ⟨keepL k 0 s.wait s.kept, keepL k 0 s.wait s.kept, [], -1, false⟩
/-- the program's own lists of writes stand for those -/
structure LooseOk (n : Nat) (wait : List (Nat × ByteArray)) (loose : List (List Wr)) : Prop where
  len : loose.length = n
  at_ : ∀ x ∈ wait, x.1 < n
  same : ∀ i (h : i < loose.length) k d, lastW k loose[i] d = lastW k (bitsFrom 0 wait i) d
  bits : ∀ i (h : i < loose.length), (∀ x ∈ loose[i], 0 ≤ x.1 ∧ x.1 < 64 ∧ x.2.size = 96) ∧ (loose[i].map (·.1)).Nodup
theorem dpadB_size {s : ByteArray} (h : s.size ≤ 96) : (dpadB s).size = 96 := by
  show (s.data.toList ++ List.replicate (96 - s.size) 0).length = 96
  have e : s.data.toList.length = s.size := by rw [Array.length_toList]; rfl
  rw [List.length_append, List.length_replicate, e]; omega
theorem zerosB_size (n : Nat) : (zerosB n).size = n := by show (List.replicate n (0 : UInt8)).length = n; simp
theorem bitsFrom_snoc (l : List (Nat × ByteArray)) (a : Nat) (d : ByteArray) (at_ : Nat) : ∀ i, bitsFrom i (l ++ [(a, d)]) at_ = bitsFrom i l at_ ++ if a = at_ then [((((i + l.length) % 64 : Nat) : Int), d)] else [] := by
  induction l with
  | nil => intro i; simp only [List.nil_append, bitsFrom, List.length_nil, Nat.add_zero]
  | cons x l ih =>
    intro i
    have e : i + 1 + l.length = i + (x :: l).length := by rw [List.length_cons]; omega
    simp only [List.cons_append, bitsFrom, ih (i + 1), e]
    split <;> simp
theorem lastW_snoc (k : Int) (l : List Wr) (x : Wr) (d : ByteArray) : lastW k (l ++ [x]) d = if keepB k x.1.toNat then x.2 else lastW k l d := by
  unfold lastW; rw [List.foldl_append]; rfl
theorem lastW_off (k q : Int) (l : List Wr) (h : keepB k q.toNat = false) : ∀ d, lastW k (offW q l) d = lastW k l d := by
  induction l with
  | nil => intro d; rfl
  | cons x l ih =>
    intro d
    unfold offW
    rw [List.filter_cons]
    cases e : (x.1 == q) with
    | true =>
      have e' : x.1 = q := by simpa using e
      have ih' := ih d
      unfold offW at ih'
      simp only [Bool.not_true, Bool.false_eq_true, if_false]
      rw [ih']
      show lastW k l d = lastW k l (if keepB k x.1.toNat then x.2 else d)
      rw [e', h]; rfl
    | false => simp only [Bool.not_false, if_true]; exact ih _
theorem bitsFrom_cons (i : Nat) (x : Nat × ByteArray) (l : List (Nat × ByteArray)) (at_ : Nat) : bitsFrom i (x :: l) at_ = if x.1 = at_ then (((i % 64 : Nat) : Int), x.2) :: bitsFrom (i + 1) l at_ else bitsFrom (i + 1) l at_ := rfl
theorem keepL_len (k : Int) : ∀ (l : List (Nat × ByteArray)) (i : Nat) (K : List ByteArray), (keepL k i l K).length = K.length
  | [], _, _ => rfl
  | x :: l, i, K => by unfold keepL; rw [keepL_len k l]; split <;> simp
theorem keepL_get (k : Int) (at_ : Nat) : ∀ (l : List (Nat × ByteArray)) (i : Nat) (K : List ByteArray), (keepL k i l K)[at_]? = K[at_]?.map (lastW k (bitsFrom i l at_))
  | [], _, K => by unfold keepL bitsFrom; cases K[at_]? <;> rfl
  | x :: l, i, K => by
    unfold keepL
    rw [keepL_get k at_ l, bitsFrom_cons]
    by_cases e : x.1 = at_
    · rw [if_pos e]
      cases hb : keepB k (i % 64) with
      | true =>
        simp only [if_true, e]
        rw [List.getElem?_set_self']
        cases hK : K[at_]? with
        | none => rfl
        | some d0 => show some _ = some _; congr 1; show _ = lastW k _ (if keepB k ((i % 64 : Nat) : Int).toNat then x.2 else d0); rw [Int.toNat_natCast, hb]; rfl
      | false =>
        simp only [Bool.false_eq_true, if_false]
        cases hK : K[at_]? with
        | none => rfl
        | some d0 => show some _ = some _; congr 1; show _ = lastW k _ (if keepB k ((i % 64 : Nat) : Int).toNat then x.2 else d0); rw [Int.toNat_natCast, hb]; rfl
    · rw [if_neg e]
      cases hb : keepB k (i % 64) with
      | true => simp only [if_true]; rw [List.getElem?_set_ne e]
      | false => simp only [Bool.false_eq_true, if_false]
theorem keepL_mem (k : Int) : ∀ (l : List (Nat × ByteArray)) (i : Nat) (K : List ByteArray), (∀ x ∈ l, x.2.size = 96) → (∀ s ∈ K, s.size = 96) → ∀ s ∈ keepL k i l K, s.size = 96
  | [], _, _, _, hK => hK
  | x :: l, i, K, hl, hK => by
    unfold keepL
    refine keepL_mem k l (i + 1) _ (fun y hy => hl y (List.mem_cons_of_mem _ hy)) ?_
    split
    · exact fun s hs => (List.mem_or_eq_of_mem_set hs).elim (hK s) fun e => by rw [e]; exact hl x (List.mem_cons_self ..)
    · exact hK
theorem nodup_lt : ∀ (n : Nat) (l : List Int), l.Nodup → (∀ x ∈ l, 0 ≤ x ∧ x < n) → l.length ≤ n
  | 0, l, _, h => by
    cases l with
    | nil => simp
    | cons x l => have := h x (List.mem_cons_self ..); omega
  | n + 1, l, hn, h => by
    have h1 : (l.filter (fun x => !(x == (n : Int)))).length ≤ n := nodup_lt n _ (hn.filter _) fun x hx => by
      obtain ⟨a, b⟩ := List.mem_filter.1 hx
      have := h x a
      have : x ≠ (n : Int) := by simpa using b
      omega
    have h2 : l.length ≤ (l.filter (fun x => !(x == (n : Int)))).length + 1 := by
      clear h h1
      induction l with
      | nil => simp
      | cons x l ih =>
        rw [List.nodup_cons] at hn
        rw [List.filter_cons]
        cases e : (x == (n : Int)) with
        | true =>
          have e' : x = (n : Int) := by simpa using e
          simp only [Bool.not_true, Bool.false_eq_true, if_false, List.length_cons]
          have : l.filter (fun x => !(x == (n : Int))) = l := by
            rw [List.filter_eq_self]
            intro y hy
            have : y ≠ (n : Int) := fun e2 => hn.1 (by rw [e', ← e2]; exact hy)
            simpa using this
          rw [this]; omega
        | false =>
          simp only [Bool.not_false, if_true, List.length_cons]
          have := ih hn.2
          omega
    omega
theorem LooseOk.short {n : Nat} {wait : List (Nat × ByteArray)} {loose : List (List Wr)} (h : LooseOk n wait loose) {i : Nat} (hi : i < loose.length) : loose[i].length ≤ 64 := by
  have := nodup_lt 64 _ (h.bits i hi).2 (fun x hx => by
    obtain ⟨y, hy, rfl⟩ := List.mem_map.1 hx
    have := (h.bits i hi).1 y hy
    exact ⟨this.1, this.2.1⟩)
  rwa [List.length_map] at this
theorem LooseOk.none (n : Nat) : LooseOk n [] (List.replicate n []) :=
  ⟨by simp, fun _ h => (List.not_mem_nil h).elim, fun i h k d => by simp [bitsFrom], fun i h => by simp⟩
theorem LooseOk.note {n : Nat} {wait : List (Nat × ByteArray)} {loose : List (List Wr)} (h : LooseOk n wait loose) {at_ : Nat} (ha : at_ < loose.length) {d : ByteArray} (hd : d.size = 96) :
    LooseOk n (wait ++ [(at_, d)]) (loose.set at_ (offW ((wait.length % 64 : Nat) : Int) loose[at_] ++ [(((wait.length % 64 : Nat) : Int), d)])) := by
  refine ⟨by rw [List.length_set, h.len], fun x hx => ?_, fun i hi k e => ?_, fun i hi => ?_⟩
  · rcases List.mem_append.1 hx with hx | hx
    · exact h.at_ x hx
    · rw [List.mem_singleton] at hx; rw [hx, ← h.len]; exact ha
  · rw [List.length_set] at hi
    rw [bitsFrom_snoc, Nat.zero_add]
    by_cases e2 : at_ = i
    · subst e2
      rw [List.getElem_set_self, if_pos rfl, lastW_snoc, lastW_snoc, Int.toNat_natCast]
      cases hb : keepB k (wait.length % 64) with
      | true => rfl
      | false =>
        simp only [Bool.false_eq_true, if_false]
        rw [lastW_off _ _ _ (by rw [Int.toNat_natCast]; exact hb)]
        exact h.same at_ hi k e
    · rw [List.getElem_set_ne e2, if_neg e2, List.append_nil]
      exact h.same i hi k e
  · rw [List.length_set] at hi
    by_cases e2 : at_ = i
    · subst e2
      rw [List.getElem_set_self]
      obtain ⟨h1, h2⟩ := h.bits at_ hi
      have hm : wait.length % 64 < 64 := Nat.mod_lt _ (by omega)
      refine ⟨fun x hx => ?_, ?_⟩
      · rcases List.mem_append.1 hx with hx | hx
        · exact h1 x (List.mem_filter.1 hx).1
        · rw [List.mem_singleton] at hx; rw [hx]; exact ⟨by show (0 : Int) ≤ ((wait.length % 64 : Nat) : Int); omega, by show ((wait.length % 64 : Nat) : Int) < 64; omega, hd⟩
      · rw [List.map_append, List.nodup_append]
        refine ⟨?_, by simp, fun a ha b hb => ?_⟩
        · exact h2.sublist (List.Sublist.map _ List.filter_sublist)
        · obtain ⟨y, hy, rfl⟩ := List.mem_map.1 ha
          have hy2 := (List.mem_filter.1 hy).2
          simp only [List.map_cons, List.map_nil, List.mem_singleton] at hb
          rw [hb]
          simpa using hy2
    · rw [List.getElem_set_ne e2]; exact h.bits i hi
end Go.Proofs.Ytkfpfbkdalbjoaa
