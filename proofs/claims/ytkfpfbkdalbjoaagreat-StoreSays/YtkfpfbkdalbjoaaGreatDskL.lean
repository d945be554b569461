/-
  A disk, told by lists: sectors as they are read, as they are kept, what was written since, and what becomes of them. Plain facts alone.
-/
import Derived.Test.YtkfpfbkdalbjoaaGreatDskMem
import Derived.Test.YtkfpfbkdalbjoaaGreatBase
import Derived.Test.YtkfpfbkdalbjoaaGreatErrV
namespace Go.Proofs.YtkfpfbkdalbjoaaGreat

structure DSt where
  now : List ByteArray
  kept : List ByteArray
  wait : List (Nat × ByteArray)
  left : Int
  down : Bool
/-- is a write's bit set? -/
def keepB (k : Int) (b : Nat) : Bool := Go.bits .and .u64 (k / 2 ^ b) 1 == 1
/-- what is there of a sector, of those writes whose bit is set -/
def lastW (k : Int) (l : List Wr) (d : ByteArray) : ByteArray := l.foldl (fun d x => if keepB k x.1.toNat then x.2 else d) d
/-- of what was written what has to do with one sector, by bits -/
def bitsFrom (i : Nat) (l : List (Nat × ByteArray)) (at_ : Nat) : List Wr := match l with
  | [] => []
  | x :: l => if x.1 = at_ then (((i % 64 : Nat) : Int), x.2) :: bitsFrom (i + 1) l at_ else bitsFrom (i + 1) l at_
def keepL (k : Int) (i : Nat) (l : List (Nat × ByteArray)) (K : List ByteArray) : List ByteArray := match l with
  | [] => K
  | x :: l => keepL k (i + 1) l (if keepB k (i % 64) then K.set x.1 x.2 else K)
def zerosB (n : Nat) : ByteArray := ⟨(List.replicate n 0).toArray⟩
def dpadB (s : ByteArray) : ByteArray := ⟨(s.data.toList ++ List.replicate (96 - s.size) 0).toArray⟩
def initD (n : Nat) : DSt := ⟨List.replicate n (zerosB 96), List.replicate n (zerosB 96), [], -1, false⟩
/-- a step: its fault, and what is behind it -/
def dstepF (s : DSt) : Nat := if s.down || s.left == 0 then 10 else 0
def dstepD (s : DSt) : DSt := if s.down then s else if s.left == 0 then { s with down := true } else { s with left := if 0 < s.left then s.left - 1 else s.left }
def dwriteF (s : DSt) (at_ : Int) (d : ByteArray) : Nat := if at_ < 0 ∨ (s.now.length : Int) ≤ at_ ∨ 96 < d.size then 1 else dstepF s
def laidD (s : DSt) (at_ : Nat) (d : ByteArray) : DSt := { s with now := s.now.set at_ d, wait := s.wait ++ [(at_, d)] }
def dwriteD (s : DSt) (at_ : Int) (d : ByteArray) : DSt := if at_ < 0 ∨ (s.now.length : Int) ≤ at_ ∨ 96 < d.size then s else if dstepF s = 0 then laidD (dstepD s) at_.toNat (dpadB d) else dstepD s
def flushD (s : DSt) : DSt := if dstepF s = 0 then { dstepD s with kept := s.now, wait := [] } else dstepD s
def dreadF (s : DSt) (at_ : Int) : Nat := if s.down then 10 else if at_ < 0 ∨ (s.now.length : Int) ≤ at_ then 1 else 0
def dreadD (s : DSt) (at_ : Int) : ByteArray := if dreadF s at_ = 0 then s.now[at_.toNat]?.getD ⟨#[]⟩ else ⟨#[]⟩
def armD (s : DSt) (n : Int) : DSt := { s with left := max n (-1) }
def restartD (s : DSt) (k : Int) : DSt := ⟨keepL k 0 s.wait s.kept, keepL k 0 s.wait s.kept, [], -1, false⟩
/-- the program's own lists of writes stand for those -/
structure LooseOk (n : Nat) (wait : List (Nat × ByteArray)) (loose : List (List Wr)) : Prop where
  len : loose.length = n
  at_ : ∀ x ∈ wait, x.1 < n
  same : ∀ i (h : i < loose.length) k d, lastW k loose[i] d = lastW k (bitsFrom 0 wait i) d
  bits : ∀ i (h : i < loose.length), (∀ x ∈ loose[i], 0 ≤ x.1 ∧ x.1 < 64 ∧ x.2.size = 96) ∧ (loose[i].map (·.1)).Nodup
theorem dpadB_size {s : ByteArray} (h : s.size ≤ 96) : (dpadB s).size = 96 := by
  show (s.data.toList ++ List.replicate (96 - s.size) 0).length = 96
  have e : s.data.toList.length = s.size := by rw [Array.length_toList]; rfl
  rw [List.length_append, List.length_replicate, e]; omega
theorem zerosB_size (n : Nat) : (zerosB n).size = n := by show (List.replicate n (0 : UInt8)).length = n; simp
theorem bitsFrom_snoc (l : List (Nat × ByteArray)) (a : Nat) (d : ByteArray) (at_ : Nat) : ∀ i, bitsFrom i (l ++ [(a, d)]) at_ = bitsFrom i l at_ ++ if a = at_ then [((((i + l.length) % 64 : Nat) : Int), d)] else [] := by
  induction l with
  | nil => intro i; simp only [List.nil_append, bitsFrom, List.length_nil, Nat.add_zero]
  | cons x l ih =>
    intro i
    have e : i + 1 + l.length = i + (x :: l).length := by rw [List.length_cons]; omega
    simp only [List.cons_append, bitsFrom, ih (i + 1), e]
    split <;> simp
theorem lastW_snoc (k : Int) (l : List Wr) (x : Wr) (d : ByteArray) : lastW k (l ++ [x]) d = if keepB k x.1.toNat then x.2 else lastW k l d := by
  unfold lastW; rw [List.foldl_append]; rfl
theorem lastW_off (k q : Int) (l : List Wr) (h : keepB k q.toNat = false) : ∀ d, lastW k (offW q l) d = lastW k l d := by
  induction l with
  | nil => intro d; rfl
  | cons x l ih =>
    intro d
    unfold offW
    rw [List.filter_cons]
    cases e : (x.1 == q) with
    | true =>
      have e' : x.1 = q := by simpa using e
      have ih' := ih d
      unfold offW at ih'
      simp only [Bool.not_true, Bool.false_eq_true, if_false]
      rw [ih']
      show lastW k l d = lastW k l (if keepB k x.1.toNat then x.2 else d)
      rw [e', h]; rfl
    | false => simp only [Bool.not_false, if_true]; exact ih _
theorem bitsFrom_cons (i : Nat) (x : Nat × ByteArray) (l : List (Nat × ByteArray)) (at_ : Nat) : bitsFrom i (x :: l) at_ = if x.1 = at_ then (((i % 64 : Nat) : Int), x.2) :: bitsFrom (i + 1) l at_ else bitsFrom (i + 1) l at_ := rfl
theorem keepL_len (k : Int) : ∀ (l : List (Nat × ByteArray)) (i : Nat) (K : List ByteArray), (keepL k i l K).length = K.length
  | [], _, _ => rfl
  | x :: l, i, K => by unfold keepL; rw [keepL_len k l]; split <;> simp
theorem keepL_get (k : Int) (at_ : Nat) : ∀ (l : List (Nat × ByteArray)) (i : Nat) (K : List ByteArray), (keepL k i l K)[at_]? = K[at_]?.map (lastW k (bitsFrom i l at_))
  | [], _, K => by unfold keepL bitsFrom; cases K[at_]? <;> rfl
  | x :: l, i, K => by
    unfold keepL
    rw [keepL_get k at_ l, bitsFrom_cons]
    by_cases e : x.1 = at_
    · rw [if_pos e]
      cases hb : keepB k (i % 64) with
      | true =>
        simp only [if_true, e]
        rw [List.getElem?_set_self']
        cases hK : K[at_]? with
        | none => rfl
        | some d0 => show some _ = some _; congr 1; show _ = lastW k _ (if keepB k ((i % 64 : Nat) : Int).toNat then x.2 else d0); rw [Int.toNat_natCast, hb]; rfl
      | false =>
        simp only [Bool.false_eq_true, if_false]
        cases hK : K[at_]? with
        | none => rfl
        | some d0 => show some _ = some _; congr 1; show _ = lastW k _ (if keepB k ((i % 64 : Nat) : Int).toNat then x.2 else d0); rw [Int.toNat_natCast, hb]; rfl
    · rw [if_neg e]
      cases hb : keepB k (i % 64) with
      | true => simp only [if_true]; rw [List.getElem?_set_ne e]
      | false => simp only [Bool.false_eq_true, if_false]
theorem keepL_mem (k : Int) : ∀ (l : List (Nat × ByteArray)) (i : Nat) (K : List ByteArray), (∀ x ∈ l, x.2.size = 96) → (∀ s ∈ K, s.size = 96) → ∀ s ∈ keepL k i l K, s.size = 96
  | [], _, _, _, hK => hK
  | x :: l, i, K, hl, hK => by
    unfold keepL
    refine keepL_mem k l (i + 1) _ (fun y hy => hl y (List.mem_cons_of_mem _ hy)) ?_
    split
    · exact fun s hs => (List.mem_or_eq_of_mem_set hs).elim (hK s) fun e => by rw [e]; exact hl x (List.mem_cons_self ..)
    · exact hK
theorem nodup_lt : ∀ (n : Nat) (l : List Int), l.Nodup → (∀ x ∈ l, 0 ≤ x ∧ x < n) → l.length ≤ n
  | 0, l, _, h => by
    cases l with
    | nil => simp
    | cons x l => have := h x (List.mem_cons_self ..); omega
  | n + 1, l, hn, h => by
    have h1 : (l.filter (fun x => !(x == (n : Int)))).length ≤ n := nodup_lt n _ (hn.filter _) fun x hx => by
      obtain ⟨a, b⟩ := List.mem_filter.1 hx
      have := h x a
      have : x ≠ (n : Int) := by simpa using b
      omega
    have h2 : l.length ≤ (l.filter (fun x => !(x == (n : Int)))).length + 1 := by
      clear h h1
      induction l with
      | nil => simp
      | cons x l ih =>
        rw [List.nodup_cons] at hn
        rw [List.filter_cons]
        cases e : (x == (n : Int)) with
        | true =>
          have e' : x = (n : Int) := by simpa using e
          simp only [Bool.not_true, Bool.false_eq_true, if_false, List.length_cons]
          have : l.filter (fun x => !(x == (n : Int))) = l := by
            rw [List.filter_eq_self]
            intro y hy
            have : y ≠ (n : Int) := fun e2 => hn.1 (by rw [e', ← e2]; exact hy)
            simpa using this
          rw [this]; omega
        | false =>
          simp only [Bool.not_false, if_true, List.length_cons]
          have := ih hn.2
          omega
    omega
theorem LooseOk.short {n : Nat} {wait : List (Nat × ByteArray)} {loose : List (List Wr)} (h : LooseOk n wait loose) {i : Nat} (hi : i < loose.length) : loose[i].length ≤ 64 := by
  have := nodup_lt 64 _ (h.bits i hi).2 (fun x hx => by
    obtain ⟨y, hy, rfl⟩ := List.mem_map.1 hx
    have := (h.bits i hi).1 y hy
    exact ⟨this.1, this.2.1⟩)
  rwa [List.length_map] at this
theorem LooseOk.none (n : Nat) : LooseOk n [] (List.replicate n []) :=
  ⟨by simp, fun _ h => (List.not_mem_nil h).elim, fun i h k d => by simp [bitsFrom], fun i h => by simp⟩
theorem LooseOk.note {n : Nat} {wait : List (Nat × ByteArray)} {loose : List (List Wr)} (h : LooseOk n wait loose) {at_ : Nat} (ha : at_ < loose.length) {d : ByteArray} (hd : d.size = 96) :
    LooseOk n (wait ++ [(at_, d)]) (loose.set at_ (offW ((wait.length % 64 : Nat) : Int) loose[at_] ++ [(((wait.length % 64 : Nat) : Int), d)])) := by
  refine ⟨by rw [List.length_set, h.len], fun x hx => ?_, fun i hi k e => ?_, fun i hi => ?_⟩
  · rcases List.mem_append.1 hx with hx | hx
    · exact h.at_ x hx
    · rw [List.mem_singleton] at hx; rw [hx, ← h.len]; exact ha
  · rw [List.length_set] at hi
    rw [bitsFrom_snoc, Nat.zero_add]
    by_cases e2 : at_ = i
    · subst e2
      rw [List.getElem_set_self, if_pos rfl, lastW_snoc, lastW_snoc, Int.toNat_natCast]
      cases hb : keepB k (wait.length % 64) with
      | true => rfl
      | false =>
        simp only [Bool.false_eq_true, if_false]
        rw [lastW_off _ _ _ (by rw [Int.toNat_natCast]; exact hb)]
        exact h.same at_ hi k e
    · rw [List.getElem_set_ne e2, if_neg e2, List.append_nil]
      exact h.same i hi k e
  · rw [List.length_set] at hi
    by_cases e2 : at_ = i
    · subst e2
      rw [List.getElem_set_self]
      obtain ⟨h1, h2⟩ := h.bits at_ hi
      have hm : wait.length % 64 < 64 := Nat.mod_lt _ (by omega)
      refine ⟨fun x hx => ?_, ?_⟩
      · rcases List.mem_append.1 hx with hx | hx
        · exact h1 x (List.mem_filter.1 hx).1
        · rw [List.mem_singleton] at hx; rw [hx]; exact ⟨by show (0 : Int) ≤ ((wait.length % 64 : Nat) : Int); omega, by show ((wait.length % 64 : Nat) : Int) < 64; omega, hd⟩
      · rw [List.map_append, List.nodup_append]
        refine ⟨?_, by simp, fun a ha b hb => ?_⟩
        · exact h2.sublist (List.Sublist.map _ List.filter_sublist)
        · obtain ⟨y, hy, rfl⟩ := List.mem_map.1 ha
          have hy2 := (List.mem_filter.1 hy).2
          simp only [List.map_cons, List.map_nil, List.mem_singleton] at hb
          rw [hb]
          simpa using hy2
    · rw [List.getElem_set_ne e2]; exact h.bits i hi
end Go.Proofs.YtkfpfbkdalbjoaaGreat

/-
  An act on blocks of one's own: what lies elsewhere is as it was.
-/
namespace Go.Proofs.YtkfpfbkdalbjoaaGreat
open Go.RowKit Go.Joins

/-- all else is left alone -/
structure StepV (w w' : World) (B : Nat) (S S' : Nat → Prop) : Prop where
  bel : Below B w w'
  far : ∀ j, j < w.heap.size → ¬ S j → w'.heap[j]? = w.heap[j]? ∧ ¬ S' j
theorem StepV.trans {w w1 w2 : World} {B : Nat} {S S1 S2 : Nat → Prop} (h : StepV w w1 B S S1) (h' : StepV w1 w2 B S1 S2) : StepV w w2 B S S2 :=
  ⟨h.bel.trans h'.bel, fun j hj hn => by
    obtain ⟨a, b⟩ := h.far j hj hn
    obtain ⟨c, d⟩ := h'.far j (Nat.lt_of_lt_of_le hj h.bel.size) b
    exact ⟨c.trans a, d⟩⟩
theorem StepV.on {w w' : World} {B : Nat} {S : Nat → Prop} (hB : B ≤ w.heap.size) (hb : Below w.heap.size w w') : StepV w w' B S S := ⟨hb.mono hB, fun j hj hn => ⟨hb.block j hj, hn⟩⟩
theorem StepV.refl {w : World} {B : Nat} {S : Nat → Prop} (hB : B ≤ w.heap.size) : StepV w w B S S := .on hB (Below.refl _ _)
end Go.Proofs.YtkfpfbkdalbjoaaGreat

/-
  A disk as it lies in memory: its header, its sectors, the rows of writes that are not kept; what stays of it where other blocks are changed.
-/
namespace Go.Proofs.YtkfpfbkdalbjoaaGreat
open Go.RowKit Go.Joins

/-- the header -/
structure DHd (w : World) (db nb kb lb n : Nat) (next left : Int) (down : Bool) : Prop where
  c0 : w.cell? ⟨db, 0, none⟩ = some (.slice (some ⟨nb, 0, none⟩) n n)
  c1 : w.cell? ⟨db, 1, none⟩ = some (.slice (some ⟨kb, 0, none⟩) n n)
  c2 : w.cell? ⟨db, 2, none⟩ = some (.slice (some ⟨lb, 0, none⟩) n n)
  c3 : w.cell? ⟨db, 3, none⟩ = some (.int .i64 next)
  c4 : w.cell? ⟨db, 4, none⟩ = some (.int .i64 left)
  c5 : w.cell? ⟨db, 5, none⟩ = some (.bool down)
  soft : ∀ j, w.frozen? ⟨db, j, none⟩ = false
/-- what lies behind it -/
structure DBy (w : World) (B db nb kb lb n : Nat) (lv : List Value) (now kept : List ByteArray) (loose : List (List Wr)) : Prop where
  hn : w.heap[nb]? = some (.cells (now.flatMap secV).toArray 118 (0, 0))
  hk : w.heap[kb]? = some (.cells (kept.flatMap secV).toArray 118 (0, 0))
  hl : w.heap[lb]? = some (.cells lv.toArray 152 (0, 0))
  nn : now.length = n
  nk : kept.length = n
  nl : lv.length = n
  no : loose.length = n
  sn : ∀ s ∈ now, s.size = 96
  sk : ∀ s ∈ kept, s.size = 96
  own : ∀ i (h : i < lv.length) (h' : i < loose.length), ownW w B lv[i] loose[i]
  dis : ∀ i j (hi : i < lv.length) (hj : j < lv.length) k, lv[i].ownBlock = some k → lv[j].ownBlock = some k → i = j
  apo : ∀ i (hi : i < lv.length) k, lv[i].ownBlock = some k → k ≠ db ∧ k ≠ nb ∧ k ≠ kb ∧ k ≠ lb
  ap : db ≠ nb ∧ db ≠ kb ∧ db ≠ lb ∧ nb ≠ kb ∧ nb ≠ lb ∧ kb ≠ lb
  lo : B ≤ db ∧ B ≤ nb ∧ B ≤ kb ∧ B ≤ lb
  n1 : 1 ≤ n ∧ n ≤ 200
def inD (db nb kb lb : Nat) (lv : List Value) (k : Nat) : Prop := k = db ∨ k = nb ∨ k = kb ∨ k = lb ∨ ∃ i, ∃ h : i < lv.length, lv[i].ownBlock = some k
/-- the steps that are left, as the program has them -/
def leftOk (L left : Int) : Prop := max L (-1) = left ∧ -9223372036854775808 ≤ L ∧ L ≤ 9223372036854775807
/-- a disk, and its blocks -/
def DK (w : World) (B db : Nat) (S : Nat → Prop) (s : DSt) : Prop :=
  ∃ (nb kb lb n : Nat) (lv : List Value) (loose : List (List Wr)) (L : Int), DHd w db nb kb lb n ((s.wait.length % 64 : Nat) : Int) L s.down ∧ DBy w B db nb kb lb n lv s.now s.kept loose ∧ S = inD db nb kb lb lv ∧ LooseOk n s.wait loose ∧ (∀ x ∈ s.wait, x.2.size = 96) ∧ (s.down = false → leftOk L s.left) ∧ B ≤ w.heap.size
def ActD (w w' : World) (B db : Nat) (S : Nat → Prop) (s : DSt) : Prop := ∃ S', DK w' B db S' s ∧ StepV w w' B S S'
section
variable {w w' : World} {B db nb kb lb n : Nat} {S S' : Nat → Prop} {s : DSt} {lv : List Value} {now kpt : List ByteArray} {loose : List (List Wr)} {next left : Int} {down : Bool}
theorem DHd.kept (h : DHd w db nb kb lb n next left down) (hk : w'.heap[db]? = w.heap[db]?) : DHd w' db nb kb lb n next left down :=
  ⟨(World.cell?_of_block hk).trans h.c0, (World.cell?_of_block hk).trans h.c1, (World.cell?_of_block hk).trans h.c2, (World.cell?_of_block hk).trans h.c3, (World.cell?_of_block hk).trans h.c4, (World.cell?_of_block hk).trans h.c5, fun j => (World.frozen?_of_block hk).trans (h.soft j)⟩
theorem DHd.lt (h : DHd w db nb kb lb n next left down) : db < w.heap.size := World.block_lt_of_cell? _ _ h.c0
theorem DBy.kept (h : DBy w B db nb kb lb n lv now kpt loose) (hk : ∀ k, k ≠ db → inD db nb kb lb lv k → w'.heap[k]? = w.heap[k]?) : DBy w' B db nb kb lb n lv now kpt loose :=
  { h with
    hn := (hk nb h.ap.1.symm (.inr (.inl rfl))).trans h.hn
    hk := (hk kb h.ap.2.1.symm (.inr (.inr (.inl rfl)))).trans h.hk
    hl := (hk lb h.ap.2.2.1.symm (.inr (.inr (.inr (.inl rfl))))).trans h.hl
    own := fun i hi h' => ownW_kept (h.own i hi h') fun k e => hk k (h.apo i hi k e).1 (.inr (.inr (.inr (.inr ⟨i, hi, e⟩)))) }
theorem DBy.lt (h : DBy w B db nb kb lb n lv now kpt loose) (hd : db < w.heap.size) {k : Nat} (hk : inD db nb kb lb lv k) : k < w.heap.size := by
  rcases hk with rfl | rfl | rfl | rfl | ⟨i, hi, e⟩
  · exact hd
  · exact (Array.getElem?_eq_some_iff.1 h.hn).1
  · exact (Array.getElem?_eq_some_iff.1 h.hk).1
  · exact (Array.getElem?_eq_some_iff.1 h.hl).1
  · exact (World.ownsRow.lt (h.own i hi (by rw [h.no, ← h.nl]; exact hi)).1 k e).2
theorem DK.lt (h : DK w B db S s) {k : Nat} (hk : S k) : k < w.heap.size := by
  obtain ⟨nb, kb, lb, n, lv, loose, L, h1, h2, rfl, _⟩ := h
  exact h2.lt h1.lt hk
theorem DK.db_in (h : DK w B db S s) : S db := by
  obtain ⟨nb, kb, lb, n, lv, loose, L, h1, h2, rfl, _⟩ := h
  exact .inl rfl
theorem DK.low (h : DK w B db S s) {k : Nat} (hk : S k) : B ≤ k := by
  obtain ⟨nb, kb, lb, n, lv, loose, L, h1, h2, rfl, _⟩ := h
  rcases hk with rfl | rfl | rfl | rfl | ⟨i, hi, e⟩
  · exact h2.lo.1
  · exact h2.lo.2.1
  · exact h2.lo.2.2.1
  · exact h2.lo.2.2.2
  · exact (World.ownsRow.lt (h2.own i hi (by rw [h2.no, ← h2.nl]; exact hi)).1 k e).1
theorem DK.kept (h : DK w B db S s) (hs : w.heap.size ≤ w'.heap.size) (hk : ∀ k, S k → w'.heap[k]? = w.heap[k]?) : DK w' B db S s := by
  obtain ⟨nb, kb, lb, n, lv, loose, L, h1, h2, rfl, h4, h5, h6, h7⟩ := h
  exact ⟨nb, kb, lb, n, lv, loose, L, h1.kept (hk db (.inl rfl)), h2.kept fun k _ e => hk k e, rfl, h4, h5, h6, Nat.le_trans h7 hs⟩
theorem DK.on (h : DK w B db S s) (hb : Below w.heap.size w w') : DK w' B db S s := h.kept hb.size fun k hk => hb.block k (h.lt hk)
theorem DK.lo (h : DK w B db S s) : B ≤ w.heap.size := by
  obtain ⟨nb, kb, lb, n, lv, loose, L, h1, h2, rfl, h4, h5, h6, h7⟩ := h
  exact h7
theorem DK.many (h : DK w B db S s) : 1 ≤ s.now.length ∧ s.now.length ≤ 200 ∧ s.kept.length = s.now.length := by
  obtain ⟨nb, kb, lb, n, lv, loose, L, h1, h2, rfl, h4, h5, h6, h7⟩ := h
  have := h2.nn; have := h2.nk; have := h2.n1
  omega
theorem DK.whole (h : DK w B db S s) : (∀ x ∈ s.now, x.size = 96) ∧ (∀ x ∈ s.kept, x.size = 96) ∧ ∀ x ∈ s.wait, x.1 < s.now.length ∧ x.2.size = 96 := by
  obtain ⟨nb, kb, lb, n, lv, loose, L, h1, h2, rfl, h4, h5, h6, h7⟩ := h
  exact ⟨h2.sn, h2.sk, fun x hx => ⟨by rw [h2.nn]; exact h4.at_ x hx, h5 x hx⟩⟩
theorem ActD.after {w1 w2 : World} {S1 : Nat → Prop} (hs : StepV w w1 B S S1) (ha : ActD w1 w2 B db S1 s) : ActD w w2 B db S s := by
  obtain ⟨S2, hq, h2⟩ := ha
  exact ⟨S2, hq, hs.trans h2⟩
theorem DK.stay (h : DK w B db S s) (hb : Below w.heap.size w w') : ActD w w' B db S s := ⟨S, h.on hb, .on h.lo hb⟩
theorem ActD.post {w1 : World} (ha : ActD w w1 B db S s) (hb : Below w1.heap.size w1 w') : ActD w w' B db S s := by
  obtain ⟨S', hp, hs⟩ := ha
  exact ⟨S', hp.on hb, hs.trans (.on hp.lo hb)⟩
/-- a cell of the header is laid anew -/
theorem stepV_head (hS : S db) (hB : B ≤ db) (j : Nat) (v : Value) : StepV w (w.setCell ⟨db, j, none⟩ v) B S S :=
  ⟨(Below.refl _ _).setCell (p := ⟨db, j, none⟩) hB v, fun _ _ hn => ⟨Below.heap_setCell _ _ _ _ (fun e => hn (e ▸ hS)), hn⟩⟩
theorem DHd.left' (h : DHd w db nb kb lb n next left down) (v : Int) : DHd (w.setCell ⟨db, 4, none⟩ (.int .i64 v)) db nb kb lb n next v down :=
  ⟨(World.cell?_setCell_other _ _ _ _ (by simp)).trans h.c0, (World.cell?_setCell_other _ _ _ _ (by simp)).trans h.c1, (World.cell?_setCell_other _ _ _ _ (by simp)).trans h.c2, (World.cell?_setCell_other _ _ _ _ (by simp)).trans h.c3, World.cell?_setCell_same _ _ _ h.c4, (World.cell?_setCell_other _ _ _ _ (by simp)).trans h.c5, fun j => by rw [World.frozen?_setCell]; exact h.soft j⟩
theorem DHd.down' (h : DHd w db nb kb lb n next left down) (v : Bool) : DHd (w.setCell ⟨db, 5, none⟩ (.bool v)) db nb kb lb n next left v :=
  ⟨(World.cell?_setCell_other _ _ _ _ (by simp)).trans h.c0, (World.cell?_setCell_other _ _ _ _ (by simp)).trans h.c1, (World.cell?_setCell_other _ _ _ _ (by simp)).trans h.c2, (World.cell?_setCell_other _ _ _ _ (by simp)).trans h.c3, (World.cell?_setCell_other _ _ _ _ (by simp)).trans h.c4, World.cell?_setCell_same _ _ _ h.c5, fun j => by rw [World.frozen?_setCell]; exact h.soft j⟩
theorem DHd.next' (h : DHd w db nb kb lb n next left down) (v : Int) : DHd (w.setCell ⟨db, 3, none⟩ (.int .i64 v)) db nb kb lb n v left down :=
  ⟨(World.cell?_setCell_other _ _ _ _ (by simp)).trans h.c0, (World.cell?_setCell_other _ _ _ _ (by simp)).trans h.c1, (World.cell?_setCell_other _ _ _ _ (by simp)).trans h.c2, World.cell?_setCell_same _ _ _ h.c3, (World.cell?_setCell_other _ _ _ _ (by simp)).trans h.c4, (World.cell?_setCell_other _ _ _ _ (by simp)).trans h.c5, fun j => by rw [World.frozen?_setCell]; exact h.soft j⟩
theorem DBy.head (h : DBy w B db nb kb lb n lv now kpt loose) (j : Nat) (v : Value) : DBy (w.setCell ⟨db, j, none⟩ v) B db nb kb lb n lv now kpt loose := h.kept fun _ hk _ => Below.heap_setCell _ _ _ _ hk
end
end Go.Proofs.YtkfpfbkdalbjoaaGreat

/-
  What Disk.Sectors, has and step return, and what they leave of a disk.
-/
namespace Go.Proofs.YtkfpfbkdalbjoaaGreat
open Go.RowKit Go.Joins
attribute [local go_sem ↓] Go.wp_at_zero Go.wp_at_succ

section
variable {B db : Nat} {S : Nat → Prop} {s : DSt}
set_option maxHeartbeats 400000 in
theorem dsectors_any (w : World) (h : DK w B db S s) : Calls Tryz.prog 23 #[.pointer (some ⟨db, 0, none⟩)] w fun e w' => e = .returned (.int .i64 s.now.length) ∧ w' = w := by
  obtain ⟨nb, kb, lb, n, lv, loose, L, h1, h2, _⟩ := h
  have c0 := h1.c0
  have hn := h2.n1
  rw [h2.nn]
  clear h1 h2
  go_enter Tryz.func23, Tryz.ntmps23
  go_wp2
  go_ret
  exact ⟨rfl, rfl⟩
def hasD (s : DSt) (at_ : Int) : Bool := decide (0 ≤ at_) && decide (at_ < (s.now.length : Int))
set_option maxHeartbeats 400000 in
theorem dhas_any (at_ : Int) (w : World) (h : DK w B db S s) : Calls Tryz.prog 53 #[.pointer (some ⟨db, 0, none⟩), .int .i64 at_] w fun e w' => e = .returned (.bool (hasD s at_)) ∧ w' = w := by
  obtain ⟨nb, kb, lb, n, lv, loose, L, h1, h2, _⟩ := h
  have c0 := h1.c0
  have hn := h2.n1
  unfold hasD
  rw [h2.nn]
  clear h1 h2
  by_cases h0 : 0 ≤ at_
  · have d0 : decide (0 ≤ at_) = true := decide_eq_true h0
    rw [d0]
    by_cases h2 : at_ < (n : Int)
    · have d2 : decide (at_ < (n : Int)) = true := decide_eq_true h2
      rw [d2]
      go_enter Tryz.func53, Tryz.ntmps53
      go_wp2
      go_ret
      exact ⟨rfl, rfl⟩
    · have d2 : decide (at_ < (n : Int)) = false := decide_eq_false h2
      rw [d2]
      go_enter Tryz.func53, Tryz.ntmps53
      go_wp2
      go_ret
      exact ⟨rfl, rfl⟩
  · have d0 : decide (0 ≤ at_) = false := decide_eq_false h0
    rw [d0]
    go_enter Tryz.func53, Tryz.ntmps53
    go_wp2
    go_ret
    exact ⟨rfl, rfl⟩
theorem dstep_down (hd : s.down = true) : dstepF s = 10 ∧ dstepD s = s := by unfold dstepF dstepD; rw [hd]; exact ⟨rfl, rfl⟩
theorem dstep_fall (hd : s.down = false) (hl : s.left = 0) : dstepF s = 10 ∧ dstepD s = { s with down := true } := by
  unfold dstepF dstepD; rw [if_neg (show ¬ s.down = true by rw [hd]; decide), if_pos (show (s.left == 0) = true by rw [hl]; rfl), hd, hl]; exact ⟨rfl, rfl⟩
theorem dstep_go (hd : s.down = false) (hl : s.left ≠ 0) : dstepF s = 0 ∧ dstepD s = { s with left := if 0 < s.left then s.left - 1 else s.left } := by
  unfold dstepF dstepD; rw [if_neg (show ¬ s.down = true by rw [hd]; decide), if_neg (show ¬ (s.left == 0) = true by simpa using hl), hd, show (s.left == 0) = false by simpa using hl]; exact ⟨rfl, rfl⟩
set_option maxRecDepth 8000 in
set_option maxHeartbeats 1000000 in
theorem dstep_any (w : World) (h : DK w B db S s) : Calls Tryz.prog 62 #[.pointer (some ⟨db, 0, none⟩)] w fun e w' => e = .returned (errV (dstepF s)) ∧ ActD w w' B db S (dstepD s) := by
  have HW := hide h
  obtain ⟨nb, kb, lb, n, lv, loose, L, h1, h2, hS, h4, h5, h6, h7⟩ := h
  have c4 := h1.c4
  have f4 := h1.soft 4
  have c5 := h1.c5
  have f5 := h1.soft 5
  have HST : Hid (∀ (W : World) (s' : DSt) (L' : Int), DHd W db nb kb lb n ((s.wait.length % 64 : Nat) : Int) L' s'.down → (∀ k, k ≠ db → W.heap[k]? = w.heap[k]?) → W.heap.size = w.heap.size → Below B w W → s'.now = s.now → s'.kept = s.kept → s'.wait = s.wait → (s'.down = false → leftOk L' s'.left) → ActD w W B db S s') := fun W s' L' a1 a2 a3 a4 a5 a6 a7 a8 =>
    ⟨S, ⟨nb, kb, lb, n, lv, loose, L', by rw [a7]; exact a1, by rw [a5, a6]; exact h2.kept fun k hk _ => a2 k hk, hS, by rw [a7]; exact h4, by rw [a7]; exact h5, a8, by rw [a3]; exact h7⟩, ⟨a4, fun k _ hn => ⟨a2 k (fun e => hn (by rw [hS, e]; exact .inl rfl)), hn⟩⟩⟩
  have H1 := hide h1
  have H6 := hide h6
  have hlo := h2.lo.1
  clear h1 h2 h4 h5 h6 hS h7
  rcases Bool.eq_false_or_eq_true s.down with hd | hd
  · rw [hd] at c5
    obtain ⟨e1, e2⟩ := dstep_down hd
    rw [e1, e2, errD_pos (show (10 : Nat) ≠ 0 by decide)]
    by_cases hL : L = 0
    · subst hL
      have HE := hide (HST.out (w.setCell ⟨db, 5, none⟩ (.bool true)) s 0 (by rw [hd]; exact H1.out.down' true) (fun k hk => Below.heap_setCell _ _ _ _ hk) (by simp) ((Below.refl _ _).setCell (p := ⟨db, 5, none⟩) hlo _) rfl rfl rfl (fun e => by rw [hd] at e; cases e))
      clear HST H1 H6 HW e1 e2
      go_enter Tryz.func62, Tryz.ntmps62
      go_wp2
      go_ret
      exact ⟨rfl, HE.out⟩
    · have hL' : (L == 0) = false := by simpa using hL
      clear HST H1 H6 e1 e2
      go_enter Tryz.func62, Tryz.ntmps62
      go_wp2
      go_ret
      exact ⟨rfl, HW.out.stay (Below.refl _ _)⟩
  · rw [hd] at c5
    obtain ⟨hl1, hl2, hl3⟩ := H6.out hd
    by_cases hL : L = 0
    · subst hL
      obtain ⟨e1, e2⟩ := dstep_fall hd (by rw [← hl1]; rfl)
      rw [e1, e2, errD_pos (show (10 : Nat) ≠ 0 by decide)]
      have HE := hide (HST.out (w.setCell ⟨db, 5, none⟩ (.bool true)) { s with down := true } 0 (H1.out.down' true) (fun k hk => Below.heap_setCell _ _ _ _ hk) (by simp) ((Below.refl _ _).setCell (p := ⟨db, 5, none⟩) hlo _) rfl rfl rfl (fun e => by cases e))
      clear HST H1 H6 HW e1 e2
      go_enter Tryz.func62, Tryz.ntmps62
      go_wp2
      go_ret
      exact ⟨rfl, HE.out⟩
    · have hL' : (L == 0) = false := by simpa using hL
      obtain ⟨e1, e2⟩ := dstep_go hd (show s.left ≠ 0 by rw [← hl1]; omega)
      rw [e1, errD_nil]
      by_cases hp : 0 < L
      · rw [e2]
        have e3 : s.left = L := by rw [← hl1]; omega
        rw [if_pos (by rw [e3]; exact hp), e3]
        have HE := hide (HST.out (w.setCell ⟨db, 4, none⟩ (.int .i64 (L - 1))) { s with left := L - 1 } (L - 1) (H1.out.left' _) (fun k hk => Below.heap_setCell _ _ _ _ hk) (by simp) ((Below.refl _ _).setCell (p := ⟨db, 4, none⟩) hlo _) rfl rfl rfl (fun _ => ⟨by show max (L - 1) (-1) = L - 1; omega, by omega, by omega⟩))
        rw [hd] at H1
        clear HST H1 H6 HW hl1 e1 e2 e3
        go_enter Tryz.func62, Tryz.ntmps62
        go_wp2
        go_ret
        exact ⟨rfl, HE.out⟩
      · have e4 : dstepD s = s := by rw [e2, if_neg (by rw [← hl1]; omega)]
        rw [e4]
        clear e4 HST H1 H6 hl1 e1 e2
        go_enter Tryz.func62, Tryz.ntmps62
        go_wp2
        go_ret
        exact ⟨rfl, HW.out.stay (Below.refl _ _)⟩
/-- the bytes of a sector as they lie in the block of all -/
theorem sec_range {w : World} {g : Nat} {l : List ByteArray} {t : TypeId} (h : w.heap[g]? = some (.cells (l.flatMap secV).toArray t (0, 0))) (hs : ∀ x ∈ l, x.size = 96) {i : Nat} (hi : i < l.length) : w.rangeAt g (i * 96) (secV l[i]) :=
  rangeAt_block h fun j hj => dflat_get (fun x hx => (secV_length x).trans (hs x hx)) i j hi (by rw [secV_length, hs _ (List.getElem_mem hi)] at hj; exact hj)
set_option maxRecDepth 8000 in
set_option maxHeartbeats 1000000 in
theorem dread_any (at_ : Int) (w : World) (h : DK w B db S s) : Calls Tryz.prog 31 #[.pointer (some ⟨db, 0, none⟩), .int .i64 at_] w fun e w' => e = .returned (.tuple #[.string (dreadD s at_), errV (dreadF s at_)]) ∧ w' = w := by
  have HH := hide (fun W (hW : DK W B db S s) => dhas_any at_ W hW)
  have HW := hide h
  obtain ⟨nb, kb, lb, n, lv, loose, L, h1, h2, hS, h4, h5, h6, h7⟩ := h
  have c0 := h1.c0
  have c5 := h1.c5
  have hn := h2.n1
  have hnn := h2.nn
  unfold dreadD dreadF
  cases hd : s.down with
  | true =>
    rw [hd] at c5
    simp only [if_true, show (10 : Nat) = 0 ↔ False by decide, if_false, errD_pos (show (10 : Nat) ≠ 0 by decide)]
    clear HH h1 h2 hS h4 h5 h6 HW
    go_enter Tryz.func31, Tryz.ntmps31
    go_wp2
    go_ret2
    exact ⟨rfl, rfl⟩
  | false =>
    rw [hd] at c5
    simp only [Bool.false_eq_true, if_false]
    by_cases hr : at_ < 0 ∨ (s.now.length : Int) ≤ at_
    · have hb : hasD s at_ = false := by unfold hasD; simp; omega
      rw [hb] at HH
      rw [if_pos hr, if_neg (by decide), errD_pos (show (1 : Nat) ≠ 0 by decide)]
      clear h1 h2 hS h4 h5 h6
      go_enter Tryz.func31, Tryz.ntmps31
      go_wp2_with (go_at_call 53; refine (HH.out _ HW.out).mono ?_; rintro e w1 ⟨rfl, rfl⟩)
      go_ret2
      exact ⟨rfl, rfl⟩
    · have hb : hasD s at_ = true := by unfold hasD; simp; omega
      rw [hb] at HH
      rw [if_neg hr, if_pos rfl, errD_nil]
      obtain ⟨a, rfl⟩ := Int.eq_ofNat_of_zero_le (show 0 ≤ at_ by omega)
      have ha : a < s.now.length := by omega
      have ha' : (a : Int) < (n : Int) := by omega
      rw [Int.toNat_natCast, List.getElem?_eq_getElem ha, Option.getD_some]
      have hra := sec_range h2.hn h2.sn ha
      have hsz := h2.sn _ (List.getElem_mem ha)
      generalize s.now[a] = d at *
      have hcv := run_convert_bytes_back (P := Tryz.prog) w 89 9 5 ⟨nb, a * 96, none⟩ 96 d.data.toList Tryz.underlying89 Tryz.underlying5 Tryz.underlying9 (fun j hj => by rw [Go.Addr.add_mid]; exact hra j _ (by unfold secV; rw [List.getElem?_map, List.getElem?_eq_getElem hj]; rfl))
      have hdl : d.data.toList.length = 96 := by rw [Array.length_toList]; exact hsz
      rw [hdl] at hcv
      clear h1 h2 hS h4 h5 h6 hra hr
      go_enter Tryz.func31, Tryz.ntmps31
      go_wp2_with (go_at_call 53; refine (HH.out _ HW.out).mono ?_; rintro e w1 ⟨rfl, rfl⟩)
      go_ret2
      exact ⟨by simp, rfl⟩
end
end Go.Proofs.YtkfpfbkdalbjoaaGreat

/-
  Rows of texts that a function owns.
-/
namespace Go.Proofs.YtkfpfbkdalbjoaaGreat
open Go.RowKit Go.Joins

def strV (d : ByteArray) : Value := .string d
def ownS (w : World) (B : Nat) (v : Value) (l : List ByteArray) : Prop := w.ownsRow B 9 1 v l.length (l.map strV)
theorem text_parts : ∃ i z, Tryz.prog.info? 9 = some i ∧ i.zero = some z ∧ i.size = 1 ∧ i.bytes = 16 ∧ z.cells.size = 1 := by
  have h : (Tryz.prog.info? 9).bind (fun i => i.zero.map fun z => (z.cells.size, i.size, i.bytes)) = some (1, 1, 16) := by kernel_rfl
  cases hi : Tryz.prog.info? 9 with
  | none => rw [hi] at h; cases h
  | some i =>
    rw [hi] at h
    cases hz : i.zero with
    | none => simp [hz] at h
    | some z =>
      simp only [Option.bind_some, hz, Option.map_some, Option.some.injEq, Prod.mk.injEq] at h
      exact ⟨i, z, rfl, hz, h.2.1, h.2.2, h.1⟩
theorem ownS_nil {w : World} {B : Nat} : w.ownsRow B 9 1 (.slice none 0 0) 0 [] := ⟨rfl, .inl ⟨rfl, rfl⟩⟩
theorem ownS_some {w : World} {B : Nat} {v : Value} {l : List ByteArray} (h : ownS w B v l) (hl : 0 < l.length) : ∃ g cap, v = .slice (some ⟨g, 0, none⟩) l.length cap ∧ ∀ i (hi : i < l.length), w.cell? ⟨g, i, none⟩ = some (.string l[i]) := by
  rcases h.2 with ⟨_, e⟩ | ⟨g, cap, cur, e, _⟩
  · omega
  · refine ⟨g, cap, e, fun i hi => ?_⟩
    have := World.ownsRow.cells h (g := g) (by rw [e]; rfl) i (.string l[i]) (by rw [List.getElem?_map, List.getElem?_eq_getElem hi]; rfl)
    rwa [Go.Addr.add_mid, Nat.zero_add] at this
end Go.Proofs.YtkfpfbkdalbjoaaGreat

/-
  What is kept of writes that wait; plain.
-/
namespace Go.Proofs.YtkfpfbkdalbjoaaGreat

theorem keepL_more (k : Int) : ∀ (l : List (Nat × ByteArray)) (x : Nat × ByteArray) (i : Nat) (K : List ByteArray), keepL k i (l ++ [x]) K = if keepB k ((i + l.length) % 64) then (keepL k i l K).set x.1 x.2 else keepL k i l K
  | [], x, i, K => by simp [keepL]
  | y :: l, x, i, K => by
    rw [List.cons_append]
    show keepL k (i + 1) (l ++ [x]) _ = if _ then (keepL k (i + 1) l _).set x.1 x.2 else keepL k (i + 1) l _
    rw [keepL_more k l x (i + 1), show i + 1 + l.length = i + (y :: l).length by rw [List.length_cons]; omega]
theorem keepL_take (k : Int) (l : List (Nat × ByteArray)) (i : Nat) (hi : i < l.length) (K : List ByteArray) : keepL k 0 (l.take (i + 1)) K = if keepB k (i % 64) then (keepL k 0 (l.take i) K).set l[i].1 l[i].2 else keepL k 0 (l.take i) K := by
  rw [List.take_succ_eq_append_getElem hi, keepL_more, List.length_take, Nat.zero_add, Nat.min_eq_left (Nat.le_of_lt hi)]
end Go.Proofs.YtkfpfbkdalbjoaaGreat

/-
  A disk above a lower bound.
-/
namespace Go.Proofs.YtkfpfbkdalbjoaaGreat
open Go.RowKit Go.Joins

theorem ownsRow_low {w : World} {B B' : Nat} {e : TypeId} {z : Nat} {v : Value} {n : Nat} {xs : List Value} (h : w.ownsRow B e z v n xs) (hB : B' ≤ B) : w.ownsRow B' e z v n xs := by
  refine ⟨h.1, ?_⟩
  rcases h.2 with e | ⟨g, cap, cur, rfl, h1, h2⟩
  · exact .inl e
  · exact .inr ⟨g, cap, cur, rfl, Nat.le_trans hB h1, h2⟩
theorem DK.lower {w : World} {B B' db : Nat} {S : Nat → Prop} {s : DSt} (h : DK w B db S s) (hB : B' ≤ B) : DK w B' db S s := by
  obtain ⟨nb, kb, lb, n, lv, loose, L, h1, h2, h3, h4, h5, h6, h7⟩ := h
  exact ⟨nb, kb, lb, n, lv, loose, L, h1, { h2 with own := fun i hi hi' => ⟨ownsRow_low (h2.own i hi hi').1 hB, (h2.own i hi hi').2⟩, lo := ⟨Nat.le_trans hB h2.lo.1, Nat.le_trans hB h2.lo.2.1, Nat.le_trans hB h2.lo.2.2.1, Nat.le_trans hB h2.lo.2.2.2⟩ }, h3, h4, h5, h6, Nat.le_trans hB h7⟩
end Go.Proofs.YtkfpfbkdalbjoaaGreat
