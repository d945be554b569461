/-
  Rows of one's own whose elements have the same number of cells each: plain facts. Nothing of the program's functions is named here.
-/
import Derived.Test.YtkfpfbkdalbjoaaGreatBase
import Derived.Laws.OwnMore
import Derived.Deep.AppendLies
import Derived.Test.YtkfpfbkdalbjoaaGreatRows
import Derived.Test.YtkfpfbkdalbjoaaGreatStr
import Derived.Test.YtkfpfbkdalbjoaaGreatChgMem
namespace Go.Proofs.YtkfpfbkdalbjoaaGreat
open Go.RowKit Go.Joins

theorem flat_len {α β : Type} (f : α → List β) (k : Nat) (hk : ∀ x, (f x).length = k) (l : List α) : (l.flatMap f).length = l.length * k := by
  induction l with
  | nil => simp
  | cons x l ih => rw [List.flatMap_cons, List.length_append, ih, hk, List.length_cons, Nat.succ_mul]; omega
theorem flat_get {α β : Type} (f : α → List β) (k : Nat) (hk : ∀ x, (f x).length = k) (l : List α) : ∀ (i j : Nat) (hi : i < l.length), j < k → (l.flatMap f)[i * k + j]? = (f l[i])[j]? := by
  induction l with
  | nil => intro i j hi; simp at hi
  | cons x l ih =>
    intro i j hi hj
    rw [List.flatMap_cons]
    match i with
    | 0 => rw [Nat.zero_mul, Nat.zero_add, List.getElem?_append_left (by rw [hk]; exact hj)]; rfl
    | i + 1 =>
      rw [List.getElem?_append_right (by rw [hk, Nat.succ_mul]; omega), hk]
      have e : (i + 1) * k + j - k = i * k + j := by rw [Nat.succ_mul]; omega
      rw [e, ih i j (by simpa using hi) hj]
      rfl
/-- what is owned stays owned where its block is as it was -/
theorem own_block {w w' : World} {B : Nat} {e : TypeId} {size : Nat} {v : Value} {n : Nat} {xs : List Value} (h : w.ownsRow B e size v n xs) (hk : ∀ k, v.ownBlock = some k → w'.heap[k]? = w.heap[k]?) : w'.ownsRow B e size v n xs := by
  obtain ⟨h1, h2⟩ := h
  refine ⟨h1, ?_⟩
  rcases h2 with h2 | ⟨g, cap, cur, hv, hg, hh, r⟩
  · exact .inl h2
  · exact .inr ⟨g, cap, cur, hv, hg, (hk g (by rw [hv]; rfl)).trans hh, r⟩
theorem own_on {w w' : World} {B : Nat} {e : TypeId} {size : Nat} {v : Value} {n : Nat} {xs : List Value} (h : w.ownsRow B e size v n xs) (hb : Below w.heap.size w w') : w'.ownsRow B e size v n xs :=
  own_block h fun k hk => hb.block k (h.lt k hk).2
/-- a row's value: nil, or a block's head -/
theorem own_form {w : World} {B : Nat} {e : TypeId} {size : Nat} {v : Value} {n : Nat} {xs : List Value} (h : w.ownsRow B e size v n xs) :
    (v = .slice none 0 0 ∧ n = 0) ∨ ∃ g cap, v = .slice (some ⟨g, 0, none⟩) n cap ∧ B ≤ g ∧ g < w.heap.size ∧ n ≤ cap ∧ cap ≤ maxLen := by
  rcases h.2 with h2 | ⟨g, cap, cur, hv, hg, hh, h3, h4, _⟩
  · exact .inl h2
  · exact .inr ⟨g, cap, hv, hg, (h.lt g (by rw [hv]; rfl)).2, h3, h4⟩
/-- the cells of an element of a row of one's own -/
theorem own_get {α : Type} {w : World} {B : Nat} {e : TypeId} {k g cap : Nat} {f : α → List Value} (hk : ∀ x, (f x).length = k) {l : List α} (h : w.ownsRow B e k (.slice (some ⟨g, 0, none⟩) l.length cap) l.length (l.flatMap f))
    (i j : Nat) (hi : i < l.length) (hj : j < k) : w.cell? ⟨g, i * k + j, none⟩ = (f l[i])[j]? ∧ w.frozen? ⟨g, i * k + j, none⟩ = false := by
  refine ⟨?_, h.frozenAt _⟩
  rw [h.cellAt (i * k + j) ?_, flat_get f k hk l i j hi hj]
  have : (i + 1) * k ≤ l.length * k := Nat.mul_le_mul_right k (by omega)
  rw [Nat.succ_mul] at this
  omega
theorem flat_set {α β : Type} (f : α → List β) (k : Nat) (hk : ∀ x, (f x).length = k) (l : List α) (y : α) (i j : Nat) (hi : i < l.length) (hj : j < k) (u : β) (hy : f y = (f l[i]).set j u) : (l.flatMap f).set (i * k + j) u = (l.set i y).flatMap f := by
  apply List.ext_getElem?
  intro m
  rcases Nat.lt_or_ge m (l.length * k) with hm | hm
  · have hk0 : 0 < k := by omega
    have hq : m / k < l.length := Nat.div_lt_of_lt_mul (by rw [Nat.mul_comm]; exact hm)
    have hr : m % k < k := Nat.mod_lt _ hk0
    have em : m = m / k * k + m % k := by rw [Nat.mul_comm]; exact (Nat.div_add_mod m k).symm
    rw [List.getElem?_set]
    by_cases e : i * k + j = m
    · have e1 : m / k = i := by
        rw [← e, Nat.mul_comm, Nat.mul_add_div hk0, Nat.div_eq_of_lt hj, Nat.add_zero]
      have e2 : m % k = j := by
        rw [← e, Nat.mul_comm, Nat.mul_add_mod, Nat.mod_eq_of_lt hj]
      rw [if_pos e, if_pos (by rw [flat_len f k hk]; omega), ← e, flat_get f k hk _ i j (by simpa using hi) hj]
      simp [hy, hk, hj]
    · rw [if_neg e]
      conv => lhs; rw [em]
      conv => rhs; rw [em]
      rw [flat_get f k hk l _ _ hq hr, flat_get f k hk _ _ _ (by simpa using hq) hr, List.getElem_set]
      by_cases e1 : i = m / k
      · subst e1
        rw [if_pos rfl, hy, List.getElem?_set]
        have e2 : j ≠ m % k := fun h => e (by rw [h]; exact em.symm)
        rw [if_neg e2]
      · rw [if_neg e1]
  · rw [List.getElem?_eq_none (by rw [List.length_set, flat_len f k hk]; exact hm), List.getElem?_eq_none (by rw [flat_len f k hk, List.length_set]; exact hm)]
end Go.Proofs.YtkfpfbkdalbjoaaGreat

/-
  What haywainlaw.LightSpans returns of a list of spans that lies in memory: are there at most 50, and has none an end of more than 60 bytes? It changes nothing.
-/
namespace Go.Proofs.YtkfpfbkdalbjoaaGreat
open Go.RowKit Go.Joins

/-- spans, two texts each, lie in block b from off on -/
def spansAt (w : World) (b off : Nat) (l : List (ByteArray × ByteArray)) : Prop :=
  ∀ i (h : i < l.length), w.cell? ⟨b, off + i * 2, none⟩ = some (.string l[i].1) ∧ w.cell? ⟨b, off + i * 2 + 1, none⟩ = some (.string l[i].2)
def lightSpan (s : ByteArray × ByteArray) : Bool := decide (s.1.size ≤ 60) && decide (s.2.size ≤ 60)
def lightSpans (l : List (ByteArray × ByteArray)) : Bool := decide (l.length ≤ 50) && l.all lightSpan

theorem light_take {l : List (ByteArray × ByteArray)} {k : Nat} (hk : k < l.length) (h : (l.take k).all lightSpan = true) (h2 : lightSpan l[k] = true) : (l.take (k + 1)).all lightSpan = true := by
  rw [List.take_succ_eq_append_getElem hk, List.all_append, h]; simp [h2]
theorem light_not {l : List (ByteArray × ByteArray)} {k : Nat} (hk : k < l.length) (h : lightSpan l[k] = false) : lightSpans l = false := by
  unfold lightSpans
  have : l.all lightSpan = false := by
    rw [List.all_eq_false]; exact ⟨l[k], List.getElem_mem hk, by simp [h]⟩
  rw [this, Bool.and_false]

set_option maxHeartbeats 1000000 in
theorem lightSpans_some (l : List (ByteArray × ByteArray)) (b off cap : Nat) (w : World) (hl : spansAt w b off l) (hn : l.length ≤ maxLen) :
    Calls Tryz.prog 18 #[.slice (some ⟨b, off, none⟩) l.length cap] w fun e w' => e = .returned (.bool (lightSpans l)) ∧ w' = w := by
  unfold maxLen at hn
  by_cases h50 : l.length ≤ 50
  · have hg : decide ((50 : Int) < (l.length : Int)) = false := by simp; omega
    go_enter Tryz.func18, Tryz.ntmps18
    go_wp2
    go_loop [3] (fun i => ∃ k : Nat, k ≤ l.length ∧ i = .int .i64 k ∧ (l.take k).all lightSpan = true) (fun i => l.length - (intOf i).toNat)
    case atStart => exact ⟨0, Nat.zero_le _, rfl, by simp⟩
    case round =>
      obtain ⟨k, hk, rfl, hall⟩ := hrel
      have HA : Hid ((l.take k).all lightSpan = true) := hall
      clear hall
      by_cases hlt : k < l.length
      · obtain ⟨c0, c1⟩ := hl k hlt
        go_wp2
        · go_ret
          exact ⟨ret_bool (light_not hlt (by simp only [lightSpan, Bool.and_eq_false_iff, decide_eq_false_iff_not]; omega)).symm, rfl⟩
        · go_round
          case rel => exact ⟨k + 1, by omega, by go_num, light_take hlt HA.out (by simp only [lightSpan, Bool.and_eq_true, decide_eq_true_eq]; omega)⟩
          case measure => simp [intOf]; omega
        · go_ret
          exact ⟨ret_bool (light_not hlt (by simp only [lightSpan, Bool.and_eq_false_iff, decide_eq_false_iff_not]; omega)).symm, rfl⟩
      · go_wp2
        go_ret
        refine ⟨ret_bool ?_, rfl⟩
        have e : l.take k = l := List.take_of_length_le (by omega)
        have := HA.out
        rw [e] at this
        simp [lightSpans, this, h50]
  · have hg : decide ((50 : Int) < (l.length : Int)) = true := by simp; omega
    go_enter Tryz.func18, Tryz.ntmps18
    go_wp2
    go_ret
    exact ⟨ret_bool (by simp [lightSpans, h50]), rfl⟩
/-- of a slice without elements, nil or not -/
theorem lightSpans_nil (ao : Option Addr) (cap : Nat) (w : World) :
    Calls Tryz.prog 18 #[.slice ao 0 cap] w fun e w' => e = .returned (.bool true) ∧ w' = w := by
  go_enter Tryz.func18, Tryz.ntmps18
  go_wp2
  refine wp_loop_rounds 1 ?_
  rw [rounds_succ]
  go_wp2
  go_ret
  exact ⟨rfl, rfl⟩
end Go.Proofs.YtkfpfbkdalbjoaaGreat

/-
  Spans that lie in memory stay there; plain facts on lists of them.
-/
namespace Go.Proofs.YtkfpfbkdalbjoaaGreat
open Go.RowKit Go.Joins

theorem spansAt_on {w w' : World} {b off : Nat} {l : List (ByteArray × ByteArray)} (hb : Below w.heap.size w w') (h : spansAt w b off l) : spansAt w' b off l :=
  fun i hi => ⟨cell_on hb (h i hi).1, cell_on hb (h i hi).2⟩
theorem any_take {l : List (ByteArray × ByteArray)} {f : ByteArray × ByteArray → Bool} {k : Nat} (hk : k < l.length) (h : (l.take k).any f = false) (h2 : f l[k] = false) : (l.take (k + 1)).any f = false := by
  rw [List.take_succ_eq_append_getElem hk, List.any_append, h]; simp [h2]
theorem any_yes {l : List (ByteArray × ByteArray)} {f : ByteArray × ByteArray → Bool} {k : Nat} (hk : k < l.length) (h : f l[k] = true) : l.any f = true := by
  rw [List.any_eq_true]; exact ⟨l[k], List.getElem_mem hk, h⟩
end Go.Proofs.YtkfpfbkdalbjoaaGreat

/-
  Spans that a slice holds, or none; what haywainlaw.LightSpans returns of them.
-/
namespace Go.Proofs.YtkfpfbkdalbjoaaGreat
open Go.RowKit Go.Joins

def heldSp (w : World) (ao : Option Addr) (l : List (ByteArray × ByteArray)) : Prop := l = [] ∨ ∃ b off, ao = some ⟨b, off, none⟩ ∧ spansAt w b off l
theorem heldSp_on {w w' : World} {ao : Option Addr} {l : List (ByteArray × ByteArray)} (hb : Below w.heap.size w w') (h : heldSp w ao l) : heldSp w' ao l := by
  rcases h with h | ⟨b, off, h, k⟩
  · exact .inl h
  · exact .inr ⟨b, off, h, spansAt_on hb k⟩
theorem heldSp_block {w w' : World} {ao : Option Addr} {l : List (ByteArray × ByteArray)} (h : heldSp w ao l) (hk : ∀ b off, ao = some ⟨b, off, none⟩ → b < w.heap.size → w'.heap[b]? = w.heap[b]?) : heldSp w' ao l := by
  rcases h with h | ⟨b, off, rfl, h⟩
  · exact .inl h
  · by_cases h0 : l = []
    · exact .inl h0
    · have hl : 0 < l.length := List.length_pos_iff.2 h0
      have e := hk b off rfl (World.block_lt_of_cell? w _ (h 0 hl).1)
      exact .inr ⟨b, off, rfl, fun i hi => ⟨(World.cell?_of_block (w := w) e).trans (h i hi).1, (World.cell?_of_block (w := w) e).trans (h i hi).2⟩⟩
theorem lightSp_held (l : List (ByteArray × ByteArray)) (ao : Option Addr) (cap : Nat) (w : World) (hl : heldSp w ao l) (hn : l.length ≤ maxLen) :
    Calls Tryz.prog 18 #[.slice ao l.length cap] w fun e w' => e = .returned (.bool (lightSpans l)) ∧ w' = w := by
  rcases hl with rfl | ⟨b, off, rfl, h⟩
  · exact lightSpans_nil _ _ _
  · exact lightSpans_some l b off cap w h hn
end Go.Proofs.YtkfpfbkdalbjoaaGreat

/-
  Rows (a key and a value each) of one's own, as they lie. Nothing of the program's functions is named here.
-/
namespace Go.Proofs.YtkfpfbkdalbjoaaGreat
open Go.RowKit Go.Joins

def cellP (r : ByteArray × ByteArray) : List Value := [.string r.1, .string r.2]
theorem cellP_len (r : ByteArray × ByteArray) : (cellP r).length = 2 := rfl
def ownP (w : World) (B : Nat) (v : Value) (F : List (ByteArray × ByteArray)) : Prop := w.ownsRow B 81 2 v F.length (F.flatMap cellP)
theorem row_info : (Tryz.prog.info? 81).map (fun i => (i.zero, i.size, i.bytes)) = some (some (.agg #[.string ⟨#[]⟩, .string ⟨#[]⟩]), 2, 32) := by kernel_rfl
theorem ownP_snoc {w : World} {B : Nat} {v : Value} {l : List (ByteArray × ByteArray)} {r : ByteArray × ByteArray} (h : w.ownsRow B 81 2 v (l.length + 1) (l.flatMap cellP ++ cellP r)) : ownP w B v (l ++ [r]) := by
  unfold ownP
  rw [List.flatMap_append, List.length_append]
  simpa using h
theorem cellP_one (r : ByteArray × ByteArray) : ∀ u ∈ cellP r, u.oneCell' = true := by
  intro u hu
  simp only [cellP, List.mem_cons, List.not_mem_nil, or_false] at hu
  rcases hu with rfl | rfl <;> rfl
end Go.Proofs.YtkfpfbkdalbjoaaGreat

/-
  What haywainref.SameRows returns of rows that are the same. It changes nothing that was there.
-/
namespace Go.Proofs.YtkfpfbkdalbjoaaGreat
open Go.RowKit Go.Joins

/-- rows of one's own, as they lie -/
theorem ownP_held {w : World} {B : Nat} {v : Value} {F : List (ByteArray × ByteArray)} (h : ownP w B v F) : ∃ ao cap, v = .slice ao F.length cap ∧ heldSp w ao F := by
  rcases own_form h with ⟨hv, h0⟩ | ⟨g, cap, hv, _, hl, hc, hm⟩
  · have e : F = [] := List.length_eq_zero_iff.1 h0
    subst e
    exact ⟨none, 0, hv, .inl rfl⟩
  · refine ⟨_, cap, hv, .inr ⟨g, 0, rfl, fun i hi => ?_⟩⟩
    unfold ownP at h
    rw [hv] at h
    have h0 := (own_get cellP_len h i 0 hi (by omega)).1
    have h1 := (own_get cellP_len h i 1 hi (by omega)).1
    rw [show 0 + i * 2 = i * 2 + 0 by omega]
    exact ⟨h0, by rw [show i * 2 + 0 + 1 = i * 2 + 1 by omega]; exact h1⟩
theorem ownP_has {w : World} {B : Nat} {la : Option Addr} {lc : Nat} {F : List (ByteArray × ByteArray)} (h : ownP w B (.slice la F.length lc) F) : heldSp w la F ∧ F.length ≤ 9223372036854775807 := by
  refine ⟨?_, ?_⟩
  · obtain ⟨ao, cap, e, hh⟩ := ownP_held h
    cases e
    exact hh
  · rcases own_form h with ⟨_, h0⟩ | ⟨g, cap, hv, _, hl, hc, hm⟩
    · omega
    · unfold maxLen at hm; omega
set_option maxHeartbeats 1000000 in
theorem sameRows_some (l : List (ByteArray × ByteArray)) (b off cap b2 off2 cap2 : Nat) (w : World) (hl : spansAt w b off l) (hl2 : spansAt w b2 off2 l) (hn : l.length ≤ 9223372036854775807) :
    Calls Tryz.prog 14 #[.slice (some ⟨b, off, none⟩) l.length cap, .slice (some ⟨b2, off2, none⟩) l.length cap2] w fun e w' => e = .returned (.bool true) ∧ Below w.heap.size w w' := by
  go_enter Tryz.func14, Tryz.ntmps14
  go_wp2
  go_loopw [5] (fun i wr => ∃ k : Nat, k ≤ l.length ∧ i = .int .i64 k ∧ Below w.heap.size w wr) (fun i _ => l.length - (intOf i).toNat)
  case atStart => exact ⟨0, Nat.zero_le _, rfl, Below.refl _ _⟩
  case round =>
    obtain ⟨k, hk, rfl, hB⟩ := hrel
    by_cases hlt : k < l.length
    · obtain ⟨c0, c1⟩ := spansAt_on hB hl k hlt
      obtain ⟨d0, d1⟩ := spansAt_on hB hl2 k hlt
      go_wp2
      go_quiet (fail)
      go_wp2
      go_roundw
      case rel => exact ⟨k + 1, by omega, by go_num, hB.trans (below_draws _ _ _)⟩
      case measure => simp [intOf]; omega
    · go_wp2
      go_ret
      exact ⟨rfl, hB⟩
set_option maxHeartbeats 1000000 in
theorem sameRows_nil (ao ao2 : Option Addr) (cap cap2 : Nat) (w : World) :
    Calls Tryz.prog 14 #[.slice ao 0 cap, .slice ao2 0 cap2] w fun e w' => e = .returned (.bool true) ∧ Below w.heap.size w w' := by
  go_enter Tryz.func14, Tryz.ntmps14
  go_wp2
  go_loopw [5] (fun i wr => i = .int .i64 0 ∧ wr = w) (fun _ _ => 0)
  case atStart => exact ⟨rfl, rfl⟩
  case round =>
    obtain ⟨rfl, rfl⟩ := hrel
    go_wp2
    go_ret
    exact ⟨rfl, Below.refl _ _⟩
theorem sameRows_held (l : List (ByteArray × ByteArray)) (ao ao2 : Option Addr) (cap cap2 : Nat) (w : World) (hl : heldSp w ao l) (hl2 : heldSp w ao2 l) (hn : l.length ≤ 9223372036854775807) :
    Calls Tryz.prog 14 #[.slice ao l.length cap, .slice ao2 l.length cap2] w fun e w' => e = .returned (.bool true) ∧ Below w.heap.size w w' := by
  rcases hl with rfl | ⟨b, off, rfl, h⟩
  · exact sameRows_nil _ _ _ _ _
  · rcases hl2 with rfl | ⟨b2, off2, rfl, h2⟩
    · exact sameRows_nil _ _ _ _ _
    · exact sameRows_some l b off cap b2 off2 cap2 w h h2 hn
end Go.Proofs.YtkfpfbkdalbjoaaGreat

/-
  Acts, as they lie in memory, and what haywainlaw.LightActs returns of them.
-/
namespace Go.Proofs.YtkfpfbkdalbjoaaGreat
open Go.RowKit Go.Joins

structure ActL where
  kind : ByteArray
  a : Int
  b : Int
  c : Int
  k : Int
  s : ByteArray
  t : ByteArray
  ca : Option Addr
  cc : Nat
  chs : List Chg
  sa : Option Addr
  sc : Nat
  sps : List (ByteArray × ByteArray)
/-- an act, nine cells, lies in block b from off on; its lists lie somewhere -/
structure ActAt (w : World) (blk off : Nat) (x : ActL) : Prop where
  kind : w.cell? ⟨blk, off, none⟩ = some (.string x.kind)
  a : w.cell? ⟨blk, off + 1, none⟩ = some (.int .i64 x.a)
  b : w.cell? ⟨blk, off + 2, none⟩ = some (.int .i64 x.b)
  c : w.cell? ⟨blk, off + 3, none⟩ = some (.int .i64 x.c)
  k : w.cell? ⟨blk, off + 4, none⟩ = some (.int .u64 x.k)
  s : w.cell? ⟨blk, off + 5, none⟩ = some (.string x.s)
  t : w.cell? ⟨blk, off + 6, none⟩ = some (.string x.t)
  cl : w.cell? ⟨blk, off + 7, none⟩ = some (.slice x.ca x.chs.length x.cc)
  sl : w.cell? ⟨blk, off + 8, none⟩ = some (.slice x.sa x.sps.length x.sc)
  hc : heldCh w x.ca x.chs
  hs : heldSp w x.sa x.sps
  ns : x.sps.length ≤ maxLen
  ai : -9223372036854775808 ≤ x.a ∧ x.a ≤ 9223372036854775807
theorem ActAt.on {w w' : World} {b off : Nat} {x : ActL} (hb : Below w.heap.size w w') (h : ActAt w b off x) : ActAt w' b off x :=
  ⟨cell_on hb h.kind, cell_on hb h.a, cell_on hb h.b, cell_on hb h.c, cell_on hb h.k, cell_on hb h.s, cell_on hb h.t, cell_on hb h.cl, cell_on hb h.sl, heldCh_on hb h.hc, heldSp_on hb h.hs, h.ns, h.ai⟩
def actsAt (w : World) (b off : Nat) (l : List ActL) : Prop := ∀ i (h : i < l.length), ActAt w b (off + i * 9) l[i]
theorem actsAt_on {w w' : World} {b off : Nat} {l : List ActL} (hb : Below w.heap.size w w') (h : actsAt w b off l) : actsAt w' b off l := fun i hi => (h i hi).on hb
def heldAc (w : World) (ao : Option Addr) (l : List ActL) : Prop := l = [] ∨ ∃ b off, ao = some ⟨b, off, none⟩ ∧ actsAt w b off l
theorem heldAc_on {w w' : World} {ao : Option Addr} {l : List ActL} (hb : Below w.heap.size w w') (h : heldAc w ao l) : heldAc w' ao l := by
  rcases h with h | ⟨b, off, h, k⟩
  · exact .inl h
  · exact .inr ⟨b, off, h, actsAt_on hb k⟩
def lightAct (x : ActL) : Bool := decide (x.s.size ≤ 120) && decide (x.t.size ≤ 100) && lightChgs x.chs 20 && lightSpans x.sps
def lightActs (l : List ActL) (n : Nat) : Bool := decide (l.length ≤ n) && l.all lightAct
theorem lighta_take {l : List ActL} {k : Nat} (hk : k < l.length) (h : (l.take k).all lightAct = true) (h2 : lightAct l[k] = true) : (l.take (k + 1)).all lightAct = true := by
  rw [List.take_succ_eq_append_getElem hk, List.all_append, h]; simp [h2]
theorem lighta_not {l : List ActL} {k n : Nat} (hk : k < l.length) (h : lightAct l[k] = false) : lightActs l n = false := by
  unfold lightActs
  have : l.all lightAct = false := by
    rw [List.all_eq_false]; exact ⟨l[k], List.getElem_mem hk, by simp [h]⟩
  rw [this, Bool.and_false]

theorem light_chs {l : List ActL} {n : Nat} (h : lightActs l n = true) {i : Nat} (hi : i < l.length) : l[i].chs.length ≤ 20 ∧ l[i].sps.length ≤ 50 := by
  simp only [lightActs, Bool.and_eq_true, List.all_eq_true] at h
  have := h.2 _ (List.getElem_mem hi)
  simp only [lightAct, lightChgs, lightSpans, Bool.and_eq_true, decide_eq_true_eq] at this
  exact ⟨this.1.2.1, this.2.1⟩

set_option maxRecDepth 4000 in
set_option maxHeartbeats 2000000 in
theorem lightActs_some (l : List ActL) (n b off cap : Nat) (w : World) (hl : actsAt w b off l) (hm : n ≤ 1000) :
    Calls Tryz.prog 5 #[.slice (some ⟨b, off, none⟩) l.length cap, .int .i64 n] w fun e w' => e = .returned (.bool (lightActs l n)) ∧ w' = w := by
  by_cases h50 : l.length ≤ n
  · have hg : decide ((n : Int) < (l.length : Int)) = false := by simp; omega
    have hg2 : decide (n < l.length) = false := by simp; omega
    go_enter Tryz.func5, Tryz.ntmps5
    go_wp2
    go_loopw [5] (fun i wr => ∃ k : Nat, k ≤ l.length ∧ i = .int .i64 k ∧ (l.take k).all lightAct = true ∧ wr = w) (fun i _ => l.length - (intOf i).toNat)
    case atStart => exact ⟨0, Nat.zero_le _, rfl, by simp, rfl⟩
    case round =>
      obtain ⟨k, hk, rfl, hall, rfl⟩ := hrel
      have HA := hide hall
      clear hall
      by_cases hlt : k < l.length
      · have hx := hl k hlt
        have c5 := hx.s
        have c6 := hx.t
        have c7 := hx.cl
        have c8 := hx.sl
        have H7 := hide hx.hc
        have H8 := hide hx.hs
        have hns := hx.ns
        clear hx
        by_cases h5 : l[k].s.size ≤ 120
        · by_cases h6 : l[k].t.size ≤ 100
          · have h5' : ¬ (120 : Int) < (l[k].s.size : Int) := by omega
            have h6' : ¬ (100 : Int) < (l[k].t.size : Int) := by omega
            cases h7 : lightChgs l[k].chs 20 with
            | false =>
              have H := hide h7
              clear h7
              go_wp2_with (first
                | (go_at_call 17; refine (light_held _ 20 _ _ _ H7.out (by omega)).mono ?_; rintro e w2 ⟨rfl, hw2⟩; have hw3 := hw2.symm; subst hw3; clear hw2; rw [H.out]))
              go_ret
              exact ⟨ret_bool (lighta_not hlt (by simp [lightAct, H.out])).symm, rfl⟩
            | true =>
              have H := hide h7
              clear h7
              cases h8 : lightSpans l[k].sps with
              | false =>
                have H' := hide h8
                clear h8
                go_wp2_with (first
                  | (go_at_call 17; refine (light_held _ 20 _ _ _ H7.out (by omega)).mono ?_; rintro e w2 ⟨rfl, hw2⟩; have hw3 := hw2.symm; subst hw3; clear hw2; rw [H.out])
                  | (go_at_call 18; refine (lightSp_held _ _ _ _ H8.out hns).mono ?_; rintro e w2 ⟨rfl, hw2⟩; have hw3 := hw2.symm; subst hw3; clear hw2; rw [H'.out]))
                go_ret
                exact ⟨ret_bool (lighta_not hlt (by simp [lightAct, H'.out])).symm, rfl⟩
              | true =>
                have H' := hide h8
                clear h8
                go_wp2_with (first
                  | (go_at_call 17; refine (light_held _ 20 _ _ _ H7.out (by omega)).mono ?_; rintro e w2 ⟨rfl, hw2⟩; have hw3 := hw2.symm; subst hw3; clear hw2; rw [H.out])
                  | (go_at_call 18; refine (lightSp_held _ _ _ _ H8.out hns).mono ?_; rintro e w2 ⟨rfl, hw2⟩; have hw3 := hw2.symm; subst hw3; clear hw2; rw [H'.out]))
                go_roundw
                case rel => exact ⟨k + 1, by omega, by go_num, lighta_take hlt HA.out (by simp [lightAct, H.out, H'.out, h5, h6]), by first | rfl | trivial⟩
                case measure => simp [intOf]; omega
          · have h5' : ¬ (120 : Int) < (l[k].s.size : Int) := by omega
            have h6' : (100 : Int) < (l[k].t.size : Int) := by omega
            go_wp2
            go_ret
            exact ⟨ret_bool (lighta_not hlt (by simp [lightAct, h6])).symm, rfl⟩
        · have h5' : (120 : Int) < (l[k].s.size : Int) := by omega
          go_wp2
          go_ret
          exact ⟨ret_bool (lighta_not hlt (by simp [lightAct, h5])).symm, rfl⟩
      · go_wp2
        go_ret
        refine ⟨ret_bool ?_, rfl⟩
        have e : l.take k = l := List.take_of_length_le (by omega)
        have := HA.out
        rw [e] at this
        simp [lightActs, this, h50]
  · have hg : decide ((n : Int) < (l.length : Int)) = true := by simp; omega
    go_enter Tryz.func5, Tryz.ntmps5
    go_wp2
    go_ret
    exact ⟨ret_bool (by simp [lightActs, h50]), rfl⟩
theorem lightActs_nil (ao : Option Addr) (n cap : Nat) (w : World) :
    Calls Tryz.prog 5 #[.slice ao 0 cap, .int .i64 n] w fun e w' => e = .returned (.bool true) ∧ w' = w := by
  have hg : decide ((n : Int) < 0) = false := by simp
  go_enter Tryz.func5, Tryz.ntmps5
  go_wp2
  refine wp_loop_rounds 1 ?_
  rw [rounds_succ]
  go_wp2
  go_ret
  exact ⟨rfl, rfl⟩
theorem lightAc_held (l : List ActL) (n cap : Nat) (ao : Option Addr) (w : World) (hl : heldAc w ao l) (hm : n ≤ 1000) :
    Calls Tryz.prog 5 #[.slice ao l.length cap, .int .i64 n] w fun e w' => e = .returned (.bool (lightActs l n)) ∧ w' = w := by
  rcases hl with rfl | ⟨b, off, rfl, h⟩
  · exact lightActs_nil _ _ _ _
  · exact lightActs_some l n b off cap w h hm
end Go.Proofs.YtkfpfbkdalbjoaaGreat
