/-
  What haywainref.Has returns: the same as span.Has, for every span and key; nothing that was there is changed.
-/
import Derived.Test.YtighpalbodhfeaaGreatDoorRowBoth
import Derived.Test.YtighpalbodhfeaaGreatDoorVerNew
import Derived.Test.YtighpalbodhfeaaGreatDoorAppend1
import Derived.Test.YtighpalbodhfeaaGreatDoorChgMem
import Derived.Test.YtighpalbodhfeaaGreatDoorVerBehind
namespace Go.Proofs.YtighpalbodhfeaaGreatDoor
open Go.RowKit Go.Joins

set_option maxHeartbeats 400000 in
theorem rhas_any (f t k : ByteArray) (w : World) :
    Calls Tryz.prog 120 #[.agg #[.string f, .string t], .string k] w fun e w' => e = .returned (.bool (hasS f t k)) ∧ Below w.heap.size w w' := by
  go_enter Tryz.func120, Tryz.ntmps120
  go_wp2
  all_goals
    go_ret
    refine ⟨?_, below_alloc1 _ _⟩
    simp_all [hasS, leS, ltS, nilS]

theorem remptyS (f t : ByteArray) : emptyS f t = (!t.toList.isEmpty && !Op.bytesLess f.toList t.toList) := by
  unfold emptyS; rw [leS_not]; rfl
end Go.Proofs.YtighpalbodhfeaaGreatDoor

/-
  What haywainref.Value and haywainref.In return of rows: the value of a key; a new row of those that lie in a span.
-/
namespace Go.Proofs.YtighpalbodhfeaaGreatDoor
open Go.RowKit Go.Joins

/-- the value of a key among rows -/
def valR (l : List (ByteArray × ByteArray)) (key : ByteArray) : ByteArray × Bool := match l.find? fun r => eqS r.1 key with
  | some r => (r.2, true)
  | none => (⟨#[]⟩, false)
theorem valR_miss {l : List (ByteArray × ByteArray)} {key : ByteArray} (h : ∀ r ∈ l, eqS r.1 key = false) : valR l key = (⟨#[]⟩, false) := by
  unfold valR
  rw [List.find?_eq_none.2 fun r hr => by rw [h r hr]; simp]
theorem valR_hit {l : List (ByteArray × ByteArray)} {key : ByteArray} {k : Nat} (hk : k < l.length) (h : ∀ r ∈ l.take k, eqS r.1 key = false) (he : eqS l[k].1 key = true) : valR l key = (l[k].2, true) := by
  unfold valR
  have : l.find? (fun r => eqS r.1 key) = some l[k] := by
    rw [List.find?_eq_some_iff_append]
    refine ⟨he, l.take k, l.drop (k + 1), ?_, fun r hr => by rw [h r hr]; rfl⟩
    rw [← List.drop_eq_getElem_cons hk, List.take_append_drop]
  rw [this]
set_option maxHeartbeats 1000000 in
theorem rvalue_some (l : List (ByteArray × ByteArray)) (b off cap : Nat) (key : ByteArray) (w : World) (hl : spansAt w b off l) (hn : l.length ≤ 1000000) :
    Calls Tryz.prog 77 #[.slice (some ⟨b, off, none⟩) l.length cap, .string key] w fun e w' => e = .returned (.tuple #[.string (valR l key).1, .bool (valR l key).2]) ∧ Below w.heap.size w w' := by
  go_enter Tryz.func77, Tryz.ntmps77
  go_wp2
  go_loopw [6] (fun i wr => ∃ k : Nat, k ≤ l.length ∧ i = .int .i64 k ∧ (∀ r ∈ l.take k, eqS r.1 key = false) ∧ Below w.heap.size w wr) (fun i _ => l.length - (intOf i).toNat)
  case atStart => exact ⟨0, Nat.zero_le _, rfl, by simp, Below.refl _ _⟩
  case round =>
    obtain ⟨k, hk, rfl, hno, hB⟩ := hrel
    have HNO := hide hno
    clear hno
    by_cases hlt : k < l.length
    · have hlt' : (k : Int) < (l.length : Int) := by omega
      obtain ⟨c0, c1⟩ := spansAt_on hB hl k hlt
      cases hq : eqS l[k].1 key with
      | true =>
        have q1 : (l[k].1.toList == key.toList) = true := hq
        have HV := hide (valR_hit hlt HNO.out hq)
        clear hq
        go_wp2
        go_ret2
        rw [HV.out]
        exact ⟨rfl, hB⟩
      | false =>
        have q1 : (l[k].1.toList == key.toList) = false := hq
        have HN2 : Hid (∀ r ∈ l.take (k + 1), eqS r.1 key = false) := fun r hr => by
          rw [List.take_succ_eq_append_getElem hlt] at hr
          rcases List.mem_append.1 hr with h | h
          · exact HNO.out r h
          · rw [List.mem_singleton.1 h]; exact hq
        clear hq
        go_wp2
        exact ⟨⟨k + 1, by omega, by go_num, HN2.out, hB⟩, by simp [intOf]; omega⟩
    · have ek : k = l.length := by omega
      subst ek
      have hlt' : ¬ (l.length : Int) < (l.length : Int) := by omega
      have HV : Hid (valR l key = (⟨#[]⟩, false)) := valR_miss (by have := HNO.out; rwa [List.take_length] at this)
      go_wp2
      go_ret2
      rw [HV.out]
      exact ⟨rfl, hB⟩
set_option maxHeartbeats 1000000 in
theorem rvalue_any (l : List (ByteArray × ByteArray)) (ao : Option Addr) (cap : Nat) (key : ByteArray) (w : World) (hl : heldSp w ao l) (hn : l.length ≤ 1000000) :
    Calls Tryz.prog 77 #[.slice ao l.length cap, .string key] w fun e w' => e = .returned (.tuple #[.string (valR l key).1, .bool (valR l key).2]) ∧ Below w.heap.size w w' := by
  rcases hl with rfl | ⟨b, off, rfl, h⟩
  · go_enter Tryz.func77, Tryz.ntmps77
    go_wp2
    go_loopw [6] (fun i wr => i = .int .i64 0 ∧ wr = w) (fun _ _ => 0)
    case atStart => exact ⟨rfl, rfl⟩
    case round =>
      obtain ⟨rfl, rfl⟩ := hrel
      go_wp2
      go_ret2
      exact ⟨rfl, Below.refl _ _⟩
  · exact rvalue_some l b off cap key w h hn
/-- the rows of a span -/
def inR (l : List (ByteArray × ByteArray)) (s : ByteArray × ByteArray) : List (ByteArray × ByteArray) := l.filter fun r => hasS s.1 s.2 r.1
theorem inR_succ {l : List (ByteArray × ByteArray)} {k : Nat} (hk : k < l.length) (s : ByteArray × ByteArray) : inR (l.take (k + 1)) s = inR (l.take k) s ++ if hasS s.1 s.2 l[k].1 then [l[k]] else [] := by
  unfold inR
  rw [List.take_succ_eq_append_getElem hk, List.filter_append]
  congr 1
  simp only [List.filter_cons, List.filter_nil]
theorem inR_len (l : List (ByteArray × ByteArray)) (s : ByteArray × ByteArray) : (inR l s).length ≤ l.length := List.length_filter_le _ _
theorem ownP_snoc {w : World} {B : Nat} {v : Value} {l : List (ByteArray × ByteArray)} {r : ByteArray × ByteArray} (h : w.ownsRow B 55 2 v (l.length + 1) (l.flatMap cellP ++ cellP r)) : ownP w B v (l ++ [r]) := by
  unfold ownP
  rw [List.flatMap_append, List.length_append]
  simpa using h
theorem cellP_one (r : ByteArray × ByteArray) : ∀ u ∈ cellP r, u.oneCell' = true := by
  intro u hu
  simp only [cellP, List.mem_cons, List.not_mem_nil, or_false] at hu
  rcases hu with rfl | rfl <;> rfl
set_option maxHeartbeats 2000000 in
theorem rin_some (l : List (ByteArray × ByteArray)) (b off cap : Nat) (s : ByteArray × ByteArray) (w : World) (hl : spansAt w b off l) (hn : l.length ≤ 1000) :
    Calls Tryz.prog 82 #[.slice (some ⟨b, off, none⟩) l.length cap, .agg #[.string s.1, .string s.2]] w fun e w' => ∃ v, e = .returned v ∧ ownP w' w.heap.size v (inR l s) ∧ Below w.heap.size w w' := by
  obtain ⟨i0, hi0, hz0, hs0, hb0⟩ := info_parts row_info
  have hB0 := below_alloc1 w (Obj.cells #[Value.string s.1, Value.string s.2] 91)
  have a0 : (w.alloc (Obj.cells #[Value.string s.1, Value.string s.2] 91)).cell? ⟨w.heap.size, 0, none⟩ = some (.string s.1) := by simp
  have a1 : (w.alloc (Obj.cells #[Value.string s.1, Value.string s.2] 91)).cell? ⟨w.heap.size, 1, none⟩ = some (.string s.2) := by simp
  have hl0 := spansAt_on hB0 hl
  have hz1 : (w.alloc (Obj.cells #[Value.string s.1, Value.string s.2] 91)).heap.size = w.heap.size + 1 := by simp
  go_enter Tryz.func82, Tryz.ntmps82
  go_wp2
  generalize (w.alloc (Obj.cells #[Value.string s.1, Value.string s.2] 91)) = W0 at *
  go_loopw [5, 6] (fun v i wr => ∃ k : Nat, k ≤ l.length ∧ i = .int .i64 k ∧ ownP wr W0.heap.size v (inR (l.take k) s) ∧ Below W0.heap.size W0 wr) (fun _ i _ => l.length - (intOf i).toNat)
  case atStart => exact ⟨0, Nat.zero_le _, rfl, World.ownsRow_nil _ _ _ _, Below.refl _ _⟩
  case round =>
    obtain ⟨k, hk, rfl, hown, hB⟩ := hrel
    have b0 := cell_on hB a0
    have b1 := cell_on hB a1
    by_cases hlt : k < l.length
    · obtain ⟨c0, c1⟩ := spansAt_on hB hl0 k hlt
      have lk : (k : Int) < (l.length : Int) := by omega
      have HF := hide (inR_succ hlt s)
      have hlen := inR_len (l.take k) s
      rw [List.length_take] at hlen
      generalize inR (l.take k) s = out at *
      cases hq : hasS s.1 s.2 l[k].1 with
      | true =>
        have HQ := hide hq
        rw [hq] at HF
        clear hq
        have nS := OnW.some wr
        have n0 : ∀ m : OnW wr, m.w.cell? ⟨b, off + k * 2, none⟩ = some (.string l[k].1) := fun m => m.cell c0
        have n1 : ∀ m : OnW wr, m.w.cell? ⟨w.heap.size, 0, none⟩ = some (.string s.1) := fun m => m.cell b0
        have n2 : ∀ m : OnW wr, m.w.cell? ⟨w.heap.size, 1, none⟩ = some (.string s.2) := fun m => m.cell b1
        go_wp2
        refine wp_region_on (by kernel_rfl) (by kernel_rfl) ?_
        repeat (go_big_quiet_step ((first
          | (go_at_call 120; exact on_call (call_val (rhas_any s.1 s.2 l[k].1 _) (congrArg Value.bool HQ.out))))))
        refine wpQuiet_nil ?_
        intro w1 hw1
        replace hw1 := on_end hw1
        have hb1 := below_on hB (Nat.le_refl _) hw1
        have HOWN := hide (own_block hown fun k e => hw1.block k (World.ownsRow.lt hown k e).2)
        replace c0 := cell_on hw1 c0
        replace c1 := cell_on hw1 c1
        clear nS n0 n1 n2 b0 b1 hw1 hown
        go_wp2_with (at_builtin; refine wp_append1 rfl _ _ 22 rfl W0.heap.size 55 i0 _ 2 32 Tryz.underlying22 hi0 hz0 hs0 hb0 rfl (by omega) _ (cellP l[k]) rfl (cellP_one _) _ out.length (out.flatMap cellP) HOWN.out rfl rfl (by omega) (by omega) hb1.size ?_; intro v1 w2 ho1 hb2; have HB2 : Hid (Below W0.heap.size W0 w2) := (by first | exact hb2 W0 hb1 | exact hb2 W0 (hb1.trans (below_draws _ _ _))); have HO2 : Hid (ownP w2 W0.heap.size v1 (out ++ [l[k]])) := ownP_snoc ho1; clear ho1 hb2)
        exact ⟨⟨k + 1, by omega, by go_num, by rw [HF.out]; exact HO2.out, HB2.out⟩, by simp [intOf]; omega⟩
      | false =>
        have HQ := hide hq
        rw [hq] at HF
        clear hq
        have nS := OnW.some wr
        have n0 : ∀ m : OnW wr, m.w.cell? ⟨b, off + k * 2, none⟩ = some (.string l[k].1) := fun m => m.cell c0
        have n1 : ∀ m : OnW wr, m.w.cell? ⟨w.heap.size, 0, none⟩ = some (.string s.1) := fun m => m.cell b0
        have n2 : ∀ m : OnW wr, m.w.cell? ⟨w.heap.size, 1, none⟩ = some (.string s.2) := fun m => m.cell b1
        go_wp2
        refine wp_region_on (by kernel_rfl) (by kernel_rfl) ?_
        repeat (go_big_quiet_step ((first
          | (go_at_call 120; exact on_call (call_val (rhas_any s.1 s.2 l[k].1 _) (congrArg Value.bool HQ.out))))))
        refine wpQuiet_nil ?_
        intro w1 hw1
        replace hw1 := on_end hw1
        have hb1 := below_on hB (Nat.le_refl _) hw1
        have HOWN := hide (own_block hown fun k e => hw1.block k (World.ownsRow.lt hown k e).2)
        replace c0 := cell_on hw1 c0
        replace c1 := cell_on hw1 c1
        clear nS n0 n1 n2 b0 b1 hw1 hown
        go_wp2
        exact ⟨⟨k + 1, by omega, by go_num, by rw [HF.out]; exact (List.append_nil out).symm ▸ HOWN.out, hb1⟩, by simp [intOf]; omega⟩
    · have ek : k = l.length := by omega
      subst ek
      have hlt' : ¬ (l.length : Int) < (l.length : Int) := by omega
      rw [List.take_length] at hown
      go_wp2
      go_ret
      exact ⟨_, rfl, ownsRow_le hown (by omega), hB0.trans (hB.mono hB0.size)⟩
set_option maxHeartbeats 1000000 in
theorem rin_any (l : List (ByteArray × ByteArray)) (ao : Option Addr) (cap : Nat) (s : ByteArray × ByteArray) (w : World) (hl : heldSp w ao l) (hn : l.length ≤ 1000) :
    Calls Tryz.prog 82 #[.slice ao l.length cap, .agg #[.string s.1, .string s.2]] w fun e w' => ∃ v, e = .returned v ∧ ownP w' w.heap.size v (inR l s) ∧ Below w.heap.size w w' := by
  rcases hl with rfl | ⟨b, off, rfl, h⟩
  · have hB0 := below_alloc1 w (Obj.cells #[Value.string s.1, Value.string s.2] 91)
    go_enter Tryz.func82, Tryz.ntmps82
    go_wp2
    generalize (w.alloc (Obj.cells #[Value.string s.1, Value.string s.2] 91)) = W0 at *
    go_loopw [5, 6] (fun v i wr => v = .slice none 0 0 ∧ i = .int .i64 0 ∧ wr = W0) (fun _ _ _ => 0)
    case atStart => exact ⟨rfl, rfl, rfl⟩
    case round =>
      obtain ⟨rfl, rfl, rfl⟩ := hrel
      go_wp2
      go_ret
      exact ⟨_, rfl, World.ownsRow_nil _ _ _ _, hB0⟩
  · exact rin_some l b off cap s w h hn
end Go.Proofs.YtighpalbodhfeaaGreatDoor

/-
  Changes applied to rows, as haywainref.Applied applies them: one by one, by a fold. Plain facts.
-/
namespace Go.Proofs.YtighpalbodhfeaaGreatDoor
open Go.RowKit Go.Joins

def stepA (c : Chg) (s : Bool × List (ByteArray × ByteArray)) (r : ByteArray × ByteArray) : Bool × List (ByteArray × ByteArray) :=
  (s.1 || leS c.key r.1, (if !s.1 && leS c.key r.1 then s.2 ++ [(c.key, c.val)] else s.2) ++ if eqS r.1 c.key then [] else [r])
def endA (c : Chg) (s : Bool × List (ByteArray × ByteArray)) : List (ByteArray × ByteArray) := if s.1 then s.2 else s.2 ++ [(c.key, c.val)]
def apply1 (l : List (ByteArray × ByteArray)) (c : Chg) : List (ByteArray × ByteArray) := endA c (l.foldl (stepA c) (c.gone, []))
def appliedA (l : List (ByteArray × ByteArray)) (cs : List Chg) : List (ByteArray × ByteArray) := cs.foldl apply1 l
theorem foldA_take (c : Chg) (l : List (ByteArray × ByteArray)) (s0 : Bool × List (ByteArray × ByteArray)) (k : Nat) (hk : k < l.length) : (l.take (k + 1)).foldl (stepA c) s0 = stepA c ((l.take k).foldl (stepA c) s0) l[k] := by
  rw [List.take_succ_eq_append_getElem hk, List.foldl_append]; rfl
theorem foldA_len (c : Chg) (l : List (ByteArray × ByteArray)) : ∀ (s : Bool × List (ByteArray × ByteArray)), ((l.foldl (stepA c) s).1 = false → (l.foldl (stepA c) s).2.length ≤ s.2.length + l.length) ∧ (l.foldl (stepA c) s).2.length ≤ s.2.length + l.length + (if s.1 then 0 else 1) ∧ (s.1 = true → (l.foldl (stepA c) s).1 = true) := by
  induction l with
  | nil => intro s; simp
  | cons r l ih =>
    intro s
    obtain ⟨h1, h2, h3⟩ := ih (stepA c s r)
    rw [List.foldl_cons]
    generalize hs : List.foldl (stepA c) (stepA c s r) l = t at *
    obtain ⟨laid, out⟩ := s
    cases laid with
    | true =>
      have e1 : (stepA c (true, out) r).1 = true := rfl
      have e2 : (stepA c (true, out) r).2.length ≤ out.length + 1 := by cases he : eqS r.1 c.key <;> simp [stepA, he]
      rw [e1] at h2 h3
      refine ⟨fun h => ?_, ?_, fun _ => h3 rfl⟩
      · rw [h3 rfl] at h; cases h
      · simp only [List.length_cons, if_true] at h2 ⊢; omega
    | false =>
      cases hle : leS c.key r.1 with
      | true =>
        have e1 : (stepA c (false, out) r).1 = true := by simp [stepA, hle]
        have e2 : (stepA c (false, out) r).2.length ≤ out.length + 2 := by cases he : eqS r.1 c.key <;> simp [stepA, hle, he]
        rw [e1] at h2 h3
        refine ⟨fun h => ?_, ?_, fun h => by cases h⟩
        · rw [h3 rfl] at h; cases h
        · simp only [List.length_cons, if_true, Bool.false_eq_true, if_false] at h2 ⊢; omega
      | false =>
        have e1 : (stepA c (false, out) r).1 = false := by simp [stepA, hle]
        have e2 : (stepA c (false, out) r).2.length ≤ out.length + 1 := by cases he : eqS r.1 c.key <;> simp [stepA, hle, he]
        rw [e1] at h2
        refine ⟨fun h => ?_, ?_, fun h => by cases h⟩
        · have := h1 h; simp only [List.length_cons]; omega
        · simp only [List.length_cons, Bool.false_eq_true, if_false] at h2 ⊢; omega
theorem apply1_len (l : List (ByteArray × ByteArray)) (c : Chg) : (apply1 l c).length ≤ l.length + 1 := by
  unfold apply1 endA
  obtain ⟨h1, h2, _⟩ := foldA_len c l (c.gone, [])
  split
  · refine Nat.le_trans h2 ?_
    simp only [List.length_nil]
    split <;> omega
  · rename_i h
    have := h1 (by simpa using h)
    simp at this ⊢
    omega
theorem appliedA_len : ∀ (cs : List Chg) (l : List (ByteArray × ByteArray)), (appliedA l cs).length ≤ l.length + cs.length
  | [], l => by simp [appliedA]
  | c :: cs, l => by
    have := appliedA_len cs (apply1 l c)
    have h := apply1_len l c
    simp only [appliedA, List.foldl_cons, List.length_cons] at this ⊢
    omega
theorem appliedA_take (l : List (ByteArray × ByteArray)) (cs : List Chg) (k : Nat) (hk : k < cs.length) : appliedA l (cs.take (k + 1)) = apply1 (appliedA l (cs.take k)) cs[k] := by
  unfold appliedA
  rw [List.take_succ_eq_append_getElem hk, List.foldl_append]; rfl
end Go.Proofs.YtighpalbodhfeaaGreatDoor

/-
  Plain facts of vacuums: what is read behind a deed, and later ones, of a row's versions is read of those that are kept; done twice it is done once; how many versions are kept.
-/
namespace Go.Proofs.YtighpalbodhfeaaGreatDoor
open Go.RowKit Go.Joins

theorem lastP_spec (vs : List Ver) (n : Int) : (lastP vs n = -1 ∧ ∀ x ∈ vs, n < x.deed) ∨ ∃ p : Nat, ∃ h : p < vs.length, lastP vs n = (p : Int) ∧ vs[p].deed ≤ n ∧ ∀ j (hj : j < vs.length), p < j → n < vs[j].deed := by
  unfold lastP
  cases hf : vs.reverse.findIdx? (fun x => decide (x.deed ≤ n)) with
  | none =>
    left
    refine ⟨rfl, fun x hx => ?_⟩
    have := List.findIdx?_eq_none_iff.1 hf x (by simpa using hx)
    simpa using this
  | some j =>
    right
    obtain ⟨hj, hp, hlt⟩ := List.findIdx?_eq_some_iff_getElem.1 hf
    have hj' : j < vs.length := by simpa using hj
    refine ⟨vs.length - 1 - j, by omega, by show (vs.length : Int) - 1 - (j : Int) = _; omega, ?_, fun i hi h => ?_⟩
    · rw [List.getElem_reverse] at hp; simpa using hp
    · have hi2 : vs.length - 1 - i < j := by omega
      have := hlt (vs.length - 1 - i) hi2
      rw [List.getElem_reverse] at this
      have e : vs.length - 1 - (vs.length - 1 - i) = i := by omega
      simp only [e] at this
      simpa using this
theorem lastP_at {vs : List Ver} {n : Int} {p : Nat} (h : p < vs.length) (h1 : vs[p].deed ≤ n) (h2 : ∀ j (hj : j < vs.length), p < j → n < vs[j].deed) : lastP vs n = (p : Int) := by
  rcases lastP_spec vs n with ⟨_, hn⟩ | ⟨q, hq, e, hq1, hq2⟩
  · have := hn _ (List.getElem_mem h); omega
  · rcases Nat.lt_trichotomy p q with k | k | k
    · have := h2 q hq k; omega
    · rw [e, k]
    · have := hq2 p h k; omega
theorem lastP_no {vs : List Ver} {n : Int} (h : ∀ x ∈ vs, n < x.deed) : lastP vs n = -1 := by
  rcases lastP_spec vs n with ⟨e, _⟩ | ⟨q, hq, _, hq1, _⟩
  · exact e
  · have := h _ (List.getElem_mem hq); omega
theorem lastV_app (a b : List Ver) (n : Int) : lastV (a ++ b) n = (lastV b n).or (lastV a n) := by
  unfold lastV
  rw [List.reverse_append, List.find?_append]
theorem lastV_none {l : List Ver} {n : Int} (h : ∀ x ∈ l, n < x.deed) : lastV l n = none := by
  unfold lastV
  rw [List.find?_eq_none]
  intro x hx
  have := h x (by simpa using hx)
  simp; omega
theorem lastV_last {l : List Ver} {x : Ver} {n : Int} (h : x.deed ≤ n) : lastV (l ++ [x]) n = some x := by
  rw [lastV_app]
  unfold lastV
  simp [h]
/-- the versions that are kept -/
def sinceV (vs : List Ver) (n : Int) : List Ver :=
  if lastP vs n < 0 then vs else if (vs[(lastP vs n).toNat]?.map (·.gone)).getD false then vs.drop ((lastP vs n).toNat + 1) else vs.drop (lastP vs n).toNat
theorem since_none {vs : List Ver} {n : Int} (h : lastP vs n = -1) : sinceV vs n = vs := by unfold sinceV; rw [h]; rfl
theorem since_some {vs : List Ver} {n : Int} {p : Nat} (h : p < vs.length) (e : lastP vs n = (p : Int)) : sinceV vs n = if vs[p].gone then vs.drop (p + 1) else vs.drop p := by
  unfold sinceV
  rw [e, if_neg (by omega), Int.toNat_natCast, List.getElem?_eq_getElem h]
  rfl
theorem behind_since {vs : List Ver} {n m : Int} (hm : n ≤ m) : behindV (sinceV vs n) m = behindV vs m := by
  rcases lastP_spec vs n with ⟨e, _⟩ | ⟨p, hp, e, h1, h2⟩
  · rw [since_none e]
  · rw [since_some hp e]
    by_cases hg : vs[p].gone = true
    · rw [if_pos hg]
      have hs : vs = (vs.take p ++ [vs[p]]) ++ vs.drop (p + 1) := by
        rw [← List.take_succ_eq_append_getElem hp, List.take_append_drop]
      have ha : lastV (vs.take p ++ [vs[p]]) m = some vs[p] := lastV_last (by omega)
      have hl : lastV vs m = (lastV (vs.drop (p + 1)) m).or (some vs[p]) := by
        conv => lhs; rw [hs]
        rw [lastV_app, ha]
      unfold behindV
      rw [hl]
      cases hb : lastV (vs.drop (p + 1)) m with
      | none => simp [hg]
      | some x => rfl
    · rw [if_neg hg]
      have hs : vs = vs.take p ++ vs.drop p := (List.take_append_drop p vs).symm
      have hl : lastV vs m = (lastV (vs.drop p) m).or (lastV (vs.take p) m) := by
        conv => lhs; rw [hs]
        rw [lastV_app]
      unfold behindV
      rw [hl]
      cases hb : lastV (vs.drop p) m with
      | none =>
        unfold lastV at hb
        rw [List.find?_eq_none] at hb
        have hi : vs[p] ∈ vs.drop p := by rw [List.drop_eq_getElem_cons hp]; exact List.mem_cons_self
        have := hb vs[p] (List.mem_reverse.2 hi)
        simp at this
        omega
      | some x => rfl
theorem since_twice (vs : List Ver) (n : Int) : sinceV (sinceV vs n) n = sinceV vs n := by
  rcases lastP_spec vs n with ⟨e, _⟩ | ⟨p, hp, e, h1, h2⟩
  · rw [since_none e, since_none e]
  · rw [since_some hp e]
    by_cases hg : vs[p].gone = true
    · rw [if_pos hg]
      refine since_none (lastP_no fun x hx => ?_)
      obtain ⟨i, hi, rfl⟩ := List.getElem_of_mem hx
      rw [List.getElem_drop]
      exact h2 _ _ (by omega)
    · rw [if_neg hg]
      have hl : 0 < (vs.drop p).length := by rw [List.length_drop]; omega
      have e0 : (vs.drop p)[0] = vs[p] := by rw [List.getElem_drop]; simp
      have e1 : lastP (vs.drop p) n = ((0 : Nat) : Int) := by
        refine lastP_at hl (by rw [e0]; exact h1) fun j hj h => ?_
        rw [List.getElem_drop]
        exact h2 _ _ (by omega)
      rw [since_some hl e1, e0, if_neg hg, List.drop_zero]
theorem since_len (vs : List Ver) (n : Int) : (sinceV vs n).length ≤ vs.length := by
  unfold sinceV
  split
  · exact Nat.le_refl _
  · split <;> simp
theorem since_nil (n : Int) : sinceV [] n = [] := since_none rfl
theorem since_mem {vs : List Ver} {n : Int} (h : sinceV vs n ≠ []) : vs ≠ [] := fun e => h (by rw [e]; exact since_nil n)
/-- how many versions there are of keys -/
def sumK (R : ByteArray → List Ver) (K : List ByteArray) : Nat := (K.map fun k => (R k).length).sum
theorem sumK_perm {R : ByteArray → List Ver} {K K' : List ByteArray} (h : K.Perm K') : sumK R K = sumK R K' := by
  unfold sumK
  induction h with
  | nil => rfl
  | cons x _ ih => rw [List.map_cons, List.map_cons, List.sum_cons, List.sum_cons, ih]
  | swap x y l => simp only [List.map_cons, List.sum_cons]; omega
  | trans _ _ ih1 ih2 => exact ih1.trans ih2
theorem sumK_le {R R' : ByteArray → List Ver} (h : ∀ k, (R' k).length ≤ (R k).length) : ∀ K : List ByteArray, sumK R' K ≤ sumK R K
  | [] => Nat.le_refl _
  | k :: K => by
    have := sumK_le h K
    have := h k
    unfold sumK at *
    simp only [List.map_cons, List.sum_cons]
    omega
theorem sumK_filter (R : ByteArray → List Ver) : ∀ K : List ByteArray, sumK R (K.filter fun k => decide (R k ≠ [])) = sumK R K
  | [] => rfl
  | k :: K => by
    have ih := sumK_filter R K
    unfold sumK at *
    by_cases e : R k = []
    · rw [List.filter_cons_of_neg (by simp [e]), List.map_cons, List.sum_cons, ih, e]; simp
    · rw [List.filter_cons_of_pos (by simp [e]), List.map_cons, List.sum_cons, List.map_cons, List.sum_cons, ih]
/-- the keys of which there is a version -/
def keysV (R : ByteArray → List Ver) (K : List ByteArray) : Prop := K.Nodup ∧ ∀ k, k ∈ K ↔ k.size ≤ maxLen ∧ R k ≠ []
theorem keysV_same {R : ByteArray → List Ver} {K K' : List ByteArray} (h : keysV R K) (h' : keysV R K') : sumK R K = sumK R K' :=
  sumK_perm ((List.perm_ext_iff_of_nodup h.1 h'.1).2 fun k => (h.2 k).trans (h'.2 k).symm)
def inK (K : List ByteArray) (key : ByteArray) : Bool := K.any fun y => decide (y = key)
theorem inK_iff (K : List ByteArray) (key : ByteArray) : inK K key = true ↔ key ∈ K := by simp [inK]
/-- rows of whose keys some have been gone over -/
def vacR (R : ByteArray → List Ver) (n : Int) (K : List ByteArray) : ByteArray → List Ver := fun key => if inK K key then sinceV (R key) n else R key
theorem vacR_nil (R : ByteArray → List Ver) (n : Int) : vacR R n [] = R := rfl
theorem vacR_in {R : ByteArray → List Ver} {n : Int} {K : List ByteArray} {key : ByteArray} (h : key ∈ K) : vacR R n K key = sinceV (R key) n := if_pos ((inK_iff K key).2 h)
theorem vacR_out {R : ByteArray → List Ver} {n : Int} {K : List ByteArray} {key : ByteArray} (h : key ∉ K) : vacR R n K key = R key := if_neg (fun e => h ((inK_iff K key).1 e))
theorem vacR_snoc (R : ByteArray → List Ver) (n : Int) (K : List ByteArray) (key : ByteArray) : vacR R n (K ++ [key]) = fun k => if k = key then sinceV (R key) n else vacR R n K k := by
  funext k
  by_cases e : k = key
  · subst e; rw [vacR_in (by simp)]; simp
  · show vacR R n (K ++ [key]) k = if k = key then sinceV (R key) n else vacR R n K k
    rw [if_neg e]
    by_cases h : k ∈ K
    · rw [vacR_in h, vacR_in (by simp [h])]
    · rw [vacR_out h, vacR_out (by simp [h, e])]
theorem behind_vac {R : ByteArray → List Ver} {n m : Int} (K : List ByteArray) (hm : n ≤ m) (key : ByteArray) : behindV (vacR R n K key) m = behindV (R key) m := by
  by_cases h : key ∈ K
  · rw [vacR_in h, behind_since hm]
  · rw [vacR_out h]
theorem vac_len (R : ByteArray → List Ver) (n : Int) (K : List ByteArray) (key : ByteArray) : (vacR R n K key).length ≤ (R key).length := by
  by_cases h : key ∈ K
  · rw [vacR_in h]; exact since_len _ _
  · rw [vacR_out h]; exact Nat.le_refl _
theorem vac_mem {R : ByteArray → List Ver} {n : Int} {K : List ByteArray} {key : ByteArray} (h : vacR R n K key ≠ []) : R key ≠ [] := fun e => h (by
  have := vac_len R n K key
  rw [e] at this
  exact List.length_eq_zero_iff.1 (by simpa using this))
theorem keysV_vac {R : ByteArray → List Ver} {L K K' : List ByteArray} {n : Int} (h : keysV R K) (h' : keysV (vacR R n L) K') : sumK (vacR R n L) K' ≤ sumK R K := by
  have hp : (K.filter fun k => decide (vacR R n L k ≠ [])).Perm K' := by
    rw [List.perm_ext_iff_of_nodup (h.1.filter _) h'.1]
    intro k
    rw [List.mem_filter, h.2 k, h'.2 k, decide_eq_true_iff]
    exact ⟨fun ⟨⟨a, _⟩, c⟩ => ⟨a, c⟩, fun ⟨a, c⟩ => ⟨⟨a, vac_mem c⟩, c⟩⟩
  rw [← sumK_perm hp, sumK_filter (vacR R n L) K]
  exact sumK_le (vac_len R n L) K
theorem vac_twice {R : ByteArray → List Ver} {K K1 : List ByteArray} {n : Int} (h : keysV R K) (h1 : keysV (vacR R n K) K1) : vacR (vacR R n K) n K1 = vacR R n K := by
  funext key
  by_cases hk : key ∈ K1
  · obtain ⟨a, c⟩ := (h1.2 key).1 hk
    have hk' : key ∈ K := (h.2 key).2 ⟨a, vac_mem c⟩
    rw [vacR_in hk, vacR_in hk', since_twice]
  · rw [vacR_out hk]
end Go.Proofs.YtighpalbodhfeaaGreatDoor
