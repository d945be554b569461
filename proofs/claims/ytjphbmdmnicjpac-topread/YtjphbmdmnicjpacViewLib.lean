/-
  What a view leans on: lists cloned, spans looked for among spans, changes found and put in rows of one's own.
-/
import Derived.Test.YtjphbmdmnicjpacViewMem
import Derived.Test.YtjphbmdmnicjpacShelfView
import Derived.Test.YtjphbmdmnicjpacChgFind
import Derived.Laws.StructEq
namespace Go.Proofs.Ytjphbmdmnicjpac
open Go.RowKit Go.Joins Go.Shelf Go.Lib Go.WideShapes

/-- changes of a row of one's own, cloned -/
theorem clone_own (l : List Chg) (v : Value) (B : Nat) (w : World) (h : ownCh w B v l) (hl : l.length ≤ 1000000) :
    Calls Try.prog 66 #[v] w fun e w' => ∃ v', e = .returned v' ∧ ownCh w' w.heap.size v' l ∧ Below w.heap.size w w' := by
  obtain ⟨i0, hi0, hz0, hz1, hz2⟩ := info_parts chg_facts
  rcases own_form h with ⟨rfl, h0⟩ | ⟨g, cap, rfl, _⟩
  · refine (AnyE.slices_Clone_nil Try.cloneC 0 0 w).mono ?_
    rintro e w' ⟨rfl, rfl⟩
    have e : l = [] := List.length_eq_zero_iff.1 h0
    subst e
    exact ⟨_, rfl, World.ownsRow_nil _ _ _ _, Below.refl _ _⟩
  · refine (AnyE.slices_Clone Try.cloneC i0 _ 3 40 hi0 hz0 hz1 hz2 rfl (by omega) Try.sizeOf29 g 0 l.length cap (cellsL l) w (cellsL_length l) (by unfold maxLen; omega) (by omega) (fun j u hj => ?_) (cellsL_one l)).mono ?_
    · have := World.ownsRow.cells h (g := g) rfl j u hj
      rw [add_plain] at this
      simpa using this
    · rintro e w' ⟨v', rfl, ho, _, hb⟩
      exact ⟨v', rfl, ho, hb⟩
theorem clone_sp (l : List (ByteArray × ByteArray)) (v : Value) (B : Nat) (w : World) (h : ownSp w B v l) (hl : l.length ≤ 1000000) :
    Calls Try.prog 77 #[v] w fun e w' => ∃ v', e = .returned v' ∧ ownSp w' w.heap.size v' l ∧ Below w.heap.size w w' := by
  obtain ⟨i0, hi0, hz0, hz1, hz2⟩ := info_parts span_info
  rcases own_form h with ⟨rfl, h0⟩ | ⟨g, cap, rfl, _⟩
  · refine (AnyE.slices_Clone_nil Try.cloneS 0 0 w).mono ?_
    rintro e w' ⟨rfl, rfl⟩
    have e : l = [] := List.length_eq_zero_iff.1 h0
    subst e
    exact ⟨_, rfl, World.ownsRow_nil _ _ _ _, Below.refl _ _⟩
  · refine (AnyE.slices_Clone Try.cloneS i0 _ 2 32 hi0 hz0 hz1 hz2 rfl (by omega) Try.sizeOf37 g 0 l.length cap (l.flatMap cellS) w (flat_len cellS 2 cellS_len l) (by unfold maxLen; omega) (by omega) (fun j u hj => ?_) (cellS_one l)).mono ?_
    · have := World.ownsRow.cells h (g := g) rfl j u hj
      rw [add_plain] at this
      simpa using this
    · rintro e w' ⟨v', rfl, ho, _, hb⟩
      exact ⟨v', rfl, ho, hb⟩
def eqSp (x y : ByteArray × ByteArray) : Bool := eqS x.1 y.1 && eqS x.2 y.2
theorem eqSp_iff (x y : ByteArray × ByteArray) : eqSp x y = true ↔ x = y := by
  unfold eqSp
  rw [Bool.and_eq_true, eqS_iff, eqS_iff]
  exact ⟨fun ⟨a, b⟩ => Prod.ext a b, fun e => by rw [e]; exact ⟨rfl, rfl⟩⟩
theorem eql_span : EqlAt Try.prog 37 (fun x => .agg (cellS x).toArray) eqSp := by
  refine ⟨fun x y w => ?_, GuardAt.agg _ (by kernel_rfl)⟩
  have u3 := Try.underlying9
  have a3 := Try.isAgg9
  have z3 := Try.sizeOf9
  have hS : Try.prog.underlying 37 = some (.struct (Try.prog.fieldsOf 37)) := by kernel_rfl
  have hp : Try.prog.stoodInHeld 37 = false := by kernel_rfl
  simp only [cellS]
  rw [run_eql_struct, show (10000 : Nat) = 9999 + 1 from rfl, run_equalIn_agg w 9999 37 _ _ hS hp]
  simp only [Program.fieldsOf, Try.underlying37]
  go_simp
  by_cases h1 : x.1.toList = y.1.toList <;> by_cases h2 : x.2.toList = y.2.toList <;> simp [eqSp, eqS, h1, h2]
/-- is a span among those? -/
def hasSp (l : List (ByteArray × ByteArray)) (s : ByteArray × ByteArray) : Bool := l.any fun y => eqSp s y
set_option maxHeartbeats 1000000 in
theorem index_bare (ao : Option Addr) (cap : Nat) (s : ByteArray × ByteArray) (w : World) :
    Calls Try.prog 132 #[.slice ao 0 cap, .agg #[.string s.1, .string s.2]] w fun e w' => e = .returned (.int .i64 (-1)) ∧ Below w.heap.size w w' := by
  go_enter Try.func132, Try.ntmps132
  go_wp2
  refine wp_loop_rounds 1 ?_
  rw [rounds_succ]
  go_wp2
  go_ret
  exact ⟨rfl, below_alloc1 _ _⟩
set_option maxHeartbeats 1000000 in
theorem contains_bare (ao : Option Addr) (cap : Nat) (s : ByteArray × ByteArray) (w : World) :
    Calls Try.prog 107 #[.slice ao 0 cap, .agg #[.string s.1, .string s.2]] w fun e w' => e = .returned (.bool false) ∧ Below w.heap.size w w' := by
  have hB := below_alloc1 w (Obj.cells #[Value.string s.1, Value.string s.2] 37)
  go_enter Try.func107, Try.ntmps107
  go_wp2_with (go_at_call 132; refine (index_bare _ _ s _).mono ?_; rintro e w1 ⟨rfl, hb⟩; replace hB := below_on hB (Nat.le_refl _) hb)
  go_ret
  exact ⟨rfl, hB⟩
theorem contains_sp (l : List (ByteArray × ByteArray)) (v : Value) (B : Nat) (s : ByteArray × ByteArray) (w : World) (h : ownSp w B v l) :
    Calls Try.prog 107 #[v, .agg #[.string s.1, .string s.2]] w fun e w' => e = .returned (.bool (hasSp l s)) ∧ Below w.heap.size w w' := by
  rcases own_form h with ⟨rfl, h0⟩ | ⟨g, cap, rfl, _, _, hc, hm⟩
  · have e : l = [] := List.length_eq_zero_iff.1 h0
    subst e
    exact contains_bare _ _ s w
  · have := AnyQ.slices_Contains Try.containsS 2 Try.isAgg37 Try.sizeOf37 cellS cellS_len eqSp eql_span g 0 l.length cap l s w (Nat.le_refl _) (by unfold maxLen at hm; omega) (fun j hj i u hu => ?_)
    · rw [List.take_length] at this
      exact this
    · have e : l[j]! = l[j] := by simp [hj]
      rw [e] at hu
      have hi : i < 2 := by
        rcases Nat.lt_or_ge i 2 with h' | h'
        · exact h'
        · rw [List.getElem?_eq_none (by rw [cellS_len]; exact h')] at hu; cases hu
      unfold ownSp at h
      have := (own_get cellS_len h j i hj hi).1
      rw [Nat.zero_add, this]; exact hu
theorem put_own (l : List Chg) (c : Chg) (v : Value) (B : Nat) (w : World) (h : ownCh w B v l) (hn : l.length ≤ 1000) :
    Calls Try.prog 101 #[v, .agg #[.string c.key, .string c.val, .bool c.gone]] w fun e w' => ∃ g cap, e = .returned (.slice (some ⟨g, 0, none⟩) (insL l c).length cap) ∧ ownCh w' w.heap.size (.slice (some ⟨g, 0, none⟩) (insL l c).length cap) (insL l c) ∧ Below w.heap.size w w' := by
  have fin : ∀ {w' : World} {u : Value}, ownCh w' w.heap.size u (insL l c) → ∃ g cap, u = .slice (some ⟨g, 0, none⟩) (insL l c).length cap := fun ho => by
    obtain ⟨g, cap, e, _⟩ := own_chgs ho (ins_some l c)
    exact ⟨g, cap, e⟩
  rcases own_form h with ⟨rfl, h0⟩ | ⟨g, cap, rfl, _, _, hc, hm⟩
  · have e : l = [] := List.length_eq_zero_iff.1 h0
    subst e
    refine (put_nil c w).mono ?_
    rintro e w' ⟨u, rfl, ho, hb⟩
    obtain ⟨g, cap, rfl⟩ := fin (u := u) ho
    exact ⟨g, cap, rfl, ho, hb⟩
  · have hch : chgsAt w g 0 l := chgs_of_cells l 0 fun j u hj => by
      have := World.ownsRow.cells h (g := g) rfl j u hj
      rwa [add_plain] at this
    refine (put_some l g 0 cap c w hch hc (by unfold maxLen at hm; omega) hn).mono ?_
    rintro e w' ⟨u, rfl, ho, hb⟩
    rw [putL_ins] at ho
    obtain ⟨g2, cap2, rfl⟩ := fin (u := u) ho
    exact ⟨g2, cap2, rfl, ho, hb⟩
/-- the change of a key, if there is one -/
def findC (l : List Chg) (key : ByteArray) : Option Chg := if foundL l key then l[placeL l key]? else none
theorem find_own (l : List Chg) (v : Value) (B : Nat) (key : ByteArray) (w : World) (h : ownCh w B v l) (hn : l.length ≤ 1000) :
    Calls Try.prog 69 #[v, .string key] w fun e w' => (match findC l key with
      | some c => e = .returned (.tuple #[.agg #[.string c.key, .string c.val, .bool c.gone], .bool true])
      | none => e = .returned (.tuple #[.agg #[.string ⟨#[]⟩, .string ⟨#[]⟩, .bool false], .bool false])) ∧ Below w.heap.size w w' := by
  rcases own_form h with ⟨rfl, h0⟩ | ⟨g, cap, rfl, _, _, hc, hm⟩
  · have e : l = [] := List.length_eq_zero_iff.1 h0
    subst e
    exact find_bare none 0 key w
  · have hch : chgsAt w g 0 l := chgs_of_cells l 0 fun j u hj => by
      have := World.ownsRow.cells h (g := g) rfl j u hj
      rwa [add_plain] at this
    unfold findC
    cases hf : foundL l key with
    | false => exact find_none l g 0 cap key w hch hn hf
    | true =>
      have hlt : placeL l key < l.length := by
        rcases Nat.lt_or_ge (placeL l key) l.length with k | k
        · exact k
        · rw [foundL, List.getElem?_eq_none k] at hf; cases hf
      rw [if_pos rfl, List.getElem?_eq_getElem hlt]
      exact find_some l g 0 cap key w hch hn _ rfl hf hlt
end Go.Proofs.Ytjphbmdmnicjpac
