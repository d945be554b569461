/-
  What change.Find returns where there is none.
-/
import Derived.Test.YtpbhcjkllfonhaaGreatChgPut
import Derived.Test.YtpbhcjkllfonhaaGreatVerLast2
import Derived.Test.YtpbhcjkllfonhaaGreatShelfView
import Derived.Laws.StructEq
import Derived.Test.YtpbhcjkllfonhaaGreatStr
import Derived.Lib.Strings
import Derived.Lib.IndexBytes
namespace Go.Proofs.YtpbhcjkllfonhaaGreat
open Go.RowKit Go.Joins

set_option maxHeartbeats 1000000 in
theorem find_none (l : List Chg) (b off cap : Nat) (key : ByteArray) (w : World) (hl : chgsAt w b off l) (hn : l.length ≤ 1000) (hf : foundL l key = false) :
    Calls Tryz.prog 42 #[.slice (some ⟨b, off, none⟩) l.length cap, .string key] w fun e w' =>
      e = .returned (.tuple #[.agg #[.string ⟨#[]⟩, .string ⟨#[]⟩, .bool false], .bool false]) ∧ Below w.heap.size w w' := by
  have hB := below_alloc1 w (Obj.cells #[Value.string ⟨#[]⟩, Value.string ⟨#[]⟩, Value.bool false] 46)
  have fz := frozen_new w #[Value.string ⟨#[]⟩, Value.string ⟨#[]⟩, Value.bool false] 46
  have r0 : (w.alloc (Obj.cells #[Value.string ⟨#[]⟩, Value.string ⟨#[]⟩, Value.bool false] 46)).cell? ⟨w.heap.size, 0, none⟩ = some (.string ⟨#[]⟩) := by simp
  have r1 : (w.alloc (Obj.cells #[Value.string ⟨#[]⟩, Value.string ⟨#[]⟩, Value.bool false] 46)).cell? ⟨w.heap.size, 1, none⟩ = some (.string ⟨#[]⟩) := by simp
  have r2 : (w.alloc (Obj.cells #[Value.string ⟨#[]⟩, Value.string ⟨#[]⟩, Value.bool false] 46)).cell? ⟨w.heap.size, 2, none⟩ = some (.bool false) := by simp
  have h0 : w.heap.size < (w.alloc (Obj.cells #[Value.string ⟨#[]⟩, Value.string ⟨#[]⟩, Value.bool false] 46)).heap.size := by simp
  have HP := fun w' (h : Below w.heap.size w w') => hide (place_some l b off cap key w' (chgsAt_on h hl) (by omega))
  rw [hf] at HP
  clear hf
  generalize placeL l key = p at HP
  go_enter Tryz.func42, Tryz.ntmps42
  go_wp2_with fail
  refine ((HP _ hB).out).mono ?_
  rintro e w1 ⟨rfl, hb⟩
  replace hB := below_on hB (Nat.le_refl _) hb
  replace fz := fun j => frozen_on hb h0 (fz j)
  replace r0 := cell_on hb r0
  replace r1 := cell_on hb r1
  replace r2 := cell_on hb r2
  clear hb h0
  go_wp2
  exact bodyPost_ret (v := .tuple #[.agg #[.string ⟨#[]⟩, .string ⟨#[]⟩, .bool false], .bool false]) (by simp [results, Tryz.results42, go_sem, r0, r1, r2]) rfl ⟨rfl, ((hB.setCell (Nat.le_refl _) _).setCell (Nat.le_refl _) _).setCell (Nat.le_refl _) _⟩

set_option maxHeartbeats 1000000 in
theorem find_bare (ao : Option Addr) (cap : Nat) (key : ByteArray) (w : World) :
    Calls Tryz.prog 42 #[.slice ao 0 cap, .string key] w fun e w' =>
      e = .returned (.tuple #[.agg #[.string ⟨#[]⟩, .string ⟨#[]⟩, .bool false], .bool false]) ∧ Below w.heap.size w w' := by
  have hB := below_alloc1 w (Obj.cells #[Value.string ⟨#[]⟩, Value.string ⟨#[]⟩, Value.bool false] 46)
  have fz := frozen_new w #[Value.string ⟨#[]⟩, Value.string ⟨#[]⟩, Value.bool false] 46
  have r0 : (w.alloc (Obj.cells #[Value.string ⟨#[]⟩, Value.string ⟨#[]⟩, Value.bool false] 46)).cell? ⟨w.heap.size, 0, none⟩ = some (.string ⟨#[]⟩) := by simp
  have r1 : (w.alloc (Obj.cells #[Value.string ⟨#[]⟩, Value.string ⟨#[]⟩, Value.bool false] 46)).cell? ⟨w.heap.size, 1, none⟩ = some (.string ⟨#[]⟩) := by simp
  have r2 : (w.alloc (Obj.cells #[Value.string ⟨#[]⟩, Value.string ⟨#[]⟩, Value.bool false] 46)).cell? ⟨w.heap.size, 2, none⟩ = some (.bool false) := by simp
  have h0 : w.heap.size < (w.alloc (Obj.cells #[Value.string ⟨#[]⟩, Value.string ⟨#[]⟩, Value.bool false] 46)).heap.size := by simp
  have HP := fun w' (_ : True) => hide (place_nil ao cap key w')
  go_enter Tryz.func42, Tryz.ntmps42
  go_wp2_with fail
  refine ((HP _ trivial).out).mono ?_
  rintro e w1 ⟨rfl, hb⟩
  replace hB := below_on hB (Nat.le_refl _) hb
  replace fz := fun j => frozen_on hb h0 (fz j)
  replace r0 := cell_on hb r0
  replace r1 := cell_on hb r1
  replace r2 := cell_on hb r2
  clear hb h0
  go_wp2
  exact bodyPost_ret (v := .tuple #[.agg #[.string ⟨#[]⟩, .string ⟨#[]⟩, .bool false], .bool false]) (by simp [results, Tryz.results42, go_sem, r0, r1, r2]) rfl ⟨rfl, ((hB.setCell (Nat.le_refl _) _).setCell (Nat.le_refl _) _).setCell (Nat.le_refl _) _⟩
end Go.Proofs.YtpbhcjkllfonhaaGreat

/-
  What a view leans on: lists cloned, spans looked for among spans, changes found and put in rows of one's own.
-/
namespace Go.Proofs.YtpbhcjkllfonhaaGreat
open Go.RowKit Go.Joins Go.Shelf Go.Lib Go.WideShapes

/-- changes of a row of one's own, cloned -/
theorem clone_own (l : List Chg) (v : Value) (B : Nat) (w : World) (h : ownCh w B v l) (hl : l.length ≤ 1000000) :
    Calls Tryz.prog 40 #[v] w fun e w' => ∃ v', e = .returned v' ∧ ownCh w' w.heap.size v' l ∧ Below w.heap.size w w' := by
  obtain ⟨i0, hi0, hz0, hz1, hz2⟩ := info_parts chg_facts
  rcases own_form h with ⟨rfl, h0⟩ | ⟨g, cap, rfl, _⟩
  · refine (AnyE.slices_Clone_nil Tryz.cloneC 0 0 w).mono ?_
    rintro e w' ⟨rfl, rfl⟩
    have e : l = [] := List.length_eq_zero_iff.1 h0
    subst e
    exact ⟨_, rfl, World.ownsRow_nil _ _ _ _, Below.refl _ _⟩
  · refine (AnyE.slices_Clone Tryz.cloneC i0 _ 3 40 hi0 hz0 hz1 hz2 rfl (by omega) Tryz.sizeOf46 g 0 l.length cap (cellsL l) w (cellsL_length l) (by unfold maxLen; omega) (by omega) (fun j u hj => ?_) (cellsL_one l)).mono ?_
    · have := World.ownsRow.cells h (g := g) rfl j u hj
      rw [add_plain] at this
      simpa using this
    · rintro e w' ⟨v', rfl, ho, _, hb⟩
      exact ⟨v', rfl, ho, hb⟩
theorem clone_sp (l : List (ByteArray × ByteArray)) (v : Value) (B : Nat) (w : World) (h : ownSp w B v l) (hl : l.length ≤ 1000000) :
    Calls Tryz.prog 48 #[v] w fun e w' => ∃ v', e = .returned v' ∧ ownSp w' w.heap.size v' l ∧ Below w.heap.size w w' := by
  obtain ⟨i0, hi0, hz0, hz1, hz2⟩ := info_parts span_info
  rcases own_form h with ⟨rfl, h0⟩ | ⟨g, cap, rfl, _⟩
  · refine (AnyE.slices_Clone_nil Tryz.cloneS 0 0 w).mono ?_
    rintro e w' ⟨rfl, rfl⟩
    have e : l = [] := List.length_eq_zero_iff.1 h0
    subst e
    exact ⟨_, rfl, World.ownsRow_nil _ _ _ _, Below.refl _ _⟩
  · refine (AnyE.slices_Clone Tryz.cloneS i0 _ 2 32 hi0 hz0 hz1 hz2 rfl (by omega) Tryz.sizeOf49 g 0 l.length cap (l.flatMap cellS) w (flat_len cellS 2 cellS_len l) (by unfold maxLen; omega) (by omega) (fun j u hj => ?_) (cellS_one l)).mono ?_
    · have := World.ownsRow.cells h (g := g) rfl j u hj
      rw [add_plain] at this
      simpa using this
    · rintro e w' ⟨v', rfl, ho, _, hb⟩
      exact ⟨v', rfl, ho, hb⟩
def eqSp (x y : ByteArray × ByteArray) : Bool := eqS x.1 y.1 && eqS x.2 y.2
theorem eqSp_iff (x y : ByteArray × ByteArray) : eqSp x y = true ↔ x = y := by
  unfold eqSp
  rw [Bool.and_eq_true, eqS_iff, eqS_iff]
  exact ⟨fun ⟨a, b⟩ => Prod.ext a b, fun e => by rw [e]; exact ⟨rfl, rfl⟩⟩
theorem eql_span : EqlAt Tryz.prog 49 (fun x => .agg (cellS x).toArray) eqSp := by
  refine ⟨fun x y w => ?_, GuardAt.agg _ (by kernel_rfl)⟩
  have u3 := Tryz.underlying9
  have a3 := Tryz.isAgg9
  have z3 := Tryz.sizeOf9
  have hS : Tryz.prog.underlying 49 = some (.struct (Tryz.prog.fieldsOf 49)) := by kernel_rfl
  have hp : Tryz.prog.stoodInHeld 49 = false := by kernel_rfl
  simp only [cellS]
  rw [run_eql_struct, show (10000 : Nat) = 9999 + 1 from rfl, run_equalIn_agg w 9999 49 _ _ hS hp]
  simp only [Program.fieldsOf, Tryz.underlying49]
  go_simp
  by_cases h1 : x.1.toList = y.1.toList <;> by_cases h2 : x.2.toList = y.2.toList <;> simp [eqSp, eqS, h1, h2]
/-- is a span among those? -/
def hasSp (l : List (ByteArray × ByteArray)) (s : ByteArray × ByteArray) : Bool := l.any fun y => eqSp s y
set_option maxHeartbeats 1000000 in
theorem index_bare (ao : Option Addr) (cap : Nat) (s : ByteArray × ByteArray) (w : World) :
    Calls Tryz.prog 69 #[.slice ao 0 cap, .agg #[.string s.1, .string s.2]] w fun e w' => e = .returned (.int .i64 (-1)) ∧ Below w.heap.size w w' := by
  go_enter Tryz.func69, Tryz.ntmps69
  go_wp2
  refine wp_loop_rounds 1 ?_
  rw [rounds_succ]
  go_wp2
  go_ret
  exact ⟨rfl, below_alloc1 _ _⟩
set_option maxHeartbeats 1000000 in
theorem contains_bare (ao : Option Addr) (cap : Nat) (s : ByteArray × ByteArray) (w : World) :
    Calls Tryz.prog 56 #[.slice ao 0 cap, .agg #[.string s.1, .string s.2]] w fun e w' => e = .returned (.bool false) ∧ Below w.heap.size w w' := by
  have hB := below_alloc1 w (Obj.cells #[Value.string s.1, Value.string s.2] 49)
  go_enter Tryz.func56, Tryz.ntmps56
  go_wp2_with (go_at_call 69; refine (index_bare _ _ s _).mono ?_; rintro e w1 ⟨rfl, hb⟩; replace hB := below_on hB (Nat.le_refl _) hb)
  go_ret
  exact ⟨rfl, hB⟩
theorem contains_sp (l : List (ByteArray × ByteArray)) (v : Value) (B : Nat) (s : ByteArray × ByteArray) (w : World) (h : ownSp w B v l) :
    Calls Tryz.prog 56 #[v, .agg #[.string s.1, .string s.2]] w fun e w' => e = .returned (.bool (hasSp l s)) ∧ Below w.heap.size w w' := by
  rcases own_form h with ⟨rfl, h0⟩ | ⟨g, cap, rfl, _, _, hc, hm⟩
  · have e : l = [] := List.length_eq_zero_iff.1 h0
    subst e
    exact contains_bare _ _ s w
  · have := AnyQ.slices_Contains Tryz.containsS 2 Tryz.isAgg49 Tryz.sizeOf49 cellS cellS_len eqSp eql_span g 0 l.length cap l s w (Nat.le_refl _) (by unfold maxLen at hm; omega) (fun j hj i u hu => ?_)
    · rw [List.take_length] at this
      exact this
    · have e : l[j]! = l[j] := by simp [hj]
      rw [e] at hu
      have hi : i < 2 := by
        rcases Nat.lt_or_ge i 2 with h' | h'
        · exact h'
        · rw [List.getElem?_eq_none (by rw [cellS_len]; exact h')] at hu; cases hu
      unfold ownSp at h
      have := (own_get cellS_len h j i hj hi).1
      rw [Nat.zero_add, this]; exact hu
theorem put_own (l : List Chg) (c : Chg) (v : Value) (B : Nat) (w : World) (h : ownCh w B v l) (hn : l.length ≤ 1000) :
    Calls Tryz.prog 51 #[v, .agg #[.string c.key, .string c.val, .bool c.gone]] w fun e w' => ∃ g cap, e = .returned (.slice (some ⟨g, 0, none⟩) (insL l c).length cap) ∧ ownCh w' w.heap.size (.slice (some ⟨g, 0, none⟩) (insL l c).length cap) (insL l c) ∧ Below w.heap.size w w' := by
  have fin : ∀ {w' : World} {u : Value}, ownCh w' w.heap.size u (insL l c) → ∃ g cap, u = .slice (some ⟨g, 0, none⟩) (insL l c).length cap := fun ho => by
    obtain ⟨g, cap, e, _⟩ := own_chgs ho (ins_some l c)
    exact ⟨g, cap, e⟩
  rcases own_form h with ⟨rfl, h0⟩ | ⟨g, cap, rfl, _, _, hc, hm⟩
  · have e : l = [] := List.length_eq_zero_iff.1 h0
    subst e
    refine (put_nil c w).mono ?_
    rintro e w' ⟨u, rfl, ho, hb⟩
    obtain ⟨g, cap, rfl⟩ := fin (u := u) ho
    exact ⟨g, cap, rfl, ho, hb⟩
  · have hch : chgsAt w g 0 l := chgs_of_cells l 0 fun j u hj => by
      have := World.ownsRow.cells h (g := g) rfl j u hj
      rwa [add_plain] at this
    refine (put_some l g 0 cap c w hch hc (by unfold maxLen at hm; omega) hn).mono ?_
    rintro e w' ⟨u, rfl, ho, hb⟩
    rw [putL_ins] at ho
    obtain ⟨g2, cap2, rfl⟩ := fin (u := u) ho
    exact ⟨g2, cap2, rfl, ho, hb⟩
/-- the change of a key, if there is one -/
def findC (l : List Chg) (key : ByteArray) : Option Chg := if foundL l key then l[placeL l key]? else none
theorem find_own (l : List Chg) (v : Value) (B : Nat) (key : ByteArray) (w : World) (h : ownCh w B v l) (hn : l.length ≤ 1000) :
    Calls Tryz.prog 42 #[v, .string key] w fun e w' => (match findC l key with
      | some c => e = .returned (.tuple #[.agg #[.string c.key, .string c.val, .bool c.gone], .bool true])
      | none => e = .returned (.tuple #[.agg #[.string ⟨#[]⟩, .string ⟨#[]⟩, .bool false], .bool false])) ∧ Below w.heap.size w w' := by
  rcases own_form h with ⟨rfl, h0⟩ | ⟨g, cap, rfl, _, _, hc, hm⟩
  · have e : l = [] := List.length_eq_zero_iff.1 h0
    subst e
    exact find_bare none 0 key w
  · have hch : chgsAt w g 0 l := chgs_of_cells l 0 fun j u hj => by
      have := World.ownsRow.cells h (g := g) rfl j u hj
      rwa [add_plain] at this
    unfold findC
    cases hf : foundL l key with
    | false => exact find_none l g 0 cap key w hch hn hf
    | true =>
      have hlt : placeL l key < l.length := by
        rcases Nat.lt_or_ge (placeL l key) l.length with k | k
        · exact k
        · rw [foundL, List.getElem?_eq_none k] at hf; cases hf
      rw [if_pos rfl, List.getElem?_eq_getElem hlt]
      exact find_some l g 0 cap key w hch hn _ rfl hf hlt
end Go.Proofs.YtpbhcjkllfonhaaGreat

/-
  Plain facts on names and keys of rows as lists of bytes. Nothing of the program is named here.
-/
namespace Go.Proofs.YtpbhcjkllfonhaaGreat

def isLet (c : UInt8) : Bool := decide (97 ≤ c.toNat) && decide (c.toNat ≤ 122)
def isDig (c : UInt8) : Bool := decide (48 ≤ c.toNat) && decide (c.toNat ≤ 57)
/-- may this byte stand at this place of a name? -/
def nameAt (i : Nat) (c : UInt8) : Bool := isLet c || (decide (i ≠ 0) && isDig c)
def nameTo (l : List UInt8) (k : Nat) : Bool := (List.range k).all fun i => nameAt i (l.getD i 0)
def nameL (l : List UInt8) : Bool := decide (1 ≤ l.length) && decide (l.length ≤ 6) && nameTo l l.length
def digTo (l : List UInt8) (k : Nat) : Bool := (List.range k).all fun i => isDig (l.getD i 0)
def sixL (l : List UInt8) : Bool := decide (l.length = 6) && digTo l l.length

def namedL (k head : List UInt8) : Bool := Lib.hasPrefix k head && nameL (Lib.trimPrefix k head)
def messageOf (r : List UInt8) (i : Int) : Bool := decide (0 ≤ i) && (nameL (r.take i.toNat) && sixL (r.drop (i.toNat + 1)))
def messageL (k : List UInt8) : Bool := Lib.hasPrefix k [109, 47] && messageOf (Lib.trimPrefix k [109, 47]) (Lib.indexByte (Lib.trimPrefix k [109, 47]) 47)
def keyL (k : List UInt8) : Bool := namedL k [116, 47] || (namedL k [113, 47] || messageL k)

theorem nameTo_succ (l : List UInt8) (k : Nat) : nameTo l (k + 1) = (nameTo l k && nameAt k (l.getD k 0)) := by
  simp [nameTo, List.range_succ]
theorem digTo_succ (l : List UInt8) (k : Nat) : digTo l (k + 1) = (digTo l k && isDig (l.getD k 0)) := by
  simp [digTo, List.range_succ]
theorem nameTo_le {l : List UInt8} {k n : Nat} (h : k ≤ n) (hn : nameTo l k = false) : nameTo l n = false := by
  rw [nameTo, List.all_eq_false] at *
  obtain ⟨i, hi, h2⟩ := hn
  exact ⟨i, List.mem_range.2 (Nat.lt_of_lt_of_le (List.mem_range.1 hi) h), h2⟩
theorem digTo_le {l : List UInt8} {k n : Nat} (h : k ≤ n) (hn : digTo l k = false) : digTo l n = false := by
  rw [digTo, List.all_eq_false] at *
  obtain ⟨i, hi, h2⟩ := hn
  exact ⟨i, List.mem_range.2 (Nat.lt_of_lt_of_le (List.mem_range.1 hi) h), h2⟩
theorem byte_at (s : ByteArray) (k : Nat) (h : k < s.size) : s.data.toList.getD k 0 = s[k] := by
  rw [List.getD_eq_getElem?_getD, List.getElem?_eq_getElem (by simpa using h)]
  rfl
theorem len_data (s : ByteArray) : s.data.toList.length = s.size := by simp
end Go.Proofs.YtpbhcjkllfonhaaGreat

/-
  What package row's functions on names and digits return (isLetter, isDigit, Name, isNumber), for every text; they change nothing.
-/
namespace Go.Proofs.YtpbhcjkllfonhaaGreat
open Go.RowKit Go.Joins

set_option maxHeartbeats 400000 in
theorem isLetter_any (c : UInt8) (w : World) :
    Calls Tryz.prog 86 #[.int .u8 c.toNat] w fun e w' => e = .returned (.bool (isLet c)) ∧ w' = w := by
  go_enter Tryz.func86, Tryz.ntmps86
  go_wp2
  all_goals
    go_ret
    refine ⟨ret_bool ?_, rfl⟩
    simp only [isLet]
    first | (rw [Bool.eq_iff_iff]; simp; omega) | (simp; omega)

set_option maxHeartbeats 400000 in
theorem isDigit_any (c : UInt8) (w : World) :
    Calls Tryz.prog 87 #[.int .u8 c.toNat] w fun e w' => e = .returned (.bool (isDig c)) ∧ w' = w := by
  go_enter Tryz.func87, Tryz.ntmps87
  go_wp2
  all_goals
    go_ret
    refine ⟨ret_bool ?_, rfl⟩
    simp only [isDig]
    first | (rw [Bool.eq_iff_iff]; simp; omega) | (simp; omega)

set_option maxHeartbeats 1000000 in
theorem isNumber_any (s : ByteArray) (w : World) :
    Calls Tryz.prog 73 #[.string s] w fun e w' => e = .returned (.bool (sixL s.data.toList)) ∧ w' = w := by
  by_cases h6 : s.size = 6
  · have hg : ((s.size : Int) != 6) = false := by rw [h6]; rfl
    go_enter Tryz.func73, Tryz.ntmps73
    go_wp2
    go_loop [9] (fun i => ∃ k : Nat, k ≤ s.size ∧ i = .int .i64 k ∧ digTo s.data.toList k = true) (fun i => s.size - (intOf i).toNat)
    case atStart => exact ⟨0, Nat.zero_le _, rfl, rfl⟩
    case round =>
      obtain ⟨k, hk, rfl, hd⟩ := hrel
      have HD := hide hd
      clear hd
      by_cases hlt : k < s.size
      · have HS := hide (digTo_succ s.data.toList k)
        have HB := hide (byte_at s k hlt)
        cases hc : isDig s[k] with
        | true =>
          go_wp2_with (go_at_call 87; refine (isDigit_any _ _).mono ?_; rintro e w' ⟨rfl, rfl⟩)
          go_round
          case rel => exact ⟨k + 1, by omega, by go_num, by rw [HS.out, HD.out, HB.out, hc]; rfl⟩
          case measure => simp [intOf]; omega
        | false =>
          go_wp2_with (go_at_call 87; refine (isDigit_any _ _).mono ?_; rintro e w' ⟨rfl, rfl⟩)
          go_ret
          refine ⟨ret_bool ?_, rfl⟩
          rw [sixL, len_data, digTo_le (k := k + 1) (by omega) (by rw [HS.out, HB.out, hc, Bool.and_false]), Bool.and_false]
      · go_wp2
        go_ret
        refine ⟨ret_bool ?_, rfl⟩
        have e : k = s.size := by omega
        have := HD.out
        rw [e] at this
        rw [sixL, len_data, this]; simp [h6]
  · have hg : ((s.size : Int) != 6) = true := by rw [bne_iff_ne]; omega
    go_enter Tryz.func73, Tryz.ntmps73
    go_wp2
    go_ret
    exact ⟨ret_bool (by simp [sixL, h6]), rfl⟩

set_option maxHeartbeats 2000000 in
theorem name_any (s : ByteArray) (w : World) :
    Calls Tryz.prog 71 #[.string s] w fun e w' => e = .returned (.bool (nameL s.data.toList)) ∧ w' = w := by
  by_cases h1 : 1 ≤ s.size
  · by_cases h6 : s.size ≤ 6
    · go_enter Tryz.func71, Tryz.ntmps71
      go_wp2
      go_loop [14] (fun i => ∃ k : Nat, k ≤ s.size ∧ i = .int .i64 k ∧ nameTo s.data.toList k = true) (fun i => s.size - (intOf i).toNat)
      case atStart => exact ⟨0, Nat.zero_le _, rfl, rfl⟩
      case round =>
        obtain ⟨k, hk, rfl, hd⟩ := hrel
        have HD := hide hd
        clear hd
        by_cases hlt : k < s.size
        · have HS := hide (nameTo_succ s.data.toList k)
          have HB := hide (byte_at s k hlt)
          have yes : nameAt k s[k] = true → nameTo s.data.toList (k + 1) = true := fun h => by rw [HS.out, HD.out, HB.out, h]; rfl
          have no : nameAt k s[k] = false → nameL s.data.toList = false := fun h => by
            rw [nameL, len_data, nameTo_le (k := k + 1) (by omega) (by rw [HS.out, HB.out, h, Bool.and_false]), Bool.and_false]
          have HY := hide yes
          have HN := hide no
          clear yes no
          cases hc : isLet s[k] with
          | true =>
            go_wp2_with (first | (go_at_call 86; refine (isLetter_any _ _).mono ?_; rintro e w' ⟨rfl, rfl⟩) | (go_at_call 87; refine (isDigit_any _ _).mono ?_; rintro e w' ⟨rfl, rfl⟩))
            go_round
            case rel => exact ⟨k + 1, by omega, by go_num, HY.out (by simp [nameAt, hc])⟩
            case measure => simp [intOf]; omega
          | false =>
            by_cases h0 : k = 0
            · subst h0
              go_wp2_with (first | (go_at_call 86; refine (isLetter_any _ _).mono ?_; rintro e w' ⟨rfl, rfl⟩) | (go_at_call 87; refine (isDigit_any _ _).mono ?_; rintro e w' ⟨rfl, rfl⟩))
              go_ret
              exact ⟨ret_bool (HN.out (by simp [nameAt, hc])).symm, rfl⟩
            · have hk0 : ((k : Int) == 0) = false := beq_eq_false_iff_ne.2 (by omega)
              cases hd : isDig s[k] with
              | true =>
                go_wp2_with (first | (go_at_call 86; refine (isLetter_any _ _).mono ?_; rintro e w' ⟨rfl, rfl⟩) | (go_at_call 87; refine (isDigit_any _ _).mono ?_; rintro e w' ⟨rfl, rfl⟩))
                go_round
                case rel => exact ⟨k + 1, by omega, by go_num, HY.out (by simp [nameAt, hd, h0])⟩
                case measure => simp [intOf]; omega
              | false =>
                go_wp2_with (first | (go_at_call 86; refine (isLetter_any _ _).mono ?_; rintro e w' ⟨rfl, rfl⟩) | (go_at_call 87; refine (isDigit_any _ _).mono ?_; rintro e w' ⟨rfl, rfl⟩))
                go_ret
                exact ⟨ret_bool (HN.out (by simp [nameAt, hc, hd])).symm, rfl⟩
        · go_wp2
          go_ret
          refine ⟨ret_bool ?_, rfl⟩
          have e : k = s.size := by omega
          have := HD.out
          rw [e] at this
          rw [nameL, len_data, this]; simp [h1, h6]
    · go_enter Tryz.func71, Tryz.ntmps71
      go_wp2
      go_ret
      exact ⟨ret_bool (by simp [nameL, h6]), rfl⟩
  · go_enter Tryz.func71, Tryz.ntmps71
    go_wp2
    go_ret
    exact ⟨ret_bool (by simp [nameL]; omega), rfl⟩
end Go.Proofs.YtpbhcjkllfonhaaGreat
