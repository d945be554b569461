/-
  What haywainref.Has returns: the same as span.Has, for every span and key; nothing that was there is changed.
-/
import Derived.Test.YtpbhcjkllfonhaaGreatStr
import Derived.OwnWalk
import Derived.Test.YtpbhcjkllfonhaaGreatVerRows
namespace Go.Proofs.YtpbhcjkllfonhaaGreat
open Go.RowKit Go.Joins

set_option maxHeartbeats 400000 in
theorem rhas_any (f t k : ByteArray) (w : World) :
    Calls Tryz.prog 57 #[.agg #[.string f, .string t], .string k] w fun e w' => e = .returned (.bool (hasS f t k)) ∧ Below w.heap.size w w' := by
  go_enter Tryz.func57, Tryz.ntmps57
  go_wp2
  all_goals
    go_ret
    refine ⟨?_, below_alloc1 _ _⟩
    simp_all [hasS, leS, ltS, nilS]

theorem remptyS (f t : ByteArray) : emptyS f t = (!t.toList.isEmpty && !Op.bytesLess f.toList t.toList) := by
  unfold emptyS; rw [leS_not]; rfl
end Go.Proofs.YtpbhcjkllfonhaaGreat

/-
  One element appended to a row of one's own, as a step of a walk: the element was laid in a new block first. Nothing of the program is named here.
-/
namespace Go.Proofs.YtpbhcjkllfonhaaGreat
open Go.RowKit Go.Joins Go.WideShapes

theorem wp_append1 {P : Program} {ops : Array Oper} {rest : List Oper} {o : Oper} {a : Act} {Q : Exit → Act → World → Prop} (hgd : o.guard = none) (s x : Operand) (t : TypeId)
    (ho : o.op = .call { callee := .builtin .append, args := #[s, x], argTypes := #[t, t] })
    (base : Nat) (e : TypeId) (i : TypeInfo) (z : Value) (size bytes : Nat) (ht : P.underlying t = some (.slice e)) (hi : P.info? e = some i) (hz : i.zero = some z)
    (hsize : i.size = size) (hby : i.bytes = bytes) (hzs : z.cells.size = size) (hsz : 0 < size) (W : World) (C : List Value) (hC : C.length = size) (h1 : ∀ u ∈ C, u.oneCell' = true)
    (v : Value) (n : Nat) (xs : List Value) (hown : W.ownsRow base e size v n xs) (hs : a.eval s = v) (hx : a.eval x = .slice (some ⟨W.heap.size, 0, none⟩) 1 1)
    (hn : n ≤ 1000000) (hb : bytes ≤ 1000) (hbase : base ≤ W.heap.size)
    (h : ∀ v' w', w'.ownsRow base e size v' (n + 1) (xs ++ C) → (∀ w0, Below base w0 W → Below base w0 w') → wpList P ops Q rest (a.put o.dst v') w') : wpList P ops Q (o :: rest) a (W.alloc (.cells C.toArray e)) := by
  refine wpList_append_own _ hgd s x t ho base e i z size bytes ht hi hz hsize hby hzs hsz v n xs hs (hown.alloc _) ⟨W.heap.size, 0, none⟩ 1 1 C hx (by omega) ?_ h1 (by unfold maxLen; omega) ?_ (Nat.le_trans hbase (by simp)) ?_
  · intro j u hj
    have := cell_new W C.toArray e j
    rw [add_plain, Nat.zero_add, this]
    simpa using hj
  · have : (n + 1) * bytes ≤ 1000001 * 1000 := Nat.mul_le_mul (by omega) hb
    omega
  · intro v' w' h2 h3 _
    refine h v' w' h2 fun w0 hB => ?_
    exact (hB.trans ((below_alloc1 W _).mono hbase)).grown h3 (Nat.le_trans hbase (by simp)) (fun k hk => (hown.lt k hk).1)
end Go.Proofs.YtpbhcjkllfonhaaGreat

/-
  What haywainref.Value and haywainref.In return of rows: the value of a key; a new row of those that lie in a span.
-/
namespace Go.Proofs.YtpbhcjkllfonhaaGreat
open Go.RowKit Go.Joins

/-- the value of a key among rows -/
def valR (l : List (ByteArray × ByteArray)) (key : ByteArray) : ByteArray × Bool := match l.find? fun r => eqS r.1 key with
  | some r => (r.2, true)
  | none => (⟨#[]⟩, false)
theorem valR_miss {l : List (ByteArray × ByteArray)} {key : ByteArray} (h : ∀ r ∈ l, eqS r.1 key = false) : valR l key = (⟨#[]⟩, false) := by
  unfold valR
  rw [List.find?_eq_none.2 fun r hr => by rw [h r hr]; simp]
theorem valR_hit {l : List (ByteArray × ByteArray)} {key : ByteArray} {k : Nat} (hk : k < l.length) (h : ∀ r ∈ l.take k, eqS r.1 key = false) (he : eqS l[k].1 key = true) : valR l key = (l[k].2, true) := by
  unfold valR
  have : l.find? (fun r => eqS r.1 key) = some l[k] := by
    rw [List.find?_eq_some_iff_append]
    refine ⟨he, l.take k, l.drop (k + 1), ?_, fun r hr => by rw [h r hr]; rfl⟩
    rw [← List.drop_eq_getElem_cons hk, List.take_append_drop]
  rw [this]
set_option maxHeartbeats 1000000 in
theorem rvalue_some (l : List (ByteArray × ByteArray)) (b off cap : Nat) (key : ByteArray) (w : World) (hl : spansAt w b off l) (hn : l.length ≤ 1000000) :
    Calls Tryz.prog 45 #[.slice (some ⟨b, off, none⟩) l.length cap, .string key] w fun e w' => e = .returned (.tuple #[.string (valR l key).1, .bool (valR l key).2]) ∧ Below w.heap.size w w' := by
  go_enter Tryz.func45, Tryz.ntmps45
  go_wp2
  go_loopw [6] (fun i wr => ∃ k : Nat, k ≤ l.length ∧ i = .int .i64 k ∧ (∀ r ∈ l.take k, eqS r.1 key = false) ∧ Below w.heap.size w wr) (fun i _ => l.length - (intOf i).toNat)
  case atStart => exact ⟨0, Nat.zero_le _, rfl, by simp, Below.refl _ _⟩
  case round =>
    obtain ⟨k, hk, rfl, hno, hB⟩ := hrel
    have HNO := hide hno
    clear hno
    by_cases hlt : k < l.length
    · have hlt' : (k : Int) < (l.length : Int) := by omega
      obtain ⟨c0, c1⟩ := spansAt_on hB hl k hlt
      cases hq : eqS l[k].1 key with
      | true =>
        have q1 : (l[k].1.toList == key.toList) = true := hq
        have HV := hide (valR_hit hlt HNO.out hq)
        clear hq
        go_wp2
        go_ret2
        rw [HV.out]
        exact ⟨rfl, hB⟩
      | false =>
        have q1 : (l[k].1.toList == key.toList) = false := hq
        have HN2 : Hid (∀ r ∈ l.take (k + 1), eqS r.1 key = false) := fun r hr => by
          rw [List.take_succ_eq_append_getElem hlt] at hr
          rcases List.mem_append.1 hr with h | h
          · exact HNO.out r h
          · rw [List.mem_singleton.1 h]; exact hq
        clear hq
        go_wp2
        exact ⟨⟨k + 1, by omega, by go_num, HN2.out, hB⟩, by simp [intOf]; omega⟩
    · have ek : k = l.length := by omega
      subst ek
      have hlt' : ¬ (l.length : Int) < (l.length : Int) := by omega
      have HV : Hid (valR l key = (⟨#[]⟩, false)) := valR_miss (by have := HNO.out; rwa [List.take_length] at this)
      go_wp2
      go_ret2
      rw [HV.out]
      exact ⟨rfl, hB⟩
set_option maxHeartbeats 1000000 in
theorem rvalue_any (l : List (ByteArray × ByteArray)) (ao : Option Addr) (cap : Nat) (key : ByteArray) (w : World) (hl : heldSp w ao l) (hn : l.length ≤ 1000000) :
    Calls Tryz.prog 45 #[.slice ao l.length cap, .string key] w fun e w' => e = .returned (.tuple #[.string (valR l key).1, .bool (valR l key).2]) ∧ Below w.heap.size w w' := by
  rcases hl with rfl | ⟨b, off, rfl, h⟩
  · go_enter Tryz.func45, Tryz.ntmps45
    go_wp2
    go_loopw [6] (fun i wr => i = .int .i64 0 ∧ wr = w) (fun _ _ => 0)
    case atStart => exact ⟨rfl, rfl⟩
    case round =>
      obtain ⟨rfl, rfl⟩ := hrel
      go_wp2
      go_ret2
      exact ⟨rfl, Below.refl _ _⟩
  · exact rvalue_some l b off cap key w h hn
/-- the rows of a span -/
def inR (l : List (ByteArray × ByteArray)) (s : ByteArray × ByteArray) : List (ByteArray × ByteArray) := l.filter fun r => hasS s.1 s.2 r.1
theorem inR_succ {l : List (ByteArray × ByteArray)} {k : Nat} (hk : k < l.length) (s : ByteArray × ByteArray) : inR (l.take (k + 1)) s = inR (l.take k) s ++ if hasS s.1 s.2 l[k].1 then [l[k]] else [] := by
  unfold inR
  rw [List.take_succ_eq_append_getElem hk, List.filter_append]
  congr 1
  simp only [List.filter_cons, List.filter_nil]
theorem inR_len (l : List (ByteArray × ByteArray)) (s : ByteArray × ByteArray) : (inR l s).length ≤ l.length := List.length_filter_le _ _
theorem ownP_snoc {w : World} {B : Nat} {v : Value} {l : List (ByteArray × ByteArray)} {r : ByteArray × ByteArray} (h : w.ownsRow B 63 2 v (l.length + 1) (l.flatMap cellP ++ cellP r)) : ownP w B v (l ++ [r]) := by
  unfold ownP
  rw [List.flatMap_append, List.length_append]
  simpa using h
theorem cellP_one (r : ByteArray × ByteArray) : ∀ u ∈ cellP r, u.oneCell' = true := by
  intro u hu
  simp only [cellP, List.mem_cons, List.not_mem_nil, or_false] at hu
  rcases hu with rfl | rfl <;> rfl
set_option maxHeartbeats 2000000 in
theorem rin_some (l : List (ByteArray × ByteArray)) (b off cap : Nat) (s : ByteArray × ByteArray) (w : World) (hl : spansAt w b off l) (hn : l.length ≤ 1000) :
    Calls Tryz.prog 36 #[.slice (some ⟨b, off, none⟩) l.length cap, .agg #[.string s.1, .string s.2]] w fun e w' => ∃ v, e = .returned v ∧ ownP w' w.heap.size v (inR l s) ∧ Below w.heap.size w w' := by
  obtain ⟨i0, hi0, hz0, hs0, hb0⟩ := info_parts row_info
  have hB0 := below_alloc1 w (Obj.cells #[Value.string s.1, Value.string s.2] 49)
  have a0 : (w.alloc (Obj.cells #[Value.string s.1, Value.string s.2] 49)).cell? ⟨w.heap.size, 0, none⟩ = some (.string s.1) := by simp
  have a1 : (w.alloc (Obj.cells #[Value.string s.1, Value.string s.2] 49)).cell? ⟨w.heap.size, 1, none⟩ = some (.string s.2) := by simp
  have hl0 := spansAt_on hB0 hl
  have hz1 : (w.alloc (Obj.cells #[Value.string s.1, Value.string s.2] 49)).heap.size = w.heap.size + 1 := by simp
  go_enter Tryz.func36, Tryz.ntmps36
  go_wp2
  generalize (w.alloc (Obj.cells #[Value.string s.1, Value.string s.2] 49)) = W0 at *
  go_loopw [5, 6] (fun v i wr => ∃ k : Nat, k ≤ l.length ∧ i = .int .i64 k ∧ ownP wr W0.heap.size v (inR (l.take k) s) ∧ Below W0.heap.size W0 wr) (fun _ i _ => l.length - (intOf i).toNat)
  case atStart => exact ⟨0, Nat.zero_le _, rfl, World.ownsRow_nil _ _ _ _, Below.refl _ _⟩
  case round =>
    obtain ⟨k, hk, rfl, hown, hB⟩ := hrel
    have b0 := cell_on hB a0
    have b1 := cell_on hB a1
    by_cases hlt : k < l.length
    · obtain ⟨c0, c1⟩ := spansAt_on hB hl0 k hlt
      have lk : (k : Int) < (l.length : Int) := by omega
      have HF := hide (inR_succ hlt s)
      have hlen := inR_len (l.take k) s
      rw [List.length_take] at hlen
      generalize inR (l.take k) s = out at *
      cases hq : hasS s.1 s.2 l[k].1 with
      | true =>
        have HQ := hide hq
        rw [hq] at HF
        clear hq
        have nS := OnW.some wr
        have n0 : ∀ m : OnW wr, m.w.cell? ⟨b, off + k * 2, none⟩ = some (.string l[k].1) := fun m => m.cell c0
        have n1 : ∀ m : OnW wr, m.w.cell? ⟨w.heap.size, 0, none⟩ = some (.string s.1) := fun m => m.cell b0
        have n2 : ∀ m : OnW wr, m.w.cell? ⟨w.heap.size, 1, none⟩ = some (.string s.2) := fun m => m.cell b1
        go_wp2
        refine wp_region_on (by kernel_rfl) (by kernel_rfl) ?_
        repeat (go_big_quiet_step ((first
          | (go_at_call 57; exact on_call (call_val (rhas_any s.1 s.2 l[k].1 _) (congrArg Value.bool HQ.out))))))
        refine wpQuiet_nil ?_
        intro w1 hw1
        replace hw1 := on_end hw1
        have hb1 := below_on hB (Nat.le_refl _) hw1
        have HOWN := hide (own_block hown fun k e => hw1.block k (World.ownsRow.lt hown k e).2)
        replace c0 := cell_on hw1 c0
        replace c1 := cell_on hw1 c1
        clear nS n0 n1 n2 b0 b1 hw1 hown
        go_wp2_with (at_builtin; refine wp_append1 rfl _ _ 22 rfl W0.heap.size 63 i0 _ 2 32 Tryz.underlying22 hi0 hz0 hs0 hb0 rfl (by omega) _ (cellP l[k]) rfl (cellP_one _) _ out.length (out.flatMap cellP) HOWN.out rfl rfl (by omega) (by omega) hb1.size ?_; intro v1 w2 ho1 hb2; have HB2 : Hid (Below W0.heap.size W0 w2) := (by first | exact hb2 W0 hb1 | exact hb2 W0 (hb1.trans (below_draws _ _ _))); have HO2 : Hid (ownP w2 W0.heap.size v1 (out ++ [l[k]])) := ownP_snoc ho1; clear ho1 hb2)
        exact ⟨⟨k + 1, by omega, by go_num, by rw [HF.out]; exact HO2.out, HB2.out⟩, by simp [intOf]; omega⟩
      | false =>
        have HQ := hide hq
        rw [hq] at HF
        clear hq
        have nS := OnW.some wr
        have n0 : ∀ m : OnW wr, m.w.cell? ⟨b, off + k * 2, none⟩ = some (.string l[k].1) := fun m => m.cell c0
        have n1 : ∀ m : OnW wr, m.w.cell? ⟨w.heap.size, 0, none⟩ = some (.string s.1) := fun m => m.cell b0
        have n2 : ∀ m : OnW wr, m.w.cell? ⟨w.heap.size, 1, none⟩ = some (.string s.2) := fun m => m.cell b1
        go_wp2
        refine wp_region_on (by kernel_rfl) (by kernel_rfl) ?_
        repeat (go_big_quiet_step ((first
          | (go_at_call 57; exact on_call (call_val (rhas_any s.1 s.2 l[k].1 _) (congrArg Value.bool HQ.out))))))
        refine wpQuiet_nil ?_
        intro w1 hw1
        replace hw1 := on_end hw1
        have hb1 := below_on hB (Nat.le_refl _) hw1
        have HOWN := hide (own_block hown fun k e => hw1.block k (World.ownsRow.lt hown k e).2)
        replace c0 := cell_on hw1 c0
        replace c1 := cell_on hw1 c1
        clear nS n0 n1 n2 b0 b1 hw1 hown
        go_wp2
        exact ⟨⟨k + 1, by omega, by go_num, by rw [HF.out]; exact (List.append_nil out).symm ▸ HOWN.out, hb1⟩, by simp [intOf]; omega⟩
    · have ek : k = l.length := by omega
      subst ek
      have hlt' : ¬ (l.length : Int) < (l.length : Int) := by omega
      rw [List.take_length] at hown
      go_wp2
      go_ret
      exact ⟨_, rfl, ownsRow_le hown (by omega), hB0.trans (hB.mono hB0.size)⟩
set_option maxHeartbeats 1000000 in
theorem rin_any (l : List (ByteArray × ByteArray)) (ao : Option Addr) (cap : Nat) (s : ByteArray × ByteArray) (w : World) (hl : heldSp w ao l) (hn : l.length ≤ 1000) :
    Calls Tryz.prog 36 #[.slice ao l.length cap, .agg #[.string s.1, .string s.2]] w fun e w' => ∃ v, e = .returned v ∧ ownP w' w.heap.size v (inR l s) ∧ Below w.heap.size w w' := by
  rcases hl with rfl | ⟨b, off, rfl, h⟩
  · have hB0 := below_alloc1 w (Obj.cells #[Value.string s.1, Value.string s.2] 49)
    go_enter Tryz.func36, Tryz.ntmps36
    go_wp2
    generalize (w.alloc (Obj.cells #[Value.string s.1, Value.string s.2] 49)) = W0 at *
    go_loopw [5, 6] (fun v i wr => v = .slice none 0 0 ∧ i = .int .i64 0 ∧ wr = W0) (fun _ _ _ => 0)
    case atStart => exact ⟨rfl, rfl, rfl⟩
    case round =>
      obtain ⟨rfl, rfl, rfl⟩ := hrel
      go_wp2
      go_ret
      exact ⟨_, rfl, World.ownsRow_nil _ _ _ _, hB0⟩
  · exact rin_some l b off cap s w h hn
end Go.Proofs.YtpbhcjkllfonhaaGreat
