/-
  What store.check returns.
-/
import Derived.Test.YtkfpfbkdalbjoaaGreatLogSecs
import Derived.Test.YtkfpfbkdalbjoaaGreatRefAppL
import Derived.Test.YtkfpfbkdalbjoaaGreatChgGrow
import Derived.Test.YtkfpfbkdalbjoaaGreatStoUnp
import Derived.Test.YtkfpfbkdalbjoaaGreatDskMem
import Derived.Test.YtkfpfbkdalbjoaaGreatChgPlace
namespace Go.Proofs.YtkfpfbkdalbjoaaGreat
open Go.RowKit Go.Joins
attribute [local go_sem ↓] Go.wp_at_zero Go.wp_at_succ

/-- a deed's fault: too many changes, or the first change's that has one -/
def deedF (l : List Chg) : Nat := if 12 < l.length then 2 else chgsF l
set_option maxRecDepth 8000 in
set_option maxHeartbeats 2000000 in
theorem scheck_any (l : List Chg) (ao : Option Addr) (cap : Nat) (w : World) (hd : heldCh w ao l) (hl : l.length ≤ 1000) (hsz : ∀ c ∈ l, c.key.size ≤ maxLen) :
    Calls Tryz.prog 25 #[.slice ao l.length cap] w fun e w' => e = .returned (errV (deedF l)) ∧ Below w.heap.size w w' := by
  by_cases hm : 12 < l.length
  · have e : deedF l = 2 := if_pos hm
    have hm' : (12 : Int) < (l.length : Int) := by omega
    rw [e, errD_pos (by decide)]
    go_enter Tryz.func25, Tryz.ntmps25
    go_wp2
    go_ret
    exact ⟨rfl, Below.refl _ _⟩
  · have hm' : ¬ (12 : Int) < (l.length : Int) := by omega
    have e : deedF l = chgsF l := if_neg hm
    rw [e]
    have HD := hide hd
    have HZ := hide hsz
    clear hd hsz e hm
    go_enter Tryz.func25, Tryz.ntmps25
    go_wp2
    go_loopw [12] (fun iv wr => ∃ k : Nat, k ≤ l.length ∧ iv = .int .i64 (k : Int) ∧ chgsF (l.take k) = 0 ∧ Below w.heap.size w wr) (fun iv _ => l.length - (intOf iv).toNat)
    case atStart => exact ⟨0, Nat.zero_le _, rfl, rfl, Below.refl _ _⟩
    case round =>
      obtain ⟨k, hk, rfl, hc0, hb⟩ := hrel
      by_cases hlt : k < l.length
      · have hlt' : (k : Int) < (l.length : Int) := by omega
        have hk0 : (0 : Int) ≤ (k : Int) := by omega
        rcases HD.out with e | ⟨b, off, e, hch⟩
        · rw [e] at hlt; simp at hlt
        subst e
        obtain ⟨x0, x1, x2⟩ := hch k hlt
        have hcf := chgsF_take hlt hc0
        have hz := HZ.out _ (List.getElem_mem hlt)
        clear hch
        generalize l[k] = x at *
        replace x0 := cell_on hb x0
        replace x1 := cell_on hb x1
        replace x2 := cell_on hb x2
        have HBR := hide hb
        have HCK := fun w' => hide (chg_check x w' hz)
        have HBX := hide (below_alloc1 wr (Obj.cells #[Value.string x.key, Value.string x.val, Value.bool x.gone] 54))
        clear hb
        by_cases hf : chgFault x = 0
        · have HC1 := hide (hcf.1.trans hf)
          rw [hf, errD_nil] at HCK
          clear hf hcf
          go_wp2_with (first
            | (go_at_call 49; refine ((HCK _).out).mono ?_; rintro e w7 ⟨rfl, hb7⟩; replace HBX := hide (below_on HBX.out (Nat.le_refl _) hb7); clear hb7))
          exact ⟨⟨k + 1, by omega, by go_num, HC1.out, below_on HBR.out (Nat.le_refl _) HBX.out⟩, by simp [intOf]; omega⟩
        · have HC1 := hide (hcf.2 hf)
          have HER : Hid (errV (chgFault x) = .iface 57 (.int .i64 (chgFault x))) := errD_pos hf
          rw [HER.out] at HCK
          clear hf hcf
          go_wp2_with (first
            | (go_at_call 49; refine ((HCK _).out).mono ?_; rintro e w7 ⟨rfl, hb7⟩; replace HBX := hide (below_on HBX.out (Nat.le_refl _) hb7); clear hb7))
          go_ret
          refine ⟨?_, below_on HBR.out (Nat.le_refl _) HBX.out⟩
          rw [HC1.out, HER.out]
          rfl
      · have ek : k = l.length := by omega
        subst ek
        have hlt' : ¬ (l.length : Int) < (l.length : Int) := by omega
        rw [List.take_length] at hc0
        have HC0 := hide hc0
        have HBR := hide hb
        clear hc0 hb
        go_wp2
        go_ret
        rw [HC0.out]
        exact ⟨rfl, HBR.out⟩
end Go.Proofs.YtkfpfbkdalbjoaaGreat

/-
  Rows behind a deed, as a store has them: changes put one behind the other, those that are gone struck at the end; plain.
-/
namespace Go.Proofs.YtkfpfbkdalbjoaaGreat
open Go.RowKit Go.Joins

def kvC (c : Chg) : ByteArray × ByteArray := (c.key, c.val)
def stayC (c : Chg) : Bool := !c.gone
def behindL (rows l : List Chg) : List Chg := (l.foldl insL rows).filter stayC
def rowsL (l : List Chg) : List (ByteArray × ByteArray) := l.map kvC
theorem ins_split {l : List Chg} (c : Chg) (h : rises l) : insL l c = (l.filter fun x => ltS x.key c.key) ++ c :: l.filter fun x => ltS c.key x.key := by
  induction l with
  | nil => rfl
  | cons x l ih =>
    obtain ⟨h1, h2⟩ := List.pairwise_cons.1 h
    unfold insL
    rcases keys_three x.key c.key with ⟨a1, a2, a3, a4⟩ | a1 | ⟨a1, a2, a3, a4⟩
    · rw [if_pos a1, ih h2, List.filter_cons, if_pos a1, List.filter_cons, if_neg (by rw [a3]; decide)]
      rfl
    · have hup : ∀ y ∈ l, ltS c.key y.key = true := fun y hy => by rw [← a1]; exact h1 y hy
      have f1 : (l.filter fun y => ltS y.key c.key) = [] := List.filter_eq_nil_iff.2 fun y hy e => by
        have := ltS_trans (hup y hy) e; rw [ltS_irrefl] at this; cases this
      have f2 : (l.filter fun y => ltS c.key y.key) = l := List.filter_eq_self.2 hup
      have n1 : ltS x.key c.key = false := by rw [a1]; exact ltS_irrefl _
      have n2 : ltS c.key x.key = false := by rw [a1]; exact ltS_irrefl _
      rw [if_neg (by rw [n1]; decide), if_pos (by rw [a1]; exact eqS_refl _), List.filter_cons, if_neg (by rw [n1]; decide), List.filter_cons, if_neg (by rw [n2]; decide), f1, f2]
      rfl
    · have hup : ∀ y ∈ l, ltS c.key y.key = true := fun y hy => ltS_trans a3 (h1 y hy)
      have f1 : (l.filter fun y => ltS y.key c.key) = [] := List.filter_eq_nil_iff.2 fun y hy e => by
        have := ltS_trans (hup y hy) e; rw [ltS_irrefl] at this; cases this
      have f2 : (l.filter fun y => ltS c.key y.key) = l := List.filter_eq_self.2 hup
      rw [if_neg (by rw [a1]; decide), if_neg (by rw [a2]; decide), List.filter_cons, if_neg (by rw [a1]; decide), List.filter_cons, if_pos a3, f1, f2]
      rfl
theorem ne_split {l : List (ByteArray × ByteArray)} (k : ByteArray) (h : riseP l) : (l.filter fun r => !eqS r.1 k) = (l.filter fun r => ltS r.1 k) ++ l.filter fun r => ltS k r.1 := by
  induction l with
  | nil => rfl
  | cons x l ih =>
    obtain ⟨h1, h2⟩ := List.pairwise_cons.1 h
    have ih := ih h2
    rcases keys_three x.1 k with ⟨a1, a2, a3, a4⟩ | a1 | ⟨a1, a2, a3, a4⟩
    · rw [List.filter_cons, if_pos (by rw [a2]; rfl), List.filter_cons, if_pos a1, List.filter_cons, if_neg (by rw [a3]; decide), ih]
      rfl
    · have n1 : ltS x.1 k = false := by rw [a1]; exact ltS_irrefl _
      have n2 : ltS k x.1 = false := by rw [a1]; exact ltS_irrefl _
      have n3 : eqS x.1 k = true := by rw [a1]; exact eqS_refl _
      rw [List.filter_cons, if_neg (by rw [n3]; decide), List.filter_cons, if_neg (by rw [n1]; decide), List.filter_cons, if_neg (by rw [n2]; decide), ih]
    · have hup : ∀ y ∈ l, ltS k y.1 = true := fun y hy => ltS_trans a3 (h1 y hy)
      have f1 : (l.filter fun y => ltS y.1 k) = [] := List.filter_eq_nil_iff.2 fun y hy e => by
        have := ltS_trans (hup y hy) e; rw [ltS_irrefl] at this; cases this
      rw [f1, List.nil_append] at ih
      rw [List.filter_cons, if_pos (by rw [a2]; rfl), List.filter_cons, if_neg (by rw [a1]; decide), List.filter_cons, if_pos a3, ih, f1]
      rfl
theorem rowsL_rise {l : List Chg} (h : rises l) : riseP (rowsL l) := by
  unfold riseP rowsL
  rw [List.pairwise_map]
  exact h
/-- a put among those that stay, and are gone -/
theorem ins_apply {l : List Chg} (c : Chg) (h : rises l) : rowsL ((insL l c).filter stayC) = apply1 (rowsL (l.filter stayC)) c := by
  have hr : riseP (rowsL (l.filter stayC)) := rowsL_rise (h.filter _)
  rw [ins_split c h, List.filter_append, List.filter_cons, List.filter_filter, List.filter_filter]
  have e1 : ∀ (p : ByteArray → Bool), (rowsL (l.filter stayC)).filter (fun r => p r.1) = rowsL (l.filter fun x => stayC x && p x.key) := fun p => by
    unfold rowsL
    rw [List.filter_map, List.filter_filter]
    congr 1
    apply List.filter_congr
    intro x _
    show (p x.key && stayC x) = (stayC x && p x.key)
    exact Bool.and_comm _ _
  have e2 := e1 (fun k => ltS k c.key)
  have e3 := e1 (fun k => ltS c.key k)
  cases hg : c.gone with
  | true =>
    rw [apply1_gone hg, ne_split _ hr, e2, e3, if_neg (by unfold stayC; rw [hg]; decide)]
    unfold rowsL
    rw [List.map_append]
  | false =>
    rw [apply1_put hr hg, e2, e3, if_pos (by unfold stayC; rw [hg]; rfl)]
    unfold rowsL
    rw [List.map_append, List.map_cons]
    rfl
theorem fold_apply (l : List Chg) : ∀ (rows : List Chg), rises rows → rowsL ((l.foldl insL rows).filter stayC) = appliedA (rowsL (rows.filter stayC)) l ∧ rises (l.foldl insL rows) := by
  induction l with
  | nil => intro rows h; exact ⟨rfl, h⟩
  | cons c l ih =>
    intro rows h
    obtain ⟨a, b⟩ := ih (insL rows c) (ins_rises c h)
    refine ⟨?_, b⟩
    show rowsL ((l.foldl insL (insL rows c)).filter stayC) = appliedA (apply1 (rowsL (rows.filter stayC)) c) l
    rw [a, ins_apply c h]
theorem fine_stay {rows : List Chg} (h : fineL rows) : rows.filter stayC = rows := List.filter_eq_self.2 fun c hc => by
  unfold stayC
  rw [(h.1 c hc).2]
  rfl
/-- rows behind a deed are the document's -/
theorem behind_apply {rows : List Chg} (h : fineL rows) (l : List Chg) : rowsL (behindL rows l) = appliedA (rowsL rows) l := by
  have := (fold_apply l rows h.2).1
  rw [fine_stay h] at this
  exact this
theorem fold_mem (l : List Chg) : ∀ (rows : List Chg) (c : Chg), c ∈ l.foldl insL rows → c ∈ l ∨ c ∈ rows := by
  induction l with
  | nil => intro rows c h; exact .inr h
  | cons x l ih =>
    intro rows c h
    rcases ih _ c h with h | h
    · exact .inl (List.mem_cons_of_mem _ h)
    · rcases ins_mem h with rfl | h
      · exact .inl (List.mem_cons_self ..)
      · exact .inr h
theorem fold_len (l : List Chg) : ∀ (rows : List Chg), (l.foldl insL rows).length ≤ rows.length + l.length := by
  induction l with
  | nil => intro rows; exact Nat.le_refl _
  | cons x l ih =>
    intro rows
    have h1 := ih (insL rows x)
    have h2 := ins_length rows x
    show (l.foldl insL (insL rows x)).length ≤ _
    rw [List.length_cons]
    omega
theorem behind_len (rows l : List Chg) : (behindL rows l).length ≤ rows.length + l.length := Nat.le_trans (List.length_filter_le _ _) (fold_len l rows)
theorem chgsF_mem {l : List Chg} (h : chgsF l = 0) : ∀ c ∈ l, chgFault c = 0 := by
  induction l with
  | nil => intro c hc; exact absurd hc List.not_mem_nil
  | cons x l ih =>
    intro c hc
    have h' : (if chgFault x = 0 then chgsF l else chgFault x) = 0 := h
    by_cases e : chgFault x = 0
    · rw [if_pos e] at h'
      rcases List.mem_cons.1 hc with rfl | hc
      · exact e
      · exact ih h' c hc
    · rw [if_neg e] at h'; exact absurd h' e
theorem behind_fine {rows l : List Chg} (h : fineL rows) (hl : chgsF l = 0) : fineL (behindL rows l) := by
  refine ⟨fun c hc => ?_, ((fold_apply l rows h.2).2).filter _⟩
  obtain ⟨h1, h2⟩ := List.mem_filter.1 hc
  refine ⟨?_, by unfold stayC at h2; simpa using h2⟩
  rcases fold_mem l rows c h1 with h1 | h1
  · exact chgsF_mem hl c h1
  · exact (h.1 c h1).1
theorem fine_nil : fineL [] := ⟨fun _ hc => absurd hc List.not_mem_nil, List.Pairwise.nil⟩
end Go.Proofs.YtkfpfbkdalbjoaaGreat

/-
  What slices.IndexFunc and slices.DeleteFunc make of a row of changes, by the closure of store.behind: those that are gone are struck.
-/
namespace Go.Proofs.YtkfpfbkdalbjoaaGreat
open Go.RowKit Go.Joins
attribute [local go_sem ↓] Go.wp_at_zero Go.wp_at_succ

def ownX (w : World) (B : Nat) (v : Value) (l : List Chg) : Prop := w.ownsRow B 54 3 v l.length (l.flatMap cellsC) ∧ ∀ x ∈ l, (fun _ : Chg => True) x
theorem cellsC_length {x : Chg} (_ : True) : (cellsC x).length = 3 := rfl
theorem cellsC_one (x : Chg) : ∀ v ∈ cellsC x, v.oneCell' = true := fun v hv => by
  simp only [cellsC, List.mem_cons, List.not_mem_nil, or_false] at hv
  rcases hv with rfl | rfl | rfl <;> rfl
theorem chg_size : (Tryz.prog.info? 54).map (·.size) = some 3 := by kernel_rfl
theorem ownX_range {w : World} {B g n cap : Nat} {l : List Chg} (h : ownX w B (.slice (some ⟨g, 0, none⟩) n cap) l) {i : Nat} (hi : i < l.length) : w.rangeAt g (i * 3) (cellsC l[i]) := fun j v hv => by
  have hj : j < (cellsC l[i]).length := (List.getElem?_eq_some_iff.1 hv).1
  have e := World.ownsRow.cells h.1 (g := g) rfl (i * 3 + j) v ((dflat_get (f := cellsC) (z := 3) (fun _ _ => rfl) i j hi hj).trans hv)
  rw [Go.Addr.add_mid, Nat.zero_add] at e
  exact e

set_option maxRecDepth 100000 in
set_option maxHeartbeats 400000 in
theorem gone_any (x : Chg) (w : World) :
    Calls Tryz.prog 42 #[.agg #[.string x.key, .string x.val, .bool x.gone]] w fun e w' => e = .returned (.bool x.gone) ∧ Below w.heap.size w w' := by
  go_enter Tryz.func42, Tryz.ntmps42
  go_wp2
  go_ret
  exact ⟨rfl, (Below.refl _ _).alloc (Nat.le_refl _) _⟩
/-- the place of the first write of a bit, from a place on -/
def idxX : List Chg → Option Nat
  | [] => none
  | x :: l => if x.gone then some 0 else (idxX l).map (· + 1)
def idxM (l : List Chg) : Int := match idxX l with | some i => i | none => -1
theorem idxX_take : ∀ {l : List Chg} {k : Nat}, (∀ i (h : i < l.length), i < k → l[i].gone = false) → ∀ (hk : k < l.length), l[k].gone = true → idxX l = some k
  | [], _, _, hk, _ => by cases hk
  | x :: l, 0, _, _, e => by unfold idxX; rw [show x.gone = true from e]; rfl
  | x :: l, k + 1, h, hk, e => by
    unfold idxX
    rw [show x.gone = false from h 0 (by simp) (by omega), idxX_take (k := k) (fun i hi hl => h (i + 1) (by simpa using hi) (by omega)) (by simpa using hk) e]
    rfl
theorem idxX_none : ∀ {l : List Chg}, (∀ i (h : i < l.length), l[i].gone = false) → idxX l = none
  | [], _ => rfl
  | x :: l, h => by
    unfold idxX
    rw [show x.gone = false from h 0 (by simp), idxX_none (fun i hi => h (i + 1) (by simpa using hi))]
    rfl
set_option maxRecDepth 100000 in
set_option maxHeartbeats 1000000 in
theorem idxFX_any (g cap : Nat) (l : List Chg) (B : Nat) (w : World) (h : ownX w B (.slice (some ⟨g, 0, none⟩) l.length cap) l) (hl : l.length ≤ 1000) :
    Calls Tryz.prog 60 #[.slice (some ⟨g, 0, none⟩) l.length cap, .func (.func 42) #[] #[]] w fun e w' => e = .returned (.int .i64 (idxM l)) ∧ Below w.heap.size w w' := by
  have H := hide h
  clear h
  go_enter Tryz.func60, Tryz.ntmps60
  go_wp2
  go_loopw [8] (fun i wr => ∃ k : Nat, k ≤ l.length ∧ i = .int .i64 (k : Int) ∧ (∀ j (h : j < l.length), j < k → l[j].gone = false) ∧ Below w.heap.size w wr) (fun i _ => l.length - (intOf i).toNat)
  case atStart => exact ⟨0, Nat.zero_le _, rfl, fun j _ hj => by omega, Below.refl _ _⟩
  case round =>
    obtain ⟨k, hk, rfl, hno, hB⟩ := hrel
    have HNO := hide hno
    clear hno
    by_cases hlt : k < l.length
    · have hlt' : (k : Int) < (l.length : Int) := by omega
      have hld := rangeAt_on hB (ownX_range H.out hlt)
      have x0 : wr.cell? ⟨g, k * 3, none⟩ = some (.string l[k].key) := hld 0 _ rfl
      have x1 : wr.cell? ⟨g, k * 3 + 1, none⟩ = some (.string l[k].val) := hld 1 _ rfl
      have x2 : wr.cell? ⟨g, k * 3 + 2, none⟩ = some (.bool l[k].gone) := hld 2 _ rfl
      have HH := fun W => hide (gone_any l[k] W)
      clear hld
      have HE : ∀ b, l[k].gone = b → Hid (l[k].gone = b) := fun _ h => h
      generalize hx : l[k] = x at *
      have HX := hide hx
      clear hx
      cases hb : x.gone with
      | true =>
        simp only [hb] at HH x2
        have HR : Hid (idxM l = k) := by
          unfold idxM
          rw [idxX_take HNO.out hlt (by rw [HX.out]; exact hb)]
          rfl
        go_wp2_with (first
          | (go_at_call 42; refine (HH _).out.mono ?_; rintro e w1 ⟨rfl, hb1⟩)
          | fail)
        go_ret
        exact ⟨ret_int HR.out.symm, below_on hB (Nat.le_refl _) hb1⟩
      | false =>
        simp only [hb] at HH x2
        go_wp2_with (first
          | (go_at_call 42; refine (HH _).out.mono ?_; rintro e w1 ⟨rfl, hb1⟩)
          | fail)
        exact ⟨⟨k + 1, by omega, by go_num, fun j h hj => by
          by_cases e : j = k
          · subst e; rw [HX.out]; exact hb
          · exact HNO.out j h (by omega), below_on hB (Nat.le_refl _) hb1⟩, by simp [intOf]; omega⟩
    · have ek : k = l.length := by omega
      subst ek
      have HR : Hid (idxM l = -1) := by
        unfold idxM
        rw [idxX_none fun i hi => HNO.out i hi hi]; rfl
      have lk : ¬ (l.length : Int) < (l.length : Int) := by omega
      go_wp2
      go_ret
      exact ⟨ret_int HR.out.symm, hB⟩

def offX (l : List Chg) : List Chg := l.filter fun x => !x.gone
theorem offX_take {l : List Chg} {k : Nat} (hk : k < l.length) : offX (l.take (k + 1)) = offX (l.take k) ++ if l[k].gone then [] else [l[k]] := by
  unfold offX
  rw [List.take_succ_eq_append_getElem hk, List.filter_append]
  cases h : l[k].gone <;> simp [h]
theorem offX_none {l : List Chg} (h : idxX l = none) : offX l = l := by
  induction l with
  | nil => rfl
  | cons x l ih =>
    unfold idxX at h
    cases e : x.gone with
    | true => rw [e] at h; simp at h
    | false =>
      rw [e] at h
      have h' : idxX l = none := by simpa using h
      show List.filter _ (x :: l) = x :: l
      rw [List.filter_cons, e]
      have := ih h'
      unfold offX at this
      simp [this]
theorem idxX_some : ∀ {l : List Chg} {k : Nat}, idxX l = some k → ∃ hk : k < l.length, l[k].gone = true ∧ offX (l.take k) = l.take k
  | [], _, h => by cases h
  | x :: l, k, h => by
    unfold idxX at h
    cases e : x.gone with
    | true =>
      rw [e] at h
      have h' : 0 = k := by simpa using h
      subst h'
      exact ⟨by simp, e, rfl⟩
    | false =>
      rw [e] at h
      cases hk : idxX l with
      | none => rw [hk] at h; simp at h
      | some j =>
        rw [hk] at h
        have h' : j + 1 = k := by simpa using h
        subst h'
        obtain ⟨a, b, c⟩ := idxX_some hk
        refine ⟨by simpa using a, b, ?_⟩
        unfold offX at c ⊢
        rw [List.take_succ_cons, List.filter_cons, e, c]
        rfl
theorem offX_length (l : List Chg) : (offX l).length ≤ l.length := List.length_filter_le _ _
theorem ownX_set {w : World} {B g cap : Nat} {L : List Chg} (h : ownX w B (.slice (some ⟨g, 0, none⟩) L.length cap) L) (i : Nat) (hi : i < L.length) (x : Chg) (hx : True) : ownX (w.setCells g (i * 3) (cellsC x)) B (.slice (some ⟨g, 0, none⟩) L.length cap) (L.set i x) := by
  obtain ⟨⟨hlen, h2⟩, hs⟩ := h
  have hs' : ∀ y ∈ L.set i x, True := fun y hy => (List.mem_or_eq_of_mem_set hy).elim (hs y) (fun _ => trivial)
  rcases h2 with ⟨e, _⟩ | ⟨g', cap', cur, e, hB, hg, h3, h4, h5, h6⟩
  · cases e
  · cases e
    refine ⟨⟨by rw [dflat_length (z := 3) (fun y hy => cellsC_length (hs' y hy))], .inr ⟨g, cap, (splice cur.toList (i * 3) (cellsC x)).toArray, by rw [List.length_set], hB, ?_, by rw [List.length_set]; exact h3, h4, ?_, ?_⟩⟩, hs'⟩
    · refine heap_setCells g _ (0, 0) _ _ w cur.toList (by simpa using hg) ?_
      rw [cellsC_length hx, Array.length_toList, h5]; omega
    · rw [List.size_toArray, length_splice _ _ _ (by rw [cellsC_length hx, Array.length_toList, h5]; omega), Array.length_toList, h5]
    · rw [List.length_set]
      have hc : ∀ y ∈ L, (cellsC y).length = 3 := fun y hy => cellsC_length (hs y hy)
      rw [← dflat_set hc i hi x (cellsC_length hx), ← h6]
      apply List.ext_getElem?
      intro j
      have hb : i * 3 + (cellsC x).length ≤ cur.toList.length := by rw [cellsC_length hx, Array.length_toList, h5]; omega
      have hb2 : i * 3 + (cellsC x).length ≤ (cur.toList.take (L.length * 3)).length := by rw [h6, dflat_length hc, cellsC_length hx]; omega
      rw [splice_get _ _ _ hb2, List.getElem?_take]
      by_cases hj : j < L.length * 3
      · rw [if_pos hj, splice_get _ _ _ hb, List.getElem?_take, if_pos hj]
      · rw [if_neg hj, List.getElem?_take, if_neg hj, if_neg (by omega), if_neg (by rw [cellsC_length hx]; omega)]
theorem ownX_cut {w : World} {B g cap : Nat} {L R : List Chg} (h : ownX w B (.slice (some ⟨g, 0, none⟩) L.length cap) L) (hR : L.take R.length = R) : ownX w B (.slice (some ⟨g, 0, none⟩) R.length cap) R := by
  obtain ⟨⟨hlen, h2⟩, hs⟩ := h
  have hRL : R.length ≤ L.length := by have := congrArg List.length hR; rw [List.length_take] at this; omega
  have hs' : ∀ y ∈ R, True := fun y hy => hs y (List.mem_of_mem_take (by rw [hR]; exact hy))
  rcases h2 with ⟨e, _⟩ | ⟨g', cap', cur, e, hB, hg, h3, h4, h5, h6⟩
  · cases e
  · cases e
    refine ⟨⟨dflat_length (z := 3) fun y hy => cellsC_length (hs' y hy), .inr ⟨g, cap, cur, rfl, hB, hg, by omega, h4, h5, ?_⟩⟩, hs'⟩
    have e1 : cur.toList.take (R.length * 3) = (L.flatMap cellsC).take (R.length * 3) := by rw [← h6, List.take_take]; congr 1; omega
    rw [e1]
    conv => lhs; rw [← List.take_append_drop R.length L, hR, List.flatMap_append]
    rw [List.take_append_of_le_length (by rw [dflat_length (z := 3) fun y hy => cellsC_length (hs' y hy)]; omega), List.take_of_length_le (by rw [dflat_length (z := 3) fun y hy => cellsC_length (hs' y hy)]; omega)]
theorem ownX_past {w : World} {B g cap : Nat} {R : List Chg} (h : ownX w B (.slice (some ⟨g, 0, none⟩) R.length cap) R) (zs : List Value) (hz : R.length * 3 + zs.length ≤ cap * 3) : ownX (w.setCells g (R.length * 3) zs) B (.slice (some ⟨g, 0, none⟩) R.length cap) R := by
  obtain ⟨⟨hlen, h2⟩, hs⟩ := h
  rcases h2 with ⟨e, _⟩ | ⟨g', cap', cur, e, hB, hg, h3, h4, h5, h6⟩
  · cases e
  · cases e
    have hcl : cur.toList.length = cap * 3 := (Array.length_toList ..).trans h5
    have hb : R.length * 3 + zs.length ≤ cur.toList.length := by rw [hcl]; exact hz
    refine ⟨⟨hlen, .inr ⟨g, cap, (splice cur.toList (R.length * 3) zs).toArray, rfl, hB, heap_setCells g _ (0, 0) _ _ w cur.toList (by simpa using hg) hb, h3, h4, ?_, ?_⟩⟩, hs⟩
    · rw [List.size_toArray, length_splice _ _ _ hb, Array.length_toList, h5]
    · rw [← h6]
      unfold splice
      rw [List.take_append_of_le_length (by rw [List.length_take, hcl]; omega), List.take_take]
      congr 1
      omega
theorem ownX_there {w : World} {B g cap : Nat} {L : List Chg} (h : ownX w B (.slice (some ⟨g, 0, none⟩) L.length cap) L) {i : Nat} (hi : i < L.length) : w.there g (i * 3) 3 := by
  rcases h.1.2 with ⟨e, _⟩ | ⟨g', cap', cur, e, hB, hg, h3, h4, h5, h6⟩
  · cases e
  · cases e
    exact there_of_block (cur := cur.toList) (by simpa using hg) (by rw [Array.length_toList, h5]; omega)
theorem ownX_block {w : World} {B g cap : Nat} {L : List Chg} (h : ownX w B (.slice (some ⟨g, 0, none⟩) L.length cap) L) : ∃ cur : List Value, w.heap[g]? = some (.cells cur.toArray 54 (0, 0)) ∧ cur.length = cap * 3 := by
  rcases h.1.2 with ⟨e, _⟩ | ⟨g', cap', cur, e, hB, hg, h3, h4, h5, h6⟩
  · cases e
  · cases e
    exact ⟨cur.toList, by simpa using hg, by rw [Array.length_toList, h5]⟩
theorem ownX_kept {w w' : World} {B : Nat} {v : Value} {l : List Chg} (h : ownX w B v l) (hk : ∀ k, v.ownBlock = some k → w'.heap[k]? = w.heap[k]?) : ownX w' B v l := by
  refine ⟨⟨h.1.1, ?_⟩, h.2⟩
  rcases h.1.2 with e | ⟨g, cap, cur, rfl, hB, hg, h3⟩
  · exact .inl e
  · exact .inr ⟨g, cap, cur, rfl, hB, (hk g rfl).trans hg, h3⟩
/-- what a call leaves of a row of writes: that row alone is another one -/
structure DelAtX (w w' : World) (B g : Nat) (v : Value) (l : List Chg) : Prop where
  own : ownX w' B v l
  bel : Below B w w'
  far : ∀ k, k ≠ g → k < w.heap.size → w'.heap[k]? = w.heap[k]?
theorem zero_chg : ∃ z : Value, (∀ w, (zeroValue 54).run Tryz.prog w = .ok z w) ∧ z.cells.size = 3 ∧ ∀ v ∈ z.cells, v.oneCell' = true := by
  have h : (Tryz.prog.info? 54).bind (fun i => i.zero.map fun z => (z.cells.size, z.cells.all (·.oneCell'))) = some (3, true) := by kernel_rfl
  cases hi : Tryz.prog.info? 54 with
  | none => rw [hi] at h; cases h
  | some i =>
    rw [hi] at h
    cases hz : i.zero with
    | none => simp [hz] at h
    | some z =>
      simp only [Option.bind_some, hz, Option.map_some, Option.some.injEq, Prod.mk.injEq] at h
      exact ⟨z, fun w => by simp [zeroValue, typeInfo, hi, hz], h.1, fun v hv => Array.all_eq_true_iff_forall_mem.1 h.2 v hv⟩

set_option maxRecDepth 100000 in
set_option maxHeartbeats 2000000 in
theorem delFX_some (g cap : Nat) (l : List Chg) (B : Nat) (w : World) (h : ownX w B (.slice (some ⟨g, 0, none⟩) l.length cap) l) (hl : l.length ≤ 1000) (hB : B ≤ w.heap.size) :
    Calls Tryz.prog 41 #[.slice (some ⟨g, 0, none⟩) l.length cap, .func (.func 42) #[] #[]] w fun e w' => e = .returned (.slice (some ⟨g, 0, none⟩) (offX l).length cap) ∧ DelAtX w w' B g (.slice (some ⟨g, 0, none⟩) (offX l).length cap) (offX l) := by
  have HI := hide (idxFX_any g cap l B w h hl)
  have H := hide h
  have hgl : g < w.heap.size := by
    rcases h.1.2 with ⟨e, _⟩ | ⟨g', cap', cur, e, _, hg, _⟩
    · cases e
    · cases e; exact (Array.getElem?_eq_some_iff.1 hg).1
  have hBg : B ≤ g := (World.ownsRow.lt h.1 g rfl).1
  have hcap : l.length ≤ cap ∧ cap ≤ 9223372036854775807 := by
    rcases h.1.2 with ⟨e, _⟩ | ⟨g', cap', cur, e, _, hg, h1, h2, _⟩
    · cases e
    · cases e; unfold maxLen at h2; exact ⟨h1, by omega⟩
  obtain ⟨hc1, hc2⟩ := hcap
  clear h
  cases hix : idxX l with
  | none =>
    have HR := hide (offX_none hix)
    have hin : idxM l = -1 := by unfold idxM; rw [hix]
    rw [hin] at HI
    rw [HR.out]
    clear hix hin
    go_enter Tryz.func41, Tryz.ntmps41
    go_wp2_with (go_at_call 60; refine HI.out.mono ?_; rintro e w1 ⟨rfl, hb1⟩)
    go_ret
    exact ⟨rfl, ⟨ownX_kept H.out fun k e => by cases e; exact hb1.block g hgl, hb1.mono hB, fun k _ hk => hb1.block k hk⟩⟩
  | some i0 =>
    obtain ⟨hi0, hh, ht⟩ := idxX_some hix
    have hin : idxM l = (i0 : Int) := by unfold idxM; rw [hix]
    rw [hin] at HI
    have HT := hide ht
    have HHit := hide hh
    clear hix hin ht hh
    have hne : ((i0 : Int) == -1) = false := beq_eq_false_iff_ne.2 (by omega)
    go_enter Tryz.func41, Tryz.ntmps41
    go_wp2_with (go_at_call 60; refine HI.out.mono ?_; rintro e w1 ⟨rfl, hb1⟩)
    go_loopw [5, 6] (fun iv jv wr => ∃ (j : Nat) (L : List Chg), j ≤ l.length ∧ (offX (l.take j)).length < j ∧ iv = .int .i64 ((offX (l.take j)).length : Int) ∧ jv = .int .i64 (j : Int) ∧ L.length = l.length ∧ L.take (offX (l.take j)).length = offX (l.take j) ∧ (∀ m, j ≤ m → L[m]? = l[m]?) ∧ DelAtX w wr B g (.slice (some ⟨g, 0, none⟩) l.length cap) L) (fun _ jv _ => l.length - (intOf jv).toNat)
    case atStart =>
      have e1 : offX (l.take (i0 + 1)) = l.take i0 := by rw [offX_take hi0, HHit.out, HT.out]; simp
      refine ⟨i0 + 1, l, by omega, by rw [e1, List.length_take]; omega, ?_, by go_num, rfl, ?_, fun _ _ => rfl, ⟨ownX_kept H.out fun k e => by cases e; exact hb1.block g hgl, hb1.mono hB, fun k _ hk => hb1.block k hk⟩⟩
      · rw [e1, List.length_take, Nat.min_eq_left (by omega)]
      · rw [e1, List.length_take, Nat.min_eq_left (by omega)]
    case round =>
      obtain ⟨j, L, hj, hij, rfl, rfl, hLl, hLt, hLd, hD⟩ := hrel
      have HD := hide hD
      have HLT := hide hLt
      have HLD := hide hLd
      have HLL := hide hLl
      clear hD hLt hLd hLl
      by_cases hlt : j < l.length
      · have hlt' : (j : Int) < (l.length : Int) := by omega
        have hown : ownX wr B (.slice (some ⟨g, 0, none⟩) L.length cap) L := by rw [HLL.out]; exact HD.out.own
        have hjL : j < L.length := by rw [HLL.out]; exact hlt
        have hx : L[j] = l[j] := by
          have := HLD.out j (Nat.le_refl _)
          rw [List.getElem?_eq_getElem hjL, List.getElem?_eq_getElem hlt] at this
          exact Option.some.inj this
        have hra := ownX_range hown hjL
        rw [hx] at hra
        have HRA := hide hra
        have HSX : Hid True := trivial
        have HOT := hide (offX_take hlt)
        generalize hxe : l[j] = x at *
        have HXE := hide hxe
        have HOWN := hide hown
        have HLX := hide hx
        clear hxe hown hx hra
        generalize hie : (offX (List.take j l)).length = i at *
        have HIE := hide hie
        clear hie
        have hsz : w.heap.size ≤ wr.heap.size := HD.out.bel.size
        have x0 : wr.cell? ⟨g, j * 3, none⟩ = some (.string x.key) := HRA.out 0 _ rfl
        have x1 : wr.cell? ⟨g, j * 3 + 1, none⟩ = some (.string x.val) := HRA.out 1 _ rfl
        have x2 : wr.cell? ⟨g, j * 3 + 2, none⟩ = some (.bool x.gone) := HRA.out 2 _ rfl
        have HH := fun W => hide (gone_any x W)
        have HC3 : Hid (∀ w2 : World, Below (wr.alloc (.cells #[.string x.key, .string x.val, .bool x.gone] 54)).heap.size (wr.alloc (.cells #[.string x.key, .string x.val, .bool x.gone] 54)) w2 → w2.cell? ⟨wr.heap.size, 0, none⟩ = some (.string x.key) ∧ w2.cell? ⟨wr.heap.size, 1, none⟩ = some (.string x.val) ∧ w2.cell? ⟨wr.heap.size, 2, none⟩ = some (.bool x.gone)) := fun w2 hb => ⟨cell_on hb (cell_new _ _ _ 0), cell_on hb (cell_new _ _ _ 1), cell_on hb (cell_new _ _ _ 2)⟩
        have HDX : Hid (∀ w2 : World, Below (wr.alloc (.cells #[.string x.key, .string x.val, .bool x.gone] 54)).heap.size (wr.alloc (.cells #[.string x.key, .string x.val, .bool x.gone] 54)) w2 → DelAtX w w2 B g (.slice (some ⟨g, 0, none⟩) l.length cap) L) := fun w2 hb => by
          have hb' := below_on (below_alloc1 wr (.cells #[.string x.key, .string x.val, .bool x.gone] 54)) (Nat.le_refl _) hb
          exact ⟨ownX_kept HD.out.own fun k e => by cases e; exact hb'.block g (by omega), HD.out.bel.trans (hb'.mono (by omega)), fun k h1 h2 => (hb'.block k (by omega)).trans (HD.out.far k h1 h2)⟩
        cases hbq : x.gone with
        | true =>
          simp only [hbq] at HH x2 HC3 HDX
          go_wp2_with (first
            | (go_at_call 42; refine (HH _).out.mono ?_; rintro e w2 ⟨rfl, hb2⟩; obtain ⟨y0, y1, y2⟩ := HC3.out _ hb2)
            | fail)
          have e1 : offX (l.take (j + 1)) = offX (l.take j) := by rw [HOT.out, hbq]; simp
          refine ⟨⟨j + 1, L, by omega, by rw [e1, HIE.out]; omega, by rw [e1, HIE.out], by go_num, HLL.out, by rw [e1, HIE.out]; exact HLT.out, fun m hm => HLD.out m (by omega), HDX.out _ hb2⟩, by simp [intOf]; omega⟩
        | false =>
          simp only [hbq] at HH x2 HC3 HDX
          have HZ : Hid (∀ w2 : World, Below (wr.alloc (.cells #[.string x.key, .string x.val, .bool false] 54)).heap.size (wr.alloc (.cells #[.string x.key, .string x.val, .bool false] 54)) w2 → (∃ u0 u1 u2, w2.cell? ⟨g, i * 3, none⟩ = some u0 ∧ w2.cell? ⟨g, i * 3 + 1, none⟩ = some u1 ∧ w2.cell? ⟨g, i * 3 + 2, none⟩ = some u2) ∧ ∀ o, w2.frozen? ⟨g, o, none⟩ = false) := fun w2 hb => by
            have hw : ownX w2 B (.slice (some ⟨g, 0, none⟩) L.length cap) L := by rw [HLL.out]; exact (HDX.out _ hb).own
            have hr := ownX_range hw (i := i) (by rw [HLL.out]; omega)
            obtain ⟨cur, hcur, _⟩ := ownX_block hw
            exact ⟨⟨_, _, _, hr 0 _ rfl, hr 1 _ rfl, hr 2 _ rfl⟩, fun o => unfrozen_of_block hcur o⟩
          have hib : (i : Int) < (l.length : Int) := by omega
          go_wp2_with (first
            | (go_at_call 42; refine (HH _).out.mono ?_; rintro e w2 ⟨rfl, hb2⟩; obtain ⟨y0, y1, y2⟩ := HC3.out _ hb2; obtain ⟨⟨q0, q1, q2, z0, z1, z2⟩, zf⟩ := HZ.out _ hb2)
            | fail)
          have e1 : offX (l.take (j + 1)) = offX (l.take j) ++ [x] := by rw [HOT.out, hbq]; rfl
          have e2 : (offX (l.take (j + 1))).length = i + 1 := by rw [e1, List.length_append, HIE.out]; rfl
          have hD2 := HDX.out _ hb2
          have hiL : i < L.length := by rw [HLL.out]; omega
          refine ⟨⟨j + 1, L.set i x, by omega, by rw [e2]; omega, by rw [e2]; go_num, by go_num, by rw [List.length_set]; exact HLL.out, ?_, fun m hm => ?_, ⟨?_, below_setCells hBg [.string x.key, .string x.val, .bool false] (i * 3) _ hD2.bel, fun k h1 h2 => (heap_setCells_other g [.string x.key, .string x.val, .bool false] (i * 3) _ h1).trans (hD2.far k h1 h2)⟩⟩, by simp [intOf]; omega⟩
          · rw [e2, e1, List.take_set, List.take_succ_eq_append_getElem hiL, HLT.out, List.set_append_right _ _ (by rw [HIE.out]; exact Nat.le_refl _), HIE.out, Nat.sub_self]; rfl
          · rw [List.getElem?_set_ne (by omega)]; exact HLD.out m (by omega)
          · have hcx : cellsC x = [.string x.key, .string x.val, .bool false] := by unfold cellsC; rw [hbq]
            have := ownX_set (by rw [HLL.out]; exact hD2.own) i hiL x HSX.out
            rw [hcx] at this
            rw [HLL.out] at this
            exact this
      · have ej : j = l.length := by omega
        subst ej
        have hlt' : ¬ (l.length : Int) < (l.length : Int) := by omega
        rw [List.take_length] at *
        have hown : ownX wr B (.slice (some ⟨g, 0, none⟩) L.length cap) L := by rw [HLL.out]; exact HD.out.own
        have hR := ownX_cut hown HLT.out
        obtain ⟨cur, hcur, hcl⟩ := ownX_block hown
        obtain ⟨z, hz1, hz2, hz3⟩ := zero_chg
        have hrun := fun ty => run_clear_any (P := Tryz.prog) wr 40 54 ty z Tryz.underlying40 hz1 hz3 g ((offX l).length * 3) (l.length - (offX l).length) (cap - (offX l).length) cur _ hcur (by rw [hz2, hcl, ← Nat.add_mul]; exact Nat.mul_le_mul_right _ (by omega))
        have HP := hide (ownX_past hR (Builtin.zeroCells z.cells (l.length - (offX l).length)).toList (by simp only [Builtin.zeroCells, Array.length_toList, Array.size_map, Array.size_range, hz2]; rw [← Nat.add_mul]; exact Nat.mul_le_mul_right _ (by omega)))
        generalize (Builtin.zeroCells z.cells (l.length - (offX l).length)).toList = zs at *
        have HHR := hide hrun
        clear hrun hz1 hz2 hz3 hR hown hcur hcl
        generalize hRe : offX l = R at *
        have HRE := hide hRe
        clear hRe
        have hr0 := HHR.out 0
        go_wp2
        go_ret
        rw [HRE.out]
        exact ⟨rfl, ⟨HP.out, below_setCells hBg _ _ _ HD.out.bel, fun k h1 h2 => (heap_setCells_other g _ _ _ h1).trans (HD.out.far k h1 h2)⟩⟩
set_option maxRecDepth 100000 in
set_option maxHeartbeats 400000 in
theorem delFX_nil (w : World) :
    Calls Tryz.prog 41 #[.slice none 0 0, .func (.func 42) #[] #[]] w fun e w' => e = .returned (.slice none 0 0) ∧ w' = w := by
  have HI : Calls Tryz.prog 60 #[.slice none 0 0, .func (.func 42) #[] #[]] w fun e w' => e = .returned (.int .i64 (-1)) ∧ w' = w := by
    go_enter Tryz.func60, Tryz.ntmps60
    go_wp2
    refine wp_loop_rounds 1 ?_
    rw [rounds_succ]
    go_wp2
    go_ret
    exact ⟨rfl, rfl⟩
  go_enter Tryz.func41, Tryz.ntmps41
  go_wp2_with (go_at_call 60; refine HI.mono ?_; rintro e w1 ⟨rfl, rfl⟩)
  go_ret
  exact ⟨rfl, rfl⟩
/-- what is left of a row of writes, whatever it was -/
structure DelVX (w w' : World) (B : Nat) (v v' : Value) (l : List Chg) : Prop where
  own : ownX w' B v' l
  bel : Below B w w'
  far : ∀ k, v.ownBlock ≠ some k → k < w.heap.size → w'.heap[k]? = w.heap[k]?
  same : v'.ownBlock = v.ownBlock
theorem delX_any (v : Value) (l : List Chg) (B : Nat) (w : World) (h : ownX w B v l) (hl : l.length ≤ 1000) (hB : B ≤ w.heap.size) :
    Calls Tryz.prog 41 #[v, .func (.func 42) #[] #[]] w fun e w' => ∃ ao n cap, e = .returned (.slice ao n cap) ∧ DelVX w w' B v (.slice ao n cap) (offX l) := by
  rcases h.1.2 with ⟨e, e2⟩ | ⟨g, cap, cur, e, _⟩
  · subst e
    have hl0 : l = [] := List.eq_nil_of_length_eq_zero e2
    subst hl0
    exact (delFX_nil w).mono fun e w' ⟨he, hw⟩ => ⟨none, 0, 0, he, by subst hw; exact ⟨h, Below.refl _ _, fun _ _ _ => rfl, rfl⟩⟩
  · subst e
    exact (delFX_some g cap l B w h hl hB).mono fun e w' ⟨he, hD⟩ => ⟨_, _, _, he, ⟨hD.own, hD.bel, fun k hk hlt => hD.far k (fun e => hk (by rw [e]; rfl)) hlt, rfl⟩⟩
end Go.Proofs.YtkfpfbkdalbjoaaGreat

/-
  What store.behind returns: rows behind a deed, in a row of their own.
-/
namespace Go.Proofs.YtkfpfbkdalbjoaaGreat
open Go.RowKit Go.Joins
attribute [local go_sem ↓] Go.wp_at_zero Go.wp_at_succ

theorem fold_take {l rows : List Chg} {k : Nat} (hk : k < l.length) : (l.take (k + 1)).foldl insL rows = insL ((l.take k).foldl insL rows) l[k] := by
  rw [List.take_succ_eq_append_getElem hk, List.foldl_append]; rfl
set_option maxRecDepth 8000 in
set_option maxHeartbeats 4000000 in
theorem behind_any (rows l : List Chg) (v : Value) (ao : Option Addr) (cap B : Nat) (w : World) (ho : ownCh w B v rows) (hd : heldCh w ao l) (hr : rows.length ≤ 100) (hl : l.length ≤ 100) :
    Calls Tryz.prog 22 #[v, .slice ao l.length cap] w fun e w' => ∃ v', e = .returned v' ∧ ownCh w' w.heap.size v' (behindL rows l) ∧ Below w.heap.size w w' := by
  have HCL := hide (clone_own rows v B w ho (by omega))
  have HD := hide hd
  clear ho hd
  go_enter Tryz.func22, Tryz.ntmps22
  go_wp2_with (go_at_call 39; refine HCL.out.mono ?_; rintro e w1 ⟨v1, rfl, ho1, hb1⟩; have HO1 := hide ho1; have HB1 := hide hb1; clear ho1 hb1)
  go_loopw [0, 11] (fun v iv wr => ∃ k : Nat, k ≤ l.length ∧ iv = .int .i64 (k : Int) ∧ ownCh wr w.heap.size v ((l.take k).foldl insL rows) ∧ Below w.heap.size w wr) (fun _ iv _ => l.length - (intOf iv).toNat)
  case atStart => exact ⟨0, Nat.zero_le _, rfl, HO1.out, HB1.out⟩
  case round =>
    obtain ⟨k, hk, rfl, ho, hb⟩ := hrel
    clear HO1 HB1
    have hfl := fold_len (l.take k) rows
    rw [List.length_take] at hfl
    by_cases hlt : k < l.length
    · have hlt' : (k : Int) < (l.length : Int) := by omega
      have hk0 : (0 : Int) ≤ (k : Int) := by omega
      rcases HD.out with e | ⟨b, off, e, hch⟩
      · rw [e] at hlt; simp at hlt
      subst e
      obtain ⟨x0, x1, x2⟩ := hch k hlt
      have hft := fold_take (rows := rows) hlt
      clear hch
      generalize l[k] = x at *
      generalize (l.take k).foldl insL rows = m at *
      replace x0 := cell_on hb x0
      replace x1 := cell_on hb x1
      replace x2 := cell_on hb x2
      have HO := hide ho
      have HBR := hide hb
      have HFT := hide hft
      have HBX := hide (below_alloc1 wr (Obj.cells #[Value.string x.key, Value.string x.val, Value.bool x.gone] 54))
      have HPU : Hid (∀ W, Below wr.heap.size wr W → Calls Tryz.prog 40 #[u0, .agg #[.string x.key, .string x.val, .bool x.gone]] W fun e w' => ∃ v', e = .returned v' ∧ ownCh w' w.heap.size v' (insL m x) ∧ Below W.heap.size W w') := fun W hW => by
        refine (put_own m x u0 w.heap.size W (own_on HO.out hW) (by omega)).mono ?_
        rintro e w' ⟨g, cap', rfl, h1, h2⟩
        exact ⟨_, rfl, ownCh_le h1 (Nat.le_trans HBR.out.size hW.size), h2⟩
      clear ho hb hft
      go_wp2_with (go_at_call 40; refine (HPU.out _ HBX.out).mono ?_; rintro e w7 ⟨v7, rfl, ho7, hb7⟩; have HO7 := hide ho7; have HB7 := hide (below_on HBR.out (Nat.le_refl _) (below_on HBX.out (Nat.le_refl _) hb7)); clear ho7 hb7)
      exact ⟨⟨k + 1, by omega, by go_num, by rw [HFT.out]; exact HO7.out, HB7.out⟩, by simp [intOf]; omega⟩
    · have ek : k = l.length := by omega
      subst ek
      have hlt' : ¬ (l.length : Int) < (l.length : Int) := by omega
      rw [List.take_length] at ho
      have HO := hide ho
      have HBR := hide hb
      have HDE := hide (delX_any u0 (l.foldl insL rows) w.heap.size wr ⟨HO.out, fun _ _ => trivial⟩ (by have := fold_len l rows; omega) HBR.out.size)
      clear ho hb
      go_wp2_with (go_at_call 41; refine HDE.out.mono ?_; rintro e w7 ⟨a7, n7, c7, rfl, hD7⟩; have HD7 := hide hD7; clear hD7)
      go_ret
      exact ⟨_, rfl, HD7.out.own.1, HBR.out.trans HD7.out.bel⟩
end Go.Proofs.YtkfpfbkdalbjoaaGreat
