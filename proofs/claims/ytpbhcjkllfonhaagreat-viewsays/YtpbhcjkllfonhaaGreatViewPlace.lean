/-
  What view.place returns of rows that rise: where the row of a key stands or belongs, and whether it is there. It changes nothing that was there.
-/
import Derived.Test.YtpbhcjkllfonhaaGreatRefAppL
import Derived.Test.YtpbhcjkllfonhaaGreatShelfSearch
import Derived.Shelf.SlSorted.Search
import Derived.Deep.QuietTactic
import Derived.BigQuiet
import Derived.Test.YtpbhcjkllfonhaaGreatVerScan2
import Derived.Laws.IdiomCopy
import Derived.Shelf.Spec.SlicesInsert
namespace Go.Proofs.YtpbhcjkllfonhaaGreat
open Go.RowKit Go.Joins Go.Shelf
attribute [local go_sem ↓] Go.wp_at_zero Go.wp_at_succ

theorem place_lo {l : List (ByteArray × ByteArray)} {key : ByteArray} {i : Nat} (h : i < placeR l key) (hl : i < l.length) : ltS l[i].1 key = true := by
  have := List.not_of_lt_findIdx (p := fun r : ByteArray × ByteArray => !ltS r.1 key) h
  simpa using this
theorem place_hi {l : List (ByteArray × ByteArray)} (hr : riseP l) {key : ByteArray} {i : Nat} (h : placeR l key ≤ i) (hl : i < l.length) : ltS l[i].1 key = false := by
  have hp : placeR l key < l.length := by omega
  have h0 : ltS l[placeR l key].1 key = false := by
    have h2 : (!ltS l[placeR l key].1 key) = true := List.findIdx_getElem (p := fun r : ByteArray × ByteArray => !ltS r.1 key) (xs := l) (w := hp)
    simpa using h2
  rcases Nat.eq_or_lt_of_le h with e | e
  · subst e; exact h0
  · cases hc : ltS l[i].1 key with
    | false => rfl
    | true =>
      have := (List.pairwise_iff_getElem.1 hr) (placeR l key) i hp hl e
      have := ltS_trans this hc
      rw [h0] at this; cases this
/-- is the row at a place at the key or above it? -/
def geAt (l : List (ByteArray × ByteArray)) (key : ByteArray) (i : Nat) : Bool := match l[i]? with
  | some r => !ltS r.1 key
  | none => true
theorem geAt_iff {l : List (ByteArray × ByteArray)} (hr : riseP l) {key : ByteArray} {i : Nat} (hi : i < l.length) : geAt l key i = decide (placeR l key ≤ i) := by
  unfold geAt
  rw [List.getElem?_eq_getElem hi]
  rcases Nat.lt_or_ge i (placeR l key) with h | h
  · simp only [place_lo h hi]; simp; omega
  · simp only [place_hi hr h hi]; simp; omega
theorem count_below (n p : Nat) (hp : p ≤ n) : (List.range n).countP (fun i => !decide (p ≤ i)) = p := by
  induction n with
  | zero => have : p = 0 := by omega
            subst this; rfl
  | succ n ih =>
    rw [List.range_succ, List.countP_append]
    rcases Nat.lt_or_ge n p with h | h
    · have e : p = n + 1 := by omega
      subst e
      have : (List.range n).countP (fun i => !decide (n + 1 ≤ i)) = n := by
        rw [List.countP_eq_length.2]
        · exact List.length_range
        · intro a ha; have := List.mem_range.1 ha; simp; omega
      rw [this]; simp
    · rw [ih h]; simp; omega
theorem count_place {l : List (ByteArray × ByteArray)} (hr : riseP l) (key : ByteArray) : (List.range l.length).countP (fun i => !geAt l key i) = placeR l key := by
  rw [← count_below l.length (placeR l key) (placeR_le l key)]
  exact List.countP_congr fun i hi => by rw [geAt_iff hr (List.mem_range.1 hi)]
theorem drew_grow_below (w : World) (k : Nat) (os : Array Obj) : Below w.heap.size w (Go.Sort.grow (w.drewN k) os) := by
  refine ⟨rfl, rfl, rfl, ?_, fun i hi => ?_⟩
  · show w.heap.size ≤ (w.heap ++ os).size
    simp
  · show (w.heap ++ os)[i]? = w.heap[i]?
    rw [Array.getElem?_append_left hi]
set_option maxHeartbeats 1000000 in
theorem placeFn_any (l : List (ByteArray × ByteArray)) (b off cap ab kb i : Nat) (key : ByteArray) (w : World) (hl : spansAt w b off l) (ha : w.cell? ⟨ab, 0, none⟩ = some (.slice (some ⟨b, off, none⟩) l.length cap)) (hk : w.cell? ⟨kb, 0, none⟩ = some (.string key)) (hi : i < l.length) :
    Calls Tryz.prog 80 (#[.int .i64 i] ++ #[.pointer (some ⟨ab, 0, none⟩), .pointer (some ⟨kb, 0, none⟩)]) w fun e w' => e = .returned (.bool (geAt l key i)) ∧ ∃ q os', w' = Go.Sort.grow (w.drewN q) os' := by
  obtain ⟨c0, _⟩ := hl i hi
  have hlt : (i : Int) < (l.length : Int) := by omega
  have h0 : (0 : Int) ≤ (i : Int) := Int.natCast_nonneg _
  have HG : Hid (geAt l key i = !ltS l[i].1 key) := by unfold Hid geAt; rw [List.getElem?_eq_getElem hi]
  obtain ⟨c, hc⟩ : ∃ c, Op.bytesLess l[i].1.toList key.toList = c := ⟨_, rfl⟩
  have HC : Hid (ltS l[i].1 key = c) := hc
  rw [show (#[Value.int .i64 (i : Int)] ++ #[Value.pointer (some ⟨ab, 0, none⟩), Value.pointer (some ⟨kb, 0, none⟩)]) = #[Value.int .i64 (i : Int), Value.pointer (some ⟨ab, 0, none⟩), Value.pointer (some ⟨kb, 0, none⟩)] from rfl]
  clear hl
  go_enter Tryz.func80, Tryz.ntmps80
  go_wp2
  go_quiet (fail)
  go_wp2
  go_ret
  exact ⟨ret_bool (by rw [HG.out, HC.out]), nq, #[], (by unfold Go.Sort.grow; rw [Array.append_empty])⟩
theorem place_mono {l : List (ByteArray × ByteArray)} (hr : riseP l) (key : ByteArray) : ∀ a b, a ≤ b → b < l.length → geAt l key a = true → geAt l key b = true := fun a b hab hb h => by
  rw [geAt_iff hr (by omega)] at h
  rw [geAt_iff hr hb]
  simp at h ⊢
  omega
theorem enters_place : ∀ args w, (callFunc 80 args).run Tryz.prog w = .ok (.enter 80 args) w := enters_of Tryz.func80 (by kernel_rfl) rfl
theorem search_any (l : List (ByteArray × ByteArray)) (b off cap ab kb : Nat) (key : ByteArray) (w : World) (hl : spansAt w b off l) (hr : riseP l) (ha : w.cell? ⟨ab, 0, none⟩ = some (.slice (some ⟨b, off, none⟩) l.length cap)) (hk : w.cell? ⟨kb, 0, none⟩ = some (.string key)) (hn : l.length ≤ 1000000) :
    Calls Tryz.prog 79 #[.int .i64 l.length, .func (.func 80) #[] #[.pointer (some ⟨ab, 0, none⟩), .pointer (some ⟨kb, 0, none⟩)]] w fun e w' => e = .returned (.int .i64 (placeR l key)) ∧ Below w.heap.size w w' := by
  refine (Any.sort_Search Tryz.search 80 #[.pointer (some ⟨ab, 0, none⟩), .pointer (some ⟨kb, 0, none⟩)] l.length (geAt l key) w enters_place (by omega) (fun m os i hi => ?_) (place_mono hr key)).mono ?_
  · have hb := drew_grow_below w m os
    exact placeFn_any l b off cap ab kb i key _ (spansAt_on hb hl) (cell_on hb ha) (cell_on hb hk) hi
  · rintro e w' ⟨rfl, q, os, rfl⟩
    rw [count_place hr]
    exact ⟨rfl, drew_grow_below w q os⟩
theorem search_nil (ab kb : Nat) (w : World) :
    Calls Tryz.prog 79 #[.int .i64 0, .func (.func 80) #[] #[.pointer (some ⟨ab, 0, none⟩), .pointer (some ⟨kb, 0, none⟩)]] w fun e w' => e = .returned (.int .i64 0) ∧ Below w.heap.size w w' := by
  refine (Any.sort_Search Tryz.search 80 #[.pointer (some ⟨ab, 0, none⟩), .pointer (some ⟨kb, 0, none⟩)] 0 (fun _ => true) w enters_place (by omega) (fun m os i hi => absurd hi (Nat.not_lt_zero _)) (fun _ _ _ _ h => h)).mono ?_
  rintro e w' ⟨rfl, q, os, rfl⟩
  exact ⟨rfl, drew_grow_below w q os⟩
set_option maxHeartbeats 2000000 in
theorem vplace_some (l : List (ByteArray × ByteArray)) (b off cap : Nat) (key : ByteArray) (w : World) (hl : spansAt w b off l) (hr : riseP l) (hn : l.length ≤ 1000000) :
    Calls Tryz.prog 66 #[.slice (some ⟨b, off, none⟩) l.length cap, .string key] w fun e w' => e = .returned (.tuple #[.int .i64 (placeR l key), .bool (foundR l key)]) ∧ Below w.heap.size w w' := by
  have hB1 := below_alloc1 w (Obj.cells #[Value.slice (some ⟨b, off, none⟩) l.length cap] 22)
  have hB2 := below_alloc1 (w.alloc (Obj.cells #[Value.slice (some ⟨b, off, none⟩) l.length cap] 22)) (Obj.cells #[Value.string key] 9)
  have a0 := cell_on hB2 (cell_new w #[Value.slice (some ⟨b, off, none⟩) l.length cap] 22 0)
  have a1 : ((w.alloc (Obj.cells #[Value.slice (some ⟨b, off, none⟩) l.length cap] 22)).alloc (Obj.cells #[Value.string key] 9)).cell? ⟨w.heap.size + 1, 0, none⟩ = some (.string key) := by
    simp
  have HB := hide (below_on hB1 (Nat.le_refl _) hB2)
  have hple := placeR_le l key
  have HS := hide (search_any l b off cap w.heap.size (w.heap.size + 1) key _ (spansAt_on HB.out hl) hr a0 a1 hn)
  have HL := hide (spansAt_on HB.out hl)
  have HR := hide hr
  obtain ⟨p, hp⟩ : ∃ p, placeR l key = p := ⟨_, rfl⟩
  have HP := hide hp
  rw [hp] at HS hple ⊢
  clear hB1 hB2 hl hr hp
  by_cases hlt : p < l.length
  · have hlt' : (p : Int) < (l.length : Int) := by omega
    have hp0 : (0 : Int) ≤ (p : Int) := Int.natCast_nonneg _
    have HF : Hid (foundR l key = (l[p].1.toList == key.toList)) := by unfold Hid foundR; rw [HP.out, List.getElem?_eq_getElem hlt]; rfl
    go_enter Tryz.func66, Tryz.ntmps66
    go_wp2_with (go_at_call 79; refine HS.out.mono ?_; rintro e w1 ⟨rfl, hb1⟩; replace a0 := cell_on hb1 a0; replace a1 := cell_on hb1 a1; have c0 := (spansAt_on hb1 HL.out p hlt).1; have HB1 := hide (below_on HB.out (Nat.le_refl _) hb1); clear hb1)
    go_quiet (fail)
    go_wp2
    go_ret2
    exact ⟨by rw [HF.out]; rfl, below_drewN HB1.out _⟩
  · have hlt' : ¬ (p : Int) < (l.length : Int) := by omega
    have hd : decide ((p : Int) < (l.length : Int)) = false := by simpa using hlt'
    have HF : Hid (foundR l key = false) := by unfold Hid foundR; rw [HP.out, List.getElem?_eq_none (by omega)]
    go_enter Tryz.func66, Tryz.ntmps66
    go_wp2_with (go_at_call 79; refine HS.out.mono ?_; rintro e w1 ⟨rfl, hb1⟩; replace a0 := cell_on hb1 a0; replace a1 := cell_on hb1 a1; have HB1 := hide (below_on HB.out (Nat.le_refl _) hb1); clear hb1)
    go_quiet (fail)
    go_wp2
    go_ret2
    exact ⟨by rw [HF.out]; rfl, below_drewN HB1.out _⟩
set_option maxHeartbeats 2000000 in
theorem vplace_nil (ao : Option Addr) (cap : Nat) (key : ByteArray) (w : World) :
    Calls Tryz.prog 66 #[.slice ao 0 cap, .string key] w fun e w' => e = .returned (.tuple #[.int .i64 0, .bool false]) ∧ Below w.heap.size w w' := by
  have hB1 := below_alloc1 w (Obj.cells #[Value.slice ao 0 cap] 22)
  have hB2 := below_alloc1 (w.alloc (Obj.cells #[Value.slice ao 0 cap] 22)) (Obj.cells #[Value.string key] 9)
  have a0 := cell_on hB2 (cell_new w #[Value.slice ao 0 cap] 22 0)
  have HB := hide (below_on hB1 (Nat.le_refl _) hB2)
  clear hB1 hB2
  go_enter Tryz.func66, Tryz.ntmps66
  go_wp2_with (go_at_call 79; refine (search_nil _ _ _).mono ?_; rintro e w1 ⟨rfl, hb1⟩; replace a0 := cell_on hb1 a0; have HB1 := hide (below_on HB.out (Nat.le_refl _) hb1); clear hb1)
  go_quiet (fail)
  go_wp2
  go_ret2
  exact ⟨rfl, below_drewN HB1.out _⟩
/-- rows of one's own -/
theorem vplace_own (l : List (ByteArray × ByteArray)) (v : Value) (B : Nat) (key : ByteArray) (w : World) (ho : ownP w B v l) (hr : riseP l) (hn : l.length ≤ 1000000) :
    Calls Tryz.prog 66 #[v, .string key] w fun e w' => e = .returned (.tuple #[.int .i64 (placeR l key), .bool (foundR l key)]) ∧ Below w.heap.size w w' := by
  obtain ⟨ao, cap, rfl, hh⟩ := ownP_held ho
  rcases hh with rfl | ⟨b, off, rfl, h⟩
  · exact vplace_nil _ _ _ _
  · exact vplace_some l b off cap key w h hr hn
end Go.Proofs.YtpbhcjkllfonhaaGreat

/-
  The builtin copy over elements of more cells than one; a row of one's own widened into its spare cells; cells laid over a list. Nothing of the program's functions is named here.
-/
namespace Go.Proofs.YtpbhcjkllfonhaaGreat
open Go.RowKit Go.Joins

theorem run_copy_k {P : Program} (w : World) (dT sT ty elem : TypeId) (m b o dLen dCap : Nat) (a : Addr) (sLen sCap : Nat) (cs : List Value)
    (hu : P.underlying dT = some (.slice elem)) (hs : (P.info? elem).map (·.size) = some m) (hn : cs.length = Nat.min sLen dLen * m)
    (hsrc : ∀ j v, cs[j]? = some v → w.cell? (a.add j) = some v) (hc : ∀ j, j < cs.length → (w.cell? ⟨b, o + j, none⟩).isSome = true) (hf : ∀ j, j < cs.length → w.frozen? ⟨b, o + j, none⟩ = false) (h1 : ∀ v ∈ cs, v.oneCell' = true) :
    (Builtin.copy_ #[dT, sT] ty #[.slice (some ⟨b, o, none⟩) dLen dCap, .slice (some a) sLen sCap]).run P w = .ok (goInt (Nat.min sLen dLen)) (w.setCells b o cs) := by
  have hl := run_loadCells_list (P := P) w a cs hsrc
  have hst := run_storeCells_cells (P := P) b o cs 0 w (by simpa using hc) (by simpa using hf) h1
  cases hq : P.info? elem with
  | none => simp [hq] at hs
  | some i =>
    have hi : i.size = m := by simpa [hq] using hs
    rw [hn] at hl
    simp only [Nat.add_zero] at hst
    simp [Builtin.copy_, run_underlying hu, Builtin.lenOf, Builtin.firstCells, sizeOf, typeInfo, hq, hi, hl, hst]
/-- a row of one's own, a part of its spare cells taken in -/
theorem own_widen {w : World} {B g n m cap : Nat} {e : TypeId} {size : Nat} {xs : List Value} (h : w.ownsRow B e size (.slice (some ⟨g, 0, none⟩) n cap) n xs) (hm : n ≤ m) (hc : m ≤ cap) : ∃ ys, ys.length = (m - n) * size ∧ w.ownsRow B e size (.slice (some ⟨g, 0, none⟩) m cap) m (xs ++ ys) := by
  obtain ⟨h1, h2⟩ := h
  rcases h2 with ⟨e1, _⟩ | ⟨g', cap', cur, e1, hb, hh, hn, hcm, hs, ht⟩
  · cases e1
  · cases e1
    have hle : n * size ≤ m * size := Nat.mul_le_mul_right _ hm
    have hlc : m * size ≤ cap * size := Nat.mul_le_mul_right _ hc
    have hlen : cur.toList.length = cap * size := by simpa using hs
    refine ⟨(cur.toList.take (m * size)).drop (n * size), by rw [List.length_drop, List.length_take, hlen, Nat.min_eq_left hlc, Nat.sub_mul], ?_, .inr ⟨g, cap, cur, rfl, hb, hh, hc, hcm, hs, ?_⟩⟩
    · rw [List.length_append, h1, List.length_drop, List.length_take, hlen, Nat.min_eq_left hlc]; omega
    · rw [← ht]
      have : cur.toList.take (n * size) = (cur.toList.take (m * size)).take (n * size) := by rw [List.take_take, Nat.min_eq_left hle]
      rw [this, List.take_append_drop]
theorem setL_hi : ∀ (vs xs : List Value) (o i : Nat), o + vs.length ≤ i → (setL xs o vs)[i]? = xs[i]?
  | [], _, _, _, _ => rfl
  | v :: r, xs, o, i, h => by
    rw [setL, setL_hi r _ _ _ (by simp at h; omega), List.getElem?_set_ne (by simp at h; omega)]
/-- cells laid over a list -/
theorem setL_eq (vs xs : List Value) (o : Nat) (h : o + vs.length ≤ xs.length) : setL xs o vs = xs.take o ++ vs ++ xs.drop (o + vs.length) := by
  apply List.ext_getElem?
  intro i
  rcases Nat.lt_or_ge i o with h1 | h1
  · rw [setL_lo _ _ _ _ h1, List.append_assoc, List.getElem?_append_left (by rw [List.length_take]; omega), List.getElem?_take, if_pos h1]
  · rcases Nat.lt_or_ge i (o + vs.length) with h2 | h2
    · rw [setL_in _ _ _ _ h1 h2 (by omega), List.append_assoc, List.getElem?_append_right (by rw [List.length_take]; omega), List.length_take, Nat.min_eq_left (by omega), List.getElem?_append_left (by omega)]
    · rw [setL_hi _ _ _ _ h2, List.getElem?_append_right (by rw [List.length_append, List.length_take]; omega), List.length_append, List.length_take, Nat.min_eq_left (by omega), List.getElem?_drop, show o + vs.length + (i - (o + vs.length)) = i by omega]
theorem grown_trans {w w1 w2 : World} {r : Option Nat} (h : w.grownBy w1 r) (h' : w1.grownBy w2 r) : w.grownBy w2 r := h.trans h'
end Go.Proofs.YtpbhcjkllfonhaaGreat
