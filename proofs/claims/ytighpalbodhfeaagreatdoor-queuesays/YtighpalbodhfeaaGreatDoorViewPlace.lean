/-
  What view.place returns of rows that rise: where the row of a key stands or belongs, and whether it is there. It changes nothing that was there.
-/
import Derived.Test.YtighpalbodhfeaaGreatDoorVerSaysL
import Derived.Test.YtighpalbodhfeaaGreatDoorShelfSearch
import Derived.Shelf.SlSorted.Search
import Derived.Deep.QuietTactic
import Derived.BigQuiet
import Derived.Test.YtighpalbodhfeaaGreatDoorVerScan2
import Derived.Laws.IdiomCopy
import Derived.Shelf.Spec.SlicesInsert
import Derived.Test.YtighpalbodhfeaaGreatDoorSpanPt
import Derived.Lib.AppendZerosOnto
import Derived.Lib.Overlaps
import Derived.Laws.Externs
import Derived.Deep.RegionLaw
namespace Go.Proofs.YtighpalbodhfeaaGreatDoor
open Go.RowKit Go.Joins Go.Shelf
attribute [local go_sem ↓] Go.wp_at_zero Go.wp_at_succ

theorem place_lo {l : List (ByteArray × ByteArray)} {key : ByteArray} {i : Nat} (h : i < placeR l key) (hl : i < l.length) : ltS l[i].1 key = true := by
  have := List.not_of_lt_findIdx (p := fun r : ByteArray × ByteArray => !ltS r.1 key) h
  simpa using this
theorem place_hi {l : List (ByteArray × ByteArray)} (hr : riseP l) {key : ByteArray} {i : Nat} (h : placeR l key ≤ i) (hl : i < l.length) : ltS l[i].1 key = false := by
  have hp : placeR l key < l.length := by omega
  have h0 : ltS l[placeR l key].1 key = false := by
    have h2 : (!ltS l[placeR l key].1 key) = true := List.findIdx_getElem (p := fun r : ByteArray × ByteArray => !ltS r.1 key) (xs := l) (w := hp)
    simpa using h2
  rcases Nat.eq_or_lt_of_le h with e | e
  · subst e; exact h0
  · cases hc : ltS l[i].1 key with
    | false => rfl
    | true =>
      have := (List.pairwise_iff_getElem.1 hr) (placeR l key) i hp hl e
      have := ltS_trans this hc
      rw [h0] at this; cases this
/-- is the row at a place at the key or above it? -/
def geAt (l : List (ByteArray × ByteArray)) (key : ByteArray) (i : Nat) : Bool := match l[i]? with
  | some r => !ltS r.1 key
  | none => true
theorem geAt_iff {l : List (ByteArray × ByteArray)} (hr : riseP l) {key : ByteArray} {i : Nat} (hi : i < l.length) : geAt l key i = decide (placeR l key ≤ i) := by
  unfold geAt
  rw [List.getElem?_eq_getElem hi]
  rcases Nat.lt_or_ge i (placeR l key) with h | h
  · simp only [place_lo h hi]; simp; omega
  · simp only [place_hi hr h hi]; simp; omega
theorem count_below (n p : Nat) (hp : p ≤ n) : (List.range n).countP (fun i => !decide (p ≤ i)) = p := by
  induction n with
  | zero => have : p = 0 := by omega
            subst this; rfl
  | succ n ih =>
    rw [List.range_succ, List.countP_append]
    rcases Nat.lt_or_ge n p with h | h
    · have e : p = n + 1 := by omega
      subst e
      have : (List.range n).countP (fun i => !decide (n + 1 ≤ i)) = n := by
        rw [List.countP_eq_length.2]
        · exact List.length_range
        · intro a ha; have := List.mem_range.1 ha; simp; omega
      rw [this]; simp
    · rw [ih h]; simp; omega
theorem count_place {l : List (ByteArray × ByteArray)} (hr : riseP l) (key : ByteArray) : (List.range l.length).countP (fun i => !geAt l key i) = placeR l key := by
  rw [← count_below l.length (placeR l key) (placeR_le l key)]
  exact List.countP_congr fun i hi => by rw [geAt_iff hr (List.mem_range.1 hi)]
theorem drew_grow_below (w : World) (k : Nat) (os : Array Obj) : Below w.heap.size w (Go.Sort.grow (w.drewN k) os) := by
  refine ⟨rfl, rfl, rfl, ?_, fun i hi => ?_⟩
  · show w.heap.size ≤ (w.heap ++ os).size
    simp
  · show (w.heap ++ os)[i]? = w.heap[i]?
    rw [Array.getElem?_append_left hi]
set_option maxHeartbeats 1000000 in
theorem placeFn_any (l : List (ByteArray × ByteArray)) (b off cap ab kb i : Nat) (key : ByteArray) (w : World) (hl : spansAt w b off l) (ha : w.cell? ⟨ab, 0, none⟩ = some (.slice (some ⟨b, off, none⟩) l.length cap)) (hk : w.cell? ⟨kb, 0, none⟩ = some (.string key)) (hi : i < l.length) :
    Calls Tryz.prog 161 (#[.int .i64 i] ++ #[.pointer (some ⟨ab, 0, none⟩), .pointer (some ⟨kb, 0, none⟩)]) w fun e w' => e = .returned (.bool (geAt l key i)) ∧ ∃ q os', w' = Go.Sort.grow (w.drewN q) os' := by
  obtain ⟨c0, _⟩ := hl i hi
  have hlt : (i : Int) < (l.length : Int) := by omega
  have h0 : (0 : Int) ≤ (i : Int) := Int.natCast_nonneg _
  have HG : Hid (geAt l key i = !ltS l[i].1 key) := by unfold Hid geAt; rw [List.getElem?_eq_getElem hi]
  obtain ⟨c, hc⟩ : ∃ c, Op.bytesLess l[i].1.toList key.toList = c := ⟨_, rfl⟩
  have HC : Hid (ltS l[i].1 key = c) := hc
  rw [show (#[Value.int .i64 (i : Int)] ++ #[Value.pointer (some ⟨ab, 0, none⟩), Value.pointer (some ⟨kb, 0, none⟩)]) = #[Value.int .i64 (i : Int), Value.pointer (some ⟨ab, 0, none⟩), Value.pointer (some ⟨kb, 0, none⟩)] from rfl]
  clear hl
  go_enter Tryz.func161, Tryz.ntmps161
  go_wp2
  go_quiet (fail)
  go_wp2
  go_ret
  exact ⟨ret_bool (by rw [HG.out, HC.out]), nq, #[], (by unfold Go.Sort.grow; rw [Array.append_empty])⟩
theorem place_mono {l : List (ByteArray × ByteArray)} (hr : riseP l) (key : ByteArray) : ∀ a b, a ≤ b → b < l.length → geAt l key a = true → geAt l key b = true := fun a b hab hb h => by
  rw [geAt_iff hr (by omega)] at h
  rw [geAt_iff hr hb]
  simp at h ⊢
  omega
theorem enters_place : ∀ args w, (callFunc 161 args).run Tryz.prog w = .ok (.enter 161 args) w := enters_of Tryz.func161 (by kernel_rfl) rfl
theorem search_any (l : List (ByteArray × ByteArray)) (b off cap ab kb : Nat) (key : ByteArray) (w : World) (hl : spansAt w b off l) (hr : riseP l) (ha : w.cell? ⟨ab, 0, none⟩ = some (.slice (some ⟨b, off, none⟩) l.length cap)) (hk : w.cell? ⟨kb, 0, none⟩ = some (.string key)) (hn : l.length ≤ 1000000) :
    Calls Tryz.prog 160 #[.int .i64 l.length, .func (.func 161) #[] #[.pointer (some ⟨ab, 0, none⟩), .pointer (some ⟨kb, 0, none⟩)]] w fun e w' => e = .returned (.int .i64 (placeR l key)) ∧ Below w.heap.size w w' := by
  refine (Any.sort_Search Tryz.search 161 #[.pointer (some ⟨ab, 0, none⟩), .pointer (some ⟨kb, 0, none⟩)] l.length (geAt l key) w enters_place (by omega) (fun m os i hi => ?_) (place_mono hr key)).mono ?_
  · have hb := drew_grow_below w m os
    exact placeFn_any l b off cap ab kb i key _ (spansAt_on hb hl) (cell_on hb ha) (cell_on hb hk) hi
  · rintro e w' ⟨rfl, q, os, rfl⟩
    rw [count_place hr]
    exact ⟨rfl, drew_grow_below w q os⟩
theorem search_nil (ab kb : Nat) (w : World) :
    Calls Tryz.prog 160 #[.int .i64 0, .func (.func 161) #[] #[.pointer (some ⟨ab, 0, none⟩), .pointer (some ⟨kb, 0, none⟩)]] w fun e w' => e = .returned (.int .i64 0) ∧ Below w.heap.size w w' := by
  refine (Any.sort_Search Tryz.search 161 #[.pointer (some ⟨ab, 0, none⟩), .pointer (some ⟨kb, 0, none⟩)] 0 (fun _ => true) w enters_place (by omega) (fun m os i hi => absurd hi (Nat.not_lt_zero _)) (fun _ _ _ _ h => h)).mono ?_
  rintro e w' ⟨rfl, q, os, rfl⟩
  exact ⟨rfl, drew_grow_below w q os⟩
set_option maxHeartbeats 2000000 in
theorem vplace_some (l : List (ByteArray × ByteArray)) (b off cap : Nat) (key : ByteArray) (w : World) (hl : spansAt w b off l) (hr : riseP l) (hn : l.length ≤ 1000000) :
    Calls Tryz.prog 141 #[.slice (some ⟨b, off, none⟩) l.length cap, .string key] w fun e w' => e = .returned (.tuple #[.int .i64 (placeR l key), .bool (foundR l key)]) ∧ Below w.heap.size w w' := by
  have hB1 := below_alloc1 w (Obj.cells #[Value.slice (some ⟨b, off, none⟩) l.length cap] 22)
  have hB2 := below_alloc1 (w.alloc (Obj.cells #[Value.slice (some ⟨b, off, none⟩) l.length cap] 22)) (Obj.cells #[Value.string key] 9)
  have a0 := cell_on hB2 (cell_new w #[Value.slice (some ⟨b, off, none⟩) l.length cap] 22 0)
  have a1 : ((w.alloc (Obj.cells #[Value.slice (some ⟨b, off, none⟩) l.length cap] 22)).alloc (Obj.cells #[Value.string key] 9)).cell? ⟨w.heap.size + 1, 0, none⟩ = some (.string key) := by
    simp
  have HB := hide (below_on hB1 (Nat.le_refl _) hB2)
  have hple := placeR_le l key
  have HS := hide (search_any l b off cap w.heap.size (w.heap.size + 1) key _ (spansAt_on HB.out hl) hr a0 a1 hn)
  have HL := hide (spansAt_on HB.out hl)
  have HR := hide hr
  obtain ⟨p, hp⟩ : ∃ p, placeR l key = p := ⟨_, rfl⟩
  have HP := hide hp
  rw [hp] at HS hple ⊢
  clear hB1 hB2 hl hr hp
  by_cases hlt : p < l.length
  · have hlt' : (p : Int) < (l.length : Int) := by omega
    have hp0 : (0 : Int) ≤ (p : Int) := Int.natCast_nonneg _
    have HF : Hid (foundR l key = (l[p].1.toList == key.toList)) := by unfold Hid foundR; rw [HP.out, List.getElem?_eq_getElem hlt]; rfl
    go_enter Tryz.func141, Tryz.ntmps141
    go_wp2_with (go_at_call 160; refine HS.out.mono ?_; rintro e w1 ⟨rfl, hb1⟩; replace a0 := cell_on hb1 a0; replace a1 := cell_on hb1 a1; have c0 := (spansAt_on hb1 HL.out p hlt).1; have HB1 := hide (below_on HB.out (Nat.le_refl _) hb1); clear hb1)
    go_quiet (fail)
    go_wp2
    go_ret2
    exact ⟨by rw [HF.out]; rfl, below_drewN HB1.out _⟩
  · have hlt' : ¬ (p : Int) < (l.length : Int) := by omega
    have hd : decide ((p : Int) < (l.length : Int)) = false := by simpa using hlt'
    have HF : Hid (foundR l key = false) := by unfold Hid foundR; rw [HP.out, List.getElem?_eq_none (by omega)]
    go_enter Tryz.func141, Tryz.ntmps141
    go_wp2_with (go_at_call 160; refine HS.out.mono ?_; rintro e w1 ⟨rfl, hb1⟩; replace a0 := cell_on hb1 a0; replace a1 := cell_on hb1 a1; have HB1 := hide (below_on HB.out (Nat.le_refl _) hb1); clear hb1)
    go_quiet (fail)
    go_wp2
    go_ret2
    exact ⟨by rw [HF.out]; rfl, below_drewN HB1.out _⟩
set_option maxHeartbeats 2000000 in
theorem vplace_nil (ao : Option Addr) (cap : Nat) (key : ByteArray) (w : World) :
    Calls Tryz.prog 141 #[.slice ao 0 cap, .string key] w fun e w' => e = .returned (.tuple #[.int .i64 0, .bool false]) ∧ Below w.heap.size w w' := by
  have hB1 := below_alloc1 w (Obj.cells #[Value.slice ao 0 cap] 22)
  have hB2 := below_alloc1 (w.alloc (Obj.cells #[Value.slice ao 0 cap] 22)) (Obj.cells #[Value.string key] 9)
  have a0 := cell_on hB2 (cell_new w #[Value.slice ao 0 cap] 22 0)
  have HB := hide (below_on hB1 (Nat.le_refl _) hB2)
  clear hB1 hB2
  go_enter Tryz.func141, Tryz.ntmps141
  go_wp2_with (go_at_call 160; refine (search_nil _ _ _).mono ?_; rintro e w1 ⟨rfl, hb1⟩; replace a0 := cell_on hb1 a0; have HB1 := hide (below_on HB.out (Nat.le_refl _) hb1); clear hb1)
  go_quiet (fail)
  go_wp2
  go_ret2
  exact ⟨rfl, below_drewN HB1.out _⟩
/-- rows of one's own -/
theorem vplace_own (l : List (ByteArray × ByteArray)) (v : Value) (B : Nat) (key : ByteArray) (w : World) (ho : ownP w B v l) (hr : riseP l) (hn : l.length ≤ 1000000) :
    Calls Tryz.prog 141 #[v, .string key] w fun e w' => e = .returned (.tuple #[.int .i64 (placeR l key), .bool (foundR l key)]) ∧ Below w.heap.size w w' := by
  obtain ⟨ao, cap, rfl, hh⟩ := ownP_held ho
  rcases hh with rfl | ⟨b, off, rfl, h⟩
  · exact vplace_nil _ _ _ _
  · exact vplace_some l b off cap key w h hr hn
end Go.Proofs.YtighpalbodhfeaaGreatDoor

/-
  The builtin copy over elements of more cells than one; a row of one's own widened into its spare cells; cells laid over a list. Nothing of the program's functions is named here.
-/
namespace Go.Proofs.YtighpalbodhfeaaGreatDoor
open Go.RowKit Go.Joins

theorem run_copy_k {P : Program} (w : World) (dT sT ty elem : TypeId) (m b o dLen dCap : Nat) (a : Addr) (sLen sCap : Nat) (cs : List Value)
    (hu : P.underlying dT = some (.slice elem)) (hs : (P.info? elem).map (·.size) = some m) (hn : cs.length = Nat.min sLen dLen * m)
    (hsrc : ∀ j v, cs[j]? = some v → w.cell? (a.add j) = some v) (hc : ∀ j, j < cs.length → (w.cell? ⟨b, o + j, none⟩).isSome = true) (hf : ∀ j, j < cs.length → w.frozen? ⟨b, o + j, none⟩ = false) (h1 : ∀ v ∈ cs, v.oneCell' = true) :
    (Builtin.copy_ #[dT, sT] ty #[.slice (some ⟨b, o, none⟩) dLen dCap, .slice (some a) sLen sCap]).run P w = .ok (goInt (Nat.min sLen dLen)) (w.setCells b o cs) := by
  have hl := run_loadCells_list (P := P) w a cs hsrc
  have hst := run_storeCells_cells (P := P) b o cs 0 w (by simpa using hc) (by simpa using hf) h1
  cases hq : P.info? elem with
  | none => simp [hq] at hs
  | some i =>
    have hi : i.size = m := by simpa [hq] using hs
    rw [hn] at hl
    simp only [Nat.add_zero] at hst
    simp [Builtin.copy_, run_underlying hu, Builtin.lenOf, Builtin.firstCells, sizeOf, typeInfo, hq, hi, hl, hst]
/-- a row of one's own, a part of its spare cells taken in -/
theorem own_widen {w : World} {B g n m cap : Nat} {e : TypeId} {size : Nat} {xs : List Value} (h : w.ownsRow B e size (.slice (some ⟨g, 0, none⟩) n cap) n xs) (hm : n ≤ m) (hc : m ≤ cap) : ∃ ys, ys.length = (m - n) * size ∧ w.ownsRow B e size (.slice (some ⟨g, 0, none⟩) m cap) m (xs ++ ys) := by
  obtain ⟨h1, h2⟩ := h
  rcases h2 with ⟨e1, _⟩ | ⟨g', cap', cur, e1, hb, hh, hn, hcm, hs, ht⟩
  · cases e1
  · cases e1
    have hle : n * size ≤ m * size := Nat.mul_le_mul_right _ hm
    have hlc : m * size ≤ cap * size := Nat.mul_le_mul_right _ hc
    have hlen : cur.toList.length = cap * size := by simpa using hs
    refine ⟨(cur.toList.take (m * size)).drop (n * size), by rw [List.length_drop, List.length_take, hlen, Nat.min_eq_left hlc, Nat.sub_mul], ?_, .inr ⟨g, cap, cur, rfl, hb, hh, hc, hcm, hs, ?_⟩⟩
    · rw [List.length_append, h1, List.length_drop, List.length_take, hlen, Nat.min_eq_left hlc]; omega
    · rw [← ht]
      have : cur.toList.take (n * size) = (cur.toList.take (m * size)).take (n * size) := by rw [List.take_take, Nat.min_eq_left hle]
      rw [this, List.take_append_drop]
theorem setL_hi : ∀ (vs xs : List Value) (o i : Nat), o + vs.length ≤ i → (setL xs o vs)[i]? = xs[i]?
  | [], _, _, _, _ => rfl
  | v :: r, xs, o, i, h => by
    rw [setL, setL_hi r _ _ _ (by simp at h; omega), List.getElem?_set_ne (by simp at h; omega)]
/-- cells laid over a list -/
theorem setL_eq (vs xs : List Value) (o : Nat) (h : o + vs.length ≤ xs.length) : setL xs o vs = xs.take o ++ vs ++ xs.drop (o + vs.length) := by
  apply List.ext_getElem?
  intro i
  rcases Nat.lt_or_ge i o with h1 | h1
  · rw [setL_lo _ _ _ _ h1, List.append_assoc, List.getElem?_append_left (by rw [List.length_take]; omega), List.getElem?_take, if_pos h1]
  · rcases Nat.lt_or_ge i (o + vs.length) with h2 | h2
    · rw [setL_in _ _ _ _ h1 h2 (by omega), List.append_assoc, List.getElem?_append_right (by rw [List.length_take]; omega), List.length_take, Nat.min_eq_left (by omega), List.getElem?_append_left (by omega)]
    · rw [setL_hi _ _ _ _ h2, List.getElem?_append_right (by rw [List.length_append, List.length_take]; omega), List.length_append, List.length_take, Nat.min_eq_left (by omega), List.getElem?_drop, show o + vs.length + (i - (o + vs.length)) = i by omega]
theorem grown_trans {w w1 w2 : World} {r : Option Nat} (h : w.grownBy w1 r) (h' : w1.grownBy w2 r) : w.grownBy w2 r := h.trans h'
end Go.Proofs.YtighpalbodhfeaaGreatDoor

/-
  What slices.Delete, slices.Insert and slices.Replace make of rows of one's own: one row is taken out, laid in, or laid in another one's place. Nothing else that was there is changed.
-/
namespace Go.Proofs.YtighpalbodhfeaaGreatDoor
open Go.RowKit Go.Joins
attribute [local go_sem ↓] Go.wp_at_zero Go.wp_at_succ

abbrev zrow : Value := .agg #[.string ⟨#[]⟩, .string ⟨#[]⟩]
theorem zrow_info : (Tryz.prog.info? 55).map (fun i => (i.zero, i.size, i.bytes)) = some (some zrow, 2, 32) := by kernel_rfl
theorem zrow_zeros (n : Nat) : ∀ u ∈ (Builtin.zeroCells zrow.cells n).toList, u.oneCell' = true := by
  intro u hu
  simp [Builtin.zeroCells, Value.cells] at hu
  obtain ⟨i, _, rfl⟩ := hu
  rcases Nat.mod_two_eq_zero_or_one i with e | e <;> rw [e] <;> rfl
/-- cells of the middle of a row, taken out -/
theorem cut_cells (xs : List Value) (i n : Nat) (hx : xs.length = n * 2) (hi : i < n) (zs : List Value) : ((setL (setL xs (i * 2) (xs.drop ((i + 1) * 2))) ((n - 1) * 2) zs).take ((n - 1) * 2)) = xs.take (i * 2) ++ xs.drop ((i + 1) * 2) := by
  rw [setL_take_lo, setL_eq _ _ _ (by rw [List.length_drop]; omega), List.take_append_of_le_length (by rw [List.length_append, List.length_take, List.length_drop]; omega)]
  exact List.take_of_length_le (by rw [List.length_append, List.length_take, List.length_drop]; omega)
set_option maxRecDepth 4000 in
set_option maxHeartbeats 4000000 in
theorem rowDelete (B g cap i n : Nat) (xs : List Value) (w : World) (ho : w.ownsRow B 55 2 (.slice (some ⟨g, 0, none⟩) n cap) n xs) (h1 : ∀ u ∈ xs, u.oneCell' = true) (hi : i < n) (hn : n ≤ 1000000) (hcap : n ≤ cap) (hc63 : cap ≤ 9223372036854775807) :
    Calls Tryz.prog 142 #[.slice (some ⟨g, 0, none⟩) n cap, .int .i64 i, .int .i64 ((i + 1 : Nat) : Int)] w fun e w' =>
      e = .returned (.slice (some ⟨g, 0, none⟩) (n - 1) cap) ∧ w'.ownsRow B 55 2 (.slice (some ⟨g, 0, none⟩) (n - 1) cap) (n - 1) (xs.take (i * 2) ++ xs.drop ((i + 1) * 2)) ∧ w.grownBy w' (some g) := by
  obtain ⟨i0, hi0, hz0, hz1, hz2⟩ := info_parts zrow_info
  have hxl : xs.length = n * 2 := ho.1
  obtain ⟨m, hm⟩ : ∃ m, n = i + 1 + m := ⟨n - (i + 1), by omega⟩
  obtain ⟨K, hK⟩ : ∃ K, K = i + 1 := ⟨_, rfl⟩
  rw [← hK]
  obtain ⟨news, hnews⟩ : ∃ news, news = xs.drop (K * 2) := ⟨_, rfl⟩
  have hlen : news.length = m * 2 := by rw [hnews, List.length_drop, hxl]; omega
  have hdr : w.drew.ownsRow B 55 2 (.slice (some ⟨g, 0, none⟩) n cap) n xs := ho
  obtain ⟨A, hA, hsrc⟩ : ∃ A : Addr, (if cap = K then some (⟨g, 0, none⟩ : Addr) else some ⟨g, K * 2, none⟩) = some A ∧ Hid (∀ t u, news[t]? = some u → w.drew.cell? (A.add t) = some u) := by
    by_cases h : cap = K
    · refine ⟨⟨g, 0, none⟩, by simp [h], fun t u hu => ?_⟩
      have h0 : news.length = 0 := by omega
      rw [List.length_eq_zero_iff.1 h0] at hu
      simp at hu
    · refine ⟨⟨g, K * 2, none⟩, by simp [h], fun t u hu => ?_⟩
      have ht : t < m * 2 := by
        have := (List.getElem?_eq_some_iff.1 hu).1
        omega
      rw [Addr.add_lit, hdr.cellAt (K * 2 + t) (by omega), ← hu, hnews, List.getElem?_drop]
  have s2 : Hid (∀ u ∈ news, u.oneCell' = true) := fun u hu => h1 u (by rw [hnews] at hu; exact List.mem_of_mem_drop hu)
  have s3 : Hid (∀ t, t < news.length → (w.drew.cell? ⟨g, 0 + i * 2 + t, none⟩).isSome = true ∧ w.drew.frozen? ⟨g, 0 + i * 2 + t, none⟩ = false) := fun t ht => by
    have := own_there hdr (i * 2 + t) (by omega)
    simpa using this
  obtain ⟨W1, hW1⟩ : ∃ W1, W1 = w.drew.setCells g (0 + i * 2) news := ⟨_, rfl⟩
  have hW1' := hW1
  simp only [Nat.zero_add] at hW1'
  have r1 := own_setCells news (i * 2) w.drew xs hdr
  rw [← hW1'] at r1
  have hzv : ∀ w, (zeroValue 55).run Tryz.prog w = .ok zrow w := Tryz.zeroValue55
  have hz2' : zrow.cells.size = 2 := rfl
  have hq : i + m = n - 1 := by omega
  have hcl : ∀ ty, (Builtin.clear_ #[22] ty #[.slice (some ⟨g, (i + m) * 2, none⟩) 1 (cap - (i + m))]).run Tryz.prog W1 = .ok (.tuple #[]) (W1.setCells g ((i + m) * 2) (Builtin.zeroCells zrow.cells 1).toList) :=
    fun ty => run_clear_cells W1 _ _ ty _ Tryz.underlying22 hzv g ((i + m) * 2) _ _ (by omega) (zrow_zeros _) (fun j hj => by rw [hz2'] at hj; exact (own_there r1.1 ((i + m) * 2 + j) (by omega)).1) (fun j hj => by rw [hz2'] at hj; exact (own_there r1.1 ((i + m) * 2 + j) (by omega)).2)
  have r2 := own_setCells (Builtin.zeroCells zrow.cells 1).toList ((i + m) * 2) W1 _ r1.1
  have r3 := own_shrink r2.1 (m := i + m) (by omega)
  rw [hnews, hK, hq, cut_cells xs i n hxl hi _] at r3
  rw [← hq] at r3
  have R3 := hide r3
  have R4 : Hid (w.grownBy (W1.setCells g ((i + m) * 2) (Builtin.zeroCells zrow.cells 1).toList) (some g)) := (show w.grownBy W1 (some g) from ⟨r1.2.os, r1.2.tape, r1.2.output, r1.2.size, r1.2.block⟩).trans r2.2
  rw [← hq]
  generalize hW2 : W1.setCells g ((i + m) * 2) (Builtin.zeroCells zrow.cells 1).toList = W2 at hcl R3 R4
  have HL := hide hlen
  have HW : Hid (W1 = w.drew.setCells g (0 + i * 2) news) := hW1
  have HK := hide hK
  have HM := hide hm
  have k0 : (0 : Int) ≤ (i : Int) := Int.natCast_nonneg _
  have k1 : (i : Int) ≤ (K : Int) := by omega
  have k2 : (K : Int) ≤ (n : Int) := by omega
  have k3 : ¬ (i : Int) = (K : Int) := by omega
  have k4 : ¬ cap = i + m := by omega
  have k5 : (n : Int) ≤ (cap : Int) := by omega
  have k6 : i ≤ cap := by omega
  have k7 : K ≤ cap := by omega
  have k8 : n - (i + m) = 1 := by omega
  have k9 : (i : Int) + (m : Int) ≤ (n : Int) := by omega
  have k10 : n - K = m := by omega
  have k11 : (K : Int) ≤ (cap : Int) := by omega
  have k12 : (i : Int) ≤ (cap : Int) := by omega
  have k13 : i + m ≤ cap := by omega
  clear hnews hlen hdr hW1 hW1' r1 r2 r3 ho h1 hxl hW2 hz2' hK hm hq hi
  go_enter Tryz.func142, Tryz.ntmps142
  go_wp2_with fail
  go_region_law (refine step_append_room rfl (.tmp 22) (.tmp 25) 22 rfl 55 i0 2 Tryz.underlying22 hi0 hz1 g 0 i cap (by simp [Act.eval, Act.put]) A m (cap - K) news (by simp [Act.eval, Act.put, *]) HL.out hsrc.out s2.out (by omega) s3.out ?_; rw [← HW.out])
  go_wp2
  go_ret
  exact ⟨rfl, by rw [HK.out] at *; exact R3.out, R4.out⟩
/-- behind a row laid in: the row's new value, its cells, and what is left alone -/
def InsAt (w w' : World) (e : Ending) (B : Nat) (v : Value) (n : Nat) (ys : List Value) : Prop := ∃ v', e = .returned v' ∧ w'.ownsRow B 55 2 v' n ys ∧ w.grownBy w' v.ownBlock
theorem row_src {w : World} {vb : Nat} {k u : ByteArray} (h0 : w.cell? ⟨vb, 0, none⟩ = some (.string k)) (h1 : w.cell? ⟨vb, 1, none⟩ = some (.string u)) : ∀ j x, [Value.string k, Value.string u][j]? = some x → w.cell? ((⟨vb, 0, none⟩ : Addr).add j) = some x := fun j x hj => by
  match j with
  | 0 => simp at hj; subst hj; exact h0
  | 1 => simp at hj; subst hj; exact h1
  | j + 2 => simp at hj
theorem row_one2 (k u : ByteArray) : ∀ x ∈ [Value.string k, Value.string u], x.oneCell' = true := by
  intro x hx
  simp at hx
  rcases hx with rfl | rfl <;> rfl
/-- appended to a row of one's own -/
theorem append_row (B : Nat) (v : Value) (n : Nat) (xs : List Value) (w : World) (ho : w.ownsRow B 55 2 v n xs) (hB : B ≤ w.heap.size) (vb vc : Nat) (k u : ByteArray) (h0 : w.cell? ⟨vb, 0, none⟩ = some (.string k)) (h1 : w.cell? ⟨vb, 1, none⟩ = some (.string u)) (hn : n ≤ 1000000) :
    ∃ v' w', (∀ ty, (Builtin.append_ #[22, 22] ty #[v, .slice (some ⟨vb, 0, none⟩) 1 vc]).run Tryz.prog w = .ok v' w') ∧ w'.ownsRow B 55 2 v' (n + 1) (xs ++ [.string k, .string u]) ∧ w.grownBy w' v.ownBlock := by
  obtain ⟨i0, hi0, hz0, hz1, hz2⟩ := info_parts zrow_info
  obtain ⟨v', w', hr, ho', hg, _⟩ := run_append_own (P := Tryz.prog) (w := w) B 22 0 55 i0 _ 2 32 Tryz.underlying22 hi0 hz0 hz1 hz2 rfl (by omega) v n xs ho ⟨vb, 0, none⟩ 1 vc [.string k, .string u] rfl (row_src h0 h1) (row_one2 k u) (by unfold maxLen; omega) (by omega) hB
  exact ⟨v', w', fun ty => hr, ho', hg⟩
set_option maxRecDepth 4000 in
set_option maxHeartbeats 4000000 in
theorem rowInsert_end (B : Nat) (v : Value) (n vb vc : Nat) (k u : ByteArray) (xs : List Value) (w : World) (ho : w.ownsRow B 55 2 v n xs) (hB : B ≤ w.heap.size) (h0 : w.cell? ⟨vb, 0, none⟩ = some (.string k)) (h1 : w.cell? ⟨vb, 1, none⟩ = some (.string u)) (hn : n ≤ 1000000) :
    Calls Tryz.prog 162 #[v, .int .i64 n, .slice (some ⟨vb, 0, none⟩) 1 vc] w fun e w' => InsAt w w' e B v (n + 1) (xs ++ [.string k, .string u]) := by
  obtain ⟨v', w', hr, ho', hg⟩ := append_row B v n xs w ho hB vb vc k u h0 h1 hn
  have HO := hide ho'
  have HG := hide hg
  rcases own_form ho with ⟨rfl, rfl⟩ | ⟨g, cap, rfl, _, _, hc, hm⟩
  · clear ho ho' hg h0 h1
    go_enter Tryz.func162, Tryz.ntmps162
    go_wp2_with (at_builtin; refine Lib.wpList_append_run _ rfl _ _ _ _ rfl _ _ rfl rfl _ _ (hr _) ?_)
    go_ret
    exact ⟨v', rfl, HO.out, HG.out⟩
  · clear ho ho' hg h0 h1
    have hc' : (n : Int) ≤ (cap : Int) := by omega
    unfold maxLen at hm
    go_enter Tryz.func162, Tryz.ntmps162
    go_wp2_with (at_builtin; refine Lib.wpList_append_run _ rfl _ _ _ _ rfl _ _ rfl rfl _ _ (hr _) ?_)
    all_goals
      go_ret
      exact ⟨v', rfl, HO.out, HG.out⟩
end Go.Proofs.YtighpalbodhfeaaGreatDoor

/-
  What slices.Insert makes of rows of one's own ahead of their end, and slices.Replace of one of them. Nothing else that was there is changed.
-/
namespace Go.Proofs.YtighpalbodhfeaaGreatDoor
open Go.RowKit Go.Joins
attribute [local go_sem ↓] Go.wp_at_zero Go.wp_at_succ

theorem shift_cells (xs ys vs : List Value) (i n : Nat) (hx : xs.length = n * 2) (hy : ys.length = 2) (hv : vs.length = 2) (hi : i < n) : setL (setL (xs ++ ys) ((i + 1) * 2) (xs.drop (i * 2))) (i * 2) vs = xs.take (i * 2) ++ (vs ++ xs.drop (i * 2)) := by
  have e1 : setL (xs ++ ys) ((i + 1) * 2) (xs.drop (i * 2)) = (xs ++ ys).take ((i + 1) * 2) ++ xs.drop (i * 2) := by
    have e : (xs ++ ys).drop ((i + 1) * 2 + (xs.drop (i * 2)).length) = [] := List.drop_eq_nil_of_le (by rw [List.length_append, List.length_drop]; omega)
    rw [setL_eq _ _ _ (by rw [List.length_drop, List.length_append]; omega), e, List.append_nil]
  have e0 : (xs ++ ys).take ((i + 1) * 2) = xs.take ((i + 1) * 2) := List.take_append_of_le_length (by omega)
  rw [e1, e0, setL_eq _ _ _ (by rw [List.length_append, List.length_take, List.length_drop]; omega), hv, List.take_append_of_le_length (by rw [List.length_take]; omega), List.take_take, Nat.min_eq_left (by omega), show i * 2 + 2 = (i + 1) * 2 by omega, List.drop_left' (by rw [List.length_take]; omega), List.append_assoc]
theorem grow_cells (xs zs vs : List Value) (i n : Nat) (hx : xs.length = n * 2) (hz : zs.length = (n + 1 - i) * 2) (hv : vs.length = 2) (hi : i < n) : setL (setL (xs.take (i * 2) ++ zs) (i * 2) vs) ((i + 1) * 2) (xs.drop (i * 2)) = xs.take (i * 2) ++ (vs ++ xs.drop (i * 2)) := by
  have hT : (xs.take (i * 2)).length = i * 2 := by rw [List.length_take]; omega
  have e1 : setL (xs.take (i * 2) ++ zs) (i * 2) vs = xs.take (i * 2) ++ vs ++ zs.drop 2 := by
    rw [setL_eq _ _ _ (by rw [List.length_append]; omega), List.take_left' hT, List.drop_append, hT, hv, List.drop_eq_nil_of_le (by omega), List.nil_append, show i * 2 + 2 - i * 2 = 2 by omega]
  have e2 : (xs.take (i * 2) ++ vs ++ zs.drop 2).drop ((i + 1) * 2 + (xs.drop (i * 2)).length) = [] := List.drop_eq_nil_of_le (by simp only [List.length_append, List.length_drop, hT, hv]; omega)
  rw [e1, setL_eq _ _ _ (by simp only [List.length_append, List.length_drop, hT, hv]; omega), List.take_left' (by rw [List.length_append, hT, hv]; omega), e2, List.append_nil, List.append_assoc]
set_option maxRecDepth 4000 in
set_option maxHeartbeats 8000000 in
theorem rowInsert_shift (B g cap i n vb vc : Nat) (k u : ByteArray) (xs : List Value) (w : World) (ho : w.ownsRow B 55 2 (.slice (some ⟨g, 0, none⟩) n cap) n xs) (hone : ∀ x ∈ xs, x.oneCell' = true) (h0 : w.cell? ⟨vb, 0, none⟩ = some (.string k)) (h1 : w.cell? ⟨vb, 1, none⟩ = some (.string u))
    (hvb : vb ≠ g) (tA : TypeId) (kA : Nat) (hsa : w.shape? vb = some (tA, kA)) (hfa : ∀ j, w.frozen? ⟨vb, j, none⟩ = false) (hi : i < n) (hn : n ≤ 1000000) (hroom : n + 1 ≤ cap) (hc63 : cap ≤ 9223372036854775807) :
    Calls Tryz.prog 162 #[.slice (some ⟨g, 0, none⟩) n cap, .int .i64 i, .slice (some ⟨vb, 0, none⟩) 1 vc] w fun e w' => InsAt w w' e B (.slice (some ⟨g, 0, none⟩) n cap) (n + 1) (xs.take (i * 2) ++ ([.string k, .string u] ++ xs.drop (i * 2))) := by
  have hxl : xs.length = n * 2 := ho.1
  obtain ⟨ys, hyl, hw⟩ := own_widen ho (m := n + 1) (by omega) hroom
  rw [show n + 1 - n = 1 by omega, Nat.one_mul] at hyl
  obtain ⟨J, hJ⟩ : ∃ J, J = i + 1 := ⟨_, rfl⟩
  have hsz : (Tryz.prog.info? 55).map (·.size) = some 2 := by
    obtain ⟨i0, hi0, _, hz1, _⟩ := info_parts zrow_info
    rw [hi0]; simp [hz1]
  obtain ⟨cur, hcur, hcs⟩ : ∃ cur, w.heap[g]? = some (.cells cur 55 (0, 0)) ∧ cur.size = cap * 2 := by
    rcases ho.2 with ⟨e, _⟩ | ⟨g', cap', cur, e, _, hh, _, _, hs, _⟩
    · cases e
    · cases e; exact ⟨cur, hh, hs⟩
  have hsb : w.shape? g = some (55, cap * 2) := by simp [World.shape?, hcur, hcs]
  have hov : ∀ lb cb, (callFunc 163 #[.slice (some ⟨vb, 0, none⟩) 1 vc, .slice (some ⟨g, J * 2, none⟩) lb cb]).run Tryz.prog w = .ok (.value (.bool false)) w := fun lb cb => by
    rw [run_callFunc_extern Tryz.func163 (by kernel_rfl) (by kernel_rfl) (by kernel_rfl) (e := Extern.SlicesOverlaps.overlaps #[22, 22] #[4]) (by kernel_rfl),
      Lib.run_overlaps_apart w 22 4 55 Tryz.underlying22 2 Tryz.sizeOf55 ⟨vb, 0, none⟩ ⟨g, J * 2, none⟩ 1 vc lb cb hvb tA 55 kA (cap * 2) hsa hsb (by omega) (hfa 0) (hfa kA)]
    rfl
  have hdl : (xs.drop (i * 2)).length = (n - i) * 2 := by rw [List.length_drop, hxl]; omega
  have hwd : w.drew.ownsRow B 55 2 (.slice (some ⟨g, 0, none⟩) (n + 1) cap) (n + 1) (xs ++ ys) := hw
  obtain ⟨mv, hmv⟩ : ∃ mv, mv = xs.drop (i * 2) := ⟨_, rfl⟩
  rw [← hmv] at hdl
  have hcp1 : ∀ ty dc sc, (Builtin.copy_ #[22, 22] ty #[.slice (some ⟨g, J * 2, none⟩) (n + 1 - J) dc, .slice (some ⟨g, i * 2, none⟩) (n + 1 - i) sc]).run Tryz.prog w.drew = .ok (goInt (Nat.min (n + 1 - i) (n + 1 - J))) (w.drew.setCells g (J * 2) mv) := fun ty dc sc =>
    run_copy_k w.drew _ _ ty 55 2 g (J * 2) (n + 1 - J) dc ⟨g, i * 2, none⟩ (n + 1 - i) sc mv Tryz.underlying22 hsz (by rw [hdl]; congr 1; simp only [Nat.min_def]; split <;> omega)
      (fun j x hj => by
        have hjl : j < mv.length := (List.getElem?_eq_some_iff.1 hj).1
        rw [Addr.add_lit, hwd.cellAt (i * 2 + j) (by omega), List.getElem?_append_left (by omega)]
        rw [hmv, List.getElem?_drop] at hj
        exact hj)
      (fun j hj => (own_there hwd (J * 2 + j) (by omega)).1) (fun j hj => (own_there hwd (J * 2 + j) (by omega)).2) (fun x hx => hone x (by rw [hmv] at hx; exact List.mem_of_mem_drop hx))
  obtain ⟨W1, hW1⟩ : ∃ W1, W1 = w.drew.setCells g (J * 2) mv := ⟨_, rfl⟩
  have r1 := own_setCells mv (J * 2) w.drew _ hwd
  rw [← hW1] at r1 hcp1
  obtain ⟨W2, hW2⟩ : ∃ W2, W2 = W1.setCells g (i * 2) [.string k, .string u] := ⟨_, rfl⟩
  have r2 := own_setCells [.string k, .string u] (i * 2) W1 _ r1.1
  rw [← hW2] at r2
  have hcp2 : ∀ ty dc, (Builtin.copy_ #[22, 22] ty #[.slice (some ⟨g, i * 2, none⟩) (n + 1 - i) dc, .slice (some ⟨vb, 0, none⟩) 1 vc]).run Tryz.prog W1 = .ok (goInt (Nat.min 1 (n + 1 - i))) W2 := fun ty dc => by
    rw [hW2]
    exact run_copy_k W1 _ _ ty 55 2 g (i * 2) (n + 1 - i) dc ⟨vb, 0, none⟩ 1 vc _ Tryz.underlying22 hsz (by rw [show Nat.min 1 (n + 1 - i) = 1 by simp only [Nat.min_def]; split <;> omega]; rfl)
      (fun j x hj => by
        have := row_src h0 h1 j x hj
        rw [Addr.add_lit] at this ⊢
        rw [hW1, World.cell?_setCells_out g _ _ _ _ (fun h _ => absurd h hvb)]
        exact this)
      (fun j hj => (own_there r1.1 (i * 2 + j) (by simp at hj; omega)).1) (fun j hj => (own_there r1.1 (i * 2 + j) (by simp at hj; omega)).2) (row_one2 k u)
  have R : Hid (W2.ownsRow B 55 2 (.slice (some ⟨g, 0, none⟩) (n + 1) cap) (n + 1) (xs.take (i * 2) ++ ([.string k, .string u] ++ xs.drop (i * 2)))) := by
    have := r2.1
    rw [hmv, hJ, shift_cells xs ys _ i n hxl hyl rfl hi] at this
    exact this
  have RG : Hid (w.grownBy W2 (some g)) := (show w.grownBy W1 (some g) from ⟨r1.2.os, r1.2.tape, r1.2.output, r1.2.size, r1.2.block⟩).trans r2.2
  have z2 : ¬ ((i : Int) = (n : Int)) := by omega
  have k0 : (i : Int) + 1 = (J : Int) := by omega
  have k1 : IntKind.i64.wrap ((i : Int) + 1) = (J : Int) := by rw [k0, IntKind.wrap_i64]; omega
  have k1' : IntKind.i64.wrap (J : Int) = (J : Int) := by rw [IntKind.wrap_i64]; omega
  have k2 : (0 : Int) ≤ (J : Int) := Int.natCast_nonneg _
  have k3 : (J : Int) ≤ (n : Int) + 1 := by omega
  have k4 : (i : Int) ≤ (n : Int) := by omega
  have k5 : (i : Int) ≤ (n : Int) + 1 := by omega
  have k6 : ¬ cap = i := by omega
  have k7 : ¬ cap = J := by omega
  have k8 : ¬ (cap : Int) < (n : Int) + 1 := by omega
  have k9 : (n : Int) + 1 ≤ (cap : Int) := by omega
  have k10 : i ≤ n := by omega
  have k11 : J ≤ n + 1 := by omega
  have k12 : n + 1 ≤ cap := hroom
  have HH1 := hide hW1
  clear ho hone h0 h1 hw hwd r1 r2 hW1 hW2 hmv hdl hxl hyl hJ hsa hsb hfa hcur hcs
  go_enter Tryz.func162, Tryz.ntmps162
  go_wp2_with (simp only [hov])
  go_region_law (refine step_copy_runI rfl _ _ 22 22 rfl _ _ (by simp [Act.eval, Act.put]) (by simp [Act.eval, Act.put]) (hcp1 _ _ _) ?_)
  go_wp2_with (at_builtin; refine wpList_copy_runI _ rfl _ _ 22 22 rfl _ _ rfl rfl (hcp2 _ _) ?_)
  go_ret
  exact ⟨_, rfl, R.out, RG.out⟩
end Go.Proofs.YtighpalbodhfeaaGreatDoor
