/-
  What view.lay makes of rows of its caller's own: a change laid over them. Nothing else that was there is changed.
-/
import Derived.Test.YtpbhcjkllfonhaaGreatViewPlace
import Derived.Test.YtpbhcjkllfonhaaGreatRowIns3
import Derived.Test.YtpbhcjkllfonhaaGreatVerRows
namespace Go.Proofs.YtpbhcjkllfonhaaGreat
open Go.RowKit Go.Joins Go.Shelf
attribute [local go_sem ↓] Go.wp_at_zero Go.wp_at_succ

theorem cellPz_one (l : List (ByteArray × ByteArray)) : ∀ u ∈ l.flatMap cellP, u.oneCell' = true := by
  intro u hu
  obtain ⟨r, _, hu⟩ := List.mem_flatMap.1 hu
  simp [cellP] at hu
  rcases hu with rfl | rfl <;> rfl
theorem cellP_take (l : List (ByteArray × ByteArray)) (i : Nat) : (l.flatMap cellP).take (i * 2) = (l.take i).flatMap cellP := by
  induction l generalizing i with
  | nil => simp
  | cons r l ih =>
    match i with
    | 0 => simp
    | i + 1 =>
      rw [List.flatMap_cons, List.take_succ_cons, List.flatMap_cons, ← ih i]
      show List.take ((i + 1) * 2) (Value.string r.1 :: Value.string r.2 :: l.flatMap cellP) = _
      rw [show (i + 1) * 2 = i * 2 + 1 + 1 by omega, List.take_succ_cons, List.take_succ_cons]
      rfl
theorem cellP_drop (l : List (ByteArray × ByteArray)) (i : Nat) : (l.flatMap cellP).drop (i * 2) = (l.drop i).flatMap cellP := by
  induction l generalizing i with
  | nil => simp
  | cons r l ih =>
    match i with
    | 0 => simp
    | i + 1 =>
      rw [List.flatMap_cons, List.drop_succ_cons, ← ih i]
      show List.drop ((i + 1) * 2) (Value.string r.1 :: Value.string r.2 :: l.flatMap cellP) = _
      rw [show (i + 1) * 2 = i * 2 + 1 + 1 by omega, List.drop_succ_cons, List.drop_succ_cons]
set_option maxHeartbeats 400000 in
theorem rowDelete_none (v : Value) (B i n : Nat) (xs : List Value) (w : World) (ho : w.ownsRow B 63 2 v n xs) (hi : i ≤ n) (hn : n ≤ 1000000) :
    Calls Tryz.prog 67 #[v, .int .i64 i, .int .i64 i] w fun e w' => e = .returned v ∧ w' = w := by
  rcases own_form ho with ⟨rfl, rfl⟩ | ⟨g, cap, rfl, _, _, hc, hm⟩
  · have e : i = 0 := by omega
    subst e
    clear ho
    go_enter Tryz.func67, Tryz.ntmps67
    go_wp2
    go_ret
    exact ⟨rfl, rfl⟩
  · have h1 : (i : Int) ≤ (n : Int) := by omega
    have h2 : (n : Int) ≤ (cap : Int) := by omega
    unfold maxLen at hm
    clear ho
    go_enter Tryz.func67, Tryz.ntmps67
    go_wp2
    all_goals
      go_ret
      exact ⟨rfl, rfl⟩
set_option maxRecDepth 4000 in
set_option maxHeartbeats 2000000 in
theorem rowReplace_none (B i n vb vc : Nat) (v : Value) (k u : ByteArray) (xs : List Value) (w : World) (ho : w.ownsRow B 63 2 v n xs) (hB : B ≤ w.heap.size) (hone : ∀ x ∈ xs, x.oneCell' = true) (h0 : w.cell? ⟨vb, 0, none⟩ = some (.string k)) (h1 : w.cell? ⟨vb, 1, none⟩ = some (.string u))
    (hvb : v.ownBlock ≠ some vb) (tA : TypeId) (kA : Nat) (hsa : w.shape? vb = some (tA, kA)) (hfa : ∀ j, w.frozen? ⟨vb, j, none⟩ = false) (hi : i ≤ n) (hn : n ≤ 1000000) :
    Calls Tryz.prog 68 #[v, .int .i64 i, .int .i64 i, .slice (some ⟨vb, 0, none⟩) 1 vc] w fun e w' => InsAt w w' e B v (n + 1) (xs.take (i * 2) ++ ([.string k, .string u] ++ xs.drop (i * 2))) := by
  have HI := hide (rowInsert B i n vb vc v k u xs w ho hB hone h0 h1 hvb tA kA hsa hfa hi hn)
  rcases own_form ho with ⟨rfl, rfl⟩ | ⟨g, cap, rfl, _, _, hc, hm⟩
  · have e : i = 0 := by omega
    subst e
    clear ho hone h0 h1 hsa hfa
    go_enter Tryz.func68, Tryz.ntmps68
    go_wp2_with (go_at_call 81; refine HI.out.mono ?_; rintro e w1 ⟨v', rfl, ho1, hg1⟩; have HO := hide ho1; have HG := hide hg1; clear ho1 hg1)
    go_ret
    exact ⟨_, rfl, HO.out, HG.out⟩
  · have e1 : (i : Int) ≤ (n : Int) := by omega
    have e2 : (n : Int) ≤ (cap : Int) := by omega
    have e3 : (i : Int) ≤ (cap : Int) := by omega
    unfold maxLen at hm
    clear ho hone h0 h1 hsa hfa
    go_enter Tryz.func68, Tryz.ntmps68
    go_wp2_with (go_at_call 81; refine HI.out.mono ?_; rintro e w1 ⟨v', rfl, ho1, hg1⟩; have HO := hide ho1; have HG := hide hg1; clear ho1 hg1)
    all_goals
      go_ret
      exact ⟨_, rfl, HO.out, HG.out⟩
/-- behind a change laid over rows -/
def LaidAt (w w' : World) (e : Ending) (B : Nat) (l : List (ByteArray × ByteArray)) : Prop := ∃ v', e = .returned v' ∧ ownP w' B v' l ∧ Below B w w'
theorem laid_same {w w' : World} {e : Ending} {B : Nat} {l : List (ByteArray × ByteArray)} {v : Value} (ho : ownP w B v l) (hB : B ≤ w.heap.size) (hb : Below w.heap.size w w') (he : e = .returned v) : LaidAt w w' e B l := ⟨v, he, own_on ho hb, hb.mono hB⟩
theorem laid_ins {w w1 w' : World} {e : Ending} {B n : Nat} {l : List (ByteArray × ByteArray)} {v : Value} {xs ys : List Value} (ho : w1.ownsRow B 63 2 v n xs) (hB : B ≤ w.heap.size) (hb : Below w.heap.size w w1) {m : Nat} (hi : InsAt w1 w' e B v m ys) (hm : m = l.length) (hy : ys = l.flatMap cellP) : LaidAt w w' e B l := by
  obtain ⟨v', rfl, h1, h2⟩ := hi
  subst hy hm
  exact ⟨v', rfl, h1, (hb.mono hB).grown h2 (Nat.le_trans hB hb.size) fun k e => (World.ownsRow.lt ho k e).1⟩
theorem shape_new (w : World) (C : Array Value) (t : TypeId) : (w.alloc (.cells C t)).shape? w.heap.size = some (t, C.size) := by unfold World.shape?; rw [Go.heap_alloc_new]
set_option maxRecDepth 4000 in
set_option maxHeartbeats 4000000 in
theorem lay_any (l : List (ByteArray × ByteArray)) (v : Value) (B : Nat) (c : Chg) (w : World) (ho : ownP w B v l) (hB : B ≤ w.heap.size) (hr : riseP l) (hn : l.length ≤ 100000) :
    Calls Tryz.prog 54 #[v, .agg #[.string c.key, .string c.val, .bool c.gone]] w fun e w' => LaidAt w w' e B (layR l c) := by
  have HO := hide ho
  have HR := hide hr
  have hB0 := below_alloc1 w (Obj.cells #[Value.string c.key, Value.string c.val, Value.bool c.gone] 46)
  have a0 : (w.alloc (Obj.cells #[Value.string c.key, Value.string c.val, Value.bool c.gone] 46)).cell? ⟨w.heap.size, 0, none⟩ = some (.string c.key) := cell_new _ _ _ 0
  have a1 : (w.alloc (Obj.cells #[Value.string c.key, Value.string c.val, Value.bool c.gone] 46)).cell? ⟨w.heap.size, 1, none⟩ = some (.string c.val) := cell_new _ _ _ 1
  have a2 : (w.alloc (Obj.cells #[Value.string c.key, Value.string c.val, Value.bool c.gone] 46)).cell? ⟨w.heap.size, 2, none⟩ = some (.bool c.gone) := cell_new _ _ _ 2
  have HB0 := hide hB0
  have hple := placeR_le l c.key
  have hfl : foundR l c.key = true → placeR l c.key < l.length := foundR_lt
  have HLL : Hid (layR l c = l.take (placeR l c.key) ++ (if c.gone then [] else [(c.key, c.val)]) ++ l.drop (if foundR l c.key then placeR l c.key + 1 else placeR l c.key)) := rfl
  obtain ⟨va, vcap, rfl⟩ : ∃ ao cap, v = .slice ao l.length cap := by
    obtain ⟨ao, cap, e, _⟩ := ownP_held ho
    exact ⟨ao, cap, e⟩
  have HPL := fun W (hb : Below w.heap.size w W) => hide (vplace_own l _ B c.key W (own_on HO.out hb) hr (by omega))
  clear ho hr hB0
  generalize placeR l c.key = p at *
  generalize foundR l c.key = f at *
  generalize hgone : c.gone = gn at *
  rw [HLL.out]
  have hlow := fun k (e : (Value.slice va l.length vcap).ownBlock = some k) => (World.ownsRow.lt HO.out k e).2
  cases f
  · cases gn
    · -- laid in
      simp only [Bool.false_eq_true, if_false]
      go_enter Tryz.func54, Tryz.ntmps54
      go_wp2_with (first
        | (go_at_call 66; refine (HPL _ HB0.out).out.mono ?_; rintro e w1 ⟨rfl, hb1⟩; replace a0 := cell_on hb1 a0; replace a1 := cell_on hb1 a1; replace a2 := cell_on hb1 a2; have HB1 := hide (below_on HB0.out (Nat.le_refl _) hb1); have hs1 := HB1.out.size; have HBX := hide (below_on HB1.out (Nat.le_refl _) (below_alloc1 w1 (Obj.cells #[Value.string c.key, Value.string c.val] 63))); clear hb1))
      have HRP := hide (rowReplace_none B p l.length w1.heap.size 1 (Value.slice va l.length vcap) c.key c.val (l.flatMap cellP) _ (own_on HO.out HBX.out) (Nat.le_trans hB HBX.out.size) (cellPz_one l) (cell_new _ _ _ 0) (cell_new _ _ _ 1) (fun e => by have := hlow _ e; omega) 63 2 (shape_new _ _ _) (fun j => frozen_new _ _ _ j) hple (by omega))
      go_wp2_with (first
        | (go_at_call 68; refine HRP.out.mono ?_; rintro e w2 ⟨v', rfl, ho2, hg2⟩; have HI : Hid (InsAt (w1.alloc (Obj.cells #[Value.string c.key, Value.string c.val] 63)) w2 (.returned v') B (Value.slice va l.length vcap) (l.length + 1) ((l.flatMap cellP).take (p * 2) ++ ([.string c.key, .string c.val] ++ (l.flatMap cellP).drop (p * 2)))) := ⟨v', rfl, ho2, hg2⟩; clear ho2 hg2))
      go_ret
      exact laid_ins (own_on HO.out HBX.out) hB HBX.out HI.out (by simp; omega) (by rw [cellP_take, cellP_drop]; simp [cellP])
    · simp only [Bool.false_eq_true, if_false, if_true]
      go_enter Tryz.func54, Tryz.ntmps54
      go_wp2_with (first
        | (go_at_call 66; refine (HPL _ HB0.out).out.mono ?_; rintro e w1 ⟨rfl, hb1⟩; replace a0 := cell_on hb1 a0; replace a1 := cell_on hb1 a1; replace a2 := cell_on hb1 a2; have HB1 := hide (below_on HB0.out (Nat.le_refl _) hb1); clear hb1)
        | (go_at_call 67; refine (rowDelete_none _ B p l.length (l.flatMap cellP) _ (own_on HO.out HB1.out) hple (by omega)).mono ?_; rintro e w2 ⟨rfl, rfl⟩))
      go_ret
      exact laid_same (by rw [List.append_nil, List.take_append_drop]; exact HO.out) hB HB1.out rfl
  · have hpl := hfl rfl
    obtain ⟨g, hva, hcl, hc63⟩ : ∃ g, va = some ⟨g, 0, none⟩ ∧ l.length ≤ vcap ∧ vcap ≤ 9223372036854775807 := by
      rcases own_form HO.out with ⟨_, h0⟩ | ⟨g, cap, e, _, _, h1, h2⟩
      · omega
      · cases e; exact ⟨g, rfl, h1, by unfold maxLen at h2; omega⟩
    subst hva
    have e1 : ((p + 1 : Nat) : Int) = (p : Int) + 1 := by omega
    cases gn
    · simp only [Bool.false_eq_true, if_false, if_true]
      go_enter Tryz.func54, Tryz.ntmps54
      go_wp2_with (first
        | (go_at_call 66; refine (HPL _ HB0.out).out.mono ?_; rintro e w1 ⟨rfl, hb1⟩; replace a0 := cell_on hb1 a0; replace a1 := cell_on hb1 a1; replace a2 := cell_on hb1 a2; have HB1 := hide (below_on HB0.out (Nat.le_refl _) hb1); have hs1 := HB1.out.size; have HBX := hide (below_on HB1.out (Nat.le_refl _) (below_alloc1 w1 (Obj.cells #[Value.string c.key, Value.string c.val] 63))); clear hb1))
      have HRP := hide (rowReplace B g vcap p l.length w1.heap.size 1 c.key c.val (l.flatMap cellP) _ (own_on HO.out HBX.out) (Nat.le_trans hB HBX.out.size) (cellPz_one l) (cell_new _ _ _ 0) (cell_new _ _ _ 1) hpl (by omega) hcl hc63)
      rw [e1] at HRP
      go_wp2_with (first
        | (go_at_call 68; refine HRP.out.mono ?_; rintro e w2 ⟨v', rfl, ho2, hg2⟩; have HI : Hid (InsAt (w1.alloc (Obj.cells #[Value.string c.key, Value.string c.val] 63)) w2 (.returned v') B (Value.slice (some ⟨g, 0, none⟩) l.length vcap) l.length ((l.flatMap cellP).take (p * 2) ++ ([.string c.key, .string c.val] ++ (l.flatMap cellP).drop ((p + 1) * 2)))) := ⟨v', rfl, ho2, hg2⟩; clear ho2 hg2))
      go_ret
      exact laid_ins (own_on HO.out HBX.out) hB HBX.out HI.out (by simp; omega) (by rw [cellP_take, cellP_drop]; simp [cellP])
    · simp only [if_true]
      go_enter Tryz.func54, Tryz.ntmps54
      go_wp2_with (first
        | (go_at_call 66; refine (HPL _ HB0.out).out.mono ?_; rintro e w1 ⟨rfl, hb1⟩; replace a0 := cell_on hb1 a0; replace a1 := cell_on hb1 a1; replace a2 := cell_on hb1 a2; have HB1 := hide (below_on HB0.out (Nat.le_refl _) hb1); clear hb1))
      have HRP := hide (rowDelete B g vcap p l.length (l.flatMap cellP) _ (own_on HO.out HB1.out) (cellPz_one l) hpl (by omega) hcl hc63)
      rw [e1] at HRP
      go_wp2_with (first
        | (go_at_call 67; refine HRP.out.mono ?_; rintro e w2 ⟨rfl, ho2, hg2⟩; have HI : Hid (InsAt w1 w2 (.returned (.slice (some ⟨g, 0, none⟩) (l.length - 1) vcap)) B (Value.slice (some ⟨g, 0, none⟩) l.length vcap) (l.length - 1) ((l.flatMap cellP).take (p * 2) ++ (l.flatMap cellP).drop ((p + 1) * 2))) := ⟨_, rfl, ho2, hg2⟩; clear ho2 hg2))
      go_ret
      exact laid_ins (own_on HO.out HB1.out) hB HB1.out HI.out (by simp; omega) (by rw [cellP_take, cellP_drop]; simp)
end Go.Proofs.YtpbhcjkllfonhaaGreat

/-
  What View.seen returns of a view: rows of a span as they were, with its own changes laid over them.
-/
namespace Go.Proofs.YtpbhcjkllfonhaaGreat
open Go.RowKit Go.Joins Go.Shelf Go.WideShapes
attribute [local go_sem ↓] Go.wp_at_zero Go.wp_at_succ

theorem seenR_rise {s : ByteArray × ByteArray} : ∀ (cs : List Chg) {l : List (ByteArray × ByteArray)}, riseP l → riseP (seenR l s cs)
  | [], _, h => h
  | c :: cs, l, h => by
    refine seenR_rise cs (l := if hasS s.1 s.2 c.key then layR l c else l) ?_
    split
    · rw [lay_apply h]; exact apply1_rise h c
    · exact h
/-- what is seen: rows of one's own -/
def SeenAt (w w' : World) (e : Ending) (L : List (ByteArray × ByteArray)) : Prop := ∃ v, e = .returned v ∧ Below w.heap.size w w' ∧ ownP w' w.heap.size v L
set_option maxRecDepth 4000 in
set_option maxHeartbeats 4000000 in
theorem seen_any (s : ByteArray × ByteArray) {B0 B wb vb mb n : Nat} {now since : Int} {D : DataW Value} {g : ByteArray → Value} {R : ByteArray → List Ver} {cv rv : Value} {chs : List Chg} {rds P : List (ByteArray × ByteArray)} (w : World) (hv : VS w B0 vb mb now n D g R) (h : VW w B wb vb since cv rv chs rds)
    (hn : n ≤ 1000000) (hR : ∀ key, (R key).length ≤ 1000000) (hP : riseP P) (hPl : P.length ≤ 50000) (hPk : ∀ r ∈ P, r.1.size ≤ 1000000) (hs : sayR R since P) (hc : chs.length ≤ 100) :
    Calls Tryz.prog 31 #[.pointer (some ⟨wb, 0, none⟩), .agg #[.string s.1, .string s.2]] w fun e w' => SeenAt w w' e (seenR (inR P s) s chs) := by
  have HV := hide hv
  have HR := hide hR
  have HP := hide hP
  have HPK := hide hPk
  have HSY := hide hs
  have hB0 := below_alloc1 w (Obj.cells #[Value.string s.1, Value.string s.2] 49)
  have a0 : (w.alloc (Obj.cells #[Value.string s.1, Value.string s.2] 49)).cell? ⟨w.heap.size, 0, none⟩ = some (.string s.1) := cell_new _ _ _ 0
  have a1 : (w.alloc (Obj.cells #[Value.string s.1, Value.string s.2] 49)).cell? ⟨w.heap.size, 1, none⟩ = some (.string s.2) := cell_new _ _ _ 1
  have c0 := cell_on hB0 h.c0
  have c1 := cell_on hB0 h.c1
  have c2 := cell_on hB0 h.c2
  have HCH := hide (own_on h.chs hB0)
  obtain ⟨ca, cc, rfl⟩ := own_shape h.chs
  have HB0 := hide hB0
  have HV1 := hide (HV.out.on HB0.out)
  have hz : w.heap.size + 1 = (w.alloc (Obj.cells #[Value.string s.1, Value.string s.2] 49)).heap.size := by simp
  clear h hv hR hB0 hP hPk hs
  go_enter Tryz.func31, Tryz.ntmps31
  go_wp2
  generalize (w.alloc (Obj.cells #[Value.string s.1, Value.string s.2] 49)) = W0 at *
  go_region_held3 (fun w' => w'.cell? ⟨w.heap.size, 0, none⟩ = some (.string s.1) ∧ w'.cell? ⟨w.heap.size, 1, none⟩ = some (.string s.2) ∧ w'.cell? ⟨wb, 0, none⟩ = some (.pointer (some ⟨vb, 0, none⟩)) ∧ w'.cell? ⟨wb, 1, none⟩ = some (.int .i64 since))
    (first | go_keep | exact ⟨cell_on hb2 a0, cell_on hb2 a1, cell_on hb2 c0, cell_on hb2 c1⟩) (first | (go_at_call 52; refine (scan_any sort_says sort_nil s since _ (HV1.out.on (Below.refl _ _).drew) hn HR.out).mono ?_; rintro e w2 ⟨v, rfl, hb2', F, ho, hs, hnd, hm⟩; have hb2 := below_on (Below.refl _ W0).drew (Nat.le_refl _) hb2'; clear hb2'; dsimp only))
  all_goals
    have eF : F = inR P s := say_in HP.out HPK.out HSY.out hs hnd hm
    subst eF
    have HO := hide ho
    have HB2 := hide hb2
    replace c2 := cell_on hb2 c2
    clear ho hs hnd hm hb2 c0 c1
    obtain ⟨fa, fc, hfv⟩ := own_shape HO.out
    subst hfv
    go_wp2
    go_loopw [5, 23] (fun v5 i wr => ∃ k : Nat, k ≤ chs.length ∧ i = .int .i64 k ∧ ownP wr W0.heap.size v5 (seenR (inR P s) s (chs.take k)) ∧ Below W0.heap.size W0 wr) (fun _ i _ => chs.length - (intOf i).toNat)
    case atStart => exact ⟨0, Nat.zero_le _, rfl, HO.out, HB2.out⟩
    case round =>
      obtain ⟨k, hk, rfl, hown, hB⟩ := hrel
      have HW := hide hown
      have HBR := hide hB
      have hsz := hB.size
      clear hown hB HO HB2
      by_cases hlt : k < chs.length
      · have hlt' : (k : Int) < (chs.length : Int) := by omega
        rcases own_form HCH.out with ⟨_, h0⟩ | ⟨cb, cap', ecv, _⟩
        · omega
        cases ecv
        have hch : chgsAt W0 cb 0 chs := chgs_of_cells chs 0 fun j u hj => by
          have := World.ownsRow.cells HCH.out (g := cb) rfl j u hj
          rwa [add_plain] at this
        obtain ⟨d0, d1, d2⟩ := hch k hlt
        rw [Nat.zero_add] at d0 d1 d2
        replace d0 := cell_on HBR.out d0
        replace d1 := cell_on HBR.out d1
        replace d2 := cell_on HBR.out d2
        have HST := hide (seenR_take (inR P s) s chs k hlt)
        have hlen : (seenR (inR P s) s (chs.take k)).length ≤ 100000 := by
          have h1 := seenR_len (inR P s) s (chs.take k)
          have h2 : (inR P s).length ≤ P.length := List.length_filter_le _ _
          have h3 := List.length_take_le k chs
          omega
        have HRS := hide (seenR_rise (s := s) (chs.take k) (show riseP (inR P s) from HP.out.filter _))
        clear hch
        generalize chs[k] = c at *
        have b0 := cell_on HBR.out a0
        have b1 := cell_on HBR.out a1
        generalize seenR (inR P s) s (chs.take k) = L at *
        have hBC := below_alloc1 wr (Obj.cells #[Value.string c.key, Value.string c.val, Value.bool c.gone] 46)
        have e0 : (wr.alloc (Obj.cells #[Value.string c.key, Value.string c.val, Value.bool c.gone] 46)).cell? ⟨wr.heap.size, 0, none⟩ = some (.string c.key) := cell_new _ _ _ 0
        have e1 : (wr.alloc (Obj.cells #[Value.string c.key, Value.string c.val, Value.bool c.gone] 46)).cell? ⟨wr.heap.size, 1, none⟩ = some (.string c.val) := cell_new _ _ _ 1
        have e2 : (wr.alloc (Obj.cells #[Value.string c.key, Value.string c.val, Value.bool c.gone] 46)).cell? ⟨wr.heap.size, 2, none⟩ = some (.bool c.gone) := cell_new _ _ _ 2
        have b0' := cell_on hBC b0
        have b1' := cell_on hBC b1
        replace HW := hide (own_on HW.out hBC)
        have HBC := hide (below_on HBR.out (Nat.le_refl _) (hBC.mono (by omega)))
        have hszc : W0.heap.size ≤ (wr.alloc (Obj.cells #[Value.string c.key, Value.string c.val, Value.bool c.gone] 46)).heap.size := by have := hBC.size; omega
        clear hBC
        cases hh : hasS s.1 s.2 c.key with
        | true =>
          rw [hh, if_pos rfl] at HST
          go_wp2_with (first
            | (go_at_call 53; refine (has_any s.1 s.2 c.key _).mono ?_; rintro e w3 ⟨rfl, hb3⟩; rw [hh]; replace HW := hide (own_on HW.out hb3); replace e0 := cell_on hb3 e0; replace e1 := cell_on hb3 e1; replace e2 := cell_on hb3 e2; have HB3 := hide (HBC.out.trans (hb3.mono hszc)); have hs3 := hb3.size; clear hb3)
            | (go_at_call 54; refine (lay_any L _ W0.heap.size c _ HW.out (by omega) HRS.out hlen).mono ?_; rintro e w4 ⟨v4, rfl, ho4, hb4⟩; have HO4 := hide ho4; have HB4 := hide (HB3.out.trans hb4); clear ho4 hb4))
          exact ⟨⟨k + 1, by omega, by go_num, by rw [HST.out]; exact HO4.out, HB4.out⟩, by simp [intOf]; omega⟩
        | false =>
          rw [hh, if_neg (by simp)] at HST
          go_wp2_with (first
            | (go_at_call 53; refine (has_any s.1 s.2 c.key _).mono ?_; rintro e w3 ⟨rfl, hb3⟩; rw [hh]; replace HW := hide (own_on HW.out hb3); have HB3 := hide (HBC.out.trans (hb3.mono hszc)); clear hb3))
          exact ⟨⟨k + 1, by omega, by go_num, by rw [HST.out]; exact HW.out, HB3.out⟩, by simp [intOf]; omega⟩
      · have ek : k = chs.length := by omega
        subst ek
        have hlt' : ¬ (chs.length : Int) < (chs.length : Int) := by omega
        rw [List.take_length] at HW
        obtain ⟨ua, uc, hu⟩ := own_shape HW.out
        subst hu
        go_wp2
        go_ret
        exact ⟨_, rfl, HB0.out.trans (HBR.out.mono (by omega)), own_low HW.out (by omega)⟩
end Go.Proofs.YtpbhcjkllfonhaaGreat
