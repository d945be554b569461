/-
  What versions.New makes: versions of rows that are there from the beginning on.
-/
import Derived.Test.YtighpalbodhfeaaGreatDoorVerSort
import Derived.Test.YtighpalbodhfeaaGreatDoorSpOn
import Derived.Deep.RegionHeld3
import Derived.Test.YtighpalbodhfeaaGreatDoorSpanPt
import Derived.Test.YtighpalbodhfeaaGreatDoorVerScan2
namespace Go.Proofs.YtighpalbodhfeaaGreatDoor
open Go.RowKit Go.Joins
attribute [local go_sem ↓] Go.wp_at_zero Go.wp_at_succ

/-- a row of a key told anew, by a row that is none of the others -/
theorem VS.set {W w4 : World} {B vb mb n gk : Nat} {now : Int} {D : DataW Value} {g : ByteArray → Value} {R : ByteArray → List Ver} {key : ByteArray} {v' : Value} {vs' : List Ver} (h : VS W B vb mb now n D g R) (hB : B ≤ W.heap.size)
    (ho : ownV W B v' vs') (hgk : v'.ownBlock = some gk) (hfresh : ¬ inVS vb mb g gk) (hne : vs' ≠ [])
    (hm : w4.ownsMap Tryz.prog 9 RV mb (n + 1) (D.put (kL key) (.held v'))) (hg4 : W.grownBy w4 (some mb)) :
    VS w4 B vb mb now (n + 1) (D.put (kL key) (.held v')) (putG g key v') (putG R key vs') ∧ Below B W w4 ∧ (∀ j, j < W.heap.size → j ≠ gk → ¬ inVS vb mb g j → w4.heap[j]? = W.heap[j]? ∧ ¬ inVS vb mb (putG g key v') j) := by
  have hv0 := h.lt (k := vb) (.inl rfl)
  have hmap := h.own.isMap
  have hgv : gk ≠ vb := fun e => hfresh (.inl e)
  have hgm : gk ≠ mb := fun e => hfresh (.inr (.inl e))
  have hgl : gk < W.heap.size := (World.ownsRow.lt ho gk hgk).2
  have b4 : ∀ j, j < W.heap.size → j ≠ mb → w4.heap[j]? = W.heap[j]? := fun j h1 h2 => hg4.block j h1 (fun e => h2 (by cases e; rfl))
  have bv : w4.heap[vb]? = W.heap[vb]? := b4 vb hv0 h.ne
  have gko : ∀ k, (g k).ownBlock ≠ some gk := fun k e => hfresh (.inr (.inr ⟨k, e⟩))
  refine ⟨{ num := ?_, soft := ?_, mp := ?_, own := hm, look := ?_, has := ?_, rows := ?_, lov := h.lov, lom := h.lom, ne := h.ne, offv := ?_, offm := ?_, apart := ?_ }, ?_, ?_⟩
  · exact (World.cell?_of_block (w := W) bv).trans h.num
  · exact (World.frozen?_of_block (w := W) bv).trans h.soft
  · exact (World.cell?_of_block (w := W) bv).trans h.mp
  · intro k hkl
    by_cases e : k = key
    · subst e; rw [putG_same, Maps.atKey_put_same hmap (key_lit k)]
    · rw [putG_other _ _ e, Maps.atKey_put_other (kL_ne e)]; exact h.look k hkl
  · intro k hkl
    by_cases e : k = key
    · subst e; rw [putG_same, Maps.has_put_same hmap (key_lit k)]; simp [hne]
    · rw [putG_other _ _ e, Maps.has_put_other (kL_ne e)]; exact h.has k hkl
  · intro k
    by_cases e : k = key
    · subst e
      rw [putG_same, putG_same]
      exact own_block ho fun j hj => by
        rw [hgk] at hj
        cases hj
        exact b4 _ hgl hgm
    · rw [putG_other _ _ e, putG_other _ _ e]
      exact own_block (h.rows k) fun j hj => b4 j (World.ownsRow.lt (h.rows k) j hj).2 (fun e => h.offm k (by rw [hj, e]))
  · intro k
    by_cases e : k = key
    · subst e; rw [putG_same, hgk]; simpa using hgv
    · rw [putG_other _ _ e]; exact h.offv k
  · intro k
    by_cases e : k = key
    · subst e; rw [putG_same, hgk]; simpa using hgm
    · rw [putG_other _ _ e]; exact h.offm k
  · intro a b hab
    by_cases ea : a = key
    · subst ea
      rw [putG_same, putG_other _ _ (Ne.symm hab)]
      intro j hj
      rw [hgk] at hj
      cases hj
      exact gko b
    · rw [putG_other _ _ ea]
      by_cases eb : b = key
      · subst eb
        rw [putG_same]
        intro j hj e
        rw [hgk] at e
        cases e
        exact gko a hj
      · rw [putG_other _ _ eb]; exact h.apart a b hab
  · exact (Below.refl B W).grown hg4 hB (fun k e => by cases e; exact h.lom)
  · intro j h1 h2 h3
    refine ⟨b4 j h1 (fun e => h3 (.inr (.inl e))), ?_⟩
    rintro (e | e | ⟨k, e⟩)
    · exact h3 (.inl e)
    · exact h3 (.inr (.inl e))
    · by_cases ek : k = key
      · subst ek
        rw [putG_same, hgk] at e
        cases e
        exact h2 rfl
      · rw [putG_other _ _ ek] at e
        exact h3 (.inr (.inr ⟨k, e⟩))
def initR (l : List (ByteArray × ByteArray)) : ByteArray → List Ver := l.foldl (fun R r => putG R r.1 [⟨0, r.2, false⟩]) fun _ => []
theorem initR_snoc (l : List (ByteArray × ByteArray)) (r : ByteArray × ByteArray) : initR (l ++ [r]) = putG (initR l) r.1 [⟨0, r.2, false⟩] := by simp [initR]
theorem vs_made {W : World} {B vb mb : Nat} (h1 : W.cell? ⟨vb, 0, none⟩ = some (.int .i64 0)) (h2 : W.frozen? ⟨vb, 0, none⟩ = false) (h3 : W.cell? ⟨vb, 1, none⟩ = some (.map (some mb))) (h4 : W.heap[mb]? = some (.map #[] 0)) (h5 : B ≤ vb) (h6 : B ≤ mb) (h7 : vb ≠ mb) : VS W B vb mb 0 0 (.map []) (fun _ => .slice none 0 0) (fun _ => []) where
  num := h1
  soft := h2
  mp := h3
  own := by
    obtain ⟨es, clock, hb, r⟩ := World.ownsMap_made W Tryz.prog 9 RV
    rw [Go.heap_alloc_new] at hb
    cases hb
    exact ⟨_, _, h4, r⟩
  look := fun key _ => by rw [Maps.atKey_of_not_has rfl]
  has := fun key _ => by simp [Maps.has]
  rows := fun key => World.ownsRow_nil _ _ _ _
  lov := h5
  lom := h6
  ne := h7
  offv := fun key => by simp [Value.ownBlock]
  offm := fun key => by simp [Value.ownBlock]
  apart := fun a b _ k hk => by simp [Value.ownBlock] at hk

theorem make_hint (n : Int) (w : World) : (Instr.makeMap 60 (some (.int .i64 n))).run Tryz.prog w = .ok (.map (some w.heap.size)) (w.alloc (.map #[] 0)) := by
  simp [Instr.makeMap, run_underlying Tryz.underlying60, asInt, newObj, go_sem]
  rfl

set_option maxRecDepth 4000 in
set_option maxHeartbeats 4000000 in
theorem new_any (l : List (ByteArray × ByteArray)) (ao : Option Addr) (cap : Nat) (w : World) (hl : heldSp w ao l) (hn : l.length ≤ 1000) (hk : ∀ r ∈ l, r.1.size ≤ 1000000) :
    Calls Tryz.prog 8 #[.slice ao l.length cap] w fun e w' => ∃ vb, e = .returned (.pointer (some ⟨vb, 0, none⟩)) ∧ Below w.heap.size w w' ∧ ∃ mb D g, VS w' w.heap.size vb mb 0 l.length D g (initR l) := by
  have HL := hide hl
  have HK := hide hk
  clear hl hk
  go_enter Tryz.func8, Tryz.ntmps8
  have hmk := make_hint
  go_wp2
  have HB0 : Hid (Below w.heap.size w ((w.alloc (Obj.map #[] 0)).alloc (Obj.cells #[Value.int .i64 0, Value.map (some w.heap.size)] 62))) := below_alloc2 _ _ _
  have HV0 : Hid (VS ((w.alloc (Obj.map #[] 0)).alloc (Obj.cells #[Value.int .i64 0, Value.map (some w.heap.size)] 62)) w.heap.size (w.heap.size + 1) w.heap.size 0 0 (.map []) (fun _ => .slice none 0 0) (fun _ => [])) := by
    have e1 : (w.alloc (Obj.map #[] 0)).heap.size = w.heap.size + 1 := by simp
    refine vs_made ?_ ?_ ?_ ?_ (by omega) (Nat.le_refl _) (by omega)
    · have := cell_new (w.alloc (Obj.map #[] 0)) #[Value.int .i64 0, Value.map (some w.heap.size)] 62 0
      rwa [e1] at this
    · have := frozen_new (w.alloc (Obj.map #[] 0)) #[Value.int .i64 0, Value.map (some w.heap.size)] 62 0
      rwa [e1] at this
    · have := cell_new (w.alloc (Obj.map #[] 0)) #[Value.int .i64 0, Value.map (some w.heap.size)] 62 1
      rwa [e1] at this
    · rw [Below.heap_alloc _ _ _ (by simp)]
      exact Go.heap_alloc_new w _
  clear hmk
  go_loopw [13] (fun i wr => ∃ (k : Nat) (D : DataW Value) (g : ByteArray → Value), k ≤ l.length ∧ i = .int .i64 k ∧ VS wr w.heap.size (w.heap.size + 1) w.heap.size 0 k D g (initR (l.take k)) ∧ Below w.heap.size w wr) (fun i _ => l.length - (intOf i).toNat)
  case atStart => exact ⟨0, _, _, Nat.zero_le _, rfl, HV0.out, HB0.out⟩
  case round =>
    obtain ⟨k, D, g, hkl, rfl, hV, hBr⟩ := hrel
    have H1 := hide hV
    have H2 := hide hBr
    clear hV hBr HV0 HB0
    by_cases hlt : k < l.length
    · rcases heldSp_on H2.out HL.out with e | ⟨b, off, eao, hc0⟩
      · rw [e] at hlt; simp at hlt
      subst eao
      obtain ⟨c0, c1⟩ := hc0 k hlt
      have hlt' : (k : Int) < (l.length : Int) := by omega
      have hks := HK.out _ (List.getElem_mem hlt)
      have hkm : l[k].1.size ≤ maxLen := by unfold maxLen; omega
      have HT : Hid (initR (l.take (k + 1)) = putG (initR (l.take k)) l[k].1 [⟨0, l[k].2, false⟩]) := by
        unfold Hid; rw [List.take_succ_eq_append_getElem hlt, initR_snoc]
      generalize initR (l.take k) = R1 at H1 HT
      clear hc0 hks
      generalize l[k] = x at *
      have hbA := below_alloc1 wr (Obj.cells #[Value.string x.1, Value.string x.2] 55)
      have x0 : (wr.alloc (Obj.cells #[Value.string x.1, Value.string x.2] 55)).cell? ⟨wr.heap.size, 0, none⟩ = some (.string x.1) := cell_new _ _ _ 0
      have x1 : (wr.alloc (Obj.cells #[Value.string x.1, Value.string x.2] 55)).cell? ⟨wr.heap.size, 1, none⟩ = some (.string x.2) := cell_new _ _ _ 1
      have xs : (wr.alloc (Obj.cells #[Value.string x.1, Value.string x.2] 55)).heap.size = wr.heap.size + 1 := by simp
      have HVY := hide (H1.out.on hbA)
      have HBY := hide hbA
      have hnv : ¬ inVS (w.heap.size + 1) w.heap.size g wr.heap.size := fun e => by have := H1.out.lt e; omega
      have hnv1 : ¬ inVS (w.heap.size + 1) w.heap.size g (wr.heap.size + 1) := fun e => by have := H1.out.lt e; omega
      go_wp2
      generalize hY : wr.alloc (Obj.cells #[Value.string x.1, Value.string x.2] 55) = Y at x0 x1 xs HVY HBY ⊢
      clear hY hbA c0 c1
      have v1 := HVY.out.mp
      have hvY := HVY.out.lt (k := w.heap.size + 1) (.inl rfl)
      have hbZ := (below_alloc1 Y (Obj.cells #[Value.int .i64 0, Value.string x.2, Value.bool false] 64)).drew
      have HVZ := hide (HVY.out.on hbZ)
      have hB1 : w.heap.size ≤ Y.heap.size := by omega
      have hoZ : ownV (Y.alloc (Obj.cells #[Value.int .i64 0, Value.string x.2, Value.bool false] 64)).drew w.heap.size (.slice (some ⟨wr.heap.size + 1, 0, none⟩) 1 1) [⟨0, x.2, false⟩] := by
        rw [← xs]
        refine ⟨rfl, .inr ⟨Y.heap.size, 1, #[Value.int .i64 0, Value.string x.2, Value.bool false], rfl, hB1, Go.heap_alloc_new Y _, by simp, by simp [maxLen], rfl, rfl⟩⟩
      have HOZ := hide hoZ
      obtain ⟨w4, hrun4, hm4, hg4⟩ := HVZ.out.own.update str_keyed Tryz.underlying60 (by unfold maxLen; omega) (key_mk hkm) (show RV (.slice (some ⟨wr.heap.size + 1, 0, none⟩) 1 1) = _ from rfl)
      have nvm : (some (w.heap.size + 1) : Option Nat) ≠ some w.heap.size := fun e => by have := Option.some.inj e; omega
      have nxm : (some wr.heap.size : Option Nat) ≠ some w.heap.size := fun e => hnv (.inr (.inl (Option.some.inj e)))
      have q1 := hg4.cell (cell_on hbZ v1) nvm
      have q2 := hg4.cell (cell_on hbZ x0) nxm
      have q3 := hg4.cell (cell_on hbZ x1) nxm
      have HS : Hid (VS w4 w.heap.size (w.heap.size + 1) w.heap.size 0 (k + 1) (D.put (kL x.1) (.held (.slice (some ⟨wr.heap.size + 1, 0, none⟩) 1 1))) (putG g x.1 (.slice (some ⟨wr.heap.size + 1, 0, none⟩) 1 1)) (putG R1 x.1 [⟨0, x.2, false⟩]) ∧ Below w.heap.size w w4) := by
        obtain ⟨r1, r2, _⟩ := HVZ.out.set (Nat.le_trans hB1 hbZ.size) HOZ.out rfl hnv1 (by simp) hm4 hg4
        exact ⟨r1, (H2.out.trans ((below_on HBY.out (Nat.le_refl _) hbZ).mono H2.out.size)).trans r2⟩
      clear hoZ hm4 hg4
      go_region_held3 (fun w' => w'.cell? ⟨w.heap.size + 1, 1, none⟩ = some (.map (some w.heap.size)) ∧ w'.cell? ⟨wr.heap.size, 0, none⟩ = some (.string x.1) ∧ w'.cell? ⟨wr.heap.size, 1, none⟩ = some (.string x.2))
        (first | go_keep | exact ⟨q1, q2, q3⟩) (fail)
      go_wp2
      go_roundw
      case rel => exact ⟨k + 1, _, _, by omega, by go_num, by rw [HT.out]; exact HS.out.1, HS.out.2⟩
      case measure => simp [intOf]; omega
    · have ek : k = l.length := by omega
      subst ek
      have hlt' : ¬ (l.length : Int) < (l.length : Int) := by omega
      rw [List.take_length] at H1
      go_wp2
      go_ret
      exact ⟨_, rfl, H2.out, _, _, _, H1.out⟩
end Go.Proofs.YtighpalbodhfeaaGreatDoor

/-
  What was stays behind a deed; rows that rise are told by what they are. Plain facts.
-/
namespace Go.Proofs.YtighpalbodhfeaaGreatDoor
open Go.RowKit Go.Joins

theorem behind_snoc {vs : List Ver} {x : Ver} {n : Int} (h : n < x.deed) : behindV (vs ++ [x]) n = behindV vs n := by
  have e : lastV (vs ++ [x]) n = lastV vs n := by
    unfold lastV
    rw [List.reverse_append, List.reverse_singleton, List.singleton_append, List.find?_cons, decide_eq_false (by omega)]
  unfold behindV
  rw [e]
theorem behind_apply {d n : Int} (h : n < d) (key : ByteArray) : ∀ (l : List Chg) (R : ByteArray → List Ver), behindV (applyR R d l key) n = behindV (R key) n
  | [], R => rfl
  | c :: l, R => by
    have e : applyR R d (c :: l) = applyR (putG R c.key (R c.key ++ [⟨d, c.val, c.gone⟩])) d l := rfl
    rw [e, behind_apply h key l]
    by_cases hk : key = c.key
    · subst hk; rw [putG_same]; exact behind_snoc h
    · rw [putG_other _ _ hk]
theorem rows_strict {F : List (ByteArray × ByteArray)} (h : F.Pairwise fun a b => ltS b.1 a.1 = false) (hn : (F.map (·.1)).Nodup) : F.Pairwise fun a b => ltS a.1 b.1 = true := by
  have hn' : F.Pairwise fun a b => a.1 ≠ b.1 := List.pairwise_map.1 hn
  refine (h.and hn').imp fun {a b} h' => ?_
  rcases ltS_total a.1 b.1 with k | k | k
  · exact k
  · exact absurd k h'.2
  · rw [h'.1] at k; cases k
theorem rows_eq : ∀ {F G : List (ByteArray × ByteArray)}, F.Pairwise (fun a b => ltS a.1 b.1 = true) → G.Pairwise (fun a b => ltS a.1 b.1 = true) → (∀ r, r ∈ F ↔ r ∈ G) → F = G
  | [], [], _, _, _ => rfl
  | [], b :: G, _, _, h => by have := (h b).2 (by simp); cases this
  | a :: F, [], _, _, h => by have := (h a).1 (by simp); cases this
  | a :: F, b :: G, hF, hG, h => by
    rw [List.pairwise_cons] at hF hG
    have e : a = b := by
      rcases List.mem_cons.1 ((h a).1 (by simp)) with e | h1
      · exact e
      · rcases List.mem_cons.1 ((h b).2 (by simp)) with e | h2
        · exact e.symm
        · have := ltS_asymm (hG.1 a h1)
          rw [hF.1 b h2] at this
          cases this
    subst e
    refine congrArg (a :: ·) (rows_eq hF.2 hG.2 fun r => ?_)
    have := h r
    constructor
    · intro hr
      rcases List.mem_cons.1 (this.1 (List.mem_cons_of_mem _ hr)) with e | h'
      · subst e; have := hF.1 r hr; rw [ltS_irrefl] at this; cases this
      · exact h'
    · intro hr
      rcases List.mem_cons.1 (this.2 (List.mem_cons_of_mem _ hr)) with e | h'
      · subst e; have := hG.1 r hr; rw [ltS_irrefl] at this; cases this
      · exact h'
theorem initR_len (l : List (ByteArray × ByteArray)) (key : ByteArray) : (initR l key).length ≤ 1 := by
  unfold initR
  have : ∀ (l : List (ByteArray × ByteArray)) (R : ByteArray → List Ver), (R key).length ≤ 1 → ((l.foldl (fun R r => putG R r.1 [⟨0, r.2, false⟩]) R) key).length ≤ 1 := by
    intro l
    induction l with
    | nil => exact fun R h => h
    | cons r l ih =>
      intro R h
      refine ih _ ?_
      by_cases e : key = r.1
      · simp [putG, e]
      · simp [putG, e]; exact h
  exact this l _ (by simp)
end Go.Proofs.YtighpalbodhfeaaGreatDoor

/-
  What haywainref.SameRows returns of rows that are the same. It changes nothing that was there.
-/
namespace Go.Proofs.YtighpalbodhfeaaGreatDoor
open Go.RowKit Go.Joins

/-- rows of one's own, as they lie -/
theorem ownP_held {w : World} {B : Nat} {v : Value} {F : List (ByteArray × ByteArray)} (h : ownP w B v F) : ∃ ao cap, v = .slice ao F.length cap ∧ heldSp w ao F := by
  rcases own_form h with ⟨hv, h0⟩ | ⟨g, cap, hv, _, hl, hc, hm⟩
  · have e : F = [] := List.length_eq_zero_iff.1 h0
    subst e
    exact ⟨none, 0, hv, .inl rfl⟩
  · refine ⟨_, cap, hv, .inr ⟨g, 0, rfl, fun i hi => ?_⟩⟩
    unfold ownP at h
    rw [hv] at h
    have h0 := (own_get cellP_len h i 0 hi (by omega)).1
    have h1 := (own_get cellP_len h i 1 hi (by omega)).1
    rw [show 0 + i * 2 = i * 2 + 0 by omega]
    exact ⟨h0, by rw [show i * 2 + 0 + 1 = i * 2 + 1 by omega]; exact h1⟩
theorem ownP_has {w : World} {B : Nat} {la : Option Addr} {lc : Nat} {F : List (ByteArray × ByteArray)} (h : ownP w B (.slice la F.length lc) F) : heldSp w la F ∧ F.length ≤ 9223372036854775807 := by
  refine ⟨?_, ?_⟩
  · obtain ⟨ao, cap, e, hh⟩ := ownP_held h
    cases e
    exact hh
  · rcases own_form h with ⟨_, h0⟩ | ⟨g, cap, hv, _, hl, hc, hm⟩
    · omega
    · unfold maxLen at hm; omega
set_option maxHeartbeats 1000000 in
theorem sameRows_some (l : List (ByteArray × ByteArray)) (b off cap b2 off2 cap2 : Nat) (w : World) (hl : spansAt w b off l) (hl2 : spansAt w b2 off2 l) (hn : l.length ≤ 9223372036854775807) :
    Calls Tryz.prog 35 #[.slice (some ⟨b, off, none⟩) l.length cap, .slice (some ⟨b2, off2, none⟩) l.length cap2] w fun e w' => e = .returned (.bool true) ∧ Below w.heap.size w w' := by
  go_enter Tryz.func35, Tryz.ntmps35
  go_wp2
  go_loopw [5] (fun i wr => ∃ k : Nat, k ≤ l.length ∧ i = .int .i64 k ∧ Below w.heap.size w wr) (fun i _ => l.length - (intOf i).toNat)
  case atStart => exact ⟨0, Nat.zero_le _, rfl, Below.refl _ _⟩
  case round =>
    obtain ⟨k, hk, rfl, hB⟩ := hrel
    by_cases hlt : k < l.length
    · obtain ⟨c0, c1⟩ := spansAt_on hB hl k hlt
      obtain ⟨d0, d1⟩ := spansAt_on hB hl2 k hlt
      go_wp2
      go_quiet (fail)
      go_wp2
      go_roundw
      case rel => exact ⟨k + 1, by omega, by go_num, hB.trans (below_draws _ _ _)⟩
      case measure => simp [intOf]; omega
    · go_wp2
      go_ret
      exact ⟨rfl, hB⟩
set_option maxHeartbeats 1000000 in
theorem sameRows_nil (ao ao2 : Option Addr) (cap cap2 : Nat) (w : World) :
    Calls Tryz.prog 35 #[.slice ao 0 cap, .slice ao2 0 cap2] w fun e w' => e = .returned (.bool true) ∧ Below w.heap.size w w' := by
  go_enter Tryz.func35, Tryz.ntmps35
  go_wp2
  go_loopw [5] (fun i wr => i = .int .i64 0 ∧ wr = w) (fun _ _ => 0)
  case atStart => exact ⟨rfl, rfl⟩
  case round =>
    obtain ⟨rfl, rfl⟩ := hrel
    go_wp2
    go_ret
    exact ⟨rfl, Below.refl _ _⟩
theorem sameRows_held (l : List (ByteArray × ByteArray)) (ao ao2 : Option Addr) (cap cap2 : Nat) (w : World) (hl : heldSp w ao l) (hl2 : heldSp w ao2 l) (hn : l.length ≤ 9223372036854775807) :
    Calls Tryz.prog 35 #[.slice ao l.length cap, .slice ao2 l.length cap2] w fun e w' => e = .returned (.bool true) ∧ Below w.heap.size w w' := by
  rcases hl with rfl | ⟨b, off, rfl, h⟩
  · exact sameRows_nil _ _ _ _ _
  · rcases hl2 with rfl | ⟨b2, off2, rfl, h2⟩
    · exact sameRows_nil _ _ _ _ _
    · exact sameRows_some l b off cap b2 off2 cap2 w h h2 hn
end Go.Proofs.YtighpalbodhfeaaGreatDoor

/-
  What View.seen returns of a view that has changed nothing: rows of a span as they were; what view.upTo and slices.Clip return.
-/
namespace Go.Proofs.YtighpalbodhfeaaGreatDoor
open Go.RowKit Go.Joins Go.Shelf
attribute [local go_sem ↓] Go.wp_at_zero Go.wp_at_succ

set_option maxRecDepth 4000 in
set_option maxHeartbeats 2000000 in
theorem seen_nil (s : ByteArray × ByteArray) {B0 B wb vb mb n : Nat} {now since : Int} {D : DataW Value} {g : ByteArray → Value} {R : ByteArray → List Ver} {cv rv : Value} {rds : List (ByteArray × ByteArray)} (w : World) (hv : VS w B0 vb mb now n D g R) (h : VW w B wb vb since cv rv [] rds)
    (hn : n ≤ 1000000) (hR : ∀ key, (R key).length ≤ 1000000) :
    Calls Tryz.prog 78 #[.pointer (some ⟨wb, 0, none⟩), .agg #[.string s.1, .string s.2]] w fun e w' => ∃ v, e = .returned v ∧ Below w.heap.size w w' ∧ ∃ F, ownP w' w.heap.size v F ∧ (F.Pairwise fun a b => ltS a.1 b.1 = true) ∧ ∀ r, r ∈ F ↔ told R since s r := by
  have HV := hide hv
  have HR := hide hR
  have hB0 := below_alloc1 w (Obj.cells #[Value.string s.1, Value.string s.2] 91)
  have a0 : (w.alloc (Obj.cells #[Value.string s.1, Value.string s.2] 91)).cell? ⟨w.heap.size, 0, none⟩ = some (.string s.1) := cell_new _ _ _ 0
  have a1 : (w.alloc (Obj.cells #[Value.string s.1, Value.string s.2] 91)).cell? ⟨w.heap.size, 1, none⟩ = some (.string s.2) := cell_new _ _ _ 1
  have c0 := cell_on hB0 h.c0
  have c1 := cell_on hB0 h.c1
  have c2 := cell_on hB0 h.c2
  obtain ⟨ca, cc, rfl⟩ := own_shape h.chs
  have HB0 := hide hB0
  clear h hv hR hB0
  go_enter Tryz.func78, Tryz.ntmps78
  go_wp2
  go_region_held3 (fun w' => w'.cell? ⟨w.heap.size, 0, none⟩ = some (.string s.1) ∧ w'.cell? ⟨w.heap.size, 1, none⟩ = some (.string s.2) ∧ w'.cell? ⟨wb, 0, none⟩ = some (.pointer (some ⟨vb, 0, none⟩)) ∧ w'.cell? ⟨wb, 1, none⟩ = some (.int .i64 since))
    (first | go_keep | exact ⟨cell_on hb2 a0, cell_on hb2 a1, cell_on hb2 c0, cell_on hb2 c1⟩) (first | (go_at_call 116; refine (scan_any sort_says sort_nil s since _ ((HV.out.on HB0.out).on (Below.refl _ _).drew) hn HR.out).mono ?_; rintro e w2 ⟨v, rfl, hb2', F, ho, hs, hnd, hm⟩; have hb2 := below_on (Below.refl _ (w.alloc (Obj.cells #[Value.string s.1, Value.string s.2] 91))).drew (Nat.le_refl _) hb2'; clear hb2'; dsimp only))
  all_goals
    have HO := hide ho
    have HST := hide (rows_strict hs hnd)
    have HM := hide hm
    have HB2 := hide (below_on HB0.out (Nat.le_refl _) hb2)
    replace c2 := cell_on hb2 c2
    clear ho hs hnd hm hb2
    go_wp2
    refine wp_loop_rounds 1 ?_
    rw [rounds_succ]
    go_wp2
    go_ret
    exact ⟨v, rfl, HB2.out, F, own_low HO.out (by simp), HST.out, HM.out⟩
theorem field_to (a b : ByteArray) (w : World) : (Instr.field 91 (.agg #[.string a, .string b]) 1).run Tryz.prog w = .ok (.string b) w := by
  have h1 := Tryz.isAgg9
  have h2 := Tryz.sizeOf9
  simp [Instr.field, run_underlying Tryz.underlying91, asAgg, part, h1, go_sem]
set_option maxRecDepth 10000 in
set_option maxHeartbeats 1000000 in
theorem upTo_any (key : ByteArray) (w : World) (hk : key.size ≤ 1000) :
    Calls Tryz.prog 81 #[.string key] w fun e w' => e = .returned (.agg #[.string ⟨#[]⟩, .string (zeroS key)]) ∧ Below w.heap.size w w' := by
  have HP := fun w => hide (point_any key w hk)
  have hfl := field_to
  have hB := below_alloc1 w (Obj.cells #[Value.string ⟨#[]⟩, Value.string ⟨#[]⟩] 91)
  have fz := frozen_new w #[Value.string ⟨#[]⟩, Value.string ⟨#[]⟩] 91
  have r0 : (w.alloc (Obj.cells #[Value.string ⟨#[]⟩, Value.string ⟨#[]⟩] 91)).cell? ⟨w.heap.size, 0, none⟩ = some (.string ⟨#[]⟩) := by simp
  have r1 : (w.alloc (Obj.cells #[Value.string ⟨#[]⟩, Value.string ⟨#[]⟩] 91)).cell? ⟨w.heap.size, 1, none⟩ = some (.string ⟨#[]⟩) := by simp
  have h0 : w.heap.size < (w.alloc (Obj.cells #[Value.string ⟨#[]⟩, Value.string ⟨#[]⟩] 91)).heap.size := by simp
  generalize zeroS key = z at *
  go_enter Tryz.func81, Tryz.ntmps81
  go_wp2_with (go_at_call 74; refine (HP _).out.mono ?_; rintro e w1 ⟨rfl, hb⟩; replace hB := below_on hB (Nat.le_refl _) hb; replace fz := fun j => frozen_on hb h0 (fz j); replace r0 := cell_on hb r0; replace r1 := cell_on hb r1; clear hb h0)
  exact bodyPost_ret (v := .agg #[.string ⟨#[]⟩, .string z]) (by simp [results, Tryz.results81, go_sem, r0, r1]) rfl ⟨rfl, (hB.setCell (p := ⟨w.heap.size, 0, none⟩) (Nat.le_refl _) _).setCell (p := ⟨w.heap.size, 1, none⟩) (Nat.le_refl _) _⟩
set_option maxHeartbeats 1000000 in
theorem clip_any (a : Addr) (n cap : Nat) (w : World) (hn : n ≤ cap) (hc : cap ≤ 9223372036854775807) :
    Calls Tryz.prog 79 #[.slice (some a) n cap] w fun e w' => e = .returned (.slice (some a) n n) ∧ Below w.heap.size w w' := by
  have h1 : (n : Int) ≤ (cap : Int) := by omega
  have h2 : n ≤ 9223372036854775807 := by omega
  go_enter Tryz.func79, Tryz.ntmps79
  go_wp2
  go_ret
  exact ⟨rfl, Below.refl _ _⟩
end Go.Proofs.YtighpalbodhfeaaGreatDoor

/-
  Rows that rise, few, with short keys.
-/
namespace Go.Proofs.YtighpalbodhfeaaGreatDoor
open Go.RowKit Go.Joins

def goodB (l : List (ByteArray × ByteArray)) : Prop := l.length ≤ 50 ∧ ∀ r ∈ l, r.1.size ≤ 60
def goodV (l : List (ByteArray × ByteArray)) (w : World) (e : Ending) (w' : World) : Prop := ∃ v, e = .returned (.bool v) ∧ (v = true → goodB l) ∧ Below w.heap.size w w'
/-- each above the one ahead of it -/
def riseA (l : List (ByteArray × ByteArray)) : Prop := ∀ j (h : j < l.length) i (hi : i < l.length), i + 1 = j → leS l[j].1 l[i].1 = false
def goodV2 (l : List (ByteArray × ByteArray)) (w : World) (e : Ending) (w' : World) : Prop := ∃ v, e = .returned (.bool v) ∧ (v = true → goodB l ∧ riseA l) ∧ Below w.heap.size w w'
end Go.Proofs.YtighpalbodhfeaaGreatDoor
