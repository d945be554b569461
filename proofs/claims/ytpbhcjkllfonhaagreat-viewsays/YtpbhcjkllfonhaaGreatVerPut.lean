/-
  One version more of a row: what becomes of versions in memory. Nothing of the program's functions is named here.
-/
import Derived.Test.YtpbhcjkllfonhaaGreatVerLast2
import Derived.Test.YtpbhcjkllfonhaaGreatSpOn
import Derived.Deep.RegionHeld3
namespace Go.Proofs.YtpbhcjkllfonhaaGreat
open Go.RowKit Go.Joins

def putG {α : Type} (g : ByteArray → α) (key : ByteArray) (v : α) : ByteArray → α := fun k => if k = key then v else g k
theorem putG_same {α : Type} (g : ByteArray → α) (key : ByteArray) (v : α) : putG g key v key = v := by simp [putG]
theorem putG_other {α : Type} (g : ByteArray → α) {key k : ByteArray} (v : α) (h : k ≠ key) : putG g key v k = g k := by simp [putG, h]
theorem VS.put {W w3 w4 : World} {B vb mb n gk ck : Nat} {now : Int} {D : DataW Value} {g : ByteArray → Value} {R : ByteArray → List Ver} {key : ByteArray} {x : Ver} (h : VS W B vb mb now n D g R) (hk : key.size ≤ maxLen) (hB : B ≤ W.heap.size)
    (hg : W.grownBy w3 (g key).ownBlock) (ho : ownV w3 B (.slice (some ⟨gk, 0, none⟩) ((R key).length + 1) ck) (R key ++ [x])) (hat : (g key).ownBlock = some gk ∨ gk = W.heap.size)
    (hm : w4.ownsMap Tryz.prog 9 RV mb (n + 1) (D.put (kL key) (.held (.slice (some ⟨gk, 0, none⟩) ((R key).length + 1) ck)))) (hg4 : w3.grownBy w4 (some mb)) :
    VS w4 B vb mb now (n + 1) (D.put (kL key) (.held (.slice (some ⟨gk, 0, none⟩) ((R key).length + 1) ck))) (putG g key (.slice (some ⟨gk, 0, none⟩) ((R key).length + 1) ck)) (putG R key (R key ++ [x])) ∧ Below B W w4 ∧
    (∀ j, j < W.heap.size → ¬ inVS vb mb g j → w4.heap[j]? = W.heap[j]? ∧ ¬ inVS vb mb (putG g key (.slice (some ⟨gk, 0, none⟩) ((R key).length + 1) ck)) j) := by
  have hv0 := h.lt (k := vb) (.inl rfl)
  have hm0 := h.lt (k := mb) (.inr (.inl rfl))
  have hmap := h.own.isMap
  have hgv : gk ≠ vb := by
    rcases hat with e | e
    · exact fun e' => h.offv key (by rw [e, e'])
    · omega
  have hgm : gk ≠ mb := by
    rcases hat with e | e
    · exact fun e' => h.offm key (by rw [e, e'])
    · omega
  have hgl : gk < w3.heap.size := (World.ownsRow.lt ho gk rfl).2
  have b3 : ∀ j, j < W.heap.size → some j ≠ (g key).ownBlock → w3.heap[j]? = W.heap[j]? := fun j h1 h2 => hg.block j h1 h2
  have b4 : ∀ j, j < w3.heap.size → j ≠ mb → w4.heap[j]? = w3.heap[j]? := fun j h1 h2 => hg4.block j h1 (fun e => h2 (by cases e; rfl))
  have bv : w4.heap[vb]? = W.heap[vb]? := (b4 vb (Nat.lt_of_lt_of_le hv0 hg.size) h.ne).trans (b3 vb hv0 (Ne.symm (h.offv key)))
  have other : ∀ k, k ≠ key → ∀ j, (g k).ownBlock = some j → w4.heap[j]? = W.heap[j]? := fun k hne j hj => by
    have hjl := (World.ownsRow.lt (h.rows k) j hj).2
    exact (b4 j (Nat.lt_of_lt_of_le hjl hg.size) (fun e => h.offm k (by rw [hj, e]))).trans (b3 j hjl (fun e => h.apart k key hne j hj e.symm))
  have gko : ∀ k, k ≠ key → (g k).ownBlock ≠ some gk := fun k hne e => by
    rcases hat with e' | e'
    · exact h.apart k key hne gk e e'
    · have := (World.ownsRow.lt (h.rows k) gk e).2; omega
  refine ⟨{ num := ?_, soft := ?_, mp := ?_, own := hm, look := ?_, has := ?_, rows := ?_, lov := h.lov, lom := h.lom, ne := h.ne, offv := ?_, offm := ?_, apart := ?_ }, ?_, ?_⟩
  · exact (World.cell?_of_block (w := W) bv).trans h.num
  · exact (World.frozen?_of_block (w := W) bv).trans h.soft
  · exact (World.cell?_of_block (w := W) bv).trans h.mp
  · intro k hkl
    by_cases e : k = key
    · subst e; rw [putG_same, Maps.atKey_put_same hmap (key_lit k)]
    · rw [putG_other _ _ e, Maps.atKey_put_other (kL_ne e)]; exact h.look k hkl
  · intro k hkl
    by_cases e : k = key
    · subst e; rw [putG_same, Maps.has_put_same hmap (key_lit k)]; simp
    · rw [putG_other _ _ e, Maps.has_put_other (kL_ne e)]; exact h.has k hkl
  · intro k
    by_cases e : k = key
    · subst e
      rw [putG_same, putG_same]
      exact own_block ho fun j hj => by
        simp [Value.ownBlock] at hj
        subst hj
        exact b4 _ hgl hgm
    · rw [putG_other _ _ e, putG_other _ _ e]
      exact own_block (h.rows k) fun j hj => other k e j hj
  · intro k
    by_cases e : k = key
    · subst e; rw [putG_same]; simpa [Value.ownBlock] using hgv
    · rw [putG_other _ _ e]; exact h.offv k
  · intro k
    by_cases e : k = key
    · subst e; rw [putG_same]; simpa [Value.ownBlock] using hgm
    · rw [putG_other _ _ e]; exact h.offm k
  · intro a b hab
    by_cases ea : a = key
    · subst ea
      rw [putG_same, putG_other _ _ (Ne.symm hab)]
      intro j hj
      simp [Value.ownBlock] at hj
      subst hj
      exact gko b (Ne.symm hab)
    · rw [putG_other _ _ ea]
      by_cases eb : b = key
      · subst eb
        rw [putG_same]
        intro j hj e
        simp [Value.ownBlock] at e
        subst e
        exact gko a ea hj
      · rw [putG_other _ _ eb]; exact h.apart a b hab
  · exact ((Below.refl B W).grown hg hB (fun k e => (World.ownsRow.lt (h.rows key) k e).1)).grown hg4 (Nat.le_trans hB hg.size) (fun k e => by cases e; exact h.lom)
  · intro j h1 h2
    have n1 : j ≠ mb := fun e => h2 (.inr (.inl e))
    have n2 : some j ≠ (g key).ownBlock := fun e => h2 (.inr (.inr ⟨key, e.symm⟩))
    refine ⟨(b4 j (Nat.lt_of_lt_of_le h1 hg.size) n1).trans (b3 j h1 n2), ?_⟩
    rintro (e | e | ⟨k, e⟩)
    · exact h2 (.inl e)
    · exact h2 (.inr (.inl e))
    · by_cases ek : k = key
      · subst ek
        rw [putG_same] at e
        simp [Value.ownBlock] at e
        subst e
        rcases hat with e' | e'
        · exact n2 e'.symm
        · omega
      · rw [putG_other _ _ ek] at e
        exact h2 (.inr (.inr ⟨k, e⟩))
end Go.Proofs.YtpbhcjkllfonhaaGreat

/-
  Versions of rows behind a deed's changes. Plain facts.
-/
namespace Go.Proofs.YtpbhcjkllfonhaaGreat
open Go.RowKit Go.Joins

/-- the rows behind a deed's changes -/
def applyR (R : ByteArray → List Ver) (d : Int) (l : List Chg) : ByteArray → List Ver := l.foldl (fun R c => putG R c.key (R c.key ++ [⟨d, c.val, c.gone⟩])) R
theorem applyR_snoc (R : ByteArray → List Ver) (d : Int) (l : List Chg) (c : Chg) : applyR R d (l ++ [c]) = putG (applyR R d l) c.key (applyR R d l c.key ++ [⟨d, c.val, c.gone⟩]) := by simp [applyR]
theorem applyR_len (d : Int) (key : ByteArray) : ∀ (l : List Chg) (R : ByteArray → List Ver), (applyR R d l key).length ≤ (R key).length + l.length
  | [], R => by simp [applyR]
  | c :: l, R => by
    have h := applyR_len d key l (putG R c.key (R c.key ++ [⟨d, c.val, c.gone⟩]))
    have e : applyR R d (c :: l) = applyR (putG R c.key (R c.key ++ [⟨d, c.val, c.gone⟩])) d l := rfl
    rw [e, List.length_cons]
    by_cases ek : key = c.key
    · subst ek
      rw [putG_same, List.length_append] at h
      simp at h
      omega
    · rw [putG_other _ _ ek] at h
      omega
end Go.Proofs.YtpbhcjkllfonhaaGreat

/-
  What versions.New makes: versions of rows that are there from the beginning on.
-/
namespace Go.Proofs.YtpbhcjkllfonhaaGreat
open Go.RowKit Go.Joins
attribute [local go_sem ↓] Go.wp_at_zero Go.wp_at_succ

/-- a row of a key told anew, by a row that is none of the others -/
theorem VS.set {W w4 : World} {B vb mb n gk : Nat} {now : Int} {D : DataW Value} {g : ByteArray → Value} {R : ByteArray → List Ver} {key : ByteArray} {v' : Value} {vs' : List Ver} (h : VS W B vb mb now n D g R) (hB : B ≤ W.heap.size)
    (ho : ownV W B v' vs') (hgk : v'.ownBlock = some gk) (hfresh : ¬ inVS vb mb g gk) (hne : vs' ≠ [])
    (hm : w4.ownsMap Tryz.prog 9 RV mb (n + 1) (D.put (kL key) (.held v'))) (hg4 : W.grownBy w4 (some mb)) :
    VS w4 B vb mb now (n + 1) (D.put (kL key) (.held v')) (putG g key v') (putG R key vs') ∧ Below B W w4 ∧ (∀ j, j < W.heap.size → j ≠ gk → ¬ inVS vb mb g j → w4.heap[j]? = W.heap[j]? ∧ ¬ inVS vb mb (putG g key v') j) := by
  have hv0 := h.lt (k := vb) (.inl rfl)
  have hmap := h.own.isMap
  have hgv : gk ≠ vb := fun e => hfresh (.inl e)
  have hgm : gk ≠ mb := fun e => hfresh (.inr (.inl e))
  have hgl : gk < W.heap.size := (World.ownsRow.lt ho gk hgk).2
  have b4 : ∀ j, j < W.heap.size → j ≠ mb → w4.heap[j]? = W.heap[j]? := fun j h1 h2 => hg4.block j h1 (fun e => h2 (by cases e; rfl))
  have bv : w4.heap[vb]? = W.heap[vb]? := b4 vb hv0 h.ne
  have gko : ∀ k, (g k).ownBlock ≠ some gk := fun k e => hfresh (.inr (.inr ⟨k, e⟩))
  refine ⟨{ num := ?_, soft := ?_, mp := ?_, own := hm, look := ?_, has := ?_, rows := ?_, lov := h.lov, lom := h.lom, ne := h.ne, offv := ?_, offm := ?_, apart := ?_ }, ?_, ?_⟩
  · exact (World.cell?_of_block (w := W) bv).trans h.num
  · exact (World.frozen?_of_block (w := W) bv).trans h.soft
  · exact (World.cell?_of_block (w := W) bv).trans h.mp
  · intro k hkl
    by_cases e : k = key
    · subst e; rw [putG_same, Maps.atKey_put_same hmap (key_lit k)]
    · rw [putG_other _ _ e, Maps.atKey_put_other (kL_ne e)]; exact h.look k hkl
  · intro k hkl
    by_cases e : k = key
    · subst e; rw [putG_same, Maps.has_put_same hmap (key_lit k)]; simp [hne]
    · rw [putG_other _ _ e, Maps.has_put_other (kL_ne e)]; exact h.has k hkl
  · intro k
    by_cases e : k = key
    · subst e
      rw [putG_same, putG_same]
      exact own_block ho fun j hj => by
        rw [hgk] at hj
        cases hj
        exact b4 _ hgl hgm
    · rw [putG_other _ _ e, putG_other _ _ e]
      exact own_block (h.rows k) fun j hj => b4 j (World.ownsRow.lt (h.rows k) j hj).2 (fun e => h.offm k (by rw [hj, e]))
  · intro k
    by_cases e : k = key
    · subst e; rw [putG_same, hgk]; simpa using hgv
    · rw [putG_other _ _ e]; exact h.offv k
  · intro k
    by_cases e : k = key
    · subst e; rw [putG_same, hgk]; simpa using hgm
    · rw [putG_other _ _ e]; exact h.offm k
  · intro a b hab
    by_cases ea : a = key
    · subst ea
      rw [putG_same, putG_other _ _ (Ne.symm hab)]
      intro j hj
      rw [hgk] at hj
      cases hj
      exact gko b
    · rw [putG_other _ _ ea]
      by_cases eb : b = key
      · subst eb
        rw [putG_same]
        intro j hj e
        rw [hgk] at e
        cases e
        exact gko a hj
      · rw [putG_other _ _ eb]; exact h.apart a b hab
  · exact (Below.refl B W).grown hg4 hB (fun k e => by cases e; exact h.lom)
  · intro j h1 h2 h3
    refine ⟨b4 j h1 (fun e => h3 (.inr (.inl e))), ?_⟩
    rintro (e | e | ⟨k, e⟩)
    · exact h3 (.inl e)
    · exact h3 (.inr (.inl e))
    · by_cases ek : k = key
      · subst ek
        rw [putG_same, hgk] at e
        cases e
        exact h2 rfl
      · rw [putG_other _ _ ek] at e
        exact h3 (.inr (.inr ⟨k, e⟩))
def initR (l : List (ByteArray × ByteArray)) : ByteArray → List Ver := l.foldl (fun R r => putG R r.1 [⟨0, r.2, false⟩]) fun _ => []
theorem initR_snoc (l : List (ByteArray × ByteArray)) (r : ByteArray × ByteArray) : initR (l ++ [r]) = putG (initR l) r.1 [⟨0, r.2, false⟩] := by simp [initR]
theorem vs_made {W : World} {B vb mb : Nat} (h1 : W.cell? ⟨vb, 0, none⟩ = some (.int .i64 0)) (h2 : W.frozen? ⟨vb, 0, none⟩ = false) (h3 : W.cell? ⟨vb, 1, none⟩ = some (.map (some mb))) (h4 : W.heap[mb]? = some (.map #[] 0)) (h5 : B ≤ vb) (h6 : B ≤ mb) (h7 : vb ≠ mb) : VS W B vb mb 0 0 (.map []) (fun _ => .slice none 0 0) (fun _ => []) where
  num := h1
  soft := h2
  mp := h3
  own := by
    obtain ⟨es, clock, hb, r⟩ := World.ownsMap_made W Tryz.prog 9 RV
    rw [Go.heap_alloc_new] at hb
    cases hb
    exact ⟨_, _, h4, r⟩
  look := fun key _ => by rw [Maps.atKey_of_not_has rfl]
  has := fun key _ => by simp [Maps.has]
  rows := fun key => World.ownsRow_nil _ _ _ _
  lov := h5
  lom := h6
  ne := h7
  offv := fun key => by simp [Value.ownBlock]
  offm := fun key => by simp [Value.ownBlock]
  apart := fun a b _ k hk => by simp [Value.ownBlock] at hk

theorem make_hint (n : Int) (w : World) : (Instr.makeMap 71 (some (.int .i64 n))).run Tryz.prog w = .ok (.map (some w.heap.size)) (w.alloc (.map #[] 0)) := by
  simp [Instr.makeMap, run_underlying Tryz.underlying71, asInt, newObj, go_sem]
  rfl

set_option maxRecDepth 4000 in
set_option maxHeartbeats 4000000 in
theorem new_any (l : List (ByteArray × ByteArray)) (ao : Option Addr) (cap : Nat) (w : World) (hl : heldSp w ao l) (hn : l.length ≤ 1000) (hk : ∀ r ∈ l, r.1.size ≤ 1000000) :
    Calls Tryz.prog 8 #[.slice ao l.length cap] w fun e w' => ∃ vb, e = .returned (.pointer (some ⟨vb, 0, none⟩)) ∧ Below w.heap.size w w' ∧ ∃ mb D g, VS w' w.heap.size vb mb 0 l.length D g (initR l) := by
  have HL := hide hl
  have HK := hide hk
  clear hl hk
  go_enter Tryz.func8, Tryz.ntmps8
  have hmk := make_hint
  go_wp2
  have HB0 : Hid (Below w.heap.size w ((w.alloc (Obj.map #[] 0)).alloc (Obj.cells #[Value.int .i64 0, Value.map (some w.heap.size)] 73))) := below_alloc2 _ _ _
  have HV0 : Hid (VS ((w.alloc (Obj.map #[] 0)).alloc (Obj.cells #[Value.int .i64 0, Value.map (some w.heap.size)] 73)) w.heap.size (w.heap.size + 1) w.heap.size 0 0 (.map []) (fun _ => .slice none 0 0) (fun _ => [])) := by
    have e1 : (w.alloc (Obj.map #[] 0)).heap.size = w.heap.size + 1 := by simp
    refine vs_made ?_ ?_ ?_ ?_ (by omega) (Nat.le_refl _) (by omega)
    · have := cell_new (w.alloc (Obj.map #[] 0)) #[Value.int .i64 0, Value.map (some w.heap.size)] 73 0
      rwa [e1] at this
    · have := frozen_new (w.alloc (Obj.map #[] 0)) #[Value.int .i64 0, Value.map (some w.heap.size)] 73 0
      rwa [e1] at this
    · have := cell_new (w.alloc (Obj.map #[] 0)) #[Value.int .i64 0, Value.map (some w.heap.size)] 73 1
      rwa [e1] at this
    · rw [Below.heap_alloc _ _ _ (by simp)]
      exact Go.heap_alloc_new w _
  clear hmk
  go_loopw [13] (fun i wr => ∃ (k : Nat) (D : DataW Value) (g : ByteArray → Value), k ≤ l.length ∧ i = .int .i64 k ∧ VS wr w.heap.size (w.heap.size + 1) w.heap.size 0 k D g (initR (l.take k)) ∧ Below w.heap.size w wr) (fun i _ => l.length - (intOf i).toNat)
  case atStart => exact ⟨0, _, _, Nat.zero_le _, rfl, HV0.out, HB0.out⟩
  case round =>
    obtain ⟨k, D, g, hkl, rfl, hV, hBr⟩ := hrel
    have H1 := hide hV
    have H2 := hide hBr
    clear hV hBr HV0 HB0
    by_cases hlt : k < l.length
    · rcases heldSp_on H2.out HL.out with e | ⟨b, off, eao, hc0⟩
      · rw [e] at hlt; simp at hlt
      subst eao
      obtain ⟨c0, c1⟩ := hc0 k hlt
      have hlt' : (k : Int) < (l.length : Int) := by omega
      have hks := HK.out _ (List.getElem_mem hlt)
      have hkm : l[k].1.size ≤ maxLen := by unfold maxLen; omega
      have HT : Hid (initR (l.take (k + 1)) = putG (initR (l.take k)) l[k].1 [⟨0, l[k].2, false⟩]) := by
        unfold Hid; rw [List.take_succ_eq_append_getElem hlt, initR_snoc]
      generalize initR (l.take k) = R1 at H1 HT
      clear hc0 hks
      generalize l[k] = x at *
      have hbA := below_alloc1 wr (Obj.cells #[Value.string x.1, Value.string x.2] 63)
      have x0 : (wr.alloc (Obj.cells #[Value.string x.1, Value.string x.2] 63)).cell? ⟨wr.heap.size, 0, none⟩ = some (.string x.1) := cell_new _ _ _ 0
      have x1 : (wr.alloc (Obj.cells #[Value.string x.1, Value.string x.2] 63)).cell? ⟨wr.heap.size, 1, none⟩ = some (.string x.2) := cell_new _ _ _ 1
      have xs : (wr.alloc (Obj.cells #[Value.string x.1, Value.string x.2] 63)).heap.size = wr.heap.size + 1 := by simp
      have HVY := hide (H1.out.on hbA)
      have HBY := hide hbA
      have hnv : ¬ inVS (w.heap.size + 1) w.heap.size g wr.heap.size := fun e => by have := H1.out.lt e; omega
      have hnv1 : ¬ inVS (w.heap.size + 1) w.heap.size g (wr.heap.size + 1) := fun e => by have := H1.out.lt e; omega
      go_wp2
      generalize hY : wr.alloc (Obj.cells #[Value.string x.1, Value.string x.2] 63) = Y at x0 x1 xs HVY HBY ⊢
      clear hY hbA c0 c1
      have v1 := HVY.out.mp
      have hvY := HVY.out.lt (k := w.heap.size + 1) (.inl rfl)
      have hbZ := (below_alloc1 Y (Obj.cells #[Value.int .i64 0, Value.string x.2, Value.bool false] 75)).drew
      have HVZ := hide (HVY.out.on hbZ)
      have hB1 : w.heap.size ≤ Y.heap.size := by omega
      have hoZ : ownV (Y.alloc (Obj.cells #[Value.int .i64 0, Value.string x.2, Value.bool false] 75)).drew w.heap.size (.slice (some ⟨wr.heap.size + 1, 0, none⟩) 1 1) [⟨0, x.2, false⟩] := by
        rw [← xs]
        refine ⟨rfl, .inr ⟨Y.heap.size, 1, #[Value.int .i64 0, Value.string x.2, Value.bool false], rfl, hB1, Go.heap_alloc_new Y _, by simp, by simp [maxLen], rfl, rfl⟩⟩
      have HOZ := hide hoZ
      obtain ⟨w4, hrun4, hm4, hg4⟩ := HVZ.out.own.update str_keyed Tryz.underlying71 (by unfold maxLen; omega) (key_mk hkm) (show RV (.slice (some ⟨wr.heap.size + 1, 0, none⟩) 1 1) = _ from rfl)
      have nvm : (some (w.heap.size + 1) : Option Nat) ≠ some w.heap.size := fun e => by have := Option.some.inj e; omega
      have nxm : (some wr.heap.size : Option Nat) ≠ some w.heap.size := fun e => hnv (.inr (.inl (Option.some.inj e)))
      have q1 := hg4.cell (cell_on hbZ v1) nvm
      have q2 := hg4.cell (cell_on hbZ x0) nxm
      have q3 := hg4.cell (cell_on hbZ x1) nxm
      have HS : Hid (VS w4 w.heap.size (w.heap.size + 1) w.heap.size 0 (k + 1) (D.put (kL x.1) (.held (.slice (some ⟨wr.heap.size + 1, 0, none⟩) 1 1))) (putG g x.1 (.slice (some ⟨wr.heap.size + 1, 0, none⟩) 1 1)) (putG R1 x.1 [⟨0, x.2, false⟩]) ∧ Below w.heap.size w w4) := by
        obtain ⟨r1, r2, _⟩ := HVZ.out.set (Nat.le_trans hB1 hbZ.size) HOZ.out rfl hnv1 (by simp) hm4 hg4
        exact ⟨r1, (H2.out.trans ((below_on HBY.out (Nat.le_refl _) hbZ).mono H2.out.size)).trans r2⟩
      clear hoZ hm4 hg4
      go_region_held3 (fun w' => w'.cell? ⟨w.heap.size + 1, 1, none⟩ = some (.map (some w.heap.size)) ∧ w'.cell? ⟨wr.heap.size, 0, none⟩ = some (.string x.1) ∧ w'.cell? ⟨wr.heap.size, 1, none⟩ = some (.string x.2))
        (first | go_keep | exact ⟨q1, q2, q3⟩) (fail)
      go_wp2
      go_roundw
      case rel => exact ⟨k + 1, _, _, by omega, by go_num, by rw [HT.out]; exact HS.out.1, HS.out.2⟩
      case measure => simp [intOf]; omega
    · have ek : k = l.length := by omega
      subst ek
      have hlt' : ¬ (l.length : Int) < (l.length : Int) := by omega
      rw [List.take_length] at H1
      go_wp2
      go_ret
      exact ⟨_, rfl, H2.out, _, _, _, H1.out⟩
end Go.Proofs.YtpbhcjkllfonhaaGreat
