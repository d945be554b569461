/-
  What Versions.Scan returns of versions that lie in memory, the sorting by its contract (a premise here).
-/
import Derived.Test.YtighpalbodhfeaaGreatDoorSpanPt
import Derived.Test.YtighpalbodhfeaaGreatDoorSpOn
import Derived.Lib.SliceRun
import Derived.Maps.AppendAt
namespace Go.Proofs.YtighpalbodhfeaaGreatDoor
open Go.RowKit Go.Joins

/-- the sorting's contract -/
def SortSays : Prop := ∀ (blk cap B : Nat) (F : List (ByteArray × ByteArray)) (W : World), ownP W B (.slice (some ⟨blk, 0, none⟩) F.length cap) F → F.length ≤ 1000000 →
  Calls Tryz.prog 138 #[.slice (some ⟨blk, 0, none⟩) F.length cap, .func (Fn.func 139) #[] #[]] W fun e W' =>
    e = .returned (.tuple #[]) ∧ ∃ F', F'.Perm F ∧ (F'.Pairwise fun a b => ltS b.1 a.1 = false) ∧ ownP W' B (.slice (some ⟨blk, 0, none⟩) F.length cap) F' ∧ Below blk W W' ∧ (∀ j, j < W.heap.size → j ≠ blk → W'.heap[j]? = W.heap[j]?)
def SortNil : Prop := ∀ (W : World), Calls Tryz.prog 138 #[.slice none 0 0, .func (Fn.func 139) #[] #[]] W fun e W' => e = .returned (.tuple #[]) ∧ Below W.heap.size W W'
theorem got_start {w : World} {B vb mb n : Nat} {now : Int} {D : DataW Value} {g : ByteArray → Value} {R : ByteArray → List Ver} (h : VS w B vb mb now n D g R) (at_ : Int) (s : ByteArray × ByteArray) : Got D R at_ s (Maps.has D) [] where
  mem := fun r => by
    simp only [List.not_mem_nil, false_iff]
    rintro ⟨⟨h1, h2, h3⟩, h4⟩
    have : R r.1 ≠ [] := fun e => by rw [e] at h3; simp [behindV, lastV] at h3
    rw [(h.has r.1 h1).2 this] at h4
    cases h4
  nodup := by simp

/-- the round's state in memory -/
structure SA (w wr : World) (mb n : Nat) (D : DataW Value) (s : ByteArray × ByteArray) (left : Lit → Bool) (cnt : Nat) (v : Value) (F : List (ByteArray × ByteArray)) : Prop where
  rg : wr.ranges Tryz.prog 9 RV mb (w.heap.size + 1) n D left cnt
  own : ownP wr (w.heap.size + 2) v F
  bel : Below w.heap.size w wr
  size : w.heap.size + 2 ≤ wr.heap.size
  c0 : wr.cell? ⟨w.heap.size, 0, none⟩ = some (.string s.1)
  c1 : wr.cell? ⟨w.heap.size, 1, none⟩ = some (.string s.2)
theorem below_grew {w w' : World} (hb : Below w.heap.size w w') : w.grownBy w' none := ⟨hb.os, hb.tape, hb.output, hb.size, fun k hk _ => hb.block k hk⟩
theorem SA.on {w wr w' : World} {mb n cnt : Nat} {D : DataW Value} {s : ByteArray × ByteArray} {left : Lit → Bool} {v : Value} {F : List (ByteArray × ByteArray)} (h : SA w wr mb n D s left cnt v F) (hb : Below wr.heap.size wr w') : SA w w' mb n D s left cnt v F where
  rg := h.rg.kept (below_grew hb) (by simp) (by simp)
  own := own_on h.own hb
  bel := h.bel.trans (hb.mono h.bel.size)
  size := Nat.le_trans h.size hb.size
  c0 := cell_on hb h.c0
  c1 := cell_on hb h.c1
theorem SA.next {w wr w' : World} {mb n cnt cnt' : Nat} {D : DataW Value} {s : ByteArray × ByteArray} {left left' : Lit → Bool} {v : Value} {F : List (ByteArray × ByteArray)} (h : SA w wr mb n D s left cnt v F) (hr : w'.ranges Tryz.prog 9 RV mb (w.heap.size + 1) n D left' cnt') (hg : wr.grownBy w' (some (w.heap.size + 1))) : SA w w' mb n D s left' cnt' v F where
  rg := hr
  own := own_block h.own fun k hk => hg.block k (h.own.lt k hk).2 (by have := (h.own.lt k hk).1; simp; omega)
  bel := h.bel.grown hg (by have := h.size; omega) fun k e => by simp at e; omega
  size := Nat.le_trans h.size hg.size
  c0 := hg.cell h.c0 (by simp)
  c1 := hg.cell h.c1 (by simp)
theorem SA.push {w wr w' : World} {mb n cnt : Nat} {D : DataW Value} {s : ByteArray × ByteArray} {left : Lit → Bool} {v v' : Value} {F F' : List (ByteArray × ByteArray)} (h : SA w wr mb n D s left cnt v F) (hm : mb < w.heap.size) (hg : wr.grownBy w' v.ownBlock) (ho : ownP w' (w.heap.size + 2) v' F') : SA w w' mb n D s left cnt v' F' where
  rg := h.rg.kept hg (fun e => by have := (h.own.lt mb e.symm).1; omega) (fun e => by have := (h.own.lt _ e.symm).1; omega)
  own := ho
  bel := h.bel.grown hg (by have := h.size; omega) fun k e => by have := (h.own.lt k e).1; omega
  size := Nat.le_trans h.size hg.size
  c0 := hg.cell h.c0 (fun e => by have : w.heap.size + 2 ≤ w.heap.size := (h.own.lt _ e.symm).1; omega)
  c1 := hg.cell h.c1 (fun e => by have : w.heap.size + 2 ≤ w.heap.size := (h.own.lt _ e.symm).1; omega)
theorem own_low {w : World} {B C : Nat} {e : TypeId} {size : Nat} {v : Value} {n : Nat} {xs : List Value} (h : w.ownsRow C e size v n xs) (hC : B ≤ C) : w.ownsRow B e size v n xs := by
  obtain ⟨h1, h2⟩ := h
  refine ⟨h1, ?_⟩
  rcases h2 with h2 | ⟨g, cap, cur, hv, hg, r⟩
  · exact .inl h2
  · exact .inr ⟨g, cap, cur, hv, Nat.le_trans hC hg, r⟩
theorem own_versIn {w : World} {B : Nat} {v : Value} {vs : List Ver} {ao : Option Addr} {cap : Nat} (h : ownV w B v vs) (e : v = .slice ao vs.length cap) : versIn w.heap.size w ao cap vs := by
  obtain ⟨ao', cap', e', hI, _⟩ := ownV_in h
  rw [e] at e'
  cases e'
  exact hI

set_option maxRecDepth 4000 in
set_option maxHeartbeats 4000000 in
theorem scan_any (hs : SortSays) (hs0 : SortNil) {B vb mb n : Nat} {now : Int} {D : DataW Value} {g : ByteArray → Value} {R : ByteArray → List Ver} (s : ByteArray × ByteArray) (at_ : Int) (w : World) (h : VS w B vb mb now n D g R) (hn : n ≤ 1000000) (hR : ∀ key, (R key).length ≤ 1000000) :
    Calls Tryz.prog 116 #[.pointer (some ⟨vb, 0, none⟩), .agg #[.string s.1, .string s.2], .int .i64 at_] w fun e w' => ∃ v, e = .returned v ∧ Below w.heap.size w w' ∧ ∃ F, ownP w' w.heap.size v F ∧ (F.Pairwise fun a b => ltS b.1 a.1 = false) ∧ (F.map (·.1)).Nodup ∧ ∀ r, r ∈ F ↔ told R at_ s r := by
  have HS := hide hs
  have HS0 := hide hs0
  have HV := hide h
  have HRR := hide hR
  have hb1 := below_alloc1 w (Obj.cells #[Value.string s.1, Value.string s.2] 91)
  have HV1 := hide (h.on hb1)
  have v1 := HV1.out.mp
  have hown := HV1.out.own
  have hsl := hown.size_le
  have hlm := h.lt (k := mb) (.inr (.inl rfl))
  have s0 : (w.alloc (Obj.cells #[Value.string s.1, Value.string s.2] 91)).cell? ⟨w.heap.size, 0, none⟩ = some (.string s.1) := cell_new _ _ _ 0
  have s1 : (w.alloc (Obj.cells #[Value.string s.1, Value.string s.2] 91)).cell? ⟨w.heap.size, 1, none⟩ = some (.string s.2) := cell_new _ _ _ 1
  have HGS := hide (got_start h at_ s)
  clear h hR hs hs0
  go_enter Tryz.func116, Tryz.ntmps116
  go_wp2_with (first | (at_range; refine wpList_range_own _ rfl _ 60 rfl 9 65 str_keyed Tryz.underlying60 RV mb n D rfl hown ?_; intro w0 hrg0 hg0 hs0))
  have es : (w.alloc (Obj.cells #[Value.string s.1, Value.string s.2] 91)).heap.size = w.heap.size + 1 := by simp
  rw [es] at hrg0 hs0
  have HB0 : Hid (Below w.heap.size w w0) := hb1.grown hg0 (by simp) (fun k e => by cases e)
  have HR0 := hide hrg0
  have t0 := hg0.cell s0 (by simp)
  have t1 := hg0.cell s1 (by simp)
  clear hrg0 hg0 s0 s1 v1 hown hb1
  go_wp2
  go_frame
  simp only [World.size_alloc]
  go_loopw [7] (fun v wr => ∃ (left : Lit → Bool) (cnt : Nat) (F : List (ByteArray × ByteArray)), SA w wr mb n D s left cnt v F ∧ Got D R at_ s left F ∧ F.length + cnt ≤ n) (fun _ wr => wr.rangeLeft mb (w.heap.size + 1))
  case atStart => exact ⟨_, _, [], ⟨HR0.out, World.ownsRow_nil _ _ _ _, HB0.out, by omega, t0, t1⟩, HGS.out, by simpa using hsl⟩
  case round =>
    obtain ⟨left, cnt, F, hA, hG, hcn⟩ := hrel
    have HA := hide hA
    have HG := hide hG
    have t0' := hA.c0
    have t1' := hA.c1
    clear hA hG HR0 HB0 t0 t1
    go_wp2_with (first | (at_next; refine wpList_next_ranges _ rfl _ rfl 9 str_keyed RV Value.string id (fun key kl hk => by obtain ⟨x, e, _⟩ := key_inv hk; exact ⟨x, e⟩) (fun v y _ => ⟨v, rfl⟩) mb (w.heap.size + 1) n D left cnt rfl HA.out.rg ?_ ?_))
    · intro hc0 hl0
      have hFl : F.length ≤ 1000000 := by omega
      have hsz := HA.out.size
      have HM : Hid (∀ r, r ∈ F ↔ told R at_ s r) := fun r => by rw [HG.out.mem r, hl0]; simp
      rcases own_form HA.out.own with ⟨hv, h0⟩ | ⟨bk, cap, hv, hbk, hbl, _, _⟩
      · have e : F = [] := List.length_eq_zero_iff.1 h0
        subst e
        subst hv
        go_wp2_with (go_at_call 138; refine (HS0.out _).mono ?_; rintro e w3 ⟨rfl, hb3⟩; have HA3 := hide (HA.out.on hb3))
        go_ret
        exact ⟨_, rfl, HA3.out.bel, [], World.ownsRow_nil _ _ _ _, List.Pairwise.nil, List.nodup_nil, HM.out⟩
      · subst hv
        go_wp2_with (go_at_call 138; refine (HS.out bk cap (w.heap.size + 2) F _ HA.out.own hFl).mono ?_; rintro e w3 ⟨rfl, F', hp, hsr, ho3, hb3, hk3⟩; have HO3 := hide ho3; have HP := hide hp; have HSR := hide hsr; have HB3 := hide hb3; have HK3 := hide hk3; clear ho3 hp hsr hb3 hk3)
        go_ret
        refine ⟨_, rfl, HA.out.bel.trans (HB3.out.mono (by omega)), F', own_low HO3.out (by omega), HSR.out, ((HP.out.map (·.1)).nodup_iff).2 HG.out.nodup, fun r => (HP.out.mem_iff).trans (HM.out r)⟩
    · intro x c kl y yp w2 cnt2 hkey hlx hRc hat hrg2 hclt hg2 hs2 hen
      obtain ⟨x', ex, rfl, hxs⟩ := key_inv hkey
      cases ex
      have hc := hat (.held (.slice none 0 0))
      rw [HV.out.look x hxs] at hc
      simp only [RV, Option.some.injEq, Prod.mk.injEq] at hRc
      obtain ⟨rfl, rfl⟩ := hRc
      simp only [DataW.held.injEq] at hc
      subst hc
      obtain ⟨ao, cap, ec, _, _, _⟩ := ownV_in (HV.out.rows x)
      have HEC := hide ec
      have HA2 := hide (HA.out.next hrg2 hg2)
      have t02 := HA2.out.c0
      have t12 := HA2.out.c1
      have hRx := HRR.out x
      rw [ec] at hen ⊢
      clear ec hat hrg2 hg2 hs2 hkey t0' t1'
      have HLX := hide hlx
      clear hlx
      rcases hh : hasS s.1 s.2 x
      · have HG3 := hide (got_skip HG.out (x := x) fun v hv => by have := hv.2.1; rw [hh] at this; cases this)
        have HH := hide hh
        clear hh
        go_wp2_with (first
          | (go_at_call 117; refine (has_any s.1 s.2 x _).mono ?_; rintro e w3 ⟨rfl, hb3⟩; rw [HH.out]; have HA3 := hide (HA2.out.on hb3)))
        exact ⟨⟨_, _, F, HA3.out, HG3.out, by omega⟩, by rw [HA3.out.rg.left_eq, HA.out.rg.left_eq]; exact hclt⟩
      · rcases hbv : behindV (R x) at_ with ⟨bv, bb⟩
        cases bb
        · have HG3 := hide (got_skip HG.out (x := x) fun v hv => by have := hv.2.2; rw [hbv] at this; cases this)
          have HH := hide hh
          have HBV := hide hbv
          clear hh hbv
          go_wp2_with (first
            | (go_at_call 117; refine (has_any s.1 s.2 x _).mono ?_; rintro e w3 ⟨rfl, hb3⟩; rw [HH.out]; have HA3 := hide (HA2.out.on hb3))
            | (go_at_call 115; refine (behind_any ao cap (R x) at_ _ hRx (own_versIn ((HV.out.on HA3.out.bel).rows x) HEC.out)).mono ?_; rintro e w4 ⟨rfl, hb4⟩; rw [HBV.out]; have HA4 := hide (HA3.out.on hb4)))
          exact ⟨⟨_, _, F, HA4.out, HG3.out, by omega⟩, by rw [HA4.out.rg.left_eq, HA.out.rg.left_eq]; exact hclt⟩
        · have HG3 := hide (got_take HG.out HLX.out (v := bv) ⟨hxs, hh, hbv⟩)
          have HH := hide hh
          have HBV := hide hbv
          obtain ⟨i0, hi0, hz0, hz1, hz3⟩ := info_parts row_info
          have hFl : F.length ≤ 1000000 := by omega
          clear hh hbv
          go_wp2_with (first
            | (go_at_call 117; refine (has_any s.1 s.2 x _).mono ?_; rintro e w3 ⟨rfl, hb3⟩; rw [HH.out]; have HA3 := hide (HA2.out.on hb3))
            | (go_at_call 115; refine (behind_any ao cap (R x) at_ _ hRx (own_versIn ((HV.out.on HA3.out.bel).rows x) HEC.out)).mono ?_; rintro e w4 ⟨rfl, hb4⟩; rw [HBV.out]; have HA4 := hide (HA3.out.on hb4); have hs4 := HA4.out.size)
            | (at_builtin; have hb5 := below_alloc1 w4 (Obj.cells #[Value.string x, Value.string bv] 55); have HA5 := hide (HA4.out.on hb5); have HN5 : Hid (∀ j u, [Value.string x, Value.string bv][j]? = some u → (w4.alloc (Obj.cells #[Value.string x, Value.string bv] 55)).cell? ((⟨w4.heap.size, 0, none⟩ : Addr).add j) = some u) := World.news_of_block (cs := #[Value.string x, Value.string bv]) (t := 55) (fr := (0, 0)) (heap_alloc_new w4 _); refine wpList_append_lies _ rfl _ _ _ rfl (w.heap.size + 2) 55 i0 _ 2 32 Tryz.underlying22 hi0 hz0 hz1 hz3 rfl (by omega) u7 F.length (F.flatMap cellP) rfl HA5.out.own ⟨w4.heap.size, 0, none⟩ 1 1 [Value.string x, Value.string bv] rfl rfl HN5.out (by simp [Value.oneCell']) (by omega) (by unfold maxLen; omega) (by omega) (by simp; omega) (w4.heap.size + 1) (by simp) ?_; intro g6 cap6 w6 ho6 hg6 hat6 hlt6; have HO6 := hide ho6; have HG6 := hide hg6; clear ho6 hg6))
          have ho7 : ownP w6 (w.heap.size + 2) (.slice (some ⟨g6, 0, none⟩) (F.length + 1) cap6) (F ++ [(x, bv)]) := by
            have := HO6.out
            unfold ownP
            rw [List.length_append, List.flatMap_append]
            exact this
          have HA6 := hide (HA5.out.push hlm HG6.out ho7)
          exact ⟨⟨_, _, _, HA6.out, HG3.out, by simp; omega⟩, by rw [HA6.out.rg.left_eq, HA.out.rg.left_eq]; exact hclt⟩
end Go.Proofs.YtighpalbodhfeaaGreatDoor

/-
  Rows of one's own: cells stored in a run, a row cut short, and what the builtin clear makes of elements of more cells than one. Nothing of the program's functions is named here.
-/
namespace Go.Proofs.YtighpalbodhfeaaGreatDoor
open Go.RowKit Go.Joins

def setL : List Value → Nat → List Value → List Value
  | xs, _, [] => xs
  | xs, o, v :: r => setL (xs.set o v) (o + 1) r
theorem setL_len : ∀ (vs xs : List Value) (o : Nat), (setL xs o vs).length = xs.length
  | [], _, _ => rfl
  | v :: r, xs, o => by rw [setL, setL_len r, List.length_set]
theorem setL_lo : ∀ (vs xs : List Value) (o i : Nat), i < o → (setL xs o vs)[i]? = xs[i]?
  | [], _, _, _, _ => rfl
  | v :: r, xs, o, i, h => by rw [setL, setL_lo r _ _ _ (by omega), List.getElem?_set_ne (by omega)]
theorem setL_in : ∀ (vs xs : List Value) (o i : Nat), o ≤ i → i < o + vs.length → i < xs.length → (setL xs o vs)[i]? = vs[i - o]?
  | [], _, o, i, h1, h2, _ => by simp at h2; omega
  | v :: r, xs, o, i, h1, h2, h3 => by
    rw [setL]
    rcases Nat.eq_or_lt_of_le h1 with e | e
    · subst e
      rw [setL_lo r _ _ _ (by omega), List.getElem?_set_self h3]
      simp
    · rw [setL_in r _ _ _ (by omega) (by simp at h2; omega) (by simpa using h3)]
      obtain ⟨d, rfl⟩ : ∃ d, i = o + 1 + d := ⟨i - (o + 1), by omega⟩
      rw [show o + 1 + d - (o + 1) = d by omega, show o + 1 + d - o = d + 1 by omega]
      rfl
theorem setL_take_lo (vs xs : List Value) (o : Nat) : (setL xs o vs).take o = xs.take o := by
  apply List.ext_getElem?
  intro i
  rw [List.getElem?_take, List.getElem?_take]
  split
  · exact setL_lo _ _ _ _ (by assumption)
  · rfl
theorem setL_take_all (vs xs : List Value) (h : vs.length ≤ xs.length) : (setL xs 0 vs).take vs.length = vs := by
  apply List.ext_getElem?
  intro i
  rw [List.getElem?_take]
  split
  · rw [setL_in _ _ _ _ (Nat.zero_le _) (by omega) (by omega)]; rfl
  · rw [List.getElem?_eq_none (by omega)]
theorem own_setCells {B g n cap : Nat} {e : TypeId} {size : Nat} : ∀ (vs : List Value) (o : Nat) (w : World) (xs : List Value), w.ownsRow B e size (.slice (some ⟨g, 0, none⟩) n cap) n xs →
    (w.setCells g o vs).ownsRow B e size (.slice (some ⟨g, 0, none⟩) n cap) n (setL xs o vs) ∧ w.grownBy (w.setCells g o vs) (some g)
  | [], _, w, _, h => ⟨h, World.grownBy.refl w _⟩
  | v :: r, o, w, xs, h => by
    have h1 := h.stored o v
    have h2 := own_setCells r (o + 1) _ _ h1.1
    exact ⟨h2.1, h1.2.trans h2.2⟩
theorem own_shrink {w : World} {B g n m cap : Nat} {e : TypeId} {size : Nat} {xs : List Value} (h : w.ownsRow B e size (.slice (some ⟨g, 0, none⟩) n cap) n xs) (hm : m ≤ n) : w.ownsRow B e size (.slice (some ⟨g, 0, none⟩) m cap) m (xs.take (m * size)) := by
  obtain ⟨h1, h2⟩ := h
  have hle : m * size ≤ n * size := Nat.mul_le_mul_right _ hm
  refine ⟨by rw [List.length_take, h1]; omega, ?_⟩
  rcases h2 with ⟨e1, _⟩ | ⟨g', cap', cur, e1, hb, hh, hn, hc, hs, ht⟩
  · cases e1
  · cases e1
    refine .inr ⟨g, cap, cur, rfl, hb, hh, by omega, hc, hs, ?_⟩
    rw [← ht, List.take_take, Nat.min_eq_left hle]
/-- the cells of a row of one's own are there, and may be written -/
theorem own_there {w : World} {B g n cap : Nat} {e : TypeId} {size : Nat} {xs : List Value} (h : w.ownsRow B e size (.slice (some ⟨g, 0, none⟩) n cap) n xs) (j : Nat) (hj : j < n * size) : (w.cell? ⟨g, j, none⟩).isSome = true ∧ w.frozen? ⟨g, j, none⟩ = false := by
  refine ⟨?_, h.frozenAt j⟩
  rw [h.cellAt j hj, List.getElem?_eq_getElem (by rw [h.1]; exact hj)]
  rfl
theorem run_clear_cells {P : Program} (w : World) (t e ty : TypeId) (z : Value) (ht : P.underlying t = some (.slice e)) (hv : ∀ w, (zeroValue e).run P w = .ok z w) (b o n c : Nat) (hn : 0 < n) (h1 : ∀ u ∈ (Builtin.zeroCells z.cells n).toList, u.oneCell' = true)
    (hc : ∀ j, j < n * z.cells.size → (w.cell? ⟨b, o + j, none⟩).isSome = true) (hf : ∀ j, j < n * z.cells.size → w.frozen? ⟨b, o + j, none⟩ = false) :
    (Builtin.clear_ #[t] ty #[.slice (some ⟨b, o, none⟩) n c]).run P w = .ok (.tuple #[]) (w.setCells b o (Builtin.zeroCells z.cells n).toList) := by
  have hl : (Builtin.zeroCells z.cells n).toList.length = n * z.cells.size := by rw [Array.length_toList, size_zeroCells]
  have hst := run_storeCells_cells (P := P) b o (Builtin.zeroCells z.cells n).toList 0 w (by rw [hl]; simpa using hc) (by rw [hl]; simpa using hf) h1
  simp only [Nat.add_zero] at hst
  obtain ⟨m, rfl⟩ : ∃ m, n = m + 1 := ⟨n - 1, by omega⟩
  simp [Builtin.clear_, run_underlying ht, hv, hst]
end Go.Proofs.YtighpalbodhfeaaGreatDoor
