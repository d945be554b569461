/-
  The closure of haywaintop.TopScan that counts a key: what it makes of its captured variables, and of the map of keys that were seen.
-/
import Derived.Test.YtjphbmdmnicjpabScanL
import Derived.Test.YtjphbmdmnicjpabVerRead
import Derived.Deep.RegionHeld3
namespace Go.Proofs.Ytjphbmdmnicjpab
open Go.RowKit Go.Joins
attribute [local go_sem ↓] Go.wp_at_zero Go.wp_at_succ

/-- the captured variables, and the map of keys that were seen -/
structure CT (wr : World) (bv bk be bs bm vb eb n : Nat) (k : Int) (s : ByteArray × ByteArray) (cnt : Nat) (De : DataW Value) (K : List ByteArray) : Prop where
  v : wr.cell? ⟨bv, 0, none⟩ = some (.pointer (some ⟨vb, 0, none⟩))
  k : wr.cell? ⟨bk, 0, none⟩ = some (.int .i64 k)
  e : wr.cell? ⟨be, 0, none⟩ = some (.map (some eb))
  s0 : wr.cell? ⟨bs, 0, none⟩ = some (.string s.1)
  s1 : wr.cell? ⟨bs, 1, none⟩ = some (.string s.2)
  m : wr.cell? ⟨bm, 0, none⟩ = some (.int .i64 (cnt : Int))
  mf : wr.frozen? ⟨bm, 0, none⟩ = false
  own : wr.ownsMap Try.prog 9 RV eb n De
  look : ∀ key, key.size ≤ maxLen → De.atKey (kL key) (.held (.bool false)) = .held (.bool (decide (key ∈ K)))
  ne : ∀ b, b = bv ∨ b = bk ∨ b = be ∨ b = bs → b ≠ bm ∧ b ≠ eb
  em : eb ≠ bm
def inCT (bv bk be bs bm eb j : Nat) : Prop := (j = bv ∨ j = bk ∨ j = be ∨ j = bs) ∨ j = bm ∨ j = eb
theorem CT.lt {wr : World} {bv bk be bs bm vb eb n cnt : Nat} {k : Int} {s : ByteArray × ByteArray} {De : DataW Value} {K : List ByteArray} (h : CT wr bv bk be bs bm vb eb n k s cnt De K) {j : Nat} (hj : inCT bv bk be bs bm eb j) : j < wr.heap.size := by
  rcases hj with (rfl | rfl | rfl | rfl) | rfl | rfl
  · exact World.block_lt_of_cell? _ _ h.v
  · exact World.block_lt_of_cell? _ _ h.k
  · exact World.block_lt_of_cell? _ _ h.e
  · exact World.block_lt_of_cell? _ _ h.s0
  · exact World.block_lt_of_cell? _ _ h.m
  · exact h.own.lt
theorem CT.kept {wr w' : World} {bv bk be bs bm vb eb n cnt : Nat} {k : Int} {s : ByteArray × ByteArray} {De : DataW Value} {K : List ByteArray} (h : CT wr bv bk be bs bm vb eb n k s cnt De K) (hk : ∀ j, inCT bv bk be bs bm eb j → w'.heap[j]? = wr.heap[j]?) : CT w' bv bk be bs bm vb eb n k s cnt De K where
  v := (World.cell?_of_block (w := wr) (hk bv (.inl (.inl rfl)))).trans h.v
  k := (World.cell?_of_block (w := wr) (hk bk (.inl (.inr (.inl rfl))))).trans h.k
  e := (World.cell?_of_block (w := wr) (hk be (.inl (.inr (.inr (.inl rfl)))))).trans h.e
  s0 := (World.cell?_of_block (w := wr) (hk bs (.inl (.inr (.inr (.inr rfl)))))).trans h.s0
  s1 := (World.cell?_of_block (w := wr) (hk bs (.inl (.inr (.inr (.inr rfl)))))).trans h.s1
  m := (World.cell?_of_block (w := wr) (hk bm (.inr (.inl rfl)))).trans h.m
  mf := (World.frozen?_of_block (w := wr) (hk bm (.inr (.inl rfl)))).trans h.mf
  own := map_block h.own (hk eb (.inr (.inr rfl)))
  look := h.look
  ne := h.ne
  em := h.em
theorem CT.on {wr w' : World} {bv bk be bs bm vb eb n cnt : Nat} {k : Int} {s : ByteArray × ByteArray} {De : DataW Value} {K : List ByteArray} (h : CT wr bv bk be bs bm vb eb n k s cnt De K) (hb : Below wr.heap.size wr w') : CT w' bv bk be bs bm vb eb n k s cnt De K := h.kept fun j hj => hb.block j (h.lt hj)
theorem ne_addr {a b : Nat} (h : a ≠ b) (i j : Nat) : (⟨b, i, none⟩ : Addr) ≠ ⟨a, j, none⟩ := fun e => h (congrArg Addr.block e).symm
/-- one more -/
theorem CT.more {wr : World} {bv bk be bs bm vb eb n cnt cnt' : Nat} {k : Int} {s : ByteArray × ByteArray} {De : DataW Value} {K : List ByteArray} (h : CT wr bv bk be bs bm vb eb n k s cnt De K) : CT (wr.setCell ⟨bm, 0, none⟩ (.int .i64 (cnt' : Int))) bv bk be bs bm vb eb n k s cnt' De K where
  v := (World.cell?_setCell_other _ _ _ _ (ne_addr (h.ne bv (.inl rfl)).1 _ _)).trans h.v
  k := (World.cell?_setCell_other _ _ _ _ (ne_addr (h.ne bk (.inr (.inl rfl))).1 _ _)).trans h.k
  e := (World.cell?_setCell_other _ _ _ _ (ne_addr (h.ne be (.inr (.inr (.inl rfl)))).1 _ _)).trans h.e
  s0 := (World.cell?_setCell_other _ _ _ _ (ne_addr (h.ne bs (.inr (.inr (.inr rfl)))).1 _ _)).trans h.s0
  s1 := (World.cell?_setCell_other _ _ _ _ (by simp)).trans h.s1
  m := World.cell?_setCell_same _ _ _ h.m
  mf := by rw [World.frozen?_setCell]; exact h.mf
  own := map_block h.own (Below.heap_setCell _ _ _ _ h.em)
  look := h.look
  ne := h.ne
  em := h.em
/-- a key that was seen -/
theorem CT.saw {wr w4 : World} {bv bk be bs bm vb eb n cnt : Nat} {k : Int} {s : ByteArray × ByteArray} {De : DataW Value} {K : List ByteArray} (h : CT wr bv bk be bs bm vb eb n k s cnt De K) {key : ByteArray}
    (hm : w4.ownsMap Try.prog 9 RV eb (n + 1) (De.put (kL key) (.held (.bool true)))) (hg : wr.grownBy w4 (some eb)) : CT w4 bv bk be bs bm vb eb (n + 1) k s cnt (De.put (kL key) (.held (.bool true))) (K ++ [key]) where
  v := hg.cell h.v (fun e => (h.ne bv (.inl rfl)).2 (Option.some.inj e))
  k := hg.cell h.k (fun e => (h.ne bk (.inr (.inl rfl))).2 (Option.some.inj e))
  e := hg.cell h.e (fun e => (h.ne be (.inr (.inr (.inl rfl)))).2 (Option.some.inj e))
  s0 := hg.cell h.s0 (fun e => (h.ne bs (.inr (.inr (.inr rfl)))).2 (Option.some.inj e))
  s1 := hg.cell h.s1 (fun e => (h.ne bs (.inr (.inr (.inr rfl)))).2 (Option.some.inj e))
  m := hg.cell h.m (fun e => h.em (Option.some.inj e).symm)
  mf := (World.frozen?_of_block (w := wr) (hg.block bm (h.lt (.inr (.inl rfl))) (fun e => h.em (Option.some.inj e).symm))).trans h.mf
  own := hm
  look := fun x hx => by
    by_cases e : x = key
    · subst e; rw [Maps.atKey_put_same h.own.isMap (key_lit x)]; simp
    · rw [Maps.atKey_put_other (kL_ne e), h.look x hx]; simp [e]
  ne := h.ne
  em := h.em
theorem CT.looked {w : World} {bv bk be bs bm vb eb n cnt : Nat} {k : Int} {s : ByteArray × ByteArray} {De : DataW Value} {K : List ByteArray} (h : CT w bv bk be bs bm vb eb n k s cnt De K) {key : ByteArray} (hk : key.size ≤ maxLen) :
    (Instr.lookup 88 (.map (some eb)) (.string key) false).run Try.prog w = .ok (.bool (decide (key ∈ K))) w := by
  obtain ⟨v, ps, hrun, hv⟩ := h.own.lookup str_keyed Try.underlying88 (Try.zeroValue4 w) (zd := .held (.bool false)) (zp := []) rfl (key_mk hk)
  rw [h.look key hk] at hv
  simp only [RV, Option.some.injEq, Prod.mk.injEq, DataW.held.injEq] at hv
  rw [hv.1] at hrun
  exact hrun

/-- what the closure leaves alone -/
def farC (w w' : World) (bm eb : Nat) : Prop := ∀ j, j < w.heap.size → j ≠ bm → j ≠ eb → w'.heap[j]? = w.heap[j]?
def CountAt (B0 : Nat) (w w' : World) (bv bk be bs bm vb eb n : Nat) (k : Int) (s : ByteArray × ByteArray) (cnt : Nat) (K : List ByteArray) : Prop := ∃ De, CT w' bv bk be bs bm vb eb n k s cnt De K ∧ Below B0 w w' ∧ farC w w' bm eb
theorem farC.saw {w w1 w4 : World} {bm eb : Nat} (h : farC w w1 bm eb) (hs : w.heap.size ≤ w1.heap.size) (hg : w1.grownBy w4 (some eb)) : farC w w4 bm eb := fun j hj h1 h2 => (hg.block j (by omega) (fun e => h2 (Option.some.inj e))).trans (h j hj h1 h2)
set_option maxRecDepth 4000 in
set_option maxHeartbeats 2000000 in
theorem count_any {B vb mb nv : Nat} {now : Int} {D : DataW Value} {g : ByteArray → Value} {R : ByteArray → List Ver} (key : ByteArray) {bv bk be bs bm eb n cnt : Nat} {at_ : Int} {s : ByteArray × ByteArray} {De : DataW Value} {K : List ByteArray} (w : World) (h : VS w B vb mb now nv D g R) (hc : CT w bv bk be bs bm vb eb n at_ s cnt De K)
    (hk : key.size ≤ maxLen) (hR : (R key).length ≤ 1000000) (hn : n ≤ 1000000) (hcn : cnt ≤ 1000000) {B0 : Nat} (hB0 : B0 ≤ bm) (hB1 : B0 ≤ eb) (hB2 : B0 ≤ w.heap.size) :
    Calls Try.prog 47 #[.string key, .pointer (some ⟨bv, 0, none⟩), .pointer (some ⟨bk, 0, none⟩), .pointer (some ⟨be, 0, none⟩), .pointer (some ⟨bs, 0, none⟩), .pointer (some ⟨bm, 0, none⟩)] w fun e w' =>
      e = .returned (.tuple #[]) ∧ CountAt B0 w w' bv bk be bs bm vb eb (n + 1) at_ s (cnt + if seenP R at_ s key && !decide (key ∈ K) then 1 else 0) (K ++ [key]) := by
  have HV := hide h
  have HC := hide hc
  have cv := hc.v
  have ck := hc.k
  have ce := hc.e
  have cs0 := hc.s0
  have cs1 := hc.s1
  have cm := hc.m
  have cf := hc.mf
  have hl := hc.looked hk
  clear h hc
  rcases hbv : behindV (R key) at_ with ⟨bval, is⟩
  have HE := hide hbv
  have eS : seenP R at_ s key = (is && hasS s.1 s.2 key) := by unfold seenP; rw [hbv]
  rw [eS]
  generalize hkk : decide (key ∈ K) = kk
  generalize hhh : hasS s.1 s.2 key = hh
  have HK := hide hkk
  have HH := hide hhh
  clear hbv eS hkk hhh
  have hcn' : ((cnt : Int) + 1 : Int) = ((cnt + 1 : Nat) : Int) := by omega
  have HCN := hide hcn'
  clear hcn'
  cases is
  · go_enter Try.func47, Try.ntmps47
    go_wp2_with (first
      | (go_at_call 32; refine (read_any key at_ _ HV.out hk hR).mono ?_; rintro e w1 ⟨rfl, hb1⟩; rw [HE.out]; have HC1 := hide (HC.out.on hb1); replace cv := HC1.out.v; replace ck := HC1.out.k; replace ce := HC1.out.e; replace cs0 := HC1.out.s0; replace cs1 := HC1.out.s1; replace cm := HC1.out.m; replace cf := HC1.out.mf; replace hl := HC1.out.looked hk; rw [HK.out] at hl; obtain ⟨w4, hrun4, hm4, hg4⟩ := HC1.out.own.update str_keyed Try.underlying88 (by unfold maxLen; omega) (key_mk hk) (show RV (.bool true) = _ from rfl); have HM4 := hide hm4; have HG4 := hide hg4; clear hm4 hg4))
    go_end0
    exact ⟨rfl, _, HC1.out.saw HM4.out HG4.out, (hb1.mono hB2).grown HG4.out (Nat.le_trans hB2 hb1.size) (fun k e => by cases e; exact hB1), farC.saw (fun j hj _ _ => hb1.block j hj) hb1.size HG4.out⟩
  · cases kk
    · cases hh
      · go_enter Try.func47, Try.ntmps47
        go_wp2_with (first
          | (go_at_call 32; refine (read_any key at_ _ HV.out hk hR).mono ?_; rintro e w1 ⟨rfl, hb1⟩; rw [HE.out]; have HC1 := hide (HC.out.on hb1); replace cv := HC1.out.v; replace ck := HC1.out.k; replace ce := HC1.out.e; replace cs0 := HC1.out.s0; replace cs1 := HC1.out.s1; replace cm := HC1.out.m; replace cf := HC1.out.mf; replace hl := HC1.out.looked hk; rw [HK.out] at hl; skip)
          | (go_at_call 9; refine (has_any s.1 s.2 key _).mono ?_; rintro e w2 ⟨rfl, hb2⟩; rw [HH.out]; have HC2 := hide (HC1.out.on hb2); replace cv := HC2.out.v; replace ck := HC2.out.k; replace ce := HC2.out.e; replace cs0 := HC2.out.s0; replace cs1 := HC2.out.s1; replace cm := HC2.out.m; replace cf := HC2.out.mf; clear hl; obtain ⟨w4, hrun4, hm4, hg4⟩ := HC2.out.own.update str_keyed Try.underlying88 (by unfold maxLen; omega) (key_mk hk) (show RV (.bool true) = _ from rfl); have HM4 := hide hm4; have HG4 := hide hg4; clear hm4 hg4))
        go_end0
        have hb12 := below_on hb1 (Nat.le_refl _) hb2
        exact ⟨rfl, _, HC2.out.saw HM4.out HG4.out, (hb12.mono hB2).grown HG4.out (Nat.le_trans hB2 hb12.size) (fun k e => by cases e; exact hB1), farC.saw (fun j hj _ _ => hb12.block j hj) hb12.size HG4.out⟩
      · go_enter Try.func47, Try.ntmps47
        go_wp2_with (first
          | (go_at_call 32; refine (read_any key at_ _ HV.out hk hR).mono ?_; rintro e w1 ⟨rfl, hb1⟩; rw [HE.out]; have HC1 := hide (HC.out.on hb1); replace cv := HC1.out.v; replace ck := HC1.out.k; replace ce := HC1.out.e; replace cs0 := HC1.out.s0; replace cs1 := HC1.out.s1; replace cm := HC1.out.m; replace cf := HC1.out.mf; replace hl := HC1.out.looked hk; rw [HK.out] at hl; skip)
          | (go_at_call 9; refine (has_any s.1 s.2 key _).mono ?_; rintro e w2 ⟨rfl, hb2⟩; rw [HH.out]; have HC2 := hide (HC1.out.on hb2); replace cv := HC2.out.v; replace ck := HC2.out.k; replace ce := HC2.out.e; replace cs0 := HC2.out.s0; replace cs1 := HC2.out.s1; replace cm := HC2.out.m; replace cf := HC2.out.mf; clear hl; have HC3 := hide (HC2.out.more (cnt' := cnt + 1)); rw [← HCN.out] at HC3; have ce3 := HC3.out.e; obtain ⟨w4, hrun4, hm4, hg4⟩ := HC3.out.own.update str_keyed Try.underlying88 (by unfold maxLen; omega) (key_mk hk) (show RV (.bool true) = _ from rfl); have HM4 := hide hm4; have HG4 := hide hg4; clear hm4 hg4))
        go_end0
        have hb12 := below_on hb1 (Nat.le_refl _) hb2
        exact ⟨rfl, _, HC3.out.saw HM4.out HG4.out, ((hb12.mono hB2).setCell (p := ⟨bm, 0, none⟩) hB0 _).grown HG4.out (by simp only [World.size_setCell]; exact Nat.le_trans hB2 hb12.size) (fun k e => by cases e; exact hB1), farC.saw (fun j hj h1 _ => (Below.heap_setCell _ _ _ _ h1).trans (hb12.block j hj)) (by simp only [World.size_setCell]; exact hb12.size) HG4.out⟩
    · go_enter Try.func47, Try.ntmps47
      go_wp2_with (first
        | (go_at_call 32; refine (read_any key at_ _ HV.out hk hR).mono ?_; rintro e w1 ⟨rfl, hb1⟩; rw [HE.out]; have HC1 := hide (HC.out.on hb1); replace cv := HC1.out.v; replace ck := HC1.out.k; replace ce := HC1.out.e; replace cs0 := HC1.out.s0; replace cs1 := HC1.out.s1; replace cm := HC1.out.m; replace cf := HC1.out.mf; replace hl := HC1.out.looked hk; rw [HK.out] at hl; obtain ⟨w4, hrun4, hm4, hg4⟩ := HC1.out.own.update str_keyed Try.underlying88 (by unfold maxLen; omega) (key_mk hk) (show RV (.bool true) = _ from rfl); have HM4 := hide hm4; have HG4 := hide hg4; clear hm4 hg4))
      all_goals
        go_end0
        exact ⟨rfl, _, HC1.out.saw HM4.out HG4.out, (hb1.mono hB2).grown HG4.out (Nat.le_trans hB2 hb1.size) (fun k e => by cases e; exact hB1), farC.saw (fun j hj _ _ => hb1.block j hj) hb1.size HG4.out⟩
end Go.Proofs.Ytjphbmdmnicjpab
