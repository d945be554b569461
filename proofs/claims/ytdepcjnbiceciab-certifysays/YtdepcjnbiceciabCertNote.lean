/-
  What History.Note makes of a history that lies in memory: a deed above all that are known stands behind them, with the keys of its changes; nothing else that was there is changed.
-/
import Derived.Test.YtdepcjnbiceciabCertGrow
import Derived.Test.YtdepcjnbiceciabCertPlace
import Derived.Test.YtdepcjnbiceciabChgHeld
import Derived.OwnWalk
import Derived.Deep.RegionLaw
namespace Go.Proofs.Ytdepcjnbiceciab
open Go.RowKit Go.Joins
attribute [local go_sem ↓] Go.wp_at_zero Go.wp_at_succ

theorem deed_info : (Try.prog.info? 121).map (fun i => (i.zero, i.size, i.bytes)) = some (some (.agg #[.int .i64 0, .slice none 0 0]), 2, 32) := by kernel_rfl
theorem string_info : (Try.prog.info? 9).map (fun i => (i.zero, i.size, i.bytes)) = some (some (.string ⟨#[]⟩), 1, 16) := by kernel_rfl

set_option maxRecDepth 4000 in
set_option maxHeartbeats 1000000 in
theorem insert_end (dv : List (DeedL × Value)) (B hb : Nat) (v : Value) (n : Int) (W : World) (x : Nat) (h : HistAt W B hb v dv) (hx : ∀ j u, [Value.int .i64 n, Value.slice none 0 0][j]? = some u → W.cell? ((⟨x, 0, none⟩ : Addr).add j) = some u) (hB : B ≤ W.heap.size) (hn : dv.length ≤ 1000000) :
    Calls Try.prog 64 #[v, .int .i64 dv.length, .slice (some ⟨x, 0, none⟩) 1 1] W fun e w1 =>
      ∃ g cap, e = .returned (.slice (some ⟨g, 0, none⟩) (dv.length + 1) cap) ∧ HistAt (w1.setCell ⟨hb, 0, none⟩ (.slice (some ⟨g, 0, none⟩) (dv.length + 1) cap)) B hb (.slice (some ⟨g, 0, none⟩) (dv.length + 1) cap) (dv ++ [(⟨n, []⟩, .slice none 0 0)]) ∧ Below B W (w1.setCell ⟨hb, 0, none⟩ (.slice (some ⟨g, 0, none⟩) (dv.length + 1) cap)) ∧ w1.cell? ⟨hb, 0, none⟩ = some v ∧ w1.frozen? ⟨hb, 0, none⟩ = false ∧ (∀ b, b < W.heap.size → b ≠ hb → some b ≠ v.ownBlock → b ≠ g ∧ (w1.setCell ⟨hb, 0, none⟩ (.slice (some ⟨g, 0, none⟩) (dv.length + 1) cap)).heap[b]? = W.heap[b]?) := by
  obtain ⟨i0, hi0, hz0, hz1, hz2⟩ := info_parts deed_info
  have HX := hide hx
  have hown := h.own
  have HH := hide h
  clear hx h
  rcases HH.out.form with ⟨rfl, rfl⟩ | ⟨g0, cap0, rfl, _, _, hc1, hc2, _⟩
  · go_enter Try.func64, Try.ntmps64
    go_wp2_with (at_builtin; refine wpList_append_lies _ rfl _ _ _ rfl B 121 i0 _ 2 32 Try.underlying74 hi0 hz0 hz1 hz2 rfl (by omega) _ _ _ rfl hown ⟨x, 0, none⟩ 1 1 [.int .i64 n, .slice none 0 0] rfl rfl HX.out (by simp [Value.oneCell']) (by omega) (by simp [maxLen]) (by simp) hB W.heap.size rfl ?_; intro g cap w1 ho hg hat hlt)
    go_ret
    obtain ⟨r1, r2, r3, r4, r5⟩ := hist_new (n := n) HH.out hB hg ho hat
    exact ⟨g, cap, rfl, r1, r2, r3, r4, r5⟩
  · rcases Nat.eq_or_lt_of_le hc1 with hcc | hcc
    all_goals
      first | subst hcc | skip
      go_enter Try.func64, Try.ntmps64
      go_wp2_with (at_builtin; refine wpList_append_lies _ rfl _ _ _ rfl B 121 i0 _ 2 32 Try.underlying74 hi0 hz0 hz1 hz2 rfl (by omega) _ _ _ rfl hown ⟨x, 0, none⟩ 1 1 [.int .i64 n, .slice none 0 0] rfl rfl HX.out (by simp [Value.oneCell']) (by omega) (by unfold maxLen; omega) (by omega) hB W.heap.size rfl ?_; intro g cap w1 ho hg hat hlt)
      go_ret
      obtain ⟨r1, r2, r3, r4, r5⟩ := hist_new (n := n) HH.out hB hg ho hat
      exact ⟨g, cap, rfl, r1, r2, r3, r4, r5⟩

theorem heldCh_block {w w' : World} {ao : Option Addr} {l : List Chg} (h : heldCh w ao l) (hk : ∀ b off, ao = some ⟨b, off, none⟩ → b < w.heap.size → w'.heap[b]? = w.heap[b]?) : heldCh w' ao l := by
  rcases h with h | ⟨b, off, rfl, h⟩
  · exact .inl h
  · by_cases h0 : l = []
    · exact .inl h0
    · have hl : 0 < l.length := List.length_pos_iff.2 h0
      have e := hk b off rfl (World.block_lt_of_cell? w _ (h 0 hl).1)
      exact .inr ⟨b, off, rfl, fun i hi => ⟨(World.cell?_of_block (w := w) e).trans (h i hi).1, (World.cell?_of_block (w := w) e).trans (h i hi).2.1, (World.cell?_of_block (w := w) e).trans (h i hi).2.2⟩⟩
def keysC (l : List Chg) : List ByteArray := l.map (·.key)
theorem note_step {w wr X w3 : World} {B hb g gcap gk ck k : Nat} {v : Value} {dv : List (DeedL × Value)} {n : Int} {l : List Chg} {kv : Value}
    (H1 : HistAt wr B hb (.slice (some ⟨g, 0, none⟩) (dv.length + 1) gcap) (dv ++ [(⟨n, keysC (l.take k)⟩, kv)])) (H2 : Below B w wr)
    (H3 : ∀ j, j < w.heap.size → j ≠ hb → some j ≠ v.ownBlock → wr.heap[j]? = w.heap[j]? ∧ j ≠ g ∧ some j ≠ kv.ownBlock) (HB2 : Below wr.heap.size wr X) (xs : X.heap.size = wr.heap.size + 1)
    {key : ByteArray} (hgrow : (X.alloc (Obj.cells #[Value.string key] 9)).drew.grownBy w3 kv.ownBlock)
    (ho3 : w3.ownsRow B 9 1 (.slice (some ⟨gk, 0, none⟩) ((keysC (l.take k)).length + 1) ck) ((keysC (l.take k)).length + 1) ((keysC (l.take k)).map Value.string ++ [.string key])) (hat3 : kv.ownBlock = some gk ∨ gk = wr.heap.size + 2)
    (hlt : k < l.length) (hkey : key = l[k].key := by rfl) :
    Hid (HistAt (w3.setCell ⟨g, dv.length * 2 + 1, none⟩ (.slice (some ⟨gk, 0, none⟩) ((keysC (l.take k)).length + 1) ck)) B hb (.slice (some ⟨g, 0, none⟩) (dv.length + 1) gcap) (dv ++ [(⟨n, keysC (l.take (k + 1))⟩, .slice (some ⟨gk, 0, none⟩) ((keysC (l.take k)).length + 1) ck)])) ∧
    Hid (Below B w (w3.setCell ⟨g, dv.length * 2 + 1, none⟩ (.slice (some ⟨gk, 0, none⟩) ((keysC (l.take k)).length + 1) ck))) ∧
    Hid (∀ j, j < w.heap.size → j ≠ hb → some j ≠ v.ownBlock → (w3.setCell ⟨g, dv.length * 2 + 1, none⟩ (.slice (some ⟨gk, 0, none⟩) ((keysC (l.take k)).length + 1) ck)).heap[j]? = w.heap[j]? ∧ j ≠ g ∧ some j ≠ (Value.slice (some ⟨gk, 0, none⟩) ((keysC (l.take k)).length + 1) ck).ownBlock) := by
  subst hkey
  have HH2 := H1.on HB2
  have hbY := (below_alloc1 X (Obj.cells #[Value.string l[k].key] 9)).drew
  have hY := HH2.on hbY
  have hsY := hbY.size
  have hloY := HH2.lo
  have hltY := HH2.lt
  have hat4 : kv.ownBlock = some gk ∨ gk = (X.alloc (Obj.cells #[Value.string l[k].key] 9)).drew.heap.size := hat3.imp id fun e => by
    rw [e]; simp; omega
  obtain ⟨r1, r2, r3⟩ := hist_push hY (by omega) hgrow ho3 hat4
  have ek : keysC (l.take (k + 1)) = keysC (l.take k) ++ [l[k].key] := by
    unfold keysC
    rw [List.take_succ_eq_append_getElem hlt, List.map_append]
    rfl
  have hwY : Below wr.heap.size wr (X.alloc (Obj.cells #[Value.string l[k].key] 9)).drew := below_on HB2 (Nat.le_refl _) hbY
  refine ⟨?_, (H2.trans (hwY.mono (by have := H1.lo; have := H1.lt; omega))).trans r2, fun j h1 h2 h3 => ?_⟩
  · unfold Hid
    rw [ek]; exact r1
  · obtain ⟨a1, a2, a3⟩ := H3 j h1 h2 h3
    have hj : j < wr.heap.size := Nat.lt_of_lt_of_le h1 H2.size
    obtain ⟨b1, b2⟩ := r3 j (Nat.lt_of_lt_of_le hj hwY.size) a2 a3
    exact ⟨b2.trans ((hwY.block j hj).trans a1), a2, by simpa [Value.ownBlock] using b1⟩
theorem heldCh_lt {w : World} {ao : Option Addr} {l : List Chg} (h : heldCh w ao l) (h0 : l ≠ []) : ∀ b off, ao = some ⟨b, off, none⟩ → b < w.heap.size := fun b off e => by
  rcases h with h | ⟨b', off', e', h⟩
  · exact absurd h h0
  · rw [e] at e'; cases e'
    exact World.block_lt_of_cell? _ _ (h 0 (List.length_pos_iff.2 h0)).1
set_option maxHeartbeats 4000000 in
theorem note_any (dv : List (DeedL × Value)) (B hb : Nat) (v : Value) (n : Int) (ao : Option Addr) (cap : Nat) (l : List Chg) (w : World) (h : HistAt w B hb v dv) (hr : risesD (ofDV dv)) (htop : ∀ d ∈ ofDV dv, d.n < n) (hB : B ≤ w.heap.size) (hn : dv.length ≤ 1000)
    (hl : heldCh w ao l) (hll : l.length ≤ 1000) (hoff : l ≠ [] → ∀ b off, ao = some ⟨b, off, none⟩ → b ≠ hb ∧ some b ≠ v.ownBlock) :
    Calls Try.prog 39 #[.pointer (some ⟨hb, 0, none⟩), .int .i64 n, .slice ao l.length cap] w fun e w' => e = .returned (.tuple #[]) ∧ ∃ v' dv', HistAt w' B hb v' dv' ∧ ofDV dv' = ofDV dv ++ [⟨n, keysC l⟩] ∧ Below B w w' ∧
      (∀ j, j < w.heap.size → ¬ inH hb v dv j → w'.heap[j]? = w.heap[j]? ∧ ¬ inH hb v' dv' j) := by
  obtain ⟨e1, e2⟩ := posD_top htop
  have e1' : posD (ofDV dv) n = dv.length := by rw [e1]; simp [ofDV]
  have HP := hide e1'
  have HK := hide e2
  have HH := hide h
  have HR := hide hr
  have c := h.cell
  clear e1 e2 e1' h hr htop
  go_enter Try.func39, Try.ntmps39
  go_wp2_with (first
    | (go_at_call 63; refine (place_any dv B hb v n _ HH.out HR.out (by omega)).mono ?_; rintro e w1 ⟨rfl, hb1⟩; rw [HP.out, HK.out]; replace c := cell_on hb1 c))
  have hX : ∀ j u, [Value.int .i64 n, Value.slice none 0 0][j]? = some u → (w1.alloc (Obj.cells #[Value.int .i64 n, Value.slice none 0 0] 121)).cell? ((⟨w1.heap.size, 0, none⟩ : Addr).add j) = some u := World.news_of_block (cs := #[.int .i64 n, .slice none 0 0]) (t := 121) (fr := (0, 0)) (heap_alloc_new w1 _)
  have hb2 := below_alloc1 w1 (Obj.cells #[Value.int .i64 n, Value.slice none 0 0] 121)
  have HW := hide ((HH.out.on hb1).on hb2)
  have hb12 := below_on hb1 (Nat.le_refl _) hb2
  have hBW : B ≤ (w1.alloc (Obj.cells #[Value.int .i64 n, Value.slice none 0 0] 121)).heap.size := Nat.le_trans hB hb12.size
  refine (insert_end dv B hb v n _ _ HW.out hX hBW (by omega)).mono ?_
  rintro e w2 ⟨g, gcap, rfl, HN, hbn, c2, f2, hfar⟩
  have HN' := hide HN
  have hBn : Below B w (w2.setCell ⟨hb, 0, none⟩ (.slice (some ⟨g, 0, none⟩) (dv.length + 1) gcap)) := (hb12.mono hB).trans hbn
  have HBn := hide hBn
  have HF : Hid (∀ j, j < w.heap.size → j ≠ hb → some j ≠ v.ownBlock → (w2.setCell ⟨hb, 0, none⟩ (.slice (some ⟨g, 0, none⟩) (dv.length + 1) gcap)).heap[j]? = w.heap[j]? ∧ j ≠ g ∧ some j ≠ (Value.slice none 0 0).ownBlock) := fun j h1 h2 h3 => by
    obtain ⟨a1, a2⟩ := hfar j (Nat.lt_of_lt_of_le h1 hb12.size) h2 h3
    exact ⟨a2.trans (hb12.block j h1), a1, by simp [Value.ownBlock]⟩
  have HL := hide hl
  have HO := hide hoff
  clear HN hbn hBn hX c hl hfar hoff
  go_wp2
  go_loopw [32] (fun i wr => ∃ (k : Nat) (kv : Value), k ≤ l.length ∧ i = .int .i64 k ∧ HistAt wr B hb (.slice (some ⟨g, 0, none⟩) (dv.length + 1) gcap) (dv ++ [(⟨n, keysC (l.take k)⟩, kv)]) ∧ Below B w wr ∧ (∀ j, j < w.heap.size → j ≠ hb → some j ≠ v.ownBlock → wr.heap[j]? = w.heap[j]? ∧ j ≠ g ∧ some j ≠ kv.ownBlock)) (fun i _ => l.length - (intOf i).toNat)
  case atStart => exact ⟨0, .slice none 0 0, Nat.zero_le _, rfl, HN'.out, HBn.out, HF.out⟩
  case round =>
    obtain ⟨k, kv, hk, rfl, hH, hBr, hfr0⟩ := hrel
    have H1 := hide hH
    have H2 := hide hBr
    have H3 := hide hfr0
    clear hH hBr hfr0 HN' HBn HF c2 f2
    by_cases hlt : k < l.length
    · have hne : l ≠ [] := fun e => by rw [e] at hlt; simp at hlt
      rcases HL.out with h0 | ⟨b, off, eao, hc0⟩
      · exact absurd h0 hne
      have hb0 := heldCh_lt HL.out hne b off eao
      obtain ⟨nb0, nb1, nb2⟩ := H3.out b hb0 (HO.out hne b off eao).1 (HO.out hne b off eao).2
      have hc : chgsAt wr b off l := fun i hi => ⟨(World.cell?_of_block (w := w) nb0).trans (hc0 i hi).1, (World.cell?_of_block (w := w) nb0).trans (hc0 i hi).2.1, (World.cell?_of_block (w := w) nb0).trans (hc0 i hi).2.2⟩
      subst eao
      clear nb0 nb1 nb2 hc0 hb0
      obtain ⟨c0, c1, c2⟩ := hc k hlt
      have hlt' : (k : Int) < (l.length : Int) := by omega
      clear hc
      have g0 := H1.out.cell
      have g0l := H1.out.lt
      have mem : ((⟨n, keysC (l.take k)⟩ : DeedL), kv) ∈ dv ++ [((⟨n, keysC (l.take k)⟩ : DeedL), kv)] := by simp
      have hown := H1.out.keys _ mem
      have hlen : (keysC (l.take k)).length = k := by simp [keysC]; omega
      have kl : ∀ j, kv.ownBlock = some j → j < wr.heap.size := fun j hj => (hown.lt j hj).2
      have hrow := H1.out.own
      have hgl := (hrow.lt g rfl).2
      obtain ⟨g1, g2⟩ : wr.cell? ⟨g, dv.length * 2 + 1, none⟩ = some kv ∧ wr.frozen? ⟨g, dv.length * 2 + 1, none⟩ = false := by
        rcases H1.out.form with ⟨e, _⟩ | ⟨g', cap', e, _, _, _, _, hx⟩
        · cases e
        · simp at e
          obtain ⟨rfl, rfl⟩ := e
          have := (hx dv.length (by simp)).2
          simpa using this
      have ag : some g ≠ kv.ownBlock := by
        rcases H1.out.apart _ mem with e | e
        · rw [e]; simp
        · exact Ne.symm e
      have ah : some hb ≠ kv.ownBlock := Ne.symm (H1.out.offk _ mem)
      have ax : some wr.heap.size ≠ kv.ownBlock := fun e => by have := kl _ e.symm; omega
      have HO := hide hown
      have HL2 := hide hlen
      clear hrow hown hlen mem
      obtain ⟨i0, hi0, hz0, hz1, hz2⟩ := info_parts string_info
      have hd0 : (0 : Int) ≤ (dv.length : Int) := Int.natCast_nonneg _
      have hd1 : (dv.length : Int) < ((dv.length : Int) + 1) := by omega
      go_wp2
      have hbX := below_alloc1 wr (Obj.cells #[Value.string l[k].key, Value.string l[k].val, Value.bool l[k].gone] 35)
      have x0 : (wr.alloc (Obj.cells #[Value.string l[k].key, Value.string l[k].val, Value.bool l[k].gone] 35)).cell? ⟨wr.heap.size, 0, none⟩ = some (.string l[k].key) := cell_new _ _ _ 0
      have xs : (wr.alloc (Obj.cells #[Value.string l[k].key, Value.string l[k].val, Value.bool l[k].gone] 35)).heap.size = wr.heap.size + 1 := by simp
      replace g0 := cell_on hbX g0
      replace g1 := cell_on hbX g1
      replace g2 := frozen_on hbX hgl g2
      have HH2 := hide (H1.out.on hbX)
      have HO2 := hide (own_on HO.out hbX)
      have HB2 := hide hbX
      clear c0 c1 c2
      generalize hX : wr.alloc (Obj.cells #[Value.string l[k].key, Value.string l[k].val, Value.bool l[k].gone] 35) = X at g0 g1 g2 x0 xs HH2 HO2 HB2 ⊢
      clear hX hbX
      have HNW : Hid (∀ j u, [Value.string l[k].key][j]? = some u → (X.alloc (Obj.cells #[Value.string l[k].key] 9)).drew.cell? ((⟨wr.heap.size + 1, 0, none⟩ : Addr).add j) = some u) := by
        rw [← xs]
        exact World.news_of_block (cs := #[.string l[k].key]) (t := 9) (fr := (0, 0)) (heap_alloc_new X _)
      have hfr : ∀ o, (X.alloc o).frozen? ⟨g, dv.length * 2 + 1, none⟩ = false := fun o => frozen_on (below_alloc1 _ _) (by show g < _; omega) g2
      go_region_law ((refine step_append_lies _ (by rfl) _ _ _ (by rfl) B 9 i0 _ 1 16 Try.underlying78 hi0 hz0 hz1 hz2 rfl (by omega) kv _ _ (by rfl) ((HO2.out.alloc _).drew) ⟨wr.heap.size + 1, 0, none⟩ 1 1 [.string l[k].key] (by rfl) (by rfl) HNW.out (by simp [Value.oneCell']) (by omega) (by rw [HL2.out]; unfold maxLen; omega) (by rw [HL2.out]; omega) (by have h1 := H1.out.lo; simp; omega) (wr.heap.size + 2) (by simp; omega) ?_; intro gk ck w3 ho3 hgrow hat3 hlt3; have k0 : w3.cell? ⟨hb, 0, none⟩ = some (.slice (some ⟨g, 0, none⟩) (dv.length + 1) gcap) := hgrow.cell (cell_on (below_alloc1 _ _).drew g0) ah; have k1 : w3.cell? ⟨g, dv.length * 2 + 1, none⟩ = some kv := hgrow.cell (cell_on (below_alloc1 _ _).drew g1) ag; have k2 : w3.frozen? ⟨g, dv.length * 2 + 1, none⟩ = false := (hgrow.frozen_far _ (by simp; omega) ag).trans (hfr _)))
      all_goals
        obtain ⟨R1, R2, R3⟩ := note_step H1.out H2.out H3.out HB2.out xs hgrow ho3 hat3 hlt
        clear k0 k1 k2 ho3 hgrow hat3 hlt3 g0 g1 g2 x0 hfr
        go_wp2
        go_roundw
        case rel => exact ⟨k + 1, _, by omega, by go_num, R1.out, R2.out, R3.out⟩
        case measure => simp [intOf]; omega
    · have e : l.take k = l := List.take_of_length_le (by omega)
      have hlt' : ¬ (k : Int) < (l.length : Int) := by omega
      rw [e] at H1
      clear e
      go_wp2
      go_end0
      refine ⟨rfl, _, _, H1.out, by simp [ofDV], H2.out, fun j h1 h2 => ?_⟩
      obtain ⟨a1, a2, a3⟩ := H3.out j h1 (fun e => h2 (.inl e)) (fun e => h2 (.inr (.inl e.symm)))
      refine ⟨a1, ?_⟩
      rintro (e | e | ⟨p, hp, e⟩)
      · exact h2 (.inl e)
      · simp [Value.ownBlock] at e
        exact a2 e.symm
      · rcases List.mem_append.1 hp with hp | hp
        · exact h2 (.inr (.inr ⟨p, hp, e⟩))
        · simp only [List.mem_singleton] at hp
          subst hp
          exact a3 e.symm
end Go.Proofs.Ytdepcjnbiceciab
