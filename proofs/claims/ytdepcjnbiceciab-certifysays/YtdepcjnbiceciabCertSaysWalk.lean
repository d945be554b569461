/-
  What haywainlaw.CertifySays returns: true, for all acts, in whatever memory; nothing that was there is changed.
-/
import Derived.Test.YtdepcjnbiceciabCertClears
import Derived.Test.YtdepcjnbiceciabCertState
import Derived.Test.YtdepcjnbiceciabActMem
import Derived.Test.YtdepcjnbiceciabRefHas
import Derived.OwnWalk
namespace Go.Proofs.Ytdepcjnbiceciab
open Go.RowKit Go.Joins

theorem cs_start {w : World} {B hb : Nat} (h : HistAt w B hb (.slice none 0 0) []) : CSt w B hb (.slice none 0 0) [] (.slice none 0 0) (.slice none 0 0) (.slice none 0 0) [] [] where
  hist := h
  at_ := World.ownsRow_nil _ _ _ _
  keys := World.ownsRow_nil _ _ _ _
  deeds := World.ownsRow_nil _ _ _ _
  ha := fun k hk => by simp [Value.ownBlock] at hk
  hk := fun k hk => by simp [Value.ownBlock] at hk
  hd := fun k hk => by simp [Value.ownBlock] at hk
  ak := apart_nil _
  ad := apart_nil _
  kd := apart_nil _

set_option maxRecDepth 8000 in
set_option maxHeartbeats 8000000 in
theorem certSays_light (acts : List ActL) (ao : Option Addr) (cap : Nat) (w : World) (hl : heldAc w ao acts) (h : lightActs acts 40 = true) :
    Calls Try.prog 6 #[.slice ao acts.length cap] w fun e w' => e = .returned (.bool true) ∧ Below w.heap.size w w' := by
  have hn : acts.length ≤ 40 := by simp only [lightActs, Bool.and_eq_true, decide_eq_true_eq] at h; exact h.1
  have HL := hide hl
  have HX := hide h
  clear hl h
  go_enter Try.func6, Try.ntmps6
  go_wp2_with fail
  refine (clears_any _).mono ?_
  rintro e w1 ⟨rfl, hB⟩
  go_wp2_with fail
  refine (lightAc_held acts 40 _ _ _ (heldAc_on hB HL.out) (by omega)).mono ?_
  rintro e w5 ⟨rfl, rfl⟩
  rw [HX.out]
  have hb6 := below_alloc1 w5 (Obj.cells #[Value.slice none 0 0] 76)
  have H6 : Hid (CSt (w5.alloc (Obj.cells #[Value.slice none 0 0] 76)) w.heap.size w5.heap.size (.slice none 0 0) [] (.slice none 0 0) (.slice none 0 0) (.slice none 0 0) [] []) := cs_start (hist_made hB.size (cell_new w5 _ _ 0) (frozen_new w5 _ _ 0))
  have HB6 := hide (hB.trans (hb6.mono hB.size))
  clear hb6 hB
  go_wp2
  go_loopw [5, 6, 7, 8, 9] (fun va vk vd n i wr => ∃ (k : Nat) (N : Int) (v : Value) (dv : List (DeedL × Value)), k ≤ acts.length ∧ i = .int .i64 k ∧ n = .int .i64 N ∧ 0 ≤ N ∧ N ≤ 8 * k ∧ CSt wr w.heap.size w5.heap.size v dv va vk vd (pairsD (ofDV dv)) ((ofDV dv).map (·.n)) ∧ risesD (ofDV dv) ∧ (∀ d ∈ ofDV dv, d.n ≤ N ∧ d.keys.length ≤ 20) ∧ dv.length ≤ k ∧ Below w.heap.size w wr) (fun _ _ _ _ i _ => acts.length - (intOf i).toNat)
  case atStart => exact ⟨0, 0, _, [], Nat.zero_le _, rfl, rfl, by omega, by omega, H6.out, List.Pairwise.nil, by simp [ofDV], by simp, HB6.out⟩
  case round =>
    obtain ⟨w0, rfl⟩ : ∃ w0, w0 = wr := ⟨wr, rfl⟩
    obtain ⟨k, N, v, dv, hk, rfl, rfl, hN0, hN8, hC, hr, hds, hdl, hB⟩ := hrel
    have HC := hide hC
    have HR := hide hr
    have HD := hide hds
    have HB := hide hB
    clear hC hr hds hB H6 HB6
    by_cases hlt : k < acts.length
    · rcases HL.out with e0 | ⟨xb, xoff, eao, hx⟩
      · rw [e0] at hlt; simp at hlt
      · subst eao
        have hx0 := hx k hlt
        have hxr := hx0.on HB.out
        have c0 := hxr.kind
        have c1 := hxr.a
        have c2 := hxr.b
        have c3 := hxr.c
        have c4 := hxr.k
        have c5 := hxr.s
        have c6 := hxr.t
        have c7 := hxr.cl
        have c8 := hxr.sl
        have hai := hxr.ai
        have HXR := hide hxr
        have HX0 := hide hx0
        have hlt' : (k : Int) < (acts.length : Int) := by omega
        clear hx hx0 hxr
        have hcl := (light_chs HX.out hlt).1
        have hsp50 := (light_chs HX.out hlt).2
        have HLT := hide hlt
        generalize hx : acts[k] = x at c0 c1 c2 c3 c4 c5 c6 c7 c8 hai HXR HX0 hcl hsp50
        obtain ⟨r0, r7⟩ := and7_bounds x.a
        generalize hr7 : bits BinOp.and IntKind.i64 x.a 7 = r at r0 r7
        have hqn := pairs_le (ofDV dv) 40 20 (by simp [ofDV]; omega) (fun d hd => (HD.out d hd).2)
        obtain ⟨qs, hqs⟩ : ∃ qs, pairsD (ofDV dv) = qs := ⟨_, rfl⟩
        obtain ⟨D, hDe⟩ : ∃ D, (ofDV dv).map (·.n) = D := ⟨_, rfl⟩
        have hDl : D.length ≤ dv.length := by rw [← hDe]; simp [ofDV]
        rw [hqs, hDe] at HC
        rw [hqs] at hqn
        have HQ := hide hqs
        have HDE := hide hDe
        have HDLE : Hid (dv.length = D.length) := by unfold Hid; rw [← hDe]; simp [ofDV]
        clear hqs hDe
        have hbX := below_alloc1 w0 (Obj.cells #[Value.string x.kind, Value.int .i64 x.a, Value.int .i64 x.b, Value.int .i64 x.c, Value.int .u64 x.k, Value.string x.s, Value.string x.t, Value.slice x.ca x.chs.length x.cc, Value.slice x.sa x.sps.length x.sc] 58)
        have HCX := hide (HC.out.on hbX)
        have HXX := hide (HXR.out.on hbX)
        have HBX := hide (HB.out.trans (hbX.mono HB.out.size))
        have hzb : (w0.alloc (Obj.cells #[Value.string x.kind, Value.int .i64 x.a, Value.int .i64 x.b, Value.int .i64 x.c, Value.int .u64 x.k, Value.string x.s, Value.string x.t, Value.slice x.ca x.chs.length x.cc, Value.slice x.sa x.sps.length x.sc] 58)).heap[w0.heap.size]? = some (Obj.cells #[Value.string x.kind, Value.int .i64 x.a, Value.int .i64 x.b, Value.int .i64 x.c, Value.int .u64 x.k, Value.string x.s, Value.string x.t, Value.slice x.ca x.chs.length x.cc, Value.slice x.sa x.sps.length x.sc] 58) := Go.heap_alloc_new _ _
        have HZ : Hid (Zed (w0.alloc (Obj.cells #[Value.string x.kind, Value.int .i64 x.a, Value.int .i64 x.b, Value.int .i64 x.c, Value.int .u64 x.k, Value.string x.s, Value.string x.t, Value.slice x.ca x.chs.length x.cc, Value.slice x.sa x.sps.length x.sc] 58)) w0.heap.size #[Value.string x.kind, Value.int .i64 x.a, Value.int .i64 x.b, Value.int .i64 x.c, Value.int .u64 x.k, Value.string x.s, Value.string x.t, Value.slice x.ca x.chs.length x.cc, Value.slice x.sa x.sps.length x.sc] 58 u5 u6 u7) :=
          ⟨hzb, fun e => by have := (World.ownsRow.lt HC.out.at_ _ e).2; omega, fun e => by have := (World.ownsRow.lt HC.out.keys _ e).2; omega, fun e => by have := (World.ownsRow.lt HC.out.deeds _ e).2; omega⟩
        have hzH : ¬ inH w5.heap.size v dv w0.heap.size := fun e => by have := inH_lt HC.out.hist e; omega
        have hsX : (w0.alloc (Obj.cells #[Value.string x.kind, Value.int .i64 x.a, Value.int .i64 x.b, Value.int .i64 x.c, Value.int .u64 x.k, Value.string x.s, Value.string x.t, Value.slice x.ca x.chs.length x.cc, Value.slice x.sa x.sps.length x.sc] 58)).heap.size = w0.heap.size + 1 := by simp
        have HBS := hide HB.out.size
        clear hbX hzb
        go_wp2_with fail
        · have HO : Hid (x.chs ≠ [] → ∀ b off, x.ca = some ⟨b, off, none⟩ → b ≠ w5.heap.size ∧ some b ≠ v.ownBlock) := fun h0 b off e => HCX.out.hist.far (heldCh_lt HX0.out.hc h0 b off e)
          refine (note_any dv w.heap.size _ v (N + 1 + r) _ _ x.chs _ HCX.out.hist HR.out (fun d hd => by have := (HD.out d hd).1; omega) HBX.out.size (by omega) HXX.out.hc (by omega) HO.out).mono ?_
          rintro e w2 ⟨rfl, v2, dv2, hH2, eDV, hb2, hf2⟩
          have HC2 := hide (HCX.out.turn hH2 hf2).mid
          obtain ⟨hz2, hzH2⟩ := hf2 w0.heap.size (by omega) hzH
          have HZ2 : Hid (Zed w2 w0.heap.size _ _ u5 u6 u7) := ⟨hz2.trans HZ.out.blk, HZ.out.a, HZ.out.k, HZ.out.d⟩
          have HB2 := hide (HBX.out.trans hb2)
          have EDV := hide eDV
          have hB2s := HB2.out.size
          generalize hA : qs.map (·.1) = A at HC2
          generalize hKe : qs.map (·.2) = K at HC2
          have hAl : A.length ≤ 800 := by rw [← hA]; simp; omega
          have hKl : K.length ≤ 800 := by rw [← hKe]; simp; omega
          have HAE := hide hA
          have HKE := hide hKe
          clear hA hKe hH2 eDV hb2 hf2 hz2 hzH2
          obtain ⟨i0, hi0, hz0, hz1, hz3⟩ := info_parts int_info
          have hb3 := below_alloc1 w2 (Obj.cells #[Value.int .i64 (N + 1 + r)] 3)
          have HC3 := hide (HC2.out.on hb3)
          have HZ3 := hide (HZ2.out.on hb3)
          have HB3 := hide (HB2.out.trans (hb3.mono hB2s))
          have HN3 : Hid (∀ j u, [Value.int .i64 (N + 1 + r)][j]? = some u → (w2.alloc (Obj.cells #[Value.int .i64 (N + 1 + r)] 3)).cell? ((⟨w2.heap.size, 0, none⟩ : Addr).add j) = some u) := World.news_of_block (cs := #[.int .i64 (N + 1 + r)]) (t := 3) (fr := (0, 0)) (heap_alloc_new w2 _)
          go_wp2_with (at_builtin; refine wpList_append_lies _ rfl _ _ _ rfl w.heap.size 3 i0 _ 1 8 Try.underlying77 hi0 hz0 hz1 hz3 rfl (by omega) u7 D.length (D.map (Value.int .i64)) rfl HC3.out.deeds ⟨w2.heap.size, 0, none⟩ 1 1 [.int .i64 (N + 1 + r)] rfl rfl HN3.out (by simp [Value.oneCell']) (by omega) (by unfold maxLen; omega) (by omega) (by simp; omega) (w2.heap.size + 1) (by simp) ?_; intro g3 cap3 w3 ho3 hg3 hat3 hlt3)
          have hs3 : (w2.alloc (Obj.cells #[Value.int .i64 (N + 1 + r)] 3)).heap.size = w2.heap.size + 1 := by simp
          have hat3' : u7.ownBlock = some g3 ∨ g3 = (w2.alloc (Obj.cells #[Value.int .i64 (N + 1 + r)] 3)).heap.size := hat3.imp id fun e => by rw [e, hs3]
          have HC4 := hide (HC3.out.pushD hg3 ho3 hat3')
          have HZ4 := hide (HZ3.out.pushD (n := D.length + 1) (cap := cap3) hg3 hat3')
          have HB4 := hide (below_push HB3.out HB3.out.size HC3.out.deeds hg3)
          clear hg3 ho3 hat3 hat3' hs3 hlt3 HC3 HZ3 HB3 HN3 hb3 HC2 HZ2
          go_loopw [5, 6, 11] (fun va vk j wj => ∃ m : Nat, m ≤ x.chs.length ∧ j = .int .i64 m ∧ CSm wj w.heap.size w5.heap.size v2 dv2 va vk (.slice (some ⟨g3, 0, none⟩) (D.length + 1) cap3) (A ++ List.replicate m (N + 1 + r)) (K ++ keysC (x.chs.take m)) (D ++ [N + 1 + r]) ∧ Zed wj w0.heap.size #[Value.string x.kind, Value.int .i64 x.a, Value.int .i64 x.b, Value.int .i64 x.c, Value.int .u64 x.k, Value.string x.s, Value.string x.t, Value.slice x.ca x.chs.length x.cc, Value.slice x.sa x.sps.length x.sc] 58 va vk (.slice (some ⟨g3, 0, none⟩) (D.length + 1) cap3) ∧ Below w.heap.size w wj) (fun _ _ j _ => x.chs.length - (intOf j).toNat)
          case atStart => exact ⟨0, Nat.zero_le _, rfl, by simpa [keysC] using HC4.out, HZ4.out, HB4.out⟩
          case round =>
            obtain ⟨m, hm, rfl, hC, hZ, hBj⟩ := hrel
            have HCj := hide hC
            have HZj := hide hZ
            have HBj := hide hBj
            have z7 := hZ.cell (j := 7) rfl
            have hsz := hBj.size
            clear hC hZ hBj HC4 HZ4 HB4
            by_cases hml : m < x.chs.length
            · rcases heldCh_on HBj.out HX0.out.hc with e | ⟨b, off, eca, hch⟩
              · rw [e] at hml; simp at hml
              · obtain ⟨d0, _, _⟩ := hch m hml
                have hbw := heldCh_lt HX0.out.hc (fun e => by rw [e] at hml; simp at hml) b off eca
                have hml' : (m : Int) < (x.chs.length : Int) := by omega
                rw [eca] at z7
                obtain ⟨A1, hA1⟩ : ∃ A1, A ++ List.replicate m (N + 1 + r) = A1 := ⟨_, rfl⟩
                obtain ⟨K1, hK1⟩ : ∃ K1, K ++ keysC (x.chs.take m) = K1 := ⟨_, rfl⟩
                have hA1l : A1.length ≤ 900 := by rw [← hA1]; simp; omega
                have hK1l : K1.length ≤ 900 := by rw [← hK1]; simp [keysC]; omega
                rw [hA1, hK1] at HCj
                have HA1 : Hid (A ++ List.replicate (m + 1) (N + 1 + r) = A1 ++ [N + 1 + r]) := by
                  unfold Hid; rw [← hA1, List.replicate_succ', List.append_assoc]
                have HK1 : Hid (K ++ keysC (x.chs.take (m + 1)) = K1 ++ [x.chs[m].key]) := by
                  unfold Hid keysC
                  rw [← hK1, List.take_succ_eq_append_getElem hml, List.map_append, List.append_assoc]
                  rfl
                have dw : w.cell? ⟨b, off + m * 3, none⟩ = some (.string x.chs[m].key) := by
                  have := HBj.out.cell (p := ⟨b, off + m * 3, none⟩) hbw
                  rw [← this]; exact d0
                have ECA := hide eca
                clear hA1 hK1 hch eca
                obtain ⟨i1, hi1, hy0, hy1, hy3⟩ := info_parts text_info
                have hb4 := below_alloc1 wr (Obj.cells #[Value.int .i64 (N + 1 + r)] 3)
                have HC5 := hide (HCj.out.on hb4)
                have HZ5 := hide (HZj.out.on hb4)
                have HB5 := hide (HBj.out.trans (hb4.mono hsz))
                have HN5 : Hid (∀ j u, [Value.int .i64 (N + 1 + r)][j]? = some u → (wr.alloc (Obj.cells #[Value.int .i64 (N + 1 + r)] 3)).cell? ((⟨wr.heap.size, 0, none⟩ : Addr).add j) = some u) := World.news_of_block (cs := #[.int .i64 (N + 1 + r)]) (t := 3) (fr := (0, 0)) (heap_alloc_new wr _)
                have hs5 : (wr.alloc (Obj.cells #[Value.int .i64 (N + 1 + r)] 3)).heap.size = wr.heap.size + 1 := by simp
                clear hb4
                go_wp2_with (first
                  | (at_builtin; have hb7 := below_alloc1 w6 (Obj.cells #[Value.string x.chs[m].key] 9); have HC7 := hide (HC6.out.on hb7); have HZ7 := hide (HZ6.out.on hb7); have HB7 := hide (HB6.out.trans (hb7.mono HB6.out.size)); have HN7 : Hid (∀ j u, [Value.string x.chs[m].key][j]? = some u → (w6.alloc (Obj.cells #[Value.string x.chs[m].key] 9)).cell? ((⟨w6.heap.size, 0, none⟩ : Addr).add j) = some u) := World.news_of_block (cs := #[.string x.chs[m].key]) (t := 9) (fr := (0, 0)) (heap_alloc_new w6 _); have hs7 : (w6.alloc (Obj.cells #[Value.string x.chs[m].key] 9)).heap.size = w6.heap.size + 1 := (by simp); clear hb7; refine wpList_append_lies _ rfl _ _ _ rfl w.heap.size 9 i1 _ 1 16 Try.underlying78 hi1 hy0 hy1 hy3 rfl (by omega) u6 K1.length (K1.map Value.string) rfl HC7.out.keys ⟨w6.heap.size, 0, none⟩ 1 1 [.string x.chs[m].key] rfl rfl HN7.out (by simp [Value.oneCell']) (by omega) (by unfold maxLen; omega) (by omega) (Nat.le_trans HB6.out.size (by simp)) (w6.heap.size + 1) (by simp) ?_; intro g8 cap8 w8 ho8 hg8 hat8 hlt8)
                  | (at_builtin; refine wpList_append_lies _ rfl _ _ _ rfl w.heap.size 3 i0 _ 1 8 Try.underlying77 hi0 hz0 hz1 hz3 rfl (by omega) u5 A1.length (A1.map (Value.int .i64)) rfl HC5.out.at_ ⟨wr.heap.size, 0, none⟩ 1 1 [.int .i64 (N + 1 + r)] rfl rfl HN5.out (by simp [Value.oneCell']) (by omega) (by unfold maxLen; omega) (by omega) (by simp; omega) (wr.heap.size + 1) (by simp) ?_; intro g6 cap6 w6 ho6 hg6 hat6 hlt6; have hat6' : u5.ownBlock = some g6 ∨ g6 = (wr.alloc (Obj.cells #[Value.int .i64 (N + 1 + r)] 3)).heap.size := hat6.imp id (fun e => by rw [e, hs5]); have HC6 := hide (HC5.out.pushA hg6 ho6 hat6'); have HZ6 := hide (HZ5.out.pushA (n := A1.length + 1) (cap := cap6) hg6 hat6'); have HB6 := hide (below_push HB5.out HB5.out.size HC5.out.at_ hg6); have y7 := HZ6.out.cell (j := 7) rfl; rw [ECA.out] at y7; have d6 := (HB6.out.cell (p := ⟨b, off + m * 3, none⟩) hbw).trans dw; clear ho6 hg6 hat6 hat6' hlt6))
                have hat8' : u6.ownBlock = some g8 ∨ g8 = (w6.alloc (Obj.cells #[Value.string x.chs[m].key] 9)).heap.size := hat8.imp id (fun e => by rw [e, hs7])
                have HC8 := hide (HC7.out.pushK hg8 ho8 hat8')
                have HZ8 := hide (HZ7.out.pushK (n := K1.length + 1) (cap := cap8) hg8 hat8')
                have HB8 := hide (below_push HB7.out HB7.out.size HC7.out.keys hg8)
                clear ho8 hg8 hat8 hat8' hlt8
                go_wp2
                go_roundw
                case rel => exact ⟨m + 1, by omega, by go_num, by rw [HA1.out, HK1.out]; exact HC8.out, HZ8.out, HB8.out⟩
                case measure => simp [intOf]; omega
            · have em : m = x.chs.length := by omega
              subst em
              have hml' : ¬ (x.chs.length : Int) < (x.chs.length : Int) := by omega
              rw [List.take_length] at HCj
              have eD : (ofDV dv2).map (·.n) = D ++ [N + 1 + r] := by rw [EDV.out, List.map_append, HDE.out]; rfl
              have eA : A ++ List.replicate x.chs.length (N + 1 + r) = (pairsD (ofDV dv2)).map (·.1) := by
                rw [EDV.out, pairs_fst, HQ.out, HAE.out]; simp [keysC]
              have eK : K ++ keysC x.chs = (pairsD (ofDV dv2)).map (·.2) := by rw [EDV.out, pairs_snd, HQ.out, HKE.out]
              have hlen2 : dv2.length = D.length + 1 := by
                have := congrArg List.length eD; simpa [ofDV] using this
              have HF : Hid (CSt wr w.heap.size w5.heap.size v2 dv2 u5 u6 (.slice (some ⟨g3, 0, none⟩) (D.length + 1) cap3) (pairsD (ofDV dv2)) ((ofDV dv2).map (·.n))) := by
                unfold Hid; rw [eD]; exact HCj.out.done eA eK
              have HR2 : Hid (risesD (ofDV dv2)) := by
                unfold Hid risesD
                rw [EDV.out, List.pairwise_append]
                refine ⟨HR.out, by simp, fun a ha b hb => ?_⟩
                simp only [List.mem_singleton] at hb
                subst hb
                have := (HD.out a ha).1
                show a.n < N + 1 + r
                omega
              have HD2 : Hid (∀ d ∈ ofDV dv2, d.n ≤ N + 1 + r ∧ d.keys.length ≤ 20) := fun d hd => by
                rw [EDV.out] at hd
                rcases List.mem_append.1 hd with hd | hd
                · have := HD.out d hd; exact ⟨by omega, this.2⟩
                · simp only [List.mem_singleton] at hd
                  subst hd
                  exact ⟨by show N + 1 + r ≤ N + 1 + r; omega, by simp [keysC]; omega⟩
              have HL2 := hide hlen2
              clear eD eA eK hlen2
              go_wp2_with fail
              refine (count_any dv2 w.heap.size _ v2 _ HCj.out.hist).mono ?_
              rintro e wz ⟨rfl, rfl⟩
              rw [HL2.out]
              go_wp2
              go_roundw
              case rel => exact ⟨k + 1, N + 1 + r, v2, dv2, by omega, by go_num, rfl, by omega, by omega, HF.out, HR2.out, HD2.out, by rw [HL2.out]; omega, HBj.out⟩
              case measure => simp [intOf]; omega
        · refine (forget_any dv w.heap.size _ v x.a _ HCX.out.hist HR.out HBX.out.size (by omega)).mono ?_
          rintro e w2 ⟨rfl, v2, dv2, hH2, eDV, hb2, hf2⟩
          have HC2 := hide (HCX.out.turn hH2 hf2)
          obtain ⟨hz2, hzH2⟩ := hf2 w0.heap.size (by omega) hzH
          have HZ2 : Hid (Zed w2 w0.heap.size _ _ u5 u6 u7) := ⟨hz2.trans HZ.out.blk, HZ.out.a, HZ.out.k, HZ.out.d⟩
          have HB2 := hide (HBX.out.trans hb2)
          have eDS : ofDV dv2 = (ofDV dv).filter fun d => decide (x.a < d.n) := by
            rw [eDV, ← above_drop HR.out]; simp [ofDV]
          have EDS := hide eDS
          have hB2s := HB2.out.size
          have hlz := HZ2.out.lt
          have hz1w := HZ2.out.cell (j := 1) rfl
          clear eDS eDV hH2 hb2 hf2 hz2 hzH2
          obtain ⟨ao5, cap5, e5, hr5⟩ := readQA (ownQA_iff.2 HC2.out.at_)
          obtain ⟨ao6, cap6, e6, hr6⟩ := readQK (ownQK_iff.2 HC2.out.keys)
          obtain ⟨ao7, cap7, e7, hr7⟩ := readI HC2.out.deeds
          have HH2 := hide HC2.out.hist
          clear HC2 HZ2 HZ
          subst e5 e6 e7
          have HR5 := hide hr5
          have HR6 := hide hr6
          have HR7 := hide hr7
          clear hr5 hr6 hr7
          obtain ⟨i0, hi0, hz0, hz1, hz3⟩ := info_parts int_info
          obtain ⟨i1, hi1, hy0, hy1, hy3⟩ := info_parts text_info
          have hqn' : qs.length ≤ 800 := by omega
          clear hqn
          go_wp2
          go_loopw [12, 14, 15] (fun vx vz j wj => ∃ m : Nat, m ≤ qs.length ∧ j = .int .i64 m ∧ ownQA wj w2.heap.size vx ((qs.take m).filter fun q => decide (x.a < q.1)) ∧ ownQK wj w2.heap.size vz ((qs.take m).filter fun q => decide (x.a < q.1)) ∧ apartV vx vz ∧ Below w2.heap.size w2 wj) (fun _ _ j _ => qs.length - (intOf j).toNat)
          case atStart => exact ⟨0, Nat.zero_le _, rfl, (by simp only [List.take_zero, List.filter_nil]; exact World.ownsRow_nil _ _ _ _), (by simp only [List.take_zero, List.filter_nil]; exact World.ownsRow_nil _ _ _ _), apart_nil _, Below.refl _ _⟩
          case round =>
            obtain ⟨m, hm, rfl, hX, hK, hap, hBj⟩ := hrel
            have HXj := hide hX
            have HKj := hide hK
            have HAj := hide hap
            have HBj := hide hBj
            have hsj := hBj.size
            have z1 := HBj.out.cell (p := ⟨w0.heap.size, 1, none⟩) hlz
            rw [hz1w] at z1
            clear hX hK hap hBj
            by_cases hml : m < qs.length
            · have hml' : (m : Int) < (qs.length : Int) := by omega
              rcases HR5.out with e | ⟨g5, rfl, h5⟩
              · rw [e] at hml; simp at hml
              rcases HR6.out with e | ⟨g6, rfl, h6⟩
              · rw [e] at hml; simp at hml
              have d5w := h5 m hml
              have d6w := h6 m hml
              have d5 := cell_on HBj.out d5w
              have l5 := World.block_lt_of_cell? _ _ d5w
              have l6 := World.block_lt_of_cell? _ _ d6w
              have HFT := hide (filt_take (p := fun q : Int × ByteArray => decide (x.a < q.1)) hml)
              have hFl : ((qs.take m).filter fun q => decide (x.a < q.1)).length ≤ 800 := by
                have h1 := List.length_filter_le (fun q : Int × ByteArray => decide (x.a < q.1)) (qs.take m)
                have h2 := List.length_take_le m qs
                omega
              generalize hF : (qs.take m).filter (fun q => decide (x.a < q.1)) = F at HXj HKj HFT hFl
              clear hF h5 h6
              by_cases hp : x.a < qs[m].1
              · have HF1 : Hid ((qs.take (m + 1)).filter (fun q => decide (x.a < q.1)) = F ++ [qs[m]]) := by
                  unfold Hid; rw [HFT.out]; simp [hp]
                clear HFT
                go_wp2
                go_quiet (fail)
                rename_i nq
                obtain ⟨wq, hwq⟩ : ∃ wq, wr.drewN nq = wq := ⟨_, rfl⟩
                have hbq : Below wr.heap.size wr wq := hwq ▸ below_draws _ _ _
                rw [hwq]
                clear hwq
                have hbq2 := HBj.out.trans (hbq.mono hsj)
                have HXq := hide (own_on HXj.out hbq)
                have HKq := hide (own_on HKj.out hbq)
                have d5q := cell_on hbq2 d5w
                have hsq := hbq2.size
                have HBq := hide hbq2
                have hb4 := below_alloc1 wq (Obj.cells #[Value.int .i64 qs[m].1] 3)
                have HX4 := hide (own_on HXq.out hb4)
                have HK4 := hide (own_on HKq.out hb4)
                have HB4 := hide (HBq.out.trans (hb4.mono hsq))
                have HN4 : Hid (∀ j u, [Value.int .i64 qs[m].1][j]? = some u → (wq.alloc (Obj.cells #[Value.int .i64 qs[m].1] 3)).cell? ((⟨wq.heap.size, 0, none⟩ : Addr).add j) = some u) := World.news_of_block (cs := #[.int .i64 qs[m].1]) (t := 3) (fr := (0, 0)) (heap_alloc_new wq _)
                have hs4 : (wq.alloc (Obj.cells #[Value.int .i64 qs[m].1] 3)).heap.size = wq.heap.size + 1 := by simp
                clear hb4 hbq hbq2 d5 z1
                go_wp2_with (first
                  | (at_builtin; have hb7 := below_alloc1 w6 (Obj.cells #[Value.string qs[m].2] 9); have HX7 := hide (own_on HX6.out hb7); have HK7 := hide (own_on HK6.out hb7); have HB7 := hide (HB6.out.trans (hb7.mono HB6.out.size)); have HN7 : Hid (∀ j u, [Value.string qs[m].2][j]? = some u → (w6.alloc (Obj.cells #[Value.string qs[m].2] 9)).cell? ((⟨w6.heap.size, 0, none⟩ : Addr).add j) = some u) := World.news_of_block (cs := #[.string qs[m].2]) (t := 9) (fr := (0, 0)) (heap_alloc_new w6 _); have hs7 : (w6.alloc (Obj.cells #[Value.string qs[m].2] 9)).heap.size = w6.heap.size + 1 := (by simp); clear hb7; refine wpList_append_lies _ rfl _ _ _ rfl w2.heap.size 9 i1 _ 1 16 Try.underlying78 hi1 hy0 hy1 hy3 rfl (by omega) u14 F.length (F.map fun q => Value.string q.2) rfl HK7.out ⟨w6.heap.size, 0, none⟩ 1 1 [.string qs[m].2] rfl rfl HN7.out (by simp [Value.oneCell']) (by omega) (by unfold maxLen; omega) (by omega) (Nat.le_trans HB6.out.size (by simp)) (w6.heap.size + 1) (by simp) ?_; intro g8 cap8 w8 ho8 hg8 hat8 hlt8)
                  | (at_builtin; refine wpList_append_lies _ rfl _ _ _ rfl w2.heap.size 3 i0 _ 1 8 Try.underlying77 hi0 hz0 hz1 hz3 rfl (by omega) u12 F.length (F.map fun q => Value.int .i64 q.1) rfl HX4.out ⟨wq.heap.size, 0, none⟩ 1 1 [.int .i64 qs[m].1] rfl rfl HN4.out (by simp [Value.oneCell']) (by omega) (by unfold maxLen; omega) (by omega) (by simp; omega) (wq.heap.size + 1) (by simp) ?_; intro gx capx w6 ho6 hg6 hat6 hlt6; have hat6' : u12.ownBlock = some gx ∨ gx = (wq.alloc (Obj.cells #[Value.int .i64 qs[m].1] 3)).heap.size := hat6.imp id (fun e => by rw [e, hs4]); have HX6 : Hid (ownQA w6 w2.heap.size (.slice (some ⟨gx, 0, none⟩) (F.length + 1) capx) (F ++ [qs[m]])) := (by unfold Hid ownQA; simpa using ho6); have HK6 := hide (own_far HK4.out hg6 HAj.out.symm); have HA6 := hide (app_apart (n := F.length + 1) (cap := capx) hat6' HAj.out (fun k hk => (World.ownsRow.lt HK4.out k hk).2)); have HB6 := hide (below_push HB4.out HB4.out.size HX4.out hg6); have d6 := cell_on HB6.out d6w; clear ho6 hg6 hat6 hat6' hlt6))
                have hat8' : u14.ownBlock = some g8 ∨ g8 = (w6.alloc (Obj.cells #[Value.string qs[m].2] 9)).heap.size := hat8.imp id (fun e => by rw [e, hs7])
                have HX8 := hide (own_far HX7.out hg8 HA6.out)
                have HK8 : Hid (ownQK w8 w2.heap.size (.slice (some ⟨g8, 0, none⟩) (F.length + 1) cap8) (F ++ [qs[m]])) := by unfold Hid ownQK; simpa using ho8
                have HA8 := hide (app_apart (n := F.length + 1) (cap := cap8) hat8' HA6.out.symm (fun k hk => (World.ownsRow.lt HX7.out k hk).2)).symm
                have HB8 := hide (below_push HB7.out HB7.out.size HK7.out hg8)
                clear ho8 hg8 hat8 hat8' hlt8
                go_wp2
                go_roundw
                case rel => exact ⟨m + 1, by omega, by go_num, by rw [HF1.out]; exact HX8.out, by rw [HF1.out]; exact HK8.out, HA8.out, HB8.out⟩
                case measure => simp [intOf]; omega
              · have HF1 : Hid ((qs.take (m + 1)).filter (fun q => decide (x.a < q.1)) = F) := by
                  unfold Hid; rw [HFT.out]; simp [hp]
                clear HFT
                go_wp2
                go_quiet (fail)
                go_wp2
                go_roundw
                case rel => exact ⟨m + 1, by omega, by go_num, by rw [HF1.out]; exact own_on HXj.out (below_draws _ _ _), by rw [HF1.out]; exact own_on HKj.out (below_draws _ _ _), HAj.out, HBj.out.trans ((below_draws _ _ _).mono hsj)⟩
                case measure => simp [intOf]; omega
            · have em : m = qs.length := by omega
              subst em
              have hml' : ¬ (qs.length : Int) < (qs.length : Int) := by omega
              rw [List.take_length] at HXj HKj
              obtain ⟨w3, rfl⟩ : ∃ w3, w3 = wr := ⟨wr, rfl⟩
              have hDn : D.length ≤ 40 := by omega
              clear z1
              go_wp2
              go_loopw [13, 16] (fun vy j wj => ∃ m : Nat, m ≤ D.length ∧ j = .int .i64 m ∧ ownI wj w3.heap.size vy ((D.take m).filter fun y => decide (x.a < y)) ∧ Below w3.heap.size w3 wj) (fun _ j _ => D.length - (intOf j).toNat)
              case atStart => exact ⟨0, Nat.zero_le _, rfl, (by simp only [List.take_zero, List.filter_nil]; exact World.ownsRow_nil _ _ _ _), Below.refl _ _⟩
              case round =>
                obtain ⟨m, hm, rfl, hY, hBy⟩ := hrel
                have HYj := hide hY
                have HBy := hide hBy
                have hsy := hBy.size
                have HB23 := hide (below_on HBj.out (Nat.le_refl _) hBy)
                have z1 := HB23.out.cell (p := ⟨w0.heap.size, 1, none⟩) hlz
                rw [hz1w] at z1
                clear hY hBy
                by_cases hml : m < D.length
                · have hml' : (m : Int) < (D.length : Int) := by omega
                  rcases HR7.out with e | ⟨g7, rfl, h7⟩
                  · rw [e] at hml; simp at hml
                  have d7w := h7 m hml
                  have d7 := cell_on HB23.out d7w
                  have HFT := hide (filt_take (p := fun y : Int => decide (x.a < y)) hml)
                  have hFl : ((D.take m).filter fun y => decide (x.a < y)).length ≤ 40 := by
                    have h1 := List.length_filter_le (fun y : Int => decide (x.a < y)) (D.take m)
                    have h2 := List.length_take_le m D
                    omega
                  generalize hF : (D.take m).filter (fun y => decide (x.a < y)) = F at HYj HFT hFl
                  clear hF h7
                  by_cases hp : x.a < D[m]
                  · have HF1 : Hid ((D.take (m + 1)).filter (fun y => decide (x.a < y)) = F ++ [D[m]]) := by
                      unfold Hid; rw [HFT.out]; simp [hp]
                    clear HFT
                    go_wp2
                    go_quiet (fail)
                    rename_i nq
                    obtain ⟨wq, hwq⟩ : ∃ wq, wr.drewN nq = wq := ⟨_, rfl⟩
                    have hbq : Below wr.heap.size wr wq := hwq ▸ below_draws _ _ _
                    rw [hwq]
                    clear hwq
                    have d7q := cell_on hbq d7
                    have HYq := hide (own_on HYj.out hbq)
                    have HBq := hide (HBy.out.trans (hbq.mono hsy))
                    have hsq := HBq.out.size
                    have hb4 := below_alloc1 wq (Obj.cells #[Value.int .i64 D[m]] 3)
                    have HY4 := hide (own_on HYq.out hb4)
                    have HB4 := hide (HBq.out.trans (hb4.mono hsq))
                    have HN4 : Hid (∀ j u, [Value.int .i64 D[m]][j]? = some u → (wq.alloc (Obj.cells #[Value.int .i64 D[m]] 3)).cell? ((⟨wq.heap.size, 0, none⟩ : Addr).add j) = some u) := World.news_of_block (cs := #[.int .i64 D[m]]) (t := 3) (fr := (0, 0)) (heap_alloc_new wq _)
                    clear hb4 hbq d7 z1
                    go_wp2_with (first
                      | (at_builtin; refine wpList_append_lies _ rfl _ _ _ rfl w3.heap.size 3 i0 _ 1 8 Try.underlying77 hi0 hz0 hz1 hz3 rfl (by omega) u13 F.length (F.map (Value.int .i64)) rfl HY4.out ⟨wq.heap.size, 0, none⟩ 1 1 [.int .i64 D[m]] rfl rfl HN4.out (by simp [Value.oneCell']) (by omega) (by unfold maxLen; omega) (by omega) (by simp; omega) (wq.heap.size + 1) (by simp) ?_; intro gx capx w6 ho6 hg6 hat6 hlt6))
                    have HY6 : Hid (ownI w6 w3.heap.size (.slice (some ⟨gx, 0, none⟩) (F.length + 1) capx) (F ++ [D[m]])) := by unfold Hid ownI; simpa using ho6
                    have HB6 := hide (below_push HB4.out HB4.out.size HY4.out hg6)
                    clear ho6 hg6 hat6 hlt6
                    go_wp2
                    go_roundw
                    case rel => exact ⟨m + 1, by omega, by go_num, by rw [HF1.out]; exact HY6.out, HB6.out⟩
                    case measure => simp [intOf]; omega
                  · have HF1 : Hid ((D.take (m + 1)).filter (fun y => decide (x.a < y)) = F) := by
                      unfold Hid; rw [HFT.out]; simp [hp]
                    clear HFT
                    go_wp2
                    go_quiet (fail)
                    go_wp2
                    go_roundw
                    case rel => exact ⟨m + 1, by omega, by go_num, by rw [HF1.out]; exact own_on HYj.out (below_draws _ _ _), HBy.out.trans ((below_draws _ _ _).mono hsy)⟩
                    case measure => simp [intOf]; omega
                · have em : m = D.length := by omega
                  subst em
                  have hml' : ¬ (D.length : Int) < (D.length : Int) := by omega
                  rw [List.take_length] at HYj
                  have eQ : pairsD (ofDV dv2) = qs.filter fun q => decide (x.a < q.1) := by rw [EDS.out, ← pairs_filter, HQ.out]
                  have eDf : (ofDV dv2).map (·.n) = D.filter fun y => decide (x.a < y) := by
                    rw [EDS.out, ← HDE.out, List.filter_map]; rfl
                  have HS : Hid (CSt wr w.heap.size w5.heap.size v2 dv2 u12 u14 u13 (pairsD (ofDV dv2)) ((ofDV dv2).map (·.n))) := by
                    unfold Hid; rw [eQ, eDf]; exact cs_new HH2.out hB2s HBj.out HBy.out HXj.out HKj.out HAj.out HYj.out
                  have hl2 : dv2.length = (D.filter fun y => decide (x.a < y)).length := by
                    rw [← eDf]; simp [ofDV]
                  have HR2 : Hid (risesD (ofDV dv2)) := by
                    unfold Hid; rw [EDS.out]; exact List.Pairwise.filter _ HR.out
                  have HD2 : Hid (∀ d ∈ ofDV dv2, d.n ≤ N ∧ d.keys.length ≤ 20) := fun d hd => by
                    rw [EDS.out] at hd; exact HD.out d (List.mem_filter.1 hd).1
                  have hfl := List.length_filter_le (fun y : Int => decide (x.a < y)) D
                  have HBF := hide (HB2.out.trans (HB23.out.mono hB2s))
                  obtain ⟨aoy, capy, ey, _⟩ := readI HYj.out
                  generalize hG : D.filter (fun y => decide (x.a < y)) = G at hl2 hfl ey
                  have HL2 := hide hl2
                  subst ey
                  clear eQ eDf hl2 hG
                  go_wp2_with fail
                  refine (count_any dv2 w.heap.size _ v2 _ HS.out.hist).mono ?_
                  rintro e wz ⟨rfl, rfl⟩
                  rw [HL2.out]
                  go_wp2
                  go_roundw
                  case rel => exact ⟨k + 1, N, v2, dv2, by omega, by go_num, rfl, by omega, by omega, HS.out, HR2.out, HD2.out, by rw [HL2.out]; omega, HBF.out⟩
                  case measure => simp [intOf]; omega
        · have hz1w := HZ.out.cell (j := 1) rfl
          have hz8w := HZ.out.cell (j := 8) rfl
          generalize hXe : w0.alloc (Obj.cells #[Value.string x.kind, Value.int .i64 x.a, Value.int .i64 x.b, Value.int .i64 x.c, Value.int .u64 x.k, Value.string x.s, Value.string x.t, Value.slice x.ca x.chs.length x.cc, Value.slice x.sa x.sps.length x.sc] 58) = X at HCX HXX HBX HZ hsX hz1w hz8w ⊢
          obtain ⟨ao5, cap5, e5, hr5⟩ := readQA (ownQA_iff.2 HCX.out.at_)
          obtain ⟨ao6, cap6, e6, hr6⟩ := readQK (ownQK_iff.2 HCX.out.keys)
          obtain ⟨ao7, cap7, e7, hr7⟩ := readI HCX.out.deeds
          clear HZ HC hXe
          subst e5 e6 e7
          have HR5 := hide hr5
          have HR6 := hide hr6
          clear hr5 hr6 hr7
          have hqn' : qs.length ≤ 800 := by omega
          have hspn := HXX.out.ns
          have hspl := hide (HXX.out.hs)
          clear hqn
          go_loopw [17, 18] (fun c j wj => ∃ m : Nat, m ≤ qs.length ∧ j = .int .i64 m ∧ c = .bool ((qs.take m).all fun q => x.sps.all (lawHit x.a q)) ∧ Below X.heap.size X wj) (fun _ j _ => qs.length - (intOf j).toNat)
          case atStart => exact ⟨0, Nat.zero_le _, rfl, by simp, Below.refl _ _⟩
          case round =>
            obtain ⟨m, hm, rfl, hc, hBj⟩ := hrel
            have HBj := hide hBj
            obtain ⟨w3, rfl⟩ : ∃ w3, w3 = wr := ⟨wr, rfl⟩
            clear hBj
            by_cases hml : m < qs.length
            · have hml' : (m : Int) < (qs.length : Int) := by omega
              rcases HR5.out with e | ⟨g5, rfl, h5⟩
              · rw [e] at hml; simp at hml
              rcases HR6.out with e | ⟨g6, rfl, h6⟩
              · rw [e] at hml; simp at hml
              have d5w := h5 m hml
              have d6w := h6 m hml
              have HAT := hide (all_take (p := fun q : Int × ByteArray => x.sps.all (lawHit x.a q)) hml)
              generalize hC0 : (qs.take m).all (fun q => x.sps.all (lawHit x.a q)) = C0 at hc HAT
              subst hc
              clear hC0 h5 h6
              go_wp2
              go_loopw [17, 19] (fun c j wj => ∃ n : Nat, n ≤ x.sps.length ∧ j = .int .i64 n ∧ c = .bool (C0 && (x.sps.take n).all (lawHit x.a qs[m])) ∧ Below X.heap.size X wj) (fun _ j _ => x.sps.length - (intOf j).toNat)
              case atStart => exact ⟨0, Nat.zero_le _, rfl, by simp, HBj.out⟩
              case round =>
                obtain ⟨n, hnn, rfl, hc, hBi⟩ := hrel
                have HBi := hide hBi
                have z1 := cell_on hBi hz1w
                have z8 := cell_on hBi hz8w
                have d5 := cell_on hBi d5w
                have d6 := cell_on hBi d6w
                have hsi := hBi.size
                clear hBi
                by_cases hnl : n < x.sps.length
                · have hnl' : (n : Int) < (x.sps.length : Int) := by omega
                  rcases heldSp_on HBi.out hspl.out with e | ⟨sb, soff, esa, hsp⟩
                  · rw [e] at hnl; simp at hnl
                  · obtain ⟨s0, s1⟩ := hsp n hnl
                    rw [esa] at z8
                    have HAI := hide (all_take (p := lawHit x.a qs[m]) hnl)
                    generalize hC1 : (C0 && (x.sps.take n).all (lawHit x.a qs[m])) = C1 at hc
                    have HC1 : Hid ((C0 && (x.sps.take (n + 1)).all (lawHit x.a qs[m])) = (C1 && lawHit x.a qs[m] x.sps[n])) := by
                      unfold Hid; rw [HAI.out, ← Bool.and_assoc, hC1]
                    subst hc
                    obtain ⟨is, hise⟩ : ∃ is, hasS x.sps[n].1 x.sps[n].2 qs[m].2 = is := ⟨_, rfl⟩
                    have HIS := hide hise
                    have HLH : Hid (lawHit x.a qs[m] x.sps[n] = !(is && decide (x.a < qs[m].1))) := by
                      unfold Hid lawHit; rw [hise]
                    clear hC1 HAI hise hsp esa
                    go_wp2
                    have nS := OnW.some wr
                    have n0 : ∀ n' : OnW wr, n'.w.cell? ⟨w0.heap.size, 8, none⟩ = _ := fun n' => n'.cell z8
                    have n1 : ∀ n' : OnW wr, n'.w.cell? ⟨sb, soff + n * 2, none⟩ = _ := fun n' => n'.cell s0
                    have n2 : ∀ n' : OnW wr, n'.w.cell? ⟨sb, soff + n * 2 + 1, none⟩ = _ := fun n' => n'.cell s1
                    have n3 : ∀ n' : OnW wr, n'.w.cell? ⟨g6, m, none⟩ = _ := fun n' => n'.cell d6
                    refine wp_region_on (by kernel_rfl) (by kernel_rfl) ?_
                    repeat (go_big_quiet_step ((first
                      | (go_at_call 41; exact on_call (call_val (rhas_any _ _ _ _) (congrArg Value.bool HIS.out))))))
                    refine wpQuiet_nil ?_
                    intro w7 hw7
                    replace hw7 := on_end hw7
                    have y1 := cell_on hw7 z1
                    have y5 := cell_on hw7 d5
                    have HB7 := hide (HBi.out.trans (hw7.mono hsi))
                    have hs7 := HB7.out.size
                    clear n0 n1 n2 n3 nS z1 z8 d5 d6 s0 s1 hw7
                    cases C1
                    · go_wp2
                      go_quiet (fail)
                      go_wp2
                      go_roundw
                      case rel => exact ⟨n + 1, by omega, by go_num, by rw [HC1.out]; rfl, HB7.out.trans ((below_draws _ _ _).mono hs7)⟩
                      case measure => simp [intOf]; omega
                    · cases is
                      · go_wp2
                        go_quiet (fail)
                        go_wp2
                        go_roundw
                        case rel => exact ⟨n + 1, by omega, by go_num, by rw [HC1.out, HLH.out]; rfl, HB7.out.trans ((below_draws _ _ _).mono hs7)⟩
                        case measure => simp [intOf]; omega
                      · go_wp2
                        go_quiet (fail)
                        go_wp2
                        go_roundw
                        case rel => exact ⟨n + 1, by omega, by go_num, by rw [HC1.out, HLH.out]; simp, HB7.out.trans ((below_draws _ _ _).mono hs7)⟩
                        case measure => simp [intOf]; omega
                · have en : n = x.sps.length := by omega
                  subst en
                  have hnl' : ¬ (x.sps.length : Int) < (x.sps.length : Int) := by omega
                  rw [List.take_length] at hc
                  subst hc
                  go_wp2
                  go_roundw
                  case rel => exact ⟨m + 1, by omega, by go_num, by rw [HAT.out], HBi.out⟩
                  case measure => simp [intOf]; omega
            · have em : m = qs.length := by omega
              subst em
              have hml' : ¬ (qs.length : Int) < (qs.length : Int) := by omega
              rw [List.take_length] at hc
              have hlaw : clearD (ofDV dv) x.sps x.a = qs.all (fun q => x.sps.all (lawHit x.a q)) := by
                rw [← law_clear HR.out, HQ.out]; rfl
              generalize hCl : qs.all (fun q => x.sps.all (lawHit x.a q)) = Cl at hc hlaw
              subst hc
              have HLAW := hide hlaw
              have HSj := hide (HCX.out.on HBj.out)
              have z1 := cell_on HBj.out hz1w
              have z8 := cell_on HBj.out hz8w
              have HKS : Hid (∀ p ∈ dv, p.1.keys.length ≤ 1000000) := fun p hp => by
                have := (HD.out p.1 (List.mem_map.2 ⟨p, hp, rfl⟩)).2
                omega
              clear hlaw hCl
              go_wp2_with fail
              refine (clear_any dv w.heap.size _ v x.a x.sps _ _ _ HSj.out.hist HR.out (by omega) HKS.out (heldSp_on HBj.out hspl.out) hspn).mono ?_
              rintro e w8 ⟨rfl, hb8⟩
              rw [HLAW.out]
              have HS8 := hide (HSj.out.on hb8)
              have HB8 := hide (HBX.out.trans ((below_on HBj.out (Nat.le_refl _) hb8).mono HBX.out.size))
              have hne : (Cl != Cl) = false := by simp
              clear hb8
              go_wp2_with fail
              refine (count_any dv w.heap.size _ v _ HS8.out.hist).mono ?_
              rintro e wz ⟨rfl, rfl⟩
              rw [HDLE.out]
              go_wp2
              go_roundw
              case rel => exact ⟨k + 1, N, v, dv, by omega, by go_num, rfl, by omega, by omega, by rw [HQ.out, HDE.out]; exact HS8.out, HR.out, HD.out, by omega, HB8.out⟩
              case measure => simp [intOf]; omega
    · have hlt' : ¬ (k : Int) < (acts.length : Int) := by omega
      go_wp2
      go_ret
      exact ⟨rfl, HB.out⟩
end Go.Proofs.Ytdepcjnbiceciab
