/-
  What Versions.Vacuum makes of versions that lie in memory.
-/
import Derived.Test.YtpbhcjkllfonhaaVerVac1
import Derived.Test.YtpbhcjkllfonhaaVerNew
import Derived.Deep.RegionHeld3
namespace Go.Proofs.Ytpbhcjkllfonhaa
open Go.RowKit Go.Joins Go.Shelf
attribute [local go_sem ↓] Go.wp_at_zero Go.wp_at_succ

theorem own_slice {w : World} {B : Nat} {e : TypeId} {size : Nat} {v : Value} {n : Nat} {xs : List Value} (h : w.ownsRow B e size v n xs) : ∃ ao cap, v = .slice ao n cap := by
  rcases own_form h with ⟨hv, h0⟩ | ⟨g, cap, hv, _⟩
  · exact ⟨none, 0, by rw [h0]; exact hv⟩
  · exact ⟨_, cap, hv⟩
/-- while keys are gone over -/
structure VacAt (w wr : World) (B vb mb : Nat) (now n : Int) (R : ByteArray → List Ver) (n0 : Nat) (g0 : ByteArray → Value) (kv : Value) (ss : List (List UInt8)) (k : Nat) : Prop where
  vs : ∃ n' D' g', n' ≤ n0 + k ∧ VS wr B vb mb now n' D' g' (vacR R n ((ss.take k).map baL)) ∧ (∀ j, j < w.heap.size → ¬ inVS vb mb g0 j → wr.heap[j]? = w.heap[j]? ∧ ¬ inVS vb mb g' j) ∧ (∀ j, kv.ownBlock = some j → ¬ inVS vb mb g' j)
  bel : Below B w wr
  keys : wr.ownsRow (w.heap.size + 1) 9 1 kv ss.length (ss.map encStr)

def VacPost (w w' : World) (B vb mb : Nat) (now n : Int) (R : ByteArray → List Ver) (n0 : Nat) (g : ByteArray → Value) : Prop := ∃ K n' D' g', keysV R K ∧ (n' ≤ n0 + n0 ∧ n' ≤ n0 + K.length) ∧ VS w' B vb mb now n' D' g' (vacR R n K) ∧ Below B w w' ∧ (∀ j, j < w.heap.size → ¬ inVS vb mb g j → w'.heap[j]? = w.heap[j]? ∧ ¬ inVS vb mb g' j)
theorem taken_out {R : ByteArray → List Ver} {ss : List (List UInt8)} {k : Nat} (hK : keysV R (ss.map baL)) (hk : k < ss.length) : baL ss[k] ∉ (ss.take k).map baL := fun hm => by
  obtain ⟨x, hx, e⟩ := List.mem_map.1 hm
  obtain ⟨i, hi, rfl⟩ := List.getElem_of_mem hx
  have hik : i < k := by have := List.length_take_le k ss; have : i < (ss.take k).length := hi; rw [List.length_take] at this; omega
  have hnd := List.pairwise_iff_getElem.1 hK.1 i k (by simp; omega) (by simpa using hk) hik
  simp only [List.getElem_map, List.getElem_take] at hnd e
  exact hnd e
theorem vac_next {w wr W : World} {B vb mb n0 n' k : Nat} {now n : Int} {R : ByteArray → List Ver} {g0 g' : ByteArray → Value} {D' : DataW Value} {kv v' : Value} {ss : List (List UInt8)}
    (hvs : VS wr B vb mb now n' D' g' (vacR R n ((ss.take k).map baL))) (hn' : n' ≤ n0 + k) (hfar : ∀ j, j < w.heap.size → ¬ inVS vb mb g0 j → wr.heap[j]? = w.heap[j]? ∧ ¬ inVS vb mb g' j) (hkv : ∀ j, kv.ownBlock = some j → ¬ inVS vb mb g' j) (hbel : Below B w wr) (hrow : wr.ownsRow (w.heap.size + 1) 9 1 kv ss.length (ss.map encStr))
    (hk : k < ss.length) (hK : keysV R (ss.map baL)) (hB : B ≤ w.heap.size) (hn0 : n0 + k ≤ 1000000) (hs : SinceAt wr W (g' (baL ss[k])) (R (baL ss[k])) n v') :
    ((sinceV (R (baL ss[k])) n ≠ [] → ∃ w4, (Instr.mapUpdate 60 (.map (some mb)) (.string (baL ss[k])) v').run Try.prog W = .ok () w4 ∧ VacAt w w4 B vb mb now n R n0 g0 kv ss (k + 1)) ∧
     (sinceV (R (baL ss[k])) n = [] → ∃ w4, (Builtin.delete_ #[60, 9] 0 #[.map (some mb), .string (baL ss[k])]).run Try.prog W = .ok (.tuple #[]) w4 ∧ VacAt w w4 B vb mb now n R n0 g0 kv ss (k + 1))) ∧ ∃ ao cap, v' = .slice ao (sinceV (R (baL ss[k])) n).length cap := by
  obtain ⟨hbW, hcase⟩ := hs
  have hmem : baL ss[k] ∈ ss.map baL := List.mem_map.2 ⟨_, List.getElem_mem hk, rfl⟩
  obtain ⟨hks, hne⟩ := (hK.2 _).1 hmem
  have hnotin := taken_out hK hk
  have eR : vacR R n ((ss.take k).map baL) (baL ss[k]) = R (baL ss[k]) := vacR_out hnotin
  have eT : (ss.take (k + 1)).map baL = (ss.take k).map baL ++ [baL ss[k]] := by rw [List.take_succ_eq_append_getElem hk, List.map_append]; rfl
  have hW := hvs.on hbW
  have hBW : B ≤ W.heap.size := Nat.le_trans (Nat.le_trans hB hbel.size) hbW.size
  have pack : ∀ {w4 : World} {n2 : Nat} {D2 : DataW Value} {g2 : ByteArray → Value}, n2 ≤ n' + 1 → VS w4 B vb mb now n2 D2 g2 (vacR R n ((ss.take (k + 1)).map baL)) → Below B W w4 → (∀ j, j < wr.heap.size → ¬ inVS vb mb g' j → w4.heap[j]? = W.heap[j]? ∧ ¬ inVS vb mb g2 j) → VacAt w w4 B vb mb now n R n0 g0 kv ss (k + 1) := fun {w4 n2 D2 g2} h1 h2 h3 h4 =>
    { vs := ⟨n2, D2, g2, by omega, h2, fun j hj hn => by
        obtain ⟨a1, a2⟩ := hfar j hj hn
        have hj' := Nat.lt_of_lt_of_le hj hbel.size
        obtain ⟨b1, b2⟩ := h4 j hj' a2
        exact ⟨b1.trans ((hbW.block j hj').trans a1), b2⟩, fun j e => (h4 j (World.ownsRow.lt hrow j e).2 (hkv j e)).2⟩
      bel := (hbel.trans (hbW.mono (Nat.le_trans hB hbel.size))).trans h3
      keys := own_block hrow fun j e => by
        have hl := (World.ownsRow.lt hrow j e).2
        exact (h4 j hl (hkv j e)).1.trans (hbW.block j hl) }
  refine ⟨⟨fun hsn => ?_, fun hsn => ?_⟩, ?_⟩
  · obtain ⟨w4, hrun, hm, hg⟩ := hW.own.update str_keyed Try.underlying60 (by unfold maxLen; omega) (key_mk hks) (show RV v' = _ from rfl)
    refine ⟨w4, hrun, ?_⟩
    rcases hcase with ⟨e, es⟩ | ho
    · rw [e] at hm
      obtain ⟨r1, r2, r3⟩ := hW.same hBW (by rw [eR]; exact hne) hm hg
      have e3 : vacR R n ((ss.take (k + 1)).map baL) = vacR R n ((ss.take k).map baL) := by
        rw [eT, vacR_snoc]
        funext x
        by_cases ex : x = baL ss[k]
        · rw [if_pos ex, es, ex, eR]
        · rw [if_neg ex]
      exact pack (Nat.le_refl _) (by rw [e3]; exact r1) r2 (fun j hj hn => r3 j (Nat.lt_of_lt_of_le hj hbW.size) hn)
    · have hpos : 0 < (sinceV (R (baL ss[k])) n).length := List.length_pos_iff.2 hsn
      rcases own_form ho with ⟨_, h0⟩ | ⟨gk, ck, hv, hlo, _⟩
      · omega
      have hgk : v'.ownBlock = some gk := by rw [hv]; rfl
      have hfresh : ¬ inVS vb mb g' gk := fun e => by have := hvs.lt e; omega
      obtain ⟨r1, r2, r3⟩ := hW.set hBW (ownsRow_base_a ho (Nat.le_trans hB hbel.size)) hgk hfresh hsn hm hg
      have e3 : vacR R n ((ss.take (k + 1)).map baL) = putG (vacR R n ((ss.take k).map baL)) (baL ss[k]) (sinceV (R (baL ss[k])) n) := by rw [eT, vacR_snoc]; rfl
      exact pack (Nat.le_refl _) (by rw [e3]; exact r1) r2 (fun j hj hn => r3 j (Nat.lt_of_lt_of_le hj hbW.size) (by omega) hn)
  · obtain ⟨w4, hrun, hm, hg⟩ := hW.own.drop str_keyed Try.underlying60 (key_mk hks) 0
    refine ⟨w4, hrun, ?_⟩
    obtain ⟨r1, r2, r3⟩ := hW.drop hBW hm hg.grown
    have e3 : vacR R n ((ss.take (k + 1)).map baL) = putG (vacR R n ((ss.take k).map baL)) (baL ss[k]) [] := by rw [eT, vacR_snoc, hsn]; rfl
    exact pack (Nat.le_succ _) (by rw [e3]; exact r1) r2 (fun j hj hn => r3 j (Nat.lt_of_lt_of_le hj hbW.size) hn)
  · rcases hcase with ⟨e, es⟩ | ho
    · obtain ⟨ao, cap, e', _⟩ := ownV_in (hvs.rows (baL ss[k]))
      rw [eR] at e'
      exact ⟨ao, cap, by rw [e, e', es]⟩
    · exact own_slice ho

set_option maxRecDepth 4000 in
set_option maxHeartbeats 2000000 in
theorem vacuum_any {B vb mb n0 : Nat} {now : Int} {D : DataW Value} {g : ByteArray → Value} {R : ByteArray → List Ver} (n : Int) (w : World) (h : VS w B vb mb now n0 D g R) (hB : B ≤ w.heap.size) (hn : n0 ≤ 400000) (hR : ∀ key, (R key).length ≤ 1000000) :
    Calls Try.prog 12 #[.pointer (some ⟨vb, 0, none⟩), .int .i64 n] w fun e w' => e = .returned (.tuple #[]) ∧ VacPost w w' B vb mb now n R n0 g := by
  have HV := hide h
  have HRR := hide hR
  have c1 := h.mp
  have hsz := h.own.size_le
  have hown := h.own
  have HOW := hide hown
  clear h hR hown
  go_enter Try.func12, Try.ntmps12
  go_wp2_with (first
    | (go_at_call 26; refine (keys_call _ _).mono ?_; rintro e w1 ⟨rfl, rfl⟩)
    | (go_at_call 25; refine (collect_call mb n0 D w HOW.out (by omega)).mono ?_; rintro e w2 ⟨kv, ss, rfl, hp, hrow, hnil, hb2⟩; obtain ⟨ka, kc, rfl⟩ := own_slice hrow; have HP := hide hp; have HROW := hide hrow; have HB2 := hide hb2; clear hp hrow hb2 hnil))
  have HK := hide (HV.out.keys HP.out)
  have hbw : Below w.heap.size w w2 := below_on (below_alloc1 _ _) (Nat.le_refl _) HB2.out
  have es1 : (w.alloc (Obj.cells #[Value.map (some mb)] 60)).heap.size = w.heap.size + 1 := by simp
  have hsl : ss.length ≤ n0 := by
    have := HP.out.length_eq
    have h2 : (strKeys D).length = Maps.size D := by
      obtain ⟨es, hD, _⟩ := HV.out.own.entries str_keyed
      rw [hD]; simp [strKeys, Maps.size]
    omega
  have HA : Hid (VacAt w w2 B vb mb now n R n0 g (.slice ka ss.length kc) ss 0) :=
    { vs := ⟨n0, D, g, by omega, by rw [List.take_zero, List.map_nil, vacR_nil]; exact HV.out.on hbw, fun j hj hn => ⟨hbw.block j hj, hn⟩, fun j e hin => by have a1 := HV.out.lt hin; have a2 := (World.ownsRow.lt HROW.out j e).1; rw [es1] at a2; omega⟩
      bel := hbw.mono hB
      keys := by have := HROW.out; rwa [es1] at this }
  clear hbw es1 c1 HB2 HROW HP
  go_loopw [14] (fun i wr => ∃ k : Nat, k ≤ ss.length ∧ i = .int .i64 k ∧ VacAt w wr B vb mb now n R n0 g (.slice ka ss.length kc) ss k) (fun i _ => ss.length - (intOf i).toNat)
  case atStart => exact ⟨0, Nat.zero_le _, rfl, HA.out⟩
  case round =>
    obtain ⟨k, hk, rfl, hA⟩ := hrel
    have HAK := hide hA
    clear hA HA
    by_cases hlt : k < ss.length
    · have hlt' : (k : Int) < (ss.length : Int) := by omega
      obtain ⟨n', D', g', hn', hvs, hfar, hkv⟩ := HAK.out.vs
      have hks := ((HK.out.2 (baL ss[k])).1 (List.mem_map.2 ⟨_, List.getElem_mem hlt, rfl⟩)).1
      have hl := hvs.looked hks
      have cm := hvs.mp
      rcases own_form HAK.out.keys with ⟨_, h0⟩ | ⟨ka', kc', e, _⟩
      · omega
      cases e
      have ck : wr.cell? ⟨ka', k, none⟩ = some (.string (baL ss[k])) := by
        have := HAK.out.keys.cellAt k (by omega)
        rw [this, List.getElem?_map, List.getElem?_eq_getElem hlt]
        rfl
      have HN := hide (fun W v' hs => vac_next (W := W) (v' := v') hvs hn' hfar hkv HAK.out.bel HAK.out.keys hlt HK.out hB (by omega) hs)
      have eR : vacR R n ((ss.take k).map baL) (baL ss[k]) = R (baL ss[k]) := vacR_out (taken_out HK.out hlt)
      have hrows := hvs.rows (baL ss[k])
      rw [eR] at hrows
      have hRl := HRR.out (baL ss[k])
      have HVS := hide hvs
      clear hvs hfar hkv
      obtain ⟨ao, cap, eg, _⟩ := ownV_in hrows
      have HRW := hide hrows
      clear hrows
      rw [eg] at hl HN HRW
      generalize baL ss[k] = key at *
      generalize R key = vs at *
      cases hsn : sinceV vs n with
      | nil =>
        have HSN := hide hsn
        clear hsn
        go_wp2_with (first
          | (go_at_call 27; refine (since_any ao cap vs n _ hRl HRW.out).mono ?_; rintro e w3 ⟨v', rfl, hsa⟩; obtain ⟨⟨_, hdel⟩, ao', cap', ev⟩ := HN.out w3 v' hsa; rw [HSN.out] at ev; subst ev; obtain ⟨w4, hrun4, hva⟩ := hdel HSN.out; have HVA := hide hva; replace cm := cell_on hsa.1 cm; clear hva hdel hsa))
        exact ⟨⟨k + 1, by omega, by go_num, HVA.out⟩, by simp [intOf]; omega⟩
      | cons x xs =>
        have HSN := hide hsn
        clear hsn
        go_wp2_with (first
          | (go_at_call 27; refine (since_any ao cap vs n _ hRl HRW.out).mono ?_; rintro e w3 ⟨v', rfl, hsa⟩; obtain ⟨⟨hset, _⟩, ao', cap', ev⟩ := HN.out w3 v' hsa; rw [HSN.out, List.length_cons] at ev; subst ev; obtain ⟨w4, hrun4, hva⟩ := hset (by rw [HSN.out]; simp); have HVA := hide hva; replace cm := cell_on hsa.1 cm; clear hva hset hsa))
        exact ⟨⟨k + 1, by omega, by go_num, HVA.out⟩, by simp [intOf]; omega⟩
    · have ek : k = ss.length := by omega
      subst ek
      have hlt' : ¬ (ss.length : Int) < (ss.length : Int) := by omega
      obtain ⟨n', D', g', hn', hvs, hfar, hkv⟩ := HAK.out.vs
      rw [List.take_length] at hvs
      have HV2 := hide hvs
      have HF2 := hide hfar
      clear hvs hfar hkv
      go_wp2
      go_end0
      exact ⟨rfl, _, n', D', g', HK.out, ⟨by omega, by rw [List.length_map]; omega⟩, HV2.out, HAK.out.bel, HF2.out⟩
end Go.Proofs.Ytpbhcjkllfonhaa
