/-
  Keys of versions that lie in memory; versions since a deed; versions of which some are kept no more: what Versions.Vacuum is made of.
-/
import Derived.Test.YtpbhcjkllfonhaaVerMem
import Derived.Test.YtpbhcjkllfonhaaRefAppL
import Derived.Test.YtpbhcjkllfonhaaShelfKeys
namespace Go.Proofs.Ytpbhcjkllfonhaa
open Go.RowKit Go.Joins Go.Shelf

theorem keys_call (m : Option Nat) (w : World) : Calls Try.prog 26 #[.map m] w fun e w' => e = .returned (.func (.func 37) #[] #[.pointer (some ⟨w.heap.size, 0, none⟩)]) ∧ w' = w.alloc (.cells #[.map m] 60) :=
  (callsIn_wide (n := 5)).1 (AnyZ.keys_in Try.keysV Fence.wide 5 trivial rfl m w)
set_option maxHeartbeats 1000000 in
theorem collect_call (b nn : Nat) (D0 : DataW Value) (w : World) (hown : w.ownsMap Try.prog 9 RV b nn D0) (hsz : Maps.size D0 ≤ 1000000) :
    Calls Try.prog 25 #[.func (.func 37) #[] #[.pointer (some ⟨w.heap.size, 0, none⟩)]] (w.alloc (.cells #[.map (some b)] 60)) fun e w' => ∃ (v : Value) (ss : List (List UInt8)), e = .returned v ∧ ss.Perm (strKeys D0) ∧
      w'.ownsRow (w.alloc (.cells #[.map (some b)] 60)).heap.size 9 1 v ss.length (ss.map encStr) ∧ (v = .slice none 0 0 ↔ ss = []) ∧ Below (w.alloc (.cells #[.map (some b)] 60)).heap.size (w.alloc (.cells #[.map (some b)] 60)) w' := by
  have hbl := hown.lt
  have hseq : SeqGives Fence.wide 3 Try.prog 37 #[.pointer (some ⟨w.heap.size, 0, none⟩)] encStr (fun ss => ss.Perm (strKeys D0)) (Maps.size D0) (w.alloc (.cells #[.map (some b)] 60)) :=
    AnyZ.keys_gives (ρ := Try.keysV_ren) { Try.keysV with } Fence.wide _ trivial rfl (by omega) w.heap.size b nn D0 _ (by simp) (by simp) (by
      obtain ⟨es, clock, hb, Ft, hs, hD⟩ := hown
      exact ⟨es, clock, (Below.heap_alloc _ _ b hbl).trans hb, Ft, hs, hD⟩)
  exact (callsIn_wide (n := 5)).1 (AnyZ.collect_in Try.collectS Fence.wide 5 trivial trivial rfl (by omega) 37 #[.pointer (some ⟨w.heap.size, 0, none⟩)] trivial (enters_of Try.func37 (by kernel_rfl) rfl) _ _ (by unfold maxLen; omega) (by omega) _ hseq)
/-- the keys that have come, as texts -/
def baL (l : List UInt8) : ByteArray := ⟨l.toArray⟩
theorem baL_list (k : ByteArray) : baL k.data.toList = k := rfl
theorem baL_inj {a b : List UInt8} (h : baL a = baL b) : a = b := by
  have := congrArg (fun k : ByteArray => k.data.toList) h
  simpa [baL] using this
theorem VS.keys {w : World} {B vb mb n : Nat} {now : Int} {D : DataW Value} {g : ByteArray → Value} {R : ByteArray → List Ver} (h : VS w B vb mb now n D g R) {ss : List (List UInt8)} (hp : ss.Perm (strKeys D)) : keysV R (ss.map baL) := by
  obtain ⟨es, hD, hpw, _⟩ := h.own.entries str_keyed
  obtain ⟨es', hD', hko⟩ := h.own.keysOf
  obtain rfl : es = es' := by rw [hD] at hD'; simpa using hD'
  have hks : ∀ p ∈ es, ∃ x, p.1 = .string x ∧ x.length ≤ maxLen := fun p hp => by
    obtain ⟨v, hv⟩ := hko p hp
    obtain ⟨x, _, hx, hl⟩ := Maps.keyOf_str Try.underlying9 hv
    exact ⟨x, hx, hl⟩
  have hst : strKeys D = es.map fun p => strOf p.1 := by rw [hD]; rfl
  have hnd : (strKeys D).Nodup := by
    rw [hst]
    refine List.pairwise_map.2 (hpw.imp_of_mem fun {p q} hp' hq' hne e => hne ?_)
    obtain ⟨a, ha, _⟩ := hks p hp'
    obtain ⟨b, hb, _⟩ := hks q hq'
    rw [ha, hb] at e ⊢
    exact congrArg _ e
  have hm : ∀ x, x ∈ strKeys D ↔ Maps.has D (.string x) = true ∧ x.length ≤ maxLen := fun x => by
    rw [hst, hD, Maps.has_eq, List.any_eq_true, List.mem_map]
    constructor
    · rintro ⟨p, hp', rfl⟩
      obtain ⟨a, ha, hl⟩ := hks p hp'
      exact ⟨⟨p, hp', by rw [ha]; simp [Lit.sameKey, strOf]⟩, by rw [ha]; exact hl⟩
    · rintro ⟨⟨p, hp', hs⟩, _⟩
      obtain ⟨a, ha, _⟩ := hks p hp'
      rw [ha] at hs
      exact ⟨p, hp', by rw [ha]; simpa [Lit.sameKey, strOf] using hs⟩
  refine ⟨?_, fun k => ?_⟩
  · exact List.pairwise_map.2 ((hp.nodup_iff.2 hnd).imp fun hne e => hne (baL_inj e))
  · rw [List.mem_map]
    constructor
    · rintro ⟨x, hx, rfl⟩
      obtain ⟨h1, h2⟩ := (hm x).1 (hp.mem_iff.1 hx)
      have hsz : (baL x).size ≤ maxLen := by show x.toArray.size ≤ maxLen; simpa using h2
      exact ⟨hsz, (h.has _ hsz).1 (by unfold kL baL; simpa using h1)⟩
    · rintro ⟨h1, h2⟩
      refine ⟨k.data.toList, hp.mem_iff.2 ((hm _).2 ⟨(h.has k h1).2 h2, ?_⟩), baL_list k⟩
      rw [Array.length_toList]; exact h1
/-- the map turned: of each key what was, or nothing -/
theorem VS.less {W w4 : World} {B vb mb n n' : Nat} {now : Int} {D D' : DataW Value} {g g' : ByteArray → Value} {R R' : ByteArray → List Ver} (h : VS W B vb mb now n D g R) (hB : B ≤ W.heap.size)
    (hg4 : W.grownBy w4 (some mb)) (hm : w4.ownsMap Try.prog 9 RV mb n' D') (hl : ∀ k, k.size ≤ maxLen → D'.atKey (kL k) (.held (.slice none 0 0)) = .held (g' k)) (hh : ∀ k, k.size ≤ maxLen → (Maps.has D' (kL k) = true ↔ R' k ≠ []))
    (hc : ∀ k, (g' k = g k ∧ R' k = R k) ∨ (g' k = .slice none 0 0 ∧ R' k = [])) :
    VS w4 B vb mb now n' D' g' R' ∧ Below B W w4 ∧ (∀ j, j < W.heap.size → ¬ inVS vb mb g j → w4.heap[j]? = W.heap[j]? ∧ ¬ inVS vb mb g' j) := by
  have b4 : ∀ j, j < W.heap.size → j ≠ mb → w4.heap[j]? = W.heap[j]? := fun j h1 h2 => hg4.block j h1 (fun e => h2 (by cases e; rfl))
  have bv : w4.heap[vb]? = W.heap[vb]? := b4 vb (h.lt (.inl rfl)) h.ne
  have hob : ∀ k j, (g' k).ownBlock = some j → (g k).ownBlock = some j := fun k j e => by
    rcases hc k with ⟨e1, _⟩ | ⟨e1, _⟩
    · rw [e1] at e; exact e
    · rw [e1] at e; simp [Value.ownBlock] at e
  refine ⟨{ num := (World.cell?_of_block (w := W) bv).trans h.num, soft := (World.frozen?_of_block (w := W) bv).trans h.soft, mp := (World.cell?_of_block (w := W) bv).trans h.mp, own := hm, look := hl, has := hh, rows := fun k => ?_, lov := h.lov, lom := h.lom, ne := h.ne, offv := fun k e => h.offv k (hob k _ e), offm := fun k e => h.offm k (hob k _ e), apart := fun a b hab j e e' => h.apart a b hab j (hob a j e) (hob b j e') }, (Below.refl B W).grown hg4 hB (fun k e => by cases e; exact h.lom), fun j h1 h2 => ⟨b4 j h1 (fun e => h2 (.inr (.inl e))), ?_⟩⟩
  · rcases hc k with ⟨e1, e2⟩ | ⟨e1, e2⟩
    · rw [e1, e2]
      exact own_block (h.rows k) fun j hj => b4 j (World.ownsRow.lt (h.rows k) j hj).2 (fun e => h.offm k (by rw [hj, e]))
    · rw [e1, e2]
      exact World.ownsRow_nil _ _ _ _
  · rintro (e | e | ⟨k, e⟩)
    · exact h2 (.inl e)
    · exact h2 (.inr (.inl e))
    · exact h2 (.inr (.inr ⟨k, hob k j e⟩))
/-- a row told as it was -/
theorem VS.same {W w4 : World} {B vb mb n : Nat} {now : Int} {D : DataW Value} {g : ByteArray → Value} {R : ByteArray → List Ver} {key : ByteArray} (h : VS W B vb mb now n D g R) (hB : B ≤ W.heap.size) (hne : R key ≠ [])
    (hm : w4.ownsMap Try.prog 9 RV mb (n + 1) (D.put (kL key) (.held (g key)))) (hg4 : W.grownBy w4 (some mb)) :
    VS w4 B vb mb now (n + 1) (D.put (kL key) (.held (g key))) g R ∧ Below B W w4 ∧ (∀ j, j < W.heap.size → ¬ inVS vb mb g j → w4.heap[j]? = W.heap[j]? ∧ ¬ inVS vb mb g j) := by
  refine h.less hB hg4 hm (fun k hk => ?_) (fun k hk => ?_) (fun k => .inl ⟨rfl, rfl⟩)
  · by_cases e : k = key
    · subst e; rw [Maps.atKey_put_same h.own.isMap (key_lit k)]
    · rw [Maps.atKey_put_other (kL_ne e)]; exact h.look k hk
  · by_cases e : k = key
    · subst e; rw [Maps.has_put_same h.own.isMap (key_lit k)]; simp [hne]
    · rw [Maps.has_put_other (kL_ne e)]; exact h.has k hk
/-- a row kept no more -/
theorem VS.drop {W w4 : World} {B vb mb n : Nat} {now : Int} {D : DataW Value} {g : ByteArray → Value} {R : ByteArray → List Ver} {key : ByteArray} (h : VS W B vb mb now n D g R) (hB : B ≤ W.heap.size)
    (hm : w4.ownsMap Try.prog 9 RV mb n (D.del (kL key))) (hg4 : W.grownBy w4 (some mb)) :
    VS w4 B vb mb now n (D.del (kL key)) (putG g key (.slice none 0 0)) (putG R key []) ∧ Below B W w4 ∧ (∀ j, j < W.heap.size → ¬ inVS vb mb g j → w4.heap[j]? = W.heap[j]? ∧ ¬ inVS vb mb (putG g key (.slice none 0 0)) j) := by
  refine h.less hB hg4 hm (fun k hk => ?_) (fun k hk => ?_) (fun k => ?_)
  · by_cases e : k = key
    · subst e; rw [putG_same, Maps.atKey_del_same]
    · rw [putG_other _ _ e, Maps.atKey_del_other (kL_ne e)]; exact h.look k hk
  · by_cases e : k = key
    · subst e; rw [putG_same, Maps.has_del_same]; simp
    · rw [putG_other _ _ e, Maps.has_del_other (kL_ne e)]; exact h.has k hk
  · by_cases e : k = key
    · subst e; exact .inr ⟨putG_same _ _ _, putG_same _ _ _⟩
    · exact .inl ⟨putG_other _ _ e, putG_other _ _ e⟩
end Go.Proofs.Ytpbhcjkllfonhaa

/-
  What versions.since returns of versions that lie in memory: those that are read behind a deed, or later; as they lie, or in a row of their own.
-/
namespace Go.Proofs.Ytpbhcjkllfonhaa
open Go.RowKit Go.Joins Go.Shelf

theorem ver_facts : (Try.prog.info? 64).map (fun i => (i.zero, i.size, i.bytes)) = some (some (.agg #[.int .i64 0, .string ⟨#[]⟩, .bool false]), 3, 32) := by kernel_rfl
theorem clone_v (b off n c : Nat) (news : List Value) (w : World) (hl : news.length = n * 3) (hn : n ≤ 1000000) (hc : ∀ j u, news[j]? = some u → w.cell? ⟨b, off + j, none⟩ = some u) (h1 : ∀ u ∈ news, u.oneCell' = true) :
    Calls Try.prog 39 #[.slice (some ⟨b, off, none⟩) n c] w fun e w' => ∃ v', e = .returned v' ∧ w'.ownsRow w.heap.size 64 3 v' n news ∧ v' ≠ .slice none 0 0 ∧ Below w.heap.size w w' := by
  obtain ⟨i0, hi0, hz0, hz1, hz2⟩ := info_parts ver_facts
  exact AnyE.slices_Clone Try.cloneV i0 _ 3 32 hi0 hz0 hz1 hz2 rfl (by omega) Try.sizeOf64 b off n c news w hl (by unfold maxLen; omega) (by omega) hc h1
/-- versions from a place on, in a row of their own -/
theorem clone_from {w : World} {g cap : Nat} {vs : List Ver} {B : Nat} (h : ownV w B (.slice (some ⟨g, 0, none⟩) vs.length cap) vs) (q : Nat) (hq : q ≤ vs.length) (hlen : vs.length ≤ 1000000) (c : Nat) (a : Nat) (ha : a = q * 3 ∨ q = vs.length) (m : Nat) (hm0 : m = vs.length - q) :
    Calls Try.prog 39 #[.slice (some ⟨g, a, none⟩) m c] w fun e w' => ∃ v', e = .returned v' ∧ ownV w' w.heap.size v' (vs.drop q) ∧ v' ≠ .slice none 0 0 ∧ Below w.heap.size w w' := by
  subst hm0
  have hl : (vs.drop q).length = vs.length - q := List.length_drop
  have hfl : ((vs.drop q).flatMap cellV).length = (vs.length - q) * 3 := by rw [flat_len cellV 3 cellV_len, hl]
  refine (clone_v g a (vs.length - q) c ((vs.drop q).flatMap cellV) w hfl (by omega) (fun j u hj => ?_) (cellV_one _)).mono ?_
  · have hj3 : j < (vs.length - q) * 3 := by
      rcases Nat.lt_or_ge j ((vs.length - q) * 3) with h' | h'
      · exact h'
      · rw [List.getElem?_eq_none (by omega)] at hj; cases hj
    have ha' : a = q * 3 := by
      rcases ha with e | e
      · exact e
      · subst e; simp at hj3
    subst ha'
    have hm : j / 3 < vs.length - q := Nat.div_lt_of_lt_mul (by omega)
    have hr : j % 3 < 3 := Nat.mod_lt _ (by omega)
    have ej : j = j / 3 * 3 + j % 3 := by omega
    have e1 := flat_get cellV 3 cellV_len (vs.drop q) (j / 3) (j % 3) (by omega) hr
    rw [← ej, hj] at e1
    have e2 := (own_get cellV_len h (q + j / 3) (j % 3) (by omega) hr).1
    rw [List.getElem_drop] at e1
    rw [show q * 3 + j = (q + j / 3) * 3 + j % 3 by omega, e2, ← e1]
  · rintro e w' ⟨v', rfl, ho, hne, hb⟩
    refine ⟨v', rfl, ?_, hne, hb⟩
    unfold ownV
    rw [hl]
    exact ho
def SinceAt (w w' : World) (v : Value) (vs : List Ver) (n : Int) (v' : Value) : Prop := Below w.heap.size w w' ∧ ((v' = v ∧ sinceV vs n = vs) ∨ ownV w' w.heap.size v' (sinceV vs n))
set_option maxHeartbeats 1000000 in
theorem since_any (ao : Option Addr) (cap : Nat) (vs : List Ver) (n : Int) {B : Nat} (w : World) (hlen : vs.length ≤ 1000000) (h : ownV w B (.slice ao vs.length cap) vs) :
    Calls Try.prog 27 #[.slice ao vs.length cap, .int .i64 n] w fun e w' => ∃ v', e = .returned v' ∧ SinceAt w w' (.slice ao vs.length cap) vs n v' := by
  have hI : versIn w.heap.size w ao cap vs := by
    obtain ⟨ao', cap', e', hI, _⟩ := ownV_in h
    cases e'
    exact hI
  have HI := hide hI
  clear hI
  rcases lastP_spec vs n with ⟨hl, _⟩ | ⟨p, hp, hl, h1, h2⟩
  · have HS := hide (since_none hl)
    have HL := hide hl
    clear hl
    go_enter Try.func27, Try.ntmps27
    go_wp2_with (go_at_call 38; refine (last_any ao cap vs n _ hlen HI.out).mono ?_; rintro e w1 ⟨rfl, hb⟩; rw [HL.out])
    go_ret
    exact ⟨_, rfl, hb, .inl ⟨rfl, HS.out⟩⟩
  · have hs := since_some hp hl
    have HL := hide hl
    clear hl h2
    rcases own_form h with ⟨_, h0⟩ | ⟨g, cap', hv, _, _, hc1, hc2⟩
    · omega
    cases hv
    have HO := hide h
    have i0 : (0 : Int) ≤ (p : Int) := by omega
    have i1 : (p : Int) < (vs.length : Int) := by omega
    have i3 : (vs.length : Int) ≤ (cap : Int) := by omega
    have i4 : cap ≤ 9223372036854775807 := by unfold maxLen at hc2; omega
    have c2 := (own_get cellV_len h p 2 hp (by omega)).1
    simp only [cellV, List.getElem?_cons_succ, List.getElem?_cons_zero] at c2
    clear h hc2
    cases hg : vs[p].gone with
    | true =>
      rw [hg, if_pos rfl] at hs
      rw [hg] at c2
      have HS := hide hs
      clear hs hg h1
      have i5 : (p : Int) + 1 ≤ (vs.length : Int) := by omega
      have i6 : (p : Int) + 1 ≤ (cap : Int) := by omega
      have i7 : (0 : Int) ≤ (p : Int) + 1 := by omega
      have i8 : ¬ ((p : Int) + 1 ≤ 0) := by omega
      by_cases hcp : cap = p + 1
      · subst hcp
        go_enter Try.func27, Try.ntmps27
        go_wp2_with (first
          | (go_at_call 38; refine (last_any _ _ vs n _ hlen HI.out).mono ?_; rintro e w1 ⟨rfl, hb⟩; rw [HL.out]; replace c2 := cell_on hb c2)
          | (go_at_call 39; refine (clone_from (own_on HO.out hb) (p + 1) (by omega) hlen 0 0 (.inr (by omega)) 0 (by omega)).mono ?_; rintro e w2 ⟨v', rfl, ho, hne, hb2⟩; have HO2 := hide ho; have HB2 := hide (below_on hb (Nat.le_refl _) hb2); clear ho hne hb2))
        go_ret
        exact ⟨_, rfl, HB2.out, .inr (by rw [HS.out]; exact ownsRow_base_a HO2.out hb.size)⟩
      · go_enter Try.func27, Try.ntmps27
        go_wp2_with (first
          | (go_at_call 38; refine (last_any _ _ vs n _ hlen HI.out).mono ?_; rintro e w1 ⟨rfl, hb⟩; rw [HL.out]; replace c2 := cell_on hb c2)
          | (go_at_call 39; refine (clone_from (own_on HO.out hb) (p + 1) (by omega) hlen (cap - (p + 1)) ((p + 1) * 3) (.inl rfl) (vs.length - (p + 1)) rfl).mono ?_; rintro e w2 ⟨v', rfl, ho, hne, hb2⟩; have HO2 := hide ho; have HB2 := hide (below_on hb (Nat.le_refl _) hb2); clear ho hne hb2))
        go_ret
        exact ⟨_, rfl, HB2.out, .inr (by rw [HS.out]; exact ownsRow_base_a HO2.out hb.size)⟩
    | false =>
      rw [hg, if_neg (by simp)] at hs
      rw [hg] at c2
      have HS := hide hs
      clear hs hg h1
      by_cases h0 : p = 0
      · subst h0
        go_enter Try.func27, Try.ntmps27
        go_wp2_with (first
          | (go_at_call 38; refine (last_any _ cap vs n _ hlen HI.out).mono ?_; rintro e w1 ⟨rfl, hb⟩; rw [HL.out]; replace c2 := cell_on hb c2))
        go_ret
        exact ⟨_, rfl, hb, .inl ⟨rfl, by rw [HS.out]; rfl⟩⟩
      · have i2 : (p : Int) ≤ (vs.length : Int) := by omega
        have i6 : (p : Int) ≤ (cap : Int) := by omega
        have i8 : ¬ ((p : Int) ≤ 0) := by omega
        have i9 : decide ((p : Int) ≤ 0) = false := by simpa using i8
        have hcp : ¬ cap = p := by omega
        clear h0
        go_enter Try.func27, Try.ntmps27
        go_wp2_with (first
          | (go_at_call 38; refine (last_any _ _ vs n _ hlen HI.out).mono ?_; rintro e w1 ⟨rfl, hb⟩; rw [HL.out]; replace c2 := cell_on hb c2)
          | (go_at_call 39; refine (clone_from (own_on HO.out hb) p (by omega) hlen (cap - p) (p * 3) (.inl rfl) (vs.length - p) rfl).mono ?_; rintro e w2 ⟨v', rfl, ho, hne, hb2⟩; have HO2 := hide ho; have HB2 := hide (below_on hb (Nat.le_refl _) hb2); clear ho hne hb2))
        go_ret
        exact ⟨_, rfl, HB2.out, .inr (by rw [HS.out]; exact ownsRow_base_a HO2.out hb.size)⟩
end Go.Proofs.Ytpbhcjkllfonhaa
