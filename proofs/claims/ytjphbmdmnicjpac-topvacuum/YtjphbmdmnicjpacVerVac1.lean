/-
  Keys of versions that lie in memory; versions since a deed; versions of which some are kept no more: what Versions.Vacuum is made of.
-/
import Derived.Test.YtjphbmdmnicjpacVerMem
import Derived.Test.YtjphbmdmnicjpacVerPut
import Derived.Test.YtjphbmdmnicjpacVacL
import Derived.Test.YtjphbmdmnicjpacShelfKeys
namespace Go.Proofs.Ytjphbmdmnicjpac
open Go.RowKit Go.Joins Go.Shelf

theorem keys_call (m : Option Nat) (w : World) : Calls Try.prog 51 #[.map m] w fun e w' => e = .returned (.func (.func 88) #[] #[.pointer (some ⟨w.heap.size, 0, none⟩)]) ∧ w' = w.alloc (.cells #[.map m] 99) :=
  (callsIn_wide (n := 5)).1 (AnyZ.keys_in Try.keysV Fence.wide 5 trivial rfl m w)
set_option maxHeartbeats 1000000 in
theorem collect_call (b nn : Nat) (D0 : DataW Value) (w : World) (hown : w.ownsMap Try.prog 9 RV b nn D0) (hsz : Maps.size D0 ≤ 1000000) :
    Calls Try.prog 50 #[.func (.func 88) #[] #[.pointer (some ⟨w.heap.size, 0, none⟩)]] (w.alloc (.cells #[.map (some b)] 99)) fun e w' => ∃ (v : Value) (ss : List (List UInt8)), e = .returned v ∧ ss.Perm (strKeys D0) ∧
      w'.ownsRow (w.alloc (.cells #[.map (some b)] 99)).heap.size 9 1 v ss.length (ss.map encStr) ∧ (v = .slice none 0 0 ↔ ss = []) ∧ Below (w.alloc (.cells #[.map (some b)] 99)).heap.size (w.alloc (.cells #[.map (some b)] 99)) w' := by
  have hbl := hown.lt
  have hseq : SeqGives Fence.wide 3 Try.prog 88 #[.pointer (some ⟨w.heap.size, 0, none⟩)] encStr (fun ss => ss.Perm (strKeys D0)) (Maps.size D0) (w.alloc (.cells #[.map (some b)] 99)) :=
    AnyZ.keys_gives (ρ := Try.keysV_ren) { Try.keysV with } Fence.wide _ trivial rfl (by omega) w.heap.size b nn D0 _ (by simp) (by simp) (by
      obtain ⟨es, clock, hb, Ft, hs, hD⟩ := hown
      exact ⟨es, clock, (Below.heap_alloc _ _ b hbl).trans hb, Ft, hs, hD⟩)
  exact (callsIn_wide (n := 5)).1 (AnyZ.collect_in Try.collectS Fence.wide 5 trivial trivial rfl (by omega) 88 #[.pointer (some ⟨w.heap.size, 0, none⟩)] trivial (enters_of Try.func88 (by kernel_rfl) rfl) _ _ (by unfold maxLen; omega) (by omega) _ hseq)
/-- the keys that have come, as texts -/
def baL (l : List UInt8) : ByteArray := ⟨l.toArray⟩
theorem baL_list (k : ByteArray) : baL k.data.toList = k := rfl
theorem baL_inj {a b : List UInt8} (h : baL a = baL b) : a = b := by
  have := congrArg (fun k : ByteArray => k.data.toList) h
  simpa [baL] using this
theorem VS.keys {w : World} {B vb mb n : Nat} {now : Int} {D : DataW Value} {g : ByteArray → Value} {R : ByteArray → List Ver} (h : VS w B vb mb now n D g R) {ss : List (List UInt8)} (hp : ss.Perm (strKeys D)) : keysV R (ss.map baL) := by
  obtain ⟨es, hD, hpw, _⟩ := h.own.entries str_keyed
  obtain ⟨es', hD', hko⟩ := h.own.keysOf
  obtain rfl : es = es' := by rw [hD] at hD'; simpa using hD'
  have hks : ∀ p ∈ es, ∃ x, p.1 = .string x ∧ x.length ≤ maxLen := fun p hp => by
    obtain ⟨v, hv⟩ := hko p hp
    obtain ⟨x, _, hx, hl⟩ := Maps.keyOf_str Try.underlying9 hv
    exact ⟨x, hx, hl⟩
  have hst : strKeys D = es.map fun p => strOf p.1 := by rw [hD]; rfl
  have hnd : (strKeys D).Nodup := by
    rw [hst]
    refine List.pairwise_map.2 (hpw.imp_of_mem fun {p q} hp' hq' hne e => hne ?_)
    obtain ⟨a, ha, _⟩ := hks p hp'
    obtain ⟨b, hb, _⟩ := hks q hq'
    rw [ha, hb] at e ⊢
    exact congrArg _ e
  have hm : ∀ x, x ∈ strKeys D ↔ Maps.has D (.string x) = true ∧ x.length ≤ maxLen := fun x => by
    rw [hst, hD, Maps.has_eq, List.any_eq_true, List.mem_map]
    constructor
    · rintro ⟨p, hp', rfl⟩
      obtain ⟨a, ha, hl⟩ := hks p hp'
      exact ⟨⟨p, hp', by rw [ha]; simp [Lit.sameKey, strOf]⟩, by rw [ha]; exact hl⟩
    · rintro ⟨⟨p, hp', hs⟩, _⟩
      obtain ⟨a, ha, _⟩ := hks p hp'
      rw [ha] at hs
      exact ⟨p, hp', by rw [ha]; simpa [Lit.sameKey, strOf] using hs⟩
  refine ⟨?_, fun k => ?_⟩
  · exact List.pairwise_map.2 ((hp.nodup_iff.2 hnd).imp fun hne e => hne (baL_inj e))
  · rw [List.mem_map]
    constructor
    · rintro ⟨x, hx, rfl⟩
      obtain ⟨h1, h2⟩ := (hm x).1 (hp.mem_iff.1 hx)
      have hsz : (baL x).size ≤ maxLen := by show x.toArray.size ≤ maxLen; simpa using h2
      exact ⟨hsz, (h.has _ hsz).1 (by unfold kL baL; simpa using h1)⟩
    · rintro ⟨h1, h2⟩
      refine ⟨k.data.toList, hp.mem_iff.2 ((hm _).2 ⟨(h.has k h1).2 h2, ?_⟩), baL_list k⟩
      rw [Array.length_toList]; exact h1
/-- the map turned: of each key what was, or nothing -/
theorem VS.less {W w4 : World} {B vb mb n n' : Nat} {now : Int} {D D' : DataW Value} {g g' : ByteArray → Value} {R R' : ByteArray → List Ver} (h : VS W B vb mb now n D g R) (hB : B ≤ W.heap.size)
    (hg4 : W.grownBy w4 (some mb)) (hm : w4.ownsMap Try.prog 9 RV mb n' D') (hl : ∀ k, k.size ≤ maxLen → D'.atKey (kL k) (.held (.slice none 0 0)) = .held (g' k)) (hh : ∀ k, k.size ≤ maxLen → (Maps.has D' (kL k) = true ↔ R' k ≠ []))
    (hc : ∀ k, (g' k = g k ∧ R' k = R k) ∨ (g' k = .slice none 0 0 ∧ R' k = [])) :
    VS w4 B vb mb now n' D' g' R' ∧ Below B W w4 ∧ (∀ j, j < W.heap.size → ¬ inVS vb mb g j → w4.heap[j]? = W.heap[j]? ∧ ¬ inVS vb mb g' j) := by
  have b4 : ∀ j, j < W.heap.size → j ≠ mb → w4.heap[j]? = W.heap[j]? := fun j h1 h2 => hg4.block j h1 (fun e => h2 (by cases e; rfl))
  have bv : w4.heap[vb]? = W.heap[vb]? := b4 vb (h.lt (.inl rfl)) h.ne
  have hob : ∀ k j, (g' k).ownBlock = some j → (g k).ownBlock = some j := fun k j e => by
    rcases hc k with ⟨e1, _⟩ | ⟨e1, _⟩
    · rw [e1] at e; exact e
    · rw [e1] at e; simp [Value.ownBlock] at e
  refine ⟨{ num := (World.cell?_of_block (w := W) bv).trans h.num, soft := (World.frozen?_of_block (w := W) bv).trans h.soft, mp := (World.cell?_of_block (w := W) bv).trans h.mp, own := hm, look := hl, has := hh, rows := fun k => ?_, lov := h.lov, lom := h.lom, ne := h.ne, offv := fun k e => h.offv k (hob k _ e), offm := fun k e => h.offm k (hob k _ e), apart := fun a b hab j e e' => h.apart a b hab j (hob a j e) (hob b j e') }, (Below.refl B W).grown hg4 hB (fun k e => by cases e; exact h.lom), fun j h1 h2 => ⟨b4 j h1 (fun e => h2 (.inr (.inl e))), ?_⟩⟩
  · rcases hc k with ⟨e1, e2⟩ | ⟨e1, e2⟩
    · rw [e1, e2]
      exact own_block (h.rows k) fun j hj => b4 j (World.ownsRow.lt (h.rows k) j hj).2 (fun e => h.offm k (by rw [hj, e]))
    · rw [e1, e2]
      exact World.ownsRow_nil _ _ _ _
  · rintro (e | e | ⟨k, e⟩)
    · exact h2 (.inl e)
    · exact h2 (.inr (.inl e))
    · exact h2 (.inr (.inr ⟨k, hob k j e⟩))
/-- a row told as it was -/
theorem VS.same {W w4 : World} {B vb mb n : Nat} {now : Int} {D : DataW Value} {g : ByteArray → Value} {R : ByteArray → List Ver} {key : ByteArray} (h : VS W B vb mb now n D g R) (hB : B ≤ W.heap.size) (hne : R key ≠ [])
    (hm : w4.ownsMap Try.prog 9 RV mb (n + 1) (D.put (kL key) (.held (g key)))) (hg4 : W.grownBy w4 (some mb)) :
    VS w4 B vb mb now (n + 1) (D.put (kL key) (.held (g key))) g R ∧ Below B W w4 ∧ (∀ j, j < W.heap.size → ¬ inVS vb mb g j → w4.heap[j]? = W.heap[j]? ∧ ¬ inVS vb mb g j) := by
  refine h.less hB hg4 hm (fun k hk => ?_) (fun k hk => ?_) (fun k => .inl ⟨rfl, rfl⟩)
  · by_cases e : k = key
    · subst e; rw [Maps.atKey_put_same h.own.isMap (key_lit k)]
    · rw [Maps.atKey_put_other (kL_ne e)]; exact h.look k hk
  · by_cases e : k = key
    · subst e; rw [Maps.has_put_same h.own.isMap (key_lit k)]; simp [hne]
    · rw [Maps.has_put_other (kL_ne e)]; exact h.has k hk
/-- a row kept no more -/
theorem VS.drop {W w4 : World} {B vb mb n : Nat} {now : Int} {D : DataW Value} {g : ByteArray → Value} {R : ByteArray → List Ver} {key : ByteArray} (h : VS W B vb mb now n D g R) (hB : B ≤ W.heap.size)
    (hm : w4.ownsMap Try.prog 9 RV mb n (D.del (kL key))) (hg4 : W.grownBy w4 (some mb)) :
    VS w4 B vb mb now n (D.del (kL key)) (putG g key (.slice none 0 0)) (putG R key []) ∧ Below B W w4 ∧ (∀ j, j < W.heap.size → ¬ inVS vb mb g j → w4.heap[j]? = W.heap[j]? ∧ ¬ inVS vb mb (putG g key (.slice none 0 0)) j) := by
  refine h.less hB hg4 hm (fun k hk => ?_) (fun k hk => ?_) (fun k => ?_)
  · by_cases e : k = key
    · subst e; rw [putG_same, Maps.atKey_del_same]
    · rw [putG_other _ _ e, Maps.atKey_del_other (kL_ne e)]; exact h.look k hk
  · by_cases e : k = key
    · subst e; rw [putG_same, Maps.has_del_same]; simp
    · rw [putG_other _ _ e, Maps.has_del_other (kL_ne e)]; exact h.has k hk
  · by_cases e : k = key
    · subst e; exact .inr ⟨putG_same _ _ _, putG_same _ _ _⟩
    · exact .inl ⟨putG_other _ _ e, putG_other _ _ e⟩
end Go.Proofs.Ytjphbmdmnicjpac
