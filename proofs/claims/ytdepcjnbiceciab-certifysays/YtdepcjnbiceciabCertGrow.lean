/-
  A history that a deed is noted in: what becomes of it in memory. Nothing of the program's functions is named here.
-/
import Derived.Test.YtdepcjnbiceciabCertMem
namespace Go.Proofs.Ytdepcjnbiceciab
open Go.RowKit Go.Joins

theorem own_set_far {w : World} {B : Nat} {e : TypeId} {size : Nat} {v : Value} {n : Nat} {xs : List Value} (h : w.ownsRow B e size v n xs) (g j : Nat) (u : Value) (hne : v.ownBlock ≠ some g) : (w.setCell ⟨g, j, none⟩ u).ownsRow B e size v n xs :=
  own_block h fun k hk => Below.heap_setCell _ _ _ _ (fun e => hne (by rw [hk, e]))
theorem cell_set_far {w : World} {p : Addr} {g j : Nat} {u : Value} (hne : p.block ≠ g) : (w.setCell ⟨g, j, none⟩ u).cell? p = w.cell? p := World.cell?_of_block (Below.heap_setCell _ _ _ _ hne)
theorem frozen_set_far {w : World} {p : Addr} {g j : Nat} {u : Value} (hne : p.block ≠ g) : (w.setCell ⟨g, j, none⟩ u).frozen? p = w.frozen? p := World.frozen?_of_block (Below.heap_setCell _ _ _ _ hne)

/-- one more deed, without keys: appended to the row, and the row's new value stored -/
theorem hist_new {W w1 : World} {B hb : Nat} {v : Value} {dv : List (DeedL × Value)} {n : Int} {g cap : Nat} (h : HistAt W B hb v dv) (hB : B ≤ W.heap.size) (hg : W.grownBy w1 v.ownBlock)
    (ho : w1.ownsRow B 121 2 (.slice (some ⟨g, 0, none⟩) (dv.length + 1) cap) (dv.length + 1) (rowD dv ++ [.int .i64 n, .slice none 0 0])) (hat : v.ownBlock = some g ∨ g = W.heap.size) :
    HistAt (w1.setCell ⟨hb, 0, none⟩ (.slice (some ⟨g, 0, none⟩) (dv.length + 1) cap)) B hb (.slice (some ⟨g, 0, none⟩) (dv.length + 1) cap) (dv ++ [(⟨n, []⟩, .slice none 0 0)]) ∧
    Below B W (w1.setCell ⟨hb, 0, none⟩ (.slice (some ⟨g, 0, none⟩) (dv.length + 1) cap)) ∧ w1.cell? ⟨hb, 0, none⟩ = some v ∧ w1.frozen? ⟨hb, 0, none⟩ = false ∧ (∀ b, b < W.heap.size → b ≠ hb → some b ≠ v.ownBlock → b ≠ g ∧ (w1.setCell ⟨hb, 0, none⟩ (.slice (some ⟨g, 0, none⟩) (dv.length + 1) cap)).heap[b]? = W.heap[b]?) := by
  have hlt := h.lt
  have hne : g ≠ hb := by
    rcases hat with e | e
    · exact fun e' => h.off (by rw [e, e'])
    · omega
  have c1 : w1.cell? ⟨hb, 0, none⟩ = some v := hg.cell h.cell (Ne.symm h.off)
  have f1 : w1.frozen? ⟨hb, 0, none⟩ = false := (hg.frozen_far ⟨hb, 0, none⟩ hlt (Ne.symm h.off)).trans h.soft
  have kk : ∀ p ∈ dv, p.2.ownBlock = none ∨ p.2.ownBlock ≠ some g := fun p hp => by
    rcases hat with e | e
    · rw [← e]; exact h.apart p hp
    · refine .inr fun e' => ?_
      have := ((h.keys p hp).lt g e').2
      omega
  refine ⟨{ cell := ?_, soft := ?_, lo := h.lo, own := ?_, keys := ?_, off := ?_, offk := ?_, apart := ?_, pair := ?_ }, ?_, c1, f1, ?_⟩
  · exact World.cell?_setCell_same _ _ _ c1
  · simpa using f1
  · have e1 : (dv ++ [((⟨n, []⟩ : DeedL), Value.slice none 0 0)]).length = dv.length + 1 := by simp
    have e2 : rowD (dv ++ [((⟨n, []⟩ : DeedL), Value.slice none 0 0)]) = rowD dv ++ [.int .i64 n, .slice none 0 0] := by simp [rowD, cellD]
    rw [e1, e2]
    exact own_set_far ho hb 0 _ (by simpa [Value.ownBlock] using hne)
  · intro p hp
    rcases List.mem_append.1 hp with hp | hp
    · exact own_set_far ((h.keys p hp).kept hg (h.apart p hp)) hb 0 _ (h.offk p hp)
    · simp only [List.mem_singleton] at hp
      subst hp
      exact World.ownsRow_nil _ _ _ _
  · simpa [Value.ownBlock] using hne
  · intro p hp
    rcases List.mem_append.1 hp with hp | hp
    · exact h.offk p hp
    · simp only [List.mem_singleton] at hp
      subst hp
      simp [Value.ownBlock]
  · intro p hp
    rcases List.mem_append.1 hp with hp | hp
    · exact kk p hp
    · simp only [List.mem_singleton] at hp
      subst hp
      exact .inl rfl
  · rw [List.pairwise_append]
    refine ⟨h.pair, by simp, fun a ha b hb' => ?_⟩
    simp only [List.mem_singleton] at hb'
    subst hb'
    rcases kk a ha with e | e
    · exact .inl e
    · cases hx : a.2.ownBlock with
      | none => exact .inl rfl
      | some y => exact .inr (by simp [Value.ownBlock])
  · exact (((Below.refl B W).grown hg hB (fun k hk => (h.own.lt k hk).1)).setCell h.lo _)
  · intro b h1 h2 h3
    refine ⟨?_, (Below.heap_setCell _ _ _ _ h2).trans (hg.block b h1 h3)⟩
    rcases hat with e | e
    · exact fun x => h3 (by rw [e, x])
    · omega

/-- a key more of the last deed -/
theorem hist_push {W w1 : World} {B hb : Nat} {d : DeedL} {kv : Value} {dv : List (DeedL × Value)} {key : ByteArray} {g cap gk ck : Nat}
    (h : HistAt W B hb (.slice (some ⟨g, 0, none⟩) (dv.length + 1) cap) (dv ++ [(d, kv)])) (hB : B ≤ W.heap.size) (hg : W.grownBy w1 kv.ownBlock)
    (ho : w1.ownsRow B 9 1 (.slice (some ⟨gk, 0, none⟩) (d.keys.length + 1) ck) (d.keys.length + 1) (d.keys.map Value.string ++ [.string key])) (hat : kv.ownBlock = some gk ∨ gk = W.heap.size) :
    HistAt (w1.setCell ⟨g, dv.length * 2 + 1, none⟩ (.slice (some ⟨gk, 0, none⟩) (d.keys.length + 1) ck)) B hb (.slice (some ⟨g, 0, none⟩) (dv.length + 1) cap) (dv ++ [(⟨d.n, d.keys ++ [key]⟩, .slice (some ⟨gk, 0, none⟩) (d.keys.length + 1) ck)]) ∧
    Below B W (w1.setCell ⟨g, dv.length * 2 + 1, none⟩ (.slice (some ⟨gk, 0, none⟩) (d.keys.length + 1) ck)) ∧
    (∀ b, b < W.heap.size → b ≠ g → some b ≠ kv.ownBlock → b ≠ gk ∧ (w1.setCell ⟨g, dv.length * 2 + 1, none⟩ (.slice (some ⟨gk, 0, none⟩) (d.keys.length + 1) ck)).heap[b]? = W.heap[b]?) := by
  have hlt := h.lt
  have mem : (d, kv) ∈ dv ++ [(d, kv)] := by simp
  have hlen : (dv ++ [(d, kv)]).length = dv.length + 1 := by simp
  have hk0 := h.offk _ mem
  have ha0 := h.apart _ mem
  have hown := h.own
  have hgl := (hown.lt g rfl).2
  have hgB := (hown.lt g rfl).1
  have hgh : g ≠ hb := fun e => h.off (by rw [e]; rfl)
  have hkg : gk ≠ g := by
    rcases hat with e | e
    · rcases ha0 with e' | e'
      · rw [e] at e'; cases e'
      · rw [e] at e'; exact fun x => e' (by rw [x]; rfl)
    · omega
  have hkh : gk ≠ hb := by
    rcases hat with e | e
    · rw [e] at hk0; exact fun x => hk0 (by rw [x])
    · omega
  have hpair := List.pairwise_append.1 h.pair
  have kk : ∀ p ∈ dv, p.2.ownBlock = none ∨ p.2.ownBlock ≠ some gk := fun p hp => by
    rcases hat with e | e
    · rw [← e]; exact hpair.2.2 p hp (d, kv) (by simp)
    · refine .inr fun e' => ?_
      have := ((h.keys p (by simp [hp])).lt gk e').2
      omega
  have hstay : Value.ownBlock (.slice (some ⟨g, 0, none⟩) (dv.length + 1) cap) = none ∨ Value.ownBlock (.slice (some ⟨g, 0, none⟩) (dv.length + 1) cap) ≠ kv.ownBlock := by
    rcases ha0 with e | e
    · exact .inr (by rw [e]; simp [Value.ownBlock])
    · exact .inr (Ne.symm e)
  refine ⟨{ cell := ?_, soft := ?_, lo := h.lo, own := ?_, keys := ?_, off := h.off, offk := ?_, apart := ?_, pair := ?_ }, ?_, ?_⟩
  · rw [cell_set_far (Ne.symm hgh)]
    exact hg.cell h.cell (Ne.symm hk0)
  · rw [frozen_set_far (Ne.symm hgh)]
    exact (hg.frozen_far ⟨hb, 0, none⟩ hlt (Ne.symm hk0)).trans h.soft
  · have h1 := hown.kept hg hstay
    rw [hlen] at h1
    have h2 := (h1.stored (dv.length * 2 + 1) (.slice (some ⟨gk, 0, none⟩) (d.keys.length + 1) ck)).1
    have e : (rowD (dv ++ [(d, kv)])).set (dv.length * 2 + 1) (.slice (some ⟨gk, 0, none⟩) (d.keys.length + 1) ck) = rowD (dv ++ [(⟨d.n, d.keys ++ [key]⟩, .slice (some ⟨gk, 0, none⟩) (d.keys.length + 1) ck)]) := by
      unfold rowD
      rw [flat_set cellD 2 cellD_len (dv ++ [(d, kv)]) (⟨d.n, d.keys ++ [key]⟩, .slice (some ⟨gk, 0, none⟩) (d.keys.length + 1) ck) dv.length 1 (by simp) (by omega) _ (by simp [cellD])]
      simp
    rw [e] at h2
    simpa using h2
  · intro p hp
    rcases List.mem_append.1 hp with hp | hp
    · have h1 := (h.keys p (by simp [hp])).kept hg (hpair.2.2 p hp (d, kv) (by simp))
      refine own_set_far h1 g _ _ ?_
      rcases h.apart p (by simp [hp]) with e | e
      · rw [e]; simp
      · exact e
    · simp only [List.mem_singleton] at hp
      subst hp
      have := own_set_far ho g (dv.length * 2 + 1) (.slice (some ⟨gk, 0, none⟩) (d.keys.length + 1) ck) (by simpa [Value.ownBlock] using hkg)
      simpa using this
  · intro p hp
    rcases List.mem_append.1 hp with hp | hp
    · exact h.offk p (by simp [hp])
    · simp only [List.mem_singleton] at hp
      subst hp
      simpa [Value.ownBlock] using hkh
  · intro p hp
    rcases List.mem_append.1 hp with hp | hp
    · exact h.apart p (by simp [hp])
    · simp only [List.mem_singleton] at hp
      subst hp
      exact .inr (by simpa [Value.ownBlock] using hkg)
  · rw [List.pairwise_append]
    refine ⟨hpair.1, by simp, fun a ha b hb' => ?_⟩
    simp only [List.mem_singleton] at hb'
    subst hb'
    exact kk a ha
  · exact (((Below.refl B W).grown hg hB (fun k hk => ((h.keys _ mem).lt k hk).1)).setCell hgB _)
  · intro b h1 h2 h3
    refine ⟨?_, (Below.heap_setCell _ _ _ _ h2).trans (hg.block b h1 h3)⟩
    rcases hat with e | e
    · exact fun x => h3 (by rw [e, x])
    · omega
/-- a block ahead of the history's is none of its -/
theorem HistAt.far {w : World} {B hb : Nat} {v : Value} {dv : List (DeedL × Value)} (h : HistAt w B hb v dv) {b : Nat} (hb' : b < B) : b ≠ hb ∧ some b ≠ v.ownBlock := by
  have := h.lo
  refine ⟨by omega, fun e => ?_⟩
  have := (h.own.lt b e.symm).1
  omega
end Go.Proofs.Ytdepcjnbiceciab
