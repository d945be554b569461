/-
  What the document's Write of a disk returns and leaves.
-/
import Derived.Test.YtkfpfbkdalbjoaaRDsk2
namespace Go.Proofs.Ytkfpfbkdalbjoaa
open Go.RowKit Go.Joins
attribute [local go_sem ↓] Go.wp_at_zero Go.wp_at_succ

section
variable {w : World} {B rb : Nat} {S : Nat → Prop} {s : DSt}
theorem ownS_block {g n cap : Nat} {l : List ByteArray} (h : ownS w B (.slice (some ⟨g, 0, none⟩) n cap) l) : ∃ cur : List Value, w.heap[g]? = some (.cells cur.toArray 9 (0, 0)) ∧ B ≤ g ∧ n = l.length ∧ l.length ≤ cap ∧ cap ≤ maxLen ∧ cur.length = cap ∧ cur.take l.length = l.map strV := by
  rcases h.2 with ⟨e, _⟩ | ⟨g', cap', cur, e, hB, hg, h3, h4, h5, h6⟩
  · cases e
  · cases e
    exact ⟨cur.toList, by simpa using hg, hB, rfl, h3, h4, by rw [Array.length_toList, h5, Nat.mul_one], by rw [Nat.mul_one] at h6; exact h6⟩
theorem ownS_set {g n cap : Nat} {l : List ByteArray} (h : ownS w B (.slice (some ⟨g, 0, none⟩) n cap) l) (i : Nat) (d : ByteArray) : ownS (w.setCell ⟨g, i, none⟩ (.string d)) B (.slice (some ⟨g, 0, none⟩) n cap) (l.set i d) := by
  obtain ⟨cur, hg, hB, rfl, h3, h4, h5, h6⟩ := ownS_block h
  refine ⟨by simp, .inr ⟨g, cap, (cur.set i (.string d)).toArray, by rw [List.length_set], hB, ?_, by rw [List.length_set]; exact h3, h4, by simp [h5], ?_⟩⟩
  · rw [setCell_eq_setRow w g i cur.toArray _ _ _ hg, setRow_heap w g cur.toArray _ _ _ hg]
    simp
  · rw [List.length_set, Nat.mul_one]
    show (cur.set i (.string d)).take l.length = _
    rw [List.take_set, h6, List.map_set]
    rfl
theorem pad_cat (d : ByteArray) : d ++ zerosB (96 - d.size) = dpadB d := by
  unfold dpadB zerosB
  cases d with
  | mk a =>
    show ByteArray.mk _ = _
    congr 1
theorem turn_parts : ∃ i z, Try.prog.info? 95 = some i ∧ i.zero = some z ∧ i.size = 2 ∧ i.bytes = 24 ∧ z.cells.size = 2 := by
  have h : (Try.prog.info? 95).bind (fun i => i.zero.map fun z => (z.cells.size, i.size, i.bytes)) = some (2, 2, 24) := by kernel_rfl
  cases hi : Try.prog.info? 95 with
  | none => rw [hi] at h; cases h
  | some i =>
    rw [hi] at h
    cases hz : i.zero with
    | none => simp [hz] at h
    | some z =>
      simp only [Option.bind_some, hz, Option.map_some, Option.some.injEq, Prod.mk.injEq] at h
      exact ⟨i, z, rfl, hz, h.2.1, h.2.2, h.1⟩
/-- a write more, of both lists -/
theorem RK.laid {w3 w5 : World} {g cap5 a : Nat} {kv tv : Value} {gn cn : Nat} {F : Int} {d : ByteArray} (h1 : RD w B rb kv (.slice (some ⟨gn, 0, none⟩) s.now.length cn) tv s F) (h3 : s.kept.length = s.now.length) (h4 : 1 ≤ s.now.length) (h5 : s.now.length ≤ 200) (h6 : ∀ x ∈ s.wait, x.1 < s.now.length) (h7 : B ≤ w.heap.size) (ha : a < s.now.length)
    (e3 : w3 = w.setCell ⟨gn, a, none⟩ (.string d)) (ho : w5.ownsRow B 95 2 (.slice (some ⟨g, 0, none⟩) (s.wait.length + 1) cap5) (s.wait.length + 1) (s.wait.flatMap cellT ++ cellT (a, d))) (hgrow : World.grownBy (w3.alloc (.cells (cellT (a, d)).toArray 95)) w5 tv.ownBlock) (hat : tv.ownBlock = some g ∨ g = w3.heap.size + 1) :
    ActK w (w5.setCell ⟨rb, 2, none⟩ (.slice (some ⟨g, 0, none⟩) (s.wait.length + 1) cap5)) B rb (inR rb kv (.slice (some ⟨gn, 0, none⟩) s.now.length cn) tv) (laidD s a d) := by
  subst e3
  have hz3 : (w.setCell ⟨gn, a, none⟩ (.string d)).heap.size = w.heap.size := by simp
  have hza : ((w.setCell ⟨gn, a, none⟩ (.string d)).alloc (.cells (cellT (a, d)).toArray 95)).heap.size = w.heap.size + 1 := by simp
  have ltr : rb < w.heap.size := h1.lt (.inl rfl)
  have ltn : gn < w.heap.size := h1.lt (k := gn) (.inr (.inr (.inl rfl)))
  have hgn : gn ≠ rb ∧ tv.ownBlock ≠ some gn := h1.ap.2.1 gn rfl
  have hkn : kv.ownBlock ≠ some gn := fun e => (h1.ap.1 gn e).2.1 rfl
  have f5 : ∀ k, k < w.heap.size → tv.ownBlock ≠ some k → k ≠ gn → w5.heap[k]? = w.heap[k]? := fun k hk hn hg => by
    rw [hgrow.block k (by rw [hza]; omega) (Ne.symm hn), (below_alloc1 (w.setCell ⟨gn, a, none⟩ (.string d)) _).block k (by rw [hz3]; exact hk)]
    exact Below.heap_setCell _ _ _ _ hg
  have f5n : w5.heap[gn]? = (w.setCell ⟨gn, a, none⟩ (.string d)).heap[gn]? := by
    rw [hgrow.block gn (by rw [hza]; omega) (Ne.symm hgn.2), (below_alloc1 (w.setCell ⟨gn, a, none⟩ (.string d)) _).block gn (by rw [hz3]; exact ltn)]
  have htr : tv.ownBlock ≠ some rb := fun e => h1.ap.2.2 rb e rfl
  have e5 : w5.heap[rb]? = w.heap[rb]? := f5 rb ltr htr hgn.1.symm
  have hgr : g ≠ rb := by
    rcases hat with e | e
    · exact fun e2 => htr (e2 ▸ e)
    · rw [hz3] at e; omega
  have hgl : ∀ k, inR rb kv (.slice (some ⟨gn, 0, none⟩) s.now.length cn) tv k → tv.ownBlock ≠ some k → g ≠ k := fun k hk hn => by
    rcases hat with e | e
    · exact fun e2 => hn (e2 ▸ e)
    · have := h1.lt hk; rw [hz3] at e; omega
  have k6 : ∀ k, k ≠ rb → (w5.setCell ⟨rb, 2, none⟩ (.slice (some ⟨g, 0, none⟩) (s.wait.length + 1) cap5)).heap[k]? = w5.heap[k]? := fun k hk => Below.heap_setCell _ _ _ _ hk
  have c : ∀ j v, w.cell? ⟨rb, j, none⟩ = some v → w5.cell? ⟨rb, j, none⟩ = some v := fun j v hv => (World.cell?_of_block (a := ⟨rb, j, none⟩) e5).trans hv
  have hbel : Below B w (w5.setCell ⟨rb, 2, none⟩ (.slice (some ⟨g, 0, none⟩) (s.wait.length + 1) cap5)) := by
    have b1 := (Below.refl B w).setCell (p := ⟨gn, a, none⟩) (World.ownsRow.lt h1.on gn rfl).1 (.string d)
    have b2 := b1.trans ((below_alloc1 (w.setCell ⟨gn, a, none⟩ (.string d)) (.cells (cellT (a, d)).toArray 95)).mono (by rw [hz3]; exact h7))
    exact (b2.grown hgrow (by rw [hza]; omega) (fun k hk => (World.ownsRow.lt h1.ot k hk).1)).setCell (p := ⟨rb, 2, none⟩) h1.lo _
  refine ⟨inR rb kv (.slice (some ⟨gn, 0, none⟩) s.now.length cn) (.slice (some ⟨g, 0, none⟩) (s.wait.length + 1) cap5), ⟨kv, _, _, F, ⟨(World.cell?_setCell_other _ _ _ _ (by simp)).trans (c 0 _ h1.c0), (World.cell?_setCell_other _ _ _ _ (by simp)).trans (c 1 _ h1.c1), World.cell?_setCell_same _ _ _ (c 2 _ h1.c2), (World.cell?_setCell_other _ _ _ _ (by simp)).trans (c 3 _ h1.c3), (World.cell?_setCell_other _ _ _ _ (by simp)).trans (c 4 _ h1.c4), fun j => by rw [World.frozen?_setCell, World.frozen?_of_block (a := ⟨rb, j, none⟩) e5]; exact h1.soft j, ?_, ?_, ?_, ⟨fun k e => ?_, fun k e => ?_, fun k e => ?_⟩, h1.lo, h1.fu, h1.fl⟩, rfl, ?_, ?_, ?_, ?_, Nat.le_trans h7 hbel.size⟩, ⟨hbel, fun k hk hn => ⟨?_, ?_⟩⟩⟩
  · exact ownS_kept h1.ok fun k e => by
      obtain ⟨p1, p2, p3⟩ := h1.ap.1 k e
      rw [k6 k p1]
      exact f5 k (h1.lt (.inr (.inl e))) p3 fun e2 => p2 (by rw [e2]; rfl)
  · refine ownS_kept (ownS_set h1.on a d) fun k e => ?_
    cases e
    rw [k6 gn hgn.1, f5n]
  · have : ownT w5 B (.slice (some ⟨g, 0, none⟩) (s.wait.length + 1) cap5) (laidD s a d).wait := by
      unfold ownT laidD
      simp only [List.length_append, List.flatMap_append]
      show w5.ownsRow B _ 2 _ (s.wait.length + 1) (_ ++ (cellT (a, d) ++ []))
      rw [List.append_nil]
      exact ho
    exact ownT_kept this fun k e => by cases e; exact k6 g hgr
  · obtain ⟨p1, p2, p3⟩ := h1.ap.1 k e
    exact ⟨p1, p2, fun e2 => by cases e2; exact hgl g (.inr (.inl e)) p3 rfl⟩
  · cases e
    exact ⟨hgn.1, fun e2 => by cases e2; exact hgl g (.inr (.inr (.inl rfl))) hgn.2 rfl⟩
  · cases e; exact hgr
  · show s.kept.length = (s.now.set a d).length
    rw [List.length_set]; exact h3
  · show 1 ≤ (s.now.set a d).length
    rw [List.length_set]; exact h4
  · show (s.now.set a d).length ≤ 200
    rw [List.length_set]; exact h5
  · intro x hx
    show x.1 < (s.now.set a d).length
    rw [List.length_set]
    rcases List.mem_append.1 hx with hx | hx
    · exact h6 x hx
    · rw [List.mem_singleton] at hx; rw [hx]; exact ha
  · rw [k6 k fun e => hn (.inl e)]
    exact f5 k hk (fun e => hn (.inr (.inr (.inr e)))) fun e => hn (.inr (.inr (.inl (by rw [e]; rfl))))
  · rintro (e | e | e | e)
    · exact hn (.inl e)
    · exact hn (.inr (.inl e))
    · exact hn (.inr (.inr (.inl e)))
    · have e : g = k := by cases e; rfl
      rcases hat with e2 | e2
      · exact hn (.inr (.inr (.inr (e ▸ e2))))
      · rw [hz3] at e2; omega
end
end Go.Proofs.Ytkfpfbkdalbjoaa
