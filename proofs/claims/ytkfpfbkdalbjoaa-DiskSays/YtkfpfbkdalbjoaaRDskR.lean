/-
  What the document's Restart of a disk leaves: plain facts.
-/
import Derived.Test.YtkfpfbkdalbjoaaRDskF
namespace Go.Proofs.Ytkfpfbkdalbjoaa
open Go.RowKit Go.Joins
attribute [local go_sem ↓] Go.wp_at_zero Go.wp_at_succ

section
variable {w : World} {B rb : Nat} {S : Nat → Prop} {s : DSt} {kv nv tv : Value} {F : Int}
theorem keepL_more (k : Int) : ∀ (l : List (Nat × ByteArray)) (x : Nat × ByteArray) (i : Nat) (K : List ByteArray), keepL k i (l ++ [x]) K = if keepB k ((i + l.length) % 64) then (keepL k i l K).set x.1 x.2 else keepL k i l K
  | [], x, i, K => by simp [keepL]
  | y :: l, x, i, K => by
    rw [List.cons_append]
    show keepL k (i + 1) (l ++ [x]) _ = if _ then (keepL k (i + 1) l _).set x.1 x.2 else keepL k (i + 1) l _
    rw [keepL_more k l x (i + 1), show i + 1 + l.length = i + (y :: l).length by rw [List.length_cons]; omega]
theorem keepL_take (k : Int) (l : List (Nat × ByteArray)) (i : Nat) (hi : i < l.length) (K : List ByteArray) : keepL k 0 (l.take (i + 1)) K = if keepB k (i % 64) then (keepL k 0 (l.take i) K).set l[i].1 l[i].2 else keepL k 0 (l.take i) K := by
  rw [List.take_succ_eq_append_getElem hi, keepL_more, List.length_take, Nat.zero_add, Nat.min_eq_left (Nat.le_of_lt hi)]
/-- one sector of what is kept -/
theorem RD.keptSet {gk n ck : Nat} (h1 : RD w B rb (.slice (some ⟨gk, 0, none⟩) n ck) nv tv s F) (a : Nat) (d : ByteArray) : RD (w.setCell ⟨gk, a, none⟩ (.string d)) B rb (.slice (some ⟨gk, 0, none⟩) n ck) nv tv { s with kept := s.kept.set a d } F := by
  obtain ⟨p1, p2, p3⟩ := h1.ap.1 gk rfl
  have k6 : ∀ k, k ≠ gk → (w.setCell ⟨gk, a, none⟩ (.string d)).heap[k]? = w.heap[k]? := fun k hk => Below.heap_setCell _ _ _ _ hk
  have e := k6 rb p1.symm
  exact ⟨(World.cell?_of_block (a := ⟨rb, 0, none⟩) e).trans h1.c0, (World.cell?_of_block (a := ⟨rb, 1, none⟩) e).trans h1.c1, (World.cell?_of_block (a := ⟨rb, 2, none⟩) e).trans h1.c2, (World.cell?_of_block (a := ⟨rb, 3, none⟩) e).trans h1.c3, (World.cell?_of_block (a := ⟨rb, 4, none⟩) e).trans h1.c4, fun j => (World.frozen?_of_block (a := ⟨rb, j, none⟩) e).trans (h1.soft j), ownS_set h1.ok a d, ownS_kept h1.on fun k e => k6 k fun e2 => p2 (e2 ▸ e), ownT_kept h1.ot fun k e => k6 k fun e2 => p3 (e2 ▸ e), h1.ap, h1.lo, h1.fu, h1.fl⟩
theorem stepV_kept {gk n ck : Nat} (h1 : RD w B rb (.slice (some ⟨gk, 0, none⟩) n ck) nv tv s F) (a : Nat) (d : ByteArray) : StepV w (w.setCell ⟨gk, a, none⟩ (.string d)) B (inR rb (.slice (some ⟨gk, 0, none⟩) n ck) nv tv) (inR rb (.slice (some ⟨gk, 0, none⟩) n ck) nv tv) :=
  ⟨(Below.refl _ _).setCell (p := ⟨gk, a, none⟩) (World.ownsRow.lt h1.ok gk rfl).1 _, fun _ _ hn => ⟨Below.heap_setCell _ _ _ _ fun e => hn (.inr (.inl (congrArg some e.symm))), hn⟩⟩
theorem ownT_cells {gt n ct : Nat} {l : List (Nat × ByteArray)} (h : ownT w B (.slice (some ⟨gt, 0, none⟩) n ct) l) (i : Nat) (hi : i < l.length) : w.cell? ⟨gt, i * 2, none⟩ = some (.int .i64 (l[i].1 : Int)) ∧ w.cell? ⟨gt, i * 2 + 1, none⟩ = some (.string l[i].2) := by
  have e : ∀ c u, c < 2 → (cellT l[i])[c]? = some u → w.cell? ⟨gt, i * 2 + c, none⟩ = some u := fun c u hc hu => by
    have := World.ownsRow.cells h (g := gt) rfl (i * 2 + c) u (by rw [dflat_get (f := cellT) (z := 2) (fun _ _ => rfl) i c hi hc]; exact hu)
    rwa [Go.Addr.add_mid, Nat.zero_add] at this
  exact ⟨e 0 _ (by omega) rfl, e 1 _ (by omega) rfl⟩
theorem ownT_some {v : Value} {l : List (Nat × ByteArray)} (h : ownT w B v l) : (v = .slice none 0 0 ∧ l.length = 0) ∨ ∃ g cap, v = .slice (some ⟨g, 0, none⟩) l.length cap := by
  rcases h.2 with ⟨e, e2⟩ | ⟨g, cap, cur, e, _⟩
  · exact .inl ⟨e, e2⟩
  · exact .inr ⟨g, cap, e⟩
/-- what is kept is read again -/
theorem RK.again {w5 : World} {g cap5 : Nat} (h1 : RD w B rb kv nv tv s F) (h4 : 1 ≤ s.kept.length) (h5 : s.kept.length ≤ 200) (h7 : B ≤ w.heap.size)
    (ho : w5.ownsRow B 9 1 (.slice (some ⟨g, 0, none⟩) s.kept.length cap5) s.kept.length (s.kept.map strV)) (hgrow : World.grownBy w w5 none) (hat : g = w.heap.size) :
    ActK w ((((w5.setCell ⟨rb, 1, none⟩ (.slice (some ⟨g, 0, none⟩) s.kept.length cap5)).setCell ⟨rb, 2, none⟩ (.slice none 0 0)).setCell ⟨rb, 4, none⟩ (.bool false)).setCell ⟨rb, 3, none⟩ (.int .i64 (-1))) B rb (inR rb kv nv tv) ⟨s.kept, s.kept, [], -1, false⟩ := by
  have ltr : rb < w.heap.size := h1.lt (.inl rfl)
  have f5 : ∀ k, k < w.heap.size → w5.heap[k]? = w.heap[k]? := fun k hk => hgrow.block k hk nofun
  have e5 : w5.heap[rb]? = w.heap[rb]? := f5 rb ltr
  have k6 : ∀ k, k ≠ rb → ((((w5.setCell ⟨rb, 1, none⟩ (.slice (some ⟨g, 0, none⟩) s.kept.length cap5)).setCell ⟨rb, 2, none⟩ (.slice none 0 0)).setCell ⟨rb, 4, none⟩ (.bool false)).setCell ⟨rb, 3, none⟩ (.int .i64 (-1))).heap[k]? = w5.heap[k]? := fun k hk => (Below.heap_setCell _ _ _ _ hk).trans ((Below.heap_setCell _ _ _ _ hk).trans ((Below.heap_setCell _ _ _ _ hk).trans (Below.heap_setCell _ _ _ _ hk)))
  have c : ∀ j v, w.cell? ⟨rb, j, none⟩ = some v → w5.cell? ⟨rb, j, none⟩ = some v := fun j v hv => (World.cell?_of_block (a := ⟨rb, j, none⟩) e5).trans hv
  have o : ∀ (W : World) (i j : Nat) (u v : Value), i ≠ j → W.cell? ⟨rb, i, none⟩ = some u → (W.setCell ⟨rb, j, none⟩ v).cell? ⟨rb, i, none⟩ = some u := fun W i j u v hij hu => (World.cell?_setCell_other _ _ _ _ (by intro e; cases e; exact hij rfl)).trans hu
  have hgr : g ≠ rb := by omega
  have ltk : ∀ k, kv.ownBlock = some k → k < w.heap.size := fun k e => h1.lt (.inr (.inl e))
  have hbel : Below B w ((((w5.setCell ⟨rb, 1, none⟩ (.slice (some ⟨g, 0, none⟩) s.kept.length cap5)).setCell ⟨rb, 2, none⟩ (.slice none 0 0)).setCell ⟨rb, 4, none⟩ (.bool false)).setCell ⟨rb, 3, none⟩ (.int .i64 (-1))) := by
    have b2 := (Below.refl B w).grown hgrow h7 (fun k hk => by cases hk)
    exact (((b2.setCell (p := ⟨rb, 1, none⟩) h1.lo _).setCell (p := ⟨rb, 2, none⟩) h1.lo _).setCell (p := ⟨rb, 4, none⟩) h1.lo _).setCell (p := ⟨rb, 3, none⟩) h1.lo _
  refine ⟨inR rb kv (.slice (some ⟨g, 0, none⟩) s.kept.length cap5) (.slice none 0 0), ⟨kv, _, _, -1, ⟨o _ 0 3 _ _ (by omega) (o _ 0 4 _ _ (by omega) (o _ 0 2 _ _ (by omega) (o _ 0 1 _ _ (by omega) (c 0 _ h1.c0)))), o _ 1 3 _ _ (by omega) (o _ 1 4 _ _ (by omega) (o _ 1 2 _ _ (by omega) (World.cell?_setCell_same _ _ _ (c 1 _ h1.c1)))), o _ 2 3 _ _ (by omega) (o _ 2 4 _ _ (by omega) (World.cell?_setCell_same _ _ _ (o _ 2 1 _ _ (by omega) (c 2 _ h1.c2)))), World.cell?_setCell_same _ _ _ (o _ 3 4 _ _ (by omega) (o _ 3 2 _ _ (by omega) (o _ 3 1 _ _ (by omega) (c 3 _ h1.c3)))), o _ 4 3 _ _ (by omega) (World.cell?_setCell_same _ _ _ (o _ 4 2 _ _ (by omega) (o _ 4 1 _ _ (by omega) (c 4 _ h1.c4)))), fun j => by rw [World.frozen?_setCell, World.frozen?_setCell, World.frozen?_setCell, World.frozen?_setCell, World.frozen?_of_block (a := ⟨rb, j, none⟩) e5]; exact h1.soft j, ?_, ?_, ownT_nil, ⟨fun k e => ?_, fun k e => ?_, fun k e => ?_⟩, h1.lo, fun _ => rfl, by omega⟩, rfl, rfl, h4, h5, fun x hx => absurd hx (by simp), Nat.le_trans h7 hbel.size⟩, ⟨hbel, fun k hk hn => ⟨?_, ?_⟩⟩⟩
  · exact ownS_kept h1.ok fun k e => by
      rw [k6 k (h1.ap.1 k e).1]
      exact f5 k (ltk k e)
  · exact ownS_kept ho fun k e => by cases e; exact k6 g hgr
  · exact ⟨(h1.ap.1 k e).1, fun e2 => by have e3 : g = k := (by cases e2; rfl); have := ltk k e; omega, nofun⟩
  · have e : g = k := by cases e; rfl
    exact ⟨by omega, nofun⟩
  · cases e
  · rw [k6 k fun e => hn (.inl e)]
    exact f5 k hk
  · rintro (e | e | e | e)
    · exact hn (.inl e)
    · exact hn (.inr (.inl e))
    · have e : g = k := by cases e; rfl
      omega
    · cases e
end
end Go.Proofs.Ytkfpfbkdalbjoaa
