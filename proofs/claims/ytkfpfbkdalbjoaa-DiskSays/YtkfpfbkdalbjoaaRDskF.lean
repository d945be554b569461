/-
  What the document's Flush of a disk returns and leaves.
-/
import Derived.Test.YtkfpfbkdalbjoaaRDskW2
namespace Go.Proofs.Ytkfpfbkdalbjoaa
open Go.RowKit Go.Joins
attribute [local go_sem ↓] Go.wp_at_zero Go.wp_at_succ

theorem text_parts : ∃ i z, Try.prog.info? 9 = some i ∧ i.zero = some z ∧ i.size = 1 ∧ i.bytes = 16 ∧ z.cells.size = 1 := by
  have h : (Try.prog.info? 9).bind (fun i => i.zero.map fun z => (z.cells.size, i.size, i.bytes)) = some (1, 1, 16) := by kernel_rfl
  cases hi : Try.prog.info? 9 with
  | none => rw [hi] at h; cases h
  | some i =>
    rw [hi] at h
    cases hz : i.zero with
    | none => simp [hz] at h
    | some z =>
      simp only [Option.bind_some, hz, Option.map_some, Option.some.injEq, Prod.mk.injEq] at h
      exact ⟨i, z, rfl, hz, h.2.1, h.2.2, h.1⟩
theorem ownS_nil {w : World} {B : Nat} : w.ownsRow B 9 1 (.slice none 0 0) 0 [] := ⟨rfl, .inl ⟨rfl, rfl⟩⟩
theorem ownT_nil {w : World} {B : Nat} : ownT w B (.slice none 0 0) [] := ⟨rfl, .inl ⟨rfl, rfl⟩⟩
section
variable {w : World} {B rb : Nat} {S : Nat → Prop} {s : DSt}
theorem ownS_news {g n cap : Nat} {l : List ByteArray} (h : ownS w B (.slice (some ⟨g, 0, none⟩) n cap) l) : ∀ j u, (l.map strV)[j]? = some u → w.cell? ((⟨g, 0, none⟩ : Addr).add j) = some u := fun j u hj => World.ownsRow.cells h (g := g) rfl j u hj
/-- all is written down -/
theorem RK.flushed {w5 : World} {g cap5 : Nat} {kv nv tv : Value} {F : Int} (h1 : RD w B rb kv nv tv s F) (h4 : 1 ≤ s.now.length) (h5 : s.now.length ≤ 200) (h7 : B ≤ w.heap.size)
    (ho : w5.ownsRow B 9 1 (.slice (some ⟨g, 0, none⟩) s.now.length cap5) s.now.length (s.now.map strV)) (hgrow : World.grownBy w w5 none) (hat : g = w.heap.size) :
    ActK w ((w5.setCell ⟨rb, 0, none⟩ (.slice (some ⟨g, 0, none⟩) s.now.length cap5)).setCell ⟨rb, 2, none⟩ (.slice none 0 0)) B rb (inR rb kv nv tv) { s with kept := s.now, wait := [] } := by
  have ltr : rb < w.heap.size := h1.lt (.inl rfl)
  have f5 : ∀ k, k < w.heap.size → w5.heap[k]? = w.heap[k]? := fun k hk => hgrow.block k hk nofun
  have e5 : w5.heap[rb]? = w.heap[rb]? := f5 rb ltr
  have k6 : ∀ k, k ≠ rb → ((w5.setCell ⟨rb, 0, none⟩ (.slice (some ⟨g, 0, none⟩) s.now.length cap5)).setCell ⟨rb, 2, none⟩ (.slice none 0 0)).heap[k]? = w5.heap[k]? := fun k hk => (Below.heap_setCell _ _ _ _ hk).trans (Below.heap_setCell _ _ _ _ hk)
  have c : ∀ j v, w.cell? ⟨rb, j, none⟩ = some v → w5.cell? ⟨rb, j, none⟩ = some v := fun j v hv => (World.cell?_of_block (a := ⟨rb, j, none⟩) e5).trans hv
  have hgr : g ≠ rb := by omega
  have ltn : ∀ k, nv.ownBlock = some k → k < w.heap.size := fun k e => h1.lt (.inr (.inr (.inl e)))
  have hbel : Below B w ((w5.setCell ⟨rb, 0, none⟩ (.slice (some ⟨g, 0, none⟩) s.now.length cap5)).setCell ⟨rb, 2, none⟩ (.slice none 0 0)) := by
    have b2 := (Below.refl B w).grown hgrow h7 (fun k hk => by cases hk)
    exact (b2.setCell (p := ⟨rb, 0, none⟩) h1.lo _).setCell (p := ⟨rb, 2, none⟩) h1.lo _
  refine ⟨inR rb (.slice (some ⟨g, 0, none⟩) s.now.length cap5) nv (.slice none 0 0), ⟨_, nv, _, F, ⟨(World.cell?_setCell_other _ _ _ _ (by simp)).trans (World.cell?_setCell_same _ _ _ (c 0 _ h1.c0)), (World.cell?_setCell_other _ _ _ _ (by simp)).trans ((World.cell?_setCell_other _ _ _ _ (by simp)).trans (c 1 _ h1.c1)), World.cell?_setCell_same _ _ _ ((World.cell?_setCell_other _ _ _ _ (by simp)).trans (c 2 _ h1.c2)), (World.cell?_setCell_other _ _ _ _ (by simp)).trans ((World.cell?_setCell_other _ _ _ _ (by simp)).trans (c 3 _ h1.c3)), (World.cell?_setCell_other _ _ _ _ (by simp)).trans ((World.cell?_setCell_other _ _ _ _ (by simp)).trans (c 4 _ h1.c4)), fun j => by rw [World.frozen?_setCell, World.frozen?_setCell, World.frozen?_of_block (a := ⟨rb, j, none⟩) e5]; exact h1.soft j, ?_, ?_, ownT_nil, ⟨fun k e => ?_, fun k e => ?_, fun k e => ?_⟩, h1.lo, h1.fu, h1.fl⟩, rfl, rfl, h4, h5, fun x hx => absurd hx (by simp), Nat.le_trans h7 hbel.size⟩, ⟨hbel, fun k hk hn => ⟨?_, ?_⟩⟩⟩
  · exact ownS_kept ho fun k e => by cases e; exact k6 g hgr
  · exact ownS_kept h1.on fun k e => by
      rw [k6 k (h1.ap.2.1 k e).1]
      exact f5 k (ltn k e)
  · have e : g = k := by cases e; rfl
    exact ⟨by omega, fun e2 => by have := ltn k e2; omega, nofun⟩
  · exact ⟨(h1.ap.2.1 k e).1, nofun⟩
  · cases e
  · rw [k6 k fun e => hn (.inl e)]
    exact f5 k hk
  · rintro (e | e | e | e)
    · exact hn (.inl e)
    · have e : g = k := by cases e; rfl
      omega
    · exact hn (.inr (.inr (.inl e)))
    · cases e
set_option maxRecDepth 8000 in
set_option maxHeartbeats 1000000 in
theorem rflush_any (w : World) (h : RK w B rb S s) : Calls Try.prog 19 #[.pointer (some ⟨rb, 0, none⟩)] w fun e w' => e = .returned (.int .i64 (dstepF s : Nat)) ∧ ActK w w' B rb S (flushD s) := by
  have HST := hide (rstep_any w h)
  unfold flushD
  rw [← (dstepD_keeps s).1]
  generalize dstepD s = s1 at *
  generalize dstepF s = f at *
  by_cases hf : f = 0
  · subst hf
    rw [if_pos rfl]
    obtain ⟨i0, z0, hi0, hz0, hi2, hi24, hzc⟩ := text_parts
    go_enter Try.func19, Try.ntmps19
    go_wp2_with (first
      | (go_at_call 48; refine HST.out.mono ?_; rintro e w3 ⟨rfl, ha2⟩; obtain ⟨S2, hk2, hs2⟩ := ha2; have HK3 := hide hk2; have HS3 := hide hs2; clear hk2 hs2; obtain ⟨kv3, nv3, tv3, F3, g1, gS, g3, g4, g5, g6, g7⟩ := HK3.out; have c1 := g1.c1; have c0 := g1.c0; have f0 := g1.soft 0; have G1 := hide g1; obtain ⟨gn3, cn3, hnv3, hce3⟩ := ownS_some g1.on (by omega); rw [hnv3] at c1; subst hnv3; clear g1 hce3)
      | (at_builtin; (refine wpList_append_lies _ rfl _ _ _ rfl B 9 i0 _ 1 16 Try.underlying48 hi0 hz0 hi2 hi24 hzc (by omega) (.slice none 0 0) 0 [] rfl ownS_nil ⟨gn3, 0, none⟩ s1.now.length cn3 (s1.now.map strV) rfl (by rw [List.length_map, Nat.mul_one]) (ownS_news G1.out.on) (by simp [strV, Value.oneCell']) (by omega) (by unfold maxLen; omega) (by omega) g7 w3.heap.size rfl ?_; intro g5b cap5 w5 ho hgr hat hlt; rw [Nat.zero_add, List.nil_append] at ho; rw [Nat.zero_add]; have e5 : w5.heap[rb]? = w3.heap[rb]? := hgr.block rb (G1.out.lt (.inl rfl)) nofun; have d0 := (World.cell?_of_block (a := ⟨rb, 0, none⟩) e5).trans G1.out.c0; have d2 := (World.cell?_of_block (a := ⟨rb, 2, none⟩) e5).trans G1.out.c2; have f0 := (World.frozen?_of_block (a := ⟨rb, 0, none⟩) e5).trans (G1.out.soft 0); have f2 := (World.frozen?_of_block (a := ⟨rb, 2, none⟩) e5).trans (G1.out.soft 2); have HO := hide ho; have HG := hide hgr; have HA := hide hat; clear ho hgr hat hlt c1 c0 e5)))
    go_ret
    subst gS
    exact ⟨rfl, ActK.after HS3.out (RK.flushed G1.out g4 g5 g7 HO.out HG.out (HA.out.resolve_left nofun))⟩
  · rw [if_neg hf]
    have hf0 : (0 : Int) < (f : Int) := by omega
    clear hf
    go_enter Try.func19, Try.ntmps19
    go_wp2_with (go_at_call 48; refine HST.out.mono ?_; rintro e w2 ⟨rfl, ha2⟩)
    go_ret
    exact ⟨rfl, ha2⟩
end
end Go.Proofs.Ytkfpfbkdalbjoaa
