/-
  The document's disk as it lies in memory; what its step, Read and noughts return.
-/
import Derived.Test.YtkfpfbkdalbjoaaDskL
import Derived.Test.YtkfpfbkdalbjoaaStepV
import Derived.Test.YtkfpfbkdalbjoaaDskNew
import Derived.Deep.AppendLies
namespace Go.Proofs.Ytkfpfbkdalbjoaa
open Go.RowKit Go.Joins
attribute [local go_sem ↓] Go.wp_at_zero Go.wp_at_succ

def strV (d : ByteArray) : Value := .string d
def cellT (x : Nat × ByteArray) : List Value := [.int .i64 (x.1 : Int), .string x.2]
def ownS (w : World) (B : Nat) (v : Value) (l : List ByteArray) : Prop := w.ownsRow B 9 1 v l.length (l.map strV)
def ownT (w : World) (B : Nat) (v : Value) (l : List (Nat × ByteArray)) : Prop := w.ownsRow B 95 2 v l.length (l.flatMap cellT)
structure RD (w : World) (B rb : Nat) (kv nv tv : Value) (s : DSt) (F : Int) : Prop where
  c0 : w.cell? ⟨rb, 0, none⟩ = some kv
  c1 : w.cell? ⟨rb, 1, none⟩ = some nv
  c2 : w.cell? ⟨rb, 2, none⟩ = some tv
  c3 : w.cell? ⟨rb, 3, none⟩ = some (.int .i64 F)
  c4 : w.cell? ⟨rb, 4, none⟩ = some (.bool s.down)
  soft : ∀ j, w.frozen? ⟨rb, j, none⟩ = false
  ok : ownS w B kv s.kept
  on : ownS w B nv s.now
  ot : ownT w B tv s.wait
  ap : (∀ k, kv.ownBlock = some k → k ≠ rb ∧ nv.ownBlock ≠ some k ∧ tv.ownBlock ≠ some k) ∧ (∀ k, nv.ownBlock = some k → k ≠ rb ∧ tv.ownBlock ≠ some k) ∧ ∀ k, tv.ownBlock = some k → k ≠ rb
  lo : B ≤ rb
  fu : s.down = false → F = s.left
  fl : -1 ≤ F ∧ F ≤ 9223372036854775807
def inR (rb : Nat) (kv nv tv : Value) (k : Nat) : Prop := k = rb ∨ kv.ownBlock = some k ∨ nv.ownBlock = some k ∨ tv.ownBlock = some k
/-- the document's disk, and its blocks -/
def RK (w : World) (B rb : Nat) (S : Nat → Prop) (s : DSt) : Prop := ∃ kv nv tv F, RD w B rb kv nv tv s F ∧ S = inR rb kv nv tv ∧ s.kept.length = s.now.length ∧ 1 ≤ s.now.length ∧ s.now.length ≤ 200 ∧ (∀ x ∈ s.wait, x.1 < s.now.length) ∧ B ≤ w.heap.size
def ActK (w w' : World) (B rb : Nat) (S : Nat → Prop) (s : DSt) : Prop := ∃ S', RK w' B rb S' s ∧ StepV w w' B S S'
theorem ownS_kept {w w' : World} {B : Nat} {v : Value} {l : List ByteArray} (h : ownS w B v l) (hk : ∀ k, v.ownBlock = some k → w'.heap[k]? = w.heap[k]?) : ownS w' B v l := by
  refine ⟨h.1, ?_⟩
  rcases h.2 with e | ⟨g, cap, cur, rfl, hB, hg, h3⟩
  · exact .inl e
  · exact .inr ⟨g, cap, cur, rfl, hB, (hk g rfl).trans hg, h3⟩
theorem ownT_kept {w w' : World} {B : Nat} {v : Value} {l : List (Nat × ByteArray)} (h : ownT w B v l) (hk : ∀ k, v.ownBlock = some k → w'.heap[k]? = w.heap[k]?) : ownT w' B v l := by
  refine ⟨h.1, ?_⟩
  rcases h.2 with e | ⟨g, cap, cur, rfl, hB, hg, h3⟩
  · exact .inl e
  · exact .inr ⟨g, cap, cur, rfl, hB, (hk g rfl).trans hg, h3⟩
section
variable {w w' : World} {B rb : Nat} {S : Nat → Prop} {s : DSt} {kv nv tv : Value} {F : Int}
theorem RD.lt (h : RD w B rb kv nv tv s F) {k : Nat} (hk : inR rb kv nv tv k) : k < w.heap.size := by
  rcases hk with rfl | e | e | e
  · exact World.block_lt_of_cell? _ _ h.c0
  · exact (World.ownsRow.lt h.ok k e).2
  · exact (World.ownsRow.lt h.on k e).2
  · exact (World.ownsRow.lt h.ot k e).2
theorem RD.kept (h : RD w B rb kv nv tv s F) (hk : ∀ k, inR rb kv nv tv k → w'.heap[k]? = w.heap[k]?) : RD w' B rb kv nv tv s F :=
  have e := hk rb (.inl rfl)
  ⟨(World.cell?_of_block (a := ⟨rb, 0, none⟩) e).trans h.c0, (World.cell?_of_block (a := ⟨rb, 1, none⟩) e).trans h.c1, (World.cell?_of_block (a := ⟨rb, 2, none⟩) e).trans h.c2, (World.cell?_of_block (a := ⟨rb, 3, none⟩) e).trans h.c3, (World.cell?_of_block (a := ⟨rb, 4, none⟩) e).trans h.c4, fun j => (World.frozen?_of_block (a := ⟨rb, j, none⟩) e).trans (h.soft j), ownS_kept h.ok fun k e => hk k (.inr (.inl e)), ownS_kept h.on fun k e => hk k (.inr (.inr (.inl e))), ownT_kept h.ot fun k e => hk k (.inr (.inr (.inr e))), h.ap, h.lo, h.fu, h.fl⟩
theorem RK.lt (h : RK w B rb S s) {k : Nat} (hk : S k) : k < w.heap.size := by
  obtain ⟨kv, nv, tv, F, h1, rfl, _⟩ := h
  exact h1.lt hk
theorem RK.rb_in (h : RK w B rb S s) : S rb := by
  obtain ⟨kv, nv, tv, F, h1, rfl, _⟩ := h
  exact .inl rfl
theorem RK.low (h : RK w B rb S s) {k : Nat} (hk : S k) : B ≤ k := by
  obtain ⟨kv, nv, tv, F, h1, rfl, _⟩ := h
  rcases hk with rfl | e | e | e
  · exact h1.lo
  · exact (World.ownsRow.lt h1.ok k e).1
  · exact (World.ownsRow.lt h1.on k e).1
  · exact (World.ownsRow.lt h1.ot k e).1
theorem RK.kept (h : RK w B rb S s) (hs : w.heap.size ≤ w'.heap.size) (hk : ∀ k, S k → w'.heap[k]? = w.heap[k]?) : RK w' B rb S s := by
  obtain ⟨kv, nv, tv, F, h1, rfl, h3, h4, h5, h6, h7⟩ := h
  exact ⟨kv, nv, tv, F, h1.kept hk, rfl, h3, h4, h5, h6, Nat.le_trans h7 hs⟩
theorem RK.on (h : RK w B rb S s) (hb : Below w.heap.size w w') : RK w' B rb S s := h.kept hb.size fun k hk => hb.block k (h.lt hk)
theorem RK.lo (h : RK w B rb S s) : B ≤ w.heap.size := by
  obtain ⟨kv, nv, tv, F, h1, rfl, h3, h4, h5, h6, h7⟩ := h
  exact h7
theorem RK.stay (h : RK w B rb S s) (hb : Below w.heap.size w w') : ActK w w' B rb S s := ⟨S, h.on hb, .on h.lo hb⟩
theorem ActK.after {w1 w2 : World} {S1 : Nat → Prop} (hs : StepV w w1 B S S1) (ha : ActK w1 w2 B rb S1 s) : ActK w w2 B rb S s := by
  obtain ⟨S2, hq, h2⟩ := ha
  exact ⟨S2, hq, hs.trans h2⟩
theorem stepV_cell (hS : S rb) (hB : B ≤ rb) (j : Nat) (v : Value) : StepV w (w.setCell ⟨rb, j, none⟩ v) B S S :=
  ⟨(Below.refl _ _).setCell (p := ⟨rb, j, none⟩) hB v, fun _ _ hn => ⟨Below.heap_setCell _ _ _ _ (fun e => hn (e ▸ hS)), hn⟩⟩
set_option maxRecDepth 8000 in
set_option maxHeartbeats 1000000 in
theorem rstep_any (w : World) (h : RK w B rb S s) : Calls Try.prog 48 #[.pointer (some ⟨rb, 0, none⟩)] w fun e w' => e = .returned (.int .i64 (dstepF s : Nat)) ∧ ActK w w' B rb S (dstepD s) := by
  have HW := hide h
  obtain ⟨kv, nv, tv, F, h1, hS, h3, h4, h5, h6, h7⟩ := h
  have c3 := h1.c3
  have c4 := h1.c4
  have f3 := h1.soft 3
  have f4 := h1.soft 4
  have hlo := h1.lo
  have hfl := h1.fl
  have HST : Hid (∀ (W : World) (s' : DSt) (F' : Int), W.cell? ⟨rb, 0, none⟩ = some kv → W.cell? ⟨rb, 1, none⟩ = some nv → W.cell? ⟨rb, 2, none⟩ = some tv → W.cell? ⟨rb, 3, none⟩ = some (.int .i64 F') → W.cell? ⟨rb, 4, none⟩ = some (.bool s'.down) → (∀ j, W.frozen? ⟨rb, j, none⟩ = false) → (∀ k, k ≠ rb → W.heap[k]? = w.heap[k]?) → W.heap.size = w.heap.size → Below B w W → s'.now = s.now → s'.kept = s.kept → s'.wait = s.wait → (s'.down = false → F' = s'.left) → (-1 ≤ F' ∧ F' ≤ 9223372036854775807) → ActK w W B rb S s') := fun W s' F' a0 a1 a2 a3 a4 a5 a6 a7 a8 b1 b2 b3 b4 b5 => by
    refine ⟨S, ⟨kv, nv, tv, F', ⟨a0, a1, a2, a3, a4, a5, ?_, ?_, ?_, h1.ap, h1.lo, b4, b5⟩, hS, by rw [b1, b2]; exact h3, by rw [b1]; exact h4, by rw [b1]; exact h5, by rw [b3, b1]; exact h6, by rw [a7]; exact h7⟩, ⟨a8, fun k _ hn => ⟨a6 k (fun e => hn (by rw [hS, e]; exact .inl rfl)), hn⟩⟩⟩
    · rw [b2]; exact ownS_kept h1.ok fun k e => a6 k (h1.ap.1 k e).1
    · rw [b1]; exact ownS_kept h1.on fun k e => a6 k (h1.ap.2.1 k e).1
    · rw [b3]; exact ownT_kept h1.ot fun k e => a6 k (h1.ap.2.2 k e)
  have H1 := hide h1
  clear h1 h3 h4 h5 h6 hS h7
  rcases Bool.eq_false_or_eq_true s.down with hd | hd
  · rw [hd] at c4
    obtain ⟨e1, e2⟩ := dstep_down hd
    rw [e1, e2]
    clear HST H1 e1 e2
    go_enter Try.func48, Try.ntmps48
    go_wp2
    go_ret
    exact ⟨rfl, HW.out.stay (Below.refl _ _)⟩
  · rw [hd] at c4
    have hF := H1.out.fu hd
    by_cases hL : F = 0
    · obtain ⟨e1, e2⟩ := dstep_fall hd (by rw [← hF]; exact hL)
      rw [e1, e2]
      have HE := hide (HST.out ((w.setCell ⟨rb, 4, none⟩ (.bool true)).setCell ⟨rb, 3, none⟩ (.int .i64 (-1))) { s with down := true } (-1) (by simp [World.cell?_setCell_other, H1.out.c0]) (by simp [World.cell?_setCell_other, H1.out.c1]) (by simp [World.cell?_setCell_other, H1.out.c2]) (World.cell?_setCell_same _ _ _ ((World.cell?_setCell_other _ _ _ _ (by simp)).trans c3)) ((World.cell?_setCell_other _ _ _ _ (by simp)).trans (World.cell?_setCell_same _ _ _ c4)) (fun j => by rw [World.frozen?_setCell, World.frozen?_setCell]; exact H1.out.soft j) (fun k hk => by rw [Below.heap_setCell _ _ _ _ hk, Below.heap_setCell _ _ _ _ hk]) (by simp) (((Below.refl _ _).setCell (p := ⟨rb, 4, none⟩) hlo _).setCell (p := ⟨rb, 3, none⟩) hlo _) rfl rfl rfl (fun e => by cases e) ⟨by decide, by decide⟩)
      subst hL
      clear HST H1 HW e1 e2 hF
      go_enter Try.func48, Try.ntmps48
      go_wp2
      go_ret
      exact ⟨rfl, HE.out⟩
    · have hL' : (F == 0) = false := by simpa using hL
      obtain ⟨e1, e2⟩ := dstep_go hd (show s.left ≠ 0 by rw [← hF]; exact hL)
      rw [e1]
      by_cases hp : 0 < F
      · rw [e2, if_pos (by rw [← hF]; exact hp), ← hF]
        have HE := hide (HST.out (w.setCell ⟨rb, 3, none⟩ (.int .i64 (F - 1))) { s with left := F - 1 } (F - 1) ((World.cell?_setCell_other _ _ _ _ (by simp)).trans H1.out.c0) ((World.cell?_setCell_other _ _ _ _ (by simp)).trans H1.out.c1) ((World.cell?_setCell_other _ _ _ _ (by simp)).trans H1.out.c2) (World.cell?_setCell_same _ _ _ c3) ((World.cell?_setCell_other _ _ _ _ (by simp)).trans H1.out.c4) (fun j => by rw [World.frozen?_setCell]; exact H1.out.soft j) (fun k hk => Below.heap_setCell _ _ _ _ hk) (by simp) ((Below.refl _ _).setCell (p := ⟨rb, 3, none⟩) hlo _) rfl rfl rfl (fun _ => rfl) (by omega))
        clear HST H1 HW e1 e2 hF
        go_enter Try.func48, Try.ntmps48
        go_wp2
        go_ret
        exact ⟨rfl, HE.out⟩
      · have e4 : dstepD s = s := by rw [e2, if_neg (by rw [← hF]; exact hp)]
        rw [e4]
        clear HST H1 e1 e2 e4 hF
        go_enter Try.func48, Try.ntmps48
        go_wp2
        go_ret
        exact ⟨rfl, HW.out.stay (Below.refl _ _)⟩
/-- a row of texts that is not empty lies somewhere -/
theorem ownS_some {v : Value} {l : List ByteArray} (h : ownS w B v l) (hl : 0 < l.length) : ∃ g cap, v = .slice (some ⟨g, 0, none⟩) l.length cap ∧ ∀ i (hi : i < l.length), w.cell? ⟨g, i, none⟩ = some (.string l[i]) := by
  rcases h.2 with ⟨_, e⟩ | ⟨g, cap, cur, e, _⟩
  · omega
  · refine ⟨g, cap, e, fun i hi => ?_⟩
    have := World.ownsRow.cells h (g := g) (by rw [e]; rfl) i (.string l[i]) (by rw [List.getElem?_map, List.getElem?_eq_getElem hi]; rfl)
    rwa [Go.Addr.add_mid, Nat.zero_add] at this
set_option maxRecDepth 8000 in
set_option maxHeartbeats 1000000 in
theorem rread_any (at_ : Int) (w : World) (h : RK w B rb S s) : Calls Try.prog 17 #[.pointer (some ⟨rb, 0, none⟩), .int .i64 at_] w fun e w' => e = .returned (.tuple #[.string (dreadD s at_), .int .i64 (dreadF s at_ : Nat)]) ∧ w' = w := by
  obtain ⟨kv, nv, tv, F, h1, hS, h3, h4, h5, h6, h7⟩ := h
  have c1 := h1.c1
  have c4 := h1.c4
  obtain ⟨g, cap, hnv, hce⟩ := ownS_some h1.on (by omega)
  rw [hnv] at c1
  unfold dreadD dreadF
  cases hd : s.down with
  | true =>
    rw [hd] at c4
    simp only [if_true, show (10 : Nat) = 0 ↔ False by decide, if_false]
    clear h1 hS h6 hce hnv
    go_enter Try.func17, Try.ntmps17
    go_wp2
    go_ret2
    exact ⟨rfl, rfl⟩
  | false =>
    rw [hd] at c4
    simp only [Bool.false_eq_true, if_false]
    by_cases hlow : at_ < 0
    · have hr' : at_ < 0 ∨ (s.now.length : Int) ≤ at_ := .inl hlow
      rw [if_pos hr', if_neg (by decide)]
      clear hr'
      clear h1 hS h6 hce hnv
      go_enter Try.func17, Try.ntmps17
      go_wp2
      go_ret2
      exact ⟨rfl, rfl⟩
    · by_cases hr : (s.now.length : Int) ≤ at_
      · have hr' : at_ < 0 ∨ (s.now.length : Int) ≤ at_ := .inr hr
        rw [if_pos hr', if_neg (by decide)]
        clear hr'
        clear h1 hS h6 hce hnv
        go_enter Try.func17, Try.ntmps17
        go_wp2
        go_ret2
        exact ⟨rfl, rfl⟩
      · have hr' : ¬ (at_ < 0 ∨ (s.now.length : Int) ≤ at_) := by omega
        rw [if_neg hr', if_pos rfl]
        clear hr'
        obtain ⟨a, rfl⟩ := Int.eq_ofNat_of_zero_le (show 0 ≤ at_ by omega)
        have ha : a < s.now.length := by omega
        have ha' : (a : Int) < (s.now.length : Int) := by omega
        rw [Int.toNat_natCast, List.getElem?_eq_getElem ha, Option.getD_some]
        have ca := hce a ha
        generalize s.now[a] = dd at *
        clear h1 hS h6 hce hnv h3
        go_enter Try.func17, Try.ntmps17
        go_wp2
        go_ret2
        exact ⟨rfl, rfl⟩
end
end Go.Proofs.Ytkfpfbkdalbjoaa
