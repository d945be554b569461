/-
  The document's disk as it lies in memory; what its step, Read and noughts return.
-/
import Derived.Test.YtkfpfbkdalbjoaaDskL
import Derived.Test.YtkfpfbkdalbjoaaDskNew
import Derived.Deep.AppendLies
import Derived.Laws.IdiomStrings
namespace Go.Proofs.Ytkfpfbkdalbjoaa
open Go.RowKit Go.Joins
attribute [local go_sem ↓] Go.wp_at_zero Go.wp_at_succ

def strV (d : ByteArray) : Value := .string d
def cellT (x : Nat × ByteArray) : List Value := [.int .i64 (x.1 : Int), .string x.2]
def ownS (w : World) (B : Nat) (v : Value) (l : List ByteArray) : Prop := w.ownsRow B 9 1 v l.length (l.map strV)
def ownT (w : World) (B : Nat) (v : Value) (l : List (Nat × ByteArray)) : Prop := w.ownsRow B 95 2 v l.length (l.flatMap cellT)
structure RD (w : World) (B rb : Nat) (kv nv tv : Value) (s : DSt) (F : Int) : Prop where
  c0 : w.cell? ⟨rb, 0, none⟩ = some kv
  c1 : w.cell? ⟨rb, 1, none⟩ = some nv
  c2 : w.cell? ⟨rb, 2, none⟩ = some tv
  c3 : w.cell? ⟨rb, 3, none⟩ = some (.int .i64 F)
  c4 : w.cell? ⟨rb, 4, none⟩ = some (.bool s.down)
  soft : ∀ j, w.frozen? ⟨rb, j, none⟩ = false
  ok : ownS w B kv s.kept
  on : ownS w B nv s.now
  ot : ownT w B tv s.wait
  ap : (∀ k, kv.ownBlock = some k → k ≠ rb ∧ nv.ownBlock ≠ some k ∧ tv.ownBlock ≠ some k) ∧ (∀ k, nv.ownBlock = some k → k ≠ rb ∧ tv.ownBlock ≠ some k) ∧ ∀ k, tv.ownBlock = some k → k ≠ rb
  lo : B ≤ rb
  fu : s.down = false → F = s.left
  fl : -1 ≤ F ∧ F ≤ 9223372036854775807
def inR (rb : Nat) (kv nv tv : Value) (k : Nat) : Prop := k = rb ∨ kv.ownBlock = some k ∨ nv.ownBlock = some k ∨ tv.ownBlock = some k
/-- the document's disk, and its blocks -/
def RK (w : World) (B rb : Nat) (S : Nat → Prop) (s : DSt) : Prop := ∃ kv nv tv F, RD w B rb kv nv tv s F ∧ S = inR rb kv nv tv ∧ s.kept.length = s.now.length ∧ 1 ≤ s.now.length ∧ s.now.length ≤ 200 ∧ (∀ x ∈ s.wait, x.1 < s.now.length) ∧ B ≤ w.heap.size
def ActK (w w' : World) (B rb : Nat) (S : Nat → Prop) (s : DSt) : Prop := ∃ S', RK w' B rb S' s ∧ StepV w w' B S S'
theorem ownS_kept {w w' : World} {B : Nat} {v : Value} {l : List ByteArray} (h : ownS w B v l) (hk : ∀ k, v.ownBlock = some k → w'.heap[k]? = w.heap[k]?) : ownS w' B v l := by
  refine ⟨h.1, ?_⟩
  rcases h.2 with e | ⟨g, cap, cur, rfl, hB, hg, h3⟩
  · exact .inl e
  · exact .inr ⟨g, cap, cur, rfl, hB, (hk g rfl).trans hg, h3⟩
theorem ownT_kept {w w' : World} {B : Nat} {v : Value} {l : List (Nat × ByteArray)} (h : ownT w B v l) (hk : ∀ k, v.ownBlock = some k → w'.heap[k]? = w.heap[k]?) : ownT w' B v l := by
  refine ⟨h.1, ?_⟩
  rcases h.2 with e | ⟨g, cap, cur, rfl, hB, hg, h3⟩
  · exact .inl e
  · exact .inr ⟨g, cap, cur, rfl, hB, (hk g rfl).trans hg, h3⟩
section
variable {w w' : World} {B rb : Nat} {S : Nat → Prop} {s : DSt} {kv nv tv : Value} {F : Int}
theorem RD.lt (h : RD w B rb kv nv tv s F) {k : Nat} (hk : inR rb kv nv tv k) : k < w.heap.size := by
  rcases hk with rfl | e | e | e
  · exact World.block_lt_of_cell? _ _ h.c0
  · exact (World.ownsRow.lt h.ok k e).2
  · exact (World.ownsRow.lt h.on k e).2
  · exact (World.ownsRow.lt h.ot k e).2
theorem RD.kept (h : RD w B rb kv nv tv s F) (hk : ∀ k, inR rb kv nv tv k → w'.heap[k]? = w.heap[k]?) : RD w' B rb kv nv tv s F :=
  have e := hk rb (.inl rfl)
  ⟨(World.cell?_of_block (a := ⟨rb, 0, none⟩) e).trans h.c0, (World.cell?_of_block (a := ⟨rb, 1, none⟩) e).trans h.c1, (World.cell?_of_block (a := ⟨rb, 2, none⟩) e).trans h.c2, (World.cell?_of_block (a := ⟨rb, 3, none⟩) e).trans h.c3, (World.cell?_of_block (a := ⟨rb, 4, none⟩) e).trans h.c4, fun j => (World.frozen?_of_block (a := ⟨rb, j, none⟩) e).trans (h.soft j), ownS_kept h.ok fun k e => hk k (.inr (.inl e)), ownS_kept h.on fun k e => hk k (.inr (.inr (.inl e))), ownT_kept h.ot fun k e => hk k (.inr (.inr (.inr e))), h.ap, h.lo, h.fu, h.fl⟩
theorem RK.lt (h : RK w B rb S s) {k : Nat} (hk : S k) : k < w.heap.size := by
  obtain ⟨kv, nv, tv, F, h1, rfl, _⟩ := h
  exact h1.lt hk
theorem RK.rb_in (h : RK w B rb S s) : S rb := by
  obtain ⟨kv, nv, tv, F, h1, rfl, _⟩ := h
  exact .inl rfl
theorem RK.low (h : RK w B rb S s) {k : Nat} (hk : S k) : B ≤ k := by
  obtain ⟨kv, nv, tv, F, h1, rfl, _⟩ := h
  rcases hk with rfl | e | e | e
  · exact h1.lo
  · exact (World.ownsRow.lt h1.ok k e).1
  · exact (World.ownsRow.lt h1.on k e).1
  · exact (World.ownsRow.lt h1.ot k e).1
theorem RK.kept (h : RK w B rb S s) (hs : w.heap.size ≤ w'.heap.size) (hk : ∀ k, S k → w'.heap[k]? = w.heap[k]?) : RK w' B rb S s := by
  obtain ⟨kv, nv, tv, F, h1, rfl, h3, h4, h5, h6, h7⟩ := h
  exact ⟨kv, nv, tv, F, h1.kept hk, rfl, h3, h4, h5, h6, Nat.le_trans h7 hs⟩
theorem RK.on (h : RK w B rb S s) (hb : Below w.heap.size w w') : RK w' B rb S s := h.kept hb.size fun k hk => hb.block k (h.lt hk)
theorem RK.lo (h : RK w B rb S s) : B ≤ w.heap.size := by
  obtain ⟨kv, nv, tv, F, h1, rfl, h3, h4, h5, h6, h7⟩ := h
  exact h7
theorem RK.stay (h : RK w B rb S s) (hb : Below w.heap.size w w') : ActK w w' B rb S s := ⟨S, h.on hb, .on h.lo hb⟩
theorem ActK.after {w1 w2 : World} {S1 : Nat → Prop} (hs : StepV w w1 B S S1) (ha : ActK w1 w2 B rb S1 s) : ActK w w2 B rb S s := by
  obtain ⟨S2, hq, h2⟩ := ha
  exact ⟨S2, hq, hs.trans h2⟩
theorem stepV_cell (hS : S rb) (hB : B ≤ rb) (j : Nat) (v : Value) : StepV w (w.setCell ⟨rb, j, none⟩ v) B S S :=
  ⟨(Below.refl _ _).setCell (p := ⟨rb, j, none⟩) hB v, fun _ _ hn => ⟨Below.heap_setCell _ _ _ _ (fun e => hn (e ▸ hS)), hn⟩⟩
set_option maxRecDepth 8000 in
set_option maxHeartbeats 1000000 in
theorem rstep_any (w : World) (h : RK w B rb S s) : Calls Try.prog 48 #[.pointer (some ⟨rb, 0, none⟩)] w fun e w' => e = .returned (.int .i64 (dstepF s : Nat)) ∧ ActK w w' B rb S (dstepD s) := by
  have HW := hide h
  obtain ⟨kv, nv, tv, F, h1, hS, h3, h4, h5, h6, h7⟩ := h
  have c3 := h1.c3
  have c4 := h1.c4
  have f3 := h1.soft 3
  have f4 := h1.soft 4
  have hlo := h1.lo
  have hfl := h1.fl
  have HST : Hid (∀ (W : World) (s' : DSt) (F' : Int), W.cell? ⟨rb, 0, none⟩ = some kv → W.cell? ⟨rb, 1, none⟩ = some nv → W.cell? ⟨rb, 2, none⟩ = some tv → W.cell? ⟨rb, 3, none⟩ = some (.int .i64 F') → W.cell? ⟨rb, 4, none⟩ = some (.bool s'.down) → (∀ j, W.frozen? ⟨rb, j, none⟩ = false) → (∀ k, k ≠ rb → W.heap[k]? = w.heap[k]?) → W.heap.size = w.heap.size → Below B w W → s'.now = s.now → s'.kept = s.kept → s'.wait = s.wait → (s'.down = false → F' = s'.left) → (-1 ≤ F' ∧ F' ≤ 9223372036854775807) → ActK w W B rb S s') := fun W s' F' a0 a1 a2 a3 a4 a5 a6 a7 a8 b1 b2 b3 b4 b5 => by
    refine ⟨S, ⟨kv, nv, tv, F', ⟨a0, a1, a2, a3, a4, a5, ?_, ?_, ?_, h1.ap, h1.lo, b4, b5⟩, hS, by rw [b1, b2]; exact h3, by rw [b1]; exact h4, by rw [b1]; exact h5, by rw [b3, b1]; exact h6, by rw [a7]; exact h7⟩, ⟨a8, fun k _ hn => ⟨a6 k (fun e => hn (by rw [hS, e]; exact .inl rfl)), hn⟩⟩⟩
    · rw [b2]; exact ownS_kept h1.ok fun k e => a6 k (h1.ap.1 k e).1
    · rw [b1]; exact ownS_kept h1.on fun k e => a6 k (h1.ap.2.1 k e).1
    · rw [b3]; exact ownT_kept h1.ot fun k e => a6 k (h1.ap.2.2 k e)
  have H1 := hide h1
  clear h1 h3 h4 h5 h6 hS h7
  rcases Bool.eq_false_or_eq_true s.down with hd | hd
  · rw [hd] at c4
    obtain ⟨e1, e2⟩ := dstep_down hd
    rw [e1, e2]
    clear HST H1 e1 e2
    go_enter Try.func48, Try.ntmps48
    go_wp2
    go_ret
    exact ⟨rfl, HW.out.stay (Below.refl _ _)⟩
  · rw [hd] at c4
    have hF := H1.out.fu hd
    by_cases hL : F = 0
    · obtain ⟨e1, e2⟩ := dstep_fall hd (by rw [← hF]; exact hL)
      rw [e1, e2]
      have HE := hide (HST.out ((w.setCell ⟨rb, 4, none⟩ (.bool true)).setCell ⟨rb, 3, none⟩ (.int .i64 (-1))) { s with down := true } (-1) (by simp [World.cell?_setCell_other, H1.out.c0]) (by simp [World.cell?_setCell_other, H1.out.c1]) (by simp [World.cell?_setCell_other, H1.out.c2]) (World.cell?_setCell_same _ _ _ ((World.cell?_setCell_other _ _ _ _ (by simp)).trans c3)) ((World.cell?_setCell_other _ _ _ _ (by simp)).trans (World.cell?_setCell_same _ _ _ c4)) (fun j => by rw [World.frozen?_setCell, World.frozen?_setCell]; exact H1.out.soft j) (fun k hk => by rw [Below.heap_setCell _ _ _ _ hk, Below.heap_setCell _ _ _ _ hk]) (by simp) (((Below.refl _ _).setCell (p := ⟨rb, 4, none⟩) hlo _).setCell (p := ⟨rb, 3, none⟩) hlo _) rfl rfl rfl (fun e => by cases e) ⟨by decide, by decide⟩)
      subst hL
      clear HST H1 HW e1 e2 hF
      go_enter Try.func48, Try.ntmps48
      go_wp2
      go_ret
      exact ⟨rfl, HE.out⟩
    · have hL' : (F == 0) = false := by simpa using hL
      obtain ⟨e1, e2⟩ := dstep_go hd (show s.left ≠ 0 by rw [← hF]; exact hL)
      rw [e1]
      by_cases hp : 0 < F
      · rw [e2, if_pos (by rw [← hF]; exact hp), ← hF]
        have HE := hide (HST.out (w.setCell ⟨rb, 3, none⟩ (.int .i64 (F - 1))) { s with left := F - 1 } (F - 1) ((World.cell?_setCell_other _ _ _ _ (by simp)).trans H1.out.c0) ((World.cell?_setCell_other _ _ _ _ (by simp)).trans H1.out.c1) ((World.cell?_setCell_other _ _ _ _ (by simp)).trans H1.out.c2) (World.cell?_setCell_same _ _ _ c3) ((World.cell?_setCell_other _ _ _ _ (by simp)).trans H1.out.c4) (fun j => by rw [World.frozen?_setCell]; exact H1.out.soft j) (fun k hk => Below.heap_setCell _ _ _ _ hk) (by simp) ((Below.refl _ _).setCell (p := ⟨rb, 3, none⟩) hlo _) rfl rfl rfl (fun _ => rfl) (by omega))
        clear HST H1 HW e1 e2 hF
        go_enter Try.func48, Try.ntmps48
        go_wp2
        go_ret
        exact ⟨rfl, HE.out⟩
      · have e4 : dstepD s = s := by rw [e2, if_neg (by rw [← hF]; exact hp)]
        rw [e4]
        clear HST H1 e1 e2 e4 hF
        go_enter Try.func48, Try.ntmps48
        go_wp2
        go_ret
        exact ⟨rfl, HW.out.stay (Below.refl _ _)⟩
/-- a row of texts that is not empty lies somewhere -/
theorem ownS_some {v : Value} {l : List ByteArray} (h : ownS w B v l) (hl : 0 < l.length) : ∃ g cap, v = .slice (some ⟨g, 0, none⟩) l.length cap ∧ ∀ i (hi : i < l.length), w.cell? ⟨g, i, none⟩ = some (.string l[i]) := by
  rcases h.2 with ⟨_, e⟩ | ⟨g, cap, cur, e, _⟩
  · omega
  · refine ⟨g, cap, e, fun i hi => ?_⟩
    have := World.ownsRow.cells h (g := g) (by rw [e]; rfl) i (.string l[i]) (by rw [List.getElem?_map, List.getElem?_eq_getElem hi]; rfl)
    rwa [Go.Addr.add_mid, Nat.zero_add] at this
set_option maxRecDepth 8000 in
set_option maxHeartbeats 1000000 in
theorem rread_any (at_ : Int) (w : World) (h : RK w B rb S s) : Calls Try.prog 17 #[.pointer (some ⟨rb, 0, none⟩), .int .i64 at_] w fun e w' => e = .returned (.tuple #[.string (dreadD s at_), .int .i64 (dreadF s at_ : Nat)]) ∧ w' = w := by
  obtain ⟨kv, nv, tv, F, h1, hS, h3, h4, h5, h6, h7⟩ := h
  have c1 := h1.c1
  have c4 := h1.c4
  obtain ⟨g, cap, hnv, hce⟩ := ownS_some h1.on (by omega)
  rw [hnv] at c1
  unfold dreadD dreadF
  cases hd : s.down with
  | true =>
    rw [hd] at c4
    simp only [if_true, show (10 : Nat) = 0 ↔ False by decide, if_false]
    clear h1 hS h6 hce hnv
    go_enter Try.func17, Try.ntmps17
    go_wp2
    go_ret2
    exact ⟨rfl, rfl⟩
  | false =>
    rw [hd] at c4
    simp only [Bool.false_eq_true, if_false]
    by_cases hlow : at_ < 0
    · have hr' : at_ < 0 ∨ (s.now.length : Int) ≤ at_ := .inl hlow
      rw [if_pos hr', if_neg (by decide)]
      clear hr'
      clear h1 hS h6 hce hnv
      go_enter Try.func17, Try.ntmps17
      go_wp2
      go_ret2
      exact ⟨rfl, rfl⟩
    · by_cases hr : (s.now.length : Int) ≤ at_
      · have hr' : at_ < 0 ∨ (s.now.length : Int) ≤ at_ := .inr hr
        rw [if_pos hr', if_neg (by decide)]
        clear hr'
        clear h1 hS h6 hce hnv
        go_enter Try.func17, Try.ntmps17
        go_wp2
        go_ret2
        exact ⟨rfl, rfl⟩
      · have hr' : ¬ (at_ < 0 ∨ (s.now.length : Int) ≤ at_) := by omega
        rw [if_neg hr', if_pos rfl]
        clear hr'
        obtain ⟨a, rfl⟩ := Int.eq_ofNat_of_zero_le (show 0 ≤ at_ by omega)
        have ha : a < s.now.length := by omega
        have ha' : (a : Int) < (s.now.length : Int) := by omega
        rw [Int.toNat_natCast, List.getElem?_eq_getElem ha, Option.getD_some]
        have ca := hce a ha
        generalize s.now[a] = dd at *
        clear h1 hS h6 hce hnv h3
        go_enter Try.func17, Try.ntmps17
        go_wp2
        go_ret2
        exact ⟨rfl, rfl⟩
end
end Go.Proofs.Ytkfpfbkdalbjoaa

/-
  What the document's noughts, Write and Flush of a disk return and leave.
-/
namespace Go.Proofs.Ytkfpfbkdalbjoaa
open Go.RowKit Go.Joins
attribute [local go_sem ↓] Go.wp_at_zero Go.wp_at_succ

theorem byte_parts : ∃ i, Try.prog.info? 5 = some i ∧ i.zero = some (.int .u8 0) ∧ i.size = 1 ∧ i.bytes = 1 := by
  have h : (Try.prog.info? 5).map (fun i => (i.zero, i.size, i.bytes)) = some (some (.int .u8 0), 1, 1) := by kernel_rfl
  cases hi : Try.prog.info? 5 with
  | none => rw [hi] at h; cases h
  | some i =>
    rw [hi] at h
    simp only [Option.map_some, Option.some.injEq, Prod.mk.injEq] at h
    exact ⟨i, rfl, h.1, h.2.1, h.2.2⟩
set_option maxRecDepth 8000 in
set_option maxHeartbeats 1000000 in
theorem noughts_any (n : Nat) (hn : n ≤ 96) (w : World) : Calls Try.prog 44 #[.int .i64 n] w fun e w' => e = .returned (.string (zerosB n)) ∧ Below w.heap.size w w' := by
  obtain ⟨i, hi, hz, hs, hb⟩ := byte_parts
  have hc : madeCells (Value.int .u8 0).cells (n * 1) = (List.replicate n (Value.int .u8 0)).toArray := by
    apply Array.ext'
    rw [Nat.mul_one]
    rcases range_zero (Value.int .u8 0).cells n (.int .u8 0) rfl with e | e
    · exact e
    · cases e
  have h := run_makeSlice (P := Try.prog) w 92 5 i (.int .u8 0) Try.underlying92 hi hz .i64 .i64 n n (by omega) (Int.le_refl _) (by rw [hs, Int.toNat_natCast]; omega) (by rw [hb]; omega) (by omega)
  rw [hs, Int.toNat_natCast, hc] at h
  have hcv := run_convert_bytes_back (P := Try.prog) (w.alloc (.cells (List.replicate n (Value.int .u8 0)).toArray 5)) 92 9 5 ⟨w.heap.size, 0, none⟩ n (List.replicate n 0) Try.underlying92 Try.underlying5 Try.underlying9 (fun j hj => by
    rw [Go.Addr.add_mid, Nat.zero_add, cell_new, List.getElem?_toArray, List.getElem?_replicate, if_pos (by simpa using hj)]
    simp)
  rw [List.length_replicate] at hcv
  have hbb := below_alloc1 w (.cells (List.replicate n (Value.int .u8 0)).toArray 5)
  have HB := hide hbb
  clear hbb hc
  generalize (List.replicate n (Value.int .u8 0)).toArray = Z at *
  go_enter Try.func44, Try.ntmps44
  go_wp2
  go_ret
  exact ⟨rfl, HB.out⟩
end Go.Proofs.Ytkfpfbkdalbjoaa

/-
  What the document's Write of a disk returns and leaves.
-/
namespace Go.Proofs.Ytkfpfbkdalbjoaa
open Go.RowKit Go.Joins
attribute [local go_sem ↓] Go.wp_at_zero Go.wp_at_succ

section
variable {w : World} {B rb : Nat} {S : Nat → Prop} {s : DSt}
theorem ownS_block {g n cap : Nat} {l : List ByteArray} (h : ownS w B (.slice (some ⟨g, 0, none⟩) n cap) l) : ∃ cur : List Value, w.heap[g]? = some (.cells cur.toArray 9 (0, 0)) ∧ B ≤ g ∧ n = l.length ∧ l.length ≤ cap ∧ cap ≤ maxLen ∧ cur.length = cap ∧ cur.take l.length = l.map strV := by
  rcases h.2 with ⟨e, _⟩ | ⟨g', cap', cur, e, hB, hg, h3, h4, h5, h6⟩
  · cases e
  · cases e
    exact ⟨cur.toList, by simpa using hg, hB, rfl, h3, h4, by rw [Array.length_toList, h5, Nat.mul_one], by rw [Nat.mul_one] at h6; exact h6⟩
theorem ownS_set {g n cap : Nat} {l : List ByteArray} (h : ownS w B (.slice (some ⟨g, 0, none⟩) n cap) l) (i : Nat) (d : ByteArray) : ownS (w.setCell ⟨g, i, none⟩ (.string d)) B (.slice (some ⟨g, 0, none⟩) n cap) (l.set i d) := by
  obtain ⟨cur, hg, hB, rfl, h3, h4, h5, h6⟩ := ownS_block h
  refine ⟨by simp, .inr ⟨g, cap, (cur.set i (.string d)).toArray, by rw [List.length_set], hB, ?_, by rw [List.length_set]; exact h3, h4, by simp [h5], ?_⟩⟩
  · rw [setCell_eq_setRow w g i cur.toArray _ _ _ hg, setRow_heap w g cur.toArray _ _ _ hg]
    simp
  · rw [List.length_set, Nat.mul_one]
    show (cur.set i (.string d)).take l.length = _
    rw [List.take_set, h6, List.map_set]
    rfl
theorem pad_cat (d : ByteArray) : d ++ zerosB (96 - d.size) = dpadB d := by
  unfold dpadB zerosB
  cases d with
  | mk a =>
    show ByteArray.mk _ = _
    congr 1
theorem turn_parts : ∃ i z, Try.prog.info? 95 = some i ∧ i.zero = some z ∧ i.size = 2 ∧ i.bytes = 24 ∧ z.cells.size = 2 := by
  have h : (Try.prog.info? 95).bind (fun i => i.zero.map fun z => (z.cells.size, i.size, i.bytes)) = some (2, 2, 24) := by kernel_rfl
  cases hi : Try.prog.info? 95 with
  | none => rw [hi] at h; cases h
  | some i =>
    rw [hi] at h
    cases hz : i.zero with
    | none => simp [hz] at h
    | some z =>
      simp only [Option.bind_some, hz, Option.map_some, Option.some.injEq, Prod.mk.injEq] at h
      exact ⟨i, z, rfl, hz, h.2.1, h.2.2, h.1⟩
/-- a write more, of both lists -/
theorem RK.laid {w3 w5 : World} {g cap5 a : Nat} {kv tv : Value} {gn cn : Nat} {F : Int} {d : ByteArray} (h1 : RD w B rb kv (.slice (some ⟨gn, 0, none⟩) s.now.length cn) tv s F) (h3 : s.kept.length = s.now.length) (h4 : 1 ≤ s.now.length) (h5 : s.now.length ≤ 200) (h6 : ∀ x ∈ s.wait, x.1 < s.now.length) (h7 : B ≤ w.heap.size) (ha : a < s.now.length)
    (e3 : w3 = w.setCell ⟨gn, a, none⟩ (.string d)) (ho : w5.ownsRow B 95 2 (.slice (some ⟨g, 0, none⟩) (s.wait.length + 1) cap5) (s.wait.length + 1) (s.wait.flatMap cellT ++ cellT (a, d))) (hgrow : World.grownBy (w3.alloc (.cells (cellT (a, d)).toArray 95)) w5 tv.ownBlock) (hat : tv.ownBlock = some g ∨ g = w3.heap.size + 1) :
    ActK w (w5.setCell ⟨rb, 2, none⟩ (.slice (some ⟨g, 0, none⟩) (s.wait.length + 1) cap5)) B rb (inR rb kv (.slice (some ⟨gn, 0, none⟩) s.now.length cn) tv) (laidD s a d) := by
  subst e3
  have hz3 : (w.setCell ⟨gn, a, none⟩ (.string d)).heap.size = w.heap.size := by simp
  have hza : ((w.setCell ⟨gn, a, none⟩ (.string d)).alloc (.cells (cellT (a, d)).toArray 95)).heap.size = w.heap.size + 1 := by simp
  have ltr : rb < w.heap.size := h1.lt (.inl rfl)
  have ltn : gn < w.heap.size := h1.lt (k := gn) (.inr (.inr (.inl rfl)))
  have hgn : gn ≠ rb ∧ tv.ownBlock ≠ some gn := h1.ap.2.1 gn rfl
  have hkn : kv.ownBlock ≠ some gn := fun e => (h1.ap.1 gn e).2.1 rfl
  have f5 : ∀ k, k < w.heap.size → tv.ownBlock ≠ some k → k ≠ gn → w5.heap[k]? = w.heap[k]? := fun k hk hn hg => by
    rw [hgrow.block k (by rw [hza]; omega) (Ne.symm hn), (below_alloc1 (w.setCell ⟨gn, a, none⟩ (.string d)) _).block k (by rw [hz3]; exact hk)]
    exact Below.heap_setCell _ _ _ _ hg
  have f5n : w5.heap[gn]? = (w.setCell ⟨gn, a, none⟩ (.string d)).heap[gn]? := by
    rw [hgrow.block gn (by rw [hza]; omega) (Ne.symm hgn.2), (below_alloc1 (w.setCell ⟨gn, a, none⟩ (.string d)) _).block gn (by rw [hz3]; exact ltn)]
  have htr : tv.ownBlock ≠ some rb := fun e => h1.ap.2.2 rb e rfl
  have e5 : w5.heap[rb]? = w.heap[rb]? := f5 rb ltr htr hgn.1.symm
  have hgr : g ≠ rb := by
    rcases hat with e | e
    · exact fun e2 => htr (e2 ▸ e)
    · rw [hz3] at e; omega
  have hgl : ∀ k, inR rb kv (.slice (some ⟨gn, 0, none⟩) s.now.length cn) tv k → tv.ownBlock ≠ some k → g ≠ k := fun k hk hn => by
    rcases hat with e | e
    · exact fun e2 => hn (e2 ▸ e)
    · have := h1.lt hk; rw [hz3] at e; omega
  have k6 : ∀ k, k ≠ rb → (w5.setCell ⟨rb, 2, none⟩ (.slice (some ⟨g, 0, none⟩) (s.wait.length + 1) cap5)).heap[k]? = w5.heap[k]? := fun k hk => Below.heap_setCell _ _ _ _ hk
  have c : ∀ j v, w.cell? ⟨rb, j, none⟩ = some v → w5.cell? ⟨rb, j, none⟩ = some v := fun j v hv => (World.cell?_of_block (a := ⟨rb, j, none⟩) e5).trans hv
  have hbel : Below B w (w5.setCell ⟨rb, 2, none⟩ (.slice (some ⟨g, 0, none⟩) (s.wait.length + 1) cap5)) := by
    have b1 := (Below.refl B w).setCell (p := ⟨gn, a, none⟩) (World.ownsRow.lt h1.on gn rfl).1 (.string d)
    have b2 := b1.trans ((below_alloc1 (w.setCell ⟨gn, a, none⟩ (.string d)) (.cells (cellT (a, d)).toArray 95)).mono (by rw [hz3]; exact h7))
    exact (b2.grown hgrow (by rw [hza]; omega) (fun k hk => (World.ownsRow.lt h1.ot k hk).1)).setCell (p := ⟨rb, 2, none⟩) h1.lo _
  refine ⟨inR rb kv (.slice (some ⟨gn, 0, none⟩) s.now.length cn) (.slice (some ⟨g, 0, none⟩) (s.wait.length + 1) cap5), ⟨kv, _, _, F, ⟨(World.cell?_setCell_other _ _ _ _ (by simp)).trans (c 0 _ h1.c0), (World.cell?_setCell_other _ _ _ _ (by simp)).trans (c 1 _ h1.c1), World.cell?_setCell_same _ _ _ (c 2 _ h1.c2), (World.cell?_setCell_other _ _ _ _ (by simp)).trans (c 3 _ h1.c3), (World.cell?_setCell_other _ _ _ _ (by simp)).trans (c 4 _ h1.c4), fun j => by rw [World.frozen?_setCell, World.frozen?_of_block (a := ⟨rb, j, none⟩) e5]; exact h1.soft j, ?_, ?_, ?_, ⟨fun k e => ?_, fun k e => ?_, fun k e => ?_⟩, h1.lo, h1.fu, h1.fl⟩, rfl, ?_, ?_, ?_, ?_, Nat.le_trans h7 hbel.size⟩, ⟨hbel, fun k hk hn => ⟨?_, ?_⟩⟩⟩
  · exact ownS_kept h1.ok fun k e => by
      obtain ⟨p1, p2, p3⟩ := h1.ap.1 k e
      rw [k6 k p1]
      exact f5 k (h1.lt (.inr (.inl e))) p3 fun e2 => p2 (by rw [e2]; rfl)
  · refine ownS_kept (ownS_set h1.on a d) fun k e => ?_
    cases e
    rw [k6 gn hgn.1, f5n]
  · have : ownT w5 B (.slice (some ⟨g, 0, none⟩) (s.wait.length + 1) cap5) (laidD s a d).wait := by
      unfold ownT laidD
      simp only [List.length_append, List.flatMap_append]
      show w5.ownsRow B _ 2 _ (s.wait.length + 1) (_ ++ (cellT (a, d) ++ []))
      rw [List.append_nil]
      exact ho
    exact ownT_kept this fun k e => by cases e; exact k6 g hgr
  · obtain ⟨p1, p2, p3⟩ := h1.ap.1 k e
    exact ⟨p1, p2, fun e2 => by cases e2; exact hgl g (.inr (.inl e)) p3 rfl⟩
  · cases e
    exact ⟨hgn.1, fun e2 => by cases e2; exact hgl g (.inr (.inr (.inl rfl))) hgn.2 rfl⟩
  · cases e; exact hgr
  · show s.kept.length = (s.now.set a d).length
    rw [List.length_set]; exact h3
  · show 1 ≤ (s.now.set a d).length
    rw [List.length_set]; exact h4
  · show (s.now.set a d).length ≤ 200
    rw [List.length_set]; exact h5
  · intro x hx
    show x.1 < (s.now.set a d).length
    rw [List.length_set]
    rcases List.mem_append.1 hx with hx | hx
    · exact h6 x hx
    · rw [List.mem_singleton] at hx; rw [hx]; exact ha
  · rw [k6 k fun e => hn (.inl e)]
    exact f5 k hk (fun e => hn (.inr (.inr (.inr e)))) fun e => hn (.inr (.inr (.inl (by rw [e]; rfl))))
  · rintro (e | e | e | e)
    · exact hn (.inl e)
    · exact hn (.inr (.inl e))
    · exact hn (.inr (.inr (.inl e)))
    · have e : g = k := by cases e; rfl
      rcases hat with e2 | e2
      · exact hn (.inr (.inr (.inr (e ▸ e2))))
      · rw [hz3] at e2; omega
end
end Go.Proofs.Ytkfpfbkdalbjoaa

/-
  The document's Write of a disk: its walk.
-/
namespace Go.Proofs.Ytkfpfbkdalbjoaa
open Go.RowKit Go.Joins
attribute [local go_sem ↓] Go.wp_at_zero Go.wp_at_succ

theorem dstepD_keeps (s : DSt) : (dstepD s).now = s.now ∧ (dstepD s).wait = s.wait := by
  unfold dstepD
  split
  · exact ⟨rfl, rfl⟩
  · split <;> exact ⟨rfl, rfl⟩
section
variable {w : World} {B rb : Nat} {S : Nat → Prop} {s : DSt}
theorem laid_rb {w3 w5 : World} {a : Nat} {kv tv : Value} {gn cn : Nat} {F : Int} {d : ByteArray} (h1 : RD w B rb kv (.slice (some ⟨gn, 0, none⟩) s.now.length cn) tv s F) (e3 : w3 = w.setCell ⟨gn, a, none⟩ (.string d)) (hgrow : World.grownBy (w3.alloc (.cells (cellT (a, d)).toArray 95)) w5 tv.ownBlock) : w5.heap[rb]? = w.heap[rb]? := by
  subst e3
  have ltr : rb < w.heap.size := h1.lt (.inl rfl)
  rw [hgrow.block rb (by simp; omega) (Ne.symm fun e => h1.ap.2.2 rb e rfl), (below_alloc1 (w.setCell ⟨gn, a, none⟩ (.string d)) _).block rb (by simp; exact ltr)]
  exact Below.heap_setCell _ _ _ _ (h1.ap.2.1 gn rfl).1.symm
theorem laid_ot {a : Nat} {kv tv : Value} {gn cn : Nat} {F : Int} {d : ByteArray} (h1 : RD w B rb kv (.slice (some ⟨gn, 0, none⟩) s.now.length cn) tv s F) : ownT ((w.setCell ⟨gn, a, none⟩ (.string d)).alloc (.cells (cellT (a, d)).toArray 95)) B tv s.wait := by
  refine ownT_kept h1.ot fun k e => ?_
  rw [(below_alloc1 (w.setCell ⟨gn, a, none⟩ (.string d)) _).block k (by simp; exact h1.lt (.inr (.inr (.inr e))))]
  exact Below.heap_setCell _ _ _ _ fun e2 => (h1.ap.2.1 gn rfl).2 (e.trans (congrArg some e2))
theorem laid_new (a : Nat) (w : World) (gn : Nat) (d : ByteArray) : ((w.setCell ⟨gn, a, none⟩ (.string d)).alloc (.cells (cellT (a, d)).toArray 95)).heap[w.heap.size]? = some (.cells (cellT (a, d)).toArray 95 (0, 0)) := by
  have h := heap_alloc_new (w.setCell ⟨gn, a, none⟩ (.string d)) (.cells (cellT (a, d)).toArray 95)
  rw [show (w.setCell ⟨gn, a, none⟩ (.string d)).heap.size = w.heap.size by simp] at h
  exact h
set_option maxRecDepth 8000 in
set_option maxHeartbeats 1000000 in
theorem rwrite_any (at_ : Int) (d : ByteArray) (w : World) (h : RK w B rb S s) (hwl : s.wait.length ≤ 1000000) : Calls Try.prog 15 #[.pointer (some ⟨rb, 0, none⟩), .int .i64 at_, .string d] w fun e w' => e = .returned (.int .i64 (dwriteF s at_ d : Nat)) ∧ ActK w w' B rb S (dwriteD s at_ d) := by
  have HST := hide (rstep_any w h)
  have HW := hide h
  obtain ⟨kv, nv, tv, F, h1, hS, h3, h4, h5, h6, h7⟩ := h
  have c1 := h1.c1
  obtain ⟨gn, cn, hnv, hce⟩ := ownS_some h1.on (by omega)
  rw [hnv] at c1
  clear h1 hS h6 hce hnv
  unfold dwriteF dwriteD
  by_cases hr : at_ < 0 ∨ (s.now.length : Int) ≤ at_ ∨ 96 < d.size
  · rw [if_pos hr, if_pos hr]
    clear HST
    by_cases hlow : at_ < 0
    · clear hr
      go_enter Try.func15, Try.ntmps15
      go_wp2
      go_ret
      exact ⟨rfl, HW.out.stay (Below.refl _ _)⟩
    · by_cases hhi : (s.now.length : Int) ≤ at_
      · clear hr
        go_enter Try.func15, Try.ntmps15
        go_wp2
        go_ret
        exact ⟨rfl, HW.out.stay (Below.refl _ _)⟩
      · have h96 : (96 : Int) < (d.size : Int) := by omega
        clear hr
        go_enter Try.func15, Try.ntmps15
        go_wp2
        go_ret
        exact ⟨rfl, HW.out.stay (Below.refl _ _)⟩
  · rw [if_neg hr, if_neg hr]
    have h96 : ¬ (96 : Int) < (d.size : Int) := by omega
    have hd96 : d.size ≤ 96 := by omega
    obtain ⟨a, rfl⟩ := Int.eq_ofNat_of_zero_le (show 0 ≤ at_ by omega)
    rw [Int.toNat_natCast]
    have hlow : ¬ (a : Int) < 0 := by omega
    have hhi : ¬ (s.now.length : Int) ≤ (a : Int) := by omega
    have ha : a < s.now.length := by omega
    have hNW := dstepD_keeps s
    have hWW := hNW.2
    replace hNW := hNW.1
    have ha1 : a < (dstepD s).now.length := by rw [hNW]; exact ha
    rw [← hWW] at hwl
    have HNL := hide hNW
    clear hNW hWW hr
    generalize dstepD s = s1 at *
    generalize dstepF s = f at *
    by_cases hf : f = 0
    · subst hf
      rw [if_pos rfl]
      have hcast : ((96 - d.size : Nat) : Int) = 96 - (d.size : Int) := by omega
      obtain ⟨i0, z0, hi0, hz0, hi2, hi24, hzc⟩ := turn_parts
      have hn96 : 96 - d.size ≤ 96 := by omega
      have hzs : (zerosB (96 - d.size)).size = 96 - d.size := by unfold zerosB; show (List.replicate (96 - d.size) _).toArray.size = _; rw [List.size_toArray, List.length_replicate]
      have hsz : ¬ 9223372036854775807 < d.size + (zerosB (96 - d.size)).size := by rw [hzs]; omega
      clear hzs
      go_enter Try.func15, Try.ntmps15
      go_wp2_with (fail)
      go_at_call 48
      refine HST.out.mono ?_
      rintro e w2 ⟨rfl, ha2⟩
      obtain ⟨S2, hk2, hs2⟩ := ha2
      have HK2 := hide hk2
      have HS2 := hide hs2
      have hno := noughts_any (96 - d.size) hn96 w2
      rw [hcast] at hno
      have HNO := hide hno
      clear hno hk2 hs2 c1
      go_wp2_with (fail)
      go_at_call 44
      refine HNO.out.mono ?_
      rintro e w3 ⟨rfl, hb3⟩
      have HK3 := hide (HK2.out.on hb3)
      have HS3 := hide (HS2.out.trans (.on HK2.out.lo hb3))
      clear hb3 HK2 HS2 HNO
      obtain ⟨kv3, nv3, tv3, F3, g1, gS, g3, g4, g5, g6, g7⟩ := HK3.out
      have c1 := g1.c1
      have G1 := hide g1
      obtain ⟨gn3, cn3, hnv3, hce3⟩ := ownS_some g1.on (by omega)
      rw [hnv3] at c1
      subst hnv3
      have ca := hce3 a ha1
      have fa : w3.frozen? ⟨gn3, a, none⟩ = false := World.ownsRow.frozenAt g1.on a
      have hc2 : (w3.setCell ⟨gn3, a, none⟩ (.string (dpadB d))).cell? ⟨rb, 2, none⟩ = some tv3 := (World.cell?_setCell_other _ _ _ _ (by simp; exact fun e => absurd e (g1.ap.2.1 gn3 rfl).1)).trans g1.c2
      clear g1 hce3
      generalize s1.now[a] = dd at ca
      have hpc := pad_cat d
      have hal : (a : Int) < (s1.now.length : Int) := (by omega)
      go_wp2_with (first | (at_builtin; (refine wpList_append_lies _ rfl _ _ _ rfl B 95 i0 _ 2 24 Try.underlying49 hi0 hz0 hi2 hi24 hzc (by omega) tv3 s1.wait.length (s1.wait.flatMap cellT) rfl (laid_ot G1.out) ⟨w3.heap.size, 0, none⟩ 1 1 (cellT (a, dpadB d)) rfl rfl (World.news_of_block (cs := (cellT (a, dpadB d)).toArray) (t := 95) (fr := (0, 0)) (laid_new a w3 gn3 (dpadB d))) (by simp [cellT, Value.oneCell']) (by omega) (by unfold maxLen; omega) (by omega) (by simp; omega) (w3.heap.size + 1) (by simp) ?_; intro g5b cap5 w5 ho hgr hat hlt; have c5 := (World.cell?_of_block (a := ⟨rb, 2, none⟩) (laid_rb G1.out rfl hgr)).trans G1.out.c2; have f5 := (World.frozen?_of_block (a := ⟨rb, 2, none⟩) (laid_rb G1.out rfl hgr)).trans (G1.out.soft 2); have HO := hide ho; have HG := hide hgr; have HA := hide hat; clear ho hgr hat hlt hc2 c1 ca fa)))
      go_ret
      subst gS
      exact ⟨rfl, ActK.after HS3.out (RK.laid G1.out g3 g4 g5 g6 g7 ha1 rfl HO.out HG.out (HA.out.imp id fun e => by rw [e]; simp))⟩
    · rw [if_neg hf]
      have hf0 : (0 : Int) < (f : Int) := by omega
      clear hf
      go_enter Try.func15, Try.ntmps15
      go_wp2_with (go_at_call 48; refine HST.out.mono ?_; rintro e w2 ⟨rfl, ha2⟩)
      go_ret
      exact ⟨rfl, ha2⟩
end
end Go.Proofs.Ytkfpfbkdalbjoaa

/-
  What the document's Flush of a disk returns and leaves.
-/
namespace Go.Proofs.Ytkfpfbkdalbjoaa
open Go.RowKit Go.Joins
attribute [local go_sem ↓] Go.wp_at_zero Go.wp_at_succ

theorem text_parts : ∃ i z, Try.prog.info? 9 = some i ∧ i.zero = some z ∧ i.size = 1 ∧ i.bytes = 16 ∧ z.cells.size = 1 := by
  have h : (Try.prog.info? 9).bind (fun i => i.zero.map fun z => (z.cells.size, i.size, i.bytes)) = some (1, 1, 16) := by kernel_rfl
  cases hi : Try.prog.info? 9 with
  | none => rw [hi] at h; cases h
  | some i =>
    rw [hi] at h
    cases hz : i.zero with
    | none => simp [hz] at h
    | some z =>
      simp only [Option.bind_some, hz, Option.map_some, Option.some.injEq, Prod.mk.injEq] at h
      exact ⟨i, z, rfl, hz, h.2.1, h.2.2, h.1⟩
theorem ownS_nil {w : World} {B : Nat} : w.ownsRow B 9 1 (.slice none 0 0) 0 [] := ⟨rfl, .inl ⟨rfl, rfl⟩⟩
theorem ownT_nil {w : World} {B : Nat} : ownT w B (.slice none 0 0) [] := ⟨rfl, .inl ⟨rfl, rfl⟩⟩
section
variable {w : World} {B rb : Nat} {S : Nat → Prop} {s : DSt}
theorem ownS_news {g n cap : Nat} {l : List ByteArray} (h : ownS w B (.slice (some ⟨g, 0, none⟩) n cap) l) : ∀ j u, (l.map strV)[j]? = some u → w.cell? ((⟨g, 0, none⟩ : Addr).add j) = some u := fun j u hj => World.ownsRow.cells h (g := g) rfl j u hj
/-- all is written down -/
theorem RK.flushed {w5 : World} {g cap5 : Nat} {kv nv tv : Value} {F : Int} (h1 : RD w B rb kv nv tv s F) (h4 : 1 ≤ s.now.length) (h5 : s.now.length ≤ 200) (h7 : B ≤ w.heap.size)
    (ho : w5.ownsRow B 9 1 (.slice (some ⟨g, 0, none⟩) s.now.length cap5) s.now.length (s.now.map strV)) (hgrow : World.grownBy w w5 none) (hat : g = w.heap.size) :
    ActK w ((w5.setCell ⟨rb, 0, none⟩ (.slice (some ⟨g, 0, none⟩) s.now.length cap5)).setCell ⟨rb, 2, none⟩ (.slice none 0 0)) B rb (inR rb kv nv tv) { s with kept := s.now, wait := [] } := by
  have ltr : rb < w.heap.size := h1.lt (.inl rfl)
  have f5 : ∀ k, k < w.heap.size → w5.heap[k]? = w.heap[k]? := fun k hk => hgrow.block k hk nofun
  have e5 : w5.heap[rb]? = w.heap[rb]? := f5 rb ltr
  have k6 : ∀ k, k ≠ rb → ((w5.setCell ⟨rb, 0, none⟩ (.slice (some ⟨g, 0, none⟩) s.now.length cap5)).setCell ⟨rb, 2, none⟩ (.slice none 0 0)).heap[k]? = w5.heap[k]? := fun k hk => (Below.heap_setCell _ _ _ _ hk).trans (Below.heap_setCell _ _ _ _ hk)
  have c : ∀ j v, w.cell? ⟨rb, j, none⟩ = some v → w5.cell? ⟨rb, j, none⟩ = some v := fun j v hv => (World.cell?_of_block (a := ⟨rb, j, none⟩) e5).trans hv
  have hgr : g ≠ rb := by omega
  have ltn : ∀ k, nv.ownBlock = some k → k < w.heap.size := fun k e => h1.lt (.inr (.inr (.inl e)))
  have hbel : Below B w ((w5.setCell ⟨rb, 0, none⟩ (.slice (some ⟨g, 0, none⟩) s.now.length cap5)).setCell ⟨rb, 2, none⟩ (.slice none 0 0)) := by
    have b2 := (Below.refl B w).grown hgrow h7 (fun k hk => by cases hk)
    exact (b2.setCell (p := ⟨rb, 0, none⟩) h1.lo _).setCell (p := ⟨rb, 2, none⟩) h1.lo _
  refine ⟨inR rb (.slice (some ⟨g, 0, none⟩) s.now.length cap5) nv (.slice none 0 0), ⟨_, nv, _, F, ⟨(World.cell?_setCell_other _ _ _ _ (by simp)).trans (World.cell?_setCell_same _ _ _ (c 0 _ h1.c0)), (World.cell?_setCell_other _ _ _ _ (by simp)).trans ((World.cell?_setCell_other _ _ _ _ (by simp)).trans (c 1 _ h1.c1)), World.cell?_setCell_same _ _ _ ((World.cell?_setCell_other _ _ _ _ (by simp)).trans (c 2 _ h1.c2)), (World.cell?_setCell_other _ _ _ _ (by simp)).trans ((World.cell?_setCell_other _ _ _ _ (by simp)).trans (c 3 _ h1.c3)), (World.cell?_setCell_other _ _ _ _ (by simp)).trans ((World.cell?_setCell_other _ _ _ _ (by simp)).trans (c 4 _ h1.c4)), fun j => by rw [World.frozen?_setCell, World.frozen?_setCell, World.frozen?_of_block (a := ⟨rb, j, none⟩) e5]; exact h1.soft j, ?_, ?_, ownT_nil, ⟨fun k e => ?_, fun k e => ?_, fun k e => ?_⟩, h1.lo, h1.fu, h1.fl⟩, rfl, rfl, h4, h5, fun x hx => absurd hx (by simp), Nat.le_trans h7 hbel.size⟩, ⟨hbel, fun k hk hn => ⟨?_, ?_⟩⟩⟩
  · exact ownS_kept ho fun k e => by cases e; exact k6 g hgr
  · exact ownS_kept h1.on fun k e => by
      rw [k6 k (h1.ap.2.1 k e).1]
      exact f5 k (ltn k e)
  · have e : g = k := by cases e; rfl
    exact ⟨by omega, fun e2 => by have := ltn k e2; omega, nofun⟩
  · exact ⟨(h1.ap.2.1 k e).1, nofun⟩
  · cases e
  · rw [k6 k fun e => hn (.inl e)]
    exact f5 k hk
  · rintro (e | e | e | e)
    · exact hn (.inl e)
    · have e : g = k := by cases e; rfl
      omega
    · exact hn (.inr (.inr (.inl e)))
    · cases e
set_option maxRecDepth 8000 in
set_option maxHeartbeats 1000000 in
theorem rflush_any (w : World) (h : RK w B rb S s) : Calls Try.prog 19 #[.pointer (some ⟨rb, 0, none⟩)] w fun e w' => e = .returned (.int .i64 (dstepF s : Nat)) ∧ ActK w w' B rb S (flushD s) := by
  have HST := hide (rstep_any w h)
  unfold flushD
  rw [← (dstepD_keeps s).1]
  generalize dstepD s = s1 at *
  generalize dstepF s = f at *
  by_cases hf : f = 0
  · subst hf
    rw [if_pos rfl]
    obtain ⟨i0, z0, hi0, hz0, hi2, hi24, hzc⟩ := text_parts
    go_enter Try.func19, Try.ntmps19
    go_wp2_with (first
      | (go_at_call 48; refine HST.out.mono ?_; rintro e w3 ⟨rfl, ha2⟩; obtain ⟨S2, hk2, hs2⟩ := ha2; have HK3 := hide hk2; have HS3 := hide hs2; clear hk2 hs2; obtain ⟨kv3, nv3, tv3, F3, g1, gS, g3, g4, g5, g6, g7⟩ := HK3.out; have c1 := g1.c1; have c0 := g1.c0; have f0 := g1.soft 0; have G1 := hide g1; obtain ⟨gn3, cn3, hnv3, hce3⟩ := ownS_some g1.on (by omega); rw [hnv3] at c1; subst hnv3; clear g1 hce3)
      | (at_builtin; (refine wpList_append_lies _ rfl _ _ _ rfl B 9 i0 _ 1 16 Try.underlying48 hi0 hz0 hi2 hi24 hzc (by omega) (.slice none 0 0) 0 [] rfl ownS_nil ⟨gn3, 0, none⟩ s1.now.length cn3 (s1.now.map strV) rfl (by rw [List.length_map, Nat.mul_one]) (ownS_news G1.out.on) (by simp [strV, Value.oneCell']) (by omega) (by unfold maxLen; omega) (by omega) g7 w3.heap.size rfl ?_; intro g5b cap5 w5 ho hgr hat hlt; rw [Nat.zero_add, List.nil_append] at ho; rw [Nat.zero_add]; have e5 : w5.heap[rb]? = w3.heap[rb]? := hgr.block rb (G1.out.lt (.inl rfl)) nofun; have d0 := (World.cell?_of_block (a := ⟨rb, 0, none⟩) e5).trans G1.out.c0; have d2 := (World.cell?_of_block (a := ⟨rb, 2, none⟩) e5).trans G1.out.c2; have f0 := (World.frozen?_of_block (a := ⟨rb, 0, none⟩) e5).trans (G1.out.soft 0); have f2 := (World.frozen?_of_block (a := ⟨rb, 2, none⟩) e5).trans (G1.out.soft 2); have HO := hide ho; have HG := hide hgr; have HA := hide hat; clear ho hgr hat hlt c1 c0 e5)))
    go_ret
    subst gS
    exact ⟨rfl, ActK.after HS3.out (RK.flushed G1.out g4 g5 g7 HO.out HG.out (HA.out.resolve_left nofun))⟩
  · rw [if_neg hf]
    have hf0 : (0 : Int) < (f : Int) := by omega
    clear hf
    go_enter Try.func19, Try.ntmps19
    go_wp2_with (go_at_call 48; refine HST.out.mono ?_; rintro e w2 ⟨rfl, ha2⟩)
    go_ret
    exact ⟨rfl, ha2⟩
end
end Go.Proofs.Ytkfpfbkdalbjoaa

/-
  What the document's Restart of a disk leaves: plain facts.
-/
namespace Go.Proofs.Ytkfpfbkdalbjoaa
open Go.RowKit Go.Joins
attribute [local go_sem ↓] Go.wp_at_zero Go.wp_at_succ

section
variable {w : World} {B rb : Nat} {S : Nat → Prop} {s : DSt} {kv nv tv : Value} {F : Int}
theorem keepL_more (k : Int) : ∀ (l : List (Nat × ByteArray)) (x : Nat × ByteArray) (i : Nat) (K : List ByteArray), keepL k i (l ++ [x]) K = if keepB k ((i + l.length) % 64) then (keepL k i l K).set x.1 x.2 else keepL k i l K
  | [], x, i, K => by simp [keepL]
  | y :: l, x, i, K => by
    rw [List.cons_append]
    show keepL k (i + 1) (l ++ [x]) _ = if _ then (keepL k (i + 1) l _).set x.1 x.2 else keepL k (i + 1) l _
    rw [keepL_more k l x (i + 1), show i + 1 + l.length = i + (y :: l).length by rw [List.length_cons]; omega]
theorem keepL_take (k : Int) (l : List (Nat × ByteArray)) (i : Nat) (hi : i < l.length) (K : List ByteArray) : keepL k 0 (l.take (i + 1)) K = if keepB k (i % 64) then (keepL k 0 (l.take i) K).set l[i].1 l[i].2 else keepL k 0 (l.take i) K := by
  rw [List.take_succ_eq_append_getElem hi, keepL_more, List.length_take, Nat.zero_add, Nat.min_eq_left (Nat.le_of_lt hi)]
/-- one sector of what is kept -/
theorem RD.keptSet {gk n ck : Nat} (h1 : RD w B rb (.slice (some ⟨gk, 0, none⟩) n ck) nv tv s F) (a : Nat) (d : ByteArray) : RD (w.setCell ⟨gk, a, none⟩ (.string d)) B rb (.slice (some ⟨gk, 0, none⟩) n ck) nv tv { s with kept := s.kept.set a d } F := by
  obtain ⟨p1, p2, p3⟩ := h1.ap.1 gk rfl
  have k6 : ∀ k, k ≠ gk → (w.setCell ⟨gk, a, none⟩ (.string d)).heap[k]? = w.heap[k]? := fun k hk => Below.heap_setCell _ _ _ _ hk
  have e := k6 rb p1.symm
  exact ⟨(World.cell?_of_block (a := ⟨rb, 0, none⟩) e).trans h1.c0, (World.cell?_of_block (a := ⟨rb, 1, none⟩) e).trans h1.c1, (World.cell?_of_block (a := ⟨rb, 2, none⟩) e).trans h1.c2, (World.cell?_of_block (a := ⟨rb, 3, none⟩) e).trans h1.c3, (World.cell?_of_block (a := ⟨rb, 4, none⟩) e).trans h1.c4, fun j => (World.frozen?_of_block (a := ⟨rb, j, none⟩) e).trans (h1.soft j), ownS_set h1.ok a d, ownS_kept h1.on fun k e => k6 k fun e2 => p2 (e2 ▸ e), ownT_kept h1.ot fun k e => k6 k fun e2 => p3 (e2 ▸ e), h1.ap, h1.lo, h1.fu, h1.fl⟩
theorem stepV_kept {gk n ck : Nat} (h1 : RD w B rb (.slice (some ⟨gk, 0, none⟩) n ck) nv tv s F) (a : Nat) (d : ByteArray) : StepV w (w.setCell ⟨gk, a, none⟩ (.string d)) B (inR rb (.slice (some ⟨gk, 0, none⟩) n ck) nv tv) (inR rb (.slice (some ⟨gk, 0, none⟩) n ck) nv tv) :=
  ⟨(Below.refl _ _).setCell (p := ⟨gk, a, none⟩) (World.ownsRow.lt h1.ok gk rfl).1 _, fun _ _ hn => ⟨Below.heap_setCell _ _ _ _ fun e => hn (.inr (.inl (congrArg some e.symm))), hn⟩⟩
theorem ownT_cells {gt n ct : Nat} {l : List (Nat × ByteArray)} (h : ownT w B (.slice (some ⟨gt, 0, none⟩) n ct) l) (i : Nat) (hi : i < l.length) : w.cell? ⟨gt, i * 2, none⟩ = some (.int .i64 (l[i].1 : Int)) ∧ w.cell? ⟨gt, i * 2 + 1, none⟩ = some (.string l[i].2) := by
  have e : ∀ c u, c < 2 → (cellT l[i])[c]? = some u → w.cell? ⟨gt, i * 2 + c, none⟩ = some u := fun c u hc hu => by
    have := World.ownsRow.cells h (g := gt) rfl (i * 2 + c) u (by rw [dflat_get (f := cellT) (z := 2) (fun _ _ => rfl) i c hi hc]; exact hu)
    rwa [Go.Addr.add_mid, Nat.zero_add] at this
  exact ⟨e 0 _ (by omega) rfl, e 1 _ (by omega) rfl⟩
theorem ownT_some {v : Value} {l : List (Nat × ByteArray)} (h : ownT w B v l) : (v = .slice none 0 0 ∧ l.length = 0) ∨ ∃ g cap, v = .slice (some ⟨g, 0, none⟩) l.length cap := by
  rcases h.2 with ⟨e, e2⟩ | ⟨g, cap, cur, e, _⟩
  · exact .inl ⟨e, e2⟩
  · exact .inr ⟨g, cap, e⟩
/-- what is kept is read again -/
theorem RK.again {w5 : World} {g cap5 : Nat} (h1 : RD w B rb kv nv tv s F) (h4 : 1 ≤ s.kept.length) (h5 : s.kept.length ≤ 200) (h7 : B ≤ w.heap.size)
    (ho : w5.ownsRow B 9 1 (.slice (some ⟨g, 0, none⟩) s.kept.length cap5) s.kept.length (s.kept.map strV)) (hgrow : World.grownBy w w5 none) (hat : g = w.heap.size) :
    ActK w ((((w5.setCell ⟨rb, 1, none⟩ (.slice (some ⟨g, 0, none⟩) s.kept.length cap5)).setCell ⟨rb, 2, none⟩ (.slice none 0 0)).setCell ⟨rb, 4, none⟩ (.bool false)).setCell ⟨rb, 3, none⟩ (.int .i64 (-1))) B rb (inR rb kv nv tv) ⟨s.kept, s.kept, [], -1, false⟩ := by
  have ltr : rb < w.heap.size := h1.lt (.inl rfl)
  have f5 : ∀ k, k < w.heap.size → w5.heap[k]? = w.heap[k]? := fun k hk => hgrow.block k hk nofun
  have e5 : w5.heap[rb]? = w.heap[rb]? := f5 rb ltr
  have k6 : ∀ k, k ≠ rb → ((((w5.setCell ⟨rb, 1, none⟩ (.slice (some ⟨g, 0, none⟩) s.kept.length cap5)).setCell ⟨rb, 2, none⟩ (.slice none 0 0)).setCell ⟨rb, 4, none⟩ (.bool false)).setCell ⟨rb, 3, none⟩ (.int .i64 (-1))).heap[k]? = w5.heap[k]? := fun k hk => (Below.heap_setCell _ _ _ _ hk).trans ((Below.heap_setCell _ _ _ _ hk).trans ((Below.heap_setCell _ _ _ _ hk).trans (Below.heap_setCell _ _ _ _ hk)))
  have c : ∀ j v, w.cell? ⟨rb, j, none⟩ = some v → w5.cell? ⟨rb, j, none⟩ = some v := fun j v hv => (World.cell?_of_block (a := ⟨rb, j, none⟩) e5).trans hv
  have o : ∀ (W : World) (i j : Nat) (u v : Value), i ≠ j → W.cell? ⟨rb, i, none⟩ = some u → (W.setCell ⟨rb, j, none⟩ v).cell? ⟨rb, i, none⟩ = some u := fun W i j u v hij hu => (World.cell?_setCell_other _ _ _ _ (by intro e; cases e; exact hij rfl)).trans hu
  have hgr : g ≠ rb := by omega
  have ltk : ∀ k, kv.ownBlock = some k → k < w.heap.size := fun k e => h1.lt (.inr (.inl e))
  have hbel : Below B w ((((w5.setCell ⟨rb, 1, none⟩ (.slice (some ⟨g, 0, none⟩) s.kept.length cap5)).setCell ⟨rb, 2, none⟩ (.slice none 0 0)).setCell ⟨rb, 4, none⟩ (.bool false)).setCell ⟨rb, 3, none⟩ (.int .i64 (-1))) := by
    have b2 := (Below.refl B w).grown hgrow h7 (fun k hk => by cases hk)
    exact (((b2.setCell (p := ⟨rb, 1, none⟩) h1.lo _).setCell (p := ⟨rb, 2, none⟩) h1.lo _).setCell (p := ⟨rb, 4, none⟩) h1.lo _).setCell (p := ⟨rb, 3, none⟩) h1.lo _
  refine ⟨inR rb kv (.slice (some ⟨g, 0, none⟩) s.kept.length cap5) (.slice none 0 0), ⟨kv, _, _, -1, ⟨o _ 0 3 _ _ (by omega) (o _ 0 4 _ _ (by omega) (o _ 0 2 _ _ (by omega) (o _ 0 1 _ _ (by omega) (c 0 _ h1.c0)))), o _ 1 3 _ _ (by omega) (o _ 1 4 _ _ (by omega) (o _ 1 2 _ _ (by omega) (World.cell?_setCell_same _ _ _ (c 1 _ h1.c1)))), o _ 2 3 _ _ (by omega) (o _ 2 4 _ _ (by omega) (World.cell?_setCell_same _ _ _ (o _ 2 1 _ _ (by omega) (c 2 _ h1.c2)))), World.cell?_setCell_same _ _ _ (o _ 3 4 _ _ (by omega) (o _ 3 2 _ _ (by omega) (o _ 3 1 _ _ (by omega) (c 3 _ h1.c3)))), o _ 4 3 _ _ (by omega) (World.cell?_setCell_same _ _ _ (o _ 4 2 _ _ (by omega) (o _ 4 1 _ _ (by omega) (c 4 _ h1.c4)))), fun j => by rw [World.frozen?_setCell, World.frozen?_setCell, World.frozen?_setCell, World.frozen?_setCell, World.frozen?_of_block (a := ⟨rb, j, none⟩) e5]; exact h1.soft j, ?_, ?_, ownT_nil, ⟨fun k e => ?_, fun k e => ?_, fun k e => ?_⟩, h1.lo, fun _ => rfl, by omega⟩, rfl, rfl, h4, h5, fun x hx => absurd hx (by simp), Nat.le_trans h7 hbel.size⟩, ⟨hbel, fun k hk hn => ⟨?_, ?_⟩⟩⟩
  · exact ownS_kept h1.ok fun k e => by
      rw [k6 k (h1.ap.1 k e).1]
      exact f5 k (ltk k e)
  · exact ownS_kept ho fun k e => by cases e; exact k6 g hgr
  · exact ⟨(h1.ap.1 k e).1, fun e2 => by have e3 : g = k := (by cases e2; rfl); have := ltk k e; omega, nofun⟩
  · have e : g = k := by cases e; rfl
    exact ⟨by omega, nofun⟩
  · cases e
  · rw [k6 k fun e => hn (.inl e)]
    exact f5 k hk
  · rintro (e | e | e | e)
    · exact hn (.inl e)
    · exact hn (.inr (.inl e))
    · have e : g = k := by cases e; rfl
      omega
    · cases e
end
end Go.Proofs.Ytkfpfbkdalbjoaa
