/-
  What log.Open returns.
-/
import Derived.Test.YtkfpfbkdalbjoaaLogRead
namespace Go.Proofs.Ytkfpfbkdalbjoaa
open Go.RowKit Go.Joins
attribute [local go_sem ↓] Go.wp_at_zero Go.wp_at_succ

section
variable {w : World} {B db : Nat} {S : Nat → Prop} {s : DSt}
/-- a log that was opened: its header, its deeds; nothing that was there is changed -/
structure OpenAt (w w' : World) (lb db fr many first : Nat) (dv : Value) (ds : List (List Chg)) (u : Nat) : Prop where
  de : ∃ l, DeedsV w' w.heap.size dv l ∧ l.map (·.chs) = ds ∧ ∀ d ∈ l, (ddV d).ownBlock ≠ some lb
  dn : dv.ownBlock ≠ some lb
  hd : LHd w' lb db fr many first u
  new : w.heap.size ≤ lb
  bel : Below w.heap.size w w'
set_option maxRecDepth 8000 in
set_option maxHeartbeats 4000000 in
theorem lopen_bad (fr many first : Int) (w : World) (hk : DK w B db S s) (h : fr < 0 ∨ many < 1 ∨ first < 1 ∨ (s.now.length : Int) - fr < many) (hf : fr ≤ 9223372036854775807) :
    Calls Try.prog 25 #[.pointer (some ⟨db, 0, none⟩), .int .i64 fr, .int .i64 many, .int .i64 first] w fun e w' => e = .returned (.tuple #[.pointer none, .slice none 0 0, errV 1]) ∧ w' = w := by
  have HS := hide (dsectors_any w hk)
  have hmany := hk.many
  clear hk
  generalize s.now.length = n at *
  have he1 : errV 1 = .iface 82 (.int .i64 1) := rfl
  rw [he1]
  clear he1
  by_cases h1 : fr < 0
  · go_enter Try.func25, Try.ntmps25
    go_wp2
    go_ret3
    exact ⟨rfl, rfl⟩
  · by_cases h2 : many < 1
    · go_enter Try.func25, Try.ntmps25
      go_wp2
      go_ret3
      exact ⟨rfl, rfl⟩
    · by_cases h3 : first < 1
      · go_enter Try.func25, Try.ntmps25
        go_wp2
        go_ret3
        exact ⟨rfl, rfl⟩
      · have h4 : (n : Int) - fr < many := by omega
        have h5 : (0 : Int) ≤ (n : Int) := by omega
        have h6 : (n : Int) ≤ 200 := by omega
        go_enter Try.func25, Try.ntmps25
        go_wp2_with (go_at_call 13; refine HS.out.mono ?_; rintro e w1 ⟨rfl, rfl⟩)
        go_ret3
        exact ⟨rfl, rfl⟩
set_option maxRecDepth 8000 in
set_option maxHeartbeats 4000000 in
theorem lopen_good (fr many first : Nat) (w : World) (hk : DK w B db S s) (hd : s.down = false) (h1 : 1 ≤ many) (h2 : 1 ≤ first) (hf : first ≤ 1500000) (hm : fr + many ≤ s.now.length) :
    Calls Try.prog 25 #[.pointer (some ⟨db, 0, none⟩), .int .i64 (fr : Int), .int .i64 (many : Int), .int .i64 (first : Int)] w fun e w' => ∃ lb dv, e = .returned (.tuple #[.pointer (some ⟨lb, 0, none⟩), dv, .nilIface]) ∧ OpenAt w w' lb db fr many first dv (deedsL (secsD s fr many) first) (usedL (secsD s fr many) first) := by
  have HS := hide (dsectors_any w hk)
  have hmany := hk.many
  have g1 : ¬ (fr : Int) < 0 := by omega
  have g2 : ¬ (many : Int) < 1 := by omega
  have g3 : ¬ (first : Int) < 1 := by omega
  have g4 : ¬ (s.now.length : Int) - (fr : Int) < (many : Int) := by omega
  have g5 : (s.now.length : Int) ≤ 200 := by omega
  have hb := below_alloc1 w (Obj.cells #[.pointer (some ⟨db, 0, none⟩), .int .i64 (fr : Int), .int .i64 (many : Int), .int .i64 (first : Int), .int .i64 0] 101)
  have HH : Hid (LHd (w.alloc (Obj.cells #[.pointer (some ⟨db, 0, none⟩), .int .i64 (fr : Int), .int .i64 (many : Int), .int .i64 (first : Int), .int .i64 0] 101)) w.heap.size db fr many first 0) := ⟨cell_new _ _ _ 0, cell_new _ _ _ 1, cell_new _ _ _ 2, cell_new _ _ _ 3, cell_new _ _ _ 4, fun j => frozen_new _ _ _ j⟩
  have HR := hide (lread_any _ (hk.on hb) HH.out (fun e => by have := hk.lt e; omega) hk.lo hd hf hm)
  have HB := hide hb
  clear hk hd hb
  generalize deedsL (secsD s fr many) first = ds at *
  generalize usedL (secsD s fr many) first = u at *
  generalize s.now.length = n at *
  go_enter Try.func25, Try.ntmps25
  go_wp2_with (first
    | (go_at_call 13; refine HS.out.mono ?_; rintro e w1 ⟨rfl, rfl⟩)
    | (go_at_call 50; refine HR.out.mono ?_; rintro e w2 ⟨dv, rfl, hra⟩; have HRA := hide hra; clear hra)
    | fail)
  go_ret3
  refine ⟨_, dv, rfl, ?_⟩
  obtain ⟨l, h3, h4, h5, h6⟩ := HRA.out
  have hz : (w1.alloc (Obj.cells #[.pointer (some ⟨db, 0, none⟩), .int .i64 (fr : Int), .int .i64 (many : Int), .int .i64 (first : Int), .int .i64 0] 101)).heap.size = w1.heap.size + 1 := by simp
  have hlow : ∀ v : Value, ∀ e z n xs, w2.ownsRow (w1.alloc (Obj.cells #[.pointer (some ⟨db, 0, none⟩), .int .i64 (fr : Int), .int .i64 (many : Int), .int .i64 (first : Int), .int .i64 0] 101)).heap.size e z v n xs → v.ownBlock ≠ some w1.heap.size := fun v e z n xs ho he => by
    have := (World.ownsRow.lt ho _ he).1
    rw [hz] at this
    omega
  refine ⟨⟨l, ⟨ownsRow_le h3.1 (by rw [hz]; omega), fun d hd => ownCh_le (h3.2.1 d hd) (by rw [hz]; omega), h3.2.2⟩, h4, fun d hd => hlow _ _ _ _ _ (h3.2.1 d hd)⟩, hlow _ _ _ _ _ h3.1, h5, Nat.le_refl _, ?_⟩
  exact ⟨h6.bel.os.trans HB.out.os, h6.bel.tape.trans HB.out.tape, h6.bel.output.trans HB.out.output, Nat.le_trans HB.out.size h6.bel.size, fun k hk => (h6.far k (by rw [hz]; omega) (by omega)).trans (HB.out.block k hk)⟩
end
end Go.Proofs.Ytkfpfbkdalbjoaa
