/-
  What strconv.Atoi returns of every text that isn't great: some number, some error; where the library's two errors are laid. Nothing that was there is changed.
-/
import Derived.Test.YtpbhcjkllfonhaaGreatDoorCutWalk
import Derived.Test.YtpbhcjkllfonhaaGreatDoorShelfB
namespace Go.Proofs.YtpbhcjkllfonhaaGreatDoor
open Go.RowKit Go.Joins

def ErrIs (w : World) (name : String) : Prop := ∃ tp p, w.var? Tryz.prog name = some #[.iface tp p]
/-- the library's table and errors, as the row lists them -/
structure Laid (w : World) : Prop where
  tab : Lib.TabIs Tryz.prog w "internal/strconv.uint64pow10" .u64 Lib.pow10Tab
  syn : ErrIs w "strconv.ErrSyntax"
  rng : ErrIs w "strconv.ErrRange"
theorem syn_named : Tryz.prog.globalNamed "strconv.ErrSyntax" = some 1 := by kernel_rfl
theorem rng_named : Tryz.prog.globalNamed "strconv.ErrRange" = some 2 := by kernel_rfl
theorem laid_on {w w' : World} (h : Laid w) (hb : Below w.heap.size w w') : Laid w' := by
  obtain ⟨t, ⟨a, b, hs⟩, ⟨c, d, hr⟩⟩ := h
  exact ⟨tab_on t hb, ⟨a, b, var_stays syn_named hs hb (Nat.le_refl _)⟩, ⟨c, d, var_stays rng_named hr hb (Nat.le_refl _)⟩⟩
theorem atoi_total (s : ByteArray) (hs : s.size ≤ 1000) : ∃ x : Int, ∀ w, Laid w →
    Calls Tryz.prog 104 #[.string s] w fun e w' => (∃ ev, e = .returned (.tuple #[.int .i64 x, ev])) ∧ Below w.heap.size w w' := by
  cases h : Lib.atoiAll s.data.toList with
  | ok v =>
    refine ⟨v, fun w _ => (Tryz.strconv_Atoi_ok s (by omega) v h w).mono ?_⟩
    rintro e w' ⟨he, hw⟩
    refine ⟨⟨_, he⟩, ?_⟩
    rcases hw with rfl | ⟨t, rfl⟩
    · exact Below.refl _ _
    · exact below_bytesWorld _ w 5 t (Nat.le_refl _)
  | «syntax» =>
    refine ⟨0, fun w hL => ?_⟩
    obtain ⟨tp, p, hv⟩ := hL.syn
    refine (Tryz.strconv_Atoi_syntax_var s (by omega) h tp p w hv).mono ?_
    rintro e w' ⟨N, he, _, _, hb⟩
    exact ⟨⟨_, he⟩, hb⟩
  | range =>
    refine ⟨Lib.atoiSat s.data.toList, fun w hL => ?_⟩
    obtain ⟨tp, p, hv⟩ := hL.rng
    refine (Tryz.strconv_Atoi_range_var s (by omega) h tp p w hv).mono ?_
    rintro e w' ⟨N, he, _, _, hb⟩
    exact ⟨⟨_, he⟩, hb⟩
/-- the fields of every text: something -/
theorem split_total (s : ByteArray) (hs : s.size ≤ 1000) : ∃ (x y : Int) (r : ByteArray), r.size ≤ 1000 ∧ ∀ w, Laid w →
    Calls Tryz.prog 114 #[.string s] w fun e w' => e = .returned (.tuple #[.int .i64 x, .int .i64 y, .string r]) ∧ Below w.heap.size w w' := by
  have cut : ∀ z : ByteArray, z.size ≤ 1000 → ∃ (f b : ByteArray) (c : Bool), f.size ≤ 1000 ∧ b.size ≤ 1000 ∧ cutV z (Lib.indexByte z.data.toList 32) = .tuple #[.string f, .string b, .bool c] := by
    intro z hz
    unfold cutV
    split
    · refine ⟨_, _, _, ?_, ?_, rfl⟩
      · rw [Lib.size_eq, takeB_data, List.length_take]; have := len_data z; omega
      · rw [Lib.size_eq, dropB_data, List.length_drop]; have := len_data z; omega
    · exact ⟨_, _, _, hz, Nat.zero_le _, rfl⟩
  obtain ⟨f, b, c1, hf, hb, h1⟩ := cut s hs
  obtain ⟨g, r, c2, hg, hr, h2⟩ := cut b hb
  obtain ⟨x, hx⟩ := atoi_total f hf
  obtain ⟨y, hy⟩ := atoi_total g hg
  exact ⟨x, y, r, hr, fun w hL => split_of s f b g r c1 c2 x y w (by unfold maxLen; omega) (by unfold maxLen; omega) h1 h2 (fun w' hb' => hx w' (laid_on hL hb')) (fun w' hb' => hy w' (laid_on hL hb'))⟩
end Go.Proofs.YtpbhcjkllfonhaaGreatDoor
