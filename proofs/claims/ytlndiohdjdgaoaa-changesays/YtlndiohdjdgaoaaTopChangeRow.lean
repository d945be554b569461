/-
  Rows of changes that Put has made, or that came in, and what package change's functions return of them.
-/
import Derived.Test.YtlndiohdjdgaoaaChgText
import Derived.Test.YtlndiohdjdgaoaaChgLight
import Derived.Test.YtlndiohdjdgaoaaChgRise
import Derived.Test.YtlndiohdjdgaoaaChgPut
namespace Go.Proofs.Ytlndiohdjdgaoaa
open Go.RowKit Go.Joins

/-- changes that a slice holds, or none -/
def heldCh (w : World) (ao : Option Addr) (l : List Chg) : Prop := l = [] ∨ ∃ b off, ao = some ⟨b, off, none⟩ ∧ chgsAt w b off l
theorem heldCh_on {w w' : World} {ao : Option Addr} {l : List Chg} (hb : Below w.heap.size w w') (h : heldCh w ao l) : heldCh w' ao l := by
  rcases h with h | ⟨b, off, h, k⟩
  · exact .inl h
  · exact .inr ⟨b, off, h, chgsAt_on hb k⟩
theorem light_held (l : List Chg) (n cap : Nat) (ao : Option Addr) (w : World) (hl : heldCh w ao l) (hm : n ≤ 1000) :
    Calls Try.prog 18 #[.slice ao l.length cap, .int .i64 n] w fun e w' => e = .returned (.bool (lightChgs l n)) ∧ w' = w := by
  rcases hl with rfl | ⟨b, off, rfl, h⟩
  · exact lightChgs_nil _ _ _ _
  · exact lightChgs_some l n b off cap w h hm
/-- a list of changes that Put has made, or nil -/
def rowCh (w : World) (v : Value) (l : List Chg) : Prop := (v = .slice none 0 0 ∧ l = []) ∨ ∃ g cap, v = .slice (some ⟨g, 0, none⟩) l.length cap ∧ l.length ≤ cap ∧ cap ≤ 9223372036854775807 ∧ chgsAt w g 0 l
theorem rowCh_on {w w' : World} {v : Value} {l : List Chg} (hb : Below w.heap.size w w') (h : rowCh w v l) : rowCh w' v l := by
  rcases h with h | ⟨g, cap, h1, h2, h3, h4⟩
  · exact .inl h
  · exact .inr ⟨g, cap, h1, h2, h3, chgsAt_on hb h4⟩
theorem row_of_own {w : World} {B : Nat} {v : Value} {l : List Chg} (h : ownCh w B v l) (hn : 0 < l.length) : rowCh w v l := by
  obtain ⟨g, cap, hv, _, hc⟩ := own_chgs h hn
  rcases h.2 with ⟨_, h0⟩ | ⟨g2, cap2, cur, hv2, _, _, k1, k2, _, _⟩
  · omega
  · refine .inr ⟨g, cap, hv, ?_, ?_, hc⟩
    · rw [hv] at hv2; cases hv2; exact k1
    · rw [hv] at hv2; cases hv2; exact k2
theorem put_row (l : List Chg) (c : Chg) (v : Value) (w : World) (hv : rowCh w v l) (hn : l.length ≤ 1000) :
    Calls Try.prog 29 #[v, .agg #[.string c.key, .string c.val, .bool c.gone]] w fun e w' => ∃ u, e = .returned u ∧ rowCh w' u (insL l c) ∧ Below w.heap.size w w' := by
  rcases hv with ⟨rfl, rfl⟩ | ⟨g, cap, rfl, h1, h2, h3⟩
  · refine (put_nil c w).mono ?_
    rintro e w' ⟨u, rfl, ho, hb⟩
    exact ⟨u, rfl, row_of_own ho (Nat.zero_lt_succ _), hb⟩
  · refine (put_some l g 0 cap c w h3 h1 h2 hn).mono ?_
    rintro e w' ⟨u, rfl, ho, hb⟩
    rw [putL_ins] at ho
    exact ⟨u, rfl, row_of_own ho (ins_some l c), hb⟩
theorem find_row (l : List Chg) (c : Chg) (v : Value) (w : World) (hv : rowCh w v (insL l c)) (hn : (insL l c).length ≤ 1000) :
    Calls Try.prog 27 #[v, .string c.key] w fun e w' => e = .returned (.tuple #[.agg #[.string c.key, .string c.val, .bool c.gone], .bool true]) ∧ Below w.heap.size w w' := by
  have h0 := ins_some l c
  obtain ⟨hf, hp⟩ := ins_found l c
  rcases hv with ⟨rfl, h⟩ | ⟨g, cap, rfl, h1, h2, h3⟩
  · rw [h] at h0; simp at h0
  · obtain ⟨hlt, he⟩ := List.getElem?_eq_some_iff.1 hp
    have := find_some (insL l c) g 0 cap c.key w h3 hn _ rfl hf hlt
    rwa [he] at this
theorem same_row (l : List Chg) (v u : Value) (w : World) (hv : rowCh w v l) (hu : rowCh w u l) (h0 : 0 < l.length) (hn : l.length ≤ 1000) :
    Calls Try.prog 28 #[v, u] w fun e w' => e = .returned (.bool true) ∧ Below w.heap.size w w' := by
  rcases hv with ⟨rfl, h⟩ | ⟨g, cap, rfl, h1, h2, h3⟩
  · rw [h] at h0; simp at h0
  · rcases hu with ⟨rfl, h⟩ | ⟨g', cap', rfl, h1', h2', h3'⟩
    · rw [h] at h0; simp at h0
    · exact sameChgs l g 0 cap g' 0 cap' w h3 h3' hn

end Go.Proofs.Ytlndiohdjdgaoaa
