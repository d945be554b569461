/-
  What Versions.Scan gathers of versions that lie in memory, ahead of the sorting: plain facts, and rows as they lie.
-/
import Derived.Test.YtpbhcjkllfonhaaVerMem
import Derived.Test.YtpbhcjkllfonhaaSpanHas
import Derived.Maps.RangeWalk
import Derived.OwnWalk
import Derived.Deep.AppendLies
namespace Go.Proofs.Ytpbhcjkllfonhaa
open Go.RowKit Go.Joins

def cellP (r : ByteArray × ByteArray) : List Value := [.string r.1, .string r.2]
theorem cellP_len (r : ByteArray × ByteArray) : (cellP r).length = 2 := rfl
def ownP (w : World) (B : Nat) (v : Value) (F : List (ByteArray × ByteArray)) : Prop := w.ownsRow B 54 2 v F.length (F.flatMap cellP)
theorem row_info : (Try.prog.info? 54).map (fun i => (i.zero, i.size, i.bytes)) = some (some (.agg #[.string ⟨#[]⟩, .string ⟨#[]⟩]), 2, 32) := by kernel_rfl
/-- what is told of a key behind a deed -/
def told (R : ByteArray → List Ver) (n : Int) (s : ByteArray × ByteArray) (r : ByteArray × ByteArray) : Prop := r.1.size ≤ maxLen ∧ hasS s.1 s.2 r.1 = true ∧ behindV (R r.1) n = (r.2, true)
/-- what has been gathered while some keys are still to come -/
structure Got (D : DataW Value) (R : ByteArray → List Ver) (n : Int) (s : ByteArray × ByteArray) (left : Lit → Bool) (F : List (ByteArray × ByteArray)) : Prop where
  mem : ∀ r, r ∈ F ↔ told R n s r ∧ left (kL r.1) = false
  nodup : (F.map (·.1)).Nodup
theorem key_inv {key : Value} {kl : Lit} (h : keyOf Try.prog 9 key = some kl) : ∃ s, key = .string s ∧ kl = kL s ∧ s.size ≤ maxLen := by
  cases key <;> simp [keyOf, Try.underlying9, mapKey] at h
  obtain ⟨hs, rfl⟩ := h
  exact ⟨_, rfl, rfl, hs⟩
theorem left_strike {left : Lit → Bool} {x k : ByteArray} : (left (kL k) && !(kL k).sameKey (kL x)) = if k = x then false else left (kL k) := by
  by_cases e : k = x
  · subst e; rw [WideAt.sameKey_self (key_lit k)]; simp
  · rw [if_neg e, Maps.sameKey_ne (kL_ne e)]; simp
theorem got_skip {D : DataW Value} {R : ByteArray → List Ver} {n : Int} {s : ByteArray × ByteArray} {left : Lit → Bool} {F : List (ByteArray × ByteArray)} (h : Got D R n s left F) {x : ByteArray} (hx : ∀ v, ¬ told R n s (x, v)) : Got D R n s (fun z => left z && !z.sameKey (kL x)) F where
  mem := fun r => by
    rw [h.mem r]
    show _ ↔ _ ∧ (left (kL r.1) && !(kL r.1).sameKey (kL x)) = false
    rw [left_strike]
    by_cases e : r.1 = x
    · obtain ⟨r1, r2⟩ := r
      subst e
      exact ⟨fun h' => absurd h'.1 (hx r2), fun h' => absurd h'.1 (hx r2)⟩
    · rw [if_neg e]
  nodup := h.nodup
theorem got_take {D : DataW Value} {R : ByteArray → List Ver} {n : Int} {s : ByteArray × ByteArray} {left : Lit → Bool} {F : List (ByteArray × ByteArray)} (h : Got D R n s left F) {x v : ByteArray} (hl : left (kL x) = true) (hx : told R n s (x, v)) : Got D R n s (fun z => left z && !z.sameKey (kL x)) (F ++ [(x, v)]) where
  mem := fun r => by
    rw [List.mem_append, h.mem r, List.mem_singleton]
    show _ ↔ _ ∧ (left (kL r.1) && !(kL r.1).sameKey (kL x)) = false
    rw [left_strike]
    by_cases e : r.1 = x
    · obtain ⟨r1, r2⟩ := r
      subst e
      rw [if_pos rfl]
      constructor
      · rintro (⟨h1, h2⟩ | h2)
        · exact ⟨h1, rfl⟩
        · rw [h2]; exact ⟨hx, rfl⟩
      · rintro ⟨h1, _⟩
        right
        have := h1.2.2.symm.trans hx.2.2
        simp at this
        rw [this]
    · rw [if_neg e]
      constructor
      · rintro (h' | h')
        · exact h'
        · exact absurd (by rw [h']) e
      · exact fun h' => .inl h'
  nodup := by
    rw [List.map_append, List.nodup_append]
    refine ⟨h.nodup, by simp, fun a ha b hb => ?_⟩
    obtain ⟨r, hr, rfl⟩ := List.mem_map.1 ha
    simp at hb
    subst hb
    intro e
    have := ((h.mem r).1 hr).2
    rw [e, hl] at this
    cases this
end Go.Proofs.Ytpbhcjkllfonhaa
