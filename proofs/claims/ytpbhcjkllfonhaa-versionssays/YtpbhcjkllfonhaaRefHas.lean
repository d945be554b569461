/-
  What haywainref.Has returns: the same as span.Has, for every span and key; nothing that was there is changed.
-/
import Derived.Test.YtpbhcjkllfonhaaSpanHas
namespace Go.Proofs.Ytpbhcjkllfonhaa
open Go.RowKit Go.Joins

set_option maxHeartbeats 400000 in
theorem rhas_any (f t k : ByteArray) (w : World) :
    Calls Try.prog 33 #[.agg #[.string f, .string t], .string k] w fun e w' => e = .returned (.bool (hasS f t k)) ∧ Below w.heap.size w w' := by
  go_enter Try.func33, Try.ntmps33
  go_wp2
  all_goals
    go_ret
    refine ⟨?_, below_alloc1 _ _⟩
    simp_all [hasS, leS, ltS, nilS]

theorem remptyS (f t : ByteArray) : emptyS f t = (!t.toList.isEmpty && !Op.bytesLess f.toList t.toList) := by
  unfold emptyS; rw [leS_not]; rfl
end Go.Proofs.Ytpbhcjkllfonhaa
