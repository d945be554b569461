/-
  What span.Has returns, for every span and key; nothing that was there is changed.
-/
import Derived.Test.YtpbhcjkllfonhaaRows
import Derived.Test.YtpbhcjkllfonhaaStr
import Derived.Test.YtpbhcjkllfonhaaBase
namespace Go.Proofs.Ytpbhcjkllfonhaa
open Go.RowKit Go.Joins

set_option maxHeartbeats 400000 in
theorem has_any (f t k : ByteArray) (w : World) :
    Calls Try.prog 29 #[.agg #[.string f, .string t], .string k] w fun e w' => e = .returned (.bool (hasS f t k)) ∧ Below w.heap.size w w' := by
  go_enter Try.func29, Try.ntmps29
  go_wp2
  all_goals
    go_ret
    refine ⟨?_, below_alloc1 _ _⟩
    simp_all [hasS, leS, ltS, nilS]

end Go.Proofs.Ytpbhcjkllfonhaa
