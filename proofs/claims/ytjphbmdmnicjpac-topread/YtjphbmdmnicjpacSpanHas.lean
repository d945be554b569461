/-
  What span.Has returns, for every span and key; nothing that was there is changed.
-/
import Derived.Test.YtjphbmdmnicjpacRows
import Derived.Test.YtjphbmdmnicjpacStr
import Derived.Test.YtjphbmdmnicjpacBase
namespace Go.Proofs.Ytjphbmdmnicjpac
open Go.RowKit Go.Joins

set_option maxHeartbeats 400000 in
theorem has_any (f t k : ByteArray) (w : World) :
    Calls Try.prog 54 #[.agg #[.string f, .string t], .string k] w fun e w' => e = .returned (.bool (hasS f t k)) ∧ Below w.heap.size w w' := by
  go_enter Try.func54, Try.ntmps54
  go_wp2
  all_goals
    go_ret
    refine ⟨?_, below_alloc1 _ _⟩
    simp_all [hasS, leS, ltS, nilS]

end Go.Proofs.Ytjphbmdmnicjpac
