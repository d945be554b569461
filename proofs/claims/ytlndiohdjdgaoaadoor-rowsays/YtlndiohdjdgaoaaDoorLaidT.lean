/-
  What a row's list of variables gives: the library's table of powers of ten, third of the list, holds its numbers.
-/
import Derived.Test.YtlndiohdjdgaoaaDoorRowKeys
import Derived.Lib.LaidTab
namespace Go.Proofs.YtlndiohdjdgaoaaDoor
open Go.Lib

theorem pow_type : (Tryd.prog.globals[0]?).map (·.type) = some 113 := by kernel_rfl
theorem pow_cells : Tryd.prog.cellsOf 113 = 20 := by kernel_rfl
theorem u64_cells : Tryd.prog.cellsOf 91 = 1 := by kernel_rfl
theorem tab_third {W : World} {x y : String × DataW Unit} {zs : List Int} {rest : List (String × DataW Unit)}
    (h : laidMet Tryd.prog (x :: y :: ("internal/strconv.uint64pow10", tabData .u64 zs) :: rest) W) : TabIs Tryd.prog W "internal/strconv.uint64pow10" .u64 zs := by
  obtain ⟨ps, ⟨_, _, _, _, _, _, _, _, _, _, ⟨_, _, _, _, _, _, _, _, _, _, ⟨g', t', cs, fuel, p, q, hg', ht', hvar, hd, _, _⟩, _⟩, _⟩, _⟩ := h
  obtain rfl := Option.some.inj (pow_named.symm.trans hg')
  obtain rfl := Option.some.inj (pow_type.symm.trans ht')
  have e := cells_of_tab Tryd.underlying113 Tryd.underlying91 u64_cells pow_cells hd
  unfold TabIs
  rw [hvar]
  congr 1
  exact Array.ext' (by simpa using e)
theorem pow_list : Lib.pow10Tab = [1, 10, 100, 1000, 10000, 100000, 1000000, 10000000, 100000000, 1000000000, 10000000000, 100000000000, 1000000000000, 10000000000000, 100000000000000, 1000000000000000, 10000000000000000, 100000000000000000, 1000000000000000000, 10000000000000000000] := by decide +kernel
end Go.Proofs.YtlndiohdjdgaoaaDoor
