/-
  What a row's list of variables gives: the library's two errors, fourth and fifth of the list, hold values.
-/
import Derived.Test.YtlndiohdjdgaoaaDoorRowErr
import Derived.Test.YtlndiohdjdgaoaaDoorLaidT
namespace Go.Proofs.YtlndiohdjdgaoaaDoor
open Go.Lib

theorem rng_type : (Tryd.prog.globals[3]?).map (·.type) = some 27 := by kernel_rfl
theorem syn_type : (Tryd.prog.globals[2]?).map (·.type) = some 27 := by kernel_rfl
theorem err_fourth {W : World} {x y z : String × DataW Unit} {nm : String} {d : DataW Unit} {rest : List (String × DataW Unit)}
    (h : laidMet Tryd.prog (x :: y :: z :: ("strconv.ErrRange", .iface nm d) :: rest) W) : ErrIs W "strconv.ErrRange" := by
  obtain ⟨ps, ⟨_, _, _, _, _, _, _, _, _, _, ⟨_, _, _, _, _, _, _, _, _, _, ⟨_, _, _, _, _, _, _, _, _, _, ⟨g', t', cs, fuel, p, q, hg', ht', hvar, hd, _, _⟩, _⟩, _⟩, _⟩, _⟩ := h
  obtain rfl := Option.some.inj (rng_named.symm.trans hg')
  obtain rfl := Option.some.inj (rng_type.symm.trans ht')
  obtain ⟨_, u, v, hc, _, _⟩ := iface_of_trod Tryd.underlying27 hd
  have e : cs = #[.iface u v] := Array.ext' (by simpa using hc)
  exact ⟨u, v, by rw [hvar, e]⟩
theorem err_fifth {W : World} {x y z a : String × DataW Unit} {nm : String} {d : DataW Unit} {rest : List (String × DataW Unit)}
    (h : laidMet Tryd.prog (x :: y :: z :: a :: ("strconv.ErrSyntax", .iface nm d) :: rest) W) : ErrIs W "strconv.ErrSyntax" := by
  obtain ⟨ps, ⟨_, _, _, _, _, _, _, _, _, _, ⟨_, _, _, _, _, _, _, _, _, _, ⟨_, _, _, _, _, _, _, _, _, _, ⟨_, _, _, _, _, _, _, _, _, _, ⟨g', t', cs, fuel, p, q, hg', ht', hvar, hd, _, _⟩, _⟩, _⟩, _⟩, _⟩, _⟩ := h
  obtain rfl := Option.some.inj (syn_named.symm.trans hg')
  obtain rfl := Option.some.inj (syn_type.symm.trans ht')
  obtain ⟨_, u, v, hc, _, _⟩ := iface_of_trod Tryd.underlying27 hd
  have e : cs = #[.iface u v] := Array.ext' (by simpa using hc)
  exact ⟨u, v, by rw [hvar, e]⟩
theorem wf_range {n : Int} (h : (Lit.int .i64 n).wf = true) : -9223372036854775808 ≤ n ∧ n ≤ 9223372036854775807 := by
  rw [Lit.wf, Bool.and_eq_true, decide_eq_true_eq, decide_eq_true_eq] at h
  exact h
end Go.Proofs.YtlndiohdjdgaoaaDoor
