/-
  What History.Count returns of a history that lies in memory.
-/
import Derived.Test.YtdepcjnbiceciabCertPlace
namespace Go.Proofs.Ytdepcjnbiceciab
open Go.RowKit Go.Joins

theorem count_any (dv : List (DeedL × Value)) (B hb : Nat) (v : Value) (w : World) (h : HistAt w B hb v dv) :
    Calls Try.prog 43 #[.pointer (some ⟨hb, 0, none⟩)] w fun e w' => e = .returned (.int .i64 dv.length) ∧ w' = w := by
  have c := h.cell
  rcases h.form with ⟨rfl, rfl⟩ | ⟨g, cap, rfl, _, _, _, _, _⟩
  all_goals
    go_enter Try.func43, Try.ntmps43
    go_wp2
    go_ret
    exact ⟨rfl, rfl⟩
end Go.Proofs.Ytdepcjnbiceciab
