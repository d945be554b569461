/-
  A world for a witness: the library's two errors that the rows list hold what their initialisers lay. No claim is made here.
-/
import Derived.Test.YtlndiohdjdgaoaaDoorLaidW
namespace Go.Proofs.YtlndiohdjdgaoaaDoor

def errBlocks : Array Obj := #[.cells #[.string ⟨#[118, 97, 108, 117, 101, 32, 111, 117, 116, 32, 111, 102, 32, 114, 97, 110, 103, 101]⟩] 127, .cells #[.string ⟨#[105, 110, 118, 97, 108, 105, 100, 32, 115, 121, 110, 116, 97, 120]⟩] 127]
def layErrs (low : Nat) (w : World) : World :=
  { w with heap := (w.heap.modify 2 fun
      | .cells _ t fr => .cells #[.iface 125 (.pointer (some ⟨low + 1, 0, none⟩))] t fr
      | o => o).modify 3 fun
      | .cells _ t fr => .cells #[.iface 125 (.pointer (some ⟨low, 0, none⟩))] t fr
      | o => o }
end Go.Proofs.YtlndiohdjdgaoaaDoor
