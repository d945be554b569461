/-
  DERIVED. GIVEN WITH THE SEED: THE CARDS: each row of YtlndiohdjdgaoaaDoorRows.lean that lists a variable, with what it lists TIED to the program's text (the seventh form; the later family's looks); each row that meets fmt, with fmt's text TOLD by the authors' own Lean function (tested against real Go, not proved from fmt's source: count such statements apart). THE CARD IS WHAT COUNTS. Prove the row's statement (the work); the ties are given (YtlndiohdjdgaoaaDoorTie.lean); close each card by the builder's one call (the guide's Derived/Test/ToyasCard.lean, 'card_holds'). Laid BY PROGRAM, IN A SANDBOX (cutbox-door.mjs). By AI agents, Wed Nov 11 2026. No macro, syntax, notation, axiom, sorry.
-/
import Derived.Test.YtlndiohdjdgaoaaDoorRows
import GoSem.ClaimSeven
namespace Go.Proofs.YtlndiohdjdgaoaaDoor
namespace Rows

/-- THE TIED CARD OF 'haywainlaw.Names'. -/
def namesCard : Claim7 := { stood := { row := namesRow, standIns := [], harness := (true, "8a8432ba3fb8a7cc94b2aba0f406acd384b6e56ee6896f78302fb30c840312a9"), looks := true }, kinds := [], alts := [], laidByText := true, laidKinds := [.data, .data, .data], laidTests := true, laidLooks := .later }
def NamesCardSaid : Prop := Claim7.holds Tryd.pinned (.plain (OpenSpec.ofChange namesSpec)) namesCard

/-- THE TIED CARD OF 'haywainlaw.RowSays'. -/
def rowSaysCard : Claim7 := { stood := { row := rowSaysRow, standIns := [], harness := (true, "8a8432ba3fb8a7cc94b2aba0f406acd384b6e56ee6896f78302fb30c840312a9"), looks := true }, kinds := [], alts := [], laidByText := true, laidKinds := [.data, .data, .data, .sentinel, .sentinel], laidTests := true, laidLooks := .later }
def RowSaysCardSaid : Prop := Claim7.holds Tryd.pinned (.plain (OpenSpec.ofChange rowSaysSpec)) rowSaysCard

/-- THE TIED CARD OF 'haywaintop.TopKey'. -/
def topKeyCard : Claim7 := { stood := { row := topKeyRow, standIns := [], harness := (true, "8a8432ba3fb8a7cc94b2aba0f406acd384b6e56ee6896f78302fb30c840312a9"), looks := true }, kinds := [], alts := [], laidByText := true, laidKinds := [.data, .data, .data], laidTests := true, laidLooks := .later }
def TopKeyCardSaid : Prop := Claim7.holds Tryd.pinned (.plain (OpenSpec.ofChange topKeySpec)) topKeyCard

/-- THE TIED CARD OF 'haywaintop.TopRow'. -/
def topRowCard : Claim7 := { stood := { row := topRowRow, standIns := [], harness := (true, "8a8432ba3fb8a7cc94b2aba0f406acd384b6e56ee6896f78302fb30c840312a9"), looks := true }, kinds := [], alts := [], laidByText := true, laidKinds := [.data, .data, .data, .sentinel, .sentinel], laidTests := true, laidLooks := .later }
def TopRowCardSaid : Prop := Claim7.holds Tryd.pinned (.plain (OpenSpec.ofChange topRowSpec)) topRowCard

/-- THE SECOND FORM's CARD OF 'haywainlaw.Names'. -/
def namesUptoCard : Claim7 := { stood := { row := namesUptoRow, standIns := [], harness := (true, "8a8432ba3fb8a7cc94b2aba0f406acd384b6e56ee6896f78302fb30c840312a9"), looks := true }, kinds := [], alts := [], laidByText := true, laidKinds := [.data, .data, .data], laidTests := true, laidLooks := .later }
def NamesUptoCardSaid : Prop := Claim7.holds Tryd.pinned (.plain (OpenSpec.upto namesSpec)) namesUptoCard

/-- THE SECOND FORM's CARD OF 'haywainlaw.RowSays'. -/
def rowSaysUptoCard : Claim7 := { stood := { row := rowSaysUptoRow, standIns := [], harness := (true, "8a8432ba3fb8a7cc94b2aba0f406acd384b6e56ee6896f78302fb30c840312a9"), looks := true }, kinds := [], alts := [], laidByText := true, laidKinds := [.data, .data, .data, .sentinel, .sentinel], laidTests := true, laidLooks := .later }
def RowSaysUptoCardSaid : Prop := Claim7.holds Tryd.pinned (.plain (OpenSpec.upto rowSaysSpec)) rowSaysUptoCard

/-- THE SECOND FORM's CARD OF 'haywaintop.TopKey'. -/
def topKeyUptoCard : Claim7 := { stood := { row := topKeyUptoRow, standIns := [], harness := (true, "8a8432ba3fb8a7cc94b2aba0f406acd384b6e56ee6896f78302fb30c840312a9"), looks := true }, kinds := [], alts := [], laidByText := true, laidKinds := [.data, .data, .data], laidTests := true, laidLooks := .later }
def TopKeyUptoCardSaid : Prop := Claim7.holds Tryd.pinned (.plain (OpenSpec.upto topKeySpec)) topKeyUptoCard

/-- THE SECOND FORM's CARD OF 'haywaintop.TopRow'. -/
def topRowUptoCard : Claim7 := { stood := { row := topRowUptoRow, standIns := [], harness := (true, "8a8432ba3fb8a7cc94b2aba0f406acd384b6e56ee6896f78302fb30c840312a9"), looks := true }, kinds := [], alts := [], laidByText := true, laidKinds := [.data, .data, .data, .sentinel, .sentinel], laidTests := true, laidLooks := .later }
def TopRowUptoCardSaid : Prop := Claim7.holds Tryd.pinned (.plain (OpenSpec.upto topRowSpec)) topRowUptoCard
end Rows
end Go.Proofs.YtlndiohdjdgaoaaDoor
