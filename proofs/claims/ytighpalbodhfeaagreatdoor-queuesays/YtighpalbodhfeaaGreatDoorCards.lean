/-
  DERIVED. GIVEN WITH THE SEED: THE CARDS: each row of YtighpalbodhfeaaGreatDoorRows.lean that lists a variable, with what it lists TIED to the program's text (the seventh form; the later family's looks); each row that meets fmt, with fmt's text TOLD by the authors' own Lean function (tested against real Go, not proved from fmt's source: count such statements apart). THE CARD IS WHAT COUNTS. Prove the row's statement (the work); the ties are given (YtighpalbodhfeaaGreatDoorTie.lean); close each card by the builder's one call (the guide's Derived/Test/ToyasCard.lean, 'card_holds'). Laid BY PROGRAM, IN A SANDBOX (cutbox-door.mjs). By AI agents, Wed Nov 11 2026. No macro, syntax, notation, axiom, sorry.
-/
import Derived.Test.YtighpalbodhfeaaGreatDoorRows
import GoSem.ClaimSeven
namespace Go.Proofs.YtighpalbodhfeaaGreatDoor
namespace Rows

/-- THE TIED CARD OF 'haywainlaw.QueueSays'. -/
def queueSaysCard : Claim7 := { stood := { row := queueSaysRow, standIns := [], harness := (true, "21af199456dc987d5ac256b092cfe026bcebb029f8d84fc61f420a7d24f40cc9"), looks := true }, kinds := [], alts := [], laidByText := true, laidKinds := [.data, .data, .data, .sentinel, .sentinel], laidTests := true, laidLooks := .later }
def QueueSaysCardSaid : Prop := Claim7.holds Tryz.pinned (.plain (OpenSpec.ofChange queueSaysSpec)) queueSaysCard

/-- THE SECOND FORM's CARD OF 'haywainlaw.QueueSays'. -/
def queueSaysUptoCard : Claim7 := { stood := { row := queueSaysUptoRow, standIns := [], harness := (true, "21af199456dc987d5ac256b092cfe026bcebb029f8d84fc61f420a7d24f40cc9"), looks := true }, kinds := [], alts := [], laidByText := true, laidKinds := [.data, .data, .data, .sentinel, .sentinel], laidTests := true, laidLooks := .later }
def QueueSaysUptoCardSaid : Prop := Claim7.holds Tryz.pinned (.plain (OpenSpec.upto queueSaysSpec)) queueSaysUptoCard
end Rows
end Go.Proofs.YtighpalbodhfeaaGreatDoor
