/-
  DERIVED. GIVEN WITH THE SEED: THE CARDS: each row of YtcfjimdfegejaaaGreatDoorRows.lean that lists a variable, with what it lists TIED to the program's text (the seventh form; the later family's looks); each row that meets fmt, with fmt's text TOLD by the authors' own Lean function (tested against real Go, not proved from fmt's source: count such statements apart). THE CARD IS WHAT COUNTS. Prove the row's statement (the work); the ties are given (YtcfjimdfegejaaaGreatDoorTie.lean); close each card by the builder's one call (the guide's Derived/Test/ToyasCard.lean, 'card_holds'). Laid BY PROGRAM, IN A SANDBOX (cutbox-door.mjs). By AI agents, Wed Nov 11 2026. No macro, syntax, notation, axiom, sorry.
-/
import Derived.Test.YtcfjimdfegejaaaGreatDoorRows
import GoSem.ClaimSeven
namespace Go.Proofs.YtcfjimdfegejaaaGreatDoor
namespace Rows

/-- THE TIED CARD OF 'haywainlaw.EngineSays'. -/
def engineSaysCard : Claim7 := { stood := { row := engineSaysRow, standIns := [], harness := (true, "a3fa95a9bd5662a8c27885094c2f32fccdc0b406ac358c6162673dffebc917a1"), looks := true }, kinds := [], alts := [], laidByText := true, laidKinds := [.data, .data, .data, .sentinel, .sentinel], laidTests := true, laidLooks := .later }
def EngineSaysCardSaid : Prop := Claim7.holds Tryz.pinned (.plain (OpenSpec.ofChange engineSaysSpec)) engineSaysCard

/-- THE SECOND FORM's CARD OF 'haywainlaw.EngineSays'. -/
def engineSaysUptoCard : Claim7 := { stood := { row := engineSaysUptoRow, standIns := [], harness := (true, "a3fa95a9bd5662a8c27885094c2f32fccdc0b406ac358c6162673dffebc917a1"), looks := true }, kinds := [], alts := [], laidByText := true, laidKinds := [.data, .data, .data, .sentinel, .sentinel], laidTests := true, laidLooks := .later }
def EngineSaysUptoCardSaid : Prop := Claim7.holds Tryz.pinned (.plain (OpenSpec.upto engineSaysSpec)) engineSaysUptoCard
end Rows
end Go.Proofs.YtcfjimdfegejaaaGreatDoor
