/-
  DERIVED. GIVEN WITH THE SEED: THE CARDS: each row of YtpbhcjkllfonhaaGreatDoorRows.lean that lists a variable, with what it lists TIED to the program's text (the seventh form; the later family's looks); each row that meets fmt, with fmt's text TOLD by the authors' own Lean function (tested against real Go, not proved from fmt's source: count such statements apart). THE CARD IS WHAT COUNTS. Prove the row's statement (the work); the ties are given (YtpbhcjkllfonhaaGreatDoorTie.lean); close each card by the builder's one call (the guide's Derived/Test/ToyasCard.lean, 'card_holds'). Laid BY PROGRAM, IN A SANDBOX (cutbox-door.mjs). By AI agents, Wed Nov 11 2026. No macro, syntax, notation, axiom, sorry.
-/
import Derived.Test.YtpbhcjkllfonhaaGreatDoorRows
import GoSem.ClaimSeven
namespace Go.Proofs.YtpbhcjkllfonhaaGreatDoor
namespace Rows

/-- THE TIED CARD OF 'haywainlaw.QueueSays'. -/
def queueSaysCard : Claim7 := { stood := { row := queueSaysRow, standIns := [], harness := (true, "6dc0c94acb6ae5da584e0b4f8080886fe3f6b1bbc97519d98b5f51f942d55d00"), looks := true }, kinds := [], alts := [], laidByText := true, laidKinds := [.data, .data, .data, .sentinel, .sentinel], laidTests := true, laidLooks := .later }
def QueueSaysCardSaid : Prop := Claim7.holds Tryz.pinned (.plain (OpenSpec.ofChange queueSaysSpec)) queueSaysCard

/-- THE TIED CARD OF 'haywaintop.TopFifo'. -/
def topFifoCard : Claim7 := { stood := { row := topFifoRow, standIns := [], harness := (true, "6dc0c94acb6ae5da584e0b4f8080886fe3f6b1bbc97519d98b5f51f942d55d00"), looks := true }, kinds := [], alts := [], laidByText := true, laidKinds := [.data, .data, .data, .sentinel, .sentinel], laidTests := true, laidLooks := .later }
def TopFifoCardSaid : Prop := Claim7.holds Tryz.pinned (.plain (OpenSpec.ofChange topFifoSpec)) topFifoCard

/-- THE TIED CARD OF 'haywaintop.TopLease'. -/
def topLeaseCard : Claim7 := { stood := { row := topLeaseRow, standIns := [], harness := (true, "6dc0c94acb6ae5da584e0b4f8080886fe3f6b1bbc97519d98b5f51f942d55d00"), looks := true }, kinds := [], alts := [], laidByText := true, laidKinds := [.data, .data, .data, .sentinel, .sentinel], laidTests := true, laidLooks := .later }
def TopLeaseCardSaid : Prop := Claim7.holds Tryz.pinned (.plain (OpenSpec.ofChange topLeaseSpec)) topLeaseCard

/-- THE TIED CARD OF 'haywaintop.TopDead'. -/
def topDeadCard : Claim7 := { stood := { row := topDeadRow, standIns := [], harness := (true, "6dc0c94acb6ae5da584e0b4f8080886fe3f6b1bbc97519d98b5f51f942d55d00"), looks := true }, kinds := [], alts := [], laidByText := true, laidKinds := [.data, .data, .data, .sentinel, .sentinel], laidTests := true, laidLooks := .later }
def TopDeadCardSaid : Prop := Claim7.holds Tryz.pinned (.plain (OpenSpec.ofChange topDeadSpec)) topDeadCard

/-- THE TIED CARD OF 'haywaintop.TopAck'. -/
def topAckCard : Claim7 := { stood := { row := topAckRow, standIns := [], harness := (true, "6dc0c94acb6ae5da584e0b4f8080886fe3f6b1bbc97519d98b5f51f942d55d00"), looks := true }, kinds := [], alts := [], laidByText := true, laidKinds := [.data, .data, .data, .sentinel, .sentinel], laidTests := true, laidLooks := .later }
def TopAckCardSaid : Prop := Claim7.holds Tryz.pinned (.plain (OpenSpec.ofChange topAckSpec)) topAckCard

/-- THE SECOND FORM's CARD OF 'haywainlaw.QueueSays'. -/
def queueSaysUptoCard : Claim7 := { stood := { row := queueSaysUptoRow, standIns := [], harness := (true, "6dc0c94acb6ae5da584e0b4f8080886fe3f6b1bbc97519d98b5f51f942d55d00"), looks := true }, kinds := [], alts := [], laidByText := true, laidKinds := [.data, .data, .data, .sentinel, .sentinel], laidTests := true, laidLooks := .later }
def QueueSaysUptoCardSaid : Prop := Claim7.holds Tryz.pinned (.plain (OpenSpec.upto queueSaysSpec)) queueSaysUptoCard

/-- THE SECOND FORM's CARD OF 'haywaintop.TopFifo'. -/
def topFifoUptoCard : Claim7 := { stood := { row := topFifoUptoRow, standIns := [], harness := (true, "6dc0c94acb6ae5da584e0b4f8080886fe3f6b1bbc97519d98b5f51f942d55d00"), looks := true }, kinds := [], alts := [], laidByText := true, laidKinds := [.data, .data, .data, .sentinel, .sentinel], laidTests := true, laidLooks := .later }
def TopFifoUptoCardSaid : Prop := Claim7.holds Tryz.pinned (.plain (OpenSpec.upto topFifoSpec)) topFifoUptoCard

/-- THE SECOND FORM's CARD OF 'haywaintop.TopLease'. -/
def topLeaseUptoCard : Claim7 := { stood := { row := topLeaseUptoRow, standIns := [], harness := (true, "6dc0c94acb6ae5da584e0b4f8080886fe3f6b1bbc97519d98b5f51f942d55d00"), looks := true }, kinds := [], alts := [], laidByText := true, laidKinds := [.data, .data, .data, .sentinel, .sentinel], laidTests := true, laidLooks := .later }
def TopLeaseUptoCardSaid : Prop := Claim7.holds Tryz.pinned (.plain (OpenSpec.upto topLeaseSpec)) topLeaseUptoCard

/-- THE SECOND FORM's CARD OF 'haywaintop.TopDead'. -/
def topDeadUptoCard : Claim7 := { stood := { row := topDeadUptoRow, standIns := [], harness := (true, "6dc0c94acb6ae5da584e0b4f8080886fe3f6b1bbc97519d98b5f51f942d55d00"), looks := true }, kinds := [], alts := [], laidByText := true, laidKinds := [.data, .data, .data, .sentinel, .sentinel], laidTests := true, laidLooks := .later }
def TopDeadUptoCardSaid : Prop := Claim7.holds Tryz.pinned (.plain (OpenSpec.upto topDeadSpec)) topDeadUptoCard

/-- THE SECOND FORM's CARD OF 'haywaintop.TopAck'. -/
def topAckUptoCard : Claim7 := { stood := { row := topAckUptoRow, standIns := [], harness := (true, "6dc0c94acb6ae5da584e0b4f8080886fe3f6b1bbc97519d98b5f51f942d55d00"), looks := true }, kinds := [], alts := [], laidByText := true, laidKinds := [.data, .data, .data, .sentinel, .sentinel], laidTests := true, laidLooks := .later }
def TopAckUptoCardSaid : Prop := Claim7.holds Tryz.pinned (.plain (OpenSpec.upto topAckSpec)) topAckUptoCard
end Rows
end Go.Proofs.YtpbhcjkllfonhaaGreatDoor
