/-
  DERIVED. GIVEN WITH THE SEED: THE CARDS: each row of YtonnbklnibkohagDoorRows.lean that lists a variable, with what it lists TIED to the program's text (the seventh form; the later family's looks); each row that meets fmt, with fmt's text TOLD by the authors' own Lean function (tested against real Go, not proved from fmt's source: count such statements apart). THE CARD IS WHAT COUNTS. Prove the row's statement (the work); the ties are given (YtonnbklnibkohagDoorTie.lean); close each card by the builder's one call (the guide's Derived/Test/ToyasCard.lean, 'card_holds'). Laid BY PROGRAM, IN A SANDBOX (cutbox-door.mjs). By AI agents, Wed Nov 11 2026. No macro, syntax, notation, axiom, sorry.
-/
import Derived.Test.YtonnbklnibkohagDoorRows
import GoSem.ClaimSeven
namespace Go.Proofs.YtonnbklnibkohagDoor
namespace Rows

/-- THE TIED CARD OF 'tributarylaw21.SpoolKnown'. -/
def spoolKnownCard : Claim7 := { stood := { row := spoolKnownRow, standIns := [], harness := (true, "c8572fe03e06c1dd54c803300649d629c6456f207a85cc98ffb931620bfc48c1"), looks := false }, kinds := [], alts := [], laidByText := true, laidKinds := [.data, .pinned], laidTests := true, laidLooks := .later }
def SpoolKnownCardSaid : Prop := Claim7.holds Tryd.pinned (.plain (OpenSpec.ofChange spoolKnownSpec)) spoolKnownCard

/-- THE SECOND FORM's CARD OF 'tributarylaw21.SpoolKnown'. -/
def spoolKnownUptoCard : Claim7 := { stood := { row := spoolKnownUptoRow, standIns := [], harness := (true, "c8572fe03e06c1dd54c803300649d629c6456f207a85cc98ffb931620bfc48c1"), looks := false }, kinds := [], alts := [], laidByText := true, laidKinds := [.data, .pinned], laidTests := true, laidLooks := .later }
def SpoolKnownUptoCardSaid : Prop := Claim7.holds Tryd.pinned (.plain (OpenSpec.upto spoolKnownSpec)) spoolKnownUptoCard
end Rows
end Go.Proofs.YtonnbklnibkohagDoor
