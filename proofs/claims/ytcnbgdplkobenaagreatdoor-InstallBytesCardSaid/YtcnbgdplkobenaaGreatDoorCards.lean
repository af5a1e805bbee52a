/-
  DERIVED. GIVEN WITH THE SEED: THE CARDS: each row of YtcnbgdplkobenaaGreatDoorRows.lean that lists a variable, with what it lists TIED to the program's text (the seventh form; the later family's looks); each row that meets fmt, with fmt's text TOLD by the authors' own Lean function (tested against real Go, not proved from fmt's source: count such statements apart). THE CARD IS WHAT COUNTS. Prove the row's statement (the work); the ties are given (YtcnbgdplkobenaaGreatDoorTie.lean); close each card by the builder's one call (the guide's Derived/Test/ToyasCard.lean, 'card_holds'). Laid BY PROGRAM, IN A SANDBOX (cutbox-door.mjs). By AI agents, Wed Nov 11 2026. No macro, syntax, notation, axiom, sorry.
-/
import Derived.Test.YtcnbgdplkobenaaGreatDoorRows
import GoSem.ClaimSeven
namespace Go.Proofs.YtcnbgdplkobenaaGreatDoor
namespace Rows

/-- THE TIED CARD OF 'tributarylaw24.InstallBytes'. -/
def installBytesCard : Claim7 := { stood := { row := installBytesRow, standIns := [], harness := (true, "dec218f3eef6ecf5b0e60c8bd472b32727b38a10ec6320f085958b608b6b0110"), looks := false }, kinds := [], alts := [], laidByText := true, laidKinds := [.data, .pinned], laidTests := true, laidLooks := .later }
def InstallBytesCardSaid : Prop := Claim7.holds Tryz.pinned (.plain (OpenSpec.ofChange installBytesSpec)) installBytesCard

/-- THE SECOND FORM's CARD OF 'tributarylaw24.InstallBytes'. -/
def installBytesUptoCard : Claim7 := { stood := { row := installBytesUptoRow, standIns := [], harness := (true, "dec218f3eef6ecf5b0e60c8bd472b32727b38a10ec6320f085958b608b6b0110"), looks := false }, kinds := [], alts := [], laidByText := true, laidKinds := [.data, .pinned], laidTests := true, laidLooks := .later }
def InstallBytesUptoCardSaid : Prop := Claim7.holds Tryz.pinned (.plain (OpenSpec.upto installBytesSpec)) installBytesUptoCard
end Rows
end Go.Proofs.YtcnbgdplkobenaaGreatDoor
