/-
  DERIVED. GIVEN WITH THE SEED: THE CARDS: each row of YtehmchdhlhchjaaGreatDoorRows.lean that lists a variable, with what it lists TIED to the program's text (the seventh form; the later family's looks); each row that meets fmt, with fmt's text TOLD by the authors' own Lean function (tested against real Go, not proved from fmt's source: count such statements apart). THE CARD IS WHAT COUNTS. Prove the row's statement (the work); the ties are given (YtehmchdhlhchjaaGreatDoorTie.lean); close each card by the builder's one call (the guide's Derived/Test/ToyasCard.lean, 'card_holds'). Laid BY PROGRAM, IN A SANDBOX (cutbox-door.mjs). By AI agents, Wed Nov 11 2026. No macro, syntax, notation, axiom, sorry.
-/
import Derived.Test.YtehmchdhlhchjaaGreatDoorRows
import GoSem.ClaimSeven
namespace Go.Proofs.YtehmchdhlhchjaaGreatDoor
namespace Rows

/-- THE TIED CARD OF 'tributarylaw20.EdgePlans'. -/
def edgePlansCard : Claim7 := { stood := { row := edgePlansRow, standIns := [], harness := (true, "99bf8dc0c8a0b32b99b0a5091a70daeddb550399de8128ca7bcac73020858bf2"), looks := false }, kinds := [], alts := [], laidByText := true, laidKinds := [.data, .pinned], laidTests := true, laidLooks := .later }
def EdgePlansCardSaid : Prop := Claim7.holds Tryz.pinned (.plain (OpenSpec.ofChange edgePlansSpec)) edgePlansCard

/-- THE TIED CARD OF 'tributarylaw20.EdgeAgrees'. -/
def edgeAgreesCard : Claim7 := { stood := { row := edgeAgreesRow, standIns := [], harness := (true, "99bf8dc0c8a0b32b99b0a5091a70daeddb550399de8128ca7bcac73020858bf2"), looks := false }, kinds := [], alts := [], laidByText := true, laidKinds := [.data, .pinned], laidTests := true, laidLooks := .later }
def EdgeAgreesCardSaid : Prop := Claim7.holds Tryz.pinned (.plain (OpenSpec.ofChange edgeAgreesSpec)) edgeAgreesCard

/-- THE SECOND FORM's CARD OF 'tributarylaw20.EdgePlans'. -/
def edgePlansUptoCard : Claim7 := { stood := { row := edgePlansUptoRow, standIns := [], harness := (true, "99bf8dc0c8a0b32b99b0a5091a70daeddb550399de8128ca7bcac73020858bf2"), looks := false }, kinds := [], alts := [], laidByText := true, laidKinds := [.data, .pinned], laidTests := true, laidLooks := .later }
def EdgePlansUptoCardSaid : Prop := Claim7.holds Tryz.pinned (.plain (OpenSpec.upto edgePlansSpec)) edgePlansUptoCard

/-- THE SECOND FORM's CARD OF 'tributarylaw20.EdgeAgrees'. -/
def edgeAgreesUptoCard : Claim7 := { stood := { row := edgeAgreesUptoRow, standIns := [], harness := (true, "99bf8dc0c8a0b32b99b0a5091a70daeddb550399de8128ca7bcac73020858bf2"), looks := false }, kinds := [], alts := [], laidByText := true, laidKinds := [.data, .pinned], laidTests := true, laidLooks := .later }
def EdgeAgreesUptoCardSaid : Prop := Claim7.holds Tryz.pinned (.plain (OpenSpec.upto edgeAgreesSpec)) edgeAgreesUptoCard
end Rows
end Go.Proofs.YtehmchdhlhchjaaGreatDoor
