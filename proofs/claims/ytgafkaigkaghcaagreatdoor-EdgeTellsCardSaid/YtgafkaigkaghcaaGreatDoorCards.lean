/-
  DERIVED. GIVEN WITH THE SEED: THE CARDS: each row of YtgafkaigkaghcaaGreatDoorRows.lean that lists a variable, with what it lists TIED to the program's text (the seventh form; the later family's looks); each row that meets fmt, with fmt's text TOLD by the authors' own Lean function (tested against real Go, not proved from fmt's source: count such statements apart). THE CARD IS WHAT COUNTS. Prove the row's statement (the work); the ties are given (YtgafkaigkaghcaaGreatDoorTie.lean); close each card by the builder's one call (the guide's Derived/Test/ToyasCard.lean, 'card_holds'). Laid BY PROGRAM, IN A SANDBOX (cutbox-door.mjs). By AI agents, Wed Nov 11 2026. No macro, syntax, notation, axiom, sorry.
-/
import Derived.Test.YtgafkaigkaghcaaGreatDoorRows
import GoSem.ClaimSeven
namespace Go.Proofs.YtgafkaigkaghcaaGreatDoor
namespace Rows

/-- THE TIED CARD OF 'tributarylaw20.EdgeTells'. -/
def edgeTellsCard : Claim7 := { stood := { row := edgeTellsRow, standIns := [], harness := (true, "236c3b828a67253af886734a58e425b33c7284e522d5f4642cfdb26909f27af9"), looks := false }, kinds := [], alts := [], laidByText := true, laidKinds := [.data, .pinned], laidTests := true, laidLooks := .later }
def EdgeTellsCardSaid : Prop := Claim7.holds Tryz.pinned (.plain (OpenSpec.ofChange edgeTellsSpec)) edgeTellsCard

/-- THE TIED CARD OF 'tributarylaw20.EdgeReads'. -/
def edgeReadsCard : Claim7 := { stood := { row := edgeReadsRow, standIns := [], harness := (true, "236c3b828a67253af886734a58e425b33c7284e522d5f4642cfdb26909f27af9"), looks := false }, kinds := [], alts := [], laidByText := true, laidKinds := [.data, .pinned], laidTests := true, laidLooks := .later }
def EdgeReadsCardSaid : Prop := Claim7.holds Tryz.pinned (.plain (OpenSpec.ofChange edgeReadsSpec)) edgeReadsCard

/-- THE TIED CARD OF 'tributarylaw20.EdgeBack'. -/
def edgeBackCard : Claim7 := { stood := { row := edgeBackRow, standIns := [], harness := (true, "236c3b828a67253af886734a58e425b33c7284e522d5f4642cfdb26909f27af9"), looks := false }, kinds := [], alts := [], laidByText := true, laidKinds := [.data, .pinned], laidTests := true, laidLooks := .later }
def EdgeBackCardSaid : Prop := Claim7.holds Tryz.pinned (.plain (OpenSpec.ofChange edgeBackSpec)) edgeBackCard

/-- THE SECOND FORM's CARD OF 'tributarylaw20.EdgeTells'. -/
def edgeTellsUptoCard : Claim7 := { stood := { row := edgeTellsUptoRow, standIns := [], harness := (true, "236c3b828a67253af886734a58e425b33c7284e522d5f4642cfdb26909f27af9"), looks := false }, kinds := [], alts := [], laidByText := true, laidKinds := [.data, .pinned], laidTests := true, laidLooks := .later }
def EdgeTellsUptoCardSaid : Prop := Claim7.holds Tryz.pinned (.plain (OpenSpec.upto edgeTellsSpec)) edgeTellsUptoCard

/-- THE SECOND FORM's CARD OF 'tributarylaw20.EdgeReads'. -/
def edgeReadsUptoCard : Claim7 := { stood := { row := edgeReadsUptoRow, standIns := [], harness := (true, "236c3b828a67253af886734a58e425b33c7284e522d5f4642cfdb26909f27af9"), looks := false }, kinds := [], alts := [], laidByText := true, laidKinds := [.data, .pinned], laidTests := true, laidLooks := .later }
def EdgeReadsUptoCardSaid : Prop := Claim7.holds Tryz.pinned (.plain (OpenSpec.upto edgeReadsSpec)) edgeReadsUptoCard

/-- THE SECOND FORM's CARD OF 'tributarylaw20.EdgeBack'. -/
def edgeBackUptoCard : Claim7 := { stood := { row := edgeBackUptoRow, standIns := [], harness := (true, "236c3b828a67253af886734a58e425b33c7284e522d5f4642cfdb26909f27af9"), looks := false }, kinds := [], alts := [], laidByText := true, laidKinds := [.data, .pinned], laidTests := true, laidLooks := .later }
def EdgeBackUptoCardSaid : Prop := Claim7.holds Tryz.pinned (.plain (OpenSpec.upto edgeBackSpec)) edgeBackUptoCard
end Rows
end Go.Proofs.YtgafkaigkaghcaaGreatDoor
