/-
  DERIVED. GIVEN WITH THE SEED: THE CARDS: each row of YtfdaclifapfmdaaGreatDoorRows.lean that lists a variable, with what it lists TIED to the program's text (the seventh form; the later family's looks); each row that meets fmt, with fmt's text TOLD by the authors' own Lean function (tested against real Go, not proved from fmt's source: count such statements apart). THE CARD IS WHAT COUNTS. Prove the row's statement (the work); the ties are given (YtfdaclifapfmdaaGreatDoorTie.lean); close each card by the builder's one call (the guide's Derived/Test/ToyasCard.lean, 'card_holds'). Laid BY PROGRAM, IN A SANDBOX (cutbox-door.mjs). By AI agents, Wed Nov 11 2026. No macro, syntax, notation, axiom, sorry.
-/
import Derived.Test.YtfdaclifapfmdaaGreatDoorRows
import GoSem.ClaimSeven
namespace Go.Proofs.YtfdaclifapfmdaaGreatDoor
namespace Rows

/-- THE TIED CARD OF 'tributarylaw11.ClashTells'. -/
def clashTellsCard : Claim7 := { stood := { row := clashTellsRow, standIns := [], harness := (true, "478cde56c1e8a461bbb6c33ad590ca5adf6761af285cb1b100d6c3703ad4d0da"), looks := false }, kinds := [], alts := [], laidByText := true, laidKinds := [.data, .pinned], laidTests := true, laidLooks := .later }
def ClashTellsCardSaid : Prop := Claim7.holds Tryz.pinned (.plain (OpenSpec.ofChange clashTellsSpec)) clashTellsCard

/-- THE TIED CARD OF 'tributarylaw11.ClashAll'. -/
def clashAllCard : Claim7 := { stood := { row := clashAllRow, standIns := [], harness := (true, "478cde56c1e8a461bbb6c33ad590ca5adf6761af285cb1b100d6c3703ad4d0da"), looks := false }, kinds := [], alts := [], laidByText := true, laidKinds := [.data, .pinned], laidTests := true, laidLooks := .later }
def ClashAllCardSaid : Prop := Claim7.holds Tryz.pinned (.plain (OpenSpec.ofChange clashAllSpec)) clashAllCard

/-- THE TIED CARD OF 'tributarylaw11.ClashEither'. -/
def clashEitherCard : Claim7 := { stood := { row := clashEitherRow, standIns := [], harness := (true, "478cde56c1e8a461bbb6c33ad590ca5adf6761af285cb1b100d6c3703ad4d0da"), looks := false }, kinds := [], alts := [], laidByText := true, laidKinds := [.data, .pinned], laidTests := true, laidLooks := .later }
def ClashEitherCardSaid : Prop := Claim7.holds Tryz.pinned (.plain (OpenSpec.ofChange clashEitherSpec)) clashEitherCard

/-- THE TIED CARD OF 'tributarylaw11.ClashBehind'. -/
def clashBehindCard : Claim7 := { stood := { row := clashBehindRow, standIns := [], harness := (true, "478cde56c1e8a461bbb6c33ad590ca5adf6761af285cb1b100d6c3703ad4d0da"), looks := false }, kinds := [], alts := [], laidByText := true, laidKinds := [.data, .pinned], laidTests := true, laidLooks := .later }
def ClashBehindCardSaid : Prop := Claim7.holds Tryz.pinned (.plain (OpenSpec.ofChange clashBehindSpec)) clashBehindCard

/-- THE SECOND FORM's CARD OF 'tributarylaw11.ClashTells'. -/
def clashTellsUptoCard : Claim7 := { stood := { row := clashTellsUptoRow, standIns := [], harness := (true, "478cde56c1e8a461bbb6c33ad590ca5adf6761af285cb1b100d6c3703ad4d0da"), looks := false }, kinds := [], alts := [], laidByText := true, laidKinds := [.data, .pinned], laidTests := true, laidLooks := .later }
def ClashTellsUptoCardSaid : Prop := Claim7.holds Tryz.pinned (.plain (OpenSpec.upto clashTellsSpec)) clashTellsUptoCard

/-- THE SECOND FORM's CARD OF 'tributarylaw11.ClashAll'. -/
def clashAllUptoCard : Claim7 := { stood := { row := clashAllUptoRow, standIns := [], harness := (true, "478cde56c1e8a461bbb6c33ad590ca5adf6761af285cb1b100d6c3703ad4d0da"), looks := false }, kinds := [], alts := [], laidByText := true, laidKinds := [.data, .pinned], laidTests := true, laidLooks := .later }
def ClashAllUptoCardSaid : Prop := Claim7.holds Tryz.pinned (.plain (OpenSpec.upto clashAllSpec)) clashAllUptoCard

/-- THE SECOND FORM's CARD OF 'tributarylaw11.ClashEither'. -/
def clashEitherUptoCard : Claim7 := { stood := { row := clashEitherUptoRow, standIns := [], harness := (true, "478cde56c1e8a461bbb6c33ad590ca5adf6761af285cb1b100d6c3703ad4d0da"), looks := false }, kinds := [], alts := [], laidByText := true, laidKinds := [.data, .pinned], laidTests := true, laidLooks := .later }
def ClashEitherUptoCardSaid : Prop := Claim7.holds Tryz.pinned (.plain (OpenSpec.upto clashEitherSpec)) clashEitherUptoCard

/-- THE SECOND FORM's CARD OF 'tributarylaw11.ClashBehind'. -/
def clashBehindUptoCard : Claim7 := { stood := { row := clashBehindUptoRow, standIns := [], harness := (true, "478cde56c1e8a461bbb6c33ad590ca5adf6761af285cb1b100d6c3703ad4d0da"), looks := false }, kinds := [], alts := [], laidByText := true, laidKinds := [.data, .pinned], laidTests := true, laidLooks := .later }
def ClashBehindUptoCardSaid : Prop := Claim7.holds Tryz.pinned (.plain (OpenSpec.upto clashBehindSpec)) clashBehindUptoCard
end Rows
end Go.Proofs.YtfdaclifapfmdaaGreatDoor
