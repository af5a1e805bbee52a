/-
  DERIVED. GIVEN WITH THE SEED: THE CARDS: each row of YtphchggabcbfkaaDoorRows.lean that lists a variable, with what it lists TIED to the program's text (the seventh form; the later family's looks); each row that meets fmt, with fmt's text TOLD by the authors' own Lean function (tested against real Go, not proved from fmt's source: count such statements apart). THE CARD IS WHAT COUNTS. Prove the row's statement (the work); the ties are given (YtphchggabcbfkaaDoorTie.lean); close each card by the builder's one call (the guide's Derived/Test/ToyasCard.lean, 'card_holds'). Laid BY PROGRAM, IN A SANDBOX (cutbox-door.mjs). By AI agents, Wed Nov 11 2026. No macro, syntax, notation, axiom, sorry.
-/
import Derived.Test.YtphchggabcbfkaaDoorRows
import GoSem.ClaimSeven
namespace Go.Proofs.YtphchggabcbfkaaDoor
namespace Rows

/-- THE TIED CARD OF 'tributarylaw02.PrintSums'. -/
def printSumsCard : Claim7 := { stood := { row := printSumsRow, standIns := [], harness := (true, "30e4ce84d58eab6507eafa630376d9340380087d6e46ae58e32aed661ff53594"), looks := false }, kinds := [], alts := [], laidByText := true, laidKinds := [.data, .data, .data], laidTests := true, laidLooks := .later }
def PrintSumsCardSaid : Prop := Claim7.holds Tryd.pinned (.plain (OpenSpec.ofChange printSumsSpec)) printSumsCard

/-- THE TIED CARD OF 'tributarylaw02.PrintTexts'. -/
def printTextsCard : Claim7 := { stood := { row := printTextsRow, standIns := [], harness := (true, "30e4ce84d58eab6507eafa630376d9340380087d6e46ae58e32aed661ff53594"), looks := false }, kinds := [], alts := [], laidByText := true, laidKinds := [.data, .data, .data], laidTests := true, laidLooks := .later }
def PrintTextsCardSaid : Prop := Claim7.holds Tryd.pinned (.plain (OpenSpec.ofChange printTextsSpec)) printTextsCard

/-- THE TIED CARD OF 'tributarylaw02.PrintKnown'. -/
def printKnownCard : Claim7 := { stood := { row := printKnownRow, standIns := [], harness := (true, "30e4ce84d58eab6507eafa630376d9340380087d6e46ae58e32aed661ff53594"), looks := false }, kinds := [], alts := [], laidByText := true, laidKinds := [.data, .data, .data], laidTests := true, laidLooks := .later }
def PrintKnownCardSaid : Prop := Claim7.holds Tryd.pinned (.plain (OpenSpec.ofChange printKnownSpec)) printKnownCard

/-- THE TIED CARD OF 'tributarylaw02.PrintPieces'. -/
def printPiecesCard : Claim7 := { stood := { row := printPiecesRow, standIns := [], harness := (true, "30e4ce84d58eab6507eafa630376d9340380087d6e46ae58e32aed661ff53594"), looks := false }, kinds := [], alts := [], laidByText := true, laidKinds := [.data, .data, .data], laidTests := true, laidLooks := .later }
def PrintPiecesCardSaid : Prop := Claim7.holds Tryd.pinned (.plain (OpenSpec.ofChange printPiecesSpec)) printPiecesCard

/-- THE TIED CARD OF 'tributarylaw02.PrintChanged'. -/
def printChangedCard : Claim7 := { stood := { row := printChangedRow, standIns := [], harness := (true, "30e4ce84d58eab6507eafa630376d9340380087d6e46ae58e32aed661ff53594"), looks := false }, kinds := [], alts := [], laidByText := true, laidKinds := [.data, .data, .data], laidTests := true, laidLooks := .later }
def PrintChangedCardSaid : Prop := Claim7.holds Tryd.pinned (.plain (OpenSpec.ofChange printChangedSpec)) printChangedCard

/-- THE TIED CARD OF 'tributarylaw02.PrintBack'. -/
def printBackCard : Claim7 := { stood := { row := printBackRow, standIns := [], harness := (true, "30e4ce84d58eab6507eafa630376d9340380087d6e46ae58e32aed661ff53594"), looks := false }, kinds := [], alts := [], laidByText := true, laidKinds := [.data, .data, .data], laidTests := true, laidLooks := .later }
def PrintBackCardSaid : Prop := Claim7.holds Tryd.pinned (.plain (OpenSpec.ofChange printBackSpec)) printBackCard

/-- THE SECOND FORM's CARD OF 'tributarylaw02.PrintSums'. -/
def printSumsUptoCard : Claim7 := { stood := { row := printSumsUptoRow, standIns := [], harness := (true, "30e4ce84d58eab6507eafa630376d9340380087d6e46ae58e32aed661ff53594"), looks := false }, kinds := [], alts := [], laidByText := true, laidKinds := [.data, .data, .data], laidTests := true, laidLooks := .later }
def PrintSumsUptoCardSaid : Prop := Claim7.holds Tryd.pinned (.plain (OpenSpec.upto printSumsSpec)) printSumsUptoCard

/-- THE SECOND FORM's CARD OF 'tributarylaw02.PrintTexts'. -/
def printTextsUptoCard : Claim7 := { stood := { row := printTextsUptoRow, standIns := [], harness := (true, "30e4ce84d58eab6507eafa630376d9340380087d6e46ae58e32aed661ff53594"), looks := false }, kinds := [], alts := [], laidByText := true, laidKinds := [.data, .data, .data], laidTests := true, laidLooks := .later }
def PrintTextsUptoCardSaid : Prop := Claim7.holds Tryd.pinned (.plain (OpenSpec.upto printTextsSpec)) printTextsUptoCard

/-- THE SECOND FORM's CARD OF 'tributarylaw02.PrintKnown'. -/
def printKnownUptoCard : Claim7 := { stood := { row := printKnownUptoRow, standIns := [], harness := (true, "30e4ce84d58eab6507eafa630376d9340380087d6e46ae58e32aed661ff53594"), looks := false }, kinds := [], alts := [], laidByText := true, laidKinds := [.data, .data, .data], laidTests := true, laidLooks := .later }
def PrintKnownUptoCardSaid : Prop := Claim7.holds Tryd.pinned (.plain (OpenSpec.upto printKnownSpec)) printKnownUptoCard

/-- THE SECOND FORM's CARD OF 'tributarylaw02.PrintPieces'. -/
def printPiecesUptoCard : Claim7 := { stood := { row := printPiecesUptoRow, standIns := [], harness := (true, "30e4ce84d58eab6507eafa630376d9340380087d6e46ae58e32aed661ff53594"), looks := false }, kinds := [], alts := [], laidByText := true, laidKinds := [.data, .data, .data], laidTests := true, laidLooks := .later }
def PrintPiecesUptoCardSaid : Prop := Claim7.holds Tryd.pinned (.plain (OpenSpec.upto printPiecesSpec)) printPiecesUptoCard

/-- THE SECOND FORM's CARD OF 'tributarylaw02.PrintChanged'. -/
def printChangedUptoCard : Claim7 := { stood := { row := printChangedUptoRow, standIns := [], harness := (true, "30e4ce84d58eab6507eafa630376d9340380087d6e46ae58e32aed661ff53594"), looks := false }, kinds := [], alts := [], laidByText := true, laidKinds := [.data, .data, .data], laidTests := true, laidLooks := .later }
def PrintChangedUptoCardSaid : Prop := Claim7.holds Tryd.pinned (.plain (OpenSpec.upto printChangedSpec)) printChangedUptoCard

/-- THE SECOND FORM's CARD OF 'tributarylaw02.PrintBack'. -/
def printBackUptoCard : Claim7 := { stood := { row := printBackUptoRow, standIns := [], harness := (true, "30e4ce84d58eab6507eafa630376d9340380087d6e46ae58e32aed661ff53594"), looks := false }, kinds := [], alts := [], laidByText := true, laidKinds := [.data, .data, .data], laidTests := true, laidLooks := .later }
def PrintBackUptoCardSaid : Prop := Claim7.holds Tryd.pinned (.plain (OpenSpec.upto printBackSpec)) printBackUptoCard
end Rows
end Go.Proofs.YtphchggabcbfkaaDoor
