/-
  DERIVED. GIVEN WITH THE SEED: THE CARDS: each row of YtjhnaiffjlnfhaaDoorRows.lean that lists a variable, with what it lists TIED to the program's text (the seventh form; the later family's looks); each row that meets fmt, with fmt's text TOLD by the authors' own Lean function (tested against real Go, not proved from fmt's source: count such statements apart). THE CARD IS WHAT COUNTS. Prove the row's statement (the work); the ties are given (YtjhnaiffjlnfhaaDoorTie.lean); close each card by the builder's one call (the guide's Derived/Test/ToyasCard.lean, 'card_holds'). Laid BY PROGRAM, IN A SANDBOX (cutbox-door.mjs). By AI agents, Wed Nov 11 2026. No macro, syntax, notation, axiom, sorry.
-/
import Derived.Test.YtjhnaiffjlnfhaaDoorRows
import GoSem.ClaimSeven
namespace Go.Proofs.YtjhnaiffjlnfhaaDoor
namespace Rows

/-- THE TIED CARD OF 'tributarylaw21.SpoolNone'. -/
def spoolNoneCard : Claim7 := { stood := { row := spoolNoneRow, standIns := [], harness := (true, "559a70dc39ba3c7bec861859c6d30ae3bac6775ccb284cdf22f959f6e41fc781"), looks := false }, kinds := [], alts := [], laidByText := true, laidKinds := [.data, .pinned], laidTests := true, laidLooks := .later }
def SpoolNoneCardSaid : Prop := Claim7.holds Tryd.pinned (.plain (OpenSpec.ofChange spoolNoneSpec)) spoolNoneCard

/-- THE SECOND FORM's CARD OF 'tributarylaw21.SpoolNone'. -/
def spoolNoneUptoCard : Claim7 := { stood := { row := spoolNoneUptoRow, standIns := [], harness := (true, "559a70dc39ba3c7bec861859c6d30ae3bac6775ccb284cdf22f959f6e41fc781"), looks := false }, kinds := [], alts := [], laidByText := true, laidKinds := [.data, .pinned], laidTests := true, laidLooks := .later }
def SpoolNoneUptoCardSaid : Prop := Claim7.holds Tryd.pinned (.plain (OpenSpec.upto spoolNoneSpec)) spoolNoneUptoCard
end Rows
end Go.Proofs.YtjhnaiffjlnfhaaDoor
