/- The document's tidy. -/
import Derived.Test.YtcnbgdplkobenaaGreatDoorZif
import Derived.Test.YtcnbgdplkobenaaGreatDoorZid
import Derived.Deep.Cut
import Derived.Deep.RegionHeld3
import Derived.BigQuiet
import Derived.RegionTactic
namespace Go.Proofs.YtcnbgdplkobenaaGreatDoor
section
open Go.RowKit Go.Lib
set_option linter.unusedSimpArgs false
set_option linter.unusedVariables false
end
end Go.Proofs.YtcnbgdplkobenaaGreatDoor
