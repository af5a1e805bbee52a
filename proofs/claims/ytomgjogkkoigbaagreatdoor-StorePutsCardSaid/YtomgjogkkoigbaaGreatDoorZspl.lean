/- The document's tidy. -/
import Derived.Test.YtomgjogkkoigbaaGreatDoorZspk
import Derived.Test.YtomgjogkkoigbaaGreatDoorZspd
import Derived.Deep.Cut
import Derived.Deep.RegionHeld3
import Derived.BigQuiet
import Derived.RegionTactic
set_option linter.unusedSimpArgs false
set_option linter.unusedVariables false
namespace Go.Proofs.YtomgjogkkoigbaaGreatDoor
end Go.Proofs.YtomgjogkkoigbaaGreatDoor
