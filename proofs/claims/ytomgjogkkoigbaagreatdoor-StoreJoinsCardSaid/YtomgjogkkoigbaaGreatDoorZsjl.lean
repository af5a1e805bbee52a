/- The document's tidy. -/
import Derived.Test.YtomgjogkkoigbaaGreatDoorZsjk
import Derived.Test.YtomgjogkkoigbaaGreatDoorZsjd
import Derived.Deep.Cut
import Derived.Deep.RegionHeld3
import Derived.BigQuiet
import Derived.RegionTactic
namespace Go.Proofs.YtomgjogkkoigbaaGreatDoor
end Go.Proofs.YtomgjogkkoigbaaGreatDoor
