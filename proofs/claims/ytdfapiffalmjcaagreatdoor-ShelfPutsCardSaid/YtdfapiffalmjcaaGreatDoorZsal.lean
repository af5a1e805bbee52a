/- The document's tidy. -/
import Derived.Test.YtdfapiffalmjcaaGreatDoorZsaj
import Derived.Test.YtdfapiffalmjcaaGreatDoorZsad
import Derived.Test.YtdfapiffalmjcaaGreatDoorZsak
import Derived.Deep.Cut
import Derived.Deep.RegionHeld3
import Derived.BigQuiet
import Derived.RegionTactic
namespace Go.Proofs.YtdfapiffalmjcaaGreatDoor
end Go.Proofs.YtdfapiffalmjcaaGreatDoor
