/- The document's tidy. -/
import Derived.Test.YtehmchdhlhchjaaGreatDoorZean
import Derived.Test.YtehmchdhlhchjaaGreatDoorZeac
import Derived.Test.YtehmchdhlhchjaaGreatDoorZeae
import Derived.Deep.Cut
import Derived.Deep.RegionHeld3
import Derived.BigQuiet
import Derived.RegionTactic
set_option linter.unusedSimpArgs false
set_option linter.unusedVariables false
namespace Go.Proofs.YtehmchdhlhchjaaGreatDoor
end Go.Proofs.YtehmchdhlhchjaaGreatDoor
