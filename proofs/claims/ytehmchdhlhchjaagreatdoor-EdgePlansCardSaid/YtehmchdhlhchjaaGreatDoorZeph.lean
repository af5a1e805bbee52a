/- Regions in the text's order, code, calls: the whole run, but for regions that draw their order. No program is named here. -/
import Derived.Test.YtehmchdhlhchjaaGreatDoorZepg
import Derived.TacticsIn
set_option linter.unusedSimpArgs false
set_option linter.unusedVariables false
namespace Go.Proofs.YtehmchdhlhchjaaGreatDoor
end Go.Proofs.YtehmchdhlhchjaaGreatDoor
