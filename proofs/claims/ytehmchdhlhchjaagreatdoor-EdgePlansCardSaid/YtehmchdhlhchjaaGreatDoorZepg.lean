/- Maps on marks, and what the model makes of them. No program is named here. One operation on marks is one operation of the model's. No program is named here. Code, calls and rounds on marks, and what the model makes of them. No program is named here. -/
import Derived.Test.YtehmchdhlhchjaaGreatDoorZepf
import Derived.RangeFuncNested
set_option linter.unusedSimpArgs false
set_option linter.unusedVariables false
namespace Go.Proofs.YtehmchdhlhchjaaGreatDoor
end Go.Proofs.YtehmchdhlhchjaaGreatDoor
