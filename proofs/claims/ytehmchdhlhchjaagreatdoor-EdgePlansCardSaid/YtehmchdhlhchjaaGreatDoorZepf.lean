/- Single operations on marks, and what the model makes of them: reading, writing, making. No program is named here. append, copy, bytes to a string, on marks, and what the model makes of them. No program is named here. The other operations on marks, and what the model makes of them. No program is named here. -/
import Derived.Test.YtehmchdhlhchjaaGreatDoorZepe
import Derived.Laws.AppendOwn
import Derived.Lib.AppendStr
import Derived.Laws.MakeOwn
import Derived.Laws.IdiomStrings
import Derived.Great.BuildSlice
import Derived.Orders
import Derived.LaidEql
import Derived.RangeFuncRecord
set_option linter.unusedSimpArgs false
set_option linter.unusedVariables false
namespace Go.Proofs.YtehmchdhlhchjaaGreatDoor
end Go.Proofs.YtehmchdhlhchjaaGreatDoor
