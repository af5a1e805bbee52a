/- Worlds against marks: what holds of each mark, and a step from one to the next. No program is named here. Single operations on marks, and what the model makes of them: reading, writing, making. No program is named here. append, copy, bytes to a string, on marks, and what the model makes of them. No program is named here. The other operations on marks, and what the model makes of them. No program is named here. -/
import Derived.Test.YtimdfpejgaidhaaGreatDoorZtwd
import Derived.WalkKit
import Derived.Below
import Derived.Laws.AppendOwn
import Derived.Lib.AppendStr
import Derived.Laws.MakeOwn
import Derived.Laws.IdiomStrings
import Derived.Great.BuildSlice
import Derived.Orders
import Derived.LaidEql
import Derived.RangeFuncRecord
namespace Go.Proofs.YtimdfpejgaidhaaGreatDoor
end Go.Proofs.YtimdfpejgaidhaaGreatDoor
