/- Regions in the text's order, code, calls: the whole run, but for regions that draw their order. No program is named here. -/
import Derived.Test.YtoepejgldbbloaaGreatDoorZkg
import Derived.TacticsIn
namespace Go.Proofs.YtoepejgldbbloaaGreatDoor
end Go.Proofs.YtoepejgldbbloaaGreatDoor
