/- Regions in the text's order, code, calls: the whole run, but for regions that draw their order. No program is named here. -/
import Derived.Test.YtimdfpejgaidhaaGreatDoorZtwf
import Derived.TacticsIn
namespace Go.Proofs.YtimdfpejgaidhaaGreatDoor
end Go.Proofs.YtimdfpejgaidhaaGreatDoor
