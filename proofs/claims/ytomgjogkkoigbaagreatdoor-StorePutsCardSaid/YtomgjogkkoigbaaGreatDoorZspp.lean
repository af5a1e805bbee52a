/- past: a sweep's step, of one past. past: a sweep's step, whatever is left. -/
import Derived.Test.YtomgjogkkoigbaaGreatDoorZspn
import Derived.Test.YtomgjogkkoigbaaGreatDoorZspo
set_option linter.unusedSimpArgs false
set_option linter.unusedVariables false
namespace Go.Proofs.YtomgjogkkoigbaaGreatDoor
end Go.Proofs.YtomgjogkkoigbaaGreatDoor
