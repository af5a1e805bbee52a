/- past: a sweep's step. -/
import Derived.Test.YtomgjogkkoigbaaGreatDoorZspn
set_option linter.unusedSimpArgs false
set_option linter.unusedVariables false
namespace Go.Proofs.YtomgjogkkoigbaaGreatDoor
end Go.Proofs.YtomgjogkkoigbaaGreatDoor
