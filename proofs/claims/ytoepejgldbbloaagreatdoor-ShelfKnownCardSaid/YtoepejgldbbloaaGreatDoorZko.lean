/- past: a sweep's step. -/
import Derived.Test.YtoepejgldbbloaaGreatDoorZkn
namespace Go.Proofs.YtoepejgldbbloaaGreatDoor
section
open Go.RowKit Go.Lib
set_option linter.unusedSimpArgs false
set_option linter.unusedVariables false


end
end Go.Proofs.YtoepejgldbbloaaGreatDoor
