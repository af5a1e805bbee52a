/- past: a sweep's step, of one past. past: a sweep's step, whatever is left. -/
import Derived.Test.YtoepejgldbbloaaGreatDoorZkn
import Derived.Test.YtoepejgldbbloaaGreatDoorZko
namespace Go.Proofs.YtoepejgldbbloaaGreatDoor
section
open Go.RowKit Go.Lib
set_option linter.unusedSimpArgs false
set_option linter.unusedVariables false


end
section
open Go.RowKit Go.Lib
set_option linter.unusedSimpArgs false
set_option linter.unusedVariables false

end
end Go.Proofs.YtoepejgldbbloaaGreatDoor
