/- PrintSums. -/
import Derived.Test.YtphchggabcbfkaaDoorPmix
import Derived.Test.YtphchggabcbfkaaDoorPawk
import Derived.Test.YtphchggabcbfkaaDoorNargs
import Derived.Deep.RegionHeld3
namespace Go.Proofs.YtphchggabcbfkaaDoor
open Go.RowKit
set_option linter.unusedSimpArgs false
set_option linter.unusedVariables false

theorem info64 : (Tryd.prog.info? 23).map (fun i => (i.zero, i.size, i.bytes)) = some (some (.int .u64 0), 1, 8) := by kernel_rfl
end Go.Proofs.YtphchggabcbfkaaDoor
