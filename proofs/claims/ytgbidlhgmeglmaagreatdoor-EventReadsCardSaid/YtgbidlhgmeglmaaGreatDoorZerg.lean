/- The document's tidy. -/
import Derived.Test.YtgbidlhgmeglmaaGreatDoorZere
import Derived.Test.YtgbidlhgmeglmaaGreatDoorZerd
import Derived.Test.YtgbidlhgmeglmaaGreatDoorZerf
import Derived.Deep.Cut
import Derived.Deep.RegionHeld3
import Derived.BigQuiet
import Derived.RegionTactic
namespace Go.Proofs.YtgbidlhgmeglmaaGreatDoor
section
open Go.RowKit Go.Lib
set_option linter.unusedSimpArgs false
set_option linter.unusedVariables false
end
end Go.Proofs.YtgbidlhgmeglmaaGreatDoor
