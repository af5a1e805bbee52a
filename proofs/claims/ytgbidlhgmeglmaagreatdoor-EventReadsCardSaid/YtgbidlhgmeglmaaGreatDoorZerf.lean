/- A row of structs: one cell of one of them is stored. No program here. past.push onto the last span. -/
import Derived.Test.YtgbidlhgmeglmaaGreatDoorZera
import Derived.Test.YtgbidlhgmeglmaaGreatDoorZere
import Derived.Deep.Cut
import Derived.Deep.RegionHeld3
namespace Go.Proofs.YtgbidlhgmeglmaaGreatDoor
section
set_option linter.unusedSimpArgs false
set_option linter.unusedVariables false
variable {α : Type} {R : RowTy α}
end
section
open Go.RowKit Go.Lib
set_option linter.unusedSimpArgs false
set_option linter.unusedVariables false
end
end Go.Proofs.YtgbidlhgmeglmaaGreatDoor
