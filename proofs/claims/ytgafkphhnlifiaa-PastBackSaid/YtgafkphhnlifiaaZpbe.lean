/- The document's tidy. -/
import Derived.Test.YtgafkphhnlifiaaZpbd
import Derived.Test.YtgafkphhnlifiaaZpbc
import Derived.Deep.Cut
import Derived.Deep.RegionHeld3
import Derived.BigQuiet
import Derived.RegionTactic
namespace Go.Proofs.Ytgafkphhnlifiaa
section
open Go.RowKit Go.Lib
set_option linter.unusedSimpArgs false
set_option linter.unusedVariables false
end
end Go.Proofs.Ytgafkphhnlifiaa
