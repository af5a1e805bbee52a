/- PastDots. past: kept hands on what is kept. past: what is kept is merged. past.Minus. past.Within. The document's Join. The document's Minus. The document's Within. PastSets. -/
import Derived.Test.YtgafkphhnlifiaaZpbi
import Derived.Test.YtgafkphhnlifiaaZpbj
import Derived.Test.YtgafkphhnlifiaaZpbc
import Derived.Test.YtgafkphhnlifiaaZpbd
import Derived.Test.YtgafkphhnlifiaaZpbo
import Derived.Deep.Cut
import Derived.Deep.CutRange
import Derived.OwnWalkIn
import Derived.Sort.LoopGhostIn
import Derived.Test.YtgafkphhnlifiaaZpbf
import Derived.Test.YtgafkphhnlifiaaZpbe
import Derived.Test.YtgafkphhnlifiaaZpbb
namespace Go.Proofs.Ytgafkphhnlifiaa
section
open Go.RowKit Go.Lib
set_option linter.unusedSimpArgs false
set_option linter.unusedVariables false
end
section
open Go.RowKit Go.Lib
set_option linter.unusedSimpArgs false
set_option linter.unusedVariables false
end
section
open Go.RowKit Go.Lib
set_option linter.unusedSimpArgs false
set_option linter.unusedVariables false
attribute [local go_sem] Oper.semAt_some
end
section
open Go.RowKit Go.Lib
set_option linter.unusedSimpArgs false
set_option linter.unusedVariables false
end
section
open Go.RowKit Go.Lib
set_option linter.unusedSimpArgs false
set_option linter.unusedVariables false
attribute [local go_sem] Oper.semAt_some
end
section
open Go.RowKit Go.Lib
set_option linter.unusedSimpArgs false
set_option linter.unusedVariables false
end
section
open Go.RowKit Go.Lib
set_option linter.unusedSimpArgs false
set_option linter.unusedVariables false
end
section
open Go.RowKit Go.Lib
set_option linter.unusedSimpArgs false
set_option linter.unusedVariables false
end
section
open Go.RowKit Go.Lib
set_option linter.unusedSimpArgs false
set_option linter.unusedVariables false
end
end Go.Proofs.Ytgafkphhnlifiaa
