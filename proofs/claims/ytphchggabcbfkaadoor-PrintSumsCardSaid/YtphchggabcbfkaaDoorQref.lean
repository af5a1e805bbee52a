/- The document's layer 17: number, CheckPacket, sum, PutPacket, GetPacket. -/
import Derived.Test.YtphchggabcbfkaaDoorPaw
import Derived.Test.YtphchggabcbfkaaDoorVsince
namespace Go.Proofs.YtphchggabcbfkaaDoor
open Go.RowKit
set_option linter.unusedSimpArgs false

end Go.Proofs.YtphchggabcbfkaaDoor
