/- Package frame: PutMessage of the chapter's two messages. -/
import Derived.Test.YtphchggabcbfkaaDoorPut
import Derived.Test.YtphchggabcbfkaaDoorKit
import Derived.Deep.Cut
import Derived.Deep.CutRange
namespace Go.Proofs.YtphchggabcbfkaaDoor
open Go.RowKit
set_option linter.unusedSimpArgs false

/-- The bytes of the chapter's part. -/
def partB : List UInt8 := [1, 1, 1, 5, 1, 3, 1, 1, 1, 2, 7, 8]
end Go.Proofs.YtphchggabcbfkaaDoor
