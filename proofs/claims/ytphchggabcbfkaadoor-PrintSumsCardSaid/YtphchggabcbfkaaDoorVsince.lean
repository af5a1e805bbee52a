/- The document's writer and reader, made since a world w. -/
import Derived.Test.YtphchggabcbfkaaDoorSince
import Derived.Test.YtphchggabcbfkaaDoorVw3
import Derived.Test.YtphchggabcbfkaaDoorUw
namespace Go.Proofs.YtphchggabcbfkaaDoor
open Go.RowKit

end Go.Proofs.YtphchggabcbfkaaDoor
