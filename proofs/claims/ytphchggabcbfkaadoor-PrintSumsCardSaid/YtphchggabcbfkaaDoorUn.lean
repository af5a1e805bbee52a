/- The document's number, read. -/
import Derived.Test.YtphchggabcbfkaaDoorUr
namespace Go.Proofs.YtphchggabcbfkaaDoor
open Go.RowKit

end Go.Proofs.YtphchggabcbfkaaDoor
