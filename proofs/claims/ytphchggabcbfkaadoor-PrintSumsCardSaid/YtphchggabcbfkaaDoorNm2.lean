/- The reader's number where no digit follows. -/
import Derived.Test.YtphchggabcbfkaaDoorNm
namespace Go.Proofs.YtphchggabcbfkaaDoor
open Go.RowKit

end Go.Proofs.YtphchggabcbfkaaDoor
