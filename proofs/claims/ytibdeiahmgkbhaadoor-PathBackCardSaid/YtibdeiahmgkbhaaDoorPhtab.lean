/- A card that asks nothing of the variables. -/
import Derived.Test.YtibdeiahmgkbhaaDoorLaid0
namespace Go.Proofs.YtibdeiahmgkbhaaDoor
open Go.RowKit
/-- Nothing is asked of the variables. -/
def TabN (_ : World) : Prop := True
theorem TabN.laid {W : World} (_h : laidMetH Tryd.prog tables W) : TabN W := trivial
end Go.Proofs.YtibdeiahmgkbhaaDoor
