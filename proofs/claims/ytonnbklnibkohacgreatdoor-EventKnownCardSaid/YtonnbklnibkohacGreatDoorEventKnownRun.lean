/- EventKnown: the run on marks, reckoned by the kernel. -/
import Derived.Test.YtonnbklnibkohacGreatDoorEva
import Derived.Test.YtonnbklnibkohacGreatDoorLaid0
namespace Go.Proofs.YtonnbklnibkohacGreatDoor
open Go.RowKit
/-- Nothing is asked of the variables. -/
def TabN (_ : World) : Prop := True
theorem TabN.laid {W : World} (_h : laidMetH Tryz.prog tables W) : TabN W := trivial
end Go.Proofs.YtonnbklnibkohacGreatDoor
