/- Nothing is asked of the variables. -/
import Derived.Test.YtfdaclifapfmdaaGreatDoorZctm
import Derived.Test.YtfdaclifapfmdaaGreatDoorLaid0
namespace Go.Proofs.YtfdaclifapfmdaaGreatDoor
section
def TabN (_ : World) : Prop := True
theorem TabN.laid {W : World} (_h : laidMetH Tryz.prog tables W) : TabN W := trivial
end
end Go.Proofs.YtfdaclifapfmdaaGreatDoor
