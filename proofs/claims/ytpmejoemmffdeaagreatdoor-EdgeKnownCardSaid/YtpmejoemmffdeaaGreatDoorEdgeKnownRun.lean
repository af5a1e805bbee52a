/- EdgeKnown: the run on marks, reckoned by the kernel. -/
import Derived.Test.YtpmejoemmffdeaaGreatDoorEdgeAwake
import Derived.Test.YtpmejoemmffdeaaGreatDoorLaid0
namespace Go.Proofs.YtpmejoemmffdeaaGreatDoor
open Go.RowKit
/-- Nothing is asked of the variables. -/
def TabN (_ : World) : Prop := True
theorem TabN.laid {W : World} (_h : laidMetH Tryz.prog tables W) : TabN W := trivial
theorem edgeKnown_run (W : World) : Calls Tryz.prog 3 #[] W fun e w' => e = .returned (.bool true) ∧ Chg [] W w' :=
  Ev.closed_call (X := (15, .yes) :: []) (g := 3) (n := 100000) (by kernel_rfl) (Ev.yes_ext edgeAwake_run (Ev.no_ext _)) (by kernel_rfl) (by kernel_rfl) W
end Go.Proofs.YtpmejoemmffdeaaGreatDoor
