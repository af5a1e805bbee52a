/- ClashKnown: the run on marks, reckoned by the kernel. -/
import Derived.Test.YtpggegahdbkkkaaGreatDoorClashAwake
import Derived.Test.YtpggegahdbkkkaaGreatDoorLaid0
namespace Go.Proofs.YtpggegahdbkkkaaGreatDoor
open Go.RowKit
/-- Nothing is asked of the variables. -/
def TabN (_ : World) : Prop := True
theorem TabN.laid {W : World} (_h : laidMetH Tryz.prog tables W) : TabN W := trivial
theorem clashKnown_run (W : World) : Calls Tryz.prog 3 #[] W fun e w' => e = .returned (.bool true) ∧ Chg [] W w' :=
  Ev.closed_callJ [15, 13] (X := (7, .yes) :: [(105, .compare)]) (g := 3) (n := 100000) (by kernel_rfl) (Ev.yes_ext clashAwake_run (Ev.one_ext Tryz.func105 (by kernel_rfl) (by kernel_rfl) (by kernel_rfl) (by kernel_rfl) (Ev.no_ext _))) (by kernel_rfl) (by kernel_rfl) W
end Go.Proofs.YtpggegahdbkkkaaGreatDoor
