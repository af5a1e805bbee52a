/- ScanKnown: the run on marks, reckoned by the kernel. -/
import Derived.Test.YtcfblmlojelfkaaGreatDoorScanAwake
import Derived.Test.YtcfblmlojelfkaaGreatDoorLaid0
namespace Go.Proofs.YtcfblmlojelfkaaGreatDoor
open Go.RowKit
/-- Nothing is asked of the variables. -/
def TabN (_ : World) : Prop := True
theorem TabN.laid {W : World} (_h : laidMetH Tryz.prog tables W) : TabN W := trivial
theorem scanKnown_run (W : World) : Calls Tryz.prog 3 #[] W fun e w' => e = .returned (.bool true) ∧ Chg [] W w' :=
  Ev.closed_callJ [59] (X := (9, .yes) :: [(107, .overlaps [58, 58] [4]), (149, .compare)]) (g := 3) (n := 100000) (by kernel_rfl) (Ev.yes_ext scanAwake_run (Ev.one_ext Tryz.func107 (by kernel_rfl) (by kernel_rfl) (by kernel_rfl) (by kernel_rfl) (Ev.one_ext Tryz.func149 (by kernel_rfl) (by kernel_rfl) (by kernel_rfl) (by kernel_rfl) (Ev.no_ext _)))) (by kernel_rfl) (by kernel_rfl) W
end Go.Proofs.YtcfblmlojelfkaaGreatDoor
