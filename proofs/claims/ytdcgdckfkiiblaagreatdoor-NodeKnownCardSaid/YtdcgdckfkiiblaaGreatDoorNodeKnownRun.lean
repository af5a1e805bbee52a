/- NodeKnown: the run on marks, reckoned by the kernel. -/
import Derived.Test.YtdcgdckfkiiblaaGreatDoorNodeAwake
import Derived.Test.YtdcgdckfkiiblaaGreatDoorLaid0
namespace Go.Proofs.YtdcgdckfkiiblaaGreatDoor
open Go.RowKit
/-- Nothing is asked of the variables. -/
def TabN (_ : World) : Prop := True
theorem TabN.laid {W : World} (_h : laidMetH Tryz.prog tables W) : TabN W := trivial
theorem nodeKnown_run (W : World) : Calls Tryz.prog 3 #[] W fun e w' => e = .returned (.bool true) ∧ Chg [] W w' :=
  Ev.closed_call (X := (12, .yes) :: [(208, .compare), (245, .overlaps [22, 22] [4])]) (g := 3) (n := 100000) (by kernel_rfl) (Ev.yes_ext nodeAwake_run (Ev.one_ext Tryz.func208 (by kernel_rfl) (by kernel_rfl) (by kernel_rfl) (by kernel_rfl) (Ev.one_ext Tryz.func245 (by kernel_rfl) (by kernel_rfl) (by kernel_rfl) (by kernel_rfl) (Ev.no_ext _)))) (by kernel_rfl) (by kernel_rfl) W
end Go.Proofs.YtdcgdckfkiiblaaGreatDoor
