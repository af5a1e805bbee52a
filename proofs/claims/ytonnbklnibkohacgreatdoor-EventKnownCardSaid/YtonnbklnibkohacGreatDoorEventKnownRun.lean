/- EventKnown: the run on marks, reckoned by the kernel. -/
import Derived.Test.YtonnbklnibkohacGreatDoorEva
import Derived.Test.YtonnbklnibkohacGreatDoorLaid0
namespace Go.Proofs.YtonnbklnibkohacGreatDoor
open Go.RowKit
/-- Nothing is asked of the variables. -/
def TabN (_ : World) : Prop := True
theorem TabN.laid {W : World} (_h : laidMetH Tryz.prog tables W) : TabN W := trivial
theorem eventKnown_run (W : World) : Calls Tryz.prog 3 #[] W fun e w' => e = .returned (.bool true) ∧ Chg [] W w' :=
  Ev.closed_call (X := [(135, .compare)]) (g := 3) (n := 100000) (by kernel_rfl) (Ev.one_ext Tryz.func135 (by kernel_rfl) (by kernel_rfl) (by kernel_rfl) (by kernel_rfl) (Ev.no_ext _)) (by kernel_rfl) (by kernel_rfl) W
end Go.Proofs.YtonnbklnibkohacGreatDoor
