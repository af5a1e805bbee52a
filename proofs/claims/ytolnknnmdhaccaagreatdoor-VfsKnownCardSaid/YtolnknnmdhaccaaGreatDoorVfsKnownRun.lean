/- VfsKnown: the run on marks, reckoned by the kernel. -/
import Derived.Test.YtolnknnmdhaccaaGreatDoorVfsAwake
import Derived.Test.YtolnknnmdhaccaaGreatDoorLaid0
namespace Go.Proofs.YtolnknnmdhaccaaGreatDoor
open Go.RowKit
/-- Nothing is asked of the variables. -/
def TabN (_ : World) : Prop := True
theorem TabN.laid {W : World} (_h : laidMetH Tryz.prog tables W) : TabN W := trivial
theorem vfsKnown_run (W : World) : Calls Tryz.prog 3 #[] W fun e w' => e = .returned (.bool true) ∧ Chg [] W w' :=
  Ev.closed_callJ [37] (X := (12, .yes) :: [(77, .overlaps [37, 37] [4])]) (g := 3) (n := 100000) (by kernel_rfl) (Ev.yes_ext vfsAwake_run (Ev.one_ext Tryz.func77 (by kernel_rfl) (by kernel_rfl) (by kernel_rfl) (by kernel_rfl) (Ev.no_ext _))) (by kernel_rfl) (by kernel_rfl) W
end Go.Proofs.YtolnknnmdhaccaaGreatDoor
