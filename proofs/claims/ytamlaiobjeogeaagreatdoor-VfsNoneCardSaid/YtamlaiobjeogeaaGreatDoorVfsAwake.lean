/- The layer's closed examples: the run on marks, reckoned by the kernel. -/
import Derived.Test.YtamlaiobjeogeaaGreatDoorEva
namespace Go.Proofs.YtamlaiobjeogeaaGreatDoor
open Go.RowKit
theorem vfsAwake_run (W : World) : Calls Tryz.prog 5 #[] W fun e w' => e = .returned (.bool true) ∧ Chg [] W w' :=
  Ev.closed_callJ [39] (X := [(74, .overlaps [31, 31] [4])]) (g := 3) (n := 100000) (by kernel_rfl) (Ev.one_ext Tryz.func74 (by kernel_rfl) (by kernel_rfl) (by kernel_rfl) (by kernel_rfl) (Ev.no_ext _)) (by kernel_rfl) (by kernel_rfl) W
end Go.Proofs.YtamlaiobjeogeaaGreatDoor
