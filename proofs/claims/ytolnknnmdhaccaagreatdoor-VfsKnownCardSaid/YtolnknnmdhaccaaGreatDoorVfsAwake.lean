/- The layer's closed examples: the run on marks, reckoned by the kernel. -/
import Derived.Test.YtolnknnmdhaccaaGreatDoorEva
namespace Go.Proofs.YtolnknnmdhaccaaGreatDoor
open Go.RowKit
theorem vfsAwake_run (W : World) : Calls Tryz.prog 12 #[] W fun e w' => e = .returned (.bool true) ∧ Chg [] W w' :=
  Ev.closed_callJ [37] (X := [(77, .overlaps [37, 37] [4])]) (g := 3) (n := 100000) (by kernel_rfl) (Ev.one_ext Tryz.func77 (by kernel_rfl) (by kernel_rfl) (by kernel_rfl) (by kernel_rfl) (Ev.no_ext _)) (by kernel_rfl) (by kernel_rfl) W
end Go.Proofs.YtolnknnmdhaccaaGreatDoor
