/- The layer's closed examples: the run on marks, reckoned by the kernel. -/
import Derived.Test.YtpggegahdbkkkaaGreatDoorEva
namespace Go.Proofs.YtpggegahdbkkkaaGreatDoor
open Go.RowKit
theorem clashAwake_run (W : World) : Calls Tryz.prog 7 #[] W fun e w' => e = .returned (.bool true) ∧ Chg [] W w' :=
  Ev.closed_callJ [15, 13] (X := [(105, .compare)]) (g := 3) (n := 100000) (by kernel_rfl) (Ev.one_ext Tryz.func105 (by kernel_rfl) (by kernel_rfl) (by kernel_rfl) (by kernel_rfl) (Ev.no_ext _)) (by kernel_rfl) (by kernel_rfl) W
end Go.Proofs.YtpggegahdbkkkaaGreatDoor
