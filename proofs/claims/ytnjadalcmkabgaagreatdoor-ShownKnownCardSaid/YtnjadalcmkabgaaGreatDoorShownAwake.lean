/- The layer's closed examples: the run on marks, reckoned by the kernel. -/
import Derived.Test.YtnjadalcmkabgaaGreatDoorEva
namespace Go.Proofs.YtnjadalcmkabgaaGreatDoor
open Go.RowKit
theorem shownAwake_run (W : World) : Calls Tryz.prog 14 #[] W fun e w' => e = .returned (.bool true) ∧ Chg [] W w' :=
  Ev.closed_call (X := [(202, .compare)]) (g := 3) (n := 100000) (by kernel_rfl) (Ev.one_ext Tryz.func202 (by kernel_rfl) (by kernel_rfl) (by kernel_rfl) (by kernel_rfl) (Ev.no_ext _)) (by kernel_rfl) (by kernel_rfl) W
end Go.Proofs.YtnjadalcmkabgaaGreatDoor
