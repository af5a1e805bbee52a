/- The layer's closed examples: the run on marks, reckoned by the kernel. -/
import Derived.Test.YtpmejoemmffdeaaGreatDoorEva
namespace Go.Proofs.YtpmejoemmffdeaaGreatDoor
open Go.RowKit
theorem edgeAwake_run (W : World) : Calls Tryz.prog 15 #[] W fun e w' => e = .returned (.bool true) ∧ Chg [] W w' :=
  Ev.closed_call (X := []) (g := 3) (n := 100000) (by kernel_rfl) (Ev.no_ext _) (by kernel_rfl) (by kernel_rfl) W
end Go.Proofs.YtpmejoemmffdeaaGreatDoor
