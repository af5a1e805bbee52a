/- The layer's closed examples: the run on marks, reckoned by the kernel. -/
import Derived.Test.YtgjfdplmlejabaaGreatDoorEva
namespace Go.Proofs.YtgjfdplmlejabaaGreatDoor
open Go.RowKit
theorem ledgerAwake_run (W : World) : Calls Tryz.prog 11 #[] W fun e w' => e = .returned (.bool true) ∧ Chg [] W w' :=
  Ev.closed_callJ [28] (X := [(116, .compare)]) (g := 3) (n := 100000) (by kernel_rfl) (Ev.one_ext Tryz.func116 (by kernel_rfl) (by kernel_rfl) (by kernel_rfl) (by kernel_rfl) (Ev.no_ext _)) (by kernel_rfl) (by kernel_rfl) W
end Go.Proofs.YtgjfdplmlejabaaGreatDoor
