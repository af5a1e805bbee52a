/- The layer's closed examples: the run on marks, reckoned by the kernel. -/
import Derived.Test.YtgafkphhnlifiaaEva
namespace Go.Proofs.Ytgafkphhnlifiaa
open Go.RowKit
theorem l7awake_run (W : World) : Calls Try.prog 8 #[] W fun e w' => e = .returned (.bool true) ∧ Chg [] W w' :=
  Ev.closed_call (X := []) (g := 0) (n := 100000) (by kernel_rfl) (Ev.no_ext _) (by kernel_rfl) (by kernel_rfl) W
end Go.Proofs.Ytgafkphhnlifiaa
