/- The layer's closed examples: the run on marks, reckoned by the kernel. -/
import Derived.Test.YtibdeiahmgkbhaaDoorEva
namespace Go.Proofs.YtibdeiahmgkbhaaDoor
open Go.RowKit
theorem pathAwake_run (W : World) : Calls Tryd.prog 11 #[] W fun e w' => e = .returned (.bool true) ∧ Chg [] W w' :=
  Ev.closed_call (X := []) (g := 3) (n := 100000) (by kernel_rfl) (Ev.no_ext _) (by kernel_rfl) (by kernel_rfl) W
end Go.Proofs.YtibdeiahmgkbhaaDoor
