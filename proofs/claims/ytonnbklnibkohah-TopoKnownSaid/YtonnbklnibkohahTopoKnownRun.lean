/- TopoKnown: the run on marks, reckoned by the kernel. -/
import Derived.Test.YtonnbklnibkohahEva
namespace Go.Proofs.Ytonnbklnibkohah
open Go.RowKit
theorem topoKnown_run (W : World) : Calls Try.prog 3 #[] W fun e w' => e = .returned (.bool true) ∧ Chg [] W w' :=
  Ev.closed_call (n := 100000) (by kernel_rfl) (by kernel_rfl) (by kernel_rfl) W
end Go.Proofs.Ytonnbklnibkohah
