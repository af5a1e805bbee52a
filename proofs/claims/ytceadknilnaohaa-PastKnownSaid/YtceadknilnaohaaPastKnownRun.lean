/- PastKnown: the run on marks, reckoned by the kernel. -/
import Derived.Test.YtceadknilnaohaaEva
namespace Go.Proofs.Ytceadknilnaohaa
open Go.RowKit
theorem pastKnown_run (W : World) : Calls Try.prog 6 #[] W fun e w' => e = .returned (.bool true) ∧ Chg [] W w' :=
  Ev.closed_call (n := 100000) (by kernel_rfl) (by kernel_rfl) (by kernel_rfl) W
end Go.Proofs.Ytceadknilnaohaa
