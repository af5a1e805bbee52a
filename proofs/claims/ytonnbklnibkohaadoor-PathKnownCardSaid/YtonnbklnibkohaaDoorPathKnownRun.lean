/- PathKnown: the run on marks, reckoned by the kernel. -/
import Derived.Test.YtonnbklnibkohaaDoorEva
import Derived.Test.YtonnbklnibkohaaDoorLaid0
namespace Go.Proofs.YtonnbklnibkohaaDoor
open Go.RowKit
/-- Nothing is asked of the variables. -/
def TabN (_ : World) : Prop := True
theorem TabN.laid {W : World} (_h : laidMetH Tryd.prog tables W) : TabN W := trivial
theorem pathKnown_run (W : World) : Calls Tryd.prog 3 #[] W fun e w' => e = .returned (.bool true) ∧ Chg [] W w' :=
  Ev.closed_call (X := []) (g := 3) (n := 100000) (by kernel_rfl) (Ev.no_ext _) (by kernel_rfl) (by kernel_rfl) W
end Go.Proofs.YtonnbklnibkohaaDoor
