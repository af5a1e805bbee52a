/- The layer's closed examples: the run on marks, reckoned by the kernel. -/
import Derived.Test.YtdcgdckfkiiblaaGreatDoorEva
namespace Go.Proofs.YtdcgdckfkiiblaaGreatDoor
open Go.RowKit
theorem nodeAwake_run (W : World) : Calls Tryz.prog 12 #[] W fun e w' => e = .returned (.bool true) ∧ Chg [] W w' :=
  Ev.closed_call (X := [(208, .compare), (245, .overlaps [22, 22] [4])]) (g := 3) (n := 100000) (by kernel_rfl) (Ev.one_ext Tryz.func208 (by kernel_rfl) (by kernel_rfl) (by kernel_rfl) (by kernel_rfl) (Ev.one_ext Tryz.func245 (by kernel_rfl) (by kernel_rfl) (by kernel_rfl) (by kernel_rfl) (Ev.no_ext _))) (by kernel_rfl) (by kernel_rfl) W
end Go.Proofs.YtdcgdckfkiiblaaGreatDoor
