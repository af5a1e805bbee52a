/- ChunkNone: the layer's closed examples by the run on marks. -/
import Derived.Test.YtkjdfndbadbkkaaEva
namespace Go.Proofs.Ytkjdfndbadbkkaa
open Go.RowKit
theorem l19awake_run (W : World) : Calls Try.prog 4 #[] W fun e w' => e = .returned (.bool true) ∧ Chg [] W w' :=
  Ev.closed_call (X := []) (g := 0) (n := 100000) (by kernel_rfl) (Ev.no_ext _) (by kernel_rfl) (by kernel_rfl) W
end Go.Proofs.Ytkjdfndbadbkkaa
