/- SpoolNone: the layer's closed examples by the run on marks. -/
import Derived.Test.YtjhnaiffjlnfhaaDoorEva
namespace Go.Proofs.YtjhnaiffjlnfhaaDoor
open Go.RowKit
theorem l21awake_run (W : World) : Calls Tryd.prog 5 #[] W fun e w' => e = .returned (.bool true) ∧ Chg [] W w' :=
  Ev.closed_call (X := [(29, .load .i64), (54, .cas .i64)]) (g := 3) (n := 100000) (by kernel_rfl) (Ev.one_ext Tryd.func29 (by kernel_rfl) (by kernel_rfl) (by kernel_rfl) (by kernel_rfl) (Ev.one_ext Tryd.func54 (by kernel_rfl) (by kernel_rfl) (by kernel_rfl) (by kernel_rfl) (Ev.no_ext _))) (by kernel_rfl) (by kernel_rfl) W
end Go.Proofs.YtjhnaiffjlnfhaaDoor
