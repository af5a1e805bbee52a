/- SessionNone: the layer's closed examples by the run on marks. -/
import Derived.Test.YtijgpjjhopkbgaaEva
namespace Go.Proofs.Ytijgpjjhopkbgaa
open Go.RowKit
theorem l18awake_run (W : World) : Calls Try.prog 5 #[] W fun e w' => e = .returned (.bool true) ∧ Chg [] W w' :=
  Ev.closed_call (X := [(37, .swap .u32), (35, .load .i64), (36, .add .i64), (40, .cas .u32), (39, .swap .i64)]) (g := 0) (n := 100000) (by kernel_rfl) (Ev.one_ext Try.func37 (by kernel_rfl) (by kernel_rfl) (by kernel_rfl) (by kernel_rfl) (Ev.one_ext Try.func35 (by kernel_rfl) (by kernel_rfl) (by kernel_rfl) (by kernel_rfl) (Ev.one_ext Try.func36 (by kernel_rfl) (by kernel_rfl) (by kernel_rfl) (by kernel_rfl) (Ev.one_ext Try.func40 (by kernel_rfl) (by kernel_rfl) (by kernel_rfl) (by kernel_rfl) (Ev.one_ext Try.func39 (by kernel_rfl) (by kernel_rfl) (by kernel_rfl) (by kernel_rfl) (Ev.no_ext _)))))) (by kernel_rfl) (by kernel_rfl) W
end Go.Proofs.Ytijgpjjhopkbgaa
