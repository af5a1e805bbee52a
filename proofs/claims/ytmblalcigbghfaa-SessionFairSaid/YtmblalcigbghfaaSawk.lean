/- SessionNone: the layer's closed examples by the run on marks. -/
import Derived.Test.YtmblalcigbghfaaEva
namespace Go.Proofs.Ytmblalcigbghfaa
open Go.RowKit
theorem l18awake_run (W : World) : Calls Try.prog 10 #[] W fun e w' => e = .returned (.bool true) ∧ Chg [] W w' :=
  Ev.closed_call (X := [(55, .swap .u32), (58, .load .i64), (59, .add .i64), (60, .cas .u32), (61, .swap .i64)]) (g := 0) (n := 100000) (by kernel_rfl) (Ev.one_ext Try.func55 (by kernel_rfl) (by kernel_rfl) (by kernel_rfl) (by kernel_rfl) (Ev.one_ext Try.func58 (by kernel_rfl) (by kernel_rfl) (by kernel_rfl) (by kernel_rfl) (Ev.one_ext Try.func59 (by kernel_rfl) (by kernel_rfl) (by kernel_rfl) (by kernel_rfl) (Ev.one_ext Try.func60 (by kernel_rfl) (by kernel_rfl) (by kernel_rfl) (by kernel_rfl) (Ev.one_ext Try.func61 (by kernel_rfl) (by kernel_rfl) (by kernel_rfl) (by kernel_rfl) (Ev.no_ext _)))))) (by kernel_rfl) (by kernel_rfl) W
end Go.Proofs.Ytmblalcigbghfaa
