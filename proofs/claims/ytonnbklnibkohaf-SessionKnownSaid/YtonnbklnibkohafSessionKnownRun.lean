/- SessionKnown: the run on marks, reckoned by the kernel. -/
import Derived.Test.YtonnbklnibkohafEva
namespace Go.Proofs.Ytonnbklnibkohaf
open Go.RowKit
theorem sessionKnown_run (W : World) : Calls Try.prog 3 #[] W fun e w' => e = .returned (.bool true) ∧ Chg [] W w' :=
  Ev.closed_call (X := [(30, .swap .u32), (34, .load .i64), (35, .add .i64), (36, .cas .u32), (37, .swap .i64)]) (g := 0) (n := 100000) (by kernel_rfl) (Ev.one_ext Try.func30 (by kernel_rfl) (by kernel_rfl) (by kernel_rfl) (by kernel_rfl) (Ev.one_ext Try.func34 (by kernel_rfl) (by kernel_rfl) (by kernel_rfl) (by kernel_rfl) (Ev.one_ext Try.func35 (by kernel_rfl) (by kernel_rfl) (by kernel_rfl) (by kernel_rfl) (Ev.one_ext Try.func36 (by kernel_rfl) (by kernel_rfl) (by kernel_rfl) (by kernel_rfl) (Ev.one_ext Try.func37 (by kernel_rfl) (by kernel_rfl) (by kernel_rfl) (by kernel_rfl) (Ev.no_ext _)))))) (by kernel_rfl) (by kernel_rfl) W
end Go.Proofs.Ytonnbklnibkohaf
