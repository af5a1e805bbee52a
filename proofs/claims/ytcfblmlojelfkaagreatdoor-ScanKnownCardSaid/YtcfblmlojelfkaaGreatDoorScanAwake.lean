/- The layer's closed examples: the run on marks, reckoned by the kernel. -/
import Derived.Test.YtcfblmlojelfkaaGreatDoorEva
namespace Go.Proofs.YtcfblmlojelfkaaGreatDoor
open Go.RowKit
theorem scanAwake_run (W : World) : Calls Tryz.prog 9 #[] W fun e w' => e = .returned (.bool true) ∧ Chg [] W w' :=
  Ev.closed_callJ [59] (X := [(107, .overlaps [58, 58] [4]), (149, .compare)]) (g := 3) (n := 100000) (by kernel_rfl) (Ev.one_ext Tryz.func107 (by kernel_rfl) (by kernel_rfl) (by kernel_rfl) (by kernel_rfl) (Ev.one_ext Tryz.func149 (by kernel_rfl) (by kernel_rfl) (by kernel_rfl) (by kernel_rfl) (Ev.no_ext _))) (by kernel_rfl) (by kernel_rfl) W
end Go.Proofs.YtcfblmlojelfkaaGreatDoor
