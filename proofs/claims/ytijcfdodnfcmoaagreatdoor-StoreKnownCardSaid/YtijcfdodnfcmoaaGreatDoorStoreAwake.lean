/- The layer's closed examples: the run on marks, reckoned by the kernel. -/
import Derived.Test.YtijcfdodnfcmoaaGreatDoorEva
namespace Go.Proofs.YtijcfdodnfcmoaaGreatDoor
open Go.RowKit
theorem storeAwake_run (W : World) : Calls Tryz.prog 10 #[] W fun e w' => e = .returned (.bool true) ∧ Chg [] W w' :=
  Ev.closed_call (X := [(121, .overlaps [32, 32] [4])]) (g := 3) (n := 100000) (by kernel_rfl) (Ev.one_ext Tryz.func121 (by kernel_rfl) (by kernel_rfl) (by kernel_rfl) (by kernel_rfl) (Ev.no_ext _)) (by kernel_rfl) (by kernel_rfl) W
end Go.Proofs.YtijcfdodnfcmoaaGreatDoor
