/- The layer's closed examples: the run on marks, reckoned by the kernel. -/
import Derived.Test.YtjlehijgbkjnhaaGreatDoorEva
namespace Go.Proofs.YtjlehijgbkjnhaaGreatDoor
open Go.RowKit
theorem tableAwake_run (W : World) : Calls Tryz.prog 12 #[] W fun e w' => e = .returned (.bool true) ∧ Chg [] W w' :=
  Ev.closed_call (X := [(100, .compare), (44, .overlaps [22, 22] [4])]) (g := 3) (n := 100000) (by kernel_rfl) (Ev.one_ext Tryz.func100 (by kernel_rfl) (by kernel_rfl) (by kernel_rfl) (by kernel_rfl) (Ev.one_ext Tryz.func44 (by kernel_rfl) (by kernel_rfl) (by kernel_rfl) (by kernel_rfl) (Ev.no_ext _))) (by kernel_rfl) (by kernel_rfl) W
end Go.Proofs.YtjlehijgbkjnhaaGreatDoor
