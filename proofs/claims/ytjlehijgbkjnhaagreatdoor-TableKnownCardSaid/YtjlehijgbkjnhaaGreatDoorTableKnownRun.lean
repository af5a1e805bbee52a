/- TableKnown: the run on marks, reckoned by the kernel. -/
import Derived.Test.YtjlehijgbkjnhaaGreatDoorTableAwake
import Derived.Test.YtjlehijgbkjnhaaGreatDoorLaid0
namespace Go.Proofs.YtjlehijgbkjnhaaGreatDoor
open Go.RowKit
/-- Nothing is asked of the variables. -/
def TabN (_ : World) : Prop := True
theorem TabN.laid {W : World} (_h : laidMetH Tryz.prog tables W) : TabN W := trivial
theorem tableKnown_run (W : World) : Calls Tryz.prog 3 #[] W fun e w' => e = .returned (.bool true) ∧ Chg [] W w' :=
  Ev.closed_call (X := (12, .yes) :: [(100, .compare), (44, .overlaps [22, 22] [4])]) (g := 3) (n := 100000) (by kernel_rfl) (Ev.yes_ext tableAwake_run (Ev.one_ext Tryz.func100 (by kernel_rfl) (by kernel_rfl) (by kernel_rfl) (by kernel_rfl) (Ev.one_ext Tryz.func44 (by kernel_rfl) (by kernel_rfl) (by kernel_rfl) (by kernel_rfl) (Ev.no_ext _)))) (by kernel_rfl) (by kernel_rfl) W
end Go.Proofs.YtjlehijgbkjnhaaGreatDoor
