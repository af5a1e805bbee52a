/- StoreKnown: the run on marks, reckoned by the kernel. -/
import Derived.Test.YtijcfdodnfcmoaaGreatDoorStoreAwake
import Derived.Test.YtijcfdodnfcmoaaGreatDoorLaid0
namespace Go.Proofs.YtijcfdodnfcmoaaGreatDoor
open Go.RowKit
/-- Nothing is asked of the variables. -/
def TabN (_ : World) : Prop := True
theorem TabN.laid {W : World} (_h : laidMetH Tryz.prog tables W) : TabN W := trivial
theorem storeKnown_run (W : World) : Calls Tryz.prog 3 #[] W fun e w' => e = .returned (.bool true) ∧ Chg [] W w' :=
  Ev.closed_call (X := (10, .yes) :: [(121, .overlaps [32, 32] [4])]) (g := 3) (n := 100000) (by kernel_rfl) (Ev.yes_ext storeAwake_run (Ev.one_ext Tryz.func121 (by kernel_rfl) (by kernel_rfl) (by kernel_rfl) (by kernel_rfl) (Ev.no_ext _))) (by kernel_rfl) (by kernel_rfl) W
end Go.Proofs.YtijcfdodnfcmoaaGreatDoor
