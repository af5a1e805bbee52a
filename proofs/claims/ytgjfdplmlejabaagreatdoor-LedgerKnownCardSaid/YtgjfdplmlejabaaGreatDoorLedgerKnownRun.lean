/- LedgerKnown: the run on marks, reckoned by the kernel. -/
import Derived.Test.YtgjfdplmlejabaaGreatDoorLedgerAwake
import Derived.Test.YtgjfdplmlejabaaGreatDoorLaid0
namespace Go.Proofs.YtgjfdplmlejabaaGreatDoor
open Go.RowKit
/-- Nothing is asked of the variables. -/
def TabN (_ : World) : Prop := True
theorem TabN.laid {W : World} (_h : laidMetH Tryz.prog tables W) : TabN W := trivial
theorem ledgerKnown_run (W : World) : Calls Tryz.prog 3 #[] W fun e w' => e = .returned (.bool true) ∧ Chg [] W w' :=
  Ev.closed_callJ [28] (X := (11, .yes) :: [(116, .compare)]) (g := 3) (n := 100000) (by kernel_rfl) (Ev.yes_ext ledgerAwake_run (Ev.one_ext Tryz.func116 (by kernel_rfl) (by kernel_rfl) (by kernel_rfl) (by kernel_rfl) (Ev.no_ext _))) (by kernel_rfl) (by kernel_rfl) W
end Go.Proofs.YtgjfdplmlejabaaGreatDoor
