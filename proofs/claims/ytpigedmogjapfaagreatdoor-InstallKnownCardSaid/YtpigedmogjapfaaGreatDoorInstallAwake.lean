/- The layer's closed examples: the run on marks, reckoned by the kernel. -/
import Derived.Test.YtpigedmogjapfaaGreatDoorInstallMemo
namespace Go.Proofs.YtpigedmogjapfaaGreatDoor
open Go.RowKit
theorem installAwake_run (W : World) : Calls Tryz.prog 13 #[] W fun e w' => e = .returned (.bool true) ∧ Chg [] W w' :=
  Ev.closed_callM [46] (M := [(134, [.agg #[.int .i64 (1), .int .i64 (1), .string ⟨#[100]⟩, .int .i64 (2), .int .i64 (0), .slice none 0 0, .slice none 0 0]], .int .i64 (0)), (62, [.agg #[.int .i64 (2), .int .i64 (0), .slice none 0 0]], .int .i64 (0)), (61, [.string ⟨#[]⟩], .int .i64 (2)), (61, [.string ⟨#[100, 47, 102]⟩], .int .i64 (0)), (61, [.string ⟨#[100]⟩], .int .i64 (0))]) (X := [(107, .overlaps [53, 53] [4]), (190, .compare)]) (g := 3) (n := 100000) (by kernel_rfl) (Ev.one_ext Tryz.func107 (by kernel_rfl) (by kernel_rfl) (by kernel_rfl) (by kernel_rfl) (Ev.one_ext Tryz.func190 (by kernel_rfl) (by kernel_rfl) (by kernel_rfl) (by kernel_rfl) (Ev.no_ext _))) (Ev.one_mem (by kernel_rfl) (by kernel_rfl) memo4 (Ev.one_mem (by kernel_rfl) (by kernel_rfl) memo3 (Ev.one_mem (by kernel_rfl) (by kernel_rfl) memo2 (Ev.one_mem (by kernel_rfl) (by kernel_rfl) memo1 (Ev.one_mem (by kernel_rfl) (by kernel_rfl) memo0 (Ev.no_mem _)))))) (by kernel_rfl) (by kernel_rfl) W
end Go.Proofs.YtpigedmogjapfaaGreatDoor
