/- What a walk over dots asks of the variables, out of what the rows list. -/
import Derived.Test.YtmcnfopiilplnaaDoorLaid0
import Derived.Test.YtmcnfopiilplnaaDoorDtext
namespace Go.Proofs.YtmcnfopiilplnaaDoor
open Go.RowKit
theorem gPow : Tryd.prog.globalNamed "internal/strconv.uint64pow10" = some 3 := by kernel_rfl
theorem gPowT : (Tryd.prog.globals[3]?).map (·.type) = some 111 := by kernel_rfl
theorem cells20 : Tryd.prog.cellsOf 111 = 20 := by kernel_rfl
theorem cellsU64 : Tryd.prog.cellsOf 59 = 1 := by kernel_rfl
theorem under20 : Tryd.prog.underlying 111 = some (.array 20 59) := by kernel_rfl
theorem underU64 : Tryd.prog.underlying 59 = some (.int .u64) := by kernel_rfl
theorem gRan : Tryd.prog.globalNamed "strconv.ErrRange" = some 2 := by kernel_rfl
theorem gRanT : (Tryd.prog.globals[2]?).map (·.type) = some 61 := by kernel_rfl
theorem gSyn : Tryd.prog.globalNamed "strconv.ErrSyntax" = some 1 := by kernel_rfl
theorem gSynT : (Tryd.prog.globals[1]?).map (·.type) = some 61 := by kernel_rfl
theorem star_err : "*" ++ "errors.errorString" = "*errors.errorString" := by decide
theorem rowErr (u : TypeId) (h : Tryd.prog.typeName? 3 u = some "*errors.errorString") : u = 116 :=
  typeName_ptr_named (nm := "errors.errorString") (by rw [star_err]; kernel_rfl) (by kernel_rfl) (by decide) u (by rw [star_err]; exact h)
theorem TabD.laid {W : World} (h : laidMetH Tryd.prog tables W) : TabD W := by
  have h1 : laidMet Tryd.prog tables W := h
  have h3 := laidMet.tail (laidMet.tail h1)
  have hp := Lib.tabIs_of_head (k := .u64) (zs := Lib.pow10Tab) gPow gPowT under20 underU64 cellsU64 cells20 h3
  have h4 := laidMet.tail h3
  obtain ⟨a1, s1, hv1, _⟩ := laid_sentinel h4 gRan gRanT Tryd.underlying61 rowErr Tryd.underlying116 Tryd.underlying118 rfl rfl Tryd.underlying9 (by kernel_rfl) (by kernel_rfl)
  obtain ⟨a2, s2, hv2, _⟩ := laid_sentinel (laidMet.tail h4) gSyn gSynT Tryd.underlying61 rowErr Tryd.underlying116 Tryd.underlying118 rfl rfl Tryd.underlying9 (by kernel_rfl) (by kernel_rfl)
  exact ⟨hp, ⟨_, _, World.var?_cell gSyn hv2 0⟩, ⟨_, _, World.var?_cell gRan hv1 0⟩⟩
end Go.Proofs.YtmcnfopiilplnaaDoor
