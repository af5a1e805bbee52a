/- The document's Mix. -/
import Derived.Test.YtphchggabcbfkaaDoorPref
import Derived.Test.YtphchggabcbfkaaDoorQsum
namespace Go.Proofs.YtphchggabcbfkaaDoor
open Go.RowKit
set_option linter.unusedSimpArgs false
set_option linter.unusedVariables false

theorem eight_len (u : Nat) : (eight u).length = 8 := by simp [eight]
theorem eight_more (u e : Nat) (he : e < 8) : (eight u).take (8 - e) = (eight u).take (7 - e) ++ [UInt8.ofNat (u / 2 ^ (8 * e) % 256)] := by
  have hl : 7 - e < (eight u).length := by rw [eight_len]; omega
  rw [show 8 - e = (7 - e) + 1 by omega, List.take_succ_eq_append_getElem hl]
  have : (eight u)[7 - e] = UInt8.ofNat (u / 2 ^ (8 * e) % 256) := by
    simp only [eight, List.getElem_map, List.getElem_range, byteOf]
    rw [show 56 - 8 * (7 - e) = 8 * e by omega]
  rw [this]
theorem flat_len : ∀ us : List Nat, (us.flatMap eight).length = 8 * us.length
  | [] => rfl
  | u :: us => by rw [List.flatMap_cons, List.length_append, eight_len, flat_len us, List.length_cons]; omega
end Go.Proofs.YtphchggabcbfkaaDoor
