/- One operation on marks is one operation of the model's. No program is named here. Code, calls and rounds on marks, and what the model makes of them. No program is named here. -/
import Derived.Test.YtdfapiffalmjcaaGreatDoorZsaf
import Derived.RangeFuncNested
namespace Go.Proofs.YtdfapiffalmjcaaGreatDoor
section
namespace Ev
set_option linter.unusedVariables false
set_option linter.unusedSimpArgs false
open Go.RowKit

def Fresh (r : Ren) (lo hi : Nat) : Prop := ∀ i, lo ≤ i → i < hi → r i = none
theorem put_ok {r : Ren} {fr fr' : Fr} {a : Act} {d : Option Tmp} {v v' : Value} (h : put fr d v = some fr') (hF : FrR r fr a) (hv : VR r v v') : FrR r fr' (a.put d v') := by
  unfold put at h
  cases d with
  | none => cases h; exact hF
  | some t =>
    obtain ⟨hb, h⟩ := cond_none h
    cases h
    have ht := blt_lt hb
    exact ⟨by simp [Act.put, hF.size], TR.put hF.tmps (by rw [hF.size]; exact ht) hv, hF.defers⟩
end Ev
end
end Go.Proofs.YtdfapiffalmjcaaGreatDoor
