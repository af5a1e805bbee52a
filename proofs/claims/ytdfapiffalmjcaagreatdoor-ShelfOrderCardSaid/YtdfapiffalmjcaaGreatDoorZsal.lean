/- The document's tidy. -/
import Derived.Test.YtdfapiffalmjcaaGreatDoorZsak
import Derived.Test.YtdfapiffalmjcaaGreatDoorZsad
import Derived.Deep.Cut
import Derived.Deep.RegionHeld3
import Derived.BigQuiet
import Derived.RegionTactic
namespace Go.Proofs.YtdfapiffalmjcaaGreatDoor
section
open Go.RowKit Go.Lib
set_option linter.unusedSimpArgs false
set_option linter.unusedVariables false


theorem fresh_appS {w2 w w' : World} {A A' : Option Addr} (hA : ∀ a, A = some a → w2.heap.size ≤ a.block) (hC : Chg [] w2 w) (g : w.grownBy w' (A.map (·.block))) (e : A' = A ∨ A' = some ⟨w.heap.size, 0, none⟩) :
    (∀ a, A' = some a → w2.heap.size ≤ a.block) ∧ Chg [] w2 w' := by
  refine ⟨?_, hC.grown g ?_⟩
  · rintro a rfl
    rcases e with h | h
    · exact hA a h.symm
    · cases h; exact hC.size
  · intro k hk
    cases A with
    | none => simp at hk
    | some a => simp at hk; subst hk; exact .inr (hA a rfl)
end
end Go.Proofs.YtdfapiffalmjcaaGreatDoor
