/- Regions in the text's order, code, calls: the whole run, but for regions that draw their order. No program is named here. -/
import Derived.Test.YtdfapiffalmjcaaGreatDoorZsag
import Derived.TacticsIn
namespace Go.Proofs.YtdfapiffalmjcaaGreatDoor
section
namespace Ev
set_option linter.unusedVariables false
set_option linter.unusedSimpArgs false
open Go.RowKit
variable {P : Program} {G : Cx} {rec : Task → Option (List Res)}

/-! A call of which all that may come is taken as one. -/
mutual
end
theorem step_ok (hrec : RecOk P G rec) (hN : Kn P G) (hD : DrawOk P G rec) : RecOk P G (stepP P G rec) := by
  intro t res h
  cases t with
  | code c rd fr st => exact ⟨code_ok hrec hN hD h, fun b hb => by subst hb; exact loop_ok hrec h⟩
  | inSc all c rd fr st => exact scoped_ok hrec h
  | call f args st =>
    unfold stepP at h
    dsimp only at h
    split at h
    · rename_i v hfm
      cases h
      obtain ⟨hc1, hc2, hcall⟩ := hN.mem _ (findM_ok hfm)
      intro r w args' m hR hl hf
      have e := LR.closed_eq hl hc1
      subst e
      refine CallsIn.mono (show CallsIn (WF none) m P f args'.toArray w _ from callsIn_wide (n := m).2 (hcall w)) ?_
      rintro e w' ⟨rfl, hk⟩
      exact ⟨_, List.mem_singleton.2 rfl, r, _, rfl, VR.closed v hc2, hk.step hR⟩
    unfold callX at h
    split at h
    · rename_i hfx
      split at h
      · cases h
        intro r w args' m hR hl hf
        cases hl
        refine CallsIn.mono (show CallsIn (WF none) m P f #[] w _ from callsIn_wide (n := m).2 (hN.yes f hfx w)) ?_
        rintro e w' ⟨rfl, hk⟩
        exact ⟨_, List.mem_singleton.2 rfl, r, _, rfl, .bool _, hk.step hR⟩
      · cases h
    · simp only [cond_eq_ite] at h
      split at h
      · exact join_ok hrec h
      · exact call_ok hrec h
end Ev
end
end Go.Proofs.YtdfapiffalmjcaaGreatDoor
