/- The document's writer: Raw, Text, Out. -/
import Derived.Test.YtphchggabcbfkaaDoorVw2
namespace Go.Proofs.YtphchggabcbfkaaDoor
open Go.RowKit

theorem fresh_grown {w w1 w2 : World} {A A' : Option Addr} {c c' : Nat} {xs zs : List UInt8} (hF : Fresh w w1 A c xs) (own : OwnB w2 A' c' zs) (hg : w1.grownBy w2 (A.map (·.block))) (hA : A' = A ∨ A' = some ⟨w1.heap.size, 0, none⟩) : Fresh w w2 A' c' zs := by
  have hs := hF.2.2.size
  refine ⟨own, ?_, hF.2.2.grown hg (fun k hk => ?_)⟩
  · rintro a rfl
    rcases hA with h | h
    · exact hF.2.1 _ h.symm
    · cases h; exact hs
  · cases A with
    | none => cases hk
    | some a => simp at hk; subst hk; exact .inr (hF.2.1 _ rfl)

end Go.Proofs.YtphchggabcbfkaaDoor
