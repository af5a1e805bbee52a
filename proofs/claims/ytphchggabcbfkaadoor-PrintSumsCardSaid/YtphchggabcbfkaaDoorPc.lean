/- The reader's piece; Raw and Text. -/
import Derived.Test.YtphchggabcbfkaaDoorRd2
namespace Go.Proofs.YtphchggabcbfkaaDoor
open Go.RowKit

theorem piece_bs {w : World} {A : Option Addr} {c : Nat} {xs : List UInt8} (own : OwnB w A c xs) (n q : Nat) (h : q + n ≤ xs.length) : Bs w (A.map (fun x => x.add q)) n ((xs.drop q).take n) := by
  refine ⟨by simp; omega, fun j u hj => ?_⟩
  rw [List.getElem?_take] at hj
  split at hj
  · rw [List.getElem?_drop] at hj
    obtain ⟨a, e, hc⟩ := own.reads.cells (q + j) u hj
    rcases own.form with ⟨rfl, _⟩ | ⟨g, cur, rfl, _⟩
    · cases e
    · cases e
      refine ⟨⟨g, q, none⟩, by simp [add_zero_lit], ?_⟩
      rw [add_zero_lit] at hc
      rw [add_lit]; exact hc
  · cases hj

end Go.Proofs.YtphchggabcbfkaaDoor
