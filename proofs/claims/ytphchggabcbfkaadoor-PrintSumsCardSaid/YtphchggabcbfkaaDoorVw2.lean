/- The document's writer, call by call. -/
import Derived.Test.YtphchggabcbfkaaDoorVw
namespace Go.Proofs.YtphchggabcbfkaaDoor
open Go.RowKit

theorem set_same {w : World} {b : Nat} {cs : Array Value} {t : TypeId} {j : Nat} {v : Value} (h : w.heap[b]? = some (.cells cs t (0, 0))) (hj : cs[j]? = some v) : w.setCell ⟨b, j, none⟩ v = w := by
  have : (w.setCell ⟨b, j, none⟩ v).heap = w.heap := by
    apply Array.ext_getElem?
    intro i
    by_cases hi : i = b
    · subst hi
      rw [heap_setCell_same w i j _ _ v h, h]
      congr 2
      apply Array.ext_getElem?
      intro k
      rw [Array.getElem?_setIfInBounds]
      split
      · rename_i e; subst e
        obtain ⟨h5, h6⟩ := Array.getElem?_eq_some_iff.1 hj
        simp [h5, h6]
      · rfl
    · exact Below.heap_setCell _ _ _ _ hi
  unfold World.setCell at this ⊢
  simp only at this
  rw [this]

theorem nb_fits (n : Nat) (h : n ≤ 9223372036854775807) : nb n ≤ 8 := nb_le n (by omega)

end Go.Proofs.YtphchggabcbfkaaDoor
