/- The document's reader: Open, fail, Left, End, and Num. -/
import Derived.Test.YtphchggabcbfkaaDoorRd2
namespace Go.Proofs.YtphchggabcbfkaaDoor
open Go.RowKit

/-- Where the bytes lie. -/
theorem Bs.from {w : World} {A : Option Addr} {n : Nat} {xs : List UInt8} (h : Bs w A n xs) (h0 : 0 < xs.length) : ∃ g o, A = some ⟨g, o, none⟩ ∧ ∀ j, j < xs.length → w.cell? ⟨g, o + j, none⟩ = some (.int .u8 ((xs.getD j 0).toNat : Int)) := by
  obtain ⟨a, rfl, hc⟩ := h.cells 0 _ (List.getElem?_eq_getElem h0)
  have hsp := World.cell?_spot hc
  obtain ⟨g, o, sp⟩ := a
  have hsp : sp = none := by simpa [Addr.add] using hsp
  subst hsp
  refine ⟨g, o, rfl, fun j hj => ?_⟩
  obtain ⟨a', e, hcj⟩ := h.cells j _ (List.getElem?_eq_getElem hj)
  cases e
  rw [add_lit] at hcj
  rw [hcj]
  simp [bv, List.getD, hj]

/-- The fault that End tells. -/
def endF (xs : List UInt8) (p : Nat) (fe fa : Int) : Int × Int := if fe = 0 ∧ p < xs.length then (4, p) else (fe, fa)

end Go.Proofs.YtphchggabcbfkaaDoor
