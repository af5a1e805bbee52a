/- Slices of texts as arguments. -/
import Derived.Test.YtibdeiahmgkbhaaDoorArgs
import Derived.Test.YtibdeiahmgkbhaaDoorTextk
import Derived.Test.YtibdeiahmgkbhaaDoorLaid0
namespace Go.Proofs.YtibdeiahmgkbhaaDoor
open Go.RowKit Go.WideShapes Go.ChangeShapes Go.Deep
set_option linter.unusedSimpArgs false
/-- Nothing is asked of the variables. -/
def TabN (_ : World) : Prop := True
theorem TabN.laid {W : World} (_h : laidMetH Tryd.prog tables W) : TabN W := trivial
section
variable {H : Type} {enc : TypeId × Value → H} {w : World} {base : Nat} {spare : Nat → Bool} {held : Bool}
theorem open_texts {n : Nat} {cs : List Value} {y : DataW H × List MemPlace} (h : DataW.trod enc Tryd.prog w base spare held n 22 cs = some y) (hz : ∀ k ∈ y.1.weights Tryd.prog 22, k ≤ reachBytes) :
    ∃ A m d zs, cs = [.slice A m d] ∧ RdK textTy w A m zs ∧ m * 16 ≤ 140737488351232 ∧ m ≤ d := by
  rcases open_slice Tryd.underlying22 h with ⟨rfl, _⟩ | ⟨a, len, cap, m, k, D, Pl, rfl, _, hl, hm, hmm, rfl, hi⟩
  · exact ⟨none, 0, 0, [], rfl, RdK.nil _ _, by decide, by decide⟩
  · have hlm : len ≤ m := by rw [hmm]; split <;> omega
    obtain ⟨hw, _⟩ := weights_slice Tryd.underlying22 hz
    rw [show Tryd.prog.bytesOf 9 = 16 by kernel_rfl] at hw
    simp [reachBytes] at hw
    have hC : Tryd.prog.cellsOf 9 = 1 := by kernel_rfl
    obtain ⟨l, hll, hat⟩ := list_of (Q := fun i (x : List UInt8) => w.cell? (a.add i) = some (.string (strOf x))) len (fun i hilt => by
      obtain ⟨cs', hc, ht⟩ := hi i (by omega)
      rw [hC] at hc
      obtain ⟨_, hcl, hat⟩ := World.cells?_some hc
      have hcs : ∃ v, cs' = [v] := by
        match cs', hcl with
        | [v], _ => exact ⟨v, rfl⟩
      obtain ⟨v, rfl⟩ := hcs
      obtain ⟨s, e, _, _⟩ := DataW.trod_string Tryd.underlying9 ht
      have g0 := hat 0 (by omega)
      have e := List.singleton_inj.1 e
      subst e
      rw [add_add, Nat.mul_one, Nat.add_zero] at g0
      exact ⟨s.data.toList, by rw [strOf_of]; exact g0⟩)
    refine ⟨some a, len, cap, l, rfl, ⟨hll, fun j v hj => ⟨a, rfl, ?_⟩⟩, by omega, hl⟩
    have hj2 := (List.getElem?_eq_some_iff.1 hj).1
    rw [textTy.flat_len] at hj2
    have hk : textTy.k = 1 := rfl
    rw [hk, Nat.mul_one] at hj2
    have e := textTy.flat_at l j 0 _ (List.getElem?_eq_getElem hj2) (by decide)
    rw [hk, Nat.mul_one, Nat.add_zero, hj] at e
    rw [hat j _ (List.getElem?_eq_getElem hj2)]
    exact e.symm
end
end Go.Proofs.YtibdeiahmgkbhaaDoor
