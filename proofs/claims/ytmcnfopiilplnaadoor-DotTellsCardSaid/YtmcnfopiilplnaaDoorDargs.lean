/- Slices of dots as arguments. -/
import Derived.Test.YtmcnfopiilplnaaDoorArgs
import Derived.Test.YtmcnfopiilplnaaDoorDots
namespace Go.Proofs.YtmcnfopiilplnaaDoor
open Go.RowKit Go.WideShapes Go.ChangeShapes Go.Deep
set_option linter.unusedSimpArgs false
section
variable {H : Type} {enc : TypeId × Value → H} {w : World} {base : Nat} {spare : Nat → Bool} {held : Bool}
theorem open_dots {n : Nat} {cs : List Value} {y : DataW H × List MemPlace} (h : DataW.trod enc Tryd.prog w base spare held n 24 cs = some y) (hz : ∀ k ∈ y.1.weights Tryd.prog 24, k ≤ reachBytes) :
    ∃ A m d zs, cs = [.slice A m d] ∧ RdK dotTy w A m zs ∧ m * 16 ≤ 140737488351232 ∧ m ≤ d := by
  rcases open_slice Tryd.underlying24 h with ⟨rfl, _⟩ | ⟨a, len, cap, m, k, D, Pl, rfl, _, hl, hm, hmm, rfl, hi⟩
  · exact ⟨none, 0, 0, [], rfl, RdK.nil _ _, by decide, by decide⟩
  · have hlm : len ≤ m := by rw [hmm]; split <;> omega
    obtain ⟨hw, _⟩ := weights_slice Tryd.underlying24 hz
    rw [show Tryd.prog.bytesOf 23 = 16 by kernel_rfl] at hw
    simp [reachBytes] at hw
    have hC : Tryd.prog.cellsOf 23 = 2 := by kernel_rfl
    obtain ⟨l, hll, hat⟩ := list_of (Q := fun i (x : Int × Int) => w.cell? (a.add (i * 2)) = some (.int .i64 x.1) ∧ w.cell? (a.add (i * 2 + 1)) = some (.int .i64 x.2)) len (fun i hilt => by
      obtain ⟨cs', hc, ht⟩ := hi i (by omega)
      rw [hC] at hc
      obtain ⟨_, hcl, hat⟩ := World.cells?_some hc
      obtain ⟨p, q, rfl, _⟩ := open_dot ht
      have g0 := hat 0 (by omega)
      have g1 := hat 1 (by omega)
      rw [add_add] at g0 g1
      exact ⟨(p, q), g0, g1⟩)
    refine ⟨some a, len, cap, l, rfl, ⟨hll, fun j v hj => ⟨a, rfl, ?_⟩⟩, by omega, hl⟩
    have hj2 := (List.getElem?_eq_some_iff.1 hj).1
    rw [dotTy.flat_len] at hj2
    have hk : dotTy.k = 2 := rfl
    rw [hk] at hj2
    have hq : j / 2 < l.length := by omega
    have e := dotTy.flat_at l (j / 2) (j % 2) _ (List.getElem?_eq_getElem hq) (Nat.mod_lt _ (by decide))
    rw [hk, Nat.div_add_mod', hj] at e
    obtain ⟨g0, g1⟩ := hat (j / 2) _ (List.getElem?_eq_getElem hq)
    rcases (show j % 2 = 0 ∨ j % 2 = 1 by omega) with h0 | h0
    · rw [h0] at e
      rw [show j / 2 * 2 = j by omega] at g0
      rw [g0]
      exact e.symm
    · rw [h0] at e
      rw [show j / 2 * 2 + 1 = j by omega] at g1
      rw [g1]
      exact e.symm
end
end Go.Proofs.YtmcnfopiilplnaaDoor
