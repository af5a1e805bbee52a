/- Asks opened. -/
import Derived.Test.YtknhgicpndgdoaaOpen
import Derived.Test.YtknhgicpndgdoaaReads
namespace Go.Proofs.Ytknhgicpndgdoaa
open Go.RowKit Go.WideShapes Go.ChangeShapes Go.Deep
section
variable {H : Type} {enc : TypeId × Value → H} {w : World} {base : Nat} {spare : Nat → Bool} {held : Bool}

/-- An ask's three cells. -/
theorem open_ask {n : Nat} {cs : List Value} {y : DataW H × List MemPlace} (h : DataW.trod enc Try.prog w base spare held n 48 cs = some y) :
    ∃ k lo hi, cs = [.int .i64 k, .int .i64 lo, .int .i64 hi] := by
  obtain ⟨xs, k, rfl, rfl, hl, hx, hf⟩ := DataW.trod_struct Try.underlying48 h
  rw [show Try.prog.cellsOf 48 = 3 by kernel_rfl] at hl
  have g0 := hf 0 _ rfl
  have g1 := hf 1 _ rfl
  have g2 := hf 2 _ rfl
  change DataW.trod _ _ _ _ _ _ _ 3 ((cs.drop 0).take (Try.prog.cellsOf 3)) = _ at g0
  change DataW.trod _ _ _ _ _ _ _ 3 ((cs.drop 1).take (Try.prog.cellsOf 3)) = _ at g1
  change DataW.trod _ _ _ _ _ _ _ 3 ((cs.drop 2).take (Try.prog.cellsOf 3)) = _ at g2
  rw [show Try.prog.cellsOf 3 = 1 by kernel_rfl] at g0 g1 g2
  match cs, hl with
  | [v0, v1, v2], _ =>
    match xs, hx with
    | [x0, x1, x2], _ =>
      obtain ⟨z0, e0, _, _⟩ := DataW.trod_int Try.underlying3 g0
      obtain ⟨z1, e1, _, _⟩ := DataW.trod_int Try.underlying3 g1
      obtain ⟨z2, e2, _, _⟩ := DataW.trod_int Try.underlying3 g2
      simp only [List.drop_succ_cons, List.drop_zero, List.take_succ_cons, List.take_zero, List.cons.injEq, and_true] at e0 e1 e2
      subst e0 e1 e2
      exact ⟨z0, z1, z2, rfl⟩

theorem open_asks {n : Nat} {v : Value} {y : DataW H × List MemPlace} (h : DataW.trod enc Try.prog w base spare held n 40 [v] = some y) (hz : ∀ k ∈ y.1.weights Try.prog 40, k ≤ reachBytes) :
    ∃ A len c, v = .slice A len c ∧ Asks w A len ∧ len ≤ 140737488351232 := by
  rcases open_slice Try.underlying40 h with ⟨h1, _⟩ | ⟨a, len, cap, m, k, D, Pl, h1, _, hl, hm, hmm, rfl, hi⟩
  · obtain rfl := List.singleton_inj.1 h1
    exact ⟨none, 0, 0, rfl, fun j hj => by omega, by decide⟩
  · obtain rfl := List.singleton_inj.1 h1
    have hlm : len ≤ m := by rw [hmm]; split <;> omega
    obtain ⟨hw, hzs⟩ := weights_slice Try.underlying40 hz
    rw [show Try.prog.bytesOf 48 = 24 by kernel_rfl] at hw
    simp [reachBytes] at hw
    have hC : Try.prog.cellsOf 48 = 3 := by kernel_rfl
    obtain ⟨b, off, spot⟩ := a
    have hsp : 0 < len → spot = none := fun h0 => by
      obtain ⟨cs', hc, _⟩ := hi 0 (by omega)
      rw [hC] at hc
      have := World.cell?_spot (((World.cells?_some hc).2.2 0 (by omega)).trans (List.getElem?_eq_getElem (by rw [(World.cells?_some hc).2.1]; omega)))
      simpa [Addr.add] using this
    refine ⟨_, len, cap, rfl, fun i hilt => ?_, by omega⟩
    obtain ⟨cs', hc, ht⟩ := hi i (by omega)
    rw [hC] at hc
    obtain ⟨_, hcl, hat⟩ := World.cells?_some hc
    obtain ⟨z0, z1, z2, rfl⟩ := open_ask ht
    have g0 := hat 0 (by omega)
    have g1 := hat 1 (by omega)
    have g2 := hat 2 (by omega)
    rw [add_add] at g0 g1 g2
    obtain rfl := hsp (by omega)
    simp only [add_lit, List.getElem?_cons_zero, List.getElem?_cons_succ] at g0 g1 g2
    exact ⟨b, off, z0, z1, z2, rfl, g0, g1, g2⟩
end
end Go.Proofs.Ytknhgicpndgdoaa
