/- A row of asks that came in (for WireAgain: without the document's reader). -/
import Derived.Test.YtknhgicpndgdoaaOpen3
namespace Go.Proofs.Ytknhgicpndgdoaa
open Go.RowKit Go.WideShapes Go.ChangeShapes Go.Deep

/-- An ask's three cells at ⟨b, o⟩. -/
structure ReqAt (w : World) (b o : Nat) (k lo hi : Int) : Prop where
  c0 : w.cell? ⟨b, o, none⟩ = some (.int .i64 k)
  c1 : w.cell? ⟨b, o + 1, none⟩ = some (.int .i64 lo)
  c2 : w.cell? ⟨b, o + 2, none⟩ = some (.int .i64 hi)
/-- A row of asks. -/
def Reqs (w : World) (A : Option Addr) (len : Nat) : Prop := ∀ j, j < len → ∃ b off k lo hi, A = some ⟨b, off, none⟩ ∧ ReqAt w b (off + j * 3) k lo hi
theorem ReqAt.chg {w w' : World} {b o : Nat} {k lo hi : Int} (h : ReqAt w b o k lo hi) {S : List Nat} (hc : Chg S w w') (hS : ∀ i ∈ S, i ≠ b) : ReqAt w' b o k lo hi := by
  have hb : b ∉ S := fun hm => hS b hm rfl
  exact ⟨hc.cell h.c0 hb, hc.cell h.c1 hb, hc.cell h.c2 hb⟩
section
variable {H : Type} {enc : TypeId × Value → H} {w : World} {base : Nat} {spare : Nat → Bool} {held : Bool}
theorem open_reqs {n : Nat} {v : Value} {y : DataW H × List MemPlace} (h : DataW.trod enc Try.prog w base spare held n 40 [v] = some y) (hz : ∀ k ∈ y.1.weights Try.prog 40, k ≤ reachBytes) :
    ∃ A len c, v = .slice A len c ∧ Reqs w A len ∧ len ≤ 140737488351232 := by
  rcases open_slice Try.underlying40 h with ⟨h1, _⟩ | ⟨a, len, cap, m, k, D, Pl, h1, _, hl, hm, hmm, rfl, hi⟩
  · obtain rfl := List.singleton_inj.1 h1
    exact ⟨none, 0, 0, rfl, fun j hj => by omega, by decide⟩
  · obtain rfl := List.singleton_inj.1 h1
    have hlm : len ≤ m := by rw [hmm]; split <;> omega
    obtain ⟨hw, hzs⟩ := weights_slice Try.underlying40 hz
    rw [show Try.prog.bytesOf 48 = 24 by kernel_rfl] at hw
    simp [reachBytes] at hw
    have hC : Try.prog.cellsOf 48 = 3 := by kernel_rfl
    obtain ⟨b, off, spot⟩ := a
    have hsp : 0 < len → spot = none := fun h0 => by
      obtain ⟨cs', hc, _⟩ := hi 0 (by omega)
      rw [hC] at hc
      have := World.cell?_spot (((World.cells?_some hc).2.2 0 (by omega)).trans (List.getElem?_eq_getElem (by rw [(World.cells?_some hc).2.1]; omega)))
      simpa [Addr.add] using this
    refine ⟨_, len, cap, rfl, fun i hilt => ?_, by omega⟩
    obtain ⟨cs', hc, ht⟩ := hi i (by omega)
    rw [hC] at hc
    obtain ⟨_, hcl, hat⟩ := World.cells?_some hc
    obtain ⟨z0, z1, z2, rfl⟩ := open_ask3 ht
    have g0 := hat 0 (by omega)
    have g1 := hat 1 (by omega)
    have g2 := hat 2 (by omega)
    rw [add_add] at g0 g1 g2
    obtain rfl := hsp (by omega)
    simp only [add_lit, List.getElem?_cons_zero, List.getElem?_cons_succ] at g0 g1 g2
    exact ⟨b, off, z0, z1, z2, rfl, g0, g1, g2⟩
end
end Go.Proofs.Ytknhgicpndgdoaa
