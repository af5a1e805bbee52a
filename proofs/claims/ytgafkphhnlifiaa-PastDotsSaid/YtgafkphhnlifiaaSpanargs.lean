/- Slices of spans as arguments. -/
import Derived.Test.YtgafkphhnlifiaaArgs
import Derived.Test.YtgafkphhnlifiaaSpans
namespace Go.Proofs.Ytgafkphhnlifiaa
open Go.RowKit Go.WideShapes Go.ChangeShapes Go.Deep
set_option linter.unusedSimpArgs false
section
variable {H : Type} {enc : TypeId × Value → H} {w : World} {base : Nat} {spare : Nat → Bool} {held : Bool}
set_option maxRecDepth 100000 in
/-- A span's three cells. -/
theorem open_span {n : Nat} {cs : List Value} {y : DataW H × List MemPlace} (h : DataW.trod enc Try.prog w base spare held n 62 cs = some y) :
    ∃ (a b c : Int), cs = [.int .i64 a, .int .i64 b, .int .i64 c] := by
  obtain ⟨xs, k, rfl, rfl, hl, hx, hf⟩ := DataW.trod_struct Try.underlying62 h
  rw [show Try.prog.cellsOf 62 = 3 by kernel_rfl] at hl
  have g0 := hf 0 _ rfl
  have g1 := hf 1 _ rfl
  have g2 := hf 2 _ rfl
  change DataW.trod _ _ _ _ _ _ _ 3 ((cs.drop 0).take (Try.prog.cellsOf 3)) = _ at g0
  change DataW.trod _ _ _ _ _ _ _ 3 ((cs.drop 1).take (Try.prog.cellsOf 3)) = _ at g1
  change DataW.trod _ _ _ _ _ _ _ 3 ((cs.drop 2).take (Try.prog.cellsOf 3)) = _ at g2
  rw [show Try.prog.cellsOf 3 = 1 by kernel_rfl] at g0 g1 g2
  match cs, hl with
  | [v0, v1, v2], _ =>
    match xs, hx with
    | [x0, x1, x2], _ =>
      obtain ⟨z0, e0, _, _⟩ := DataW.trod_int Try.underlying3 g0
      obtain ⟨z1, e1, _, _⟩ := DataW.trod_int Try.underlying3 g1
      obtain ⟨z2, e2, _, _⟩ := DataW.trod_int Try.underlying3 g2
      simp only [List.drop_succ_cons, List.drop_zero, List.take_succ_cons, List.take_zero, List.cons.injEq, and_true] at e0 e1 e2
      subst e0 e1 e2
      exact ⟨z0, z1, z2, rfl⟩
theorem open_spans {n : Nat} {cs : List Value} {y : DataW H × List MemPlace} (h : DataW.trod enc Try.prog w base spare held n 22 cs = some y) (hz : ∀ k ∈ y.1.weights Try.prog 22, k ≤ reachBytes) :
    ∃ A m d zs, cs = [.slice A m d] ∧ RdK spanTy w A m zs ∧ m * 24 ≤ 140737488351232 ∧ m ≤ d := by
  rcases open_slice Try.underlying22 h with ⟨rfl, _⟩ | ⟨a, len, cap, m, k, D, Pl, rfl, _, hl, hm, hmm, rfl, hi⟩
  · exact ⟨none, 0, 0, [], rfl, RdK.nil _ _, by decide, by decide⟩
  · have hlm : len ≤ m := by rw [hmm]; split <;> omega
    obtain ⟨hw, _⟩ := weights_slice Try.underlying22 hz
    rw [show Try.prog.bytesOf 62 = 24 by kernel_rfl] at hw
    simp [reachBytes] at hw
    have hC : Try.prog.cellsOf 62 = 3 := by kernel_rfl
    obtain ⟨l, hll, hat⟩ := list_of (Q := fun i (x : Int × Int × Int) => w.cell? (a.add (i * 3)) = some (.int .i64 x.1) ∧ w.cell? (a.add (i * 3 + 1)) = some (.int .i64 x.2.1) ∧ w.cell? (a.add (i * 3 + 2)) = some (.int .i64 x.2.2)) len (fun i hilt => by
      obtain ⟨cs', hc, ht⟩ := hi i (by omega)
      rw [hC] at hc
      obtain ⟨_, hcl, hat⟩ := World.cells?_some hc
      obtain ⟨p, q, r, rfl⟩ := open_span ht
      have g0 := hat 0 (by omega)
      have g1 := hat 1 (by omega)
      have g2 := hat 2 (by omega)
      rw [add_add] at g0 g1 g2
      exact ⟨(p, q, r), g0, g1, g2⟩)
    refine ⟨some a, len, cap, l, rfl, ⟨hll, fun j v hj => ⟨a, rfl, ?_⟩⟩, by omega, hl⟩
    have hj2 := (List.getElem?_eq_some_iff.1 hj).1
    rw [spanTy.flat_len] at hj2
    have hk : spanTy.k = 3 := rfl
    rw [hk] at hj2
    have hq : j / 3 < l.length := by omega
    have e := spanTy.flat_at l (j / 3) (j % 3) _ (List.getElem?_eq_getElem hq) (Nat.mod_lt _ (by decide))
    rw [hk, Nat.div_add_mod', hj] at e
    obtain ⟨g0, g1, g2⟩ := hat (j / 3) _ (List.getElem?_eq_getElem hq)
    rcases (show j % 3 = 0 ∨ j % 3 = 1 ∨ j % 3 = 2 by omega) with h0 | h0 | h0
    · rw [h0] at e
      rw [show j / 3 * 3 = j by omega] at g0
      rw [g0]
      exact e.symm
    · rw [h0] at e
      rw [show j / 3 * 3 + 1 = j by omega] at g1
      rw [g1]
      exact e.symm
    · rw [h0] at e
      rw [show j / 3 * 3 + 2 = j by omega] at g2
      rw [g2]
      exact e.symm
end
end Go.Proofs.Ytgafkphhnlifiaa
