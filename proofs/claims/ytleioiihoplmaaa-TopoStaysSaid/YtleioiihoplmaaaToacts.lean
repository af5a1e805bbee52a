/- Slices of acts: rows, arguments. -/
import Derived.Test.YtleioiihoplmaaaToargs
namespace Go.Proofs.Ytleioiihoplmaaa
open Go.RowKit Go.WideShapes Go.ChangeShapes Go.Deep
set_option linter.unusedSimpArgs false
set_option linter.unusedVariables false

def actTy : RowTy (Int × Int × Int × Int) where
  enc := fun x => [.int .i64 x.1, .int .i64 x.2.1, .int .i64 x.2.2.1, .int .i64 x.2.2.2]
  k := 4
  T := 48
  TS := 45
  z := (0, 0, 0, 0)
  zv := .agg #[.int .i64 0, .int .i64 0, .int .i64 0, .int .i64 0]
  bytes := 32
  klen := fun _ => rfl
  one := by intro x v hv; simp at hv; rcases hv with rfl | rfl | rfl | rfl <;> rfl
  zc := rfl
  kpos := by decide
  bpos := by decide
  under := by kernel_rfl
  info := by kernel_rfl
theorem actCells {w : World} {g o n j : Nat} {xs : List (Int × Int × Int × Int)} (h : RdK actTy w (some ⟨g, o, none⟩) n xs) {x : Int × Int × Int × Int} (hx : xs[j]? = some x) : w.cell? ⟨g, o + j * 4, none⟩ = some (.int .i64 x.1) ∧ w.cell? ⟨g, o + j * 4 + 1, none⟩ = some (.int .i64 x.2.1) ∧ w.cell? ⟨g, o + j * 4 + 2, none⟩ = some (.int .i64 x.2.2.1) ∧ w.cell? ⟨g, o + j * 4 + 3, none⟩ = some (.int .i64 x.2.2.2) := by
  exact ⟨h.at_ j 0 x _ hx rfl, h.at_ j 1 x _ hx rfl, h.at_ j 2 x _ hx rfl, h.at_ j 3 x _ hx rfl⟩

section
variable {H : Type} {enc : TypeId × Value → H} {w : World} {base : Nat} {spare : Nat → Bool} {held : Bool}
set_option maxRecDepth 100000 in
theorem open_act {n : Nat} {cs : List Value} {y : DataW H × List MemPlace} (h : DataW.trod enc Try.prog w base spare held n 48 cs = some y) :
    ∃ (a0 : Int) (a1 : Int) (a2 : Int) (a3 : Int), cs = [.int .i64 a0, .int .i64 a1, .int .i64 a2, .int .i64 a3] ∧ -9223372036854775808 ≤ a0 ∧ a0 ≤ 9223372036854775807 ∧ -9223372036854775808 ≤ a1 ∧ a1 ≤ 9223372036854775807 ∧ -9223372036854775808 ≤ a2 ∧ a2 ≤ 9223372036854775807 ∧ -9223372036854775808 ≤ a3 ∧ a3 ≤ 9223372036854775807 := by
  obtain ⟨xs, k, rfl, rfl, hl, hx, hf⟩ := DataW.trod_struct Try.underlying48 h
  rw [show Try.prog.cellsOf 48 = 4 by kernel_rfl] at hl
  have g0 := hf 0 _ rfl
  have g1 := hf 1 _ rfl
  have g2 := hf 2 _ rfl
  have g3 := hf 3 _ rfl
  change DataW.trod _ _ _ _ _ _ _ 3 ((cs.drop 0).take (Try.prog.cellsOf 3)) = _ at g0
  change DataW.trod _ _ _ _ _ _ _ 3 ((cs.drop 1).take (Try.prog.cellsOf 3)) = _ at g1
  change DataW.trod _ _ _ _ _ _ _ 3 ((cs.drop 2).take (Try.prog.cellsOf 3)) = _ at g2
  change DataW.trod _ _ _ _ _ _ _ 3 ((cs.drop 3).take (Try.prog.cellsOf 3)) = _ at g3
  rw [show Try.prog.cellsOf 3 = 1 by kernel_rfl] at g0 g1 g2 g3
  match cs, hl with
  | [v0, v1, v2, v3], _ =>
    match xs, hx with
    | [x0, x1, x2, x3], _ =>
      obtain ⟨z0, e0, _, b0⟩ := DataW.trod_int Try.underlying3 g0
      have c0 := bounds_i64 b0
      obtain ⟨z1, e1, _, b1⟩ := DataW.trod_int Try.underlying3 g1
      have c1 := bounds_i64 b1
      obtain ⟨z2, e2, _, b2⟩ := DataW.trod_int Try.underlying3 g2
      have c2 := bounds_i64 b2
      obtain ⟨z3, e3, _, b3⟩ := DataW.trod_int Try.underlying3 g3
      have c3 := bounds_i64 b3
      simp only [List.drop_succ_cons, List.drop_zero, List.take_succ_cons, List.take_zero, List.cons.injEq, and_true] at e0 e1 e2 e3
      subst e0 e1 e2 e3
      exact ⟨z0, z1, z2, z3, rfl, c0.1, c0.2, c1.1, c1.2, c2.1, c2.2, c3.1, c3.2⟩
set_option maxRecDepth 100000 in
theorem open_acts {n : Nat} {cs : List Value} {y : DataW H × List MemPlace} (h : DataW.trod enc Try.prog w base spare held n 45 cs = some y) (hz : ∀ k ∈ y.1.weights Try.prog 45, k ≤ reachBytes) :
    ∃ A m d zs, cs = [.slice A m d] ∧ RdK actTy w A m zs ∧ m * 32 ≤ 140737488351232 ∧ m ≤ d ∧ ∀ x ∈ zs, -9223372036854775808 ≤ x.1 ∧ x.1 ≤ 9223372036854775807 ∧ -9223372036854775808 ≤ x.2.1 ∧ x.2.1 ≤ 9223372036854775807 ∧ -9223372036854775808 ≤ x.2.2.1 ∧ x.2.2.1 ≤ 9223372036854775807 ∧ -9223372036854775808 ≤ x.2.2.2 ∧ x.2.2.2 ≤ 9223372036854775807 := by
  rcases open_slice Try.underlying45 h with ⟨rfl, _⟩ | ⟨a, len, cap, m, k, D, Pl, rfl, _, hl, hm, hmm, rfl, hi⟩
  · exact ⟨none, 0, 0, [], rfl, RdK.nil _ _, by decide, by decide, by simp⟩
  · have hlm : len ≤ m := by rw [hmm]; split <;> omega
    obtain ⟨hw, hwd⟩ := weights_slice Try.underlying45 hz
    rw [show Try.prog.bytesOf 48 = 32 by kernel_rfl] at hw
    simp [reachBytes] at hw
    have hC : Try.prog.cellsOf 48 = 4 := by kernel_rfl
    obtain ⟨l, hll, hat⟩ := list_of (Q := fun i (x : Int × Int × Int × Int) => (w.cell? (a.add (i * 4)) = some (.int .i64 x.1) ∧ w.cell? (a.add (i * 4 + 1)) = some (.int .i64 x.2.1) ∧ w.cell? (a.add (i * 4 + 2)) = some (.int .i64 x.2.2.1) ∧ w.cell? (a.add (i * 4 + 3)) = some (.int .i64 x.2.2.2)) ∧ -9223372036854775808 ≤ x.1 ∧ x.1 ≤ 9223372036854775807 ∧ -9223372036854775808 ≤ x.2.1 ∧ x.2.1 ≤ 9223372036854775807 ∧ -9223372036854775808 ≤ x.2.2.1 ∧ x.2.2.1 ≤ 9223372036854775807 ∧ -9223372036854775808 ≤ x.2.2.2 ∧ x.2.2.2 ≤ 9223372036854775807) len (fun i hilt => by
      obtain ⟨cs', hc, ht⟩ := hi i (by omega)
      rw [hC] at hc
      obtain ⟨_, hcl, hat⟩ := World.cells?_some hc
      obtain ⟨p0, p1, p2, p3, rfl, HB⟩ := open_act ht
      have g0 := hat 0 (by omega)
      have g1 := hat 1 (by omega)
      have g2 := hat 2 (by omega)
      have g3 := hat 3 (by omega)
      rw [add_add] at g0 g1 g2 g3
      exact ⟨(p0, p1, p2, p3), ⟨g0, g1, g2, g3⟩, HB⟩)
    refine ⟨some a, len, cap, l, rfl, ⟨hll, fun j v hj => ⟨a, rfl, ?_⟩⟩, by omega, hl, fun x hx => ?_⟩
    rotate_left
    · obtain ⟨j, hj, rfl⟩ := List.getElem_of_mem hx
      exact (hat j _ (List.getElem?_eq_getElem hj)).2
    have hj2 := (List.getElem?_eq_some_iff.1 hj).1
    rw [actTy.flat_len] at hj2
    have hk : actTy.k = 4 := rfl
    rw [hk] at hj2
    have hq : j / 4 < l.length := by omega
    have e := actTy.flat_at l (j / 4) (j % 4) _ (List.getElem?_eq_getElem hq) (Nat.mod_lt _ (by decide))
    rw [hk, Nat.div_add_mod', hj] at e
    obtain ⟨g0, g1, g2, g3⟩ := (hat (j / 4) _ (List.getElem?_eq_getElem hq)).1
    rcases (show j % 4 = 0 ∨ j % 4 = 1 ∨ j % 4 = 2 ∨ j % 4 = 3 by omega) with h0 | h0 | h0 | h0
    · rw [h0] at e
      rw [show j / 4 * 4 = j by omega] at g0
      rw [g0]
      exact e.symm
    · rw [h0] at e
      rw [show j / 4 * 4 + 1 = j by omega] at g1
      rw [g1]
      exact e.symm
    · rw [h0] at e
      rw [show j / 4 * 4 + 2 = j by omega] at g2
      rw [g2]
      exact e.symm
    · rw [h0] at e
      rw [show j / 4 * 4 + 3 = j by omega] at g3
      rw [g3]
      exact e.symm
end
end Go.Proofs.Ytleioiihoplmaaa
