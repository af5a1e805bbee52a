/- Rows of acts; as arguments. -/
import Derived.Test.YtmblalcigbghfaaPargs
import Derived.Test.YtmblalcigbghfaaRowK
namespace Go.Proofs.Ytmblalcigbghfaa
open Go.RowKit Go.WideShapes Go.ChangeShapes Go.Deep
set_option linter.unusedSimpArgs false
set_option linter.unusedVariables false

abbrev SactV := Int × Int × Int × Int × Int × Option Addr × Nat × Nat
def sactTy : RowTy SactV where
  enc := fun x => [.int .i64 x.1, .int .i64 x.2.1, .int .i64 x.2.2.1, .int .i64 x.2.2.2.1, .int .i64 x.2.2.2.2.1, .slice x.2.2.2.2.2.1 x.2.2.2.2.2.2.1 x.2.2.2.2.2.2.2]
  k := 6
  T := 37
  TS := 22
  z := (0, 0, 0, 0, 0, none, 0, 0)
  zv := .agg #[.int .i64 0, .int .i64 0, .int .i64 0, .int .i64 0, .int .i64 0, .slice none 0 0]
  bytes := 64
  klen := fun _ => rfl
  one := by intro x v hv; simp at hv; rcases hv with rfl | rfl | rfl | rfl | rfl | rfl <;> rfl
  zc := rfl
  kpos := by decide
  bpos := by decide
  under := by kernel_rfl
  info := by kernel_rfl
theorem sactCells {w : World} {g o n j : Nat} {xs : List SactV} (h : RdK sactTy w (some ⟨g, o, none⟩) n xs) {x : SactV} (hx : xs[j]? = some x) : w.cell? ⟨g, o + j * 6, none⟩ = some (.int .i64 x.1) ∧ w.cell? ⟨g, o + j * 6 + 1, none⟩ = some (.int .i64 x.2.1) ∧ w.cell? ⟨g, o + j * 6 + 2, none⟩ = some (.int .i64 x.2.2.1) ∧ w.cell? ⟨g, o + j * 6 + 3, none⟩ = some (.int .i64 x.2.2.2.1) ∧ w.cell? ⟨g, o + j * 6 + 4, none⟩ = some (.int .i64 x.2.2.2.2.1) ∧ w.cell? ⟨g, o + j * 6 + 5, none⟩ = some (.slice x.2.2.2.2.2.1 x.2.2.2.2.2.2.1 x.2.2.2.2.2.2.2) :=
  ⟨h.at_ j 0 x _ hx rfl, h.at_ j 1 x _ hx rfl, h.at_ j 2 x _ hx rfl, h.at_ j 3 x _ hx rfl, h.at_ j 4 x _ hx rfl, h.at_ j 5 x _ hx rfl⟩
/-- What an act's slice reads as. -/
def SactR (w : World) (x : SactV) : Prop := ∃ ys, Bs w x.2.2.2.2.2.1 x.2.2.2.2.2.2.1 ys ∧ x.2.2.2.2.2.2.1 ≤ 140737488351232

section
variable {H : Type} {enc : TypeId × Value → H} {w : World} {base : Nat} {spare : Nat → Bool} {held : Bool}
set_option maxRecDepth 100000 in
theorem open_sactb {n : Nat} {cs : List Value} {y : DataW H × List MemPlace} (h : DataW.trod enc Try.prog w base spare held n 37 cs = some y) (hz : ∀ k ∈ y.1.weights Try.prog 37, k ≤ reachBytes) :
    ∃ (k f t m a : Int) (A : Option Addr) (n d : Nat) (ys : List UInt8), cs = [.int .i64 k, .int .i64 f, .int .i64 t, .int .i64 m, .int .i64 a, .slice A n d] ∧ Bs w A n ys ∧ n ≤ 140737488351232 := by
  obtain ⟨xs, k, rfl, rfl, hl, hx, hf⟩ := DataW.trod_struct Try.underlying37 h
  rw [show Try.prog.cellsOf 37 = 6 by kernel_rfl] at hl
  have g0 := hf 0 _ rfl
  have g1 := hf 1 _ rfl
  change DataW.trod _ _ _ _ _ _ _ 3 ((cs.drop 0).take (Try.prog.cellsOf 3)) = _ at g0
  change DataW.trod _ _ _ _ _ _ _ 35 ((cs.drop 1).take (Try.prog.cellsOf 35)) = _ at g1
  rw [show Try.prog.cellsOf 3 = 1 by kernel_rfl] at g0
  rw [show Try.prog.cellsOf 35 = 5 by kernel_rfl] at g1
  match cs, hl with
  | [v0, v1, v2, v3, v4, v5], _ =>
    match xs, hx with
    | [x0, x1], _ =>
      have w1 := weights_struct Try.underlying37 hz (j := 1) (d := x1.1) rfl rfl
      obtain ⟨z0, e0, _, _⟩ := DataW.trod_int Try.underlying3 g0
      obtain ⟨f, t, m, a, A, n, d, ys, e1, hb, hn, _, _⟩ := open_packet g1 w1
      simp only [List.drop_succ_cons, List.drop_zero, List.take_succ_cons, List.take_zero, List.cons.injEq, and_true] at e0 e1
      obtain ⟨rfl, rfl, rfl, rfl, rfl⟩ := e1
      subst e0
      exact ⟨z0, f, t, m, a, A, n, d, ys, rfl, hb, hn⟩
set_option maxRecDepth 100000 in
theorem open_sacts {n : Nat} {cs : List Value} {y : DataW H × List MemPlace} (h : DataW.trod enc Try.prog w base spare held n 22 cs = some y) (hz : ∀ k ∈ y.1.weights Try.prog 22, k ≤ reachBytes) :
    ∃ A m d zs, cs = [.slice A m d] ∧ RdK sactTy w A m zs ∧ m * 64 ≤ 140737488351232 ∧ m ≤ d ∧ ∀ x ∈ zs, SactR w x := by
  rcases open_slice Try.underlying22 h with ⟨rfl, _⟩ | ⟨a, len, cap, m, k, D, Pl, rfl, _, hl, hm, hmm, rfl, hi⟩
  · exact ⟨none, 0, 0, [], rfl, RdK.nil _ _, by decide, by decide, by simp⟩
  · have hlm : len ≤ m := by rw [hmm]; split <;> omega
    obtain ⟨hw, hwd⟩ := weights_slice Try.underlying22 hz
    rw [show Try.prog.bytesOf 37 = 64 by kernel_rfl] at hw
    simp [reachBytes] at hw
    have hC : Try.prog.cellsOf 37 = 6 := by kernel_rfl
    obtain ⟨l, hll, hat⟩ := list_of (Q := fun i (x : SactV) => (w.cell? (a.add (i * 6)) = some (.int .i64 x.1) ∧ w.cell? (a.add (i * 6 + 1)) = some (.int .i64 x.2.1) ∧ w.cell? (a.add (i * 6 + 2)) = some (.int .i64 x.2.2.1) ∧ w.cell? (a.add (i * 6 + 3)) = some (.int .i64 x.2.2.2.1) ∧ w.cell? (a.add (i * 6 + 4)) = some (.int .i64 x.2.2.2.2.1) ∧ w.cell? (a.add (i * 6 + 5)) = some (.slice x.2.2.2.2.2.1 x.2.2.2.2.2.2.1 x.2.2.2.2.2.2.2)) ∧ SactR w x) len (fun i hilt => by
      obtain ⟨cs', hc, ht⟩ := hi i (by omega)
      rw [hC] at hc
      obtain ⟨_, hcl, hat⟩ := World.cells?_some hc
      obtain ⟨kk, f, t, m, b, A, n, d, ys, rfl, hb, hn⟩ := open_sactb ht (fun k hk => hwd (D i) (List.mem_map.2 ⟨i, List.mem_range.2 hilt, rfl⟩) k hk)
      have g0 := hat 0 (by omega)
      have g1 := hat 1 (by omega)
      have g2 := hat 2 (by omega)
      have g3 := hat 3 (by omega)
      have g4 := hat 4 (by omega)
      have g5 := hat 5 (by omega)
      rw [add_add] at g0 g1 g2 g3 g4 g5
      exact ⟨(kk, f, t, m, b, A, n, d), ⟨g0, g1, g2, g3, g4, g5⟩, ys, hb, hn⟩)
    refine ⟨some a, len, cap, l, rfl, ⟨hll, fun j v hj => ⟨a, rfl, ?_⟩⟩, by omega, hl, fun x hx => ?_⟩
    rotate_left
    · obtain ⟨j, hj, rfl⟩ := List.getElem_of_mem hx
      exact (hat j _ (List.getElem?_eq_getElem hj)).2
    have hj2 := (List.getElem?_eq_some_iff.1 hj).1
    rw [sactTy.flat_len] at hj2
    have hk : sactTy.k = 6 := rfl
    rw [hk] at hj2
    have hq : j / 6 < l.length := by omega
    have e := sactTy.flat_at l (j / 6) (j % 6) _ (List.getElem?_eq_getElem hq) (Nat.mod_lt _ (by decide))
    rw [hk, Nat.div_add_mod', hj] at e
    obtain ⟨g0, g1, g2, g3, g4, g5⟩ := (hat (j / 6) _ (List.getElem?_eq_getElem hq)).1
    rcases (show j % 6 = 0 ∨ j % 6 = 1 ∨ j % 6 = 2 ∨ j % 6 = 3 ∨ j % 6 = 4 ∨ j % 6 = 5 by omega) with h0 | h0 | h0 | h0 | h0 | h0
    · rw [h0] at e
      rw [show j / 6 * 6 = j by omega] at g0
      rw [g0]
      exact e.symm
    · rw [h0] at e
      rw [show j / 6 * 6 + 1 = j by omega] at g1
      rw [g1]
      exact e.symm
    · rw [h0] at e
      rw [show j / 6 * 6 + 2 = j by omega] at g2
      rw [g2]
      exact e.symm
    · rw [h0] at e
      rw [show j / 6 * 6 + 3 = j by omega] at g3
      rw [g3]
      exact e.symm
    · rw [h0] at e
      rw [show j / 6 * 6 + 4 = j by omega] at g4
      rw [g4]
      exact e.symm
    · rw [h0] at e
      rw [show j / 6 * 6 + 5 = j by omega] at g5
      rw [g5]
      exact e.symm
end
end Go.Proofs.Ytmblalcigbghfaa
