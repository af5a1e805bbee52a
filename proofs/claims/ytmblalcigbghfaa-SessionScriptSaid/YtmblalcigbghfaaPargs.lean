/- A packet as an argument. -/
import Derived.Test.YtmblalcigbghfaaArgs
namespace Go.Proofs.Ytmblalcigbghfaa
open Go.RowKit Go.WideShapes Go.ChangeShapes Go.Deep
section
variable {H : Type} {enc : TypeId × Value → H} {P : Program} {w : World} {base : Nat} {spare : Nat → Bool} {held : Bool}
set_option maxRecDepth 100000 in
/-- A packet's five cells. -/
theorem open_packet {n : Nat} {cs : List Value} {y : DataW H × List MemPlace} (h : DataW.trod enc Try.prog w base spare held n 35 cs = some y) (hz : ∀ k ∈ y.1.weights Try.prog 35, k ≤ reachBytes) :
    ∃ (f t m a : Int) (A : Option Addr) (n d : Nat) (ys : List UInt8), cs = [.int .i64 f, .int .i64 t, .int .i64 m, .int .i64 a, .slice A n d] ∧ Bs w A n ys ∧ n ≤ 140737488351232 ∧ n ≤ d ∧ d ≤ 9223372036854775807 := by
  obtain ⟨xs, k, rfl, rfl, hl, hx, hf⟩ := DataW.trod_struct Try.underlying35 h
  rw [show Try.prog.cellsOf 35 = 5 by kernel_rfl] at hl
  have g0 := hf 0 _ rfl
  have g1 := hf 1 _ rfl
  have g2 := hf 2 _ rfl
  have g3 := hf 3 _ rfl
  have g4 := hf 4 _ rfl
  change DataW.trod _ _ _ _ _ _ _ 3 ((cs.drop 0).take (Try.prog.cellsOf 3)) = _ at g0
  change DataW.trod _ _ _ _ _ _ _ 3 ((cs.drop 1).take (Try.prog.cellsOf 3)) = _ at g1
  change DataW.trod _ _ _ _ _ _ _ 3 ((cs.drop 2).take (Try.prog.cellsOf 3)) = _ at g2
  change DataW.trod _ _ _ _ _ _ _ 3 ((cs.drop 3).take (Try.prog.cellsOf 3)) = _ at g3
  change DataW.trod _ _ _ _ _ _ _ 33 ((cs.drop 4).take (Try.prog.cellsOf 33)) = _ at g4
  rw [show Try.prog.cellsOf 3 = 1 by kernel_rfl] at g0 g1 g2 g3
  rw [show Try.prog.cellsOf 33 = 1 by kernel_rfl] at g4
  match cs, hl with
  | [v0, v1, v2, v3, v4], _ =>
    match xs, hx with
    | [x0, x1, x2, x3, x4], _ =>
      have w4 := weights_struct Try.underlying35 hz (j := 4) (d := x4.1) rfl rfl
      obtain ⟨z0, e0, _, _⟩ := DataW.trod_int Try.underlying3 g0
      obtain ⟨z1, e1, _, _⟩ := DataW.trod_int Try.underlying3 g1
      obtain ⟨z2, e2, _, _⟩ := DataW.trod_int Try.underlying3 g2
      obtain ⟨z3, e3, _, _⟩ := DataW.trod_int Try.underlying3 g3
      obtain ⟨A, m, d, ys, e4, hb, hm, hmd, hd⟩ := open_bytes g4 w4
      simp only [List.drop_succ_cons, List.drop_zero, List.take_succ_cons, List.take_zero, List.cons.injEq, and_true] at e0 e1 e2 e3 e4
      subst e0 e1 e2 e3 e4
      exact ⟨z0, z1, z2, z3, A, m, d, ys, rfl, hb, hm, hmd, hd⟩
end
end Go.Proofs.Ytmblalcigbghfaa
