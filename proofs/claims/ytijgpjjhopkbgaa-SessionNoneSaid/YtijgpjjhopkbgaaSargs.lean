/- An act of a session's law, read as data: a kind and a packet. -/
import Derived.Test.YtijgpjjhopkbgaaPargs
namespace Go.Proofs.Ytijgpjjhopkbgaa
open Go.ChangeShapes Go.WideShapes Go.ChangeAt Go.RowKit
set_option linter.unusedVariables false
variable {H : Type} {enc : TypeId × Value → H} {P : Program} {w : World} {base : Nat} {spare : Nat → Bool} {held : Bool}
/-- An act's six cells. -/
theorem open_sact {n : Nat} {cs : List Value} {y : DataW H × List MemPlace} (h : DataW.trod enc Try.prog w base spare held n 26 cs = some y) (hz : ∀ k ∈ y.1.weights Try.prog 26, k ≤ reachBytes) :
    ∃ (k f t m a : Int) (A : Option Addr) (n d : Nat), cs = [.int .i64 k, .int .i64 f, .int .i64 t, .int .i64 m, .int .i64 a, .slice A n d] ∧ n ≤ 140737488351232 := by
  obtain ⟨xs, k, rfl, rfl, hl, hx, hf⟩ := DataW.trod_struct Try.underlying26 h
  rw [show Try.prog.cellsOf 26 = 6 by kernel_rfl] at hl
  have g0 := hf 0 _ rfl
  have g1 := hf 1 _ rfl
  change DataW.trod _ _ _ _ _ _ _ 3 ((cs.drop 0).take (Try.prog.cellsOf 3)) = _ at g0
  change DataW.trod _ _ _ _ _ _ _ 24 ((cs.drop 1).take (Try.prog.cellsOf 24)) = _ at g1
  rw [show Try.prog.cellsOf 3 = 1 by kernel_rfl] at g0
  rw [show Try.prog.cellsOf 24 = 5 by kernel_rfl] at g1
  match cs, hl with
  | [v0, v1, v2, v3, v4, v5], _ =>
    match xs, hx with
    | [x0, x1], _ =>
      have w1 := weights_struct Try.underlying26 hz (j := 1) (d := x1.1) rfl rfl
      obtain ⟨z0, e0, _, _⟩ := DataW.trod_int Try.underlying3 g0
      obtain ⟨f, t, m, a, A, n, d, ys, e1, _, hn, _, _⟩ := open_packet g1 w1
      simp only [List.drop_succ_cons, List.drop_zero, List.take_succ_cons, List.take_zero, List.cons.injEq, and_true] at e0 e1
      obtain ⟨rfl, rfl, rfl, rfl, rfl⟩ := e1
      subst e0
      exact ⟨z0, f, t, m, a, A, n, d, rfl, hn⟩
end Go.Proofs.Ytijgpjjhopkbgaa
