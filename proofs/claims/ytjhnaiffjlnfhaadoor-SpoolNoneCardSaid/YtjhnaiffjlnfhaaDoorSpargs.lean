/- An event as an argument: its seven cells. -/
import Derived.Test.YtjhnaiffjlnfhaaDoorArgs
namespace Go.Proofs.YtjhnaiffjlnfhaaDoor
open Go.RowKit Go.WideShapes Go.ChangeShapes Go.Deep
set_option linter.unusedVariables false
variable {H : Type} {enc : TypeId × Value → H} {P : Program} {w : World} {base : Nat} {spare : Nat → Bool} {held : Bool}
set_option maxRecDepth 100000 in
/-- An event's seven cells. -/
theorem open_event0 {n : Nat} {cs : List Value} {y : DataW H × List MemPlace} (h : DataW.trod enc Tryd.prog w base spare held n 29 cs = some y) (hz : ∀ k ∈ y.1.weights Tryd.prog 29, k ≤ reachBytes) :
    ∃ (nd sq : Int) (s : ByteArray) (k m : Int) (A : Option Addr) (n c : Nat) (B : Option Addr) (q d : Nat), cs = [.int .i64 nd, .int .i64 sq, .string s, .int .i64 k, .int .i64 m, .slice A n c, .slice B q d] := by
  obtain ⟨xs, k, rfl, rfl, hl, hx, hf⟩ := DataW.trod_struct Tryd.underlying29 h
  rw [show Tryd.prog.cellsOf 29 = 7 by kernel_rfl] at hl
  have g0 := hf 0 _ rfl
  have g1 := hf 1 _ rfl
  have g2 := hf 2 _ rfl
  have g3 := hf 3 _ rfl
  change DataW.trod _ _ _ _ _ _ _ 23 ((cs.drop 0).take (Tryd.prog.cellsOf 23)) = _ at g0
  change DataW.trod _ _ _ _ _ _ _ 9 ((cs.drop 2).take (Tryd.prog.cellsOf 9)) = _ at g1
  change DataW.trod _ _ _ _ _ _ _ 26 ((cs.drop 3).take (Tryd.prog.cellsOf 26)) = _ at g2
  change DataW.trod _ _ _ _ _ _ _ 27 ((cs.drop 6).take (Tryd.prog.cellsOf 27)) = _ at g3
  rw [show Tryd.prog.cellsOf 23 = 2 by kernel_rfl] at g0
  rw [show Tryd.prog.cellsOf 9 = 1 by kernel_rfl] at g1
  rw [show Tryd.prog.cellsOf 26 = 3 by kernel_rfl] at g2
  rw [show Tryd.prog.cellsOf 27 = 1 by kernel_rfl] at g3
  match cs, hl with
  | [v0, v1, v2, v3, v4, v5, v6], _ =>
    match xs, hx with
    | [x0, x1, x2, x3], _ =>
      have w2 := weights_struct Tryd.underlying29 hz (j := 2) (d := x2.1) rfl rfl
      have w1 := weights_struct Tryd.underlying29 hz (j := 1) (d := x1.1) rfl rfl
      obtain ⟨a, b, e0, _⟩ := open_dot g0
      simp only [List.drop_succ_cons, List.drop_zero, List.take_succ_cons, List.take_zero] at g1
      obtain ⟨s, e1, _⟩ := open_str g1 w1
      obtain ⟨k, m, A, n, c, ys, e2, _⟩ := open_effect g2 w2
      have e3 : ∃ B q d, v6 = .slice B q d := by
        rcases open_slice Tryd.underlying27 g3 with ⟨e, _⟩ | ⟨a, len, cap, m, k, D, Pl, e, _⟩
        · simp only [List.drop_succ_cons, List.drop_zero, List.take_succ_cons, List.take_zero, List.cons.injEq, and_true] at e
          exact ⟨_, _, _, e⟩
        · simp only [List.drop_succ_cons, List.drop_zero, List.take_succ_cons, List.take_zero, List.cons.injEq, and_true] at e
          exact ⟨_, _, _, e⟩
      obtain ⟨B, q, d, rfl⟩ := e3
      simp only [List.drop_succ_cons, List.drop_zero, List.take_succ_cons, List.take_zero, List.cons.injEq, and_true] at e0 e2
      obtain ⟨rfl, rfl⟩ := e0
      obtain ⟨rfl, rfl, rfl⟩ := e2
      subst e1
      exact ⟨_, _, _, _, _, _, _, _, _, _, _, rfl⟩
end Go.Proofs.YtjhnaiffjlnfhaaDoor
