/- An act of a file system as an argument: its seven cells. -/
import Derived.Test.YtamlaiobjeogeaaGreatDoorArgs
namespace Go.Proofs.YtamlaiobjeogeaaGreatDoor
open Go.RowKit Go.WideShapes Go.ChangeShapes Go.Deep
set_option linter.unusedVariables false
variable {H : Type} {enc : TypeId × Value → H} {P : Program} {w : World} {base : Nat} {spare : Nat → Bool} {held : Bool}

set_option maxRecDepth 100000 in
theorem open_vact {n : Nat} {cs : List Value} {y : DataW H × List MemPlace} (h : DataW.trod enc Tryz.prog w base spare held n 26 cs = some y) (hz : ∀ k ∈ y.1.weights Tryz.prog 26, k ≤ reachBytes) :
    ∃ (kd of : Int) (s t : ByteArray) (k m : Int) (A : Option Addr) (n c : Nat), cs = [.int .i64 kd, .int .i64 of, .string s, .string t, .int .i64 k, .int .i64 m, .slice A n c] := by
  obtain ⟨xs, k, rfl, rfl, hl, hx, hf⟩ := DataW.trod_struct Tryz.underlying26 h
  rw [show Tryz.prog.cellsOf 26 = 7 by kernel_rfl] at hl
  have g0 := hf 0 _ rfl
  have g1 := hf 1 _ rfl
  have g2 := hf 2 _ rfl
  have g3 := hf 3 _ rfl
  have g4 := hf 4 _ rfl
  change DataW.trod _ _ _ _ _ _ _ 3 ((cs.drop 0).take (Tryz.prog.cellsOf 3)) = _ at g0
  change DataW.trod _ _ _ _ _ _ _ 3 ((cs.drop 1).take (Tryz.prog.cellsOf 3)) = _ at g1
  change DataW.trod _ _ _ _ _ _ _ 9 ((cs.drop 2).take (Tryz.prog.cellsOf 9)) = _ at g2
  change DataW.trod _ _ _ _ _ _ _ 9 ((cs.drop 3).take (Tryz.prog.cellsOf 9)) = _ at g3
  change DataW.trod _ _ _ _ _ _ _ 24 ((cs.drop 4).take (Tryz.prog.cellsOf 24)) = _ at g4
  rw [show Tryz.prog.cellsOf 3 = 1 by kernel_rfl] at g0
  rw [show Tryz.prog.cellsOf 3 = 1 by kernel_rfl] at g1
  rw [show Tryz.prog.cellsOf 9 = 1 by kernel_rfl] at g2
  rw [show Tryz.prog.cellsOf 9 = 1 by kernel_rfl] at g3
  rw [show Tryz.prog.cellsOf 24 = 3 by kernel_rfl] at g4
  match cs, hl with
  | [v0, v1, v2, v3, v4, v5, v6], _ =>
    match xs, hx with
    | [x0, x1, x2, x3, x4], _ =>
      have w2 := weights_struct Tryz.underlying26 hz (j := 2) (d := x2.1) rfl rfl
      have w3 := weights_struct Tryz.underlying26 hz (j := 3) (d := x3.1) rfl rfl
      have w4 := weights_struct Tryz.underlying26 hz (j := 4) (d := x4.1) rfl rfl
      obtain ⟨z0, e0, _, _⟩ := DataW.trod_int Tryz.underlying3 g0
      obtain ⟨z1, e1, _, _⟩ := DataW.trod_int Tryz.underlying3 g1
      simp only [List.drop_succ_cons, List.drop_zero, List.take_succ_cons, List.take_zero] at g2
      obtain ⟨s2, e2, _⟩ := open_str g2 w2
      simp only [List.drop_succ_cons, List.drop_zero, List.take_succ_cons, List.take_zero] at g3
      obtain ⟨s3, e3, _⟩ := open_str g3 w3
      obtain ⟨k4, m4, A4, n4, c4, ys4, e4, _⟩ := open_effect g4 w4
      simp only [List.drop_succ_cons, List.drop_zero, List.take_succ_cons, List.take_zero, List.cons.injEq, and_true] at e0 e1 e4
      subst e0
      subst e1
      subst e2
      subst e3
      obtain ⟨rfl, rfl, rfl⟩ := e4
      exact ⟨_, _, _, _, _, _, _, _, _, rfl⟩
end Go.Proofs.YtamlaiobjeogeaaGreatDoor
