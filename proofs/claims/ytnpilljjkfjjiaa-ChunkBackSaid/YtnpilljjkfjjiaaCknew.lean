/- A box: New; awake. -/
import Derived.Test.YtnpilljjkfjjiaaCkput
import Derived.Test.YtnpilljjkfjjiaaEva
namespace Go.Proofs.Ytnpilljjkfjjiaa
open Go.RowKit
set_option linter.unusedSimpArgs false
set_option linter.unusedVariables false



theorem bxnew_bad (w : World) (q : Int) (h : q < 0 ∨ 60000 < q) : Calls Try.prog 16 #[.int .i64 q] w fun e w' => e = .returned (.tuple #[.pointer none, .int .i64 2]) ∧ w' = w := by
  by_cases h0 : q < 0
  · clear h
    go_enter Try.func16, Try.ntmps16
    go_wp2
    go_ret2
    exact ⟨rfl, rfl⟩
  · have h1 : 60000 < q := by omega
    clear h
    go_enter Try.func16, Try.ntmps16
    go_wp2
    go_ret2
    exact ⟨rfl, rfl⟩
theorem bxnew_any (w : World) (q : Int) (h0 : 0 ≤ q) (h1 : q ≤ 60000) : Calls Try.prog 16 #[.int .i64 q] w fun e w' => ∃ b, e = .returned (.tuple #[.pointer (some ⟨b, 0, none⟩), .int .i64 0]) ∧ w'.heap[b]? = some (.cells #[.pointer (some ⟨b, 0, none⟩), .int .i64 q, .int .i64 0, .int .i64 0, .slice none 0 0] 51 (0, 0)) ∧ w.heap.size ≤ b ∧ Chg [] w w' := by
  have i0 : ¬ q < 0 := by omega
  have i1 : ¬ 60000 < q := by omega
  obtain ⟨w1, hw1, c1, b1⟩ := news1 w (.cells #[.pointer none, .int .i64 q, .int .i64 0, .int .i64 0, .slice none 0 0] 51)
  have W1 := Lib.hid hw1
  have z0 := cell_of b1 0
  have f0 := free_of b1 0
  simp only [List.getElem?_toArray, List.getElem?_cons_succ, List.getElem?_cons_zero] at z0
  have HP := Lib.hid (heap_setCell_same _ w.heap.size 0 _ _ (.pointer (some ⟨w.heap.size, 0, none⟩)) b1)
  have HC := Lib.hid (c1.put (s := w.heap.size) (Nat.le_refl _) 0 (.pointer (some ⟨w.heap.size, 0, none⟩)))
  clear h0 h1 hw1 c1 b1
  go_enter Try.func16, Try.ntmps16
  go_upto_region 4 with fail
  rw [← W1.out]
  generalize hg : w.heap.size = g at *
  go_wp2
  go_ret2
  exact ⟨g, rfl, HP.out, by omega, HC.out⟩

set_option maxRecDepth 100000 in
theorem l19awakeB_run (W : World) : Calls Try.prog 9 #[] W fun e w' => e = .returned (.bool true) ∧ Chg [] W w' :=
  Ev.closed_call (X := []) (g := 0) (n := 100000) (by kernel_rfl) (Ev.no_ext _) (by kernel_rfl) (by kernel_rfl) W
end Go.Proofs.Ytnpilljjkfjjiaa
