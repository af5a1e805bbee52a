/- minds: a part. minds: a part. minds: a part. minds: a part. minds. -/
import Derived.Test.YtmblalcigbghfaaSgb
import Derived.Test.YtmblalcigbghfaaSgc
namespace Go.Proofs.Ytmblalcigbghfaa
section
open Go.RowKit Go.Lib
set_option linter.unusedSimpArgs false
set_option linter.unusedVariables false


set_option maxHeartbeats 4000000 in
theorem seminds_Z0 (w : World) (b : Nat) (s : SQ) (h : QH w b s) (f t m a : Int) (A : Option Addr) (n c : Nat) (hpz : s.peer = 0) (hn : n ≤ 140737488351232)  (h0 : ¬ 1 ≤ f) : Calls Try.prog 47 #[.pointer (some ⟨b, 0, none⟩), .agg #[.int .i64 f, .int .i64 t, .int .i64 m, .int .i64 a, .slice A n c]] w fun e w' => e = .returned (.bool false) ∧ Chg [] w w' := by
  have d0 : decide (1 ≤ f) = false := decide_eq_false h0
  obtain ⟨w1, hw1, c1, b1⟩ := news1 w (.cells #[.int .i64 f, .int .i64 t, .int .i64 m, .int .i64 a, .slice A n c] 35)
  have W1 := Lib.hid hw1
  have C1 := Lib.hid c1
  have CE : Hid (∀ w', Chg [] w1 w' → w'.cell? ⟨b, 2, none⟩ = some (.int .i64 0) ∧ w'.heap[w.heap.size]? = some (.cells #[.int .i64 f, .int .i64 t, .int .i64 m, .int .i64 a, .slice A n c] 35 (0, 0))) := Lib.hid (fun w' hc => ⟨by have := (h.chg (c1.trans hc) (by simp)).get.2.2.1; rwa [hpz] at this, hc.at_ b1 (by simp)⟩)
  clear hw1 c1 b1 h hpz
  go_enter Try.func47, Try.ntmps47
  go_upto_region 1 with fail
  rw [← W1.out]
  generalize w.heap.size = g at *
  refine wp_region_held_drew (S := fun w' => Chg [] w1 w') (by kernel_rfl) (Chg.refl [] w1).drew (fun hHeld => ?_)
  have CW := Lib.hid (C1.out.trans (Chg.refl [] w1).drew)
  clear W1 C1
  generalize w1.drew = wd at *
  refine sy 0 5 rfl rfl ?_
  try simp only [Act.put, sA, s0, s1]
  refine sy 1 6 rfl rfl ?_ (hy := by (intro w hSw; (try dsimp only at hSw); have q := (CE.out _ hSw).2; have q0 := cell_of q 0; simp only [List.getElem?_toArray, List.getElem?_cons_succ, List.getElem?_cons_zero] at q0; go_simp; try with_reducible rfl))
  try simp only [Act.put, sA, s0, s1]
  refine sy 2 7 rfl rfl ?_
  try simp only [Act.put, sA, s0, s1]
  refine sy 3 8 rfl rfl ?_
  try simp only [Act.put, sA, s0, s1]
  refine sy 4 9 rfl rfl ?_
  try simp only [Act.put, sA, s0, s1]
  refine sy 5 10 rfl rfl ?_ (hy := by (intro w hSw; (try dsimp only at hSw); have q := (CE.out _ hSw).1; go_simp; try with_reducible rfl))
  try simp only [Act.put, sA, s0, s1]
  refine sy 6 11 rfl rfl ?_
  try simp only [Act.put, sA, s0, s1]
  refine sy 7 12 rfl rfl ?_
  try simp only [Act.put, sA, s0, s1]
  refine sy 8 13 rfl rfl ?_
  try simp only [Act.put, sA, s0, s1]
  refine sn 9 14 rfl rfl ?_
  try simp only [Act.put, sA, s0, s1]
  refine sn 10 15 rfl rfl ?_
  try simp only [Act.put, sA, s0, s1]
  refine sn 11 16 rfl rfl ?_
  try simp only [Act.put, sA, s0, s1]
  refine sy 12 17 rfl rfl ?_
  try simp only [Act.put, sA, s0, s1]
  refine sy 13 18 rfl rfl ?_
  try simp only [Act.put, sA, s0, s1]
  refine sn 14 19 rfl rfl ?_
  try simp only [Act.put, sA, s0, s1]
  refine sn 15 20 rfl rfl ?_
  try simp only [Act.put, sA, s0, s1]
  refine sn 16 21 rfl rfl ?_
  try simp only [Act.put, sA, s0, s1]
  refine sy 17 22 rfl rfl ?_
  try simp only [Act.put, sA, s0, s1]
  refine sy 18 23 rfl rfl ?_
  try simp only [Act.put, sA, s0, s1]
  refine sn 19 24 rfl rfl ?_
  try simp only [Act.put, sA, s0, s1]
  refine sn 20 25 rfl rfl ?_
  try simp only [Act.put, sA, s0, s1]
  refine sn 21 26 rfl rfl ?_
  try simp only [Act.put, sA, s0, s1]
  refine sy 22 27 rfl rfl ?_
  try simp only [Act.put, sA, s0, s1]
  refine sy 23 28 rfl rfl ?_
  try simp only [Act.put, sA, s0, s1]
  refine sn 24 29 rfl rfl ?_
  try simp only [Act.put, sA, s0, s1]
  refine sn 25 30 rfl rfl ?_
  try simp only [Act.put, sA, s0, s1]
  refine sn 26 31 rfl rfl ?_
  try simp only [Act.put, sA, s0, s1]
  refine sy 27 32 rfl rfl ?_
  try simp only [Act.put, sA, s0, s1]
  refine sy 28 33 rfl rfl ?_
  try simp only [Act.put, sA, s0, s1]
  refine sn 29 34 rfl rfl ?_
  try simp only [Act.put, sA, s0, s1]
  refine sn 30 35 rfl rfl ?_
  try simp only [Act.put, sA, s0, s1]
  refine sn 31 36 rfl rfl ?_
  try simp only [Act.put, sA, s0, s1]
  refine sy 32 37 rfl rfl ?_
  try simp only [Act.put, sA, s0, s1]
  refine sy 33 38 rfl rfl ?_
  try simp only [Act.put, sA, s0, s1]
  refine sn 34 39 rfl rfl ?_
  try simp only [Act.put, sA, s0, s1]
  refine sn 35 40 rfl rfl ?_
  try simp only [Act.put, sA, s0, s1]
  refine sn 36 41 rfl rfl ?_
  try simp only [Act.put, sA, s0, s1]
  refine sn 37 42 rfl rfl ?_
  try simp only [Act.put, sA, s0, s1]
  refine sy 38 43 rfl rfl ?_
  try simp only [Act.put, sA, s0, s1]
  refine sy 39 4 rfl rfl ?_
  try simp only [Act.put, sA, s0, s1]
  refine wpAnyH_done (by kernel_rfl) ?_ _
  go_wp2
  go_ret
  exact ⟨rfl, CW.out⟩

set_option maxHeartbeats 4000000 in
theorem seminds_Z1 (w : World) (b : Nat) (s : SQ) (h : QH w b s) (f t m a : Int) (A : Option Addr) (n c : Nat) (hpz : s.peer = 0) (hn : n ≤ 140737488351232) (h0 : 1 ≤ f) (h1 : ¬ f ≤ 1099511627776) : Calls Try.prog 47 #[.pointer (some ⟨b, 0, none⟩), .agg #[.int .i64 f, .int .i64 t, .int .i64 m, .int .i64 a, .slice A n c]] w fun e w' => e = .returned (.bool false) ∧ Chg [] w w' := by
  have d0 : decide (1 ≤ f) = true := decide_eq_true h0
  have d1 : decide (f ≤ 1099511627776) = false := decide_eq_false h1
  obtain ⟨w1, hw1, c1, b1⟩ := news1 w (.cells #[.int .i64 f, .int .i64 t, .int .i64 m, .int .i64 a, .slice A n c] 35)
  have W1 := Lib.hid hw1
  have C1 := Lib.hid c1
  have CE : Hid (∀ w', Chg [] w1 w' → w'.cell? ⟨b, 2, none⟩ = some (.int .i64 0) ∧ w'.heap[w.heap.size]? = some (.cells #[.int .i64 f, .int .i64 t, .int .i64 m, .int .i64 a, .slice A n c] 35 (0, 0))) := Lib.hid (fun w' hc => ⟨by have := (h.chg (c1.trans hc) (by simp)).get.2.2.1; rwa [hpz] at this, hc.at_ b1 (by simp)⟩)
  clear hw1 c1 b1 h hpz
  go_enter Try.func47, Try.ntmps47
  go_upto_region 1 with fail
  rw [← W1.out]
  generalize w.heap.size = g at *
  refine wp_region_held_drew (S := fun w' => Chg [] w1 w') (by kernel_rfl) (Chg.refl [] w1).drew (fun hHeld => ?_)
  have CW := Lib.hid (C1.out.trans (Chg.refl [] w1).drew)
  clear W1 C1
  generalize w1.drew = wd at *
  refine sy 0 5 rfl rfl ?_
  try simp only [Act.put, sA, s0, s1]
  refine sy 1 6 rfl rfl ?_ (hy := by (intro w hSw; (try dsimp only at hSw); have q := (CE.out _ hSw).2; have q0 := cell_of q 0; simp only [List.getElem?_toArray, List.getElem?_cons_succ, List.getElem?_cons_zero] at q0; go_simp; try with_reducible rfl))
  try simp only [Act.put, sA, s0, s1]
  refine sy 2 7 rfl rfl ?_
  try simp only [Act.put, sA, s0, s1]
  refine sy 3 8 rfl rfl ?_
  try simp only [Act.put, sA, s0, s1]
  refine sy 4 9 rfl rfl ?_
  try simp only [Act.put, sA, s0, s1]
  refine sy 5 10 rfl rfl ?_ (hy := by (intro w hSw; (try dsimp only at hSw); have q := (CE.out _ hSw).1; go_simp; try with_reducible rfl))
  try simp only [Act.put, sA, s0, s1]
  refine sy 6 11 rfl rfl ?_
  try simp only [Act.put, sA, s0, s1]
  refine sy 7 12 rfl rfl ?_
  try simp only [Act.put, sA, s0, s1]
  refine sy 8 13 rfl rfl ?_
  try simp only [Act.put, sA, s0, s1]
  refine sy 9 14 rfl rfl ?_
  try simp only [Act.put, sA, s0, s1]
  refine sy 10 15 rfl rfl ?_ (hy := by (intro w hSw; (try dsimp only at hSw); have q := (CE.out _ hSw).2; have q0 := cell_of q 0; simp only [List.getElem?_toArray, List.getElem?_cons_succ, List.getElem?_cons_zero] at q0; go_simp; try with_reducible rfl))
  try simp only [Act.put, sA, s0, s1]
  refine sy 11 16 rfl rfl ?_
  try simp only [Act.put, sA, s0, s1]
  refine sy 12 17 rfl rfl ?_
  try simp only [Act.put, sA, s0, s1]
  refine sy 13 18 rfl rfl ?_
  try simp only [Act.put, sA, s0, s1]
  refine sn 14 19 rfl rfl ?_
  try simp only [Act.put, sA, s0, s1]
  refine sn 15 20 rfl rfl ?_
  try simp only [Act.put, sA, s0, s1]
  refine sn 16 21 rfl rfl ?_
  try simp only [Act.put, sA, s0, s1]
  refine sy 17 22 rfl rfl ?_
  try simp only [Act.put, sA, s0, s1]
  refine sy 18 23 rfl rfl ?_
  try simp only [Act.put, sA, s0, s1]
  refine sn 19 24 rfl rfl ?_
  try simp only [Act.put, sA, s0, s1]
  refine sn 20 25 rfl rfl ?_
  try simp only [Act.put, sA, s0, s1]
  refine sn 21 26 rfl rfl ?_
  try simp only [Act.put, sA, s0, s1]
  refine sy 22 27 rfl rfl ?_
  try simp only [Act.put, sA, s0, s1]
  refine sy 23 28 rfl rfl ?_
  try simp only [Act.put, sA, s0, s1]
  refine sn 24 29 rfl rfl ?_
  try simp only [Act.put, sA, s0, s1]
  refine sn 25 30 rfl rfl ?_
  try simp only [Act.put, sA, s0, s1]
  refine sn 26 31 rfl rfl ?_
  try simp only [Act.put, sA, s0, s1]
  refine sy 27 32 rfl rfl ?_
  try simp only [Act.put, sA, s0, s1]
  refine sy 28 33 rfl rfl ?_
  try simp only [Act.put, sA, s0, s1]
  refine sn 29 34 rfl rfl ?_
  try simp only [Act.put, sA, s0, s1]
  refine sn 30 35 rfl rfl ?_
  try simp only [Act.put, sA, s0, s1]
  refine sn 31 36 rfl rfl ?_
  try simp only [Act.put, sA, s0, s1]
  refine sy 32 37 rfl rfl ?_
  try simp only [Act.put, sA, s0, s1]
  refine sy 33 38 rfl rfl ?_
  try simp only [Act.put, sA, s0, s1]
  refine sn 34 39 rfl rfl ?_
  try simp only [Act.put, sA, s0, s1]
  refine sn 35 40 rfl rfl ?_
  try simp only [Act.put, sA, s0, s1]
  refine sn 36 41 rfl rfl ?_
  try simp only [Act.put, sA, s0, s1]
  refine sn 37 42 rfl rfl ?_
  try simp only [Act.put, sA, s0, s1]
  refine sy 38 43 rfl rfl ?_
  try simp only [Act.put, sA, s0, s1]
  refine sy 39 4 rfl rfl ?_
  try simp only [Act.put, sA, s0, s1]
  refine wpAnyH_done (by kernel_rfl) ?_ _
  go_wp2
  go_ret
  exact ⟨rfl, CW.out⟩
end
section
open Go.RowKit Go.Lib
set_option linter.unusedSimpArgs false
set_option linter.unusedVariables false


set_option maxHeartbeats 4000000 in
theorem seminds_Z2 (w : World) (b : Nat) (s : SQ) (h : QH w b s) (f t m a : Int) (A : Option Addr) (n c : Nat) (hpz : s.peer = 0) (hn : n ≤ 140737488351232) (h0 : 1 ≤ f) (h1 : f ≤ 1099511627776) (h2 : ¬ 0 ≤ t) : Calls Try.prog 47 #[.pointer (some ⟨b, 0, none⟩), .agg #[.int .i64 f, .int .i64 t, .int .i64 m, .int .i64 a, .slice A n c]] w fun e w' => e = .returned (.bool false) ∧ Chg [] w w' := by
  have d0 : decide (1 ≤ f) = true := decide_eq_true h0
  have d1 : decide (f ≤ 1099511627776) = true := decide_eq_true h1
  have d2 : decide (0 ≤ t) = false := decide_eq_false h2
  obtain ⟨w1, hw1, c1, b1⟩ := news1 w (.cells #[.int .i64 f, .int .i64 t, .int .i64 m, .int .i64 a, .slice A n c] 35)
  have W1 := Lib.hid hw1
  have C1 := Lib.hid c1
  have CE : Hid (∀ w', Chg [] w1 w' → w'.cell? ⟨b, 2, none⟩ = some (.int .i64 0) ∧ w'.heap[w.heap.size]? = some (.cells #[.int .i64 f, .int .i64 t, .int .i64 m, .int .i64 a, .slice A n c] 35 (0, 0))) := Lib.hid (fun w' hc => ⟨by have := (h.chg (c1.trans hc) (by simp)).get.2.2.1; rwa [hpz] at this, hc.at_ b1 (by simp)⟩)
  clear hw1 c1 b1 h hpz
  go_enter Try.func47, Try.ntmps47
  go_upto_region 1 with fail
  rw [← W1.out]
  generalize w.heap.size = g at *
  refine wp_region_held_drew (S := fun w' => Chg [] w1 w') (by kernel_rfl) (Chg.refl [] w1).drew (fun hHeld => ?_)
  have CW := Lib.hid (C1.out.trans (Chg.refl [] w1).drew)
  clear W1 C1
  generalize w1.drew = wd at *
  refine sy 0 5 rfl rfl ?_
  try simp only [Act.put, sA, s0, s1]
  refine sy 1 6 rfl rfl ?_ (hy := by (intro w hSw; (try dsimp only at hSw); have q := (CE.out _ hSw).2; have q0 := cell_of q 0; simp only [List.getElem?_toArray, List.getElem?_cons_succ, List.getElem?_cons_zero] at q0; go_simp; try with_reducible rfl))
  try simp only [Act.put, sA, s0, s1]
  refine sy 2 7 rfl rfl ?_
  try simp only [Act.put, sA, s0, s1]
  refine sy 3 8 rfl rfl ?_
  try simp only [Act.put, sA, s0, s1]
  refine sy 4 9 rfl rfl ?_
  try simp only [Act.put, sA, s0, s1]
  refine sy 5 10 rfl rfl ?_ (hy := by (intro w hSw; (try dsimp only at hSw); have q := (CE.out _ hSw).1; go_simp; try with_reducible rfl))
  try simp only [Act.put, sA, s0, s1]
  refine sy 6 11 rfl rfl ?_
  try simp only [Act.put, sA, s0, s1]
  refine sy 7 12 rfl rfl ?_
  try simp only [Act.put, sA, s0, s1]
  refine sy 8 13 rfl rfl ?_
  try simp only [Act.put, sA, s0, s1]
  refine sy 9 14 rfl rfl ?_
  try simp only [Act.put, sA, s0, s1]
  refine sy 10 15 rfl rfl ?_ (hy := by (intro w hSw; (try dsimp only at hSw); have q := (CE.out _ hSw).2; have q0 := cell_of q 0; simp only [List.getElem?_toArray, List.getElem?_cons_succ, List.getElem?_cons_zero] at q0; go_simp; try with_reducible rfl))
  try simp only [Act.put, sA, s0, s1]
  refine sy 11 16 rfl rfl ?_
  try simp only [Act.put, sA, s0, s1]
  refine sy 12 17 rfl rfl ?_
  try simp only [Act.put, sA, s0, s1]
  refine sy 13 18 rfl rfl ?_
  try simp only [Act.put, sA, s0, s1]
  refine sy 14 19 rfl rfl ?_
  try simp only [Act.put, sA, s0, s1]
  refine sy 15 20 rfl rfl ?_ (hy := by (intro w hSw; (try dsimp only at hSw); have q := (CE.out _ hSw).2; have q0 := cell_of q 1; simp only [List.getElem?_toArray, List.getElem?_cons_succ, List.getElem?_cons_zero] at q0; go_simp; try with_reducible rfl))
  try simp only [Act.put, sA, s0, s1]
  refine sy 16 21 rfl rfl ?_
  try simp only [Act.put, sA, s0, s1]
  refine sy 17 22 rfl rfl ?_
  try simp only [Act.put, sA, s0, s1]
  refine sy 18 23 rfl rfl ?_
  try simp only [Act.put, sA, s0, s1]
  refine sn 19 24 rfl rfl ?_
  try simp only [Act.put, sA, s0, s1]
  refine sn 20 25 rfl rfl ?_
  try simp only [Act.put, sA, s0, s1]
  refine sn 21 26 rfl rfl ?_
  try simp only [Act.put, sA, s0, s1]
  refine sy 22 27 rfl rfl ?_
  try simp only [Act.put, sA, s0, s1]
  refine sy 23 28 rfl rfl ?_
  try simp only [Act.put, sA, s0, s1]
  refine sn 24 29 rfl rfl ?_
  try simp only [Act.put, sA, s0, s1]
  refine sn 25 30 rfl rfl ?_
  try simp only [Act.put, sA, s0, s1]
  refine sn 26 31 rfl rfl ?_
  try simp only [Act.put, sA, s0, s1]
  refine sy 27 32 rfl rfl ?_
  try simp only [Act.put, sA, s0, s1]
  refine sy 28 33 rfl rfl ?_
  try simp only [Act.put, sA, s0, s1]
  refine sn 29 34 rfl rfl ?_
  try simp only [Act.put, sA, s0, s1]
  refine sn 30 35 rfl rfl ?_
  try simp only [Act.put, sA, s0, s1]
  refine sn 31 36 rfl rfl ?_
  try simp only [Act.put, sA, s0, s1]
  refine sy 32 37 rfl rfl ?_
  try simp only [Act.put, sA, s0, s1]
  refine sy 33 38 rfl rfl ?_
  try simp only [Act.put, sA, s0, s1]
  refine sn 34 39 rfl rfl ?_
  try simp only [Act.put, sA, s0, s1]
  refine sn 35 40 rfl rfl ?_
  try simp only [Act.put, sA, s0, s1]
  refine sn 36 41 rfl rfl ?_
  try simp only [Act.put, sA, s0, s1]
  refine sn 37 42 rfl rfl ?_
  try simp only [Act.put, sA, s0, s1]
  refine sy 38 43 rfl rfl ?_
  try simp only [Act.put, sA, s0, s1]
  refine sy 39 4 rfl rfl ?_
  try simp only [Act.put, sA, s0, s1]
  refine wpAnyH_done (by kernel_rfl) ?_ _
  go_wp2
  go_ret
  exact ⟨rfl, CW.out⟩

set_option maxHeartbeats 4000000 in
theorem seminds_Z3 (w : World) (b : Nat) (s : SQ) (h : QH w b s) (f t m a : Int) (A : Option Addr) (n c : Nat) (hpz : s.peer = 0) (hn : n ≤ 140737488351232) (h0 : 1 ≤ f) (h1 : f ≤ 1099511627776) (h2 : 0 ≤ t) (h3 : ¬ 0 ≤ m) : Calls Try.prog 47 #[.pointer (some ⟨b, 0, none⟩), .agg #[.int .i64 f, .int .i64 t, .int .i64 m, .int .i64 a, .slice A n c]] w fun e w' => e = .returned (.bool false) ∧ Chg [] w w' := by
  have d0 : decide (1 ≤ f) = true := decide_eq_true h0
  have d1 : decide (f ≤ 1099511627776) = true := decide_eq_true h1
  have d2 : decide (0 ≤ t) = true := decide_eq_true h2
  have d3 : decide (0 ≤ m) = false := decide_eq_false h3
  obtain ⟨w1, hw1, c1, b1⟩ := news1 w (.cells #[.int .i64 f, .int .i64 t, .int .i64 m, .int .i64 a, .slice A n c] 35)
  have W1 := Lib.hid hw1
  have C1 := Lib.hid c1
  have CE : Hid (∀ w', Chg [] w1 w' → w'.cell? ⟨b, 2, none⟩ = some (.int .i64 0) ∧ w'.heap[w.heap.size]? = some (.cells #[.int .i64 f, .int .i64 t, .int .i64 m, .int .i64 a, .slice A n c] 35 (0, 0))) := Lib.hid (fun w' hc => ⟨by have := (h.chg (c1.trans hc) (by simp)).get.2.2.1; rwa [hpz] at this, hc.at_ b1 (by simp)⟩)
  clear hw1 c1 b1 h hpz
  go_enter Try.func47, Try.ntmps47
  go_upto_region 1 with fail
  rw [← W1.out]
  generalize w.heap.size = g at *
  refine wp_region_held_drew (S := fun w' => Chg [] w1 w') (by kernel_rfl) (Chg.refl [] w1).drew (fun hHeld => ?_)
  have CW := Lib.hid (C1.out.trans (Chg.refl [] w1).drew)
  clear W1 C1
  generalize w1.drew = wd at *
  refine sy 0 5 rfl rfl ?_
  try simp only [Act.put, sA, s0, s1]
  refine sy 1 6 rfl rfl ?_ (hy := by (intro w hSw; (try dsimp only at hSw); have q := (CE.out _ hSw).2; have q0 := cell_of q 0; simp only [List.getElem?_toArray, List.getElem?_cons_succ, List.getElem?_cons_zero] at q0; go_simp; try with_reducible rfl))
  try simp only [Act.put, sA, s0, s1]
  refine sy 2 7 rfl rfl ?_
  try simp only [Act.put, sA, s0, s1]
  refine sy 3 8 rfl rfl ?_
  try simp only [Act.put, sA, s0, s1]
  refine sy 4 9 rfl rfl ?_
  try simp only [Act.put, sA, s0, s1]
  refine sy 5 10 rfl rfl ?_ (hy := by (intro w hSw; (try dsimp only at hSw); have q := (CE.out _ hSw).1; go_simp; try with_reducible rfl))
  try simp only [Act.put, sA, s0, s1]
  refine sy 6 11 rfl rfl ?_
  try simp only [Act.put, sA, s0, s1]
  refine sy 7 12 rfl rfl ?_
  try simp only [Act.put, sA, s0, s1]
  refine sy 8 13 rfl rfl ?_
  try simp only [Act.put, sA, s0, s1]
  refine sy 9 14 rfl rfl ?_
  try simp only [Act.put, sA, s0, s1]
  refine sy 10 15 rfl rfl ?_ (hy := by (intro w hSw; (try dsimp only at hSw); have q := (CE.out _ hSw).2; have q0 := cell_of q 0; simp only [List.getElem?_toArray, List.getElem?_cons_succ, List.getElem?_cons_zero] at q0; go_simp; try with_reducible rfl))
  try simp only [Act.put, sA, s0, s1]
  refine sy 11 16 rfl rfl ?_
  try simp only [Act.put, sA, s0, s1]
  refine sy 12 17 rfl rfl ?_
  try simp only [Act.put, sA, s0, s1]
  refine sy 13 18 rfl rfl ?_
  try simp only [Act.put, sA, s0, s1]
  refine sy 14 19 rfl rfl ?_
  try simp only [Act.put, sA, s0, s1]
  refine sy 15 20 rfl rfl ?_ (hy := by (intro w hSw; (try dsimp only at hSw); have q := (CE.out _ hSw).2; have q0 := cell_of q 1; simp only [List.getElem?_toArray, List.getElem?_cons_succ, List.getElem?_cons_zero] at q0; go_simp; try with_reducible rfl))
  try simp only [Act.put, sA, s0, s1]
  refine sy 16 21 rfl rfl ?_
  try simp only [Act.put, sA, s0, s1]
  refine sy 17 22 rfl rfl ?_
  try simp only [Act.put, sA, s0, s1]
  refine sy 18 23 rfl rfl ?_
  try simp only [Act.put, sA, s0, s1]
  refine sy 19 24 rfl rfl ?_
  try simp only [Act.put, sA, s0, s1]
  refine sy 20 25 rfl rfl ?_ (hy := by (intro w hSw; (try dsimp only at hSw); have q := (CE.out _ hSw).2; have q0 := cell_of q 2; simp only [List.getElem?_toArray, List.getElem?_cons_succ, List.getElem?_cons_zero] at q0; go_simp; try with_reducible rfl))
  try simp only [Act.put, sA, s0, s1]
  refine sy 21 26 rfl rfl ?_
  try simp only [Act.put, sA, s0, s1]
  refine sy 22 27 rfl rfl ?_
  try simp only [Act.put, sA, s0, s1]
  refine sy 23 28 rfl rfl ?_
  try simp only [Act.put, sA, s0, s1]
  refine sn 24 29 rfl rfl ?_
  try simp only [Act.put, sA, s0, s1]
  refine sn 25 30 rfl rfl ?_
  try simp only [Act.put, sA, s0, s1]
  refine sn 26 31 rfl rfl ?_
  try simp only [Act.put, sA, s0, s1]
  refine sy 27 32 rfl rfl ?_
  try simp only [Act.put, sA, s0, s1]
  refine sy 28 33 rfl rfl ?_
  try simp only [Act.put, sA, s0, s1]
  refine sn 29 34 rfl rfl ?_
  try simp only [Act.put, sA, s0, s1]
  refine sn 30 35 rfl rfl ?_
  try simp only [Act.put, sA, s0, s1]
  refine sn 31 36 rfl rfl ?_
  try simp only [Act.put, sA, s0, s1]
  refine sy 32 37 rfl rfl ?_
  try simp only [Act.put, sA, s0, s1]
  refine sy 33 38 rfl rfl ?_
  try simp only [Act.put, sA, s0, s1]
  refine sn 34 39 rfl rfl ?_
  try simp only [Act.put, sA, s0, s1]
  refine sn 35 40 rfl rfl ?_
  try simp only [Act.put, sA, s0, s1]
  refine sn 36 41 rfl rfl ?_
  try simp only [Act.put, sA, s0, s1]
  refine sn 37 42 rfl rfl ?_
  try simp only [Act.put, sA, s0, s1]
  refine sy 38 43 rfl rfl ?_
  try simp only [Act.put, sA, s0, s1]
  refine sy 39 4 rfl rfl ?_
  try simp only [Act.put, sA, s0, s1]
  refine wpAnyH_done (by kernel_rfl) ?_ _
  go_wp2
  go_ret
  exact ⟨rfl, CW.out⟩
end
section
open Go.RowKit Go.Lib
set_option linter.unusedSimpArgs false
set_option linter.unusedVariables false


set_option maxHeartbeats 4000000 in
theorem seminds_Z4 (w : World) (b : Nat) (s : SQ) (h : QH w b s) (f t m a : Int) (A : Option Addr) (n c : Nat) (hpz : s.peer = 0) (hn : n ≤ 140737488351232) (h0 : 1 ≤ f) (h1 : f ≤ 1099511627776) (h2 : 0 ≤ t) (h3 : 0 ≤ m) (h4 : ¬ m ≤ 1099511627776) : Calls Try.prog 47 #[.pointer (some ⟨b, 0, none⟩), .agg #[.int .i64 f, .int .i64 t, .int .i64 m, .int .i64 a, .slice A n c]] w fun e w' => e = .returned (.bool false) ∧ Chg [] w w' := by
  have d0 : decide (1 ≤ f) = true := decide_eq_true h0
  have d1 : decide (f ≤ 1099511627776) = true := decide_eq_true h1
  have d2 : decide (0 ≤ t) = true := decide_eq_true h2
  have d3 : decide (0 ≤ m) = true := decide_eq_true h3
  have d4 : decide (m ≤ 1099511627776) = false := decide_eq_false h4
  obtain ⟨w1, hw1, c1, b1⟩ := news1 w (.cells #[.int .i64 f, .int .i64 t, .int .i64 m, .int .i64 a, .slice A n c] 35)
  have W1 := Lib.hid hw1
  have C1 := Lib.hid c1
  have CE : Hid (∀ w', Chg [] w1 w' → w'.cell? ⟨b, 2, none⟩ = some (.int .i64 0) ∧ w'.heap[w.heap.size]? = some (.cells #[.int .i64 f, .int .i64 t, .int .i64 m, .int .i64 a, .slice A n c] 35 (0, 0))) := Lib.hid (fun w' hc => ⟨by have := (h.chg (c1.trans hc) (by simp)).get.2.2.1; rwa [hpz] at this, hc.at_ b1 (by simp)⟩)
  clear hw1 c1 b1 h hpz
  go_enter Try.func47, Try.ntmps47
  go_upto_region 1 with fail
  rw [← W1.out]
  generalize w.heap.size = g at *
  refine wp_region_held_drew (S := fun w' => Chg [] w1 w') (by kernel_rfl) (Chg.refl [] w1).drew (fun hHeld => ?_)
  have CW := Lib.hid (C1.out.trans (Chg.refl [] w1).drew)
  clear W1 C1
  generalize w1.drew = wd at *
  refine sy 0 5 rfl rfl ?_
  try simp only [Act.put, sA, s0, s1]
  refine sy 1 6 rfl rfl ?_ (hy := by (intro w hSw; (try dsimp only at hSw); have q := (CE.out _ hSw).2; have q0 := cell_of q 0; simp only [List.getElem?_toArray, List.getElem?_cons_succ, List.getElem?_cons_zero] at q0; go_simp; try with_reducible rfl))
  try simp only [Act.put, sA, s0, s1]
  refine sy 2 7 rfl rfl ?_
  try simp only [Act.put, sA, s0, s1]
  refine sy 3 8 rfl rfl ?_
  try simp only [Act.put, sA, s0, s1]
  refine sy 4 9 rfl rfl ?_
  try simp only [Act.put, sA, s0, s1]
  refine sy 5 10 rfl rfl ?_ (hy := by (intro w hSw; (try dsimp only at hSw); have q := (CE.out _ hSw).1; go_simp; try with_reducible rfl))
  try simp only [Act.put, sA, s0, s1]
  refine sy 6 11 rfl rfl ?_
  try simp only [Act.put, sA, s0, s1]
  refine sy 7 12 rfl rfl ?_
  try simp only [Act.put, sA, s0, s1]
  refine sy 8 13 rfl rfl ?_
  try simp only [Act.put, sA, s0, s1]
  refine sy 9 14 rfl rfl ?_
  try simp only [Act.put, sA, s0, s1]
  refine sy 10 15 rfl rfl ?_ (hy := by (intro w hSw; (try dsimp only at hSw); have q := (CE.out _ hSw).2; have q0 := cell_of q 0; simp only [List.getElem?_toArray, List.getElem?_cons_succ, List.getElem?_cons_zero] at q0; go_simp; try with_reducible rfl))
  try simp only [Act.put, sA, s0, s1]
  refine sy 11 16 rfl rfl ?_
  try simp only [Act.put, sA, s0, s1]
  refine sy 12 17 rfl rfl ?_
  try simp only [Act.put, sA, s0, s1]
  refine sy 13 18 rfl rfl ?_
  try simp only [Act.put, sA, s0, s1]
  refine sy 14 19 rfl rfl ?_
  try simp only [Act.put, sA, s0, s1]
  refine sy 15 20 rfl rfl ?_ (hy := by (intro w hSw; (try dsimp only at hSw); have q := (CE.out _ hSw).2; have q0 := cell_of q 1; simp only [List.getElem?_toArray, List.getElem?_cons_succ, List.getElem?_cons_zero] at q0; go_simp; try with_reducible rfl))
  try simp only [Act.put, sA, s0, s1]
  refine sy 16 21 rfl rfl ?_
  try simp only [Act.put, sA, s0, s1]
  refine sy 17 22 rfl rfl ?_
  try simp only [Act.put, sA, s0, s1]
  refine sy 18 23 rfl rfl ?_
  try simp only [Act.put, sA, s0, s1]
  refine sy 19 24 rfl rfl ?_
  try simp only [Act.put, sA, s0, s1]
  refine sy 20 25 rfl rfl ?_ (hy := by (intro w hSw; (try dsimp only at hSw); have q := (CE.out _ hSw).2; have q0 := cell_of q 2; simp only [List.getElem?_toArray, List.getElem?_cons_succ, List.getElem?_cons_zero] at q0; go_simp; try with_reducible rfl))
  try simp only [Act.put, sA, s0, s1]
  refine sy 21 26 rfl rfl ?_
  try simp only [Act.put, sA, s0, s1]
  refine sy 22 27 rfl rfl ?_
  try simp only [Act.put, sA, s0, s1]
  refine sy 23 28 rfl rfl ?_
  try simp only [Act.put, sA, s0, s1]
  refine sy 24 29 rfl rfl ?_
  try simp only [Act.put, sA, s0, s1]
  refine sy 25 30 rfl rfl ?_ (hy := by (intro w hSw; (try dsimp only at hSw); have q := (CE.out _ hSw).2; have q0 := cell_of q 2; simp only [List.getElem?_toArray, List.getElem?_cons_succ, List.getElem?_cons_zero] at q0; go_simp; try with_reducible rfl))
  try simp only [Act.put, sA, s0, s1]
  refine sy 26 31 rfl rfl ?_
  try simp only [Act.put, sA, s0, s1]
  refine sy 27 32 rfl rfl ?_
  try simp only [Act.put, sA, s0, s1]
  refine sy 28 33 rfl rfl ?_
  try simp only [Act.put, sA, s0, s1]
  refine sn 29 34 rfl rfl ?_
  try simp only [Act.put, sA, s0, s1]
  refine sn 30 35 rfl rfl ?_
  try simp only [Act.put, sA, s0, s1]
  refine sn 31 36 rfl rfl ?_
  try simp only [Act.put, sA, s0, s1]
  refine sy 32 37 rfl rfl ?_
  try simp only [Act.put, sA, s0, s1]
  refine sy 33 38 rfl rfl ?_
  try simp only [Act.put, sA, s0, s1]
  refine sn 34 39 rfl rfl ?_
  try simp only [Act.put, sA, s0, s1]
  refine sn 35 40 rfl rfl ?_
  try simp only [Act.put, sA, s0, s1]
  refine sn 36 41 rfl rfl ?_
  try simp only [Act.put, sA, s0, s1]
  refine sn 37 42 rfl rfl ?_
  try simp only [Act.put, sA, s0, s1]
  refine sy 38 43 rfl rfl ?_
  try simp only [Act.put, sA, s0, s1]
  refine sy 39 4 rfl rfl ?_
  try simp only [Act.put, sA, s0, s1]
  refine wpAnyH_done (by kernel_rfl) ?_ _
  go_wp2
  go_ret
  exact ⟨rfl, CW.out⟩

set_option maxHeartbeats 4000000 in
theorem seminds_Z5 (w : World) (b : Nat) (s : SQ) (h : QH w b s) (f t m a : Int) (A : Option Addr) (n c : Nat) (hpz : s.peer = 0) (hn : n ≤ 140737488351232) (h0 : 1 ≤ f) (h1 : f ≤ 1099511627776) (h2 : 0 ≤ t) (h3 : 0 ≤ m) (h4 : m ≤ 1099511627776) (h5 : ¬ 0 ≤ a) : Calls Try.prog 47 #[.pointer (some ⟨b, 0, none⟩), .agg #[.int .i64 f, .int .i64 t, .int .i64 m, .int .i64 a, .slice A n c]] w fun e w' => e = .returned (.bool false) ∧ Chg [] w w' := by
  have d0 : decide (1 ≤ f) = true := decide_eq_true h0
  have d1 : decide (f ≤ 1099511627776) = true := decide_eq_true h1
  have d2 : decide (0 ≤ t) = true := decide_eq_true h2
  have d3 : decide (0 ≤ m) = true := decide_eq_true h3
  have d4 : decide (m ≤ 1099511627776) = true := decide_eq_true h4
  have d5 : decide (0 ≤ a) = false := decide_eq_false h5
  obtain ⟨w1, hw1, c1, b1⟩ := news1 w (.cells #[.int .i64 f, .int .i64 t, .int .i64 m, .int .i64 a, .slice A n c] 35)
  have W1 := Lib.hid hw1
  have C1 := Lib.hid c1
  have CE : Hid (∀ w', Chg [] w1 w' → w'.cell? ⟨b, 2, none⟩ = some (.int .i64 0) ∧ w'.heap[w.heap.size]? = some (.cells #[.int .i64 f, .int .i64 t, .int .i64 m, .int .i64 a, .slice A n c] 35 (0, 0))) := Lib.hid (fun w' hc => ⟨by have := (h.chg (c1.trans hc) (by simp)).get.2.2.1; rwa [hpz] at this, hc.at_ b1 (by simp)⟩)
  clear hw1 c1 b1 h hpz
  go_enter Try.func47, Try.ntmps47
  go_upto_region 1 with fail
  rw [← W1.out]
  generalize w.heap.size = g at *
  refine wp_region_held_drew (S := fun w' => Chg [] w1 w') (by kernel_rfl) (Chg.refl [] w1).drew (fun hHeld => ?_)
  have CW := Lib.hid (C1.out.trans (Chg.refl [] w1).drew)
  clear W1 C1
  generalize w1.drew = wd at *
  refine sy 0 5 rfl rfl ?_
  try simp only [Act.put, sA, s0, s1]
  refine sy 1 6 rfl rfl ?_ (hy := by (intro w hSw; (try dsimp only at hSw); have q := (CE.out _ hSw).2; have q0 := cell_of q 0; simp only [List.getElem?_toArray, List.getElem?_cons_succ, List.getElem?_cons_zero] at q0; go_simp; try with_reducible rfl))
  try simp only [Act.put, sA, s0, s1]
  refine sy 2 7 rfl rfl ?_
  try simp only [Act.put, sA, s0, s1]
  refine sy 3 8 rfl rfl ?_
  try simp only [Act.put, sA, s0, s1]
  refine sy 4 9 rfl rfl ?_
  try simp only [Act.put, sA, s0, s1]
  refine sy 5 10 rfl rfl ?_ (hy := by (intro w hSw; (try dsimp only at hSw); have q := (CE.out _ hSw).1; go_simp; try with_reducible rfl))
  try simp only [Act.put, sA, s0, s1]
  refine sy 6 11 rfl rfl ?_
  try simp only [Act.put, sA, s0, s1]
  refine sy 7 12 rfl rfl ?_
  try simp only [Act.put, sA, s0, s1]
  refine sy 8 13 rfl rfl ?_
  try simp only [Act.put, sA, s0, s1]
  refine sy 9 14 rfl rfl ?_
  try simp only [Act.put, sA, s0, s1]
  refine sy 10 15 rfl rfl ?_ (hy := by (intro w hSw; (try dsimp only at hSw); have q := (CE.out _ hSw).2; have q0 := cell_of q 0; simp only [List.getElem?_toArray, List.getElem?_cons_succ, List.getElem?_cons_zero] at q0; go_simp; try with_reducible rfl))
  try simp only [Act.put, sA, s0, s1]
  refine sy 11 16 rfl rfl ?_
  try simp only [Act.put, sA, s0, s1]
  refine sy 12 17 rfl rfl ?_
  try simp only [Act.put, sA, s0, s1]
  refine sy 13 18 rfl rfl ?_
  try simp only [Act.put, sA, s0, s1]
  refine sy 14 19 rfl rfl ?_
  try simp only [Act.put, sA, s0, s1]
  refine sy 15 20 rfl rfl ?_ (hy := by (intro w hSw; (try dsimp only at hSw); have q := (CE.out _ hSw).2; have q0 := cell_of q 1; simp only [List.getElem?_toArray, List.getElem?_cons_succ, List.getElem?_cons_zero] at q0; go_simp; try with_reducible rfl))
  try simp only [Act.put, sA, s0, s1]
  refine sy 16 21 rfl rfl ?_
  try simp only [Act.put, sA, s0, s1]
  refine sy 17 22 rfl rfl ?_
  try simp only [Act.put, sA, s0, s1]
  refine sy 18 23 rfl rfl ?_
  try simp only [Act.put, sA, s0, s1]
  refine sy 19 24 rfl rfl ?_
  try simp only [Act.put, sA, s0, s1]
  refine sy 20 25 rfl rfl ?_ (hy := by (intro w hSw; (try dsimp only at hSw); have q := (CE.out _ hSw).2; have q0 := cell_of q 2; simp only [List.getElem?_toArray, List.getElem?_cons_succ, List.getElem?_cons_zero] at q0; go_simp; try with_reducible rfl))
  try simp only [Act.put, sA, s0, s1]
  refine sy 21 26 rfl rfl ?_
  try simp only [Act.put, sA, s0, s1]
  refine sy 22 27 rfl rfl ?_
  try simp only [Act.put, sA, s0, s1]
  refine sy 23 28 rfl rfl ?_
  try simp only [Act.put, sA, s0, s1]
  refine sy 24 29 rfl rfl ?_
  try simp only [Act.put, sA, s0, s1]
  refine sy 25 30 rfl rfl ?_ (hy := by (intro w hSw; (try dsimp only at hSw); have q := (CE.out _ hSw).2; have q0 := cell_of q 2; simp only [List.getElem?_toArray, List.getElem?_cons_succ, List.getElem?_cons_zero] at q0; go_simp; try with_reducible rfl))
  try simp only [Act.put, sA, s0, s1]
  refine sy 26 31 rfl rfl ?_
  try simp only [Act.put, sA, s0, s1]
  refine sy 27 32 rfl rfl ?_
  try simp only [Act.put, sA, s0, s1]
  refine sy 28 33 rfl rfl ?_
  try simp only [Act.put, sA, s0, s1]
  refine sy 29 34 rfl rfl ?_
  try simp only [Act.put, sA, s0, s1]
  refine sy 30 35 rfl rfl ?_ (hy := by (intro w hSw; (try dsimp only at hSw); have q := (CE.out _ hSw).2; have q0 := cell_of q 3; simp only [List.getElem?_toArray, List.getElem?_cons_succ, List.getElem?_cons_zero] at q0; go_simp; try with_reducible rfl))
  try simp only [Act.put, sA, s0, s1]
  refine sy 31 36 rfl rfl ?_
  try simp only [Act.put, sA, s0, s1]
  refine sy 32 37 rfl rfl ?_
  try simp only [Act.put, sA, s0, s1]
  refine sy 33 38 rfl rfl ?_
  try simp only [Act.put, sA, s0, s1]
  refine sn 34 39 rfl rfl ?_
  try simp only [Act.put, sA, s0, s1]
  refine sn 35 40 rfl rfl ?_
  try simp only [Act.put, sA, s0, s1]
  refine sn 36 41 rfl rfl ?_
  try simp only [Act.put, sA, s0, s1]
  refine sn 37 42 rfl rfl ?_
  try simp only [Act.put, sA, s0, s1]
  refine sy 38 43 rfl rfl ?_
  try simp only [Act.put, sA, s0, s1]
  refine sy 39 4 rfl rfl ?_
  try simp only [Act.put, sA, s0, s1]
  refine wpAnyH_done (by kernel_rfl) ?_ _
  go_wp2
  go_ret
  exact ⟨rfl, CW.out⟩
end
section
open Go.RowKit Go.Lib
set_option linter.unusedSimpArgs false
set_option linter.unusedVariables false


set_option maxHeartbeats 4000000 in
theorem seminds_Z6 (w : World) (b : Nat) (s : SQ) (h : QH w b s) (f t m a : Int) (A : Option Addr) (n c : Nat) (hpz : s.peer = 0) (hn : n ≤ 140737488351232) (h0 : 1 ≤ f) (h1 : f ≤ 1099511627776) (h2 : 0 ≤ t) (h3 : 0 ≤ m) (h4 : m ≤ 1099511627776) (h5 : 0 ≤ a) (h6 : ¬ (n : Int) ≤ 400) : Calls Try.prog 47 #[.pointer (some ⟨b, 0, none⟩), .agg #[.int .i64 f, .int .i64 t, .int .i64 m, .int .i64 a, .slice A n c]] w fun e w' => e = .returned (.bool false) ∧ Chg [] w w' := by
  have d0 : decide (1 ≤ f) = true := decide_eq_true h0
  have d1 : decide (f ≤ 1099511627776) = true := decide_eq_true h1
  have d2 : decide (0 ≤ t) = true := decide_eq_true h2
  have d3 : decide (0 ≤ m) = true := decide_eq_true h3
  have d4 : decide (m ≤ 1099511627776) = true := decide_eq_true h4
  have d5 : decide (0 ≤ a) = true := decide_eq_true h5
  have d6 : decide ((n : Int) ≤ 400) = false := decide_eq_false h6
  obtain ⟨w1, hw1, c1, b1⟩ := news1 w (.cells #[.int .i64 f, .int .i64 t, .int .i64 m, .int .i64 a, .slice A n c] 35)
  have W1 := Lib.hid hw1
  have C1 := Lib.hid c1
  have CE : Hid (∀ w', Chg [] w1 w' → w'.cell? ⟨b, 2, none⟩ = some (.int .i64 0) ∧ w'.heap[w.heap.size]? = some (.cells #[.int .i64 f, .int .i64 t, .int .i64 m, .int .i64 a, .slice A n c] 35 (0, 0))) := Lib.hid (fun w' hc => ⟨by have := (h.chg (c1.trans hc) (by simp)).get.2.2.1; rwa [hpz] at this, hc.at_ b1 (by simp)⟩)
  clear hw1 c1 b1 h hpz
  go_enter Try.func47, Try.ntmps47
  go_upto_region 1 with fail
  rw [← W1.out]
  generalize w.heap.size = g at *
  refine wp_region_held_drew (S := fun w' => Chg [] w1 w') (by kernel_rfl) (Chg.refl [] w1).drew (fun hHeld => ?_)
  have CW := Lib.hid (C1.out.trans (Chg.refl [] w1).drew)
  clear W1 C1
  generalize w1.drew = wd at *
  refine sy 0 5 rfl rfl ?_
  try simp only [Act.put, sA, s0, s1]
  refine sy 1 6 rfl rfl ?_ (hy := by (intro w hSw; (try dsimp only at hSw); have q := (CE.out _ hSw).2; have q0 := cell_of q 0; simp only [List.getElem?_toArray, List.getElem?_cons_succ, List.getElem?_cons_zero] at q0; go_simp; try with_reducible rfl))
  try simp only [Act.put, sA, s0, s1]
  refine sy 2 7 rfl rfl ?_
  try simp only [Act.put, sA, s0, s1]
  refine sy 3 8 rfl rfl ?_
  try simp only [Act.put, sA, s0, s1]
  refine sy 4 9 rfl rfl ?_
  try simp only [Act.put, sA, s0, s1]
  refine sy 5 10 rfl rfl ?_ (hy := by (intro w hSw; (try dsimp only at hSw); have q := (CE.out _ hSw).1; go_simp; try with_reducible rfl))
  try simp only [Act.put, sA, s0, s1]
  refine sy 6 11 rfl rfl ?_
  try simp only [Act.put, sA, s0, s1]
  refine sy 7 12 rfl rfl ?_
  try simp only [Act.put, sA, s0, s1]
  refine sy 8 13 rfl rfl ?_
  try simp only [Act.put, sA, s0, s1]
  refine sy 9 14 rfl rfl ?_
  try simp only [Act.put, sA, s0, s1]
  refine sy 10 15 rfl rfl ?_ (hy := by (intro w hSw; (try dsimp only at hSw); have q := (CE.out _ hSw).2; have q0 := cell_of q 0; simp only [List.getElem?_toArray, List.getElem?_cons_succ, List.getElem?_cons_zero] at q0; go_simp; try with_reducible rfl))
  try simp only [Act.put, sA, s0, s1]
  refine sy 11 16 rfl rfl ?_
  try simp only [Act.put, sA, s0, s1]
  refine sy 12 17 rfl rfl ?_
  try simp only [Act.put, sA, s0, s1]
  refine sy 13 18 rfl rfl ?_
  try simp only [Act.put, sA, s0, s1]
  refine sy 14 19 rfl rfl ?_
  try simp only [Act.put, sA, s0, s1]
  refine sy 15 20 rfl rfl ?_ (hy := by (intro w hSw; (try dsimp only at hSw); have q := (CE.out _ hSw).2; have q0 := cell_of q 1; simp only [List.getElem?_toArray, List.getElem?_cons_succ, List.getElem?_cons_zero] at q0; go_simp; try with_reducible rfl))
  try simp only [Act.put, sA, s0, s1]
  refine sy 16 21 rfl rfl ?_
  try simp only [Act.put, sA, s0, s1]
  refine sy 17 22 rfl rfl ?_
  try simp only [Act.put, sA, s0, s1]
  refine sy 18 23 rfl rfl ?_
  try simp only [Act.put, sA, s0, s1]
  refine sy 19 24 rfl rfl ?_
  try simp only [Act.put, sA, s0, s1]
  refine sy 20 25 rfl rfl ?_ (hy := by (intro w hSw; (try dsimp only at hSw); have q := (CE.out _ hSw).2; have q0 := cell_of q 2; simp only [List.getElem?_toArray, List.getElem?_cons_succ, List.getElem?_cons_zero] at q0; go_simp; try with_reducible rfl))
  try simp only [Act.put, sA, s0, s1]
  refine sy 21 26 rfl rfl ?_
  try simp only [Act.put, sA, s0, s1]
  refine sy 22 27 rfl rfl ?_
  try simp only [Act.put, sA, s0, s1]
  refine sy 23 28 rfl rfl ?_
  try simp only [Act.put, sA, s0, s1]
  refine sy 24 29 rfl rfl ?_
  try simp only [Act.put, sA, s0, s1]
  refine sy 25 30 rfl rfl ?_ (hy := by (intro w hSw; (try dsimp only at hSw); have q := (CE.out _ hSw).2; have q0 := cell_of q 2; simp only [List.getElem?_toArray, List.getElem?_cons_succ, List.getElem?_cons_zero] at q0; go_simp; try with_reducible rfl))
  try simp only [Act.put, sA, s0, s1]
  refine sy 26 31 rfl rfl ?_
  try simp only [Act.put, sA, s0, s1]
  refine sy 27 32 rfl rfl ?_
  try simp only [Act.put, sA, s0, s1]
  refine sy 28 33 rfl rfl ?_
  try simp only [Act.put, sA, s0, s1]
  refine sy 29 34 rfl rfl ?_
  try simp only [Act.put, sA, s0, s1]
  refine sy 30 35 rfl rfl ?_ (hy := by (intro w hSw; (try dsimp only at hSw); have q := (CE.out _ hSw).2; have q0 := cell_of q 3; simp only [List.getElem?_toArray, List.getElem?_cons_succ, List.getElem?_cons_zero] at q0; go_simp; try with_reducible rfl))
  try simp only [Act.put, sA, s0, s1]
  refine sy 31 36 rfl rfl ?_
  try simp only [Act.put, sA, s0, s1]
  refine sy 32 37 rfl rfl ?_
  try simp only [Act.put, sA, s0, s1]
  refine sy 33 38 rfl rfl ?_
  try simp only [Act.put, sA, s0, s1]
  refine sy 34 39 rfl rfl ?_
  try simp only [Act.put, sA, s0, s1]
  refine sy 35 40 rfl rfl ?_ (hy := by (intro w hSw; (try dsimp only at hSw); have q := (CE.out _ hSw).2; have q0 := cell_of q 4; simp only [List.getElem?_toArray, List.getElem?_cons_succ, List.getElem?_cons_zero] at q0; go_simp; try with_reducible rfl))
  try simp only [Act.put, sA, s0, s1]
  refine sy 36 41 rfl rfl ?_
  try simp only [Act.put, sA, s0, s1]
  refine sy 37 42 rfl rfl ?_
  try simp only [Act.put, sA, s0, s1]
  refine sy 38 43 rfl rfl ?_
  try simp only [Act.put, sA, s0, s1]
  refine sy 39 4 rfl rfl ?_
  try simp only [Act.put, sA, s0, s1]
  refine wpAnyH_done (by kernel_rfl) ?_ _
  go_wp2
  go_ret
  exact ⟨rfl, CW.out⟩

set_option maxHeartbeats 4000000 in
theorem seminds_Z7 (w : World) (b : Nat) (s : SQ) (h : QH w b s) (f t m a : Int) (A : Option Addr) (n c : Nat) (hpz : s.peer = 0) (hn : n ≤ 140737488351232) (h0 : 1 ≤ f) (h1 : f ≤ 1099511627776) (h2 : 0 ≤ t) (h3 : 0 ≤ m) (h4 : m ≤ 1099511627776) (h5 : 0 ≤ a) (h6 : (n : Int) ≤ 400) : Calls Try.prog 47 #[.pointer (some ⟨b, 0, none⟩), .agg #[.int .i64 f, .int .i64 t, .int .i64 m, .int .i64 a, .slice A n c]] w fun e w' => e = .returned (.bool true) ∧ Chg [] w w' := by
  have d0 : decide (1 ≤ f) = true := decide_eq_true h0
  have d1 : decide (f ≤ 1099511627776) = true := decide_eq_true h1
  have d2 : decide (0 ≤ t) = true := decide_eq_true h2
  have d3 : decide (0 ≤ m) = true := decide_eq_true h3
  have d4 : decide (m ≤ 1099511627776) = true := decide_eq_true h4
  have d5 : decide (0 ≤ a) = true := decide_eq_true h5
  have d6 : decide ((n : Int) ≤ 400) = true := decide_eq_true h6
  obtain ⟨w1, hw1, c1, b1⟩ := news1 w (.cells #[.int .i64 f, .int .i64 t, .int .i64 m, .int .i64 a, .slice A n c] 35)
  have W1 := Lib.hid hw1
  have C1 := Lib.hid c1
  have CE : Hid (∀ w', Chg [] w1 w' → w'.cell? ⟨b, 2, none⟩ = some (.int .i64 0) ∧ w'.heap[w.heap.size]? = some (.cells #[.int .i64 f, .int .i64 t, .int .i64 m, .int .i64 a, .slice A n c] 35 (0, 0))) := Lib.hid (fun w' hc => ⟨by have := (h.chg (c1.trans hc) (by simp)).get.2.2.1; rwa [hpz] at this, hc.at_ b1 (by simp)⟩)
  clear hw1 c1 b1 h hpz
  go_enter Try.func47, Try.ntmps47
  go_upto_region 1 with fail
  rw [← W1.out]
  generalize w.heap.size = g at *
  refine wp_region_held_drew (S := fun w' => Chg [] w1 w') (by kernel_rfl) (Chg.refl [] w1).drew (fun hHeld => ?_)
  have CW := Lib.hid (C1.out.trans (Chg.refl [] w1).drew)
  clear W1 C1
  generalize w1.drew = wd at *
  refine sy 0 5 rfl rfl ?_
  try simp only [Act.put, sA, s0, s1]
  refine sy 1 6 rfl rfl ?_ (hy := by (intro w hSw; (try dsimp only at hSw); have q := (CE.out _ hSw).2; have q0 := cell_of q 0; simp only [List.getElem?_toArray, List.getElem?_cons_succ, List.getElem?_cons_zero] at q0; go_simp; try with_reducible rfl))
  try simp only [Act.put, sA, s0, s1]
  refine sy 2 7 rfl rfl ?_
  try simp only [Act.put, sA, s0, s1]
  refine sy 3 8 rfl rfl ?_
  try simp only [Act.put, sA, s0, s1]
  refine sy 4 9 rfl rfl ?_
  try simp only [Act.put, sA, s0, s1]
  refine sy 5 10 rfl rfl ?_ (hy := by (intro w hSw; (try dsimp only at hSw); have q := (CE.out _ hSw).1; go_simp; try with_reducible rfl))
  try simp only [Act.put, sA, s0, s1]
  refine sy 6 11 rfl rfl ?_
  try simp only [Act.put, sA, s0, s1]
  refine sy 7 12 rfl rfl ?_
  try simp only [Act.put, sA, s0, s1]
  refine sy 8 13 rfl rfl ?_
  try simp only [Act.put, sA, s0, s1]
  refine sy 9 14 rfl rfl ?_
  try simp only [Act.put, sA, s0, s1]
  refine sy 10 15 rfl rfl ?_ (hy := by (intro w hSw; (try dsimp only at hSw); have q := (CE.out _ hSw).2; have q0 := cell_of q 0; simp only [List.getElem?_toArray, List.getElem?_cons_succ, List.getElem?_cons_zero] at q0; go_simp; try with_reducible rfl))
  try simp only [Act.put, sA, s0, s1]
  refine sy 11 16 rfl rfl ?_
  try simp only [Act.put, sA, s0, s1]
  refine sy 12 17 rfl rfl ?_
  try simp only [Act.put, sA, s0, s1]
  refine sy 13 18 rfl rfl ?_
  try simp only [Act.put, sA, s0, s1]
  refine sy 14 19 rfl rfl ?_
  try simp only [Act.put, sA, s0, s1]
  refine sy 15 20 rfl rfl ?_ (hy := by (intro w hSw; (try dsimp only at hSw); have q := (CE.out _ hSw).2; have q0 := cell_of q 1; simp only [List.getElem?_toArray, List.getElem?_cons_succ, List.getElem?_cons_zero] at q0; go_simp; try with_reducible rfl))
  try simp only [Act.put, sA, s0, s1]
  refine sy 16 21 rfl rfl ?_
  try simp only [Act.put, sA, s0, s1]
  refine sy 17 22 rfl rfl ?_
  try simp only [Act.put, sA, s0, s1]
  refine sy 18 23 rfl rfl ?_
  try simp only [Act.put, sA, s0, s1]
  refine sy 19 24 rfl rfl ?_
  try simp only [Act.put, sA, s0, s1]
  refine sy 20 25 rfl rfl ?_ (hy := by (intro w hSw; (try dsimp only at hSw); have q := (CE.out _ hSw).2; have q0 := cell_of q 2; simp only [List.getElem?_toArray, List.getElem?_cons_succ, List.getElem?_cons_zero] at q0; go_simp; try with_reducible rfl))
  try simp only [Act.put, sA, s0, s1]
  refine sy 21 26 rfl rfl ?_
  try simp only [Act.put, sA, s0, s1]
  refine sy 22 27 rfl rfl ?_
  try simp only [Act.put, sA, s0, s1]
  refine sy 23 28 rfl rfl ?_
  try simp only [Act.put, sA, s0, s1]
  refine sy 24 29 rfl rfl ?_
  try simp only [Act.put, sA, s0, s1]
  refine sy 25 30 rfl rfl ?_ (hy := by (intro w hSw; (try dsimp only at hSw); have q := (CE.out _ hSw).2; have q0 := cell_of q 2; simp only [List.getElem?_toArray, List.getElem?_cons_succ, List.getElem?_cons_zero] at q0; go_simp; try with_reducible rfl))
  try simp only [Act.put, sA, s0, s1]
  refine sy 26 31 rfl rfl ?_
  try simp only [Act.put, sA, s0, s1]
  refine sy 27 32 rfl rfl ?_
  try simp only [Act.put, sA, s0, s1]
  refine sy 28 33 rfl rfl ?_
  try simp only [Act.put, sA, s0, s1]
  refine sy 29 34 rfl rfl ?_
  try simp only [Act.put, sA, s0, s1]
  refine sy 30 35 rfl rfl ?_ (hy := by (intro w hSw; (try dsimp only at hSw); have q := (CE.out _ hSw).2; have q0 := cell_of q 3; simp only [List.getElem?_toArray, List.getElem?_cons_succ, List.getElem?_cons_zero] at q0; go_simp; try with_reducible rfl))
  try simp only [Act.put, sA, s0, s1]
  refine sy 31 36 rfl rfl ?_
  try simp only [Act.put, sA, s0, s1]
  refine sy 32 37 rfl rfl ?_
  try simp only [Act.put, sA, s0, s1]
  refine sy 33 38 rfl rfl ?_
  try simp only [Act.put, sA, s0, s1]
  refine sy 34 39 rfl rfl ?_
  try simp only [Act.put, sA, s0, s1]
  refine sy 35 40 rfl rfl ?_ (hy := by (intro w hSw; (try dsimp only at hSw); have q := (CE.out _ hSw).2; have q0 := cell_of q 4; simp only [List.getElem?_toArray, List.getElem?_cons_succ, List.getElem?_cons_zero] at q0; go_simp; try with_reducible rfl))
  try simp only [Act.put, sA, s0, s1]
  refine sy 36 41 rfl rfl ?_
  try simp only [Act.put, sA, s0, s1]
  refine sy 37 42 rfl rfl ?_
  try simp only [Act.put, sA, s0, s1]
  refine sy 38 43 rfl rfl ?_
  try simp only [Act.put, sA, s0, s1]
  refine sy 39 4 rfl rfl ?_
  try simp only [Act.put, sA, s0, s1]
  refine wpAnyH_done (by kernel_rfl) ?_ _
  go_wp2
  go_ret
  exact ⟨rfl, CW.out⟩
end
section
open Go.RowKit Go.Lib
set_option linter.unusedSimpArgs false
set_option linter.unusedVariables false


def MindsQ (peer f t m a : Int) (n : Nat) : Prop := peer ≤ f ∧ 1 ≤ f ∧ f ≤ 1099511627776 ∧ 0 ≤ t ∧ 0 ≤ m ∧ m ≤ 1099511627776 ∧ 0 ≤ a ∧ n ≤ 400
instance (peer f t m a : Int) (n : Nat) : Decidable (MindsQ peer f t m a n) := by unfold MindsQ; exact inferInstance

theorem seminds_any (w : World) (b : Nat) (s : SQ) (h : QH w b s) (f t m a : Int) (A : Option Addr) (n c : Nat) (hn : n ≤ 140737488351232) (hp : 0 ≤ s.peer) : Calls Try.prog 47 #[.pointer (some ⟨b, 0, none⟩), .agg #[.int .i64 f, .int .i64 t, .int .i64 m, .int .i64 a, .slice A n c]] w fun e w' => e = .returned (.bool (decide (MindsQ s.peer f t m a n))) ∧ Chg [] w w' := by
  by_cases hpz : s.peer < 1
  · have hz : s.peer = 0 := by omega
    by_cases h0 : 1 ≤ f
    rotate_left
    · rw [decide_eq_false (show ¬ MindsQ s.peer f t m a n from fun q => h0 (by obtain ⟨q1, q2, q3, q4, q5, q6, q7, q8⟩ := q; omega))]
      exact seminds_Z0 w b s h f t m a A n c hz hn h0
    by_cases h1 : f ≤ 1099511627776
    rotate_left
    · rw [decide_eq_false (show ¬ MindsQ s.peer f t m a n from fun q => h1 (by obtain ⟨q1, q2, q3, q4, q5, q6, q7, q8⟩ := q; omega))]
      exact seminds_Z1 w b s h f t m a A n c hz hn h0 h1
    by_cases h2 : 0 ≤ t
    rotate_left
    · rw [decide_eq_false (show ¬ MindsQ s.peer f t m a n from fun q => h2 (by obtain ⟨q1, q2, q3, q4, q5, q6, q7, q8⟩ := q; omega))]
      exact seminds_Z2 w b s h f t m a A n c hz hn h0 h1 h2
    by_cases h3 : 0 ≤ m
    rotate_left
    · rw [decide_eq_false (show ¬ MindsQ s.peer f t m a n from fun q => h3 (by obtain ⟨q1, q2, q3, q4, q5, q6, q7, q8⟩ := q; omega))]
      exact seminds_Z3 w b s h f t m a A n c hz hn h0 h1 h2 h3
    by_cases h4 : m ≤ 1099511627776
    rotate_left
    · rw [decide_eq_false (show ¬ MindsQ s.peer f t m a n from fun q => h4 (by obtain ⟨q1, q2, q3, q4, q5, q6, q7, q8⟩ := q; omega))]
      exact seminds_Z4 w b s h f t m a A n c hz hn h0 h1 h2 h3 h4
    by_cases h5 : 0 ≤ a
    rotate_left
    · rw [decide_eq_false (show ¬ MindsQ s.peer f t m a n from fun q => h5 (by obtain ⟨q1, q2, q3, q4, q5, q6, q7, q8⟩ := q; omega))]
      exact seminds_Z5 w b s h f t m a A n c hz hn h0 h1 h2 h3 h4 h5
    by_cases h6 : (n : Int) ≤ 400
    rotate_left
    · rw [decide_eq_false (show ¬ MindsQ s.peer f t m a n from fun q => h6 (by obtain ⟨q1, q2, q3, q4, q5, q6, q7, q8⟩ := q; omega))]
      exact seminds_Z6 w b s h f t m a A n c hz hn h0 h1 h2 h3 h4 h5 h6
    rw [decide_eq_true (show MindsQ s.peer f t m a n from ⟨by omega, by omega, h1, h2, h3, h4, h5, by omega⟩)]
    exact seminds_Z7 w b s h f t m a A n c hz hn h0 h1 h2 h3 h4 h5 h6
  · skip
    by_cases h0 : s.peer ≤ f
    rotate_left
    · rw [decide_eq_false (show ¬ MindsQ s.peer f t m a n from fun q => h0 (by obtain ⟨q1, q2, q3, q4, q5, q6, q7, q8⟩ := q; omega))]
      exact seminds_P0 w b s h f t m a A n c hpz hn h0
    by_cases h1 : f ≤ 1099511627776
    rotate_left
    · rw [decide_eq_false (show ¬ MindsQ s.peer f t m a n from fun q => h1 (by obtain ⟨q1, q2, q3, q4, q5, q6, q7, q8⟩ := q; omega))]
      exact seminds_P1 w b s h f t m a A n c hpz hn h0 h1
    by_cases h2 : 0 ≤ t
    rotate_left
    · rw [decide_eq_false (show ¬ MindsQ s.peer f t m a n from fun q => h2 (by obtain ⟨q1, q2, q3, q4, q5, q6, q7, q8⟩ := q; omega))]
      exact seminds_P2 w b s h f t m a A n c hpz hn h0 h1 h2
    by_cases h3 : 0 ≤ m
    rotate_left
    · rw [decide_eq_false (show ¬ MindsQ s.peer f t m a n from fun q => h3 (by obtain ⟨q1, q2, q3, q4, q5, q6, q7, q8⟩ := q; omega))]
      exact seminds_P3 w b s h f t m a A n c hpz hn h0 h1 h2 h3
    by_cases h4 : m ≤ 1099511627776
    rotate_left
    · rw [decide_eq_false (show ¬ MindsQ s.peer f t m a n from fun q => h4 (by obtain ⟨q1, q2, q3, q4, q5, q6, q7, q8⟩ := q; omega))]
      exact seminds_P4 w b s h f t m a A n c hpz hn h0 h1 h2 h3 h4
    by_cases h5 : 0 ≤ a
    rotate_left
    · rw [decide_eq_false (show ¬ MindsQ s.peer f t m a n from fun q => h5 (by obtain ⟨q1, q2, q3, q4, q5, q6, q7, q8⟩ := q; omega))]
      exact seminds_P5 w b s h f t m a A n c hpz hn h0 h1 h2 h3 h4 h5
    by_cases h6 : (n : Int) ≤ 400
    rotate_left
    · rw [decide_eq_false (show ¬ MindsQ s.peer f t m a n from fun q => h6 (by obtain ⟨q1, q2, q3, q4, q5, q6, q7, q8⟩ := q; omega))]
      exact seminds_P6 w b s h f t m a A n c hpz hn h0 h1 h2 h3 h4 h5 h6
    rw [decide_eq_true (show MindsQ s.peer f t m a n from ⟨by omega, by omega, h1, h2, h3, h4, h5, by omega⟩)]
    exact seminds_P7 w b s h f t m a A n c hpz hn h0 h1 h2 h3 h4 h5 h6
end
end Go.Proofs.Ytmblalcigbghfaa
