/- The document's Receive: packets that say nothing. The document's Receive: a way. The document's Receive: a way. The document's Receive: a way. The document's Receive: a way. -/
import Derived.Test.YtmblalcigbghfaaSgi
namespace Go.Proofs.Ytmblalcigbghfaa
section
open Go.RowKit Go.Lib
set_option linter.unusedSimpArgs false
set_option linter.unusedVariables false


set_option maxHeartbeats 4000000 in
set_option maxRecDepth 100000 in
theorem drecv_no0 (w : World) (b : Nat) (d : DV) (h : DH w b d) (f t m a : Int) (B : Option Addr) (n e : Nat) (hn : n ≤ 140737488351232)  (h0 : f < 1) : Calls Try.prog 37 #[.pointer (some ⟨b, 0, none⟩), .agg #[.int .i64 f, .int .i64 t, .int .i64 m, .int .i64 a, .slice B n e]] w fun r w' => r = .returned (.tuple #[]) ∧ Chg [] w w' := by
  have d0 : decide (f < 1) = true := decide_eq_true h0
  obtain ⟨w1, hw1, c1, b1⟩ := news1 w (.cells #[.int .i64 f, .int .i64 t, .int .i64 m, .int .i64 a, .slice B n e] 35)
  have W1 := Lib.hid hw1
  have C1 := Lib.hid c1
  have B1 := Lib.hid b1
  have BL := Lib.hid h.lt
  have GL := Lib.hid (lt_of_heap b1)
  have H1 := Lib.hid (h.chg c1 (by simp))
  have HNN := Lib.hid hn
  have y0 := cell_of b1 0
  have y1 := cell_of b1 1
  have y2 := cell_of b1 2
  have y3 := cell_of b1 3
  have y4 := cell_of b1 4
  simp only [List.getElem?_toArray, List.getElem?_cons_succ, List.getElem?_cons_zero] at y0 y1 y2 y3 y4
  have z1 := H1.out.get.2.1
  clear hw1 c1 b1 h
  go_enter Try.func37, Try.ntmps37
  go_upto_region 1 with fail
  rw [← W1.out]
  have GG := Lib.hid (Nat.le_refl w.heap.size)
  generalize hg : w.heap.size = g at *
  go_quiet (fail)
  have hq := (Chg.refl [] w1).drewN nq
  generalize w1.drewN nq = w3 at *
  have H3 := Lib.hid (H1.out.chg hq (by simp))
  have B3 := Lib.hid (hq.at_ B1.out (by simp))
  have C3 := Lib.hid (C1.out.trans hq)
  clear hq W1 y0 y1 y2 y3 y4 z1 H1 B1 C1
  go_wp2
  refine bodyPost_ret (results_none rfl _ _ _) rfl ?_
  exact ⟨rfl, C3.out⟩

set_option maxHeartbeats 4000000 in
set_option maxRecDepth 100000 in
theorem drecv_no1 (w : World) (b : Nat) (d : DV) (h : DH w b d) (f t m a : Int) (B : Option Addr) (n e : Nat) (hn : n ≤ 140737488351232) (h0 : ¬ f < 1) (h1 : 1099511627776 < f) : Calls Try.prog 37 #[.pointer (some ⟨b, 0, none⟩), .agg #[.int .i64 f, .int .i64 t, .int .i64 m, .int .i64 a, .slice B n e]] w fun r w' => r = .returned (.tuple #[]) ∧ Chg [] w w' := by
  have d0 : decide (f < 1) = false := decide_eq_false h0
  have d1 : decide (1099511627776 < f) = true := decide_eq_true h1
  obtain ⟨w1, hw1, c1, b1⟩ := news1 w (.cells #[.int .i64 f, .int .i64 t, .int .i64 m, .int .i64 a, .slice B n e] 35)
  have W1 := Lib.hid hw1
  have C1 := Lib.hid c1
  have B1 := Lib.hid b1
  have BL := Lib.hid h.lt
  have GL := Lib.hid (lt_of_heap b1)
  have H1 := Lib.hid (h.chg c1 (by simp))
  have HNN := Lib.hid hn
  have y0 := cell_of b1 0
  have y1 := cell_of b1 1
  have y2 := cell_of b1 2
  have y3 := cell_of b1 3
  have y4 := cell_of b1 4
  simp only [List.getElem?_toArray, List.getElem?_cons_succ, List.getElem?_cons_zero] at y0 y1 y2 y3 y4
  have z1 := H1.out.get.2.1
  clear hw1 c1 b1 h
  go_enter Try.func37, Try.ntmps37
  go_upto_region 1 with fail
  rw [← W1.out]
  have GG := Lib.hid (Nat.le_refl w.heap.size)
  generalize hg : w.heap.size = g at *
  go_quiet (fail)
  have hq := (Chg.refl [] w1).drewN nq
  generalize w1.drewN nq = w3 at *
  have H3 := Lib.hid (H1.out.chg hq (by simp))
  have B3 := Lib.hid (hq.at_ B1.out (by simp))
  have C3 := Lib.hid (C1.out.trans hq)
  clear hq W1 y0 y1 y2 y3 y4 z1 H1 B1 C1
  go_wp2
  refine bodyPost_ret (results_none rfl _ _ _) rfl ?_
  exact ⟨rfl, C3.out⟩

set_option maxHeartbeats 4000000 in
set_option maxRecDepth 100000 in
theorem drecv_no2 (w : World) (b : Nat) (d : DV) (h : DH w b d) (f t m a : Int) (B : Option Addr) (n e : Nat) (hn : n ≤ 140737488351232) (h0 : ¬ f < 1) (h1 : ¬ 1099511627776 < f) (h2 : f < d.ot) : Calls Try.prog 37 #[.pointer (some ⟨b, 0, none⟩), .agg #[.int .i64 f, .int .i64 t, .int .i64 m, .int .i64 a, .slice B n e]] w fun r w' => r = .returned (.tuple #[]) ∧ Chg [] w w' := by
  have d0 : decide (f < 1) = false := decide_eq_false h0
  have d1 : decide (1099511627776 < f) = false := decide_eq_false h1
  have d2 : decide (f < d.ot) = true := decide_eq_true h2
  obtain ⟨w1, hw1, c1, b1⟩ := news1 w (.cells #[.int .i64 f, .int .i64 t, .int .i64 m, .int .i64 a, .slice B n e] 35)
  have W1 := Lib.hid hw1
  have C1 := Lib.hid c1
  have B1 := Lib.hid b1
  have BL := Lib.hid h.lt
  have GL := Lib.hid (lt_of_heap b1)
  have H1 := Lib.hid (h.chg c1 (by simp))
  have HNN := Lib.hid hn
  have y0 := cell_of b1 0
  have y1 := cell_of b1 1
  have y2 := cell_of b1 2
  have y3 := cell_of b1 3
  have y4 := cell_of b1 4
  simp only [List.getElem?_toArray, List.getElem?_cons_succ, List.getElem?_cons_zero] at y0 y1 y2 y3 y4
  have z1 := H1.out.get.2.1
  clear hw1 c1 b1 h
  go_enter Try.func37, Try.ntmps37
  go_upto_region 1 with fail
  rw [← W1.out]
  have GG := Lib.hid (Nat.le_refl w.heap.size)
  generalize hg : w.heap.size = g at *
  go_quiet (fail)
  have hq := (Chg.refl [] w1).drewN nq
  generalize w1.drewN nq = w3 at *
  have H3 := Lib.hid (H1.out.chg hq (by simp))
  have B3 := Lib.hid (hq.at_ B1.out (by simp))
  have C3 := Lib.hid (C1.out.trans hq)
  clear hq W1 y0 y1 y2 y3 y4 z1 H1 B1 C1
  go_wp2
  refine bodyPost_ret (results_none rfl _ _ _) rfl ?_
  exact ⟨rfl, C3.out⟩

set_option maxHeartbeats 4000000 in
set_option maxRecDepth 100000 in
theorem drecv_no3 (w : World) (b : Nat) (d : DV) (h : DH w b d) (f t m a : Int) (B : Option Addr) (n e : Nat) (hn : n ≤ 140737488351232) (h0 : ¬ f < 1) (h1 : ¬ 1099511627776 < f) (h2 : ¬ f < d.ot) (h3 : t < 0) : Calls Try.prog 37 #[.pointer (some ⟨b, 0, none⟩), .agg #[.int .i64 f, .int .i64 t, .int .i64 m, .int .i64 a, .slice B n e]] w fun r w' => r = .returned (.tuple #[]) ∧ Chg [] w w' := by
  have d0 : decide (f < 1) = false := decide_eq_false h0
  have d1 : decide (1099511627776 < f) = false := decide_eq_false h1
  have d2 : decide (f < d.ot) = false := decide_eq_false h2
  have d3 : decide (t < 0) = true := decide_eq_true h3
  obtain ⟨w1, hw1, c1, b1⟩ := news1 w (.cells #[.int .i64 f, .int .i64 t, .int .i64 m, .int .i64 a, .slice B n e] 35)
  have W1 := Lib.hid hw1
  have C1 := Lib.hid c1
  have B1 := Lib.hid b1
  have BL := Lib.hid h.lt
  have GL := Lib.hid (lt_of_heap b1)
  have H1 := Lib.hid (h.chg c1 (by simp))
  have HNN := Lib.hid hn
  have y0 := cell_of b1 0
  have y1 := cell_of b1 1
  have y2 := cell_of b1 2
  have y3 := cell_of b1 3
  have y4 := cell_of b1 4
  simp only [List.getElem?_toArray, List.getElem?_cons_succ, List.getElem?_cons_zero] at y0 y1 y2 y3 y4
  have z1 := H1.out.get.2.1
  clear hw1 c1 b1 h
  go_enter Try.func37, Try.ntmps37
  go_upto_region 1 with fail
  rw [← W1.out]
  have GG := Lib.hid (Nat.le_refl w.heap.size)
  generalize hg : w.heap.size = g at *
  go_quiet (fail)
  have hq := (Chg.refl [] w1).drewN nq
  generalize w1.drewN nq = w3 at *
  have H3 := Lib.hid (H1.out.chg hq (by simp))
  have B3 := Lib.hid (hq.at_ B1.out (by simp))
  have C3 := Lib.hid (C1.out.trans hq)
  clear hq W1 y0 y1 y2 y3 y4 z1 H1 B1 C1
  go_wp2
  refine bodyPost_ret (results_none rfl _ _ _) rfl ?_
  exact ⟨rfl, C3.out⟩

set_option maxHeartbeats 4000000 in
set_option maxRecDepth 100000 in
theorem drecv_no4 (w : World) (b : Nat) (d : DV) (h : DH w b d) (f t m a : Int) (B : Option Addr) (n e : Nat) (hn : n ≤ 140737488351232) (h0 : ¬ f < 1) (h1 : ¬ 1099511627776 < f) (h2 : ¬ f < d.ot) (h3 : ¬ t < 0) (h4 : m < 0) : Calls Try.prog 37 #[.pointer (some ⟨b, 0, none⟩), .agg #[.int .i64 f, .int .i64 t, .int .i64 m, .int .i64 a, .slice B n e]] w fun r w' => r = .returned (.tuple #[]) ∧ Chg [] w w' := by
  have d0 : decide (f < 1) = false := decide_eq_false h0
  have d1 : decide (1099511627776 < f) = false := decide_eq_false h1
  have d2 : decide (f < d.ot) = false := decide_eq_false h2
  have d3 : decide (t < 0) = false := decide_eq_false h3
  have d4 : decide (m < 0) = true := decide_eq_true h4
  obtain ⟨w1, hw1, c1, b1⟩ := news1 w (.cells #[.int .i64 f, .int .i64 t, .int .i64 m, .int .i64 a, .slice B n e] 35)
  have W1 := Lib.hid hw1
  have C1 := Lib.hid c1
  have B1 := Lib.hid b1
  have BL := Lib.hid h.lt
  have GL := Lib.hid (lt_of_heap b1)
  have H1 := Lib.hid (h.chg c1 (by simp))
  have HNN := Lib.hid hn
  have y0 := cell_of b1 0
  have y1 := cell_of b1 1
  have y2 := cell_of b1 2
  have y3 := cell_of b1 3
  have y4 := cell_of b1 4
  simp only [List.getElem?_toArray, List.getElem?_cons_succ, List.getElem?_cons_zero] at y0 y1 y2 y3 y4
  have z1 := H1.out.get.2.1
  clear hw1 c1 b1 h
  go_enter Try.func37, Try.ntmps37
  go_upto_region 1 with fail
  rw [← W1.out]
  have GG := Lib.hid (Nat.le_refl w.heap.size)
  generalize hg : w.heap.size = g at *
  go_quiet (fail)
  have hq := (Chg.refl [] w1).drewN nq
  generalize w1.drewN nq = w3 at *
  have H3 := Lib.hid (H1.out.chg hq (by simp))
  have B3 := Lib.hid (hq.at_ B1.out (by simp))
  have C3 := Lib.hid (C1.out.trans hq)
  clear hq W1 y0 y1 y2 y3 y4 z1 H1 B1 C1
  go_wp2
  refine bodyPost_ret (results_none rfl _ _ _) rfl ?_
  exact ⟨rfl, C3.out⟩

set_option maxHeartbeats 4000000 in
set_option maxRecDepth 100000 in
theorem drecv_no5 (w : World) (b : Nat) (d : DV) (h : DH w b d) (f t m a : Int) (B : Option Addr) (n e : Nat) (hn : n ≤ 140737488351232) (h0 : ¬ f < 1) (h1 : ¬ 1099511627776 < f) (h2 : ¬ f < d.ot) (h3 : ¬ t < 0) (h4 : ¬ m < 0) (h5 : 1099511627776 < m) : Calls Try.prog 37 #[.pointer (some ⟨b, 0, none⟩), .agg #[.int .i64 f, .int .i64 t, .int .i64 m, .int .i64 a, .slice B n e]] w fun r w' => r = .returned (.tuple #[]) ∧ Chg [] w w' := by
  have d0 : decide (f < 1) = false := decide_eq_false h0
  have d1 : decide (1099511627776 < f) = false := decide_eq_false h1
  have d2 : decide (f < d.ot) = false := decide_eq_false h2
  have d3 : decide (t < 0) = false := decide_eq_false h3
  have d4 : decide (m < 0) = false := decide_eq_false h4
  have d5 : decide (1099511627776 < m) = true := decide_eq_true h5
  obtain ⟨w1, hw1, c1, b1⟩ := news1 w (.cells #[.int .i64 f, .int .i64 t, .int .i64 m, .int .i64 a, .slice B n e] 35)
  have W1 := Lib.hid hw1
  have C1 := Lib.hid c1
  have B1 := Lib.hid b1
  have BL := Lib.hid h.lt
  have GL := Lib.hid (lt_of_heap b1)
  have H1 := Lib.hid (h.chg c1 (by simp))
  have HNN := Lib.hid hn
  have y0 := cell_of b1 0
  have y1 := cell_of b1 1
  have y2 := cell_of b1 2
  have y3 := cell_of b1 3
  have y4 := cell_of b1 4
  simp only [List.getElem?_toArray, List.getElem?_cons_succ, List.getElem?_cons_zero] at y0 y1 y2 y3 y4
  have z1 := H1.out.get.2.1
  clear hw1 c1 b1 h
  go_enter Try.func37, Try.ntmps37
  go_upto_region 1 with fail
  rw [← W1.out]
  have GG := Lib.hid (Nat.le_refl w.heap.size)
  generalize hg : w.heap.size = g at *
  go_quiet (fail)
  have hq := (Chg.refl [] w1).drewN nq
  generalize w1.drewN nq = w3 at *
  have H3 := Lib.hid (H1.out.chg hq (by simp))
  have B3 := Lib.hid (hq.at_ B1.out (by simp))
  have C3 := Lib.hid (C1.out.trans hq)
  clear hq W1 y0 y1 y2 y3 y4 z1 H1 B1 C1
  go_wp2
  refine bodyPost_ret (results_none rfl _ _ _) rfl ?_
  exact ⟨rfl, C3.out⟩

set_option maxHeartbeats 4000000 in
set_option maxRecDepth 100000 in
theorem drecv_no6 (w : World) (b : Nat) (d : DV) (h : DH w b d) (f t m a : Int) (B : Option Addr) (n e : Nat) (hn : n ≤ 140737488351232) (h0 : ¬ f < 1) (h1 : ¬ 1099511627776 < f) (h2 : ¬ f < d.ot) (h3 : ¬ t < 0) (h4 : ¬ m < 0) (h5 : ¬ 1099511627776 < m) (h6 : a < 0) : Calls Try.prog 37 #[.pointer (some ⟨b, 0, none⟩), .agg #[.int .i64 f, .int .i64 t, .int .i64 m, .int .i64 a, .slice B n e]] w fun r w' => r = .returned (.tuple #[]) ∧ Chg [] w w' := by
  have d0 : decide (f < 1) = false := decide_eq_false h0
  have d1 : decide (1099511627776 < f) = false := decide_eq_false h1
  have d2 : decide (f < d.ot) = false := decide_eq_false h2
  have d3 : decide (t < 0) = false := decide_eq_false h3
  have d4 : decide (m < 0) = false := decide_eq_false h4
  have d5 : decide (1099511627776 < m) = false := decide_eq_false h5
  have d6 : decide (a < 0) = true := decide_eq_true h6
  obtain ⟨w1, hw1, c1, b1⟩ := news1 w (.cells #[.int .i64 f, .int .i64 t, .int .i64 m, .int .i64 a, .slice B n e] 35)
  have W1 := Lib.hid hw1
  have C1 := Lib.hid c1
  have B1 := Lib.hid b1
  have BL := Lib.hid h.lt
  have GL := Lib.hid (lt_of_heap b1)
  have H1 := Lib.hid (h.chg c1 (by simp))
  have HNN := Lib.hid hn
  have y0 := cell_of b1 0
  have y1 := cell_of b1 1
  have y2 := cell_of b1 2
  have y3 := cell_of b1 3
  have y4 := cell_of b1 4
  simp only [List.getElem?_toArray, List.getElem?_cons_succ, List.getElem?_cons_zero] at y0 y1 y2 y3 y4
  have z1 := H1.out.get.2.1
  clear hw1 c1 b1 h
  go_enter Try.func37, Try.ntmps37
  go_upto_region 1 with fail
  rw [← W1.out]
  have GG := Lib.hid (Nat.le_refl w.heap.size)
  generalize hg : w.heap.size = g at *
  go_quiet (fail)
  have hq := (Chg.refl [] w1).drewN nq
  generalize w1.drewN nq = w3 at *
  have H3 := Lib.hid (H1.out.chg hq (by simp))
  have B3 := Lib.hid (hq.at_ B1.out (by simp))
  have C3 := Lib.hid (C1.out.trans hq)
  clear hq W1 y0 y1 y2 y3 y4 z1 H1 B1 C1
  go_wp2
  refine bodyPost_ret (results_none rfl _ _ _) rfl ?_
  exact ⟨rfl, C3.out⟩

set_option maxHeartbeats 4000000 in
set_option maxRecDepth 100000 in
theorem drecv_no7 (w : World) (b : Nat) (d : DV) (h : DH w b d) (f t m a : Int) (B : Option Addr) (n e : Nat) (hn : n ≤ 140737488351232) (h0 : ¬ f < 1) (h1 : ¬ 1099511627776 < f) (h2 : ¬ f < d.ot) (h3 : ¬ t < 0) (h4 : ¬ m < 0) (h5 : ¬ 1099511627776 < m) (h6 : ¬ a < 0) (h7 : (400 : Int) < (n : Int)) : Calls Try.prog 37 #[.pointer (some ⟨b, 0, none⟩), .agg #[.int .i64 f, .int .i64 t, .int .i64 m, .int .i64 a, .slice B n e]] w fun r w' => r = .returned (.tuple #[]) ∧ Chg [] w w' := by
  have d0 : decide (f < 1) = false := decide_eq_false h0
  have d1 : decide (1099511627776 < f) = false := decide_eq_false h1
  have d2 : decide (f < d.ot) = false := decide_eq_false h2
  have d3 : decide (t < 0) = false := decide_eq_false h3
  have d4 : decide (m < 0) = false := decide_eq_false h4
  have d5 : decide (1099511627776 < m) = false := decide_eq_false h5
  have d6 : decide (a < 0) = false := decide_eq_false h6
  have d7 : decide ((400 : Int) < (n : Int)) = true := decide_eq_true h7
  obtain ⟨w1, hw1, c1, b1⟩ := news1 w (.cells #[.int .i64 f, .int .i64 t, .int .i64 m, .int .i64 a, .slice B n e] 35)
  have W1 := Lib.hid hw1
  have C1 := Lib.hid c1
  have B1 := Lib.hid b1
  have BL := Lib.hid h.lt
  have GL := Lib.hid (lt_of_heap b1)
  have H1 := Lib.hid (h.chg c1 (by simp))
  have HNN := Lib.hid hn
  have y0 := cell_of b1 0
  have y1 := cell_of b1 1
  have y2 := cell_of b1 2
  have y3 := cell_of b1 3
  have y4 := cell_of b1 4
  simp only [List.getElem?_toArray, List.getElem?_cons_succ, List.getElem?_cons_zero] at y0 y1 y2 y3 y4
  have z1 := H1.out.get.2.1
  clear hw1 c1 b1 h
  go_enter Try.func37, Try.ntmps37
  go_upto_region 1 with fail
  rw [← W1.out]
  have GG := Lib.hid (Nat.le_refl w.heap.size)
  generalize hg : w.heap.size = g at *
  go_quiet (fail)
  have hq := (Chg.refl [] w1).drewN nq
  generalize w1.drewN nq = w3 at *
  have H3 := Lib.hid (H1.out.chg hq (by simp))
  have B3 := Lib.hid (hq.at_ B1.out (by simp))
  have C3 := Lib.hid (C1.out.trans hq)
  clear hq W1 y0 y1 y2 y3 y4 z1 H1 B1 C1
  go_wp2
  refine bodyPost_ret (results_none rfl _ _ _) rfl ?_
  exact ⟨rfl, C3.out⟩
end
section
open Go.RowKit Go.Lib
set_option linter.unusedSimpArgs false
set_option linter.unusedVariables false


set_option maxHeartbeats 8000000 in
set_option maxRecDepth 100000 in
theorem drecv_owet (w : World) (b : Nat) (d : DV) (h : DH w b d) (f t m a : Int) (B : Option Addr) (n e : Nat) (hn : n ≤ 140737488351232) (h0 : ¬ f < 1) (h1 : ¬ 1099511627776 < f) (h2 : ¬ f < d.ot) (h3 : ¬ t < 0) (h4 : ¬ m < 0) (h5 : ¬ 1099511627776 < m) (h6 : ¬ a < 0) (h7 : ¬ (400 : Int) < (n : Int)) (ht : 0 ≤ d.turned ∧ d.turned ≤ 4611686018427387904) (hpf :  d.ot < f) (hbs : ∀ s5, s5 = meetD d f → 1 ≤ s5.base ∧ s5.base ≤ 2000000 ∧ s5.n ≤ 8 ∧ s5.n ≤ s5.c) (hte : ¬ t = d.ep) : Calls Try.prog 37 #[.pointer (some ⟨b, 0, none⟩), .agg #[.int .i64 f, .int .i64 t, .int .i64 m, .int .i64 a, .slice B n e]] w fun r w' => r = .returned (.tuple #[]) ∧ DH w' b { meetD d f with owes := true } ∧ Chg [b] w w' := by
  have HPF := Lib.hid hpf
  have HBS := Lib.hid hbs
  have HTE := Lib.hid hte
  have HT := Lib.hid ht
  clear hpf hbs hte ht
  have d0 : decide (f < 1) = false := decide_eq_false h0
  have d1 : decide (1099511627776 < f) = false := decide_eq_false h1
  have d2 : decide (f < d.ot) = false := decide_eq_false h2
  have d3 : decide (t < 0) = false := decide_eq_false h3
  have d4 : decide (m < 0) = false := decide_eq_false h4
  have d5 : decide (1099511627776 < m) = false := decide_eq_false h5
  have d6 : decide (a < 0) = false := decide_eq_false h6
  have d7 : decide ((400 : Int) < (n : Int)) = false := decide_eq_false h7
  clear h0 h1 h2 h3 h4 h5 h6 h7
  obtain ⟨w1, hw1, c1, b1⟩ := news1 w (.cells #[.int .i64 f, .int .i64 t, .int .i64 m, .int .i64 a, .slice B n e] 35)
  have W1 := Lib.hid hw1
  have C1 := Lib.hid c1
  have B1 := Lib.hid b1
  have BL := Lib.hid h.lt
  have GL := Lib.hid (lt_of_heap b1)
  have H1 := Lib.hid (h.chg c1 (by simp))
  have HNN := Lib.hid hn
  have y0 := cell_of b1 0
  have y1 := cell_of b1 1
  have y2 := cell_of b1 2
  have y3 := cell_of b1 3
  have y4 := cell_of b1 4
  simp only [List.getElem?_toArray, List.getElem?_cons_succ, List.getElem?_cons_zero] at y0 y1 y2 y3 y4
  have z1 := H1.out.get.2.1
  clear hw1 c1 b1 h
  go_enter Try.func37, Try.ntmps37
  go_upto_region 1 with fail
  rw [← W1.out]
  have GG := Lib.hid (Nat.le_refl w.heap.size)
  generalize hg : w.heap.size = g at *
  go_quiet (fail)
  have hq := (Chg.refl [] w1).drewN nq
  generalize w1.drewN nq = w3 at *
  have H3 := Lib.hid (H1.out.chg hq (by simp))
  have B3 := Lib.hid (hq.at_ B1.out (by simp))
  have C3 := Lib.hid (C1.out.trans hq)
  clear hq W1 y0 y1 y2 y3 y4 z1 H1 B1 C1
  clear d0 d1 d2 d3 d4 d5 d6 d7
  replace C3 := Lib.hid (C3.out.mono (S' := [b]) (by simp))
  have hbg : g ≠ b := by have := BL.out; omega
  have HBG := Lib.hid hbg
  clear hbg
  have y0 := cell_of B3.out 0
  simp only [List.getElem?_toArray, List.getElem?_cons_succ, List.getElem?_cons_zero] at y0
  have z1 := H3.out.get.2.1
  have hdp : decide (d.ot < f) = true := decide_eq_true HPF.out
  go_upto_region 2 with fail
  go_quiet (fail)
  have hq := (Chg.refl [] w3).drewN nq
  generalize w3.drewN nq = w4 at *
  have H4 := Lib.hid (H3.out.chg hq (by simp))
  have B4 := Lib.hid (hq.at_ B3.out (by simp))
  have C4 := Lib.hid (C3.out.trans (hq.mono (S' := [b]) (by simp)))
  clear hq H3 B3 C3
  clear y0 z1 hdp
  have y0 := cell_of B4.out 0
  simp only [List.getElem?_toArray, List.getElem?_cons_succ, List.getElem?_cons_zero] at y0
  have z := H4.out.get
  obtain ⟨-, z1, z2, z3, z4, -, z6, z7⟩ := z
  have fr := fun j => H4.out.free j
  have i7 : IntKind.i64.wrap (d.turned + 1) = d.turned + 1 := IntWalk.i64_in _ (by have := HT.out; omega)
  have H5 : Hid (DH ((((((w4.setCell ⟨b, 1, none⟩ (.int .i64 f)).setCell ⟨b, 2, none⟩ (.slice none 0 0)).setCell ⟨b, 3, none⟩ (.int .i64 1)).setCell ⟨b, 4, none⟩ (.int .i64 0)).setCell ⟨b, 6, none⟩ (.bool true)).setCell ⟨b, 7, none⟩ (.int .i64 (d.turned + 1))) b (meetD d f)) := Lib.hid (by unfold meetD; rw [if_pos HPF.out]; exact ((((((H4.out.sOt f).sQ none 0 0).sBase 1).sCame 0).sOwes true).sTurned (d.turned + 1)))
  have c5 : Chg [b] w4 ((((((w4.setCell ⟨b, 1, none⟩ (.int .i64 f)).setCell ⟨b, 2, none⟩ (.slice none 0 0)).setCell ⟨b, 3, none⟩ (.int .i64 1)).setCell ⟨b, 4, none⟩ (.int .i64 0)).setCell ⟨b, 6, none⟩ (.bool true)).setCell ⟨b, 7, none⟩ (.int .i64 (d.turned + 1))) := (((((((Chg.refl [b] w4).setCell (.inl (List.mem_singleton.2 rfl)) _).setCell (.inl (List.mem_singleton.2 rfl)) _).setCell (.inl (List.mem_singleton.2 rfl)) _).setCell (.inl (List.mem_singleton.2 rfl)) _).setCell (.inl (List.mem_singleton.2 rfl)) _).setCell (.inl (List.mem_singleton.2 rfl)) _)
  have B5 := Lib.hid (c5.at_ B4.out (by simpa using HBG.out))
  have C5 := Lib.hid (C4.out.trans c5)
  clear c5 H4 B4 C4
  go_upto_region 9 with fail
  clear y0 z1 z2 z3 z4 z6 z7 fr i7
  generalize ((((((w4.setCell ⟨b, 1, none⟩ (.int .i64 f)).setCell ⟨b, 2, none⟩ (.slice none 0 0)).setCell ⟨b, 3, none⟩ (.int .i64 1)).setCell ⟨b, 4, none⟩ (.int .i64 0)).setCell ⟨b, 6, none⟩ (.bool true)).setCell ⟨b, 7, none⟩ (.int .i64 (d.turned + 1))) = w5 at *
  have EE := Lib.hid (meetD_same d f).1
  have ME := Lib.hid (meetD_same d f)
  obtain ⟨s5, hs5⟩ : ∃ x, meetD d f = x := ⟨_, rfl⟩
  have h5 := H5.out
  have ee := EE.out
  rw [hs5] at h5 ee
  have H5 := Lib.hid h5
  have EE := Lib.hid ee
  have HQ := Lib.hid hs5
  clear h5 ee hs5
  have y1 := cell_of B5.out 1
  simp only [List.getElem?_toArray, List.getElem?_cons_succ, List.getElem?_cons_zero] at y1
  have z0 := H5.out.get.1
  rw [EE.out] at z0
  have hde : (t != d.ep) = true := bne_iff_ne.2 HTE.out
  go_upto_region 9 with fail
  go_quiet (fail)
  have hq := (Chg.refl [] w5).drewN nq
  generalize w5.drewN nq = w6 at *
  have H6 := Lib.hid (H5.out.chg hq (by simp))
  have B6 := Lib.hid (hq.at_ B5.out (by simp))
  have C6 := Lib.hid (C5.out.trans (hq.mono (S' := [b]) (by simp)))
  clear hq H5 B5 C5
  clear y1 z0 hde
  have z6 := H6.out.get.2.2.2.2.2.2.1
  have f6 := H6.out.free 6
  have H7 := Lib.hid (H6.out.sOwes true)
  have cc : Chg [b] w6 (w6.setCell ⟨b, 6, none⟩ (.bool true)) := (Chg.refl [b] w6).setCell (.inl (List.mem_singleton.2 rfl)) _
  have B7 := Lib.hid (cc.at_ B6.out (by simpa using HBG.out))
  have C7 := Lib.hid (C6.out.trans cc)
  clear cc
  go_wp2
  refine bodyPost_ret (results_none rfl _ _ _) rfl ?_
  exact ⟨rfl, by rw [HQ.out]; exact H7.out, C7.out⟩
end
section
open Go.RowKit Go.Lib
set_option linter.unusedSimpArgs false
set_option linter.unusedVariables false


set_option maxHeartbeats 8000000 in
set_option maxRecDepth 100000 in
theorem drecv_owef (w : World) (b : Nat) (d : DV) (h : DH w b d) (f t m a : Int) (B : Option Addr) (n e : Nat) (hn : n ≤ 140737488351232) (h0 : ¬ f < 1) (h1 : ¬ 1099511627776 < f) (h2 : ¬ f < d.ot) (h3 : ¬ t < 0) (h4 : ¬ m < 0) (h5 : ¬ 1099511627776 < m) (h6 : ¬ a < 0) (h7 : ¬ (400 : Int) < (n : Int)) (ht : 0 ≤ d.turned ∧ d.turned ≤ 4611686018427387904) (hpf : ¬ d.ot < f) (hbs : ∀ s5, s5 = meetD d f → 1 ≤ s5.base ∧ s5.base ≤ 2000000 ∧ s5.n ≤ 8 ∧ s5.n ≤ s5.c) (hte : ¬ t = d.ep) : Calls Try.prog 37 #[.pointer (some ⟨b, 0, none⟩), .agg #[.int .i64 f, .int .i64 t, .int .i64 m, .int .i64 a, .slice B n e]] w fun r w' => r = .returned (.tuple #[]) ∧ DH w' b { meetD d f with owes := true } ∧ Chg [b] w w' := by
  have HPF := Lib.hid hpf
  have HBS := Lib.hid hbs
  have HTE := Lib.hid hte
  have HT := Lib.hid ht
  clear hpf hbs hte ht
  have d0 : decide (f < 1) = false := decide_eq_false h0
  have d1 : decide (1099511627776 < f) = false := decide_eq_false h1
  have d2 : decide (f < d.ot) = false := decide_eq_false h2
  have d3 : decide (t < 0) = false := decide_eq_false h3
  have d4 : decide (m < 0) = false := decide_eq_false h4
  have d5 : decide (1099511627776 < m) = false := decide_eq_false h5
  have d6 : decide (a < 0) = false := decide_eq_false h6
  have d7 : decide ((400 : Int) < (n : Int)) = false := decide_eq_false h7
  clear h0 h1 h2 h3 h4 h5 h6 h7
  obtain ⟨w1, hw1, c1, b1⟩ := news1 w (.cells #[.int .i64 f, .int .i64 t, .int .i64 m, .int .i64 a, .slice B n e] 35)
  have W1 := Lib.hid hw1
  have C1 := Lib.hid c1
  have B1 := Lib.hid b1
  have BL := Lib.hid h.lt
  have GL := Lib.hid (lt_of_heap b1)
  have H1 := Lib.hid (h.chg c1 (by simp))
  have HNN := Lib.hid hn
  have y0 := cell_of b1 0
  have y1 := cell_of b1 1
  have y2 := cell_of b1 2
  have y3 := cell_of b1 3
  have y4 := cell_of b1 4
  simp only [List.getElem?_toArray, List.getElem?_cons_succ, List.getElem?_cons_zero] at y0 y1 y2 y3 y4
  have z1 := H1.out.get.2.1
  clear hw1 c1 b1 h
  go_enter Try.func37, Try.ntmps37
  go_upto_region 1 with fail
  rw [← W1.out]
  have GG := Lib.hid (Nat.le_refl w.heap.size)
  generalize hg : w.heap.size = g at *
  go_quiet (fail)
  have hq := (Chg.refl [] w1).drewN nq
  generalize w1.drewN nq = w3 at *
  have H3 := Lib.hid (H1.out.chg hq (by simp))
  have B3 := Lib.hid (hq.at_ B1.out (by simp))
  have C3 := Lib.hid (C1.out.trans hq)
  clear hq W1 y0 y1 y2 y3 y4 z1 H1 B1 C1
  clear d0 d1 d2 d3 d4 d5 d6 d7
  replace C3 := Lib.hid (C3.out.mono (S' := [b]) (by simp))
  have hbg : g ≠ b := by have := BL.out; omega
  have HBG := Lib.hid hbg
  clear hbg
  have y0 := cell_of B3.out 0
  simp only [List.getElem?_toArray, List.getElem?_cons_succ, List.getElem?_cons_zero] at y0
  have z1 := H3.out.get.2.1
  have hdp : decide (d.ot < f) = false := decide_eq_false (by have := HPF.out; omega)
  go_upto_region 2 with fail
  go_quiet (fail)
  have hq := (Chg.refl [] w3).drewN nq
  generalize w3.drewN nq = w4 at *
  have H4 := Lib.hid (H3.out.chg hq (by simp))
  have B4 := Lib.hid (hq.at_ B3.out (by simp))
  have C4 := Lib.hid (C3.out.trans (hq.mono (S' := [b]) (by simp)))
  clear hq H3 B3 C3
  clear y0 z1 hdp
  have H5 : Hid (DH w4 b (meetD d f)) := Lib.hid (by unfold meetD; rw [if_neg (by have := HPF.out; omega)]; exact H4.out)
  have B5 := B4
  have C5 := C4
  clear H4 B4 C4
  generalize w4 = w5 at *
  have EE := Lib.hid (meetD_same d f).1
  have ME := Lib.hid (meetD_same d f)
  obtain ⟨s5, hs5⟩ : ∃ x, meetD d f = x := ⟨_, rfl⟩
  have h5 := H5.out
  have ee := EE.out
  rw [hs5] at h5 ee
  have H5 := Lib.hid h5
  have EE := Lib.hid ee
  have HQ := Lib.hid hs5
  clear h5 ee hs5
  have y1 := cell_of B5.out 1
  simp only [List.getElem?_toArray, List.getElem?_cons_succ, List.getElem?_cons_zero] at y1
  have z0 := H5.out.get.1
  rw [EE.out] at z0
  have hde : (t != d.ep) = true := bne_iff_ne.2 HTE.out
  go_upto_region 9 with fail
  go_quiet (fail)
  have hq := (Chg.refl [] w5).drewN nq
  generalize w5.drewN nq = w6 at *
  have H6 := Lib.hid (H5.out.chg hq (by simp))
  have B6 := Lib.hid (hq.at_ B5.out (by simp))
  have C6 := Lib.hid (C5.out.trans (hq.mono (S' := [b]) (by simp)))
  clear hq H5 B5 C5
  clear y1 z0 hde
  have z6 := H6.out.get.2.2.2.2.2.2.1
  have f6 := H6.out.free 6
  have H7 := Lib.hid (H6.out.sOwes true)
  have cc : Chg [b] w6 (w6.setCell ⟨b, 6, none⟩ (.bool true)) := (Chg.refl [b] w6).setCell (.inl (List.mem_singleton.2 rfl)) _
  have B7 := Lib.hid (cc.at_ B6.out (by simpa using HBG.out))
  have C7 := Lib.hid (C6.out.trans cc)
  clear cc
  go_wp2
  refine bodyPost_ret (results_none rfl _ _ _) rfl ?_
  exact ⟨rfl, by rw [HQ.out]; exact H7.out, C7.out⟩
end
section
open Go.RowKit Go.Lib
set_option linter.unusedSimpArgs false
set_option linter.unusedVariables false


set_option maxHeartbeats 8000000 in
set_option maxRecDepth 100000 in
theorem drecv_zerotlo (w : World) (b : Nat) (d : DV) (h : DH w b d) (f t m a : Int) (B : Option Addr) (n e : Nat) (hn : n ≤ 140737488351232) (h0 : ¬ f < 1) (h1 : ¬ 1099511627776 < f) (h2 : ¬ f < d.ot) (h3 : ¬ t < 0) (h4 : ¬ m < 0) (h5 : ¬ 1099511627776 < m) (h6 : ¬ a < 0) (h7 : ¬ (400 : Int) < (n : Int)) (ht : 0 ≤ d.turned ∧ d.turned ≤ 4611686018427387904) (hpf :  d.ot < f) (hbs : ∀ s5, s5 = meetD d f → 1 ≤ s5.base ∧ s5.base ≤ 2000000 ∧ s5.n ≤ 8 ∧ s5.n ≤ s5.c) (hte : t = d.ep) (hmz : m = 0) (hdr : ∀ s5, s5 = meetD d f → a < s5.base) : Calls Try.prog 37 #[.pointer (some ⟨b, 0, none⟩), .agg #[.int .i64 f, .int .i64 t, .int .i64 m, .int .i64 a, .slice B n e]] w fun r w' => r = .returned (.tuple #[]) ∧ DH w' b (dropD (meetD d f) a) ∧ Chg [b] w w' := by
  have HPF := Lib.hid hpf
  have HBS := Lib.hid hbs
  have HTE := Lib.hid hte
  have HT := Lib.hid ht
  clear hpf hbs hte ht
  have HMZ := Lib.hid hmz
  have HDR := Lib.hid hdr
  clear hmz hdr
  have d0 : decide (f < 1) = false := decide_eq_false h0
  have d1 : decide (1099511627776 < f) = false := decide_eq_false h1
  have d2 : decide (f < d.ot) = false := decide_eq_false h2
  have d3 : decide (t < 0) = false := decide_eq_false h3
  have d4 : decide (m < 0) = false := decide_eq_false h4
  have d5 : decide (1099511627776 < m) = false := decide_eq_false h5
  have d6 : decide (a < 0) = false := decide_eq_false h6
  have d7 : decide ((400 : Int) < (n : Int)) = false := decide_eq_false h7
  clear h0 h1 h2 h3 h4 h5 h6 h7
  obtain ⟨w1, hw1, c1, b1⟩ := news1 w (.cells #[.int .i64 f, .int .i64 t, .int .i64 m, .int .i64 a, .slice B n e] 35)
  have W1 := Lib.hid hw1
  have C1 := Lib.hid c1
  have B1 := Lib.hid b1
  have BL := Lib.hid h.lt
  have GL := Lib.hid (lt_of_heap b1)
  have H1 := Lib.hid (h.chg c1 (by simp))
  have HNN := Lib.hid hn
  have y0 := cell_of b1 0
  have y1 := cell_of b1 1
  have y2 := cell_of b1 2
  have y3 := cell_of b1 3
  have y4 := cell_of b1 4
  simp only [List.getElem?_toArray, List.getElem?_cons_succ, List.getElem?_cons_zero] at y0 y1 y2 y3 y4
  have z1 := H1.out.get.2.1
  clear hw1 c1 b1 h
  go_enter Try.func37, Try.ntmps37
  go_upto_region 1 with fail
  rw [← W1.out]
  have GG := Lib.hid (Nat.le_refl w.heap.size)
  generalize hg : w.heap.size = g at *
  go_quiet (fail)
  have hq := (Chg.refl [] w1).drewN nq
  generalize w1.drewN nq = w3 at *
  have H3 := Lib.hid (H1.out.chg hq (by simp))
  have B3 := Lib.hid (hq.at_ B1.out (by simp))
  have C3 := Lib.hid (C1.out.trans hq)
  clear hq W1 y0 y1 y2 y3 y4 z1 H1 B1 C1
  clear d0 d1 d2 d3 d4 d5 d6 d7
  replace C3 := Lib.hid (C3.out.mono (S' := [b]) (by simp))
  have hbg : g ≠ b := by have := BL.out; omega
  have HBG := Lib.hid hbg
  clear hbg
  have y0 := cell_of B3.out 0
  simp only [List.getElem?_toArray, List.getElem?_cons_succ, List.getElem?_cons_zero] at y0
  have z1 := H3.out.get.2.1
  have hdp : decide (d.ot < f) = true := decide_eq_true HPF.out
  go_upto_region 2 with fail
  go_quiet (fail)
  have hq := (Chg.refl [] w3).drewN nq
  generalize w3.drewN nq = w4 at *
  have H4 := Lib.hid (H3.out.chg hq (by simp))
  have B4 := Lib.hid (hq.at_ B3.out (by simp))
  have C4 := Lib.hid (C3.out.trans (hq.mono (S' := [b]) (by simp)))
  clear hq H3 B3 C3
  clear y0 z1 hdp
  have y0 := cell_of B4.out 0
  simp only [List.getElem?_toArray, List.getElem?_cons_succ, List.getElem?_cons_zero] at y0
  have z := H4.out.get
  obtain ⟨-, z1, z2, z3, z4, -, z6, z7⟩ := z
  have fr := fun j => H4.out.free j
  have i7 : IntKind.i64.wrap (d.turned + 1) = d.turned + 1 := IntWalk.i64_in _ (by have := HT.out; omega)
  have H5 : Hid (DH ((((((w4.setCell ⟨b, 1, none⟩ (.int .i64 f)).setCell ⟨b, 2, none⟩ (.slice none 0 0)).setCell ⟨b, 3, none⟩ (.int .i64 1)).setCell ⟨b, 4, none⟩ (.int .i64 0)).setCell ⟨b, 6, none⟩ (.bool true)).setCell ⟨b, 7, none⟩ (.int .i64 (d.turned + 1))) b (meetD d f)) := Lib.hid (by unfold meetD; rw [if_pos HPF.out]; exact ((((((H4.out.sOt f).sQ none 0 0).sBase 1).sCame 0).sOwes true).sTurned (d.turned + 1)))
  have c5 : Chg [b] w4 ((((((w4.setCell ⟨b, 1, none⟩ (.int .i64 f)).setCell ⟨b, 2, none⟩ (.slice none 0 0)).setCell ⟨b, 3, none⟩ (.int .i64 1)).setCell ⟨b, 4, none⟩ (.int .i64 0)).setCell ⟨b, 6, none⟩ (.bool true)).setCell ⟨b, 7, none⟩ (.int .i64 (d.turned + 1))) := (((((((Chg.refl [b] w4).setCell (.inl (List.mem_singleton.2 rfl)) _).setCell (.inl (List.mem_singleton.2 rfl)) _).setCell (.inl (List.mem_singleton.2 rfl)) _).setCell (.inl (List.mem_singleton.2 rfl)) _).setCell (.inl (List.mem_singleton.2 rfl)) _).setCell (.inl (List.mem_singleton.2 rfl)) _)
  have B5 := Lib.hid (c5.at_ B4.out (by simpa using HBG.out))
  have C5 := Lib.hid (C4.out.trans c5)
  clear c5 H4 B4 C4
  go_upto_region 9 with fail
  clear y0 z1 z2 z3 z4 z6 z7 fr i7
  generalize ((((((w4.setCell ⟨b, 1, none⟩ (.int .i64 f)).setCell ⟨b, 2, none⟩ (.slice none 0 0)).setCell ⟨b, 3, none⟩ (.int .i64 1)).setCell ⟨b, 4, none⟩ (.int .i64 0)).setCell ⟨b, 6, none⟩ (.bool true)).setCell ⟨b, 7, none⟩ (.int .i64 (d.turned + 1))) = w5 at *
  have EE := Lib.hid (meetD_same d f).1
  have ME := Lib.hid (meetD_same d f)
  obtain ⟨s5, hs5⟩ : ∃ x, meetD d f = x := ⟨_, rfl⟩
  have h5 := H5.out
  have ee := EE.out
  rw [hs5] at h5 ee
  have H5 := Lib.hid h5
  have EE := Lib.hid ee
  have HQ := Lib.hid hs5
  clear h5 ee hs5
  have y1 := cell_of B5.out 1
  simp only [List.getElem?_toArray, List.getElem?_cons_succ, List.getElem?_cons_zero] at y1
  have z0 := H5.out.get.1
  rw [EE.out] at z0
  have hde : (t != d.ep) = false := by rw [HTE.out]; simp
  go_upto_region 9 with fail
  go_quiet (fail)
  have hq := (Chg.refl [] w5).drewN nq
  generalize w5.drewN nq = w6 at *
  have H6 := Lib.hid (H5.out.chg hq (by simp))
  have B6 := Lib.hid (hq.at_ B5.out (by simp))
  have C6 := Lib.hid (C5.out.trans (hq.mono (S' := [b]) (by simp)))
  clear hq H5 B5 C5
  clear y1 z0 hde
  have hbx := HBS.out s5 HQ.out.symm
  have HBX := Lib.hid hbx
  have y3 := cell_of B6.out 3
  simp only [List.getElem?_toArray, List.getElem?_cons_succ, List.getElem?_cons_zero] at y3
  have z2 := H6.out.get.2.2.1
  have z3 := H6.out.get.2.2.2.1
  have hdx := HDR.out s5 HQ.out.symm
  have HDX := Lib.hid hdx
  have ib : IntKind.i64.wrap (s5.base + (s5.n : Int)) = s5.base + (s5.n : Int) := IntWalk.i64_in _ (by omega)
  have g1 : decide (s5.base ≤ a) = false := decide_eq_false (by omega)
  clear hbx hdx
  go_upto_region 11 with fail
  go_quiet (fail)
  have hq := (Chg.refl [] w6).drewN nq
  generalize w6.drewN nq = w7 at *
  have H7 := Lib.hid (H6.out.chg hq (by simp))
  have B7 := Lib.hid (hq.at_ B6.out (by simp))
  have C7 := Lib.hid (C6.out.trans (hq.mono (S' := [b]) (by simp)))
  clear hq H6 B6 C6
  clear y3 z2 z3 g1
  have H9 : Hid (DH w7 b (dropD s5 a)) := Lib.hid (by unfold dropD; rw [if_neg (by have := HDX.out; omega)]; exact H7.out)
  have B9 := B7
  have C9 := C7
  clear H7 B7 C7 ib
  generalize w7 = w9 at *
  obtain ⟨s7, hs7⟩ : ∃ x, dropD s5 a = x := ⟨_, rfl⟩
  have h9 := H9.out
  rw [hs7] at h9
  replace H9 := Lib.hid h9
  have DQ := Lib.hid hs7
  clear h9 hs7
  have y2 := cell_of B9.out 2
  simp only [List.getElem?_toArray, List.getElem?_cons_succ, List.getElem?_cons_zero] at y2
  have hm0 : m = 0 := HMZ.out
  rw [hm0] at y2
  go_wp2
  refine bodyPost_ret (results_none rfl _ _ _) rfl ?_
  exact ⟨rfl, by rw [HQ.out, DQ.out]; exact H9.out, C9.out⟩
end
section
open Go.RowKit Go.Lib
set_option linter.unusedSimpArgs false
set_option linter.unusedVariables false


set_option maxHeartbeats 8000000 in
set_option maxRecDepth 100000 in
theorem drecv_zerothi (w : World) (b : Nat) (d : DV) (h : DH w b d) (f t m a : Int) (B : Option Addr) (n e : Nat) (hn : n ≤ 140737488351232) (h0 : ¬ f < 1) (h1 : ¬ 1099511627776 < f) (h2 : ¬ f < d.ot) (h3 : ¬ t < 0) (h4 : ¬ m < 0) (h5 : ¬ 1099511627776 < m) (h6 : ¬ a < 0) (h7 : ¬ (400 : Int) < (n : Int)) (ht : 0 ≤ d.turned ∧ d.turned ≤ 4611686018427387904) (hpf :  d.ot < f) (hbs : ∀ s5, s5 = meetD d f → 1 ≤ s5.base ∧ s5.base ≤ 2000000 ∧ s5.n ≤ 8 ∧ s5.n ≤ s5.c) (hte : t = d.ep) (hmz : m = 0) (hdr : ∀ s5, s5 = meetD d f → s5.base ≤ a ∧ s5.base + s5.n ≤ a) : Calls Try.prog 37 #[.pointer (some ⟨b, 0, none⟩), .agg #[.int .i64 f, .int .i64 t, .int .i64 m, .int .i64 a, .slice B n e]] w fun r w' => r = .returned (.tuple #[]) ∧ DH w' b (dropD (meetD d f) a) ∧ Chg [b] w w' := by
  have HPF := Lib.hid hpf
  have HBS := Lib.hid hbs
  have HTE := Lib.hid hte
  have HT := Lib.hid ht
  clear hpf hbs hte ht
  have HMZ := Lib.hid hmz
  have HDR := Lib.hid hdr
  clear hmz hdr
  have d0 : decide (f < 1) = false := decide_eq_false h0
  have d1 : decide (1099511627776 < f) = false := decide_eq_false h1
  have d2 : decide (f < d.ot) = false := decide_eq_false h2
  have d3 : decide (t < 0) = false := decide_eq_false h3
  have d4 : decide (m < 0) = false := decide_eq_false h4
  have d5 : decide (1099511627776 < m) = false := decide_eq_false h5
  have d6 : decide (a < 0) = false := decide_eq_false h6
  have d7 : decide ((400 : Int) < (n : Int)) = false := decide_eq_false h7
  clear h0 h1 h2 h3 h4 h5 h6 h7
  obtain ⟨w1, hw1, c1, b1⟩ := news1 w (.cells #[.int .i64 f, .int .i64 t, .int .i64 m, .int .i64 a, .slice B n e] 35)
  have W1 := Lib.hid hw1
  have C1 := Lib.hid c1
  have B1 := Lib.hid b1
  have BL := Lib.hid h.lt
  have GL := Lib.hid (lt_of_heap b1)
  have H1 := Lib.hid (h.chg c1 (by simp))
  have HNN := Lib.hid hn
  have y0 := cell_of b1 0
  have y1 := cell_of b1 1
  have y2 := cell_of b1 2
  have y3 := cell_of b1 3
  have y4 := cell_of b1 4
  simp only [List.getElem?_toArray, List.getElem?_cons_succ, List.getElem?_cons_zero] at y0 y1 y2 y3 y4
  have z1 := H1.out.get.2.1
  clear hw1 c1 b1 h
  go_enter Try.func37, Try.ntmps37
  go_upto_region 1 with fail
  rw [← W1.out]
  have GG := Lib.hid (Nat.le_refl w.heap.size)
  generalize hg : w.heap.size = g at *
  go_quiet (fail)
  have hq := (Chg.refl [] w1).drewN nq
  generalize w1.drewN nq = w3 at *
  have H3 := Lib.hid (H1.out.chg hq (by simp))
  have B3 := Lib.hid (hq.at_ B1.out (by simp))
  have C3 := Lib.hid (C1.out.trans hq)
  clear hq W1 y0 y1 y2 y3 y4 z1 H1 B1 C1
  clear d0 d1 d2 d3 d4 d5 d6 d7
  replace C3 := Lib.hid (C3.out.mono (S' := [b]) (by simp))
  have hbg : g ≠ b := by have := BL.out; omega
  have HBG := Lib.hid hbg
  clear hbg
  have y0 := cell_of B3.out 0
  simp only [List.getElem?_toArray, List.getElem?_cons_succ, List.getElem?_cons_zero] at y0
  have z1 := H3.out.get.2.1
  have hdp : decide (d.ot < f) = true := decide_eq_true HPF.out
  go_upto_region 2 with fail
  go_quiet (fail)
  have hq := (Chg.refl [] w3).drewN nq
  generalize w3.drewN nq = w4 at *
  have H4 := Lib.hid (H3.out.chg hq (by simp))
  have B4 := Lib.hid (hq.at_ B3.out (by simp))
  have C4 := Lib.hid (C3.out.trans (hq.mono (S' := [b]) (by simp)))
  clear hq H3 B3 C3
  clear y0 z1 hdp
  have y0 := cell_of B4.out 0
  simp only [List.getElem?_toArray, List.getElem?_cons_succ, List.getElem?_cons_zero] at y0
  have z := H4.out.get
  obtain ⟨-, z1, z2, z3, z4, -, z6, z7⟩ := z
  have fr := fun j => H4.out.free j
  have i7 : IntKind.i64.wrap (d.turned + 1) = d.turned + 1 := IntWalk.i64_in _ (by have := HT.out; omega)
  have H5 : Hid (DH ((((((w4.setCell ⟨b, 1, none⟩ (.int .i64 f)).setCell ⟨b, 2, none⟩ (.slice none 0 0)).setCell ⟨b, 3, none⟩ (.int .i64 1)).setCell ⟨b, 4, none⟩ (.int .i64 0)).setCell ⟨b, 6, none⟩ (.bool true)).setCell ⟨b, 7, none⟩ (.int .i64 (d.turned + 1))) b (meetD d f)) := Lib.hid (by unfold meetD; rw [if_pos HPF.out]; exact ((((((H4.out.sOt f).sQ none 0 0).sBase 1).sCame 0).sOwes true).sTurned (d.turned + 1)))
  have c5 : Chg [b] w4 ((((((w4.setCell ⟨b, 1, none⟩ (.int .i64 f)).setCell ⟨b, 2, none⟩ (.slice none 0 0)).setCell ⟨b, 3, none⟩ (.int .i64 1)).setCell ⟨b, 4, none⟩ (.int .i64 0)).setCell ⟨b, 6, none⟩ (.bool true)).setCell ⟨b, 7, none⟩ (.int .i64 (d.turned + 1))) := (((((((Chg.refl [b] w4).setCell (.inl (List.mem_singleton.2 rfl)) _).setCell (.inl (List.mem_singleton.2 rfl)) _).setCell (.inl (List.mem_singleton.2 rfl)) _).setCell (.inl (List.mem_singleton.2 rfl)) _).setCell (.inl (List.mem_singleton.2 rfl)) _).setCell (.inl (List.mem_singleton.2 rfl)) _)
  have B5 := Lib.hid (c5.at_ B4.out (by simpa using HBG.out))
  have C5 := Lib.hid (C4.out.trans c5)
  clear c5 H4 B4 C4
  go_upto_region 9 with fail
  clear y0 z1 z2 z3 z4 z6 z7 fr i7
  generalize ((((((w4.setCell ⟨b, 1, none⟩ (.int .i64 f)).setCell ⟨b, 2, none⟩ (.slice none 0 0)).setCell ⟨b, 3, none⟩ (.int .i64 1)).setCell ⟨b, 4, none⟩ (.int .i64 0)).setCell ⟨b, 6, none⟩ (.bool true)).setCell ⟨b, 7, none⟩ (.int .i64 (d.turned + 1))) = w5 at *
  have EE := Lib.hid (meetD_same d f).1
  have ME := Lib.hid (meetD_same d f)
  obtain ⟨s5, hs5⟩ : ∃ x, meetD d f = x := ⟨_, rfl⟩
  have h5 := H5.out
  have ee := EE.out
  rw [hs5] at h5 ee
  have H5 := Lib.hid h5
  have EE := Lib.hid ee
  have HQ := Lib.hid hs5
  clear h5 ee hs5
  have y1 := cell_of B5.out 1
  simp only [List.getElem?_toArray, List.getElem?_cons_succ, List.getElem?_cons_zero] at y1
  have z0 := H5.out.get.1
  rw [EE.out] at z0
  have hde : (t != d.ep) = false := by rw [HTE.out]; simp
  go_upto_region 9 with fail
  go_quiet (fail)
  have hq := (Chg.refl [] w5).drewN nq
  generalize w5.drewN nq = w6 at *
  have H6 := Lib.hid (H5.out.chg hq (by simp))
  have B6 := Lib.hid (hq.at_ B5.out (by simp))
  have C6 := Lib.hid (C5.out.trans (hq.mono (S' := [b]) (by simp)))
  clear hq H5 B5 C5
  clear y1 z0 hde
  have hbx := HBS.out s5 HQ.out.symm
  have HBX := Lib.hid hbx
  have y3 := cell_of B6.out 3
  simp only [List.getElem?_toArray, List.getElem?_cons_succ, List.getElem?_cons_zero] at y3
  have z2 := H6.out.get.2.2.1
  have z3 := H6.out.get.2.2.2.1
  have hdx := HDR.out s5 HQ.out.symm
  have HDX := Lib.hid hdx
  have ib : IntKind.i64.wrap (s5.base + (s5.n : Int)) = s5.base + (s5.n : Int) := IntWalk.i64_in _ (by omega)
  have g1 : decide (s5.base ≤ a) = true := decide_eq_true (by omega)
  have g2 : decide (a < s5.base + (s5.n : Int)) = false := decide_eq_false (by omega)
  clear hbx hdx
  go_upto_region 11 with fail
  go_quiet (fail)
  have hq := (Chg.refl [] w6).drewN nq
  generalize w6.drewN nq = w7 at *
  have H7 := Lib.hid (H6.out.chg hq (by simp))
  have B7 := Lib.hid (hq.at_ B6.out (by simp))
  have C7 := Lib.hid (C6.out.trans (hq.mono (S' := [b]) (by simp)))
  clear hq H6 B6 C6
  clear y3 z2 z3 g1 g2
  have H9 : Hid (DH w7 b (dropD s5 a)) := Lib.hid (by unfold dropD; rw [if_neg (by have := HDX.out; omega)]; exact H7.out)
  have B9 := B7
  have C9 := C7
  clear H7 B7 C7 ib
  generalize w7 = w9 at *
  obtain ⟨s7, hs7⟩ : ∃ x, dropD s5 a = x := ⟨_, rfl⟩
  have h9 := H9.out
  rw [hs7] at h9
  replace H9 := Lib.hid h9
  have DQ := Lib.hid hs7
  clear h9 hs7
  have y2 := cell_of B9.out 2
  simp only [List.getElem?_toArray, List.getElem?_cons_succ, List.getElem?_cons_zero] at y2
  have hm0 : m = 0 := HMZ.out
  rw [hm0] at y2
  go_wp2
  refine bodyPost_ret (results_none rfl _ _ _) rfl ?_
  exact ⟨rfl, by rw [HQ.out, DQ.out]; exact H9.out, C9.out⟩
end
end Go.Proofs.Ytmblalcigbghfaa
