/- The document's ahead. The document's Check of a dot, as the past sees it. -/
import Derived.Test.YtgafkphhnlifiaaPgb
namespace Go.Proofs.Ytgafkphhnlifiaa
section
open Go.RowKit Go.Lib
set_option linter.unusedSimpArgs false
set_option linter.unusedVariables false


set_option maxRecDepth 100000 in
set_option maxHeartbeats 8000000 in
theorem ahead_any (w : World) (x y : Sp) : Calls Try.prog 71 #[.agg #[.int .i64 x.1, .int .i64 x.2.1, .int .i64 x.2.2], .agg #[.int .i64 y.1, .int .i64 y.2.1, .int .i64 y.2.2]] w fun e w' => e = .returned (.bool (decide (Lt3 x y))) ∧ Chg [] w w' := by
  obtain ⟨w1, hw1, c1, b0, b1⟩ := news2 w (.cells #[.int .i64 x.1, .int .i64 x.2.1, .int .i64 x.2.2] 62) (.cells #[.int .i64 y.1, .int .i64 y.2.1, .int .i64 y.2.2] 62)
  have W1 := Lib.hid hw1
  have C1 := Lib.hid c1
  have y0 := cell_of b0 0
  have y1 := cell_of b0 1
  have y2 := cell_of b0 2
  have z0 := cell_of b1 0
  have z1 := cell_of b1 1
  have z2 := cell_of b1 2
  simp only [List.getElem?_toArray, List.getElem?_cons_succ, List.getElem?_cons_zero] at y0 y1 y2 z0 z1 z2
  clear hw1 c1 b0 b1
  have fin : ∀ v, decide (Lt3 x y) = v → Calls Try.prog 71 #[.agg #[.int .i64 x.1, .int .i64 x.2.1, .int .i64 x.2.2], .agg #[.int .i64 y.1, .int .i64 y.2.1, .int .i64 y.2.2]] w (fun e w' => e = .returned (.bool v) ∧ Chg [] w w') → Calls Try.prog 71 #[.agg #[.int .i64 x.1, .int .i64 x.2.1, .int .i64 x.2.2], .agg #[.int .i64 y.1, .int .i64 y.2.1, .int .i64 y.2.2]] w fun e w' => e = .returned (.bool (decide (Lt3 x y))) ∧ Chg [] w w' := fun v hv h => hv ▸ h
  obtain ⟨x1, x2, x3⟩ := x
  obtain ⟨u1, u2, u3⟩ := y
  dsimp only at *
  rcases Int.lt_trichotomy x1 u1 with h | h | h
  · have f1 : x1 < u1 := h
    refine fin true (decide_eq_true (.inl h)) ?_
    clear fin
    go_enter Try.func71, Try.ntmps71
    go_upto_region 1 with fail
    rw [← W1.out]
    generalize w.heap.size = g0 at *
    go_wp2
    go_ret
    exact ⟨rfl, C1.out⟩
  · subst h
    have f0 : ¬ x1 < x1 := by omega
    have f3 : ((x1 == x1) : Bool) = true := by simp
    rcases Int.lt_trichotomy x2 u2 with h2 | h2 | h2
    · have f1 : x2 < u2 := h2
      refine fin true (decide_eq_true (.inr ⟨rfl, .inl h2⟩)) ?_
      clear fin
      go_enter Try.func71, Try.ntmps71
      go_upto_region 1 with fail
      rw [← W1.out]
      generalize w.heap.size = g0 at *
      go_wp2
      go_ret
      exact ⟨rfl, C1.out⟩
    · subst h2
      have f4 : ¬ x2 < x2 := by omega
      have f5 : ((x2 == x2) : Bool) = true := by simp
      by_cases h3 : x3 < u3
      · skip
        refine fin true (decide_eq_true (.inr ⟨rfl, .inr ⟨rfl, h3⟩⟩)) ?_
        clear fin
        go_enter Try.func71, Try.ntmps71
        go_upto_region 1 with fail
        rw [← W1.out]
        generalize w.heap.size = g0 at *
        go_wp2
        go_ret
        exact ⟨rfl, C1.out⟩
      refine fin false (decide_eq_false (by unfold Lt3; simp only; omega)) ?_
      clear fin
      go_enter Try.func71, Try.ntmps71
      go_upto_region 1 with fail
      rw [← W1.out]
      generalize w.heap.size = g0 at *
      go_wp2
      go_ret
      exact ⟨rfl, C1.out⟩
    · have f4 : ¬ x2 < u2 := by omega
      have f5 : ((x2 == u2) : Bool) = false := by simp; omega
      refine fin false (decide_eq_false (by unfold Lt3; simp only; omega)) ?_
      clear fin
      go_enter Try.func71, Try.ntmps71
      go_upto_region 1 with fail
      rw [← W1.out]
      generalize w.heap.size = g0 at *
      go_wp2
      go_ret
      exact ⟨rfl, C1.out⟩
  · have f1 : ¬ x1 < u1 := by omega
    have f3 : ((x1 == u1) : Bool) = false := by simp; omega
    refine fin false (decide_eq_false (by unfold Lt3; simp only; omega)) ?_
    clear fin
    go_enter Try.func71, Try.ntmps71
    go_upto_region 1 with fail
    rw [← W1.out]
    generalize w.heap.size = g0 at *
    go_wp2
    go_ret
    exact ⟨rfl, C1.out⟩
end
section
open Go.RowKit Go.Lib
set_option linter.unusedSimpArgs false
set_option linter.unusedVariables false


def FineQ (n s : Int) : Prop := 1 ≤ n ∧ n ≤ 200 ∧ 1 ≤ s ∧ s ≤ 2147483647
instance (n s : Int) : Decidable (FineQ n s) := by unfold FineQ; exact inferInstance
theorem chk_dot (n s : Int) : chkS [(n, s, s)] = if FineQ n s then 0 else 2 := by
  by_cases h : FineQ n s
  · rw [if_pos h]
    unfold FineQ at h
    refine chk_of_wf ⟨⟨fun x hx => ?_, List.pairwise_singleton _ _⟩, fun x hx => ?_⟩ (by simp)
    · cases List.mem_singleton.1 hx; unfold SpOk; simp
    · cases List.mem_singleton.1 hx; simp only; omega
  · rw [if_neg h]
    rcases chk_two [(n, s, s)] with e | e
    · have w := (wf_of_chk e).1.2 (n, s, s) (by simp)
      simp only at w
      exact absurd (by unfold FineQ; omega) h
    · exact e
set_option maxRecDepth 100000 in
set_option maxHeartbeats 4000000 in
theorem hcheck_dot (w : World) (n s : Int) : Calls Try.prog 48 #[.agg #[.int .i64 n, .int .i64 s]] w fun e w' => e = .returned (.int .i64 (chkS [(n, s, s)])) ∧ Chg [] w w' := by
  have go : ∀ v, chkS [(n, s, s)] = v → Calls Try.prog 48 #[.agg #[.int .i64 n, .int .i64 s]] w (fun e w' => e = .returned (.int .i64 v) ∧ Chg [] w w') → Calls Try.prog 48 #[.agg #[.int .i64 n, .int .i64 s]] w fun e w' => e = .returned (.int .i64 (chkS [(n, s, s)])) ∧ Chg [] w w' := fun v e h => by rw [e]; exact h
  have CD := chk_dot n s
  obtain ⟨w1, hw1, c1, b0⟩ := news1 w (.cells #[.int .i64 n, .int .i64 s] 37)
  have W1 := Lib.hid hw1
  have C1 := Lib.hid c1
  have z0 := cell_of b0 0
  have z1 := cell_of b0 1
  simp only [List.getElem?_toArray, List.getElem?_cons_succ, List.getElem?_cons_zero] at z0 z1
  clear hw1 c1 b0
  by_cases h1 : n < 1
  · skip
    refine go 2 (by rw [CD, if_neg (by unfold FineQ; omega)]) ?_
    clear go CD
    go_enter Try.func48, Try.ntmps48
    go_upto_region 1 with fail
    rw [← W1.out]
    generalize w.heap.size = g0 at *
    go_wp2
    go_ret
    exact ⟨rfl, C1.out⟩
  by_cases h2 : 200 < n
  · skip
    refine go 2 (by rw [CD, if_neg (by unfold FineQ; omega)]) ?_
    clear go CD
    go_enter Try.func48, Try.ntmps48
    go_upto_region 1 with fail
    rw [← W1.out]
    generalize w.heap.size = g0 at *
    go_wp2
    go_ret
    exact ⟨rfl, C1.out⟩
  by_cases h3 : s < 1
  · skip
    refine go 2 (by rw [CD, if_neg (by unfold FineQ; omega)]) ?_
    clear go CD
    go_enter Try.func48, Try.ntmps48
    go_upto_region 1 with fail
    rw [← W1.out]
    generalize w.heap.size = g0 at *
    go_wp2
    go_ret
    exact ⟨rfl, C1.out⟩
  by_cases h4 : 2147483647 < s
  · skip
    refine go 2 (by rw [CD, if_neg (by unfold FineQ; omega)]) ?_
    clear go CD
    go_enter Try.func48, Try.ntmps48
    go_upto_region 1 with fail
    rw [← W1.out]
    generalize w.heap.size = g0 at *
    go_wp2
    go_ret
    exact ⟨rfl, C1.out⟩
  refine go 0 (by rw [CD, if_pos (by unfold FineQ; omega)]) ?_
  clear go CD
  go_enter Try.func48, Try.ntmps48
  go_upto_region 1 with fail
  rw [← W1.out]
  generalize w.heap.size = g0 at *
  go_wp2
  go_ret
  exact ⟨rfl, C1.out⟩
end
end Go.Proofs.Ytgafkphhnlifiaa
