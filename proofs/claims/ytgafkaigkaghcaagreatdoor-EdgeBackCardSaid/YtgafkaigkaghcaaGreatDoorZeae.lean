/- past.Has: a dot is looked for. past.Has. past: Count, Last. The document's Has, Count, Last. The document's ahead. The document's Check of a dot, as the past sees it. past.bounded, past.alone. past.push. past.push behind a span. A row of structs: one cell of one of them is stored. No program here. past.push onto the last span. -/
import Derived.Test.YtgafkaigkaghcaaGreatDoorZead
import Derived.Test.YtgafkaigkaghcaaGreatDoorZeab
import Derived.Test.YtgafkaigkaghcaaGreatDoorZeac
import Derived.Deep.QuietTactic
import Derived.BigQuiet
import Derived.RegionTactic
import Derived.Deep.Cut
import Derived.Deep.RegionHeld3
import Derived.Test.YtgafkaigkaghcaaGreatDoorZeaa
namespace Go.Proofs.YtgafkaigkaghcaaGreatDoor
section
open Go.RowKit Go.Lib
set_option linter.unusedSimpArgs false
set_option linter.unusedVariables false
end
section
open Go.RowKit Go.Lib
set_option linter.unusedSimpArgs false
set_option linter.unusedVariables false
end
section
open Go.RowKit Go.Lib
set_option linter.unusedSimpArgs false
set_option linter.unusedVariables false


def Fin (xs : List Sp) : Prop := ∀ x ∈ xs, B3 x
end
section
open Go.RowKit Go.Lib
set_option linter.unusedSimpArgs false
set_option linter.unusedVariables false
end
section
open Go.RowKit Go.Lib
set_option linter.unusedSimpArgs false
set_option linter.unusedVariables false


set_option maxRecDepth 100000 in
set_option maxHeartbeats 8000000 in
theorem ahead_any (w : World) (x y : Sp) : Calls Tryz.prog 99 #[.agg #[.int .i64 x.1, .int .i64 x.2.1, .int .i64 x.2.2], .agg #[.int .i64 y.1, .int .i64 y.2.1, .int .i64 y.2.2]] w fun e w' => e = .returned (.bool (decide (Lt3 x y))) ∧ Chg [] w w' := by
  obtain ⟨w1, hw1, c1, b0, b1⟩ := news2 w (.cells #[.int .i64 x.1, .int .i64 x.2.1, .int .i64 x.2.2] 78) (.cells #[.int .i64 y.1, .int .i64 y.2.1, .int .i64 y.2.2] 78)
  have W1 := Lib.hid hw1
  have C1 := Lib.hid c1
  have y0 := cell_of b0 0
  have y1 := cell_of b0 1
  have y2 := cell_of b0 2
  have z0 := cell_of b1 0
  have z1 := cell_of b1 1
  have z2 := cell_of b1 2
  simp only [List.getElem?_toArray, List.getElem?_cons_succ, List.getElem?_cons_zero] at y0 y1 y2 z0 z1 z2
  clear hw1 c1 b0 b1
  have fin : ∀ v, decide (Lt3 x y) = v → Calls Tryz.prog 99 #[.agg #[.int .i64 x.1, .int .i64 x.2.1, .int .i64 x.2.2], .agg #[.int .i64 y.1, .int .i64 y.2.1, .int .i64 y.2.2]] w (fun e w' => e = .returned (.bool v) ∧ Chg [] w w') → Calls Tryz.prog 99 #[.agg #[.int .i64 x.1, .int .i64 x.2.1, .int .i64 x.2.2], .agg #[.int .i64 y.1, .int .i64 y.2.1, .int .i64 y.2.2]] w fun e w' => e = .returned (.bool (decide (Lt3 x y))) ∧ Chg [] w w' := fun v hv h => hv ▸ h
  obtain ⟨x1, x2, x3⟩ := x
  obtain ⟨u1, u2, u3⟩ := y
  dsimp only at *
  rcases Int.lt_trichotomy x1 u1 with h | h | h
  · have f1 : x1 < u1 := h
    refine fin true (decide_eq_true (.inl h)) ?_
    clear fin
    go_enter Tryz.func99, Tryz.ntmps99
    go_upto_region 1 with fail
    rw [← W1.out]
    generalize w.heap.size = g0 at *
    go_wp2
    go_ret
    exact ⟨rfl, C1.out⟩
  · subst h
    have f0 : ¬ x1 < x1 := by omega
    have f3 : ((x1 == x1) : Bool) = true := by simp
    rcases Int.lt_trichotomy x2 u2 with h2 | h2 | h2
    · have f1 : x2 < u2 := h2
      refine fin true (decide_eq_true (.inr ⟨rfl, .inl h2⟩)) ?_
      clear fin
      go_enter Tryz.func99, Tryz.ntmps99
      go_upto_region 1 with fail
      rw [← W1.out]
      generalize w.heap.size = g0 at *
      go_wp2
      go_ret
      exact ⟨rfl, C1.out⟩
    · subst h2
      have f4 : ¬ x2 < x2 := by omega
      have f5 : ((x2 == x2) : Bool) = true := by simp
      by_cases h3 : x3 < u3
      · skip
        refine fin true (decide_eq_true (.inr ⟨rfl, .inr ⟨rfl, h3⟩⟩)) ?_
        clear fin
        go_enter Tryz.func99, Tryz.ntmps99
        go_upto_region 1 with fail
        rw [← W1.out]
        generalize w.heap.size = g0 at *
        go_wp2
        go_ret
        exact ⟨rfl, C1.out⟩
      refine fin false (decide_eq_false (by unfold Lt3; simp only; omega)) ?_
      clear fin
      go_enter Tryz.func99, Tryz.ntmps99
      go_upto_region 1 with fail
      rw [← W1.out]
      generalize w.heap.size = g0 at *
      go_wp2
      go_ret
      exact ⟨rfl, C1.out⟩
    · have f4 : ¬ x2 < u2 := by omega
      have f5 : ((x2 == u2) : Bool) = false := by simp; omega
      refine fin false (decide_eq_false (by unfold Lt3; simp only; omega)) ?_
      clear fin
      go_enter Tryz.func99, Tryz.ntmps99
      go_upto_region 1 with fail
      rw [← W1.out]
      generalize w.heap.size = g0 at *
      go_wp2
      go_ret
      exact ⟨rfl, C1.out⟩
  · have f1 : ¬ x1 < u1 := by omega
    have f3 : ((x1 == u1) : Bool) = false := by simp; omega
    refine fin false (decide_eq_false (by unfold Lt3; simp only; omega)) ?_
    clear fin
    go_enter Tryz.func99, Tryz.ntmps99
    go_upto_region 1 with fail
    rw [← W1.out]
    generalize w.heap.size = g0 at *
    go_wp2
    go_ret
    exact ⟨rfl, C1.out⟩
end
section
open Go.RowKit Go.Lib
set_option linter.unusedSimpArgs false
set_option linter.unusedVariables false


def FineQ (n s : Int) : Prop := 1 ≤ n ∧ n ≤ 200 ∧ 1 ≤ s ∧ s ≤ 2147483647
instance (n s : Int) : Decidable (FineQ n s) := by unfold FineQ; exact inferInstance
theorem chk_dot (n s : Int) : chkS [(n, s, s)] = if FineQ n s then 0 else 2 := by
  by_cases h : FineQ n s
  · rw [if_pos h]
    unfold FineQ at h
    refine chk_of_wf ⟨⟨fun x hx => ?_, List.pairwise_singleton _ _⟩, fun x hx => ?_⟩ (by simp)
    · cases List.mem_singleton.1 hx; unfold SpOk; simp
    · cases List.mem_singleton.1 hx; simp only; omega
  · rw [if_neg h]
    rcases chk_two [(n, s, s)] with e | e
    · have w := (wf_of_chk e).1.2 (n, s, s) (by simp)
      simp only at w
      exact absurd (by unfold FineQ; omega) h
    · exact e
set_option maxRecDepth 100000 in
set_option maxHeartbeats 4000000 in
theorem hcheck_dot (w : World) (n s : Int) : Calls Tryz.prog 33 #[.agg #[.int .i64 n, .int .i64 s]] w fun e w' => e = .returned (.int .i64 (chkS [(n, s, s)])) ∧ Chg [] w w' := by
  have go : ∀ v, chkS [(n, s, s)] = v → Calls Tryz.prog 33 #[.agg #[.int .i64 n, .int .i64 s]] w (fun e w' => e = .returned (.int .i64 v) ∧ Chg [] w w') → Calls Tryz.prog 33 #[.agg #[.int .i64 n, .int .i64 s]] w fun e w' => e = .returned (.int .i64 (chkS [(n, s, s)])) ∧ Chg [] w w' := fun v e h => by rw [e]; exact h
  have CD := chk_dot n s
  obtain ⟨w1, hw1, c1, b0⟩ := news1 w (.cells #[.int .i64 n, .int .i64 s] 26)
  have W1 := Lib.hid hw1
  have C1 := Lib.hid c1
  have z0 := cell_of b0 0
  have z1 := cell_of b0 1
  simp only [List.getElem?_toArray, List.getElem?_cons_succ, List.getElem?_cons_zero] at z0 z1
  clear hw1 c1 b0
  by_cases h1 : n < 1
  · skip
    refine go 2 (by rw [CD, if_neg (by unfold FineQ; omega)]) ?_
    clear go CD
    go_enter Tryz.func33, Tryz.ntmps33
    go_upto_region 1 with fail
    rw [← W1.out]
    generalize w.heap.size = g0 at *
    go_wp2
    go_ret
    exact ⟨rfl, C1.out⟩
  by_cases h2 : 200 < n
  · skip
    refine go 2 (by rw [CD, if_neg (by unfold FineQ; omega)]) ?_
    clear go CD
    go_enter Tryz.func33, Tryz.ntmps33
    go_upto_region 1 with fail
    rw [← W1.out]
    generalize w.heap.size = g0 at *
    go_wp2
    go_ret
    exact ⟨rfl, C1.out⟩
  by_cases h3 : s < 1
  · skip
    refine go 2 (by rw [CD, if_neg (by unfold FineQ; omega)]) ?_
    clear go CD
    go_enter Tryz.func33, Tryz.ntmps33
    go_upto_region 1 with fail
    rw [← W1.out]
    generalize w.heap.size = g0 at *
    go_wp2
    go_ret
    exact ⟨rfl, C1.out⟩
  by_cases h4 : 2147483647 < s
  · skip
    refine go 2 (by rw [CD, if_neg (by unfold FineQ; omega)]) ?_
    clear go CD
    go_enter Tryz.func33, Tryz.ntmps33
    go_upto_region 1 with fail
    rw [← W1.out]
    generalize w.heap.size = g0 at *
    go_wp2
    go_ret
    exact ⟨rfl, C1.out⟩
  refine go 0 (by rw [CD, if_pos (by unfold FineQ; omega)]) ?_
  clear go CD
  go_enter Tryz.func33, Tryz.ntmps33
  go_upto_region 1 with fail
  rw [← W1.out]
  generalize w.heap.size = g0 at *
  go_wp2
  go_ret
  exact ⟨rfl, C1.out⟩
end
section
open Go.RowKit Go.Lib
set_option linter.unusedSimpArgs false
set_option linter.unusedVariables false

theorem bounded_few (w : World) (A : Option Addr) (n c : Nat) (h : n ≤ 4000) :
    Calls Tryz.prog 151 #[.slice A n c] w fun e w' => e = .returned (.tuple #[.slice A n c, .int .i64 0]) ∧ Chg [] w w' := by
  go_enter Tryz.func151, Tryz.ntmps151
  go_wp2
  go_ret2
  exact ⟨rfl, Chg.refl _ _⟩
theorem bounded_many (w : World) (A : Option Addr) (n c : Nat) (h : 4000 < n) :
    Calls Tryz.prog 151 #[.slice A n c] w fun e w' => e = .returned (.tuple #[.slice none 0 0, .int .i64 8]) ∧ Chg [] w w' := by
  go_enter Tryz.func151, Tryz.ntmps151
  go_wp2
  go_ret2
  exact ⟨rfl, Chg.refl _ _⟩
set_option maxHeartbeats 1000000 in
theorem alone_any (w : World) (n s : Int) : Calls Tryz.prog 98 #[.agg #[.int .i64 n, .int .i64 s]] w fun e w' => e = .returned (.agg #[.int .i64 n, .int .i64 s, .int .i64 s]) ∧ Chg [] w w' := by
  go_enter Tryz.func98, Tryz.ntmps98
  go_wp2
  refine bodyPost_ret (v := .agg #[.int .i64 n, .int .i64 s, .int .i64 s]) (by simp [results, Tryz.results98, go_sem]) rfl ?_
  exact ⟨rfl, ((Chg.refl [] w).alloc _).alloc _⟩
end
section
open Go.RowKit Go.Lib
set_option linter.unusedSimpArgs false
set_option linter.unusedVariables false


theorem rd_oneS {w : World} {g : Nat} {x : Int × Int × Int} (h : w.heap[g]? = some (.cells #[.int .i64 x.1, .int .i64 x.2.1, .int .i64 x.2.2] 78)) : RdK spanTy w (some ⟨g, 0, none⟩) 1 [x] :=
  ⟨rfl, fun j v hj => ⟨_, rfl, by rw [add_zero_lit, cell_of h j]; simpa [RowTy.flat, spanTy] using hj⟩⟩

set_option maxHeartbeats 4000000 in
set_option maxRecDepth 100000 in
/-- The first span of all. -/
theorem push_first (w : World) (c : Nat) (n f t : Int) (A : Option Addr) (h : OwnK spanTy w A c []) : Calls Tryz.prog 150 #[.slice A 0 c, .agg #[.int .i64 n, .int .i64 f, .int .i64 t]] w fun e w' => ∃ A' c', e = .returned (.slice A' 1 c') ∧ OwnK spanTy w' A' c' [(n, f, t)] ∧ (A' = A ∨ ∀ a, A' = some a → w.heap.size ≤ a.block) ∧ ∀ S : List Nat, (∀ a, A = some a → a.block ∈ S) → Chg S w w' := by
  have HO := Lib.hid h
  clear h
  have C := Lib.hid (Chg.refl [] w)
  obtain ⟨w1, hw1, cw1, b_B0⟩ := news1 w (.cells #[.int .i64 n, .int .i64 f, .int .i64 t] 78)
  have Ww1 := Lib.hid hw1
  have l_B0 := lt_of_heap b_B0
  replace C := Lib.hid (C.out.trans cw1)
  replace HO := Lib.hid (HO.out.chg cw1 (by simp))
  have B0 := Lib.hid (b_B0)
  clear hw1 cw1 b_B0
  go_enter Tryz.func150, Tryz.ntmps150
  go_upto_region 6 with fail
  rw [← Ww1.out]
  generalize w.heap.size = b0 at *
  clear Ww1
  obtain ⟨w2, hw2, c2, b1⟩ := news1 w1 (.cells #[.int .i64 n, .int .i64 f, .int .i64 t] 78)
  have W2 := Lib.hid hw2
  have HR := Lib.hid (rd_oneS (x := (n, f, t)) b1)
  have HO2 := Lib.hid (HO.out.chg c2 (by simp))
  have C2 := Lib.hid (C.out.trans c2)
  clear hw2 c2 b1
  have z_B0_0 := cell_of B0.out 0
  have z_B0_1 := cell_of B0.out 1
  have z_B0_2 := cell_of B0.out 2
  simp only [List.getElem?_toArray, List.getElem?_cons_succ, List.getElem?_cons_zero] at z_B0_0 z_B0_1 z_B0_2
  go_wp2_with (at_builtin; rw [← W2.out]; refine wpList_appK rfl _ _ rfl rfl HO2.out rfl rfl HR.out (by decide) ?_; intro A3 c3 w3 u3 d3 e3)
  go_ret
  refine ⟨A3, c3, rfl, by simpa using u3, ?_, fun S hS => ?_⟩
  · rcases e3 with e | e
    · exact .inl e
    · right; intro a ha; rw [e] at ha; cases ha; exact C2.out.size
  · refine (C2.out.mono (by simp)).grown d3 ?_
    intro k hk
    cases A with
    | none => simp at hk
    | some a => simp at hk; subst hk; exact .inl (hS a rfl)
end
section
open Go.RowKit Go.Lib
set_option linter.unusedSimpArgs false
set_option linter.unusedVariables false



set_option maxHeartbeats 4000000 in
set_option maxRecDepth 100000 in
/-- A span that is behind the last one, and does not touch it. -/
theorem push_apart (w : World) (c : Nat) (n f t : Int) (A : Option Addr) (xs : List (Int × Int × Int)) (y : Int × Int × Int) (h : OwnK spanTy w A c xs) (hx : 0 < xs.length) (hn : xs.length ≤ 100000) (hy : xs[xs.length - 1]? = some y) (y1 : -2147483648 ≤ y.2.2) (y2 : y.2.2 ≤ 2147483647) (ha : ApartS y.1 y.2.2 n f) : Calls Tryz.prog 150 #[.slice A xs.length c, .agg #[.int .i64 n, .int .i64 f, .int .i64 t]] w fun e w' => ∃ A' c', e = .returned (.slice A' (xs.length + 1) c') ∧ OwnK spanTy w' A' c' (xs ++ [(n, f, t)]) ∧ (A' = A ∨ ∀ a, A' = some a → w.heap.size ≤ a.block) ∧ ∀ S : List Nat, (∀ a, A = some a → a.block ∈ S) → Chg S w w' := by
  have HO := Lib.hid h
  obtain ⟨g, o, eA, _⟩ := h.reads.line hx
  have eo : o = 0 := by
    rcases h.shape with ⟨h1, _⟩ | ⟨g', h1, _⟩
    · rw [h1] at eA; cases eA
    · rw [h1] at eA; cases eA; rfl
  subst eo
  subst eA
  have EY := Lib.hid hy
  clear h hy
  have C := Lib.hid (Chg.refl [] w)
  have hA : decide (ApartS y.1 y.2.2 n f) = true := decide_eq_true ha
  have LA := Lib.hid (fun w => apart_any w y.1 y.2.1 y.2.2 n f t y1 y2)
  rw [hA] at LA
  clear hA ha
  have k1 : (0 : Int) < (xs.length : Int) := by omega
  have k2 : ((xs.length : Int) - 1) = ((xs.length - 1 : Nat) : Int) := by omega
  have k3 : ((xs.length - 1 : Nat) : Int) < (xs.length : Int) := by omega
  have k4 : (0 : Int) ≤ ((xs.length - 1 : Nat) : Int) := by omega
  have k5 : IntKind.i64.wrap ((xs.length - 1 : Nat) : Int) = ((xs.length - 1 : Nat) : Int) := IntWalk.i64_in _ (by omega)
  have k6 : decide (0 < xs.length) = true := by simp; omega
  have k7 : decide ((0 : Int) < (xs.length : Int)) = true := by simp; omega
  have N4 := Lib.hid (show (xs.length + 1) * 400 ≤ 140737488355327 by omega)
  obtain ⟨w1, hw1, cw1, b_B0⟩ := news1 w (.cells #[.int .i64 n, .int .i64 f, .int .i64 t] 78)
  have Ww1 := Lib.hid hw1
  have l_B0 := lt_of_heap b_B0
  replace C := Lib.hid (C.out.trans cw1)
  replace HO := Lib.hid (HO.out.chg cw1 (by simp))
  have B0 := Lib.hid (b_B0)
  clear hw1 cw1 b_B0
  go_enter Tryz.func150, Tryz.ntmps150
  go_upto_region 3 with fail
  rw [← Ww1.out]
  generalize w.heap.size = b0 at *
  clear Ww1
  have HY0 := Lib.hid (fun (w' : World) (hc : Chg [] w1 w') => spanCells (HO.out.reads.chg hc (by simp)) EY.out)
  have hc0 : ∀ w', Chg [] w1 w' → w'.cell? ⟨b0, 0, none⟩ = some (.int .i64 n) ∧ w'.cell? ⟨b0, 1, none⟩ = some (.int .i64 f) ∧ w'.cell? ⟨b0, 2, none⟩ = some (.int .i64 t) := by
    intro w' hc
    have b1 := hc.at_ B0.out (by simp)
    exact ⟨cell_of b1 0, cell_of b1 1, cell_of b1 2⟩
  have HC0 := Lib.hid hc0
  clear hc0
  refine wp_region_held_drew (S := fun w' => Chg [] w1 w') (by kernel_rfl) (Chg.refl [] w1).drew (fun hHeld => ?_)
  refine step_yes 0 14 ?_ (by assumption) rfl rfl (by kernel_rfl) (by kernel_rfl) (by kernel_rfl) (fun _ _ _ h => h) (by rfl) ?_ ?_
  rotate_left
  · (intro w hSw; (try dsimp only at hSw); go_simp; try with_reducible rfl)
  try simp only [Act.put, List.setIfInBounds_toArray, List.set_cons_zero, List.set_cons_succ]
  refine step_yes 1 15 ?_ (by assumption) rfl rfl (by kernel_rfl) (by kernel_rfl) (by kernel_rfl) (fun _ _ _ h => h) (by rfl) ?_ ?_
  rotate_left
  · (intro w hSw; (try dsimp only at hSw); go_simp; try with_reducible rfl)
  try simp only [Act.put, List.setIfInBounds_toArray, List.set_cons_zero, List.set_cons_succ]
  refine step_yes 2 16 ?_ (by assumption) rfl rfl (by kernel_rfl) (by kernel_rfl) (by kernel_rfl) (fun _ _ _ h => h) (by rfl) ?_ ?_
  rotate_left
  · (intro w hSw; (try dsimp only at hSw); have hq := HY0.out _ hSw; obtain ⟨q0, q1, q2⟩ := hq; simp only [Nat.zero_add] at q0 q1 q2; go_simp; try with_reducible rfl)
  try simp only [Act.put, List.setIfInBounds_toArray, List.set_cons_zero, List.set_cons_succ]
  refine step_yes 3 17 ?_ (by assumption) rfl rfl (by kernel_rfl) (by kernel_rfl) (by kernel_rfl) (fun _ _ _ h => h) (by rfl) ?_ ?_
  rotate_left
  · (intro w hSw; (try dsimp only at hSw); have hq := HC0.out _ hSw; obtain ⟨q0, q1, q2⟩ := hq; go_simp; try with_reducible rfl)
  try simp only [Act.put, List.setIfInBounds_toArray, List.set_cons_zero, List.set_cons_succ]
  refine wpAnyH_ready (rs := [4]) (by kernel_rfl) (by simp) ?_
  refine AllReadyH.cons rfl (fun K hK => ?_) AllReadyH.nil
  replace hK := Lib.hid hK
  go_simp
  refine (LA.out _).mono ?_
  rintro e w9 ⟨rfl, hc⟩
  have C9 := Lib.hid (hHeld.trans hc)
  clear hc hHeld
  refine hK.out _ _ C9.out (fun hHeld => ?_)
  clear hK K
  try simp only [Act.put, List.setIfInBounds_toArray, List.set_cons_zero, List.set_cons_succ]
  refine step_yes 5 19 ?_ (by assumption) rfl rfl (by kernel_rfl) (by kernel_rfl) (by kernel_rfl) (fun _ _ _ h => h) (by rfl) ?_ ?_
  rotate_left
  · (intro w hSw; (try dsimp only at hSw); go_simp; try with_reducible rfl)
  try simp only [Act.put, List.setIfInBounds_toArray, List.set_cons_zero, List.set_cons_succ]
  refine wpAnyH_done (by kernel_rfl) ?_ _
  replace B0 := Lib.hid (C9.out.at_ B0.out (by simp))
  replace HO := Lib.hid (HO.out.chg C9.out (by simp))
  replace C := Lib.hid (C.out.trans C9.out)
  clear HY0 HC0 C9 hHeld
  go_upto_region 6 with fail
  obtain ⟨w2, hw2, c2, b1⟩ := news1 w9 (.cells #[.int .i64 n, .int .i64 f, .int .i64 t] 78)
  have W2 := Lib.hid hw2
  have HR := Lib.hid (rd_oneS (x := (n, f, t)) b1)
  have HO2 := Lib.hid (HO.out.chg c2 (by simp))
  have C2 := Lib.hid (C.out.trans c2)
  clear hw2 c2 b1
  have z_B0_0 := cell_of B0.out 0
  have z_B0_1 := cell_of B0.out 1
  have z_B0_2 := cell_of B0.out 2
  simp only [List.getElem?_toArray, List.getElem?_cons_succ, List.getElem?_cons_zero] at z_B0_0 z_B0_1 z_B0_2
  go_wp2_with (at_builtin; rw [← W2.out]; refine wpList_appK rfl _ _ rfl rfl HO2.out rfl rfl HR.out N4.out ?_; intro A3 c3 w3 u3 d3 e3)
  go_ret
  refine ⟨A3, c3, rfl, u3, ?_, fun S hS => ?_⟩
  · rcases e3 with e | e
    · exact .inl e
    · right; intro a ha; rw [e] at ha; cases ha; exact C2.out.size
  · refine (C2.out.mono (by simp)).grown d3 ?_
    intro k hk
    simp at hk; subst hk; exact .inl (hS _ rfl)
end
section
set_option linter.unusedSimpArgs false
set_option linter.unusedVariables false
variable {α : Type} {R : RowTy α}
theorem flat_set (full : List α) (j i : Nat) (x x' : α) (v : Value) (hx : full[j]? = some x) (hi : i < R.k) (he : ∀ q, q < R.k → (R.enc x')[q]? = if q = i then some v else (R.enc x)[q]?) :
    (R.flat full).set (j * R.k + i) v = R.flat (full.set j x') := by
  have hj := (List.getElem?_eq_some_iff.1 hx).1
  have hb : j * R.k + i < full.length * R.k := by
    have : (j + 1) * R.k ≤ full.length * R.k := Nat.mul_le_mul_right _ hj
    rw [Nat.add_mul, Nat.one_mul] at this
    omega
  refine R.flat_ext _ _ (by rw [List.length_set, R.flat_len, List.length_set]) (fun q p y hy hp => ?_)
  rw [List.getElem?_set] at hy
  rw [List.getElem?_set, R.flat_len]
  by_cases e : j = q
  · subst e
    rw [if_pos rfl, if_pos hj] at hy
    cases hy
    rw [he p hp]
    by_cases e2 : p = i
    · subst e2
      rw [if_pos rfl, if_pos hb, if_pos rfl]
    · rw [if_neg (by omega), if_neg e2, R.flat_at full j p x hx hp]
  · rw [if_neg e] at hy
    rw [if_neg, R.flat_at full q p y hy hp]
    intro e3
    rcases Nat.lt_or_gt_of_ne e with h | h
    · have : (j + 1) * R.k ≤ q * R.k := Nat.mul_le_mul_right _ h
      rw [Nat.add_mul, Nat.one_mul] at this
      omega
    · have : (q + 1) * R.k ≤ j * R.k := Nat.mul_le_mul_right _ h
      rw [Nat.add_mul, Nat.one_mul] at this
      omega
theorem OwnK.setc {w : World} {g c : Nat} {xs : List α} (h : OwnK R w (some ⟨g, 0, none⟩) c xs) (j i : Nat) (x x' : α) (v : Value) (hx : xs[j]? = some x) (hi : i < R.k) (he : ∀ q, q < R.k → (R.enc x')[q]? = if q = i then some v else (R.enc x)[q]?) :
    OwnK R (w.setCell ⟨g, j * R.k + i, none⟩ v) (some ⟨g, 0, none⟩) c (xs.set j x') := by
  have hj := (List.getElem?_eq_some_iff.1 hx).1
  rcases h with ⟨h, _⟩ | ⟨g', full, e, hg, h1, h2, h3, h4⟩
  · cases h
  · cases e
    have hx' : full[j]? = some x := by
      rw [← h4, List.getElem?_take, if_pos hj] at hx
      exact hx
    refine OwnK.of (full := full.set j x') ?_ (by simpa using h3) h2 (by simpa using h1) ?_
    · have := heap_setCell_same w g (j * R.k + i) _ _ v hg
      rw [this, List.setIfInBounds_toArray, flat_set full j i x x' v hx' hi he]
    · rw [List.length_set, List.take_set, h4]
end
section
open Go.RowKit Go.Lib
set_option linter.unusedSimpArgs false
set_option linter.unusedVariables false


theorem spanSetTo (y : Int × Int × Int) (v : Int) : ∀ q, q < spanTy.k → (spanTy.enc (y.1, y.2.1, v))[q]? = if q = 2 then some (.int .i64 v) else (spanTy.enc y)[q]?
  | 0, _ => rfl
  | 1, _ => rfl
  | 2, _ => rfl
  | q + 3, h => absurd h (by have : spanTy.k = 3 := rfl; omega)
theorem own_free {w : World} {g c : Nat} {xs : List (Int × Int × Int)} (h : OwnK spanTy w (some ⟨g, 0, none⟩) c xs) (j : Nat) : w.frozen? ⟨g, j, none⟩ = false := by
  rcases h with ⟨h, _⟩ | ⟨g', full, e, hg, _⟩
  · cases h
  · cases e; exact free_of hg j
set_option maxHeartbeats 4000000 in
set_option maxRecDepth 100000 in
/-- A span that touches the last one. -/
theorem push_touches (w : World) (c : Nat) (n f t : Int) (A : Option Addr) (xs : List (Int × Int × Int)) (y : Int × Int × Int) (h : OwnK spanTy w A c xs) (hx : 0 < xs.length) (hn : xs.length ≤ 100000) (hy : xs[xs.length - 1]? = some y) (y1 : -2147483648 ≤ y.2.2) (y2 : y.2.2 ≤ 2147483647) (ha : ¬ ApartS y.1 y.2.2 n f) : Calls Tryz.prog 150 #[.slice A xs.length c, .agg #[.int .i64 n, .int .i64 f, .int .i64 t]] w fun e w' => e = .returned (.slice A xs.length c) ∧ OwnK spanTy w' A c (xs.set (xs.length - 1) (y.1, y.2.1, max y.2.2 t)) ∧ ∀ S : List Nat, (∀ a, A = some a → a.block ∈ S) → Chg S w w' := by

  have HO := Lib.hid h
  obtain ⟨g, o, eA, _⟩ := h.reads.line hx
  have eo : o = 0 := by
    rcases h.shape with ⟨h1, _⟩ | ⟨g', h1, _⟩
    · rw [h1] at eA; cases eA
    · rw [h1] at eA; cases eA; rfl
  subst eo
  subst eA
  have EY := Lib.hid hy
  have HG := Lib.hid (h.lt ⟨g, 0, none⟩ rfl)
  clear h hy
  have C := Lib.hid (Chg.refl [] w)
  have hA : decide (ApartS y.1 y.2.2 n f) = false := decide_eq_false ha
  have LA := Lib.hid (fun w => apart_any w y.1 y.2.1 y.2.2 n f t y1 y2)
  rw [hA] at LA
  clear hA ha
  have k1 : (0 : Int) < (xs.length : Int) := by omega
  have k2 : ((xs.length : Int) - 1) = ((xs.length - 1 : Nat) : Int) := by omega
  have k3 : ((xs.length - 1 : Nat) : Int) < (xs.length : Int) := by omega
  have k4 : (0 : Int) ≤ ((xs.length - 1 : Nat) : Int) := by omega
  have k5 : IntKind.i64.wrap ((xs.length - 1 : Nat) : Int) = ((xs.length - 1 : Nat) : Int) := IntWalk.i64_in _ (by omega)
  have k6 : decide (0 < xs.length) = true := by simp; omega
  have k7 : decide ((0 : Int) < (xs.length : Int)) = true := by simp; omega
  obtain ⟨w1, hw1, cw1, b_B0⟩ := news1 w (.cells #[.int .i64 n, .int .i64 f, .int .i64 t] 78)
  have Ww1 := Lib.hid hw1
  have l_B0 := lt_of_heap b_B0
  replace C := Lib.hid (C.out.trans cw1)
  replace HO := Lib.hid (HO.out.chg cw1 (by simp))
  have B0 := Lib.hid (b_B0)
  clear hw1 cw1 b_B0
  go_enter Tryz.func150, Tryz.ntmps150
  go_upto_region 3 with fail
  rw [← Ww1.out]
  generalize w.heap.size = b0 at *
  clear Ww1
  have HY0 := Lib.hid (fun (w' : World) (hc : Chg [] w1 w') => spanCells (HO.out.reads.chg hc (by simp)) EY.out)
  have hc0 : ∀ w', Chg [] w1 w' → w'.cell? ⟨b0, 0, none⟩ = some (.int .i64 n) ∧ w'.cell? ⟨b0, 1, none⟩ = some (.int .i64 f) ∧ w'.cell? ⟨b0, 2, none⟩ = some (.int .i64 t) := by
    intro w' hc
    have b1 := hc.at_ B0.out (by simp)
    exact ⟨cell_of b1 0, cell_of b1 1, cell_of b1 2⟩
  have HC0 := Lib.hid hc0
  clear hc0
  refine wp_region_held_drew (S := fun w' => Chg [] w1 w') (by kernel_rfl) (Chg.refl [] w1).drew (fun hHeld => ?_)
  refine sy 0 14 rfl rfl ?_
  try simp only [Act.put, sA, s0, s1]
  refine sy 1 15 rfl rfl ?_
  try simp only [Act.put, sA, s0, s1]
  refine sy 2 16 rfl rfl ?_ (hy := by (intro w hSw; (try dsimp only at hSw); have hq := HY0.out _ hSw; obtain ⟨q0, q1, q2⟩ := hq; simp only [Nat.zero_add] at q0 q1 q2; go_simp; try with_reducible rfl))
  try simp only [Act.put, sA, s0, s1]
  refine sy 3 17 rfl rfl ?_ (hy := by (intro w hSw; (try dsimp only at hSw); have hq := HC0.out _ hSw; obtain ⟨q0, q1, q2⟩ := hq; go_simp; try with_reducible rfl))
  try simp only [Act.put, sA, s0, s1]
  refine wpAnyH_ready (rs := [4]) (by kernel_rfl) (by simp) ?_
  refine AllReadyH.cons rfl (fun K hK => ?_) AllReadyH.nil
  replace hK := Lib.hid hK
  go_simp
  refine (LA.out _).mono ?_
  rintro e w9 ⟨rfl, hc⟩
  have C9 := Lib.hid (hHeld.trans hc)
  clear hc hHeld
  refine hK.out _ _ C9.out (fun hHeld => ?_)
  clear hK K
  try simp only [Act.put, sA, s0, s1]
  refine sy 5 19 rfl rfl ?_
  try simp only [Act.put, sA, s0, s1]
  refine wpAnyH_done (by kernel_rfl) ?_ _
  replace B0 := Lib.hid (C9.out.at_ B0.out (by simp))
  replace HO := Lib.hid (HO.out.chg C9.out (by simp))
  replace C := Lib.hid (C.out.trans C9.out)
  clear HY0 HC0 C9 hHeld
  go_upto_region 4 with fail
  have zt := cell_of B0.out 2
  simp only [List.getElem?_toArray, List.getElem?_cons_succ, List.getElem?_cons_zero] at zt
  refine wp_region_held_drew (S := fun w' => w'.cell? ⟨b0, 2, none⟩ = some (.int .i64 t)) (by kernel_rfl) zt (fun hHeld => ?_)
  have CD := Lib.hid (Chg.refl [] w9).drew
  have ZT : w9.drew.cell? ⟨b0, 2, none⟩ = some (.int .i64 t) := CD.out.cell zt (by simp)
  replace HO := Lib.hid (HO.out.chg CD.out (by simp))
  replace C := Lib.hid (C.out.trans CD.out)
  have BG : Hid (b0 ≠ g) := Lib.hid (by have := HG.out; simp only at this; omega)
  have SPC := Lib.hid (spanCells HO.out.reads EY.out)
  have FR := Lib.hid (own_free HO.out ((xs.length - 1) * 3 + 2))
  clear CD zt B0
  generalize w9.drew = wd at *
  refine sy 0 20 rfl rfl ?_
  try simp only [Act.put, sA, s0, s1]
  refine sy 1 21 rfl rfl ?_
  try simp only [Act.put, sA, s0, s1]
  refine sy 2 22 rfl rfl ?_
  try simp only [Act.put, sA, s0, s1]
  refine sy 3 23 rfl rfl ?_
  try simp only [Act.put, sA, s0, s1]
  refine sy 5 25 rfl rfl ?_
  try simp only [Act.put, sA, s0, s1]
  refine sy 6 26 rfl rfl ?_ (hy := by (intro w hSw; (try dsimp only at hSw); have q := hSw; go_simp; try with_reducible rfl))
  try simp only [Act.put, sA, s0, s1]
  refine wpAnyH_ready (rs := [4]) (by kernel_rfl) (by simp) ?_
  refine AllReadyH.cons rfl (fun K hK => ?_) AllReadyH.nil
  replace hK := Lib.hid hK
  have z := SPC.out.2.2
  rw [Nat.zero_add] at z
  go_simp
  clear z hHeld
  refine hK.out _ _ ZT (fun hHeld => ?_)
  clear hK K
  try simp only [Act.put, sA, s0, s1]
  refine sy 7 27 rfl rfl ?_
  try simp only [Act.put, sA, s0, s1]
  refine sy 8 28 rfl rfl ?_
  try simp only [Act.put, sA, s0, s1]
  refine sy 9 29 rfl rfl ?_
  try simp only [Act.put, sA, s0, s1]
  refine wpAnyH_ready (rs := [10]) (by kernel_rfl) (by simp) ?_
  refine AllReadyH.cons rfl (fun K hK => ?_) AllReadyH.nil
  replace hK := Lib.hid hK
  have z := SPC.out.2.2
  rw [Nat.zero_add] at z
  have fz := FR.out
  skip
  go_simp
  clear z fz hHeld
  refine hK.out _ _ (((Chg.refl [g] wd).setCell (p := ⟨g, (xs.length - 1) * 3 + 2, none⟩) (.inl (by simp)) _).cell ZT (by simp; exact BG.out)) (fun hHeld => ?_)
  clear hK K
  try simp only [Act.put, sA, s0, s1]
  refine wpAnyH_done (by kernel_rfl) ?_ _
  have HX : Hid (∀ v : Int, v = max y.2.2 t → OwnK spanTy (wd.setCell ⟨g, (xs.length - 1) * 3 + 2, none⟩ (.int .i64 v)) (some ⟨g, 0, none⟩) c (xs.set (xs.length - 1) (y.1, y.2.1, max y.2.2 t)) ∧ ∀ S : List Nat, g ∈ S → Chg S w (wd.setCell ⟨g, (xs.length - 1) * 3 + 2, none⟩ (.int .i64 v))) := Lib.hid (fun v hv => by
    subst hv
    exact ⟨HO.out.setc (xs.length - 1) 2 y (y.1, y.2.1, max y.2.2 t) (.int .i64 (max y.2.2 t)) EY.out (by decide) (spanSetTo y _), fun S hS => (C.out.mono (by simp)).trans ((Chg.refl [g] wd).setCell (p := ⟨g, (xs.length - 1) * 3 + 2, none⟩) (.inl (by simp)) (.int .i64 (max y.2.2 t)) |>.mono (fun i hi => by simp at hi; subst hi; exact .inl hS))⟩)
  clear hHeld
  go_wp2
  all_goals
    go_ret
    exact ⟨rfl, (HX.out _ (by omega)).1, fun S hS => (HX.out _ (by omega)).2 S (by simpa using hS)⟩
end
end Go.Proofs.YtgafkaigkaghcaaGreatDoor
