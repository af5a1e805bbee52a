/- past.push. past.push behind a span. A row of structs: one cell of one of them is stored. No program here. past.push onto the last span. past.push, whatever comes. past: a cursor goes on. past.begin. past: a sweep begins. past: a cursor goes on. past: a cursor passes. past: a cursor goes on. past: a cursor passes. past.until. -/
import Derived.Test.YtgafkphhnlifiaaZphb
import Derived.Deep.Cut
import Derived.Deep.RegionHeld3
import Derived.Test.YtgafkphhnlifiaaZpha
namespace Go.Proofs.Ytgafkphhnlifiaa
section
open Go.RowKit Go.Lib
set_option linter.unusedSimpArgs false
set_option linter.unusedVariables false


theorem rd_oneS {w : World} {g : Nat} {x : Int × Int × Int} (h : w.heap[g]? = some (.cells #[.int .i64 x.1, .int .i64 x.2.1, .int .i64 x.2.2] 62)) : RdK spanTy w (some ⟨g, 0, none⟩) 1 [x] :=
  ⟨rfl, fun j v hj => ⟨_, rfl, by rw [add_zero_lit, cell_of h j]; simpa [RowTy.flat, spanTy] using hj⟩⟩

set_option maxHeartbeats 4000000 in
set_option maxRecDepth 100000 in
/-- The first span of all. -/
theorem push_first (w : World) (c : Nat) (n f t : Int) (A : Option Addr) (h : OwnK spanTy w A c []) : Calls Try.prog 46 #[.slice A 0 c, .agg #[.int .i64 n, .int .i64 f, .int .i64 t]] w fun e w' => ∃ A' c', e = .returned (.slice A' 1 c') ∧ OwnK spanTy w' A' c' [(n, f, t)] ∧ (A' = A ∨ ∀ a, A' = some a → w.heap.size ≤ a.block) ∧ ∀ S : List Nat, (∀ a, A = some a → a.block ∈ S) → Chg S w w' := by
  have HO := Lib.hid h
  clear h
  have C := Lib.hid (Chg.refl [] w)
  obtain ⟨w1, hw1, cw1, b_B0⟩ := news1 w (.cells #[.int .i64 n, .int .i64 f, .int .i64 t] 62)
  have Ww1 := Lib.hid hw1
  have l_B0 := lt_of_heap b_B0
  replace C := Lib.hid (C.out.trans cw1)
  replace HO := Lib.hid (HO.out.chg cw1 (by simp))
  have B0 := Lib.hid (b_B0)
  clear hw1 cw1 b_B0
  go_enter Try.func46, Try.ntmps46
  go_upto_region 6 with fail
  rw [← Ww1.out]
  generalize w.heap.size = b0 at *
  clear Ww1
  obtain ⟨w2, hw2, c2, b1⟩ := news1 w1 (.cells #[.int .i64 n, .int .i64 f, .int .i64 t] 62)
  have W2 := Lib.hid hw2
  have HR := Lib.hid (rd_oneS (x := (n, f, t)) b1)
  have HO2 := Lib.hid (HO.out.chg c2 (by simp))
  have C2 := Lib.hid (C.out.trans c2)
  clear hw2 c2 b1
  have z_B0_0 := cell_of B0.out 0
  have z_B0_1 := cell_of B0.out 1
  have z_B0_2 := cell_of B0.out 2
  simp only [List.getElem?_toArray, List.getElem?_cons_succ, List.getElem?_cons_zero] at z_B0_0 z_B0_1 z_B0_2
  go_wp2_with (at_builtin; rw [← W2.out]; refine wpList_appK rfl _ _ rfl rfl HO2.out rfl rfl HR.out (by decide) ?_; intro A3 c3 w3 u3 d3 e3)
  go_ret
  refine ⟨A3, c3, rfl, by simpa using u3, ?_, fun S hS => ?_⟩
  · rcases e3 with e | e
    · exact .inl e
    · right; intro a ha; rw [e] at ha; cases ha; exact C2.out.size
  · refine (C2.out.mono (by simp)).grown d3 ?_
    intro k hk
    cases A with
    | none => simp at hk
    | some a => simp at hk; subst hk; exact .inl (hS a rfl)
end
section
open Go.RowKit Go.Lib
set_option linter.unusedSimpArgs false
set_option linter.unusedVariables false



set_option maxHeartbeats 4000000 in
set_option maxRecDepth 100000 in
/-- A span that is behind the last one, and does not touch it. -/
theorem push_apart (w : World) (c : Nat) (n f t : Int) (A : Option Addr) (xs : List (Int × Int × Int)) (y : Int × Int × Int) (h : OwnK spanTy w A c xs) (hx : 0 < xs.length) (hn : xs.length ≤ 100000) (hy : xs[xs.length - 1]? = some y) (y1 : -2147483648 ≤ y.2.2) (y2 : y.2.2 ≤ 2147483647) (ha : ApartS y.1 y.2.2 n f) : Calls Try.prog 46 #[.slice A xs.length c, .agg #[.int .i64 n, .int .i64 f, .int .i64 t]] w fun e w' => ∃ A' c', e = .returned (.slice A' (xs.length + 1) c') ∧ OwnK spanTy w' A' c' (xs ++ [(n, f, t)]) ∧ (A' = A ∨ ∀ a, A' = some a → w.heap.size ≤ a.block) ∧ ∀ S : List Nat, (∀ a, A = some a → a.block ∈ S) → Chg S w w' := by
  have HO := Lib.hid h
  obtain ⟨g, o, eA, _⟩ := h.reads.line hx
  have eo : o = 0 := by
    rcases h.shape with ⟨h1, _⟩ | ⟨g', h1, _⟩
    · rw [h1] at eA; cases eA
    · rw [h1] at eA; cases eA; rfl
  subst eo
  subst eA
  have EY := Lib.hid hy
  clear h hy
  have C := Lib.hid (Chg.refl [] w)
  have hA : decide (ApartS y.1 y.2.2 n f) = true := decide_eq_true ha
  have LA := Lib.hid (fun w => apart_any w y.1 y.2.1 y.2.2 n f t y1 y2)
  rw [hA] at LA
  clear hA ha
  have k1 : (0 : Int) < (xs.length : Int) := by omega
  have k2 : ((xs.length : Int) - 1) = ((xs.length - 1 : Nat) : Int) := by omega
  have k3 : ((xs.length - 1 : Nat) : Int) < (xs.length : Int) := by omega
  have k4 : (0 : Int) ≤ ((xs.length - 1 : Nat) : Int) := by omega
  have k5 : IntKind.i64.wrap ((xs.length - 1 : Nat) : Int) = ((xs.length - 1 : Nat) : Int) := IntWalk.i64_in _ (by omega)
  have k6 : decide (0 < xs.length) = true := by simp; omega
  have k7 : decide ((0 : Int) < (xs.length : Int)) = true := by simp; omega
  have N4 := Lib.hid (show (xs.length + 1) * 400 ≤ 140737488355327 by omega)
  obtain ⟨w1, hw1, cw1, b_B0⟩ := news1 w (.cells #[.int .i64 n, .int .i64 f, .int .i64 t] 62)
  have Ww1 := Lib.hid hw1
  have l_B0 := lt_of_heap b_B0
  replace C := Lib.hid (C.out.trans cw1)
  replace HO := Lib.hid (HO.out.chg cw1 (by simp))
  have B0 := Lib.hid (b_B0)
  clear hw1 cw1 b_B0
  go_enter Try.func46, Try.ntmps46
  go_upto_region 3 with fail
  rw [← Ww1.out]
  generalize w.heap.size = b0 at *
  clear Ww1
  have HY0 := Lib.hid (fun (w' : World) (hc : Chg [] w1 w') => spanCells (HO.out.reads.chg hc (by simp)) EY.out)
  have hc0 : ∀ w', Chg [] w1 w' → w'.cell? ⟨b0, 0, none⟩ = some (.int .i64 n) ∧ w'.cell? ⟨b0, 1, none⟩ = some (.int .i64 f) ∧ w'.cell? ⟨b0, 2, none⟩ = some (.int .i64 t) := by
    intro w' hc
    have b1 := hc.at_ B0.out (by simp)
    exact ⟨cell_of b1 0, cell_of b1 1, cell_of b1 2⟩
  have HC0 := Lib.hid hc0
  clear hc0
  refine wp_region_held_drew (S := fun w' => Chg [] w1 w') (by kernel_rfl) (Chg.refl [] w1).drew (fun hHeld => ?_)
  refine step_yes 0 14 ?_ (by assumption) rfl rfl (by kernel_rfl) (by kernel_rfl) (by kernel_rfl) (fun _ _ _ h => h) (by rfl) ?_ ?_
  rotate_left
  · (intro w hSw; (try dsimp only at hSw); go_simp; try with_reducible rfl)
  try simp only [Act.put, List.setIfInBounds_toArray, List.set_cons_zero, List.set_cons_succ]
  refine step_yes 1 15 ?_ (by assumption) rfl rfl (by kernel_rfl) (by kernel_rfl) (by kernel_rfl) (fun _ _ _ h => h) (by rfl) ?_ ?_
  rotate_left
  · (intro w hSw; (try dsimp only at hSw); go_simp; try with_reducible rfl)
  try simp only [Act.put, List.setIfInBounds_toArray, List.set_cons_zero, List.set_cons_succ]
  refine step_yes 2 16 ?_ (by assumption) rfl rfl (by kernel_rfl) (by kernel_rfl) (by kernel_rfl) (fun _ _ _ h => h) (by rfl) ?_ ?_
  rotate_left
  · (intro w hSw; (try dsimp only at hSw); have hq := HY0.out _ hSw; obtain ⟨q0, q1, q2⟩ := hq; simp only [Nat.zero_add] at q0 q1 q2; go_simp; try with_reducible rfl)
  try simp only [Act.put, List.setIfInBounds_toArray, List.set_cons_zero, List.set_cons_succ]
  refine step_yes 3 17 ?_ (by assumption) rfl rfl (by kernel_rfl) (by kernel_rfl) (by kernel_rfl) (fun _ _ _ h => h) (by rfl) ?_ ?_
  rotate_left
  · (intro w hSw; (try dsimp only at hSw); have hq := HC0.out _ hSw; obtain ⟨q0, q1, q2⟩ := hq; go_simp; try with_reducible rfl)
  try simp only [Act.put, List.setIfInBounds_toArray, List.set_cons_zero, List.set_cons_succ]
  refine wpAnyH_ready (rs := [4]) (by kernel_rfl) (by simp) ?_
  refine AllReadyH.cons rfl (fun K hK => ?_) AllReadyH.nil
  replace hK := Lib.hid hK
  go_simp
  refine (LA.out _).mono ?_
  rintro e w9 ⟨rfl, hc⟩
  have C9 := Lib.hid (hHeld.trans hc)
  clear hc hHeld
  refine hK.out _ _ C9.out (fun hHeld => ?_)
  clear hK K
  try simp only [Act.put, List.setIfInBounds_toArray, List.set_cons_zero, List.set_cons_succ]
  refine step_yes 5 19 ?_ (by assumption) rfl rfl (by kernel_rfl) (by kernel_rfl) (by kernel_rfl) (fun _ _ _ h => h) (by rfl) ?_ ?_
  rotate_left
  · (intro w hSw; (try dsimp only at hSw); go_simp; try with_reducible rfl)
  try simp only [Act.put, List.setIfInBounds_toArray, List.set_cons_zero, List.set_cons_succ]
  refine wpAnyH_done (by kernel_rfl) ?_ _
  replace B0 := Lib.hid (C9.out.at_ B0.out (by simp))
  replace HO := Lib.hid (HO.out.chg C9.out (by simp))
  replace C := Lib.hid (C.out.trans C9.out)
  clear HY0 HC0 C9 hHeld
  go_upto_region 6 with fail
  obtain ⟨w2, hw2, c2, b1⟩ := news1 w9 (.cells #[.int .i64 n, .int .i64 f, .int .i64 t] 62)
  have W2 := Lib.hid hw2
  have HR := Lib.hid (rd_oneS (x := (n, f, t)) b1)
  have HO2 := Lib.hid (HO.out.chg c2 (by simp))
  have C2 := Lib.hid (C.out.trans c2)
  clear hw2 c2 b1
  have z_B0_0 := cell_of B0.out 0
  have z_B0_1 := cell_of B0.out 1
  have z_B0_2 := cell_of B0.out 2
  simp only [List.getElem?_toArray, List.getElem?_cons_succ, List.getElem?_cons_zero] at z_B0_0 z_B0_1 z_B0_2
  go_wp2_with (at_builtin; rw [← W2.out]; refine wpList_appK rfl _ _ rfl rfl HO2.out rfl rfl HR.out N4.out ?_; intro A3 c3 w3 u3 d3 e3)
  go_ret
  refine ⟨A3, c3, rfl, u3, ?_, fun S hS => ?_⟩
  · rcases e3 with e | e
    · exact .inl e
    · right; intro a ha; rw [e] at ha; cases ha; exact C2.out.size
  · refine (C2.out.mono (by simp)).grown d3 ?_
    intro k hk
    simp at hk; subst hk; exact .inl (hS _ rfl)
end
section
set_option linter.unusedSimpArgs false
set_option linter.unusedVariables false
variable {α : Type} {R : RowTy α}
theorem flat_set (full : List α) (j i : Nat) (x x' : α) (v : Value) (hx : full[j]? = some x) (hi : i < R.k) (he : ∀ q, q < R.k → (R.enc x')[q]? = if q = i then some v else (R.enc x)[q]?) :
    (R.flat full).set (j * R.k + i) v = R.flat (full.set j x') := by
  have hj := (List.getElem?_eq_some_iff.1 hx).1
  have hb : j * R.k + i < full.length * R.k := by
    have : (j + 1) * R.k ≤ full.length * R.k := Nat.mul_le_mul_right _ hj
    rw [Nat.add_mul, Nat.one_mul] at this
    omega
  refine R.flat_ext _ _ (by rw [List.length_set, R.flat_len, List.length_set]) (fun q p y hy hp => ?_)
  rw [List.getElem?_set] at hy
  rw [List.getElem?_set, R.flat_len]
  by_cases e : j = q
  · subst e
    rw [if_pos rfl, if_pos hj] at hy
    cases hy
    rw [he p hp]
    by_cases e2 : p = i
    · subst e2
      rw [if_pos rfl, if_pos hb, if_pos rfl]
    · rw [if_neg (by omega), if_neg e2, R.flat_at full j p x hx hp]
  · rw [if_neg e] at hy
    rw [if_neg, R.flat_at full q p y hy hp]
    intro e3
    rcases Nat.lt_or_gt_of_ne e with h | h
    · have : (j + 1) * R.k ≤ q * R.k := Nat.mul_le_mul_right _ h
      rw [Nat.add_mul, Nat.one_mul] at this
      omega
    · have : (q + 1) * R.k ≤ j * R.k := Nat.mul_le_mul_right _ h
      rw [Nat.add_mul, Nat.one_mul] at this
      omega
theorem OwnK.setc {w : World} {g c : Nat} {xs : List α} (h : OwnK R w (some ⟨g, 0, none⟩) c xs) (j i : Nat) (x x' : α) (v : Value) (hx : xs[j]? = some x) (hi : i < R.k) (he : ∀ q, q < R.k → (R.enc x')[q]? = if q = i then some v else (R.enc x)[q]?) :
    OwnK R (w.setCell ⟨g, j * R.k + i, none⟩ v) (some ⟨g, 0, none⟩) c (xs.set j x') := by
  have hj := (List.getElem?_eq_some_iff.1 hx).1
  rcases h with ⟨h, _⟩ | ⟨g', full, e, hg, h1, h2, h3, h4⟩
  · cases h
  · cases e
    have hx' : full[j]? = some x := by
      rw [← h4, List.getElem?_take, if_pos hj] at hx
      exact hx
    refine OwnK.of (full := full.set j x') ?_ (by simpa using h3) h2 (by simpa using h1) ?_
    · have := heap_setCell_same w g (j * R.k + i) _ _ v hg
      rw [this, List.setIfInBounds_toArray, flat_set full j i x x' v hx' hi he]
    · rw [List.length_set, List.take_set, h4]
end
section
open Go.RowKit Go.Lib
set_option linter.unusedSimpArgs false
set_option linter.unusedVariables false


theorem spanSetTo (y : Int × Int × Int) (v : Int) : ∀ q, q < spanTy.k → (spanTy.enc (y.1, y.2.1, v))[q]? = if q = 2 then some (.int .i64 v) else (spanTy.enc y)[q]?
  | 0, _ => rfl
  | 1, _ => rfl
  | 2, _ => rfl
  | q + 3, h => absurd h (by have : spanTy.k = 3 := rfl; omega)
theorem own_free {w : World} {g c : Nat} {xs : List (Int × Int × Int)} (h : OwnK spanTy w (some ⟨g, 0, none⟩) c xs) (j : Nat) : w.frozen? ⟨g, j, none⟩ = false := by
  rcases h with ⟨h, _⟩ | ⟨g', full, e, hg, _⟩
  · cases h
  · cases e; exact free_of hg j
set_option maxHeartbeats 4000000 in
set_option maxRecDepth 100000 in
/-- A span that touches the last one. -/
theorem push_touches (w : World) (c : Nat) (n f t : Int) (A : Option Addr) (xs : List (Int × Int × Int)) (y : Int × Int × Int) (h : OwnK spanTy w A c xs) (hx : 0 < xs.length) (hn : xs.length ≤ 100000) (hy : xs[xs.length - 1]? = some y) (y1 : -2147483648 ≤ y.2.2) (y2 : y.2.2 ≤ 2147483647) (ha : ¬ ApartS y.1 y.2.2 n f) : Calls Try.prog 46 #[.slice A xs.length c, .agg #[.int .i64 n, .int .i64 f, .int .i64 t]] w fun e w' => e = .returned (.slice A xs.length c) ∧ OwnK spanTy w' A c (xs.set (xs.length - 1) (y.1, y.2.1, max y.2.2 t)) ∧ ∀ S : List Nat, (∀ a, A = some a → a.block ∈ S) → Chg S w w' := by

  have HO := Lib.hid h
  obtain ⟨g, o, eA, _⟩ := h.reads.line hx
  have eo : o = 0 := by
    rcases h.shape with ⟨h1, _⟩ | ⟨g', h1, _⟩
    · rw [h1] at eA; cases eA
    · rw [h1] at eA; cases eA; rfl
  subst eo
  subst eA
  have EY := Lib.hid hy
  have HG := Lib.hid (h.lt ⟨g, 0, none⟩ rfl)
  clear h hy
  have C := Lib.hid (Chg.refl [] w)
  have hA : decide (ApartS y.1 y.2.2 n f) = false := decide_eq_false ha
  have LA := Lib.hid (fun w => apart_any w y.1 y.2.1 y.2.2 n f t y1 y2)
  rw [hA] at LA
  clear hA ha
  have k1 : (0 : Int) < (xs.length : Int) := by omega
  have k2 : ((xs.length : Int) - 1) = ((xs.length - 1 : Nat) : Int) := by omega
  have k3 : ((xs.length - 1 : Nat) : Int) < (xs.length : Int) := by omega
  have k4 : (0 : Int) ≤ ((xs.length - 1 : Nat) : Int) := by omega
  have k5 : IntKind.i64.wrap ((xs.length - 1 : Nat) : Int) = ((xs.length - 1 : Nat) : Int) := IntWalk.i64_in _ (by omega)
  have k6 : decide (0 < xs.length) = true := by simp; omega
  have k7 : decide ((0 : Int) < (xs.length : Int)) = true := by simp; omega
  obtain ⟨w1, hw1, cw1, b_B0⟩ := news1 w (.cells #[.int .i64 n, .int .i64 f, .int .i64 t] 62)
  have Ww1 := Lib.hid hw1
  have l_B0 := lt_of_heap b_B0
  replace C := Lib.hid (C.out.trans cw1)
  replace HO := Lib.hid (HO.out.chg cw1 (by simp))
  have B0 := Lib.hid (b_B0)
  clear hw1 cw1 b_B0
  go_enter Try.func46, Try.ntmps46
  go_upto_region 3 with fail
  rw [← Ww1.out]
  generalize w.heap.size = b0 at *
  clear Ww1
  have HY0 := Lib.hid (fun (w' : World) (hc : Chg [] w1 w') => spanCells (HO.out.reads.chg hc (by simp)) EY.out)
  have hc0 : ∀ w', Chg [] w1 w' → w'.cell? ⟨b0, 0, none⟩ = some (.int .i64 n) ∧ w'.cell? ⟨b0, 1, none⟩ = some (.int .i64 f) ∧ w'.cell? ⟨b0, 2, none⟩ = some (.int .i64 t) := by
    intro w' hc
    have b1 := hc.at_ B0.out (by simp)
    exact ⟨cell_of b1 0, cell_of b1 1, cell_of b1 2⟩
  have HC0 := Lib.hid hc0
  clear hc0
  refine wp_region_held_drew (S := fun w' => Chg [] w1 w') (by kernel_rfl) (Chg.refl [] w1).drew (fun hHeld => ?_)
  refine sy 0 14 rfl rfl ?_
  try simp only [Act.put, sA, s0, s1]
  refine sy 1 15 rfl rfl ?_
  try simp only [Act.put, sA, s0, s1]
  refine sy 2 16 rfl rfl ?_ (hy := by (intro w hSw; (try dsimp only at hSw); have hq := HY0.out _ hSw; obtain ⟨q0, q1, q2⟩ := hq; simp only [Nat.zero_add] at q0 q1 q2; go_simp; try with_reducible rfl))
  try simp only [Act.put, sA, s0, s1]
  refine sy 3 17 rfl rfl ?_ (hy := by (intro w hSw; (try dsimp only at hSw); have hq := HC0.out _ hSw; obtain ⟨q0, q1, q2⟩ := hq; go_simp; try with_reducible rfl))
  try simp only [Act.put, sA, s0, s1]
  refine wpAnyH_ready (rs := [4]) (by kernel_rfl) (by simp) ?_
  refine AllReadyH.cons rfl (fun K hK => ?_) AllReadyH.nil
  replace hK := Lib.hid hK
  go_simp
  refine (LA.out _).mono ?_
  rintro e w9 ⟨rfl, hc⟩
  have C9 := Lib.hid (hHeld.trans hc)
  clear hc hHeld
  refine hK.out _ _ C9.out (fun hHeld => ?_)
  clear hK K
  try simp only [Act.put, sA, s0, s1]
  refine sy 5 19 rfl rfl ?_
  try simp only [Act.put, sA, s0, s1]
  refine wpAnyH_done (by kernel_rfl) ?_ _
  replace B0 := Lib.hid (C9.out.at_ B0.out (by simp))
  replace HO := Lib.hid (HO.out.chg C9.out (by simp))
  replace C := Lib.hid (C.out.trans C9.out)
  clear HY0 HC0 C9 hHeld
  go_upto_region 4 with fail
  have zt := cell_of B0.out 2
  simp only [List.getElem?_toArray, List.getElem?_cons_succ, List.getElem?_cons_zero] at zt
  refine wp_region_held_drew (S := fun w' => w'.cell? ⟨b0, 2, none⟩ = some (.int .i64 t)) (by kernel_rfl) zt (fun hHeld => ?_)
  have CD := Lib.hid (Chg.refl [] w9).drew
  have ZT : w9.drew.cell? ⟨b0, 2, none⟩ = some (.int .i64 t) := CD.out.cell zt (by simp)
  replace HO := Lib.hid (HO.out.chg CD.out (by simp))
  replace C := Lib.hid (C.out.trans CD.out)
  have BG : Hid (b0 ≠ g) := Lib.hid (by have := HG.out; simp only at this; omega)
  have SPC := Lib.hid (spanCells HO.out.reads EY.out)
  have FR := Lib.hid (own_free HO.out ((xs.length - 1) * 3 + 2))
  clear CD zt B0
  generalize w9.drew = wd at *
  refine sy 0 20 rfl rfl ?_
  try simp only [Act.put, sA, s0, s1]
  refine sy 1 21 rfl rfl ?_
  try simp only [Act.put, sA, s0, s1]
  refine sy 2 22 rfl rfl ?_
  try simp only [Act.put, sA, s0, s1]
  refine sy 3 23 rfl rfl ?_
  try simp only [Act.put, sA, s0, s1]
  refine sy 5 25 rfl rfl ?_
  try simp only [Act.put, sA, s0, s1]
  refine sy 6 26 rfl rfl ?_ (hy := by (intro w hSw; (try dsimp only at hSw); have q := hSw; go_simp; try with_reducible rfl))
  try simp only [Act.put, sA, s0, s1]
  refine wpAnyH_ready (rs := [4]) (by kernel_rfl) (by simp) ?_
  refine AllReadyH.cons rfl (fun K hK => ?_) AllReadyH.nil
  replace hK := Lib.hid hK
  have z := SPC.out.2.2
  rw [Nat.zero_add] at z
  go_simp
  clear z hHeld
  refine hK.out _ _ ZT (fun hHeld => ?_)
  clear hK K
  try simp only [Act.put, sA, s0, s1]
  refine sy 7 27 rfl rfl ?_
  try simp only [Act.put, sA, s0, s1]
  refine sy 8 28 rfl rfl ?_
  try simp only [Act.put, sA, s0, s1]
  refine sy 9 29 rfl rfl ?_
  try simp only [Act.put, sA, s0, s1]
  refine wpAnyH_ready (rs := [10]) (by kernel_rfl) (by simp) ?_
  refine AllReadyH.cons rfl (fun K hK => ?_) AllReadyH.nil
  replace hK := Lib.hid hK
  have z := SPC.out.2.2
  rw [Nat.zero_add] at z
  have fz := FR.out
  skip
  go_simp
  clear z fz hHeld
  refine hK.out _ _ (((Chg.refl [g] wd).setCell (p := ⟨g, (xs.length - 1) * 3 + 2, none⟩) (.inl (by simp)) _).cell ZT (by simp; exact BG.out)) (fun hHeld => ?_)
  clear hK K
  try simp only [Act.put, sA, s0, s1]
  refine wpAnyH_done (by kernel_rfl) ?_ _
  have HX : Hid (∀ v : Int, v = max y.2.2 t → OwnK spanTy (wd.setCell ⟨g, (xs.length - 1) * 3 + 2, none⟩ (.int .i64 v)) (some ⟨g, 0, none⟩) c (xs.set (xs.length - 1) (y.1, y.2.1, max y.2.2 t)) ∧ ∀ S : List Nat, g ∈ S → Chg S w (wd.setCell ⟨g, (xs.length - 1) * 3 + 2, none⟩ (.int .i64 v))) := Lib.hid (fun v hv => by
    subst hv
    exact ⟨HO.out.setc (xs.length - 1) 2 y (y.1, y.2.1, max y.2.2 t) (.int .i64 (max y.2.2 t)) EY.out (by decide) (spanSetTo y _), fun S hS => (C.out.mono (by simp)).trans ((Chg.refl [g] wd).setCell (p := ⟨g, (xs.length - 1) * 3 + 2, none⟩) (.inl (by simp)) (.int .i64 (max y.2.2 t)) |>.mono (fun i hi => by simp at hi; subst hi; exact .inl hS))⟩)
  clear hHeld
  go_wp2
  all_goals
    go_ret
    exact ⟨rfl, (HX.out _ (by omega)).1, fun S hS => (HX.out _ (by omega)).2 S (by simpa using hS)⟩
end
section
open Go.RowKit Go.Lib
set_option linter.unusedSimpArgs false
set_option linter.unusedVariables false


/-- push, whatever comes. -/
theorem push_any (w : World) (c : Nat) (z : Sp) (A : Option Addr) (xs : List Sp) (h : OwnK spanTy w A c xs) (hn : xs.length ≤ 100000) (hb : ∀ x ∈ xs, B3 x) : Calls Try.prog 46 #[.slice A xs.length c, .agg #[.int .i64 z.1, .int .i64 z.2.1, .int .i64 z.2.2]] w fun e w' => ∃ A' c', e = .returned (.slice A' (pushP xs z).length c') ∧ OwnK spanTy w' A' c' (pushP xs z) ∧ (A' = A ∨ ∀ a, A' = some a → w.heap.size ≤ a.block) ∧ ∀ S : List Nat, (∀ a, A = some a → a.block ∈ S) → Chg S w w' := by
  by_cases h0 : xs.length = 0
  · have e : xs = [] := List.eq_nil_of_length_eq_zero h0
    subst e
    exact push_first w c z.1 z.2.1 z.2.2 A h
  · obtain ⟨y, hy⟩ : ∃ y, xs[xs.length - 1]? = some y := ⟨_, List.getElem?_eq_getElem (by omega)⟩
    have by_ := hb y (List.mem_of_getElem? hy)
    unfold B3 at by_
    by_cases ha : Ap y z
    · refine (push_apart w c z.1 z.2.1 z.2.2 A xs y h (by omega) hn hy (by omega) (by omega) ha).mono ?_
      rintro e w' ⟨A', c', rfl, ho, hA, hc⟩
      rw [push_apart' hy ha]
      exact ⟨A', c', by simp, ho, hA, hc⟩
    · refine (push_touches w c z.1 z.2.1 z.2.2 A xs y h (by omega) hn hy (by omega) (by omega) ha).mono ?_
      rintro e w' ⟨rfl, ho, hc⟩
      rw [push_touch hy ha]
      exact ⟨A, c, by rw [List.length_set], ho, .inl rfl, hc⟩
end
section
open Go.RowKit Go.Lib
set_option linter.unusedSimpArgs false
set_option linter.unusedVariables false


set_option maxRecDepth 100000 in
theorem next_none_c (w : World) (g : Nat) (h0 h1 h2 : Value) (B : Option Addr) (c : Nat) (hb : w.heap[g]? = some (.cells #[h0, h1, h2, .slice B 0 c] 86 (0, 0))) :
    Calls Try.prog 80 #[.pointer (some ⟨g, 0, none⟩)] w fun e w' => e = .returned (.tuple #[]) ∧ w'.heap[g]? = some (.cells #[.int .i64 201, .int .i64 0, .int .i64 0, .slice B 0 c] 86 (0, 0)) ∧ Chg [g] w w' := by
  have HB := Lib.hid hb
  clear hb
  go_enter Try.func80, Try.ntmps80
  have z0 := cell_of HB.out 0
  have z1 := cell_of HB.out 1
  have z2 := cell_of HB.out 2
  have z3 := cell_of HB.out 3
  have fz0 := free_of HB.out 0
  have fz1 := free_of HB.out 1
  have fz2 := free_of HB.out 2
  simp only [List.getElem?_toArray, List.getElem?_cons_succ, List.getElem?_cons_zero] at z0 z1 z2 z3
  have p0 := heap_setCell_same w g 0 _ _ (.int .i64 201) HB.out
  have p1 := heap_setCell_same (w.setCell ⟨g, 0, none⟩ (.int .i64 201)) g 1 _ _ (.int .i64 0) p0
  have p2 := heap_setCell_same ((w.setCell ⟨g, 0, none⟩ (.int .i64 201)).setCell ⟨g, 1, none⟩ (.int .i64 0)) g 2 _ _ (.int .i64 0) p1
  simp only [List.setIfInBounds_toArray, List.set_cons_zero, List.set_cons_succ] at p2
  have HP := Lib.hid p2
  have CP := Lib.hid ((((Chg.refl [g] w).setCell (p := ⟨g, 0, none⟩) (.inl (by simp)) (.int .i64 201)).setCell (p := ⟨g, 1, none⟩) (.inl (by simp)) (.int .i64 0)).setCell (p := ⟨g, 2, none⟩) (.inl (by simp)) (.int .i64 0))
  clear p0 p1 p2
  go_wp2
  refine bodyPost_ret (results_none rfl _ _ _) rfl ?_
  exact ⟨rfl, HP.out, CP.out⟩
set_option maxRecDepth 100000 in
set_option maxHeartbeats 4000000 in
theorem next_some_c (w : World) (g : Nat) (h0 h1 h2 : Value) (B : Option Addr) (c : Nat) (x : Sp) (r : List Sp) (hb : w.heap[g]? = some (.cells #[h0, h1, h2, .slice B (r.length + 1) c] 86 (0, 0))) (hr : RdK spanTy w B (r.length + 1) (x :: r)) (hn : r.length + 1 ≤ c ∧ c ≤ maxLen) (hB : ∀ a, B = some a → a.block ≠ g) :
    Calls Try.prog 80 #[.pointer (some ⟨g, 0, none⟩)] w fun e w' => e = .returned (.tuple #[]) ∧ ∃ B' c', w'.heap[g]? = some (.cells #[.int .i64 x.1, .int .i64 x.2.1, .int .i64 x.2.2, (.slice B' r.length c')] 86 (0, 0)) ∧ RdK spanTy w' B' r.length r ∧ (r.length ≤ c' ∧ c' ≤ maxLen) ∧ (∀ a, B' = some a → ∃ b, B = some b ∧ a.block = b.block) ∧ Chg [g] w w' := by
  obtain ⟨gB, oB, eB, _⟩ := hr.line (by omega)
  subst eB
  have HR := Lib.hid hr
  have HN := Lib.hid hn
  have NB := Lib.hid (hB ⟨gB, oB, none⟩ rfl)
  obtain ⟨y0, y1, y2⟩ := spanCells hr (j := 0) (x := x) rfl
  rw [Nat.zero_mul, Nat.add_zero] at y0 y1 y2
  have HB := Lib.hid hb
  have Y := Lib.hid (show w.cell? ⟨gB, oB, none⟩ = some (.int .i64 x.1) ∧ w.cell? ⟨gB, oB + 1, none⟩ = some (.int .i64 x.2.1) ∧ w.cell? ⟨gB, oB + 2, none⟩ = some (.int .i64 x.2.2) from ⟨y0, y1, y2⟩)
  clear hb hr hn y0 y1 y2 hB
  have n0 : (((r.length + 1 : Nat) : Int) == 0) = false := by simp; omega
  have n1 : (0 : Int) < ((r.length + 1 : Nat) : Int) := by omega
  have n2 : (1 : Int) ≤ ((r.length + 1 : Nat) : Int) := by omega
  have n3 : ((r.length + 1 : Nat) : Int) ≤ (c : Int) := by have := HN.out; omega
  have n5 : (1 : Int) ≤ (r.length : Int) + 1 := by omega
  have n4 : r.length + 1 - 1 = r.length := by omega
  have HT : Hid (RdK spanTy w (if c = 1 then some ⟨gB, oB, none⟩ else some ⟨gB, oB + 3, none⟩) r.length r) := Lib.hid (by
    split
    · have := HN.out
      have e : r = [] := List.eq_nil_of_length_eq_zero (by omega)
      subst e
      exact RdK.nil _ _
    · have q := HR.out.part 1 r.length (by omega)
      simpa [RowTy.k, spanTy] using q)
  go_enter Try.func80, Try.ntmps80
  have z3 := cell_of HB.out 3
  simp only [List.getElem?_toArray, List.getElem?_cons_succ, List.getElem?_cons_zero] at z3
  go_upto_region 2 with fail
  clear z3
  refine wp_region_held_drew (S := fun _ => True) (by kernel_rfl) trivial (fun hHeld => ?_)
  have CD := Lib.hid (Chg.refl [g] w).drew
  replace HB := Lib.hid (show w.drew.heap[g]? = some _ from HB.out)
  replace Y := Lib.hid (show w.drew.cell? ⟨gB, oB, none⟩ = some (.int .i64 x.1) ∧ w.drew.cell? ⟨gB, oB + 1, none⟩ = some (.int .i64 x.2.1) ∧ w.drew.cell? ⟨gB, oB + 2, none⟩ = some (.int .i64 x.2.2) from Y.out)
  replace HT := Lib.hid (show RdK spanTy w.drew _ r.length r from HT.out.chg (Chg.refl [] w).drew (by simp))
  generalize w.drew = wd at *
  generalize hAD : (if c = 1 then some ⟨gB, oB, none⟩ else some ⟨gB, oB + 3, none⟩ : Option Addr) = AD at *
  have AB : Hid (∀ a, AD = some a → a.block = gB) := Lib.hid (by intro a ha; rw [← hAD] at ha; split at ha <;> cases ha <;> rfl)
  refine sy 0 12 rfl rfl ?_ (hS := trivial)
  try simp only [Act.put, sA, s0, s1]
  refine sy 1 13 rfl rfl ?_ (hS := trivial)
  try simp only [Act.put, sA, s0, s1]
  refine sy 2 14 rfl rfl ?_ (hS := trivial)
  try simp only [Act.put, sA, s0, s1]
  refine sy 3 15 rfl rfl ?_ (hS := trivial)
  try simp only [Act.put, sA, s0, s1]
  refine sy 4 16 rfl rfl ?_ (hS := trivial)
  try simp only [Act.put, sA, s0, s1]
  refine sy 8 20 rfl rfl ?_ (hS := trivial)
  try simp only [Act.put, sA, s0, s1]
  refine sy 9 21 rfl rfl ?_ (hS := trivial)
  try simp only [Act.put, sA, s0, s1]
  refine sy 10 22 rfl rfl ?_ (hS := trivial)
  try simp only [Act.put, sA, s0, s1]
  refine wpAnyH_ready (rs := [5, 11]) (by kernel_rfl) (by simp) ?_
  refine AllReadyH.cons rfl (fun K hK => ?_) (AllReadyH.cons rfl (fun K hK => ?_) AllReadyH.nil)
  · skip
    replace hK := Lib.hid hK
    have z3 := cell_of HB.out 3
    simp only [List.getElem?_toArray, List.getElem?_cons_succ, List.getElem?_cons_zero] at z3
    go_simp
    clear z3 hHeld
    refine hK.out _ _ trivial (fun hHeld => ?_)
    clear hK K
    try simp only [Act.put, sA, s0, s1]
    refine sy 6 18 rfl rfl ?_ (hS := trivial)
    try simp only [Act.put, sA, s0, s1]
    refine wpAnyH_ready (rs := [7, 11]) (by kernel_rfl) (by simp) ?_
    refine AllReadyH.cons rfl (fun K hK => ?_) (AllReadyH.cons rfl (fun K hK => ?_) AllReadyH.nil)
    · skip
      replace hK := Lib.hid hK
      obtain ⟨y0, y1, y2⟩ := Y.out
      go_simp
      clear y0 y1 y2 hHeld
      refine hK.out _ _ trivial (fun hHeld => ?_)
      clear hK K
      try simp only [Act.put, sA, s0, s1]
      refine wpAnyH_ready (rs := [11]) (by kernel_rfl) (by simp) ?_
      refine AllReadyH.cons rfl (fun K hK => ?_) AllReadyH.nil
      replace hK := Lib.hid hK
      have z3 := cell_of HB.out 3
      simp only [List.getElem?_toArray, List.getElem?_cons_succ, List.getElem?_cons_zero] at z3
      go_simp
      clear z3 hHeld
      refine hK.out _ _ trivial (fun hHeld => ?_)
      clear hK K
      try simp only [Act.put, sA, s0, s1]
      refine sy 12 24 rfl rfl ?_ (hS := trivial)
      try simp only [Act.put, sA, s0, s1]
      refine sy 13 25 rfl rfl ?_ (hS := trivial)
      try simp only [Act.put, sA, s0, s1]
      refine sy 14 26 rfl rfl ?_ (hS := trivial)
      try simp only [Act.put, sA, s0, s1]
      refine wpAnyH_ready (rs := [15]) (by kernel_rfl) (by simp) ?_
      refine AllReadyH.cons rfl (fun K hK => ?_) AllReadyH.nil
      replace hK := Lib.hid hK
      have z0 := cell_of HB.out 0
      have z1 := cell_of HB.out 1
      have z2 := cell_of HB.out 2
      have fz0 := free_of HB.out 0
      have fz1 := free_of HB.out 1
      have fz2 := free_of HB.out 2
      simp only [List.getElem?_toArray, List.getElem?_cons_succ, List.getElem?_cons_zero] at z0 z1 z2
      have p0 := heap_setCell_same wd g 0 _ _ (.int .i64 x.1) HB.out
      have p1 := heap_setCell_same (wd.setCell ⟨g, 0, none⟩ (.int .i64 x.1)) g 1 _ _ (.int .i64 x.2.1) p0
      have p2 := heap_setCell_same ((wd.setCell ⟨g, 0, none⟩ (.int .i64 x.1)).setCell ⟨g, 1, none⟩ (.int .i64 x.2.1)) g 2 _ _ (.int .i64 x.2.2) p1
      simp only [List.setIfInBounds_toArray, List.set_cons_zero, List.set_cons_succ] at p2
      have HP := Lib.hid p2
      clear p0 p1 p2
      go_simp
      clear hHeld z0 fz0 z1 fz1 z2 fz2
      refine hK.out _ _ trivial (fun hHeld => ?_)
      clear hK K
      try simp only [Act.put, sA, s0, s1]
      refine sy 16 27 rfl rfl ?_ (hS := trivial)
      try simp only [Act.put, sA, s0, s1]
      refine sy 17 28 rfl rfl ?_ (hS := trivial)
      try simp only [Act.put, sA, s0, s1]
      refine wpAnyH_ready (rs := [18]) (by kernel_rfl) (by simp) ?_
      refine AllReadyH.cons rfl (fun K hK => ?_) AllReadyH.nil
      replace hK := Lib.hid hK
      have z3 := cell_of HP.out 3
      have fz3 := free_of HP.out 3
      simp only [List.getElem?_toArray, List.getElem?_cons_succ, List.getElem?_cons_zero] at z3
      go_simp
      clear hHeld z3 fz3
      refine hK.out _ _ trivial (fun hHeld => ?_)
      clear hK K
      try simp only [Act.put, sA, s0, s1]
      refine wpAnyH_done (by kernel_rfl) ?_ _
      have HQ := heap_setCell_same _ g 3 _ _ (.slice AD r.length (c - 1)) HP.out
      simp only [List.setIfInBounds_toArray, List.set_cons_zero, List.set_cons_succ] at HQ
      have CQ := Lib.hid (((((Chg.refl [g] wd).setCell (p := ⟨g, 0, none⟩) (.inl (by simp)) (.int .i64 x.1)).setCell (p := ⟨g, 1, none⟩) (.inl (by simp)) (.int .i64 x.2.1)).setCell (p := ⟨g, 2, none⟩) (.inl (by simp)) (.int .i64 x.2.2)).setCell (p := ⟨g, 3, none⟩) (.inl (by simp)) (.slice AD r.length (c - 1)))
      have HQ2 := Lib.hid HQ
      clear HQ
      go_wp2
      go_end0
      exact ⟨rfl, AD, c - 1, HQ2.out, HT.out.chg CQ.out (fun a ha => by rw [AB.out a ha]; simpa using NB.out), by have := HN.out; omega, fun a ha => by (first | exact ⟨_, rfl, AB.out a ha⟩ | exact AB.out a ha | simpa using AB.out a ha), CD.out.trans CQ.out⟩
    · skip
      replace hK := Lib.hid hK
      have z3 := cell_of HB.out 3
      simp only [List.getElem?_toArray, List.getElem?_cons_succ, List.getElem?_cons_zero] at z3
      go_simp
      clear z3 hHeld
      refine hK.out _ _ trivial (fun hHeld => ?_)
      clear hK K
      try simp only [Act.put, sA, s0, s1]
      refine sy 12 24 rfl rfl ?_ (hS := trivial)
      try simp only [Act.put, sA, s0, s1]
      refine wpAnyH_ready (rs := [7]) (by kernel_rfl) (by simp) ?_
      refine AllReadyH.cons rfl (fun K hK => ?_) AllReadyH.nil
      replace hK := Lib.hid hK
      obtain ⟨y0, y1, y2⟩ := Y.out
      go_simp
      clear y0 y1 y2 hHeld
      refine hK.out _ _ trivial (fun hHeld => ?_)
      clear hK K
      try simp only [Act.put, sA, s0, s1]
      refine sy 13 25 rfl rfl ?_ (hS := trivial)
      try simp only [Act.put, sA, s0, s1]
      refine sy 14 26 rfl rfl ?_ (hS := trivial)
      try simp only [Act.put, sA, s0, s1]
      refine wpAnyH_ready (rs := [15]) (by kernel_rfl) (by simp) ?_
      refine AllReadyH.cons rfl (fun K hK => ?_) AllReadyH.nil
      replace hK := Lib.hid hK
      have z0 := cell_of HB.out 0
      have z1 := cell_of HB.out 1
      have z2 := cell_of HB.out 2
      have fz0 := free_of HB.out 0
      have fz1 := free_of HB.out 1
      have fz2 := free_of HB.out 2
      simp only [List.getElem?_toArray, List.getElem?_cons_succ, List.getElem?_cons_zero] at z0 z1 z2
      have p0 := heap_setCell_same wd g 0 _ _ (.int .i64 x.1) HB.out
      have p1 := heap_setCell_same (wd.setCell ⟨g, 0, none⟩ (.int .i64 x.1)) g 1 _ _ (.int .i64 x.2.1) p0
      have p2 := heap_setCell_same ((wd.setCell ⟨g, 0, none⟩ (.int .i64 x.1)).setCell ⟨g, 1, none⟩ (.int .i64 x.2.1)) g 2 _ _ (.int .i64 x.2.2) p1
      simp only [List.setIfInBounds_toArray, List.set_cons_zero, List.set_cons_succ] at p2
      have HP := Lib.hid p2
      clear p0 p1 p2
      go_simp
      clear hHeld z0 fz0 z1 fz1 z2 fz2
      refine hK.out _ _ trivial (fun hHeld => ?_)
      clear hK K
      try simp only [Act.put, sA, s0, s1]
      refine sy 16 27 rfl rfl ?_ (hS := trivial)
      try simp only [Act.put, sA, s0, s1]
      refine sy 17 28 rfl rfl ?_ (hS := trivial)
      try simp only [Act.put, sA, s0, s1]
      refine wpAnyH_ready (rs := [18]) (by kernel_rfl) (by simp) ?_
      refine AllReadyH.cons rfl (fun K hK => ?_) AllReadyH.nil
      replace hK := Lib.hid hK
      have z3 := cell_of HP.out 3
      have fz3 := free_of HP.out 3
      simp only [List.getElem?_toArray, List.getElem?_cons_succ, List.getElem?_cons_zero] at z3
      go_simp
      clear hHeld z3 fz3
      refine hK.out _ _ trivial (fun hHeld => ?_)
      clear hK K
      try simp only [Act.put, sA, s0, s1]
      refine wpAnyH_done (by kernel_rfl) ?_ _
      have HQ := heap_setCell_same _ g 3 _ _ (.slice AD r.length (c - 1)) HP.out
      simp only [List.setIfInBounds_toArray, List.set_cons_zero, List.set_cons_succ] at HQ
      have CQ := Lib.hid (((((Chg.refl [g] wd).setCell (p := ⟨g, 0, none⟩) (.inl (by simp)) (.int .i64 x.1)).setCell (p := ⟨g, 1, none⟩) (.inl (by simp)) (.int .i64 x.2.1)).setCell (p := ⟨g, 2, none⟩) (.inl (by simp)) (.int .i64 x.2.2)).setCell (p := ⟨g, 3, none⟩) (.inl (by simp)) (.slice AD r.length (c - 1)))
      have HQ2 := Lib.hid HQ
      clear HQ
      go_wp2
      go_end0
      exact ⟨rfl, AD, c - 1, HQ2.out, HT.out.chg CQ.out (fun a ha => by rw [AB.out a ha]; simpa using NB.out), by have := HN.out; omega, fun a ha => by (first | exact ⟨_, rfl, AB.out a ha⟩ | exact AB.out a ha | simpa using AB.out a ha), CD.out.trans CQ.out⟩
  · skip
    replace hK := Lib.hid hK
    have z3 := cell_of HB.out 3
    simp only [List.getElem?_toArray, List.getElem?_cons_succ, List.getElem?_cons_zero] at z3
    go_simp
    clear z3 hHeld
    refine hK.out _ _ trivial (fun hHeld => ?_)
    clear hK K
    try simp only [Act.put, sA, s0, s1]
    refine sy 12 24 rfl rfl ?_ (hS := trivial)
    try simp only [Act.put, sA, s0, s1]
    refine wpAnyH_ready (rs := [5]) (by kernel_rfl) (by simp) ?_
    refine AllReadyH.cons rfl (fun K hK => ?_) AllReadyH.nil
    replace hK := Lib.hid hK
    have z3 := cell_of HB.out 3
    simp only [List.getElem?_toArray, List.getElem?_cons_succ, List.getElem?_cons_zero] at z3
    go_simp
    clear z3 hHeld
    refine hK.out _ _ trivial (fun hHeld => ?_)
    clear hK K
    try simp only [Act.put, sA, s0, s1]
    refine sy 6 18 rfl rfl ?_ (hS := trivial)
    try simp only [Act.put, sA, s0, s1]
    refine wpAnyH_ready (rs := [7]) (by kernel_rfl) (by simp) ?_
    refine AllReadyH.cons rfl (fun K hK => ?_) AllReadyH.nil
    replace hK := Lib.hid hK
    obtain ⟨y0, y1, y2⟩ := Y.out
    go_simp
    clear y0 y1 y2 hHeld
    refine hK.out _ _ trivial (fun hHeld => ?_)
    clear hK K
    try simp only [Act.put, sA, s0, s1]
    refine sy 13 25 rfl rfl ?_ (hS := trivial)
    try simp only [Act.put, sA, s0, s1]
    refine sy 14 26 rfl rfl ?_ (hS := trivial)
    try simp only [Act.put, sA, s0, s1]
    refine wpAnyH_ready (rs := [15]) (by kernel_rfl) (by simp) ?_
    refine AllReadyH.cons rfl (fun K hK => ?_) AllReadyH.nil
    replace hK := Lib.hid hK
    have z0 := cell_of HB.out 0
    have z1 := cell_of HB.out 1
    have z2 := cell_of HB.out 2
    have fz0 := free_of HB.out 0
    have fz1 := free_of HB.out 1
    have fz2 := free_of HB.out 2
    simp only [List.getElem?_toArray, List.getElem?_cons_succ, List.getElem?_cons_zero] at z0 z1 z2
    have p0 := heap_setCell_same wd g 0 _ _ (.int .i64 x.1) HB.out
    have p1 := heap_setCell_same (wd.setCell ⟨g, 0, none⟩ (.int .i64 x.1)) g 1 _ _ (.int .i64 x.2.1) p0
    have p2 := heap_setCell_same ((wd.setCell ⟨g, 0, none⟩ (.int .i64 x.1)).setCell ⟨g, 1, none⟩ (.int .i64 x.2.1)) g 2 _ _ (.int .i64 x.2.2) p1
    simp only [List.setIfInBounds_toArray, List.set_cons_zero, List.set_cons_succ] at p2
    have HP := Lib.hid p2
    clear p0 p1 p2
    go_simp
    clear hHeld z0 fz0 z1 fz1 z2 fz2
    refine hK.out _ _ trivial (fun hHeld => ?_)
    clear hK K
    try simp only [Act.put, sA, s0, s1]
    refine sy 16 27 rfl rfl ?_ (hS := trivial)
    try simp only [Act.put, sA, s0, s1]
    refine sy 17 28 rfl rfl ?_ (hS := trivial)
    try simp only [Act.put, sA, s0, s1]
    refine wpAnyH_ready (rs := [18]) (by kernel_rfl) (by simp) ?_
    refine AllReadyH.cons rfl (fun K hK => ?_) AllReadyH.nil
    replace hK := Lib.hid hK
    have z3 := cell_of HP.out 3
    have fz3 := free_of HP.out 3
    simp only [List.getElem?_toArray, List.getElem?_cons_succ, List.getElem?_cons_zero] at z3
    go_simp
    clear hHeld z3 fz3
    refine hK.out _ _ trivial (fun hHeld => ?_)
    clear hK K
    try simp only [Act.put, sA, s0, s1]
    refine wpAnyH_done (by kernel_rfl) ?_ _
    have HQ := heap_setCell_same _ g 3 _ _ (.slice AD r.length (c - 1)) HP.out
    simp only [List.setIfInBounds_toArray, List.set_cons_zero, List.set_cons_succ] at HQ
    have CQ := Lib.hid (((((Chg.refl [g] wd).setCell (p := ⟨g, 0, none⟩) (.inl (by simp)) (.int .i64 x.1)).setCell (p := ⟨g, 1, none⟩) (.inl (by simp)) (.int .i64 x.2.1)).setCell (p := ⟨g, 2, none⟩) (.inl (by simp)) (.int .i64 x.2.2)).setCell (p := ⟨g, 3, none⟩) (.inl (by simp)) (.slice AD r.length (c - 1)))
    have HQ2 := Lib.hid HQ
    clear HQ
    go_wp2
    go_end0
    exact ⟨rfl, AD, c - 1, HQ2.out, HT.out.chg CQ.out (fun a ha => by rw [AB.out a ha]; simpa using NB.out), by have := HN.out; omega, fun a ha => by (first | exact ⟨_, rfl, AB.out a ha⟩ | exact AB.out a ha | simpa using AB.out a ha), CD.out.trans CQ.out⟩
end
section
open Go.RowKit Go.Lib
set_option linter.unusedSimpArgs false
set_option linter.unusedVariables false


set_option maxRecDepth 100000 in
set_option maxHeartbeats 4000000 in
theorem begin_any (w : World) (B : Option Addr) (c : Nat) (l : List Sp) (hr : RdK spanTy w B l.length l) (hn : l.length ≤ c ∧ c ≤ maxLen) (hold : ∀ a, B = some a → a.block < w.heap.size) :
    Calls Try.prog 72 #[.slice B l.length c] w fun e w' => ∃ B' c', e = .returned (.agg #[.int .i64 (hdP l).1, .int .i64 (hdP l).2.1, .int .i64 (hdP l).2.2, .slice B' l.tail.length c']) ∧ RdK spanTy w' B' l.tail.length l.tail ∧ (l.tail.length ≤ c' ∧ c' ≤ maxLen) ∧ (∀ a, B' = some a → ∃ b, B = some b ∧ a.block = b.block) ∧ Chg [] w w' := by
  have HR := Lib.hid hr
  have HN := Lib.hid hn
  clear hr hn
  obtain ⟨w1, hw1, c1, b1, b2⟩ := news2 w (.cells #[.int .i64 0, .int .i64 0, .int .i64 0, .slice none 0 0] 86) (.cells #[.int .i64 0, .int .i64 0, .int .i64 0, .slice B l.length c] 86)
  have W1 := Lib.hid hw1
  have C1 := Lib.hid c1
  have B1 := Lib.hid b1
  have B2 := Lib.hid b2
  have L1 := Lib.hid (lt_of_heap b2)
  replace HR := Lib.hid (HR.out.chg c1 (by simp))
  have OLD := Lib.hid hold
  clear hw1 c1 b1 b2 hold
  go_enter Try.func72, Try.ntmps72
  go_wp2_with fail
  rw [← W1.out]
  have S1 : Hid (w.heap.size + 1 < w1.heap.size) := L1
  generalize hg0 : w.heap.size = g0 at *
  clear W1 L1
  have key : Calls Try.prog 80 #[.pointer (some ⟨g0 + 1, 0, none⟩)] w1 fun e w' => e = .returned (.tuple #[]) ∧ ∃ B' c', w'.heap[g0 + 1]? = some (.cells #[.int .i64 (hdP l).1, .int .i64 (hdP l).2.1, .int .i64 (hdP l).2.2, .slice B' l.tail.length c'] 86 (0, 0)) ∧ RdK spanTy w' B' l.tail.length l.tail ∧ (l.tail.length ≤ c' ∧ c' ≤ maxLen) ∧ (∀ a, B' = some a → ∃ b, B = some b ∧ a.block = b.block) ∧ Chg [g0 + 1] w1 w' := by
    cases l with
    | nil =>
      refine (next_none_c w1 (g0 + 1) _ _ _ B c B2.out).mono ?_
      rintro e w' ⟨rfl, h1, h2⟩
      exact ⟨rfl, B, c, h1, RdK.nil _ _, ⟨Nat.zero_le _, HN.out.2⟩, fun a ha => ⟨a, ha, rfl⟩, h2⟩
    | cons x r =>
      refine (next_some_c w1 (g0 + 1) _ _ _ B c x r B2.out HR.out HN.out (fun a ha => by have := OLD.out a ha; omega)).mono ?_
      rintro e w' ⟨rfl, B2, c2, h1, h2, h3, h4, h5⟩
      exact ⟨rfl, B2, c2, h1, h2, h3, h4, h5⟩
  refine key.mono ?_
  rintro e w2 ⟨rfl, B', c', h1, h2, h3, h4, h5⟩
  have HB := Lib.hid h1
  have HQ := Lib.hid h2
  have H3 := Lib.hid h3
  have H4 := Lib.hid h4
  have C2 := Lib.hid h5
  replace B1 := Lib.hid (h5.at_ B1.out (by simp))
  clear h1 h2 h3 h4 h5 key
  generalize hhd : hdP l = hd at *
  generalize htl : l.tail = tl at *
  have HHD := Lib.hid hhd
  have HTL := Lib.hid htl
  clear hhd htl
  have y0 := cell_of HB.out 0
  have y1 := cell_of HB.out 1
  have y2 := cell_of HB.out 2
  have y3 := cell_of HB.out 3
  simp only [List.getElem?_toArray, List.getElem?_cons_succ, List.getElem?_cons_zero] at y0 y1 y2 y3
  have z0 := cell_of B1.out 0
  have z1 := cell_of B1.out 1
  have z2 := cell_of B1.out 2
  have z3 := cell_of B1.out 3
  have fz0 := free_of B1.out 0
  have fz1 := free_of B1.out 1
  have fz2 := free_of B1.out 2
  have fz3 := free_of B1.out 3
  simp only [List.getElem?_toArray, List.getElem?_cons_succ, List.getElem?_cons_zero] at z0 z1 z2 z3
  generalize hg1 : g0 + 1 = g1 at *
  have p0 := heap_setCell_same w2 g0 0 _ _ (.int .i64 hd.1) B1.out
  have p1 := heap_setCell_same (w2.setCell ⟨g0, 0, none⟩ (.int .i64 hd.1)) g0 1 _ _ (.int .i64 hd.2.1) p0
  have p2 := heap_setCell_same ((w2.setCell ⟨g0, 0, none⟩ (.int .i64 hd.1)).setCell ⟨g0, 1, none⟩ (.int .i64 hd.2.1)) g0 2 _ _ (.int .i64 hd.2.2) p1
  have p3 := heap_setCell_same (((w2.setCell ⟨g0, 0, none⟩ (.int .i64 hd.1)).setCell ⟨g0, 1, none⟩ (.int .i64 hd.2.1)).setCell ⟨g0, 2, none⟩ (.int .i64 hd.2.2)) g0 3 _ _ ((.slice B' tl.length c')) p2
  simp only [List.setIfInBounds_toArray, List.set_cons_zero, List.set_cons_succ] at p3
  have HP := Lib.hid p3
  have CP := Lib.hid (((((Chg.refl [g0] w2).setCell (p := ⟨g0, 0, none⟩) (.inl (by simp)) (.int .i64 hd.1)).setCell (p := ⟨g0, 1, none⟩) (.inl (by simp)) (.int .i64 hd.2.1)).setCell (p := ⟨g0, 2, none⟩) (.inl (by simp)) (.int .i64 hd.2.2)).setCell (p := ⟨g0, 3, none⟩) (.inl (by simp)) ((.slice B' tl.length c')))
  clear p0 p1 p2 p3
  go_wp2
  generalize ((((w2.setCell ⟨g0, 0, none⟩ (.int .i64 hd.1)).setCell ⟨g0, 1, none⟩ (.int .i64 hd.2.1)).setCell ⟨g0, 2, none⟩ (.int .i64 hd.2.2)).setCell ⟨g0, 3, none⟩ ((.slice B' tl.length c'))) = wf at *
  have q0 := cell_of HP.out 0
  have q1 := cell_of HP.out 1
  have q2 := cell_of HP.out 2
  have q3 := cell_of HP.out 3
  simp only [List.getElem?_toArray, List.getElem?_cons_succ, List.getElem?_cons_zero] at q0 q1 q2 q3
  refine bodyPost_ret (v := .agg #[.int .i64 hd.1, .int .i64 hd.2.1, .int .i64 hd.2.2, .slice B' tl.length c']) (by simp [results, Try.results72, go_sem, q0, q1, q2, q3]) rfl ?_
  have e1 := HHD.out
  have e2 := HTL.out
  subst e1
  subst e2
  refine ⟨B', c', rfl, HQ.out.chg CP.out (fun a ha => by obtain ⟨b, hb, e⟩ := H4.out a ha; have := OLD.out b hb; simp; omega), H3.out, H4.out, ?_⟩
  exact (C1.out.trans' C2.out (fun z hz => by simp at hz; subst hz; exact .inr (by omega))).trans' CP.out (fun z hz => by simp at hz; subst hz; exact .inr (by omega))
end
section
open Go.RowKit Go.Lib
set_option linter.unusedSimpArgs false
set_option linter.unusedVariables false


/-- A sweep through two pasts, at g: what is left of them (their spans lie in the blocks X). -/
structure SwQ (w : World) (g : Nat) (X : List Nat) (la lb : List Sp) (K : Nat) (A : Option Addr) (c : Nat) (B : Option Addr) (d : Nat) : Prop where
  hg : w.heap[g]? = some (.cells #[.int .i64 (hdP la).1, .int .i64 (hdP la).2.1, .int .i64 (hdP la).2.2, .slice A la.tail.length c, .int .i64 (hdP lb).1, .int .i64 (hdP lb).2.1, .int .i64 (hdP lb).2.2, .slice B lb.tail.length d, .func (.func K) #[] #[]] 89 (0, 0))
  ra : RdK spanTy w A la.tail.length la.tail
  ca : la.tail.length ≤ c ∧ c ≤ maxLen
  na : ∀ a, A = some a → a.block ∈ X
  rb : RdK spanTy w B lb.tail.length lb.tail
  cb : lb.tail.length ≤ d ∧ d ≤ maxLen
  nb : ∀ a, B = some a → a.block ∈ X
  gx : g ∉ X
def SwP (w : World) (g : Nat) (X : List Nat) (la lb : List Sp) (K : Nat) : Prop := ∃ A c B d, SwQ w g X la lb K A c B d
theorem SwQ.chg {w w' : World} {S : List Nat} {g : Nat} {X : List Nat} {la lb : List Sp} {K : Nat} {A : Option Addr} {c : Nat} {B : Option Addr} {d : Nat} (h : SwQ w g X la lb K A c B d) (hc : Chg S w w') (hg : g ∉ S) (hX : ∀ z ∈ X, z ∉ S) : SwQ w' g X la lb K A c B d :=
  ⟨hc.at_ h.hg hg, h.ra.chg hc (fun a ha => hX _ (h.na a ha)), h.ca, h.na, h.rb.chg hc (fun a ha => hX _ (h.nb a ha)), h.cb, h.nb, h.gx⟩
theorem SwP.chg {w w' : World} {S : List Nat} {g : Nat} {X : List Nat} {la lb : List Sp} {K : Nat} (h : SwP w g X la lb K) (hc : Chg S w w') (hg : g ∉ S) (hX : ∀ z ∈ X, z ∉ S) : SwP w' g X la lb K := by
  obtain ⟨A, c, B, d, h⟩ := h
  exact ⟨A, c, B, d, h.chg hc hg hX⟩
theorem join3 {α β γ : Type} {F R : α → β → γ → Prop} {G : Prop} (h1 : (∀ a b c, F a b c → R a b c) → G) (h2 : ∀ a b c, F a b c → R a b c) : G := h1 h2
set_option maxRecDepth 100000 in
set_option maxHeartbeats 4000000 in
theorem over_any (w : World) (A : Option Addr) (c : Nat) (la : List Sp) (B : Option Addr) (d : Nat) (lb : List Sp) (K : Nat) (X : List Nat) (ha : RdK spanTy w A la.length la) (hca : la.length ≤ c ∧ c ≤ maxLen) (hoa : ∀ a, A = some a → a.block < w.heap.size) (hb : RdK spanTy w B lb.length lb) (hcb : lb.length ≤ d ∧ d ≤ maxLen) (hob : ∀ a, B = some a → a.block < w.heap.size) (hxa : ∀ a, A = some a → a.block ∈ X) (hxb : ∀ a, B = some a → a.block ∈ X) (hX : ∀ z ∈ X, z < w.heap.size) :
    Calls Try.prog 51 #[.slice A la.length c, .slice B lb.length d, .func (.func K) #[] #[]] w fun e w' => ∃ g, e = .returned (.pointer (some ⟨g, 0, none⟩)) ∧ SwP w' g X la lb K ∧ w.heap.size ≤ g ∧ Chg [] w w' := by
  have HA := Lib.hid ha
  have HCA := Lib.hid hca
  have HOA := Lib.hid hoa
  have HB := Lib.hid hb
  have HCB := Lib.hid hcb
  have HOB := Lib.hid hob
  clear ha hca hoa hb hcb hob
  go_enter Try.func51, Try.ntmps51
  go_wp2_with fail
  refine (begin_any w A c la HA.out HCA.out HOA.out).mono ?_
  rintro r w1 ⟨A', c', rfl, h1, h2, h3, h4⟩
  have H1 := Lib.hid h1
  have H2 := Lib.hid h2
  have H3 := Lib.hid h3
  have C1 := Lib.hid h4
  clear h1 h2 h3 h4
  go_wp2_with fail
  refine (begin_any w1 B d lb (HB.out.chg C1.out (by simp)) HCB.out (fun a ha => Nat.lt_of_lt_of_le (HOB.out a ha) C1.out.size)).mono ?_
  rintro r w2 ⟨B', d', rfl, h1, h2, h3, h4⟩
  have H4 := Lib.hid h1
  have H5 := Lib.hid h2
  have H6 := Lib.hid h3
  have C2 := Lib.hid h4
  clear h1 h2 h3 h4
  obtain ⟨w3, hw3, c3, b3⟩ := news1 w2 (.cells #[.int .i64 (hdP la).1, .int .i64 (hdP la).2.1, .int .i64 (hdP la).2.2, .slice A' (la.length - 1) c', .int .i64 (hdP lb).1, .int .i64 (hdP lb).2.1, .int .i64 (hdP lb).2.2, .slice B' (lb.length - 1) d', .func (.func K) #[] #[]] 89)
  have W3 := Lib.hid hw3
  have C3 := Lib.hid (C1.out.trans (C2.out.trans c3))
  have FI : Hid (SwP w3 w2.heap.size X la lb K) := Lib.hid ⟨A', c', B', d', by rw [List.length_tail, List.length_tail]; exact b3, (H1.out.chg C2.out (by simp)).chg c3 (by simp), H2.out, fun a ha => by obtain ⟨b, hb, e⟩ := H3.out a ha; rw [e]; exact hxa b hb, H4.out.chg c3 (by simp), H5.out, fun a ha => by obtain ⟨b, hb, e⟩ := H6.out a ha; rw [e]; exact hxb b hb, fun hm => by have := hX _ hm; have := C1.out.size; have := C2.out.size; omega⟩
  have SZ := Lib.hid (show w.heap.size ≤ w2.heap.size from Nat.le_trans C1.out.size C2.out.size)
  clear hw3 c3 b3
  go_wp2
  rw [← W3.out]
  go_ret
  exact ⟨_, rfl, FI.out, SZ.out, C3.out⟩
end
section
open Go.RowKit Go.Lib
set_option linter.unusedSimpArgs false
set_option linter.unusedVariables false


set_option maxRecDepth 100000 in
theorem next_none_a (w : World) (g : Nat) (v0 v1 v2 v3 vk : Value) (h0 h1 h2 : Value) (B : Option Addr) (c : Nat) (hb : w.heap[g]? = some (.cells #[h0, h1, h2, .slice B 0 c, v0, v1, v2, v3, vk] 89 (0, 0))) :
    Calls Try.prog 80 #[.pointer (some ⟨g, 0, none⟩)] w fun e w' => e = .returned (.tuple #[]) ∧ w'.heap[g]? = some (.cells #[.int .i64 201, .int .i64 0, .int .i64 0, .slice B 0 c, v0, v1, v2, v3, vk] 89 (0, 0)) ∧ Chg [g] w w' := by
  have HB := Lib.hid hb
  clear hb
  go_enter Try.func80, Try.ntmps80
  have z0 := cell_of HB.out 0
  have z1 := cell_of HB.out 1
  have z2 := cell_of HB.out 2
  have z3 := cell_of HB.out 3
  have fz0 := free_of HB.out 0
  have fz1 := free_of HB.out 1
  have fz2 := free_of HB.out 2
  simp only [List.getElem?_toArray, List.getElem?_cons_succ, List.getElem?_cons_zero] at z0 z1 z2 z3
  have p0 := heap_setCell_same w g 0 _ _ (.int .i64 201) HB.out
  have p1 := heap_setCell_same (w.setCell ⟨g, 0, none⟩ (.int .i64 201)) g 1 _ _ (.int .i64 0) p0
  have p2 := heap_setCell_same ((w.setCell ⟨g, 0, none⟩ (.int .i64 201)).setCell ⟨g, 1, none⟩ (.int .i64 0)) g 2 _ _ (.int .i64 0) p1
  simp only [List.setIfInBounds_toArray, List.set_cons_zero, List.set_cons_succ] at p2
  have HP := Lib.hid p2
  have CP := Lib.hid ((((Chg.refl [g] w).setCell (p := ⟨g, 0, none⟩) (.inl (by simp)) (.int .i64 201)).setCell (p := ⟨g, 1, none⟩) (.inl (by simp)) (.int .i64 0)).setCell (p := ⟨g, 2, none⟩) (.inl (by simp)) (.int .i64 0))
  clear p0 p1 p2
  go_wp2
  refine bodyPost_ret (results_none rfl _ _ _) rfl ?_
  exact ⟨rfl, HP.out, CP.out⟩
set_option maxRecDepth 100000 in
set_option maxHeartbeats 4000000 in
theorem next_some_a (w : World) (g : Nat) (v0 v1 v2 v3 vk : Value) (h0 h1 h2 : Value) (B : Option Addr) (c : Nat) (x : Sp) (r : List Sp) (hb : w.heap[g]? = some (.cells #[h0, h1, h2, .slice B (r.length + 1) c, v0, v1, v2, v3, vk] 89 (0, 0))) (hr : RdK spanTy w B (r.length + 1) (x :: r)) (hn : r.length + 1 ≤ c ∧ c ≤ maxLen) (hB : ∀ a, B = some a → a.block ≠ g) :
    Calls Try.prog 80 #[.pointer (some ⟨g, 0, none⟩)] w fun e w' => e = .returned (.tuple #[]) ∧ ∃ B' c', w'.heap[g]? = some (.cells #[.int .i64 x.1, .int .i64 x.2.1, .int .i64 x.2.2, (.slice B' r.length c'), v0, v1, v2, v3, vk] 89 (0, 0)) ∧ RdK spanTy w' B' r.length r ∧ (r.length ≤ c' ∧ c' ≤ maxLen) ∧ (∀ a, B' = some a → ∃ b, B = some b ∧ a.block = b.block) ∧ Chg [g] w w' := by
  obtain ⟨gB, oB, eB, _⟩ := hr.line (by omega)
  subst eB
  have HR := Lib.hid hr
  have HN := Lib.hid hn
  have NB := Lib.hid (hB ⟨gB, oB, none⟩ rfl)
  obtain ⟨y0, y1, y2⟩ := spanCells hr (j := 0) (x := x) rfl
  rw [Nat.zero_mul, Nat.add_zero] at y0 y1 y2
  have HB := Lib.hid hb
  have Y := Lib.hid (show w.cell? ⟨gB, oB, none⟩ = some (.int .i64 x.1) ∧ w.cell? ⟨gB, oB + 1, none⟩ = some (.int .i64 x.2.1) ∧ w.cell? ⟨gB, oB + 2, none⟩ = some (.int .i64 x.2.2) from ⟨y0, y1, y2⟩)
  clear hb hr hn y0 y1 y2 hB
  have n0 : (((r.length + 1 : Nat) : Int) == 0) = false := by simp; omega
  have n1 : (0 : Int) < ((r.length + 1 : Nat) : Int) := by omega
  have n2 : (1 : Int) ≤ ((r.length + 1 : Nat) : Int) := by omega
  have n3 : ((r.length + 1 : Nat) : Int) ≤ (c : Int) := by have := HN.out; omega
  have n5 : (1 : Int) ≤ (r.length : Int) + 1 := by omega
  have n4 : r.length + 1 - 1 = r.length := by omega
  have HT : Hid (RdK spanTy w (if c = 1 then some ⟨gB, oB, none⟩ else some ⟨gB, oB + 3, none⟩) r.length r) := Lib.hid (by
    split
    · have := HN.out
      have e : r = [] := List.eq_nil_of_length_eq_zero (by omega)
      subst e
      exact RdK.nil _ _
    · have q := HR.out.part 1 r.length (by omega)
      simpa [RowTy.k, spanTy] using q)
  go_enter Try.func80, Try.ntmps80
  have z3 := cell_of HB.out 3
  simp only [List.getElem?_toArray, List.getElem?_cons_succ, List.getElem?_cons_zero] at z3
  go_upto_region 2 with fail
  clear z3
  refine wp_region_held_drew (S := fun _ => True) (by kernel_rfl) trivial (fun hHeld => ?_)
  have CD := Lib.hid (Chg.refl [g] w).drew
  replace HB := Lib.hid (show w.drew.heap[g]? = some _ from HB.out)
  replace Y := Lib.hid (show w.drew.cell? ⟨gB, oB, none⟩ = some (.int .i64 x.1) ∧ w.drew.cell? ⟨gB, oB + 1, none⟩ = some (.int .i64 x.2.1) ∧ w.drew.cell? ⟨gB, oB + 2, none⟩ = some (.int .i64 x.2.2) from Y.out)
  replace HT := Lib.hid (show RdK spanTy w.drew _ r.length r from HT.out.chg (Chg.refl [] w).drew (by simp))
  generalize w.drew = wd at *
  generalize hAD : (if c = 1 then some ⟨gB, oB, none⟩ else some ⟨gB, oB + 3, none⟩ : Option Addr) = AD at *
  have AB : Hid (∀ a, AD = some a → a.block = gB) := Lib.hid (by intro a ha; rw [← hAD] at ha; split at ha <;> cases ha <;> rfl)
  refine sy 0 12 rfl rfl ?_ (hS := trivial)
  try simp only [Act.put, sA, s0, s1]
  refine sy 1 13 rfl rfl ?_ (hS := trivial)
  try simp only [Act.put, sA, s0, s1]
  refine sy 2 14 rfl rfl ?_ (hS := trivial)
  try simp only [Act.put, sA, s0, s1]
  refine sy 3 15 rfl rfl ?_ (hS := trivial)
  try simp only [Act.put, sA, s0, s1]
  refine sy 4 16 rfl rfl ?_ (hS := trivial)
  try simp only [Act.put, sA, s0, s1]
  refine sy 8 20 rfl rfl ?_ (hS := trivial)
  try simp only [Act.put, sA, s0, s1]
  refine sy 9 21 rfl rfl ?_ (hS := trivial)
  try simp only [Act.put, sA, s0, s1]
  refine sy 10 22 rfl rfl ?_ (hS := trivial)
  try simp only [Act.put, sA, s0, s1]
  refine wpAnyH_ready (rs := [5, 11]) (by kernel_rfl) (by simp) ?_
  refine AllReadyH.cons rfl (fun K hK => ?_) (AllReadyH.cons rfl (fun K hK => ?_) AllReadyH.nil)
  · skip
    replace hK := Lib.hid hK
    have z3 := cell_of HB.out 3
    simp only [List.getElem?_toArray, List.getElem?_cons_succ, List.getElem?_cons_zero] at z3
    go_simp
    clear z3 hHeld
    refine hK.out _ _ trivial (fun hHeld => ?_)
    clear hK K
    try simp only [Act.put, sA, s0, s1]
    refine sy 6 18 rfl rfl ?_ (hS := trivial)
    try simp only [Act.put, sA, s0, s1]
    refine wpAnyH_ready (rs := [7, 11]) (by kernel_rfl) (by simp) ?_
    refine AllReadyH.cons rfl (fun K hK => ?_) (AllReadyH.cons rfl (fun K hK => ?_) AllReadyH.nil)
    · skip
      replace hK := Lib.hid hK
      obtain ⟨y0, y1, y2⟩ := Y.out
      go_simp
      clear y0 y1 y2 hHeld
      refine hK.out _ _ trivial (fun hHeld => ?_)
      clear hK K
      try simp only [Act.put, sA, s0, s1]
      refine wpAnyH_ready (rs := [11]) (by kernel_rfl) (by simp) ?_
      refine AllReadyH.cons rfl (fun K hK => ?_) AllReadyH.nil
      replace hK := Lib.hid hK
      have z3 := cell_of HB.out 3
      simp only [List.getElem?_toArray, List.getElem?_cons_succ, List.getElem?_cons_zero] at z3
      go_simp
      clear z3 hHeld
      refine hK.out _ _ trivial (fun hHeld => ?_)
      clear hK K
      try simp only [Act.put, sA, s0, s1]
      refine sy 12 24 rfl rfl ?_ (hS := trivial)
      try simp only [Act.put, sA, s0, s1]
      refine sy 13 25 rfl rfl ?_ (hS := trivial)
      try simp only [Act.put, sA, s0, s1]
      refine sy 14 26 rfl rfl ?_ (hS := trivial)
      try simp only [Act.put, sA, s0, s1]
      refine wpAnyH_ready (rs := [15]) (by kernel_rfl) (by simp) ?_
      refine AllReadyH.cons rfl (fun K hK => ?_) AllReadyH.nil
      replace hK := Lib.hid hK
      have z0 := cell_of HB.out 0
      have z1 := cell_of HB.out 1
      have z2 := cell_of HB.out 2
      have fz0 := free_of HB.out 0
      have fz1 := free_of HB.out 1
      have fz2 := free_of HB.out 2
      simp only [List.getElem?_toArray, List.getElem?_cons_succ, List.getElem?_cons_zero] at z0 z1 z2
      have p0 := heap_setCell_same wd g 0 _ _ (.int .i64 x.1) HB.out
      have p1 := heap_setCell_same (wd.setCell ⟨g, 0, none⟩ (.int .i64 x.1)) g 1 _ _ (.int .i64 x.2.1) p0
      have p2 := heap_setCell_same ((wd.setCell ⟨g, 0, none⟩ (.int .i64 x.1)).setCell ⟨g, 1, none⟩ (.int .i64 x.2.1)) g 2 _ _ (.int .i64 x.2.2) p1
      simp only [List.setIfInBounds_toArray, List.set_cons_zero, List.set_cons_succ] at p2
      have HP := Lib.hid p2
      clear p0 p1 p2
      go_simp
      clear hHeld z0 fz0 z1 fz1 z2 fz2
      refine hK.out _ _ trivial (fun hHeld => ?_)
      clear hK K
      try simp only [Act.put, sA, s0, s1]
      refine sy 16 27 rfl rfl ?_ (hS := trivial)
      try simp only [Act.put, sA, s0, s1]
      refine sy 17 28 rfl rfl ?_ (hS := trivial)
      try simp only [Act.put, sA, s0, s1]
      refine wpAnyH_ready (rs := [18]) (by kernel_rfl) (by simp) ?_
      refine AllReadyH.cons rfl (fun K hK => ?_) AllReadyH.nil
      replace hK := Lib.hid hK
      have z3 := cell_of HP.out 3
      have fz3 := free_of HP.out 3
      simp only [List.getElem?_toArray, List.getElem?_cons_succ, List.getElem?_cons_zero] at z3
      go_simp
      clear hHeld z3 fz3
      refine hK.out _ _ trivial (fun hHeld => ?_)
      clear hK K
      try simp only [Act.put, sA, s0, s1]
      refine wpAnyH_done (by kernel_rfl) ?_ _
      have HQ := heap_setCell_same _ g 3 _ _ (.slice AD r.length (c - 1)) HP.out
      simp only [List.setIfInBounds_toArray, List.set_cons_zero, List.set_cons_succ] at HQ
      have CQ := Lib.hid (((((Chg.refl [g] wd).setCell (p := ⟨g, 0, none⟩) (.inl (by simp)) (.int .i64 x.1)).setCell (p := ⟨g, 1, none⟩) (.inl (by simp)) (.int .i64 x.2.1)).setCell (p := ⟨g, 2, none⟩) (.inl (by simp)) (.int .i64 x.2.2)).setCell (p := ⟨g, 3, none⟩) (.inl (by simp)) (.slice AD r.length (c - 1)))
      have HQ2 := Lib.hid HQ
      clear HQ
      go_wp2
      go_end0
      exact ⟨rfl, AD, c - 1, HQ2.out, HT.out.chg CQ.out (fun a ha => by rw [AB.out a ha]; simpa using NB.out), by have := HN.out; omega, fun a ha => by (first | exact ⟨_, rfl, AB.out a ha⟩ | exact AB.out a ha | simpa using AB.out a ha), CD.out.trans CQ.out⟩
    · skip
      replace hK := Lib.hid hK
      have z3 := cell_of HB.out 3
      simp only [List.getElem?_toArray, List.getElem?_cons_succ, List.getElem?_cons_zero] at z3
      go_simp
      clear z3 hHeld
      refine hK.out _ _ trivial (fun hHeld => ?_)
      clear hK K
      try simp only [Act.put, sA, s0, s1]
      refine sy 12 24 rfl rfl ?_ (hS := trivial)
      try simp only [Act.put, sA, s0, s1]
      refine wpAnyH_ready (rs := [7]) (by kernel_rfl) (by simp) ?_
      refine AllReadyH.cons rfl (fun K hK => ?_) AllReadyH.nil
      replace hK := Lib.hid hK
      obtain ⟨y0, y1, y2⟩ := Y.out
      go_simp
      clear y0 y1 y2 hHeld
      refine hK.out _ _ trivial (fun hHeld => ?_)
      clear hK K
      try simp only [Act.put, sA, s0, s1]
      refine sy 13 25 rfl rfl ?_ (hS := trivial)
      try simp only [Act.put, sA, s0, s1]
      refine sy 14 26 rfl rfl ?_ (hS := trivial)
      try simp only [Act.put, sA, s0, s1]
      refine wpAnyH_ready (rs := [15]) (by kernel_rfl) (by simp) ?_
      refine AllReadyH.cons rfl (fun K hK => ?_) AllReadyH.nil
      replace hK := Lib.hid hK
      have z0 := cell_of HB.out 0
      have z1 := cell_of HB.out 1
      have z2 := cell_of HB.out 2
      have fz0 := free_of HB.out 0
      have fz1 := free_of HB.out 1
      have fz2 := free_of HB.out 2
      simp only [List.getElem?_toArray, List.getElem?_cons_succ, List.getElem?_cons_zero] at z0 z1 z2
      have p0 := heap_setCell_same wd g 0 _ _ (.int .i64 x.1) HB.out
      have p1 := heap_setCell_same (wd.setCell ⟨g, 0, none⟩ (.int .i64 x.1)) g 1 _ _ (.int .i64 x.2.1) p0
      have p2 := heap_setCell_same ((wd.setCell ⟨g, 0, none⟩ (.int .i64 x.1)).setCell ⟨g, 1, none⟩ (.int .i64 x.2.1)) g 2 _ _ (.int .i64 x.2.2) p1
      simp only [List.setIfInBounds_toArray, List.set_cons_zero, List.set_cons_succ] at p2
      have HP := Lib.hid p2
      clear p0 p1 p2
      go_simp
      clear hHeld z0 fz0 z1 fz1 z2 fz2
      refine hK.out _ _ trivial (fun hHeld => ?_)
      clear hK K
      try simp only [Act.put, sA, s0, s1]
      refine sy 16 27 rfl rfl ?_ (hS := trivial)
      try simp only [Act.put, sA, s0, s1]
      refine sy 17 28 rfl rfl ?_ (hS := trivial)
      try simp only [Act.put, sA, s0, s1]
      refine wpAnyH_ready (rs := [18]) (by kernel_rfl) (by simp) ?_
      refine AllReadyH.cons rfl (fun K hK => ?_) AllReadyH.nil
      replace hK := Lib.hid hK
      have z3 := cell_of HP.out 3
      have fz3 := free_of HP.out 3
      simp only [List.getElem?_toArray, List.getElem?_cons_succ, List.getElem?_cons_zero] at z3
      go_simp
      clear hHeld z3 fz3
      refine hK.out _ _ trivial (fun hHeld => ?_)
      clear hK K
      try simp only [Act.put, sA, s0, s1]
      refine wpAnyH_done (by kernel_rfl) ?_ _
      have HQ := heap_setCell_same _ g 3 _ _ (.slice AD r.length (c - 1)) HP.out
      simp only [List.setIfInBounds_toArray, List.set_cons_zero, List.set_cons_succ] at HQ
      have CQ := Lib.hid (((((Chg.refl [g] wd).setCell (p := ⟨g, 0, none⟩) (.inl (by simp)) (.int .i64 x.1)).setCell (p := ⟨g, 1, none⟩) (.inl (by simp)) (.int .i64 x.2.1)).setCell (p := ⟨g, 2, none⟩) (.inl (by simp)) (.int .i64 x.2.2)).setCell (p := ⟨g, 3, none⟩) (.inl (by simp)) (.slice AD r.length (c - 1)))
      have HQ2 := Lib.hid HQ
      clear HQ
      go_wp2
      go_end0
      exact ⟨rfl, AD, c - 1, HQ2.out, HT.out.chg CQ.out (fun a ha => by rw [AB.out a ha]; simpa using NB.out), by have := HN.out; omega, fun a ha => by (first | exact ⟨_, rfl, AB.out a ha⟩ | exact AB.out a ha | simpa using AB.out a ha), CD.out.trans CQ.out⟩
  · skip
    replace hK := Lib.hid hK
    have z3 := cell_of HB.out 3
    simp only [List.getElem?_toArray, List.getElem?_cons_succ, List.getElem?_cons_zero] at z3
    go_simp
    clear z3 hHeld
    refine hK.out _ _ trivial (fun hHeld => ?_)
    clear hK K
    try simp only [Act.put, sA, s0, s1]
    refine sy 12 24 rfl rfl ?_ (hS := trivial)
    try simp only [Act.put, sA, s0, s1]
    refine wpAnyH_ready (rs := [5]) (by kernel_rfl) (by simp) ?_
    refine AllReadyH.cons rfl (fun K hK => ?_) AllReadyH.nil
    replace hK := Lib.hid hK
    have z3 := cell_of HB.out 3
    simp only [List.getElem?_toArray, List.getElem?_cons_succ, List.getElem?_cons_zero] at z3
    go_simp
    clear z3 hHeld
    refine hK.out _ _ trivial (fun hHeld => ?_)
    clear hK K
    try simp only [Act.put, sA, s0, s1]
    refine sy 6 18 rfl rfl ?_ (hS := trivial)
    try simp only [Act.put, sA, s0, s1]
    refine wpAnyH_ready (rs := [7]) (by kernel_rfl) (by simp) ?_
    refine AllReadyH.cons rfl (fun K hK => ?_) AllReadyH.nil
    replace hK := Lib.hid hK
    obtain ⟨y0, y1, y2⟩ := Y.out
    go_simp
    clear y0 y1 y2 hHeld
    refine hK.out _ _ trivial (fun hHeld => ?_)
    clear hK K
    try simp only [Act.put, sA, s0, s1]
    refine sy 13 25 rfl rfl ?_ (hS := trivial)
    try simp only [Act.put, sA, s0, s1]
    refine sy 14 26 rfl rfl ?_ (hS := trivial)
    try simp only [Act.put, sA, s0, s1]
    refine wpAnyH_ready (rs := [15]) (by kernel_rfl) (by simp) ?_
    refine AllReadyH.cons rfl (fun K hK => ?_) AllReadyH.nil
    replace hK := Lib.hid hK
    have z0 := cell_of HB.out 0
    have z1 := cell_of HB.out 1
    have z2 := cell_of HB.out 2
    have fz0 := free_of HB.out 0
    have fz1 := free_of HB.out 1
    have fz2 := free_of HB.out 2
    simp only [List.getElem?_toArray, List.getElem?_cons_succ, List.getElem?_cons_zero] at z0 z1 z2
    have p0 := heap_setCell_same wd g 0 _ _ (.int .i64 x.1) HB.out
    have p1 := heap_setCell_same (wd.setCell ⟨g, 0, none⟩ (.int .i64 x.1)) g 1 _ _ (.int .i64 x.2.1) p0
    have p2 := heap_setCell_same ((wd.setCell ⟨g, 0, none⟩ (.int .i64 x.1)).setCell ⟨g, 1, none⟩ (.int .i64 x.2.1)) g 2 _ _ (.int .i64 x.2.2) p1
    simp only [List.setIfInBounds_toArray, List.set_cons_zero, List.set_cons_succ] at p2
    have HP := Lib.hid p2
    clear p0 p1 p2
    go_simp
    clear hHeld z0 fz0 z1 fz1 z2 fz2
    refine hK.out _ _ trivial (fun hHeld => ?_)
    clear hK K
    try simp only [Act.put, sA, s0, s1]
    refine sy 16 27 rfl rfl ?_ (hS := trivial)
    try simp only [Act.put, sA, s0, s1]
    refine sy 17 28 rfl rfl ?_ (hS := trivial)
    try simp only [Act.put, sA, s0, s1]
    refine wpAnyH_ready (rs := [18]) (by kernel_rfl) (by simp) ?_
    refine AllReadyH.cons rfl (fun K hK => ?_) AllReadyH.nil
    replace hK := Lib.hid hK
    have z3 := cell_of HP.out 3
    have fz3 := free_of HP.out 3
    simp only [List.getElem?_toArray, List.getElem?_cons_succ, List.getElem?_cons_zero] at z3
    go_simp
    clear hHeld z3 fz3
    refine hK.out _ _ trivial (fun hHeld => ?_)
    clear hK K
    try simp only [Act.put, sA, s0, s1]
    refine wpAnyH_done (by kernel_rfl) ?_ _
    have HQ := heap_setCell_same _ g 3 _ _ (.slice AD r.length (c - 1)) HP.out
    simp only [List.setIfInBounds_toArray, List.set_cons_zero, List.set_cons_succ] at HQ
    have CQ := Lib.hid (((((Chg.refl [g] wd).setCell (p := ⟨g, 0, none⟩) (.inl (by simp)) (.int .i64 x.1)).setCell (p := ⟨g, 1, none⟩) (.inl (by simp)) (.int .i64 x.2.1)).setCell (p := ⟨g, 2, none⟩) (.inl (by simp)) (.int .i64 x.2.2)).setCell (p := ⟨g, 3, none⟩) (.inl (by simp)) (.slice AD r.length (c - 1)))
    have HQ2 := Lib.hid HQ
    clear HQ
    go_wp2
    go_end0
    exact ⟨rfl, AD, c - 1, HQ2.out, HT.out.chg CQ.out (fun a ha => by rw [AB.out a ha]; simpa using NB.out), by have := HN.out; omega, fun a ha => by (first | exact ⟨_, rfl, AB.out a ha⟩ | exact AB.out a ha | simpa using AB.out a ha), CD.out.trans CQ.out⟩
end
section
open Go.RowKit Go.Lib
set_option linter.unusedSimpArgs false
set_option linter.unusedVariables false


set_option maxRecDepth 100000 in
set_option maxHeartbeats 4000000 in
theorem pass_a (w : World) (g : Nat) (v0 v1 v2 v3 vk : Value) (B : Option Addr) (c : Nat) (x : Sp) (r : List Sp) (to : Int) (hto : 0 ≤ to ∧ to ≤ 2147483647) (hb : w.heap[g]? = some (.cells #[.int .i64 x.1, .int .i64 x.2.1, .int .i64 x.2.2, .slice B r.length c, v0, v1, v2, v3, vk] 89 (0, 0))) (hr : RdK spanTy w B r.length r) (hn : r.length ≤ c ∧ c ≤ maxLen) (hB : ∀ a, B = some a → a.block ≠ g) :
    Calls Try.prog 82 #[.pointer (some ⟨g, 0, none⟩), .int .i64 to] w fun e w' => e = .returned (.tuple #[]) ∧ ∃ B' c', w'.heap[g]? = some (.cells #[.int .i64 (hdP (passP (x :: r) to)).1, .int .i64 (hdP (passP (x :: r) to)).2.1, .int .i64 (hdP (passP (x :: r) to)).2.2, .slice B' (passP (x :: r) to).tail.length c', v0, v1, v2, v3, vk] 89 (0, 0)) ∧ RdK spanTy w' B' (passP (x :: r) to).tail.length (passP (x :: r) to).tail ∧ ((passP (x :: r) to).tail.length ≤ c' ∧ c' ≤ maxLen) ∧ (∀ a, B' = some a → ∃ b, B = some b ∧ a.block = b.block) ∧ Chg [g] w w' := by
  have HB := Lib.hid hb
  have HR := Lib.hid hr
  have HN := Lib.hid hn
  have NB := Lib.hid hB
  clear hb hr hn hB
  have e1 : IntKind.i64.wrap (to + 1) = to + 1 := IntWalk.i64_in _ (by omega)
  by_cases hlt : to < x.2.2
  · have hp : passP (x :: r) to = (x.1, to + 1, x.2.2) :: r := by unfold passP; simp only; rw [if_pos hlt]
    rw [hp]
    simp only [hd_cons, List.tail_cons]
    have HLT := hlt
    clear hp
    go_enter Try.func82, Try.ntmps82
    have z0 := cell_of HB.out 0
    have z1 := cell_of HB.out 1
    have z2 := cell_of HB.out 2
    have z3 := cell_of HB.out 3
    have fz1 := free_of HB.out 1
    simp only [List.getElem?_toArray, List.getElem?_cons_succ, List.getElem?_cons_zero] at z0 z1 z2 z3
    have HQ := heap_setCell_same w g 1 _ _ (.int .i64 (to + 1)) HB.out
    simp only [List.setIfInBounds_toArray, List.set_cons_zero, List.set_cons_succ] at HQ
    have HP := Lib.hid HQ
    have CP := Lib.hid ((Chg.refl [g] w).setCell (p := ⟨g, 1, none⟩) (.inl (by simp)) (.int .i64 (to + 1)))
    clear HQ
    go_wp2
    refine bodyPost_ret (results_none rfl _ _ _) rfl ?_
    exact ⟨rfl, B, c, HP.out, HR.out.chg CP.out (fun a ha => by simpa using NB.out a ha), HN.out, fun a ha => ⟨a, ha, rfl⟩, CP.out⟩
  · have hp : passP (x :: r) to = r := by unfold passP; simp only; rw [if_neg hlt]
    rw [hp]
    clear hp
    cases r with
    | nil =>
      go_enter Try.func82, Try.ntmps82
      have z0 := cell_of HB.out 0
      have z1 := cell_of HB.out 1
      have z2 := cell_of HB.out 2
      have z3 := cell_of HB.out 3
      simp only [List.getElem?_toArray, List.getElem?_cons_succ, List.getElem?_cons_zero] at z0 z1 z2 z3
      go_wp2_with fail
      clear z0 z1 z2 z3
      refine (next_none_a w g v0 v1 v2 v3 vk _ _ _ B c HB.out).mono ?_
      rintro e w' ⟨rfl, h1, h2⟩
      have HP := Lib.hid h1
      have CP := Lib.hid h2
      clear h1 h2
      go_wp2
      go_end0
      exact ⟨rfl, B, c, HP.out, RdK.nil _ _, ⟨Nat.zero_le _, HN.out.2⟩, fun a ha => ⟨a, ha, rfl⟩, CP.out⟩
    | cons y r2 =>
      go_enter Try.func82, Try.ntmps82
      have z0 := cell_of HB.out 0
      have z1 := cell_of HB.out 1
      have z2 := cell_of HB.out 2
      have z3 := cell_of HB.out 3
      simp only [List.getElem?_toArray, List.getElem?_cons_succ, List.getElem?_cons_zero] at z0 z1 z2 z3
      go_wp2_with fail
      clear z0 z1 z2 z3
      refine (next_some_a w g v0 v1 v2 v3 vk _ _ _ B c y r2 HB.out HR.out HN.out NB.out).mono ?_
      rintro e w' ⟨rfl, B2, c2, h1, h2, h3, h4, h5⟩
      have HP := Lib.hid h1
      have CP := Lib.hid h5
      have H2 := Lib.hid h2
      have H3 := Lib.hid h3
      have H4 := Lib.hid h4
      clear h1 h2 h3 h4 h5
      go_wp2
      go_end0
      exact ⟨rfl, B2, c2, HP.out, H2.out, H3.out, H4.out, CP.out⟩
end
section
open Go.RowKit Go.Lib
set_option linter.unusedSimpArgs false
set_option linter.unusedVariables false


set_option maxRecDepth 100000 in
theorem next_none_b (w : World) (g : Nat) (v0 v1 v2 v3 vk : Value) (h0 h1 h2 : Value) (B : Option Addr) (c : Nat) (hb : w.heap[g]? = some (.cells #[v0, v1, v2, v3, h0, h1, h2, .slice B 0 c, vk] 89 (0, 0))) :
    Calls Try.prog 80 #[.pointer (some ⟨g, 4, none⟩)] w fun e w' => e = .returned (.tuple #[]) ∧ w'.heap[g]? = some (.cells #[v0, v1, v2, v3, .int .i64 201, .int .i64 0, .int .i64 0, .slice B 0 c, vk] 89 (0, 0)) ∧ Chg [g] w w' := by
  have HB := Lib.hid hb
  clear hb
  go_enter Try.func80, Try.ntmps80
  have z4 := cell_of HB.out 4
  have z5 := cell_of HB.out 5
  have z6 := cell_of HB.out 6
  have z7 := cell_of HB.out 7
  have fz4 := free_of HB.out 4
  have fz5 := free_of HB.out 5
  have fz6 := free_of HB.out 6
  simp only [List.getElem?_toArray, List.getElem?_cons_succ, List.getElem?_cons_zero] at z4 z5 z6 z7
  have p0 := heap_setCell_same w g 4 _ _ (.int .i64 201) HB.out
  have p1 := heap_setCell_same (w.setCell ⟨g, 4, none⟩ (.int .i64 201)) g 5 _ _ (.int .i64 0) p0
  have p2 := heap_setCell_same ((w.setCell ⟨g, 4, none⟩ (.int .i64 201)).setCell ⟨g, 5, none⟩ (.int .i64 0)) g 6 _ _ (.int .i64 0) p1
  simp only [List.setIfInBounds_toArray, List.set_cons_zero, List.set_cons_succ] at p2
  have HP := Lib.hid p2
  have CP := Lib.hid ((((Chg.refl [g] w).setCell (p := ⟨g, 4, none⟩) (.inl (by simp)) (.int .i64 201)).setCell (p := ⟨g, 5, none⟩) (.inl (by simp)) (.int .i64 0)).setCell (p := ⟨g, 6, none⟩) (.inl (by simp)) (.int .i64 0))
  clear p0 p1 p2
  go_wp2
  refine bodyPost_ret (results_none rfl _ _ _) rfl ?_
  exact ⟨rfl, HP.out, CP.out⟩
set_option maxRecDepth 100000 in
set_option maxHeartbeats 4000000 in
theorem next_some_b (w : World) (g : Nat) (v0 v1 v2 v3 vk : Value) (h0 h1 h2 : Value) (B : Option Addr) (c : Nat) (x : Sp) (r : List Sp) (hb : w.heap[g]? = some (.cells #[v0, v1, v2, v3, h0, h1, h2, .slice B (r.length + 1) c, vk] 89 (0, 0))) (hr : RdK spanTy w B (r.length + 1) (x :: r)) (hn : r.length + 1 ≤ c ∧ c ≤ maxLen) (hB : ∀ a, B = some a → a.block ≠ g) :
    Calls Try.prog 80 #[.pointer (some ⟨g, 4, none⟩)] w fun e w' => e = .returned (.tuple #[]) ∧ ∃ B' c', w'.heap[g]? = some (.cells #[v0, v1, v2, v3, .int .i64 x.1, .int .i64 x.2.1, .int .i64 x.2.2, (.slice B' r.length c'), vk] 89 (0, 0)) ∧ RdK spanTy w' B' r.length r ∧ (r.length ≤ c' ∧ c' ≤ maxLen) ∧ (∀ a, B' = some a → ∃ b, B = some b ∧ a.block = b.block) ∧ Chg [g] w w' := by
  obtain ⟨gB, oB, eB, _⟩ := hr.line (by omega)
  subst eB
  have HR := Lib.hid hr
  have HN := Lib.hid hn
  have NB := Lib.hid (hB ⟨gB, oB, none⟩ rfl)
  obtain ⟨y0, y1, y2⟩ := spanCells hr (j := 0) (x := x) rfl
  rw [Nat.zero_mul, Nat.add_zero] at y0 y1 y2
  have HB := Lib.hid hb
  have Y := Lib.hid (show w.cell? ⟨gB, oB, none⟩ = some (.int .i64 x.1) ∧ w.cell? ⟨gB, oB + 1, none⟩ = some (.int .i64 x.2.1) ∧ w.cell? ⟨gB, oB + 2, none⟩ = some (.int .i64 x.2.2) from ⟨y0, y1, y2⟩)
  clear hb hr hn y0 y1 y2 hB
  have n0 : (((r.length + 1 : Nat) : Int) == 0) = false := by simp; omega
  have n1 : (0 : Int) < ((r.length + 1 : Nat) : Int) := by omega
  have n2 : (1 : Int) ≤ ((r.length + 1 : Nat) : Int) := by omega
  have n3 : ((r.length + 1 : Nat) : Int) ≤ (c : Int) := by have := HN.out; omega
  have n5 : (1 : Int) ≤ (r.length : Int) + 1 := by omega
  have n4 : r.length + 1 - 1 = r.length := by omega
  have HT : Hid (RdK spanTy w (if c = 1 then some ⟨gB, oB, none⟩ else some ⟨gB, oB + 3, none⟩) r.length r) := Lib.hid (by
    split
    · have := HN.out
      have e : r = [] := List.eq_nil_of_length_eq_zero (by omega)
      subst e
      exact RdK.nil _ _
    · have q := HR.out.part 1 r.length (by omega)
      simpa [RowTy.k, spanTy] using q)
  go_enter Try.func80, Try.ntmps80
  have z7 := cell_of HB.out 7
  simp only [List.getElem?_toArray, List.getElem?_cons_succ, List.getElem?_cons_zero] at z7
  go_upto_region 2 with fail
  clear z7
  refine wp_region_held_drew (S := fun _ => True) (by kernel_rfl) trivial (fun hHeld => ?_)
  have CD := Lib.hid (Chg.refl [g] w).drew
  replace HB := Lib.hid (show w.drew.heap[g]? = some _ from HB.out)
  replace Y := Lib.hid (show w.drew.cell? ⟨gB, oB, none⟩ = some (.int .i64 x.1) ∧ w.drew.cell? ⟨gB, oB + 1, none⟩ = some (.int .i64 x.2.1) ∧ w.drew.cell? ⟨gB, oB + 2, none⟩ = some (.int .i64 x.2.2) from Y.out)
  replace HT := Lib.hid (show RdK spanTy w.drew _ r.length r from HT.out.chg (Chg.refl [] w).drew (by simp))
  generalize w.drew = wd at *
  generalize hAD : (if c = 1 then some ⟨gB, oB, none⟩ else some ⟨gB, oB + 3, none⟩ : Option Addr) = AD at *
  have AB : Hid (∀ a, AD = some a → a.block = gB) := Lib.hid (by intro a ha; rw [← hAD] at ha; split at ha <;> cases ha <;> rfl)
  refine sy 0 12 rfl rfl ?_ (hS := trivial)
  try simp only [Act.put, sA, s0, s1]
  refine sy 1 13 rfl rfl ?_ (hS := trivial)
  try simp only [Act.put, sA, s0, s1]
  refine sy 2 14 rfl rfl ?_ (hS := trivial)
  try simp only [Act.put, sA, s0, s1]
  refine sy 3 15 rfl rfl ?_ (hS := trivial)
  try simp only [Act.put, sA, s0, s1]
  refine sy 4 16 rfl rfl ?_ (hS := trivial)
  try simp only [Act.put, sA, s0, s1]
  refine sy 8 20 rfl rfl ?_ (hS := trivial)
  try simp only [Act.put, sA, s0, s1]
  refine sy 9 21 rfl rfl ?_ (hS := trivial)
  try simp only [Act.put, sA, s0, s1]
  refine sy 10 22 rfl rfl ?_ (hS := trivial)
  try simp only [Act.put, sA, s0, s1]
  refine wpAnyH_ready (rs := [5, 11]) (by kernel_rfl) (by simp) ?_
  refine AllReadyH.cons rfl (fun K hK => ?_) (AllReadyH.cons rfl (fun K hK => ?_) AllReadyH.nil)
  · skip
    replace hK := Lib.hid hK
    have z7 := cell_of HB.out 7
    simp only [List.getElem?_toArray, List.getElem?_cons_succ, List.getElem?_cons_zero] at z7
    go_simp
    clear z7 hHeld
    refine hK.out _ _ trivial (fun hHeld => ?_)
    clear hK K
    try simp only [Act.put, sA, s0, s1]
    refine sy 6 18 rfl rfl ?_ (hS := trivial)
    try simp only [Act.put, sA, s0, s1]
    refine wpAnyH_ready (rs := [7, 11]) (by kernel_rfl) (by simp) ?_
    refine AllReadyH.cons rfl (fun K hK => ?_) (AllReadyH.cons rfl (fun K hK => ?_) AllReadyH.nil)
    · skip
      replace hK := Lib.hid hK
      obtain ⟨y0, y1, y2⟩ := Y.out
      go_simp
      clear y0 y1 y2 hHeld
      refine hK.out _ _ trivial (fun hHeld => ?_)
      clear hK K
      try simp only [Act.put, sA, s0, s1]
      refine wpAnyH_ready (rs := [11]) (by kernel_rfl) (by simp) ?_
      refine AllReadyH.cons rfl (fun K hK => ?_) AllReadyH.nil
      replace hK := Lib.hid hK
      have z7 := cell_of HB.out 7
      simp only [List.getElem?_toArray, List.getElem?_cons_succ, List.getElem?_cons_zero] at z7
      go_simp
      clear z7 hHeld
      refine hK.out _ _ trivial (fun hHeld => ?_)
      clear hK K
      try simp only [Act.put, sA, s0, s1]
      refine sy 12 24 rfl rfl ?_ (hS := trivial)
      try simp only [Act.put, sA, s0, s1]
      refine sy 13 25 rfl rfl ?_ (hS := trivial)
      try simp only [Act.put, sA, s0, s1]
      refine sy 14 26 rfl rfl ?_ (hS := trivial)
      try simp only [Act.put, sA, s0, s1]
      refine wpAnyH_ready (rs := [15]) (by kernel_rfl) (by simp) ?_
      refine AllReadyH.cons rfl (fun K hK => ?_) AllReadyH.nil
      replace hK := Lib.hid hK
      have z4 := cell_of HB.out 4
      have z5 := cell_of HB.out 5
      have z6 := cell_of HB.out 6
      have fz4 := free_of HB.out 4
      have fz5 := free_of HB.out 5
      have fz6 := free_of HB.out 6
      simp only [List.getElem?_toArray, List.getElem?_cons_succ, List.getElem?_cons_zero] at z4 z5 z6
      have p0 := heap_setCell_same wd g 4 _ _ (.int .i64 x.1) HB.out
      have p1 := heap_setCell_same (wd.setCell ⟨g, 4, none⟩ (.int .i64 x.1)) g 5 _ _ (.int .i64 x.2.1) p0
      have p2 := heap_setCell_same ((wd.setCell ⟨g, 4, none⟩ (.int .i64 x.1)).setCell ⟨g, 5, none⟩ (.int .i64 x.2.1)) g 6 _ _ (.int .i64 x.2.2) p1
      simp only [List.setIfInBounds_toArray, List.set_cons_zero, List.set_cons_succ] at p2
      have HP := Lib.hid p2
      clear p0 p1 p2
      go_simp
      clear hHeld z4 fz4 z5 fz5 z6 fz6
      refine hK.out _ _ trivial (fun hHeld => ?_)
      clear hK K
      try simp only [Act.put, sA, s0, s1]
      refine sy 16 27 rfl rfl ?_ (hS := trivial)
      try simp only [Act.put, sA, s0, s1]
      refine sy 17 28 rfl rfl ?_ (hS := trivial)
      try simp only [Act.put, sA, s0, s1]
      refine wpAnyH_ready (rs := [18]) (by kernel_rfl) (by simp) ?_
      refine AllReadyH.cons rfl (fun K hK => ?_) AllReadyH.nil
      replace hK := Lib.hid hK
      have z7 := cell_of HP.out 7
      have fz7 := free_of HP.out 7
      simp only [List.getElem?_toArray, List.getElem?_cons_succ, List.getElem?_cons_zero] at z7
      go_simp
      clear hHeld z7 fz7
      refine hK.out _ _ trivial (fun hHeld => ?_)
      clear hK K
      try simp only [Act.put, sA, s0, s1]
      refine wpAnyH_done (by kernel_rfl) ?_ _
      have HQ := heap_setCell_same _ g 7 _ _ (.slice AD r.length (c - 1)) HP.out
      simp only [List.setIfInBounds_toArray, List.set_cons_zero, List.set_cons_succ] at HQ
      have CQ := Lib.hid (((((Chg.refl [g] wd).setCell (p := ⟨g, 4, none⟩) (.inl (by simp)) (.int .i64 x.1)).setCell (p := ⟨g, 5, none⟩) (.inl (by simp)) (.int .i64 x.2.1)).setCell (p := ⟨g, 6, none⟩) (.inl (by simp)) (.int .i64 x.2.2)).setCell (p := ⟨g, 7, none⟩) (.inl (by simp)) (.slice AD r.length (c - 1)))
      have HQ2 := Lib.hid HQ
      clear HQ
      go_wp2
      go_end0
      exact ⟨rfl, AD, c - 1, HQ2.out, HT.out.chg CQ.out (fun a ha => by rw [AB.out a ha]; simpa using NB.out), by have := HN.out; omega, fun a ha => by (first | exact ⟨_, rfl, AB.out a ha⟩ | exact AB.out a ha | simpa using AB.out a ha), CD.out.trans CQ.out⟩
    · skip
      replace hK := Lib.hid hK
      have z7 := cell_of HB.out 7
      simp only [List.getElem?_toArray, List.getElem?_cons_succ, List.getElem?_cons_zero] at z7
      go_simp
      clear z7 hHeld
      refine hK.out _ _ trivial (fun hHeld => ?_)
      clear hK K
      try simp only [Act.put, sA, s0, s1]
      refine sy 12 24 rfl rfl ?_ (hS := trivial)
      try simp only [Act.put, sA, s0, s1]
      refine wpAnyH_ready (rs := [7]) (by kernel_rfl) (by simp) ?_
      refine AllReadyH.cons rfl (fun K hK => ?_) AllReadyH.nil
      replace hK := Lib.hid hK
      obtain ⟨y0, y1, y2⟩ := Y.out
      go_simp
      clear y0 y1 y2 hHeld
      refine hK.out _ _ trivial (fun hHeld => ?_)
      clear hK K
      try simp only [Act.put, sA, s0, s1]
      refine sy 13 25 rfl rfl ?_ (hS := trivial)
      try simp only [Act.put, sA, s0, s1]
      refine sy 14 26 rfl rfl ?_ (hS := trivial)
      try simp only [Act.put, sA, s0, s1]
      refine wpAnyH_ready (rs := [15]) (by kernel_rfl) (by simp) ?_
      refine AllReadyH.cons rfl (fun K hK => ?_) AllReadyH.nil
      replace hK := Lib.hid hK
      have z4 := cell_of HB.out 4
      have z5 := cell_of HB.out 5
      have z6 := cell_of HB.out 6
      have fz4 := free_of HB.out 4
      have fz5 := free_of HB.out 5
      have fz6 := free_of HB.out 6
      simp only [List.getElem?_toArray, List.getElem?_cons_succ, List.getElem?_cons_zero] at z4 z5 z6
      have p0 := heap_setCell_same wd g 4 _ _ (.int .i64 x.1) HB.out
      have p1 := heap_setCell_same (wd.setCell ⟨g, 4, none⟩ (.int .i64 x.1)) g 5 _ _ (.int .i64 x.2.1) p0
      have p2 := heap_setCell_same ((wd.setCell ⟨g, 4, none⟩ (.int .i64 x.1)).setCell ⟨g, 5, none⟩ (.int .i64 x.2.1)) g 6 _ _ (.int .i64 x.2.2) p1
      simp only [List.setIfInBounds_toArray, List.set_cons_zero, List.set_cons_succ] at p2
      have HP := Lib.hid p2
      clear p0 p1 p2
      go_simp
      clear hHeld z4 fz4 z5 fz5 z6 fz6
      refine hK.out _ _ trivial (fun hHeld => ?_)
      clear hK K
      try simp only [Act.put, sA, s0, s1]
      refine sy 16 27 rfl rfl ?_ (hS := trivial)
      try simp only [Act.put, sA, s0, s1]
      refine sy 17 28 rfl rfl ?_ (hS := trivial)
      try simp only [Act.put, sA, s0, s1]
      refine wpAnyH_ready (rs := [18]) (by kernel_rfl) (by simp) ?_
      refine AllReadyH.cons rfl (fun K hK => ?_) AllReadyH.nil
      replace hK := Lib.hid hK
      have z7 := cell_of HP.out 7
      have fz7 := free_of HP.out 7
      simp only [List.getElem?_toArray, List.getElem?_cons_succ, List.getElem?_cons_zero] at z7
      go_simp
      clear hHeld z7 fz7
      refine hK.out _ _ trivial (fun hHeld => ?_)
      clear hK K
      try simp only [Act.put, sA, s0, s1]
      refine wpAnyH_done (by kernel_rfl) ?_ _
      have HQ := heap_setCell_same _ g 7 _ _ (.slice AD r.length (c - 1)) HP.out
      simp only [List.setIfInBounds_toArray, List.set_cons_zero, List.set_cons_succ] at HQ
      have CQ := Lib.hid (((((Chg.refl [g] wd).setCell (p := ⟨g, 4, none⟩) (.inl (by simp)) (.int .i64 x.1)).setCell (p := ⟨g, 5, none⟩) (.inl (by simp)) (.int .i64 x.2.1)).setCell (p := ⟨g, 6, none⟩) (.inl (by simp)) (.int .i64 x.2.2)).setCell (p := ⟨g, 7, none⟩) (.inl (by simp)) (.slice AD r.length (c - 1)))
      have HQ2 := Lib.hid HQ
      clear HQ
      go_wp2
      go_end0
      exact ⟨rfl, AD, c - 1, HQ2.out, HT.out.chg CQ.out (fun a ha => by rw [AB.out a ha]; simpa using NB.out), by have := HN.out; omega, fun a ha => by (first | exact ⟨_, rfl, AB.out a ha⟩ | exact AB.out a ha | simpa using AB.out a ha), CD.out.trans CQ.out⟩
  · skip
    replace hK := Lib.hid hK
    have z7 := cell_of HB.out 7
    simp only [List.getElem?_toArray, List.getElem?_cons_succ, List.getElem?_cons_zero] at z7
    go_simp
    clear z7 hHeld
    refine hK.out _ _ trivial (fun hHeld => ?_)
    clear hK K
    try simp only [Act.put, sA, s0, s1]
    refine sy 12 24 rfl rfl ?_ (hS := trivial)
    try simp only [Act.put, sA, s0, s1]
    refine wpAnyH_ready (rs := [5]) (by kernel_rfl) (by simp) ?_
    refine AllReadyH.cons rfl (fun K hK => ?_) AllReadyH.nil
    replace hK := Lib.hid hK
    have z7 := cell_of HB.out 7
    simp only [List.getElem?_toArray, List.getElem?_cons_succ, List.getElem?_cons_zero] at z7
    go_simp
    clear z7 hHeld
    refine hK.out _ _ trivial (fun hHeld => ?_)
    clear hK K
    try simp only [Act.put, sA, s0, s1]
    refine sy 6 18 rfl rfl ?_ (hS := trivial)
    try simp only [Act.put, sA, s0, s1]
    refine wpAnyH_ready (rs := [7]) (by kernel_rfl) (by simp) ?_
    refine AllReadyH.cons rfl (fun K hK => ?_) AllReadyH.nil
    replace hK := Lib.hid hK
    obtain ⟨y0, y1, y2⟩ := Y.out
    go_simp
    clear y0 y1 y2 hHeld
    refine hK.out _ _ trivial (fun hHeld => ?_)
    clear hK K
    try simp only [Act.put, sA, s0, s1]
    refine sy 13 25 rfl rfl ?_ (hS := trivial)
    try simp only [Act.put, sA, s0, s1]
    refine sy 14 26 rfl rfl ?_ (hS := trivial)
    try simp only [Act.put, sA, s0, s1]
    refine wpAnyH_ready (rs := [15]) (by kernel_rfl) (by simp) ?_
    refine AllReadyH.cons rfl (fun K hK => ?_) AllReadyH.nil
    replace hK := Lib.hid hK
    have z4 := cell_of HB.out 4
    have z5 := cell_of HB.out 5
    have z6 := cell_of HB.out 6
    have fz4 := free_of HB.out 4
    have fz5 := free_of HB.out 5
    have fz6 := free_of HB.out 6
    simp only [List.getElem?_toArray, List.getElem?_cons_succ, List.getElem?_cons_zero] at z4 z5 z6
    have p0 := heap_setCell_same wd g 4 _ _ (.int .i64 x.1) HB.out
    have p1 := heap_setCell_same (wd.setCell ⟨g, 4, none⟩ (.int .i64 x.1)) g 5 _ _ (.int .i64 x.2.1) p0
    have p2 := heap_setCell_same ((wd.setCell ⟨g, 4, none⟩ (.int .i64 x.1)).setCell ⟨g, 5, none⟩ (.int .i64 x.2.1)) g 6 _ _ (.int .i64 x.2.2) p1
    simp only [List.setIfInBounds_toArray, List.set_cons_zero, List.set_cons_succ] at p2
    have HP := Lib.hid p2
    clear p0 p1 p2
    go_simp
    clear hHeld z4 fz4 z5 fz5 z6 fz6
    refine hK.out _ _ trivial (fun hHeld => ?_)
    clear hK K
    try simp only [Act.put, sA, s0, s1]
    refine sy 16 27 rfl rfl ?_ (hS := trivial)
    try simp only [Act.put, sA, s0, s1]
    refine sy 17 28 rfl rfl ?_ (hS := trivial)
    try simp only [Act.put, sA, s0, s1]
    refine wpAnyH_ready (rs := [18]) (by kernel_rfl) (by simp) ?_
    refine AllReadyH.cons rfl (fun K hK => ?_) AllReadyH.nil
    replace hK := Lib.hid hK
    have z7 := cell_of HP.out 7
    have fz7 := free_of HP.out 7
    simp only [List.getElem?_toArray, List.getElem?_cons_succ, List.getElem?_cons_zero] at z7
    go_simp
    clear hHeld z7 fz7
    refine hK.out _ _ trivial (fun hHeld => ?_)
    clear hK K
    try simp only [Act.put, sA, s0, s1]
    refine wpAnyH_done (by kernel_rfl) ?_ _
    have HQ := heap_setCell_same _ g 7 _ _ (.slice AD r.length (c - 1)) HP.out
    simp only [List.setIfInBounds_toArray, List.set_cons_zero, List.set_cons_succ] at HQ
    have CQ := Lib.hid (((((Chg.refl [g] wd).setCell (p := ⟨g, 4, none⟩) (.inl (by simp)) (.int .i64 x.1)).setCell (p := ⟨g, 5, none⟩) (.inl (by simp)) (.int .i64 x.2.1)).setCell (p := ⟨g, 6, none⟩) (.inl (by simp)) (.int .i64 x.2.2)).setCell (p := ⟨g, 7, none⟩) (.inl (by simp)) (.slice AD r.length (c - 1)))
    have HQ2 := Lib.hid HQ
    clear HQ
    go_wp2
    go_end0
    exact ⟨rfl, AD, c - 1, HQ2.out, HT.out.chg CQ.out (fun a ha => by rw [AB.out a ha]; simpa using NB.out), by have := HN.out; omega, fun a ha => by (first | exact ⟨_, rfl, AB.out a ha⟩ | exact AB.out a ha | simpa using AB.out a ha), CD.out.trans CQ.out⟩
end
section
open Go.RowKit Go.Lib
set_option linter.unusedSimpArgs false
set_option linter.unusedVariables false


set_option maxRecDepth 100000 in
set_option maxHeartbeats 4000000 in
theorem pass_b (w : World) (g : Nat) (v0 v1 v2 v3 vk : Value) (B : Option Addr) (c : Nat) (x : Sp) (r : List Sp) (to : Int) (hto : 0 ≤ to ∧ to ≤ 2147483647) (hb : w.heap[g]? = some (.cells #[v0, v1, v2, v3, .int .i64 x.1, .int .i64 x.2.1, .int .i64 x.2.2, .slice B r.length c, vk] 89 (0, 0))) (hr : RdK spanTy w B r.length r) (hn : r.length ≤ c ∧ c ≤ maxLen) (hB : ∀ a, B = some a → a.block ≠ g) :
    Calls Try.prog 82 #[.pointer (some ⟨g, 4, none⟩), .int .i64 to] w fun e w' => e = .returned (.tuple #[]) ∧ ∃ B' c', w'.heap[g]? = some (.cells #[v0, v1, v2, v3, .int .i64 (hdP (passP (x :: r) to)).1, .int .i64 (hdP (passP (x :: r) to)).2.1, .int .i64 (hdP (passP (x :: r) to)).2.2, .slice B' (passP (x :: r) to).tail.length c', vk] 89 (0, 0)) ∧ RdK spanTy w' B' (passP (x :: r) to).tail.length (passP (x :: r) to).tail ∧ ((passP (x :: r) to).tail.length ≤ c' ∧ c' ≤ maxLen) ∧ (∀ a, B' = some a → ∃ b, B = some b ∧ a.block = b.block) ∧ Chg [g] w w' := by
  have HB := Lib.hid hb
  have HR := Lib.hid hr
  have HN := Lib.hid hn
  have NB := Lib.hid hB
  clear hb hr hn hB
  have e1 : IntKind.i64.wrap (to + 1) = to + 1 := IntWalk.i64_in _ (by omega)
  by_cases hlt : to < x.2.2
  · have hp : passP (x :: r) to = (x.1, to + 1, x.2.2) :: r := by unfold passP; simp only; rw [if_pos hlt]
    rw [hp]
    simp only [hd_cons, List.tail_cons]
    have HLT := hlt
    clear hp
    go_enter Try.func82, Try.ntmps82
    have z4 := cell_of HB.out 4
    have z5 := cell_of HB.out 5
    have z6 := cell_of HB.out 6
    have z7 := cell_of HB.out 7
    have fz5 := free_of HB.out 5
    simp only [List.getElem?_toArray, List.getElem?_cons_succ, List.getElem?_cons_zero] at z4 z5 z6 z7
    have HQ := heap_setCell_same w g 5 _ _ (.int .i64 (to + 1)) HB.out
    simp only [List.setIfInBounds_toArray, List.set_cons_zero, List.set_cons_succ] at HQ
    have HP := Lib.hid HQ
    have CP := Lib.hid ((Chg.refl [g] w).setCell (p := ⟨g, 5, none⟩) (.inl (by simp)) (.int .i64 (to + 1)))
    clear HQ
    go_wp2
    refine bodyPost_ret (results_none rfl _ _ _) rfl ?_
    exact ⟨rfl, B, c, HP.out, HR.out.chg CP.out (fun a ha => by simpa using NB.out a ha), HN.out, fun a ha => ⟨a, ha, rfl⟩, CP.out⟩
  · have hp : passP (x :: r) to = r := by unfold passP; simp only; rw [if_neg hlt]
    rw [hp]
    clear hp
    cases r with
    | nil =>
      go_enter Try.func82, Try.ntmps82
      have z4 := cell_of HB.out 4
      have z5 := cell_of HB.out 5
      have z6 := cell_of HB.out 6
      have z7 := cell_of HB.out 7
      simp only [List.getElem?_toArray, List.getElem?_cons_succ, List.getElem?_cons_zero] at z4 z5 z6 z7
      go_wp2_with fail
      clear z4 z5 z6 z7
      refine (next_none_b w g v0 v1 v2 v3 vk _ _ _ B c HB.out).mono ?_
      rintro e w' ⟨rfl, h1, h2⟩
      have HP := Lib.hid h1
      have CP := Lib.hid h2
      clear h1 h2
      go_wp2
      go_end0
      exact ⟨rfl, B, c, HP.out, RdK.nil _ _, ⟨Nat.zero_le _, HN.out.2⟩, fun a ha => ⟨a, ha, rfl⟩, CP.out⟩
    | cons y r2 =>
      go_enter Try.func82, Try.ntmps82
      have z4 := cell_of HB.out 4
      have z5 := cell_of HB.out 5
      have z6 := cell_of HB.out 6
      have z7 := cell_of HB.out 7
      simp only [List.getElem?_toArray, List.getElem?_cons_succ, List.getElem?_cons_zero] at z4 z5 z6 z7
      go_wp2_with fail
      clear z4 z5 z6 z7
      refine (next_some_b w g v0 v1 v2 v3 vk _ _ _ B c y r2 HB.out HR.out HN.out NB.out).mono ?_
      rintro e w' ⟨rfl, B2, c2, h1, h2, h3, h4, h5⟩
      have HP := Lib.hid h1
      have CP := Lib.hid h5
      have H2 := Lib.hid h2
      have H3 := Lib.hid h3
      have H4 := Lib.hid h4
      clear h1 h2 h3 h4 h5
      go_wp2
      go_end0
      exact ⟨rfl, B2, c2, HP.out, H2.out, H3.out, H4.out, CP.out⟩
end
section
open Go.RowKit Go.Lib
set_option linter.unusedSimpArgs false
set_option linter.unusedVariables false


set_option maxRecDepth 100000 in
set_option maxHeartbeats 4000000 in
theorem until_any (w : World) (x y : Sp) (hx : -2147483648 ≤ x.2.2 ∧ x.2.2 ≤ 2147483647) (hy : -2147483648 ≤ y.2.1 ∧ y.2.1 ≤ 2147483647) : Calls Try.prog 81 #[.agg #[.int .i64 x.1, .int .i64 x.2.1, .int .i64 x.2.2], .agg #[.int .i64 y.1, .int .i64 y.2.1, .int .i64 y.2.2]] w fun e w' => e = .returned (.agg #[.int .i64 (untilP x y).1, .int .i64 (untilP x y).2.1, .int .i64 (untilP x y).2.2]) ∧ Chg [] w w' := by
  have e1 : IntKind.i64.wrap (y.2.1 - 1) = y.2.1 - 1 := IntWalk.i64_in _ (by omega)
  unfold untilP
  by_cases h : x.1 = y.1
  · rw [if_pos h]
    have hq : ((x.1 == y.1) : Bool) = true := by simpa using h
    clear h
    have HM : Hid (∀ v : Int, v = min x.2.2 (y.2.1 - 1) → v = min x.2.2 (y.2.1 - 1)) := Lib.hid (fun _ h => h)
    go_enter Try.func81, Try.ntmps81
    go_wp2
    all_goals
      refine bodyPost_ret (v := .agg #[.int .i64 x.1, .int .i64 x.2.1, .int .i64 (min x.2.2 (y.2.1 - 1))]) (by simp [results, Try.results81, go_sem]; try omega) rfl ?_
      exact ⟨rfl, by repeat' (first | exact Chg.refl _ _ | apply Chg.alloc | (refine Chg.setCell ?_ (.inr (by simp)) _))⟩
  · rw [if_neg h]
    have hq : ((x.1 == y.1) : Bool) = false := by simpa using h
    clear h
    go_enter Try.func81, Try.ntmps81
    go_wp2
    refine bodyPost_ret (v := .agg #[.int .i64 x.1, .int .i64 x.2.1, .int .i64 x.2.2]) (by simp [results, Try.results81, go_sem]) rfl ?_
    exact ⟨rfl, by repeat' (first | exact Chg.refl _ _ | apply Chg.alloc | (refine Chg.setCell ?_ (.inr (by simp)) _))⟩
end
end Go.Proofs.Ytgafkphhnlifiaa
