/- The document's GetPacket. -/
import Derived.Test.YtelbahfmkpncaaaQput
import Derived.Test.YtelbahfmkpncaaaGet2
import Derived.Test.YtelbahfmkpncaaaMem
namespace Go.Proofs.Ytelbahfmkpncaaa
open Go.RowKit
set_option linter.unusedSimpArgs false
set_option linter.unusedVariables false


theorem Us.put {w w1 : World} {v : Nat} {A : Option Addr} {c : Nat} {xs : List UInt8} {p : Nat} {fe fa : Int} (h : Us w w1 v A c xs p fe fa) {s : Nat} (j : Nat) (u : Value) (hs : w.heap.size ≤ s) (hne : ¬ s = v) : Us w (w1.setCell ⟨s, j, none⟩ u) v A c xs p fe fa := by
  refine ⟨h.1.chg ((Chg.refl [s] w1).setCell (.inl (by simp)) _) (by simp; exact fun e => hne e.symm) ?_, h.2.1, h.chg.setCell (.inr hs) _, h.2.2.2⟩
  rcases h.2.2.2.1.old with hh | hh
  · exact .inl hh
  · exact .inr fun a e => by have := hh a e; simp; omega

set_option maxHeartbeats 8000000 in
theorem qget_short (w : World) (A : Option Addr) (n c : Nat) (xs : List UInt8) (h : Bs w A n xs) (hn : n ≤ 140737488351232) (hs : n < 8) :
    Calls Try.prog 14 #[.slice A n c] w (ReadPPost w ((0, 0, 0, 0, []), (11, 0))) := by
  have hl := h.len
  subst hl
  have ht : decide ((xs.length : Int) - 8 < 0) = true := by simp; omega
  obtain ⟨w0, hw0, c0, b0, b1⟩ := news2 w (.cells #[.int .i64 0, .int .i64 0, .int .i64 0, .int .i64 0, .slice none 0 0] 24) (.cells #[.int .i64 0, .int .i64 0] 32)
  have W0 := Lib.hid hw0
  have hs2 : ¬ w.heap.size = w.heap.size + 1 := by omega
  have d5 : ¬ w.heap.size + 1 = w.heap.size := by omega
  have HP0 := Lib.hid (fun (w' : World) (j : Nat) (v : Value) (h : Chg [] w w') => h.put (s := w.heap.size) (Nat.le_refl _) j v)
  have HP1 := Lib.hid (fun (w' : World) (j : Nat) (v : Value) (h : Chg [] w w') => h.put (s := w.heap.size + 1) (Nat.le_succ _) j v)
  have g0 := lt_of_heap b0
  have g1 := lt_of_heap b1
  have C0 := Lib.hid c0
  have B0 := Lib.hid b0
  have B1 := Lib.hid b1
  have c9 := Lib.hid (HP1.out _ 1 (.int .i64 0) (HP1.out _ 0 (.int .i64 11) (HP0.out _ 4 (.slice none 0 0) (HP0.out _ 3 (.int .i64 0) (HP0.out _ 2 (.int .i64 0) (HP0.out _ 1 (.int .i64 0) (HP0.out _ 0 (.int .i64 0) c0)))))))
  clear hw0 c0 b0 b1 h
  go_enter Try.func14, Try.ntmps14
  go_upto_region 2 with fail
  rw [← W0.out]
  generalize w.heap.size + 1 = s1 at *
  generalize w.heap.size = s0 at *
  refine wp_region_held_drew (S := fun _ => True) (by kernel_rfl) trivial (fun _ => ?_)
  refine step_yes 0 11 ?_ trivial rfl rfl (by kernel_rfl) (by kernel_rfl) (by kernel_rfl) (fun _ _ _ h => h) (by rfl) ?_ ?_
  rotate_left
  · (intro w hSw; (try dsimp only at hSw); go_simp; try with_reducible rfl)
  try simp only [Act.put, List.setIfInBounds_toArray, List.set_cons_zero, List.set_cons_succ]
  refine step_yes 1 12 ?_ trivial rfl rfl (by kernel_rfl) (by kernel_rfl) (by kernel_rfl) (fun _ _ _ h => h) (by rfl) ?_ ?_
  rotate_left
  · (intro w hSw; (try dsimp only at hSw); go_simp; try with_reducible rfl)
  try simp only [Act.put, List.setIfInBounds_toArray, List.set_cons_zero, List.set_cons_succ]
  refine step_yes 2 13 ?_ trivial rfl rfl (by kernel_rfl) (by kernel_rfl) (by kernel_rfl) (fun _ _ _ h => h) (by rfl) ?_ ?_
  rotate_left
  · (intro w hSw; (try dsimp only at hSw); go_simp; try with_reducible rfl)
  try simp only [Act.put, List.setIfInBounds_toArray, List.set_cons_zero, List.set_cons_succ]
  refine step_no 3 14 trivial rfl rfl (by kernel_rfl) (by kernel_rfl) (by kernel_rfl) (fun _ _ _ h => h) (by rfl) ?_
  try simp only [Act.put, List.setIfInBounds_toArray, List.set_cons_zero, List.set_cons_succ]
  refine step_no 4 15 trivial rfl rfl (by kernel_rfl) (by kernel_rfl) (by kernel_rfl) (fun _ _ _ h => h) (by rfl) ?_
  try simp only [Act.put, List.setIfInBounds_toArray, List.set_cons_zero, List.set_cons_succ]
  refine step_no 5 16 trivial rfl rfl (by kernel_rfl) (by kernel_rfl) (by kernel_rfl) (fun _ _ _ h => h) (by rfl) ?_
  try simp only [Act.put, List.setIfInBounds_toArray, List.set_cons_zero, List.set_cons_succ]
  refine step_no 8 19 trivial rfl rfl (by kernel_rfl) (by kernel_rfl) (by kernel_rfl) (fun _ _ _ h => h) (by rfl) ?_
  try simp only [Act.put, List.setIfInBounds_toArray, List.set_cons_zero, List.set_cons_succ]
  refine step_no 9 20 trivial rfl rfl (by kernel_rfl) (by kernel_rfl) (by kernel_rfl) (fun _ _ _ h => h) (by rfl) ?_
  try simp only [Act.put, List.setIfInBounds_toArray, List.set_cons_zero, List.set_cons_succ]
  refine step_no 10 21 trivial rfl rfl (by kernel_rfl) (by kernel_rfl) (by kernel_rfl) (fun _ _ _ h => h) (by rfl) ?_
  try simp only [Act.put, List.setIfInBounds_toArray, List.set_cons_zero, List.set_cons_succ]
  refine step_no 11 22 trivial rfl rfl (by kernel_rfl) (by kernel_rfl) (by kernel_rfl) (fun _ _ _ h => h) (by rfl) ?_
  try simp only [Act.put, List.setIfInBounds_toArray, List.set_cons_zero, List.set_cons_succ]
  refine step_no 6 17 trivial rfl rfl (by kernel_rfl) (by kernel_rfl) (by kernel_rfl) (fun _ _ _ h => h) (by rfl) ?_
  try simp only [Act.put, List.setIfInBounds_toArray, List.set_cons_zero, List.set_cons_succ]
  refine step_no 7 18 trivial rfl rfl (by kernel_rfl) (by kernel_rfl) (by kernel_rfl) (fun _ _ _ h => h) (by rfl) ?_
  try simp only [Act.put, List.setIfInBounds_toArray, List.set_cons_zero, List.set_cons_succ]
  refine step_no 12 23 trivial rfl rfl (by kernel_rfl) (by kernel_rfl) (by kernel_rfl) (fun _ _ _ h => h) (by rfl) ?_
  try simp only [Act.put, List.setIfInBounds_toArray, List.set_cons_zero, List.set_cons_succ]
  refine step_yes 13 24 ?_ trivial rfl rfl (by kernel_rfl) (by kernel_rfl) (by kernel_rfl) (fun _ _ _ h => h) (by rfl) ?_ ?_
  rotate_left
  · (intro w hSw; (try dsimp only at hSw); go_simp; try with_reducible rfl)
  try simp only [Act.put, List.setIfInBounds_toArray, List.set_cons_zero, List.set_cons_succ]
  refine wpAnyH_done (by kernel_rfl) ?_ _
  have q0 := B0.out
  have q1 := B1.out
  have z0 := cell_of q0 0
  have f0 := free_of q0 0
  have z1 := cell_of q0 1
  have f1 := free_of q0 1
  have z2 := cell_of q0 2
  have f2 := free_of q0 2
  have z3 := cell_of q0 3
  have f3 := free_of q0 3
  have z4 := cell_of q0 4
  have f4 := free_of q0 4
  have z5 := cell_of q1 0
  have f5 := free_of q1 0
  have z6 := cell_of q1 1
  have f6 := free_of q1 1
  simp only [List.getElem?_toArray, List.getElem?_cons_succ, List.getElem?_cons_zero] at z0 z1 z2 z3 z4 z5 z6
  have HPP := Lib.hid (put7 (.int .i64 0) (.int .i64 0) (.int .i64 0) (.int .i64 0) (.slice none 0 0) (.int .i64 11) (.int .i64 0) q0 q1 hs2)
  clear q0 q1
  go_wp2
  clear z0 z1 z2 z3 z4 z5 z6 f0 f1 f2 f3 f4 f5 f6
  generalize (((((((w0.setCell ⟨s0, 0, none⟩ (.int .i64 0)).setCell ⟨s0, 1, none⟩ (.int .i64 0)).setCell ⟨s0, 2, none⟩ (.int .i64 0)).setCell ⟨s0, 3, none⟩ (.int .i64 0)).setCell ⟨s0, 4, none⟩ (.slice none 0 0)).setCell ⟨s1, 0, none⟩ (.int .i64 11)).setCell ⟨s1, 1, none⟩ (.int .i64 0)) = W at *
  have z0 := cell_of HPP.out.1 0
  have z1 := cell_of HPP.out.1 1
  have z2 := cell_of HPP.out.1 2
  have z3 := cell_of HPP.out.1 3
  have z4 := cell_of HPP.out.1 4
  have z5 := cell_of HPP.out.2 0
  have z6 := cell_of HPP.out.2 1
  simp only [List.getElem?_toArray, List.getElem?_cons_succ, List.getElem?_cons_zero] at z0 z1 z2 z3 z4 z5 z6
  refine bodyPost_ret (v := .tuple #[.agg #[.int .i64 0, .int .i64 0, .int .i64 0, .int .i64 0, .slice none 0 0], .agg #[.int .i64 11, .int .i64 0]]) (by simp [results, Try.results14, go_sem, z0, z1, z2, z3, z4, z5, z6]) rfl ?_
  exact ⟨none, 0, rfl, Fresh.none_ c9.out.drew⟩

set_option maxHeartbeats 8000000 in
theorem qget_bad (w : World) (g o c m : Nat) (xs : List UInt8) (h : Bs w (some ⟨g, o, none⟩) (m + 8) xs) (hn : m + 8 ≤ 140737488351232) (hc1 : m + 8 ≤ c) (hc2 : c ≤ 9223372036854775807) (hs : (sumB (xs.take m) == xs.drop m) = false) :
    Calls Try.prog 14 #[.slice (some ⟨g, o, none⟩) (m + 8) c] w (ReadPPost w ((0, 0, 0, 0, []), (11, 0))) := by
  obtain ⟨w0, hw0, c0, b0, b1⟩ := news2 w (.cells #[.int .i64 0, .int .i64 0, .int .i64 0, .int .i64 0, .slice none 0 0] 24) (.cells #[.int .i64 0, .int .i64 0] 32)
  have W0 := Lib.hid hw0
  have hs2 : ¬ w.heap.size = w.heap.size + 1 := by omega
  have d5 : ¬ w.heap.size + 1 = w.heap.size := by omega
  have HP0 := Lib.hid (fun (w' : World) (j : Nat) (v : Value) (h : Chg [] w w') => h.put (s := w.heap.size) (Nat.le_refl _) j v)
  have HP1 := Lib.hid (fun (w' : World) (j : Nat) (v : Value) (h : Chg [] w w') => h.put (s := w.heap.size + 1) (Nat.le_succ _) j v)
  have g0 := lt_of_heap b0
  have g1 := lt_of_heap b1
  have C0 := Lib.hid c0
  have B0 := Lib.hid b0
  have B1 := Lib.hid b1
  have h1 : Bs w0 (some ⟨g, o, none⟩) m (xs.take m) := (h.head m (by omega)).chg c0 (by simp)
  have h2 : Bs w0 (some ⟨g, o + m, none⟩) 8 (xs.drop m) := by
    have := (h.tail m (by omega)).chg c0 (by simp)
    rwa [show m + 8 - m = 8 by omega] at this
  have H1 := Lib.hid h1
  have H2 := Lib.hid h2
  have hstr : (!(sumB (xs.take m) == xs.drop m)) = true := by rw [hs]; rfl
  have HStr := Lib.hid hstr
  have hs8 := sumB_len (xs.take m)
  have HS8 := Lib.hid hs8
  have ht : decide ((m : Int) < 0) = false := by simp
  have i0 : (0 : Int) ≤ (m : Int) := by omega
  have i1 : (m : Int) ≤ (c : Int) := by omega
  have i2 : (m : Int) ≤ (m : Int) + 8 := by omega
  have i3 : ¬ c = m := by omega
  have i4 : (m : Int) + 8 ≤ (c : Int) := by omega
  clear hw0 c0 b0 b1 h h1 h2 hs hstr hs8
  go_enter Try.func14, Try.ntmps14
  go_upto_region 2 with fail
  rw [← W0.out]
  generalize w.heap.size + 1 = s1 at *
  generalize w.heap.size = s0 at *
  refine wp_region_held_drew (S := fun w' => Chg [] w0 w') (by kernel_rfl) (Chg.refl [] w0).drew (fun hHeld => ?_)
  refine step_yes 0 11 ?_ (by assumption) rfl rfl (by kernel_rfl) (by kernel_rfl) (by kernel_rfl) (fun _ _ _ h => h) (by rfl) ?_ ?_
  rotate_left
  · (intro w hSw; (try dsimp only at hSw); go_simp; try with_reducible rfl)
  try simp only [Act.put, List.setIfInBounds_toArray, List.set_cons_zero, List.set_cons_succ]
  refine step_yes 1 12 ?_ (by assumption) rfl rfl (by kernel_rfl) (by kernel_rfl) (by kernel_rfl) (fun _ _ _ h => h) (by rfl) ?_ ?_
  rotate_left
  · (intro w hSw; (try dsimp only at hSw); go_simp; try with_reducible rfl)
  try simp only [Act.put, List.setIfInBounds_toArray, List.set_cons_zero, List.set_cons_succ]
  refine step_yes 2 13 ?_ (by assumption) rfl rfl (by kernel_rfl) (by kernel_rfl) (by kernel_rfl) (fun _ _ _ h => h) (by rfl) ?_ ?_
  rotate_left
  · (intro w hSw; (try dsimp only at hSw); go_simp; try with_reducible rfl)
  try simp only [Act.put, List.setIfInBounds_toArray, List.set_cons_zero, List.set_cons_succ]
  refine step_yes 3 14 ?_ (by assumption) rfl rfl (by kernel_rfl) (by kernel_rfl) (by kernel_rfl) (fun _ _ _ h => h) (by rfl) ?_ ?_
  rotate_left
  · (intro w hSw; (try dsimp only at hSw); go_simp; try with_reducible rfl)
  try simp only [Act.put, List.setIfInBounds_toArray, List.set_cons_zero, List.set_cons_succ]
  refine step_yes 4 15 ?_ (by assumption) rfl rfl (by kernel_rfl) (by kernel_rfl) (by kernel_rfl) (fun _ _ _ h => h) (by rfl) ?_ ?_
  rotate_left
  · (intro w hSw; (try dsimp only at hSw); go_simp; try with_reducible rfl)
  try simp only [Act.put, List.setIfInBounds_toArray, List.set_cons_zero, List.set_cons_succ]
  refine step_yes 5 16 ?_ (by assumption) rfl rfl (by kernel_rfl) (by kernel_rfl) (by kernel_rfl) (fun _ _ _ h => h) (by rfl) ?_ ?_
  rotate_left
  · (intro w hSw; (try dsimp only at hSw); go_simp; try with_reducible rfl)
  try simp only [Act.put, List.setIfInBounds_toArray, List.set_cons_zero, List.set_cons_succ]
  refine step_yes 8 19 ?_ (by assumption) rfl rfl (by kernel_rfl) (by kernel_rfl) (by kernel_rfl) (fun _ _ _ h => h) (by rfl) ?_ ?_
  rotate_left
  · (intro w hSw; (try dsimp only at hSw); go_simp; try with_reducible rfl)
  try simp only [Act.put, List.setIfInBounds_toArray, List.set_cons_zero, List.set_cons_succ]
  refine step_yes 9 20 ?_ (by assumption) rfl rfl (by kernel_rfl) (by kernel_rfl) (by kernel_rfl) (fun _ _ _ h => h) (by rfl) ?_ ?_
  rotate_left
  · (intro w hSw; (try dsimp only at hSw); go_simp; try with_reducible rfl)
  try simp only [Act.put, List.setIfInBounds_toArray, List.set_cons_zero, List.set_cons_succ]
  refine step_yes 10 21 ?_ (by assumption) rfl rfl (by kernel_rfl) (by kernel_rfl) (by kernel_rfl) (fun _ _ _ h => h) (by rfl) ?_ ?_
  rotate_left
  · (intro w hSw; (try dsimp only at hSw); go_simp; try with_reducible rfl)
  try simp only [Act.put, List.setIfInBounds_toArray, List.set_cons_zero, List.set_cons_succ]
  refine step_yes 11 22 ?_ (by assumption) rfl rfl (by kernel_rfl) (by kernel_rfl) (by kernel_rfl) (fun _ _ _ h => h) (by rfl) ?_ ?_
  rotate_left
  · (intro w hSw; (try dsimp only at hSw); have hr2 := run_str w (c := c - m) (H2.out.chg hSw (by simp)); go_simp; try with_reducible rfl)
  try simp only [Act.put, List.setIfInBounds_toArray, List.set_cons_zero, List.set_cons_succ]
  refine wpAnyH_ready (rs := [6]) (by kernel_rfl) (by simp) ?_
  refine AllReadyH.cons rfl (fun K hK => ?_) AllReadyH.nil
  replace hK := Lib.hid hK
  go_simp
  refine (qsum_any _ (some ⟨g, o, none⟩) m c (xs.take m) (H1.out.chg hHeld (by simp)) (by omega)).mono ?_
  rintro e w9 ⟨A9, c9, rfl, f9⟩
  have C9 := Lib.hid (hHeld.trans f9.2.2)
  have hr1 := run_str w9 (c := c9) (n := 8) (HS8.out ▸ f9.1.reads)
  have HR1 := Lib.hid hr1
  clear hr1 f9 hHeld
  refine hK.out _ _ C9.out (fun hHeld => ?_)
  clear hK K
  try simp only [Act.put, List.setIfInBounds_toArray, List.set_cons_zero, List.set_cons_succ]
  have hr1 := HR1.out
  refine wpAnyH_ready (rs := [7]) (by kernel_rfl) (by simp) ?_
  refine AllReadyH.cons rfl (fun K hK => ?_) AllReadyH.nil
  replace hK := Lib.hid hK
  go_simp
  refine hK.out _ _ C9.out (fun hHeld => ?_)
  clear hK K hr1
  try simp only [Act.put, List.setIfInBounds_toArray, List.set_cons_zero, List.set_cons_succ]
  refine step_yes 12 23 ?_ (by assumption) rfl rfl (by kernel_rfl) (by kernel_rfl) (by kernel_rfl) (fun _ _ _ h => h) (by rfl) ?_ ?_
  rotate_left
  · (intro w hSw; (try dsimp only at hSw); go_simp; try with_reducible rfl)
  try simp only [Act.put, List.setIfInBounds_toArray, List.set_cons_zero, List.set_cons_succ]
  rw [HStr.out]
  refine step_yes 13 24 ?_ (by assumption) rfl rfl (by kernel_rfl) (by kernel_rfl) (by kernel_rfl) (fun _ _ _ h => h) (by rfl) ?_ ?_
  rotate_left
  · (intro w hSw; (try dsimp only at hSw); go_simp; try with_reducible rfl)
  try simp only [Act.put, List.setIfInBounds_toArray, List.set_cons_zero, List.set_cons_succ]
  refine wpAnyH_done (by kernel_rfl) ?_ _
  clear hHeld
  have CC := Lib.hid (C0.out.trans C9.out)
  have c8 := Lib.hid (HP1.out _ 1 (.int .i64 0) (HP1.out _ 0 (.int .i64 11) (HP0.out _ 4 (.slice none 0 0) (HP0.out _ 3 (.int .i64 0) (HP0.out _ 2 (.int .i64 0) (HP0.out _ 1 (.int .i64 0) (HP0.out _ 0 (.int .i64 0) CC.out)))))))
  have q0 := C9.out.at_ B0.out (by simp)
  have q1 := C9.out.at_ B1.out (by simp)
  have z0 := cell_of q0 0
  have f0 := free_of q0 0
  have z1 := cell_of q0 1
  have f1 := free_of q0 1
  have z2 := cell_of q0 2
  have f2 := free_of q0 2
  have z3 := cell_of q0 3
  have f3 := free_of q0 3
  have z4 := cell_of q0 4
  have f4 := free_of q0 4
  have z5 := cell_of q1 0
  have f5 := free_of q1 0
  have z6 := cell_of q1 1
  have f6 := free_of q1 1
  simp only [List.getElem?_toArray, List.getElem?_cons_succ, List.getElem?_cons_zero] at z0 z1 z2 z3 z4 z5 z6
  have HPP := Lib.hid (put7 (.int .i64 0) (.int .i64 0) (.int .i64 0) (.int .i64 0) (.slice none 0 0) (.int .i64 11) (.int .i64 0) q0 q1 hs2)
  clear q0 q1
  go_wp2
  clear z0 z1 z2 z3 z4 z5 z6 f0 f1 f2 f3 f4 f5 f6
  generalize (((((((w9.setCell ⟨s0, 0, none⟩ (.int .i64 0)).setCell ⟨s0, 1, none⟩ (.int .i64 0)).setCell ⟨s0, 2, none⟩ (.int .i64 0)).setCell ⟨s0, 3, none⟩ (.int .i64 0)).setCell ⟨s0, 4, none⟩ (.slice none 0 0)).setCell ⟨s1, 0, none⟩ (.int .i64 11)).setCell ⟨s1, 1, none⟩ (.int .i64 0)) = W at *
  have z0 := cell_of HPP.out.1 0
  have z1 := cell_of HPP.out.1 1
  have z2 := cell_of HPP.out.1 2
  have z3 := cell_of HPP.out.1 3
  have z4 := cell_of HPP.out.1 4
  have z5 := cell_of HPP.out.2 0
  have z6 := cell_of HPP.out.2 1
  simp only [List.getElem?_toArray, List.getElem?_cons_succ, List.getElem?_cons_zero] at z0 z1 z2 z3 z4 z5 z6
  refine bodyPost_ret (v := .tuple #[.agg #[.int .i64 0, .int .i64 0, .int .i64 0, .int .i64 0, .slice none 0 0], .agg #[.int .i64 11, .int .i64 0]]) (by simp [results, Try.results14, go_sem, z0, z1, z2, z3, z4, z5, z6]) rfl ?_
  exact ⟨none, 0, rfl, Fresh.none_ c8.out⟩

set_option maxHeartbeats 8000000 in
theorem qget_good (w : World) (g o c m : Nat) (xs : List UInt8) (h : Bs w (some ⟨g, o, none⟩) (m + 8) xs) (hn : m + 8 ≤ 140737488351232) (hc1 : m + 8 ≤ c) (hc2 : c ≤ 9223372036854775807) (hs : (sumB (xs.take m) == xs.drop m) = true) :
    Calls Try.prog 14 #[.slice (some ⟨g, o, none⟩) (m + 8) c] w (ReadPPost w (readQ (xs.take m))) := by
  obtain ⟨w0, hw0, c0, b0, b1⟩ := news2 w (.cells #[.int .i64 0, .int .i64 0, .int .i64 0, .int .i64 0, .slice none 0 0] 24) (.cells #[.int .i64 0, .int .i64 0] 32)
  have W0 := Lib.hid hw0
  have hs2 : ¬ w.heap.size = w.heap.size + 1 := by omega
  have d5 : ¬ w.heap.size + 1 = w.heap.size := by omega
  have HP0 := Lib.hid (fun (w' : World) (j : Nat) (v : Value) (h : Chg [] w w') => h.put (s := w.heap.size) (Nat.le_refl _) j v)
  have HP1 := Lib.hid (fun (w' : World) (j : Nat) (v : Value) (h : Chg [] w w') => h.put (s := w.heap.size + 1) (Nat.le_succ _) j v)
  have g0 := lt_of_heap b0
  have g1 := lt_of_heap b1
  have C0 := Lib.hid c0
  have B0 := Lib.hid b0
  have B1 := Lib.hid b1
  have h1 : Bs w0 (some ⟨g, o, none⟩) m (xs.take m) := (h.head m (by omega)).chg c0 (by simp)
  have h2 : Bs w0 (some ⟨g, o + m, none⟩) 8 (xs.drop m) := by
    have := (h.tail m (by omega)).chg c0 (by simp)
    rwa [show m + 8 - m = 8 by omega] at this
  have H1 := Lib.hid h1
  have H2 := Lib.hid h2
  have hstr : (!(sumB (xs.take m) == xs.drop m)) = false := by rw [hs]; rfl
  have HStr := Lib.hid hstr
  have hs8 := sumB_len (xs.take m)
  have HS8 := Lib.hid hs8
  have ht : decide ((m : Int) < 0) = false := by simp
  have i0 : (0 : Int) ≤ (m : Int) := by omega
  have i1 : (m : Int) ≤ (c : Int) := by omega
  have i2 : (m : Int) ≤ (m : Int) + 8 := by omega
  have i3 : ¬ c = m := by omega
  have i4 : (m : Int) + 8 ≤ (c : Int) := by omega
  have hlz : (xs.take m).length = m := h1.len
  have HLZ := Lib.hid hlz
  have hchk := fun w1 A c => qcheck_any w1 (pN1 (xs.take m)).1 (pN2 (xs.take m)).1 (pN3 (xs.take m)).1 (pN4 (xs.take m)).1 A (pR5 (xs.take m)).1.length c (by have := pR5_small (xs.take m); omega)
  have HCk := Lib.hid hchk
  have hr : readQ (xs.take m) = readQ (xs.take m) := rfl
  conv at hr => rhs; unfold readQ
  have HZ := Lib.hid (@pF_zero (xs.take m))
  have HR := Lib.hid hr
  generalize readQ (xs.take m) = RR at *
  clear hchk hr hlz
  clear hw0 c0 b0 b1 h h1 h2 hs hstr hs8
  go_enter Try.func14, Try.ntmps14
  go_upto_region 2 with fail
  rw [← W0.out]
  generalize w.heap.size + 1 = s1 at *
  generalize w.heap.size = s0 at *
  refine wp_region_held_drew (S := fun w' => Chg [] w0 w') (by kernel_rfl) (Chg.refl [] w0).drew (fun hHeld => ?_)
  refine step_yes 0 11 ?_ (by assumption) rfl rfl (by kernel_rfl) (by kernel_rfl) (by kernel_rfl) (fun _ _ _ h => h) (by rfl) ?_ ?_
  rotate_left
  · (intro w hSw; (try dsimp only at hSw); go_simp; try with_reducible rfl)
  try simp only [Act.put, List.setIfInBounds_toArray, List.set_cons_zero, List.set_cons_succ]
  refine step_yes 1 12 ?_ (by assumption) rfl rfl (by kernel_rfl) (by kernel_rfl) (by kernel_rfl) (fun _ _ _ h => h) (by rfl) ?_ ?_
  rotate_left
  · (intro w hSw; (try dsimp only at hSw); go_simp; try with_reducible rfl)
  try simp only [Act.put, List.setIfInBounds_toArray, List.set_cons_zero, List.set_cons_succ]
  refine step_yes 2 13 ?_ (by assumption) rfl rfl (by kernel_rfl) (by kernel_rfl) (by kernel_rfl) (fun _ _ _ h => h) (by rfl) ?_ ?_
  rotate_left
  · (intro w hSw; (try dsimp only at hSw); go_simp; try with_reducible rfl)
  try simp only [Act.put, List.setIfInBounds_toArray, List.set_cons_zero, List.set_cons_succ]
  refine step_yes 3 14 ?_ (by assumption) rfl rfl (by kernel_rfl) (by kernel_rfl) (by kernel_rfl) (fun _ _ _ h => h) (by rfl) ?_ ?_
  rotate_left
  · (intro w hSw; (try dsimp only at hSw); go_simp; try with_reducible rfl)
  try simp only [Act.put, List.setIfInBounds_toArray, List.set_cons_zero, List.set_cons_succ]
  refine step_yes 4 15 ?_ (by assumption) rfl rfl (by kernel_rfl) (by kernel_rfl) (by kernel_rfl) (fun _ _ _ h => h) (by rfl) ?_ ?_
  rotate_left
  · (intro w hSw; (try dsimp only at hSw); go_simp; try with_reducible rfl)
  try simp only [Act.put, List.setIfInBounds_toArray, List.set_cons_zero, List.set_cons_succ]
  refine step_yes 5 16 ?_ (by assumption) rfl rfl (by kernel_rfl) (by kernel_rfl) (by kernel_rfl) (fun _ _ _ h => h) (by rfl) ?_ ?_
  rotate_left
  · (intro w hSw; (try dsimp only at hSw); go_simp; try with_reducible rfl)
  try simp only [Act.put, List.setIfInBounds_toArray, List.set_cons_zero, List.set_cons_succ]
  refine step_yes 8 19 ?_ (by assumption) rfl rfl (by kernel_rfl) (by kernel_rfl) (by kernel_rfl) (fun _ _ _ h => h) (by rfl) ?_ ?_
  rotate_left
  · (intro w hSw; (try dsimp only at hSw); go_simp; try with_reducible rfl)
  try simp only [Act.put, List.setIfInBounds_toArray, List.set_cons_zero, List.set_cons_succ]
  refine step_yes 9 20 ?_ (by assumption) rfl rfl (by kernel_rfl) (by kernel_rfl) (by kernel_rfl) (fun _ _ _ h => h) (by rfl) ?_ ?_
  rotate_left
  · (intro w hSw; (try dsimp only at hSw); go_simp; try with_reducible rfl)
  try simp only [Act.put, List.setIfInBounds_toArray, List.set_cons_zero, List.set_cons_succ]
  refine step_yes 10 21 ?_ (by assumption) rfl rfl (by kernel_rfl) (by kernel_rfl) (by kernel_rfl) (fun _ _ _ h => h) (by rfl) ?_ ?_
  rotate_left
  · (intro w hSw; (try dsimp only at hSw); go_simp; try with_reducible rfl)
  try simp only [Act.put, List.setIfInBounds_toArray, List.set_cons_zero, List.set_cons_succ]
  refine step_yes 11 22 ?_ (by assumption) rfl rfl (by kernel_rfl) (by kernel_rfl) (by kernel_rfl) (fun _ _ _ h => h) (by rfl) ?_ ?_
  rotate_left
  · (intro w hSw; (try dsimp only at hSw); have hr2 := run_str w (c := c - m) (H2.out.chg hSw (by simp)); go_simp; try with_reducible rfl)
  try simp only [Act.put, List.setIfInBounds_toArray, List.set_cons_zero, List.set_cons_succ]
  refine wpAnyH_ready (rs := [6]) (by kernel_rfl) (by simp) ?_
  refine AllReadyH.cons rfl (fun K hK => ?_) AllReadyH.nil
  replace hK := Lib.hid hK
  go_simp
  refine (qsum_any _ (some ⟨g, o, none⟩) m c (xs.take m) (H1.out.chg hHeld (by simp)) (by omega)).mono ?_
  rintro e w9 ⟨A9, c9, rfl, f9⟩
  have C9 := Lib.hid (hHeld.trans f9.2.2)
  have hr1 := run_str w9 (c := c9) (n := 8) (HS8.out ▸ f9.1.reads)
  have HR1 := Lib.hid hr1
  clear hr1 f9 hHeld
  refine hK.out _ _ C9.out (fun hHeld => ?_)
  clear hK K
  try simp only [Act.put, List.setIfInBounds_toArray, List.set_cons_zero, List.set_cons_succ]
  have hr1 := HR1.out
  refine wpAnyH_ready (rs := [7]) (by kernel_rfl) (by simp) ?_
  refine AllReadyH.cons rfl (fun K hK => ?_) AllReadyH.nil
  replace hK := Lib.hid hK
  go_simp
  refine hK.out _ _ C9.out (fun hHeld => ?_)
  clear hK K hr1
  try simp only [Act.put, List.setIfInBounds_toArray, List.set_cons_zero, List.set_cons_succ]
  refine step_yes 12 23 ?_ (by assumption) rfl rfl (by kernel_rfl) (by kernel_rfl) (by kernel_rfl) (fun _ _ _ h => h) (by rfl) ?_ ?_
  rotate_left
  · (intro w hSw; (try dsimp only at hSw); go_simp; try with_reducible rfl)
  try simp only [Act.put, List.setIfInBounds_toArray, List.set_cons_zero, List.set_cons_succ]
  rw [HStr.out]
  refine step_yes 13 24 ?_ (by assumption) rfl rfl (by kernel_rfl) (by kernel_rfl) (by kernel_rfl) (fun _ _ _ h => h) (by rfl) ?_ ?_
  rotate_left
  · (intro w hSw; (try dsimp only at hSw); go_simp; try with_reducible rfl)
  try simp only [Act.put, List.setIfInBounds_toArray, List.set_cons_zero, List.set_cons_succ]
  refine wpAnyH_done (by kernel_rfl) ?_ _
  clear hHeld
  generalize xs.take m = zs at *
  have hzl := HLZ.out
  go_wp2_with fail
  clear hzl
  have ho := us_open w0 w9 (some ⟨g, o, none⟩) c zs C9.out (by rw [HLZ.out]; exact H1.out) (by rw [HLZ.out]; omega) (by omega) (by rw [HLZ.out]; omega)
  rw [HLZ.out] at ho
  refine ho.mono ?_
  rintro e w1 ⟨v, rfl, h1⟩
  clear ho
  have hv := lt_of_heap h1.1.1
  have hv1 : ¬ w1.heap.size = v := by omega
  have hv2 : ¬ v = w1.heap.size := by omega
  have hs5 : w0.heap.size ≤ w1.heap.size := h1.chg.size
  have b5 := heap_alloc_new w1 (.cells #[.int .i64 0, .int .i64 0, .int .i64 0, .int .i64 0, .slice none 0 0] 24)
  have K5 := Lib.hid (h1.past ((Chg.refl [] w1).alloc (.cells #[.int .i64 0, .int .i64 0, .int .i64 0, .int .i64 0, .slice none 0 0] 24)))
  have B5 := Lib.hid b5
  clear h1 hv b5
  go_wp2_with fail
  generalize w1.alloc (.cells #[.int .i64 0, .int .i64 0, .int .i64 0, .int .i64 0, .slice none 0 0] 24) = y0 at *
  generalize w1.heap.size = s5 at *
  have r1 := us_num w0 y0 v _ c zs 0 0 0 1 1099511627776 K5.out
  change Calls _ _ _ _ (fun r w' => r = .returned (.int .i64 (pN1 zs).1) ∧ Us w0 w' v _ c zs (pN1 zs).2.1 (pN1 zs).2.2.1 (pN1 zs).2.2.2 ∧ _) at r1
  refine r1.mono ?_
  rintro e x1 ⟨rfl, h2, c2⟩
  have b5 := c2.at_ B5.out (by simpa using hv1)
  have m0 := cell_of b5 0
  have m1 := free_of b5 0
  simp only [List.getElem?_toArray, List.getElem?_cons_succ, List.getElem?_cons_zero] at m0
  replace K5 := Lib.hid (h2.put (s := s5) 0 (.int .i64 (pN1 zs).1) hs5 hv1)
  have b6 := heap_setCell_same x1 s5 0 _ _ (.int .i64 (pN1 zs).1) b5
  simp only [List.setIfInBounds_toArray, List.set_cons_zero, List.set_cons_succ] at b6
  replace B5 := Lib.hid b6
  clear h2 c2 b5 b6 r1
  go_wp2_with fail
  generalize x1.setCell ⟨s5, 0, none⟩ (.int .i64 (pN1 zs).1) = y1 at *
  clear m0 m1
  have r1 := us_num w0 y1 v _ c zs _ _ _ 0 1099511627776 K5.out
  change Calls _ _ _ _ (fun r w' => r = .returned (.int .i64 (pN2 zs).1) ∧ Us w0 w' v _ c zs (pN2 zs).2.1 (pN2 zs).2.2.1 (pN2 zs).2.2.2 ∧ _) at r1
  refine r1.mono ?_
  rintro e x2 ⟨rfl, h2, c2⟩
  have b5 := c2.at_ B5.out (by simpa using hv1)
  have m0 := cell_of b5 1
  have m1 := free_of b5 1
  simp only [List.getElem?_toArray, List.getElem?_cons_succ, List.getElem?_cons_zero] at m0
  replace K5 := Lib.hid (h2.put (s := s5) 1 (.int .i64 (pN2 zs).1) hs5 hv1)
  have b6 := heap_setCell_same x2 s5 1 _ _ (.int .i64 (pN2 zs).1) b5
  simp only [List.setIfInBounds_toArray, List.set_cons_zero, List.set_cons_succ] at b6
  replace B5 := Lib.hid b6
  clear h2 c2 b5 b6 r1
  go_wp2_with fail
  generalize x2.setCell ⟨s5, 1, none⟩ (.int .i64 (pN2 zs).1) = y2 at *
  clear m0 m1
  have r1 := us_num w0 y2 v _ c zs _ _ _ 0 1099511627776 K5.out
  change Calls _ _ _ _ (fun r w' => r = .returned (.int .i64 (pN3 zs).1) ∧ Us w0 w' v _ c zs (pN3 zs).2.1 (pN3 zs).2.2.1 (pN3 zs).2.2.2 ∧ _) at r1
  refine r1.mono ?_
  rintro e x3 ⟨rfl, h2, c2⟩
  have b5 := c2.at_ B5.out (by simpa using hv1)
  have m0 := cell_of b5 2
  have m1 := free_of b5 2
  simp only [List.getElem?_toArray, List.getElem?_cons_succ, List.getElem?_cons_zero] at m0
  replace K5 := Lib.hid (h2.put (s := s5) 2 (.int .i64 (pN3 zs).1) hs5 hv1)
  have b6 := heap_setCell_same x3 s5 2 _ _ (.int .i64 (pN3 zs).1) b5
  simp only [List.setIfInBounds_toArray, List.set_cons_zero, List.set_cons_succ] at b6
  replace B5 := Lib.hid b6
  clear h2 c2 b5 b6 r1
  go_wp2_with fail
  generalize x3.setCell ⟨s5, 2, none⟩ (.int .i64 (pN3 zs).1) = y3 at *
  clear m0 m1
  have r1 := us_num w0 y3 v _ c zs _ _ _ 0 1099511627776 K5.out
  change Calls _ _ _ _ (fun r w' => r = .returned (.int .i64 (pN4 zs).1) ∧ Us w0 w' v _ c zs (pN4 zs).2.1 (pN4 zs).2.2.1 (pN4 zs).2.2.2 ∧ _) at r1
  refine r1.mono ?_
  rintro e x4 ⟨rfl, h2, c2⟩
  have b5 := c2.at_ B5.out (by simpa using hv1)
  have m0 := cell_of b5 3
  have m1 := free_of b5 3
  simp only [List.getElem?_toArray, List.getElem?_cons_succ, List.getElem?_cons_zero] at m0
  replace K5 := Lib.hid (h2.put (s := s5) 3 (.int .i64 (pN4 zs).1) hs5 hv1)
  have b6 := heap_setCell_same x4 s5 3 _ _ (.int .i64 (pN4 zs).1) b5
  simp only [List.setIfInBounds_toArray, List.set_cons_zero, List.set_cons_succ] at b6
  replace B5 := Lib.hid b6
  clear h2 c2 b5 b6 r1
  go_wp2_with fail
  generalize x4.setCell ⟨s5, 3, none⟩ (.int .i64 (pN4 zs).1) = y4 at *
  clear m0 m1
  have r1 := us_raw w0 y4 v _ c zs _ _ _ 400 K5.out
  change Calls _ _ _ _ (fun r w' => ∃ A' c', r = .returned (.slice A' (pR5 zs).1.length c') ∧ OwnB w' A' c' (pR5 zs).1 ∧ (∀ a, A' = some a → y4.heap.size ≤ a.block) ∧ Us w0 w' v _ c zs (pR5 zs).2.1 (pR5 zs).2.2.1 (pR5 zs).2.2.2 ∧ _) at r1
  refine r1.mono ?_
  rintro e x5 ⟨A4, c4, rfl, o4, n4, h2, c2⟩
  have hlt := lt_of_heap B5.out
  have n4' : ∀ a, A4 = some a → w0.heap.size ≤ a.block := fun a e => Nat.le_trans K5.out.chg.size (n4 a e)
  have n4s : ∀ a, A4 = some a → a.block ∉ [s5] := fun a e => by have := n4 a e; simp; omega
  have N4 := Lib.hid n4'
  have O4 := Lib.hid (o4.chg ((Chg.refl [s5] x5).setCell (p := ⟨s5, 4, none⟩) (.inl (by simp)) (.slice A4 (pR5 zs).1.length c4)) n4s)
  clear hlt n4 n4' n4s o4
  have b5 := c2.at_ B5.out (by simpa using hv1)
  have m0 := cell_of b5 4
  have m1 := free_of b5 4
  simp only [List.getElem?_toArray, List.getElem?_cons_succ, List.getElem?_cons_zero] at m0
  replace K5 := Lib.hid (h2.put (s := s5) 4 (.slice A4 (pR5 zs).1.length c4) hs5 hv1)
  have b6 := heap_setCell_same x5 s5 4 _ _ (.slice A4 (pR5 zs).1.length c4) b5
  simp only [List.setIfInBounds_toArray, List.set_cons_zero, List.set_cons_succ] at b6
  replace B5 := Lib.hid b6
  clear h2 c2 b5 b6 r1
  go_wp2_with fail
  generalize x5.setCell ⟨s5, 4, none⟩ (.slice A4 (pR5 zs).1.length c4) = y5 at *
  clear m0 m1
  have r1 := us_end w0 y5 v _ c zs _ _ _ K5.out
  change Calls _ _ _ _ (fun r w' => r = .returned (.agg #[.int .i64 (pF zs).1, .int .i64 (pF zs).2]) ∧ _) at r1
  refine r1.mono ?_
  rintro e w6 ⟨rfl, c6⟩
  replace B5 := Lib.hid (c6.at_ B5.out (by simp))
  replace O4 := Lib.hid (O4.out.chg c6 (by simp))
  replace K5 := Lib.hid (K5.out.past c6)
  clear c6 r1
  have t6 := K5.out.chg.size
  have d1 : ¬ w6.heap.size = s0 := by omega
  have d2 : ¬ w6.heap.size = s1 := by omega
  have d3 : ¬ s0 = w6.heap.size := by omega
  have d4 : ¬ s1 = w6.heap.size := by omega
  have e5 : ¬ s5 = s0 := by omega
  have e6 : ¬ s5 = s1 := by omega
  have e7 : ¬ s0 = s5 := by omega
  have e8 : ¬ s1 = s5 := by omega
  clear t6
  obtain ⟨w7, hw7, c7, b7⟩ := news1 w6 (.cells #[.int .i64 (pF zs).1, .int .i64 (pF zs).2] 32)
  replace K5 := Lib.hid (K5.out.past c7)
  replace O4 := Lib.hid (O4.out.chg c7 (by simp))
  replace B5 := Lib.hid (c7.at_ B5.out (by simp))
  have W7 := Lib.hid hw7
  have B7 := Lib.hid b7
  have C7 := Lib.hid (C0.out.trans K5.out.chg)
  have hlt5 := lt_of_heap B5.out
  clear hw7 c7 b7
  have y0_ := cell_of (B7.out) 0
  have y1_ := cell_of (B7.out) 1
  simp only [List.getElem?_toArray, List.getElem?_cons_succ, List.getElem?_cons_zero] at y0_ y1_
  go_upto_region 12 with fail
  rw [← W7.out]
  generalize w6.heap.size = s6 at *
  by_cases he : (pF zs).1 = 0
  · have he2 := HZ.out he
    have hr := HR.out
    rw [if_neg (by simpa using he)] at hr
    have he' : ((pF zs).1 != 0) = false := by simpa using he
    by_cases hf : FineP (pN1 zs).1 (pN2 zs).1 (pN3 zs).1 (pN4 zs).1 (pR5 zs).1.length
    · rw [if_pos hf] at hr
      have HR2 := Lib.hid hr
      have hc := HCk.out w7 A4 c4
      rw [chkP_fine hf] at hc
      have HC := Lib.hid hc
      have HE := Lib.hid (And.intro he he2)
      clear he he2 hf hc hr HR HCk
      have x0 := cell_of B5.out 0
      have x1 := cell_of B5.out 1
      have x2 := cell_of B5.out 2
      have x3 := cell_of B5.out 3
      have x4 := cell_of B5.out 4
      simp only [List.getElem?_toArray, List.getElem?_cons_succ, List.getElem?_cons_zero] at x0 x1 x2 x3 x4
      go_wp2_with fail
      clear x0 x1 x2 x3 x4 y0_ y1_
      refine HC.out.mono ?_
      rintro e wb ⟨rfl, cb⟩
      replace B5 := Lib.hid (cb.at_ B5.out (by simp))
      replace B7 := Lib.hid (cb.at_ B7.out (by simp))
      have QC := Lib.hid (K5.out.chg.trans cb)
      replace O4 := Lib.hid (O4.out.chg cb (by simp))
      replace C7 := Lib.hid (C7.out.trans cb)
      clear cb
      have x0 := cell_of B5.out 0
      have x1 := cell_of B5.out 1
      have x2 := cell_of B5.out 2
      have x3 := cell_of B5.out 3
      have x4 := cell_of B5.out 4
      simp only [List.getElem?_toArray, List.getElem?_cons_succ, List.getElem?_cons_zero] at x0 x1 x2 x3 x4
      have y0_ := cell_of (B7.out) 0
      have y1_ := cell_of (B7.out) 1
      simp only [List.getElem?_toArray, List.getElem?_cons_succ, List.getElem?_cons_zero] at y0_ y1_
      have OW := Lib.hid (O4.out.chg (S := [s0, s1]) ((((((((Chg.refl [s0, s1] wb).setCell (p := ⟨s0, 0, none⟩) (.inl (by simp)) (.int .i64 (pN1 zs).1)).setCell (p := ⟨s0, 1, none⟩) (.inl (by simp)) (.int .i64 (pN2 zs).1)).setCell (p := ⟨s0, 2, none⟩) (.inl (by simp)) (.int .i64 (pN3 zs).1)).setCell (p := ⟨s0, 3, none⟩) (.inl (by simp)) (.int .i64 (pN4 zs).1)).setCell (p := ⟨s0, 4, none⟩) (.inl (by simp)) (.slice A4 (pR5 zs).1.length c4)).setCell (p := ⟨s1, 0, none⟩) (.inl (by simp)) (.int .i64 (pF zs).1)).setCell (p := ⟨s1, 1, none⟩) (.inl (by simp)) (.int .i64 (pF zs).2)) (bs_apart2 N4.out g0 g1))
      have CW := Lib.hid (HP1.out _ 1 (.int .i64 (pF zs).2) (HP1.out _ 0 (.int .i64 (pF zs).1) (HP0.out _ 4 (.slice A4 (pR5 zs).1.length c4) (HP0.out _ 3 (.int .i64 (pN4 zs).1) (HP0.out _ 2 (.int .i64 (pN3 zs).1) (HP0.out _ 1 (.int .i64 (pN2 zs).1) (HP0.out _ 0 (.int .i64 (pN1 zs).1) C7.out)))))))
      have q0 := QC.out.at_ B0.out (by simp)
      have q1 := QC.out.at_ B1.out (by simp)
      have z0 := cell_of q0 0
      have f0 := free_of q0 0
      have z1 := cell_of q0 1
      have f1 := free_of q0 1
      have z2 := cell_of q0 2
      have f2 := free_of q0 2
      have z3 := cell_of q0 3
      have f3 := free_of q0 3
      have z4 := cell_of q0 4
      have f4 := free_of q0 4
      have z5 := cell_of q1 0
      have f5 := free_of q1 0
      have z6 := cell_of q1 1
      have f6 := free_of q1 1
      simp only [List.getElem?_toArray, List.getElem?_cons_succ, List.getElem?_cons_zero] at z0 z1 z2 z3 z4 z5 z6
      have HPP := Lib.hid (put7 (.int .i64 (pN1 zs).1) (.int .i64 (pN2 zs).1) (.int .i64 (pN3 zs).1) (.int .i64 (pN4 zs).1) (.slice A4 (pR5 zs).1.length c4) (.int .i64 (pF zs).1) (.int .i64 (pF zs).2) q0 q1 hs2)
      clear q0 q1
      go_wp2
      go_region
      go_wp2
      clear z0 z1 z2 z3 z4 z5 z6 f0 f1 f2 f3 f4 f5 f6
      generalize (((((((wb.setCell ⟨s0, 0, none⟩ (.int .i64 (pN1 zs).1)).setCell ⟨s0, 1, none⟩ (.int .i64 (pN2 zs).1)).setCell ⟨s0, 2, none⟩ (.int .i64 (pN3 zs).1)).setCell ⟨s0, 3, none⟩ (.int .i64 (pN4 zs).1)).setCell ⟨s0, 4, none⟩ (.slice A4 (pR5 zs).1.length c4)).setCell ⟨s1, 0, none⟩ (.int .i64 (pF zs).1)).setCell ⟨s1, 1, none⟩ (.int .i64 (pF zs).2)) = W at *
      have z0 := cell_of HPP.out.1 0
      have z1 := cell_of HPP.out.1 1
      have z2 := cell_of HPP.out.1 2
      have z3 := cell_of HPP.out.1 3
      have z4 := cell_of HPP.out.1 4
      have z5 := cell_of HPP.out.2 0
      have z6 := cell_of HPP.out.2 1
      simp only [List.getElem?_toArray, List.getElem?_cons_succ, List.getElem?_cons_zero] at z0 z1 z2 z3 z4 z5 z6
      refine bodyPost_ret (v := .tuple #[.agg #[.int .i64 (pN1 zs).1, .int .i64 (pN2 zs).1, .int .i64 (pN3 zs).1, .int .i64 (pN4 zs).1, .slice A4 (pR5 zs).1.length c4], .agg #[.int .i64 (pF zs).1, .int .i64 (pF zs).2]]) (by simp [results, Try.results14, go_sem, z0, z1, z2, z3, z4, z5, z6]) rfl ?_
      rw [HR2.out]
      exact ⟨A4, c4, by rw [HE.out.1, HE.out.2], OW.out.chg (Chg.refl [] W).drew (by simp), fun a e => Nat.le_trans C0.out.size (N4.out a e), CW.out.drew⟩
    · rw [if_neg hf] at hr
      have HR2 := Lib.hid hr
      have hc := HCk.out w7 A4 c4
      rw [chkP_odd hf] at hc
      have HC := Lib.hid hc
      have HE := Lib.hid (And.intro he he2)
      clear he he2 hf hc hr HR HCk
      have x0 := cell_of B5.out 0
      have x1 := cell_of B5.out 1
      have x2 := cell_of B5.out 2
      have x3 := cell_of B5.out 3
      have x4 := cell_of B5.out 4
      simp only [List.getElem?_toArray, List.getElem?_cons_succ, List.getElem?_cons_zero] at x0 x1 x2 x3 x4
      go_wp2_with fail
      clear x0 x1 x2 x3 x4 y0_ y1_
      refine HC.out.mono ?_
      rintro e wb ⟨rfl, cb⟩
      replace B5 := Lib.hid (cb.at_ B5.out (by simp))
      replace B7 := Lib.hid (cb.at_ B7.out (by simp))
      have QC := Lib.hid (K5.out.chg.trans cb)
      replace O4 := Lib.hid (O4.out.chg cb (by simp))
      replace C7 := Lib.hid (C7.out.trans cb)
      clear cb
      have CW := Lib.hid (HP1.out _ 1 (.int .i64 0) (HP1.out _ 0 (.int .i64 2) (HP0.out _ 4 (.slice none 0 0) (HP0.out _ 3 (.int .i64 0) (HP0.out _ 2 (.int .i64 0) (HP0.out _ 1 (.int .i64 0) (HP0.out _ 0 (.int .i64 0) C7.out)))))))
      have q0 := QC.out.at_ B0.out (by simp)
      have q1 := QC.out.at_ B1.out (by simp)
      have z0 := cell_of q0 0
      have f0 := free_of q0 0
      have z1 := cell_of q0 1
      have f1 := free_of q0 1
      have z2 := cell_of q0 2
      have f2 := free_of q0 2
      have z3 := cell_of q0 3
      have f3 := free_of q0 3
      have z4 := cell_of q0 4
      have f4 := free_of q0 4
      have z5 := cell_of q1 0
      have f5 := free_of q1 0
      have z6 := cell_of q1 1
      have f6 := free_of q1 1
      simp only [List.getElem?_toArray, List.getElem?_cons_succ, List.getElem?_cons_zero] at z0 z1 z2 z3 z4 z5 z6
      have HPP := Lib.hid (put7 (.int .i64 0) (.int .i64 0) (.int .i64 0) (.int .i64 0) (.slice none 0 0) (.int .i64 2) (.int .i64 0) q0 q1 hs2)
      clear q0 q1
      go_wp2
      clear z0 z1 z2 z3 z4 z5 z6 f0 f1 f2 f3 f4 f5 f6
      generalize (((((((wb.setCell ⟨s0, 0, none⟩ (.int .i64 0)).setCell ⟨s0, 1, none⟩ (.int .i64 0)).setCell ⟨s0, 2, none⟩ (.int .i64 0)).setCell ⟨s0, 3, none⟩ (.int .i64 0)).setCell ⟨s0, 4, none⟩ (.slice none 0 0)).setCell ⟨s1, 0, none⟩ (.int .i64 2)).setCell ⟨s1, 1, none⟩ (.int .i64 0)) = W at *
      have z0 := cell_of HPP.out.1 0
      have z1 := cell_of HPP.out.1 1
      have z2 := cell_of HPP.out.1 2
      have z3 := cell_of HPP.out.1 3
      have z4 := cell_of HPP.out.1 4
      have z5 := cell_of HPP.out.2 0
      have z6 := cell_of HPP.out.2 1
      simp only [List.getElem?_toArray, List.getElem?_cons_succ, List.getElem?_cons_zero] at z0 z1 z2 z3 z4 z5 z6
      refine bodyPost_ret (v := .tuple #[.agg #[.int .i64 0, .int .i64 0, .int .i64 0, .int .i64 0, .slice none 0 0], .agg #[.int .i64 2, .int .i64 0]]) (by simp [results, Try.results14, go_sem, z0, z1, z2, z3, z4, z5, z6]) rfl ?_
      rw [HR2.out]
      exact ⟨none, 0, rfl, Fresh.none_ CW.out⟩
  · have hr := HR.out
    rw [if_pos he] at hr
    have HR2 := Lib.hid hr
    have he' : ((pF zs).1 != 0) = true := by simpa using he
    have QC := Lib.hid K5.out.chg
    clear he hr HR HCk
    have CW := Lib.hid (HP1.out _ 1 (.int .i64 (pF zs).2) (HP1.out _ 0 (.int .i64 (pF zs).1) (HP0.out _ 4 (.slice none 0 0) (HP0.out _ 3 (.int .i64 0) (HP0.out _ 2 (.int .i64 0) (HP0.out _ 1 (.int .i64 0) (HP0.out _ 0 (.int .i64 0) C7.out)))))))
    have q0 := QC.out.at_ B0.out (by simp)
    have q1 := QC.out.at_ B1.out (by simp)
    have z0 := cell_of q0 0
    have f0 := free_of q0 0
    have z1 := cell_of q0 1
    have f1 := free_of q0 1
    have z2 := cell_of q0 2
    have f2 := free_of q0 2
    have z3 := cell_of q0 3
    have f3 := free_of q0 3
    have z4 := cell_of q0 4
    have f4 := free_of q0 4
    have z5 := cell_of q1 0
    have f5 := free_of q1 0
    have z6 := cell_of q1 1
    have f6 := free_of q1 1
    simp only [List.getElem?_toArray, List.getElem?_cons_succ, List.getElem?_cons_zero] at z0 z1 z2 z3 z4 z5 z6
    have HPP := Lib.hid (put7 (.int .i64 0) (.int .i64 0) (.int .i64 0) (.int .i64 0) (.slice none 0 0) (.int .i64 (pF zs).1) (.int .i64 (pF zs).2) q0 q1 hs2)
    clear q0 q1
    go_wp2
    go_region
    go_wp2
    clear z0 z1 z2 z3 z4 z5 z6 f0 f1 f2 f3 f4 f5 f6
    generalize (((((((w7.setCell ⟨s0, 0, none⟩ (.int .i64 0)).setCell ⟨s0, 1, none⟩ (.int .i64 0)).setCell ⟨s0, 2, none⟩ (.int .i64 0)).setCell ⟨s0, 3, none⟩ (.int .i64 0)).setCell ⟨s0, 4, none⟩ (.slice none 0 0)).setCell ⟨s1, 0, none⟩ (.int .i64 (pF zs).1)).setCell ⟨s1, 1, none⟩ (.int .i64 (pF zs).2)) = W at *
    have z0 := cell_of HPP.out.1 0
    have z1 := cell_of HPP.out.1 1
    have z2 := cell_of HPP.out.1 2
    have z3 := cell_of HPP.out.1 3
    have z4 := cell_of HPP.out.1 4
    have z5 := cell_of HPP.out.2 0
    have z6 := cell_of HPP.out.2 1
    simp only [List.getElem?_toArray, List.getElem?_cons_succ, List.getElem?_cons_zero] at z0 z1 z2 z3 z4 z5 z6
    refine bodyPost_ret (v := .tuple #[.agg #[.int .i64 0, .int .i64 0, .int .i64 0, .int .i64 0, .slice none 0 0], .agg #[.int .i64 (pF zs).1, .int .i64 (pF zs).2]]) (by simp [results, Try.results14, go_sem, z0, z1, z2, z3, z4, z5, z6]) rfl ?_
    rw [HR2.out]
    exact ⟨none, 0, rfl, Fresh.none_ CW.out.drew⟩
end Go.Proofs.Ytelbahfmkpncaaa
