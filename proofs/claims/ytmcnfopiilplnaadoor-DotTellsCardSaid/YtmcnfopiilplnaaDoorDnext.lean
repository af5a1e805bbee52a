/- Package dot: Next; the document's. -/
import Derived.Test.YtmcnfopiilplnaaDoorDless
import Derived.Test.YtmcnfopiilplnaaDoorPuts
import Derived.Deep.Cut
namespace Go.Proofs.YtmcnfopiilplnaaDoor
open Go.RowKit
set_option linter.unusedSimpArgs false
set_option linter.unusedVariables false


/-- What the next dot is, or why there is none. -/
def nxN (n s : Int) : Int := if FineD n s ∧ s ≠ 2147483647 then n else 0
def nxS (n s : Int) : Int := if FineD n s ∧ s ≠ 2147483647 then s + 1 else 0
def nxE (n s : Int) : Int := if FineD n s then (if s = 2147483647 then 5 else 0) else 2

set_option maxHeartbeats 1000000 in
theorem dnext_any (w : World) (n s : Int) (hs : s ≤ 9223372036854775807) :
    Calls Tryd.prog 15 #[.agg #[.int .i64 n, .int .i64 s]] w fun e w' => e = .returned (.tuple #[.agg #[.int .i64 (nxN n s), .int .i64 (nxS n s)], .int .i64 (nxE n s)]) ∧ Chg [] w w' := by
  have go : ∀ x y z, nxN n s = x → nxS n s = y → nxE n s = z → Calls Tryd.prog 15 #[.agg #[.int .i64 n, .int .i64 s]] w (fun e w' => e = .returned (.tuple #[.agg #[.int .i64 (x), .int .i64 (y)], .int .i64 (z)]) ∧ Chg [] w w') → Calls Tryd.prog 15 #[.agg #[.int .i64 n, .int .i64 s]] w (fun e w' => e = .returned (.tuple #[.agg #[.int .i64 (nxN n s), .int .i64 (nxS n s)], .int .i64 (nxE n s)]) ∧ Chg [] w w') := fun x y z h1 h2 h3 h => h1 ▸ h2 ▸ h3 ▸ h
  have HP := Lib.hid (fun (w' : World) (j : Nat) (v : Value) (h : Chg [] w w') => h.put (s := w.heap.size + 1) (Nat.le_succ _) j v)
  have HQ := Lib.hid (fun (w' : World) (j : Nat) (v : Value) (h : Chg [] w w') => h.put (s := w.heap.size) (Nat.le_refl _) j v)
  have C := Lib.hid (Chg.refl [] w)
  have l1 : w.heap.size ≠ w.heap.size + 1 := by omega
  have l2 : w.heap.size + 1 ≠ w.heap.size := by omega
  obtain ⟨w1, hw1, cw1, b_B0, b_B1⟩ := news2 w (.cells #[.int .i64 n, .int .i64 s] 23) (.cells #[.int .i64 0, .int .i64 0] 23)
  have Ww1 := Lib.hid hw1
  have l_B0 := lt_of_heap b_B0
  have l_B1 := lt_of_heap b_B1
  replace C := Lib.hid (C.out.trans cw1)
  have B0 := Lib.hid (b_B0)
  have B1 := Lib.hid (b_B1)
  clear hw1 cw1 b_B0 b_B1
  by_cases h : FineD n s
  · have hk := chkD_fine h
    by_cases hm : s = 2147483647
    · refine go 0 0 5 (if_neg (fun h => h.2 hm)) (if_neg (fun h => h.2 hm)) (by unfold nxE; rw [if_pos h, if_pos hm]) ?_
      subst hm
      clear go h
      go_enter Tryd.func15, Tryd.ntmps15
      go_wp2_with fail
      rw [← Ww1.out]
      generalize w.heap.size + 1 = s1 at *
      generalize w.heap.size = s0 at *
      clear Ww1
      have r1 := dcheck_any w1 n 2147483647
      rw [hk] at r1
      refine (r1).mono ?_
      rintro e w2 ⟨rfl, ca⟩
      replace B0 := Lib.hid (ca.at_ B0.out (by simp))
      replace B1 := Lib.hid (ca.at_ B1.out (by simp))
      replace C := Lib.hid (C.out.trans ca)
      clear ca
      have z_B0_0 := cell_of B0.out 0
      have z_B0_1 := cell_of B0.out 1
      simp only [List.getElem?_toArray, List.getElem?_cons_succ, List.getElem?_cons_zero] at z_B0_0 z_B0_1
      have z_B1_0 := cell_of B1.out 0
      have f_B1_0 := free_of B1.out 0
      have z_B1_1 := cell_of B1.out 1
      have f_B1_1 := free_of B1.out 1
      simp only [List.getElem?_toArray, List.getElem?_cons_succ, List.getElem?_cons_zero] at z_B1_0 z_B1_1
      have HPP := Lib.hid (put2_0 (.int .i64 0) (.int .i64 0) B1.out)
      have CW := Lib.hid ((HP.out _ 1 (.int .i64 0) (HP.out _ 0 (.int .i64 0) C.out)))
      go_wp2_with fail
      clear z_B0_0 z_B0_1 z_B1_0 f_B1_0 z_B1_1 f_B1_1
      generalize ((w2.setCell ⟨s1, 0, none⟩ (.int .i64 0)).setCell ⟨s1, 1, none⟩ (.int .i64 0)) = W at *
      have z0 := cell_of HPP.out 0
      have z1 := cell_of HPP.out 1
      simp only [List.getElem?_toArray, List.getElem?_cons_succ, List.getElem?_cons_zero] at z0 z1
      refine bodyPost_ret (v := .tuple #[.agg #[.int .i64 0, .int .i64 0], .int .i64 5]) (by simp [results, Tryd.results15, go_sem, z0, z1]) rfl ?_
      exact ⟨rfl, CW.out⟩
    · refine go n (s + 1) 0 (if_pos ⟨h, hm⟩) (if_pos ⟨h, hm⟩) (by unfold nxE; rw [if_pos h, if_neg hm]) ?_
      have hmb : (s == 2147483647) = false := by simpa using hm
      have e1 : s + 1 ≤ 9223372036854775807 := by have := h.2.2.2; omega
      have e2 : 0 ≤ s + 1 := by have := h.2.2.1; omega
      clear go h hm
      go_enter Tryd.func15, Tryd.ntmps15
      go_wp2_with fail
      rw [← Ww1.out]
      generalize w.heap.size + 1 = s1 at *
      generalize w.heap.size = s0 at *
      clear Ww1
      have r1 := dcheck_any w1 n s
      rw [hk] at r1
      refine (r1).mono ?_
      rintro e w2 ⟨rfl, ca⟩
      replace B0 := Lib.hid (ca.at_ B0.out (by simp))
      replace B1 := Lib.hid (ca.at_ B1.out (by simp))
      replace C := Lib.hid (C.out.trans ca)
      clear ca
      have z_B0_0 := cell_of B0.out 0
      have f_B0_0 := free_of B0.out 0
      have z_B0_1 := cell_of B0.out 1
      have f_B0_1 := free_of B0.out 1
      simp only [List.getElem?_toArray, List.getElem?_cons_succ, List.getElem?_cons_zero] at z_B0_0 z_B0_1
      go_upto_region 6 with fail
      have b3 := heap_setCell_same _ s0 1 _ _ (.int .i64 (s + 1)) B0.out
      simp only [List.setIfInBounds_toArray, List.set_cons_zero, List.set_cons_succ] at b3
      have C3 := Lib.hid ((Chg.refl [s0] w2).setCell (p := ⟨s0, 1, none⟩) (.inl (by simp)) (.int .i64 (s + 1)))
      have D3 := Lib.hid (HQ.out _ 1 (.int .i64 (s + 1)) C.out)
      go_upto_region 7 with fail
      clear z_B0_0 f_B0_0 z_B0_1 f_B0_1
      generalize w2.setCell ⟨s0, 1, none⟩ (.int .i64 (s + 1)) = w3 at *
      replace B1 := Lib.hid (C3.out.at_ B1.out (by simpa using l2))
      replace B0 := Lib.hid b3
      replace C := D3
      clear b3
      have z_B0_0 := cell_of B0.out 0
      have z_B0_1 := cell_of B0.out 1
      simp only [List.getElem?_toArray, List.getElem?_cons_succ, List.getElem?_cons_zero] at z_B0_0 z_B0_1
      have z_B1_0 := cell_of B1.out 0
      have f_B1_0 := free_of B1.out 0
      have z_B1_1 := cell_of B1.out 1
      have f_B1_1 := free_of B1.out 1
      simp only [List.getElem?_toArray, List.getElem?_cons_succ, List.getElem?_cons_zero] at z_B1_0 z_B1_1
      have HPP := Lib.hid (put2_0 (.int .i64 n) (.int .i64 (s + 1)) B1.out)
      have CW := Lib.hid ((HP.out _ 1 (.int .i64 (s + 1)) (HP.out _ 0 (.int .i64 n) C.out)))
      go_wp2_with fail
      clear z_B0_0 z_B0_1 z_B1_0 f_B1_0 z_B1_1 f_B1_1
      generalize ((w3.setCell ⟨s1, 0, none⟩ (.int .i64 n)).setCell ⟨s1, 1, none⟩ (.int .i64 (s + 1))) = W at *
      have z0 := cell_of HPP.out 0
      have z1 := cell_of HPP.out 1
      simp only [List.getElem?_toArray, List.getElem?_cons_succ, List.getElem?_cons_zero] at z0 z1
      refine bodyPost_ret (v := .tuple #[.agg #[.int .i64 n, .int .i64 (s + 1)], .int .i64 0]) (by simp [results, Tryd.results15, go_sem, z0, z1]) rfl ?_
      exact ⟨rfl, CW.out⟩
  · refine go 0 0 2 (if_neg (fun h' => h h'.1)) (if_neg (fun h' => h h'.1)) (if_neg h) ?_
    have hk := chkD_odd h
    clear go h
    go_enter Tryd.func15, Tryd.ntmps15
    go_wp2_with fail
    rw [← Ww1.out]
    generalize w.heap.size + 1 = s1 at *
    generalize w.heap.size = s0 at *
    clear Ww1
    have r1 := dcheck_any w1 n s
    rw [hk] at r1
    refine (r1).mono ?_
    rintro e w2 ⟨rfl, ca⟩
    replace B0 := Lib.hid (ca.at_ B0.out (by simp))
    replace B1 := Lib.hid (ca.at_ B1.out (by simp))
    replace C := Lib.hid (C.out.trans ca)
    clear ca
    have z_B1_0 := cell_of B1.out 0
    have f_B1_0 := free_of B1.out 0
    have z_B1_1 := cell_of B1.out 1
    have f_B1_1 := free_of B1.out 1
    simp only [List.getElem?_toArray, List.getElem?_cons_succ, List.getElem?_cons_zero] at z_B1_0 z_B1_1
    have HPP := Lib.hid (put2_0 (.int .i64 0) (.int .i64 0) B1.out)
    have CW := Lib.hid ((HP.out _ 1 (.int .i64 0) (HP.out _ 0 (.int .i64 0) C.out)))
    go_wp2_with fail
    clear z_B1_0 f_B1_0 z_B1_1 f_B1_1
    generalize ((w2.setCell ⟨s1, 0, none⟩ (.int .i64 0)).setCell ⟨s1, 1, none⟩ (.int .i64 0)) = W at *
    have z0 := cell_of HPP.out 0
    have z1 := cell_of HPP.out 1
    simp only [List.getElem?_toArray, List.getElem?_cons_succ, List.getElem?_cons_zero] at z0 z1
    refine bodyPost_ret (v := .tuple #[.agg #[.int .i64 0, .int .i64 0], .int .i64 2]) (by simp [results, Tryd.results15, go_sem, z0, z1]) rfl ?_
    exact ⟨rfl, CW.out⟩

set_option maxHeartbeats 1000000 in
theorem hnext_any (w : World) (n s : Int) (hs : s ≤ 9223372036854775807) :
    Calls Tryd.prog 16 #[.agg #[.int .i64 n, .int .i64 s]] w fun e w' => e = .returned (.tuple #[.agg #[.int .i64 (nxN n s), .int .i64 (nxS n s)], .int .i64 (nxE n s)]) ∧ Chg [] w w' := by
  have go : ∀ x y z, nxN n s = x → nxS n s = y → nxE n s = z → Calls Tryd.prog 16 #[.agg #[.int .i64 n, .int .i64 s]] w (fun e w' => e = .returned (.tuple #[.agg #[.int .i64 (x), .int .i64 (y)], .int .i64 (z)]) ∧ Chg [] w w') → Calls Tryd.prog 16 #[.agg #[.int .i64 n, .int .i64 s]] w (fun e w' => e = .returned (.tuple #[.agg #[.int .i64 (nxN n s), .int .i64 (nxS n s)], .int .i64 (nxE n s)]) ∧ Chg [] w w') := fun x y z h1 h2 h3 h => h1 ▸ h2 ▸ h3 ▸ h
  have HP := Lib.hid (fun (w' : World) (j : Nat) (v : Value) (h : Chg [] w w') => h.put (s := w.heap.size + 1) (Nat.le_succ _) j v)
  have C := Lib.hid (Chg.refl [] w)
  have l1 : w.heap.size ≠ w.heap.size + 1 := by omega
  have l2 : w.heap.size + 1 ≠ w.heap.size := by omega
  obtain ⟨w1, hw1, cw1, b_B0, b_B1⟩ := news2 w (.cells #[.int .i64 n, .int .i64 s] 23) (.cells #[.int .i64 0, .int .i64 0] 23)
  have Ww1 := Lib.hid hw1
  have l_B0 := lt_of_heap b_B0
  have l_B1 := lt_of_heap b_B1
  replace C := Lib.hid (C.out.trans cw1)
  have B0 := Lib.hid (b_B0)
  have B1 := Lib.hid (b_B1)
  clear hw1 cw1 b_B0 b_B1
  by_cases h : FineD n s
  · have hk := chkD_fine h
    by_cases hm : s = 2147483647
    · refine go 0 0 5 (if_neg (fun h => h.2 hm)) (if_neg (fun h => h.2 hm)) (by unfold nxE; rw [if_pos h, if_pos hm]) ?_
      subst hm
      clear go h
      go_enter Tryd.func16, Tryd.ntmps16
      go_wp2_with fail
      rw [← Ww1.out]
      generalize w.heap.size + 1 = s1 at *
      generalize w.heap.size = s0 at *
      clear Ww1
      have r1 := hcheck_any w1 n 2147483647
      rw [hk] at r1
      refine (r1).mono ?_
      rintro e w2 ⟨rfl, ca⟩
      replace B0 := Lib.hid (ca.at_ B0.out (by simp))
      replace B1 := Lib.hid (ca.at_ B1.out (by simp))
      replace C := Lib.hid (C.out.trans ca)
      clear ca
      have z_B0_0 := cell_of B0.out 0
      have z_B0_1 := cell_of B0.out 1
      simp only [List.getElem?_toArray, List.getElem?_cons_succ, List.getElem?_cons_zero] at z_B0_0 z_B0_1
      have z_B1_0 := cell_of B1.out 0
      have f_B1_0 := free_of B1.out 0
      have z_B1_1 := cell_of B1.out 1
      have f_B1_1 := free_of B1.out 1
      simp only [List.getElem?_toArray, List.getElem?_cons_succ, List.getElem?_cons_zero] at z_B1_0 z_B1_1
      have HPP := Lib.hid (put2_0 (.int .i64 0) (.int .i64 0) B1.out)
      have CW := Lib.hid ((HP.out _ 1 (.int .i64 0) (HP.out _ 0 (.int .i64 0) C.out)))
      go_wp2_with fail
      clear z_B0_0 z_B0_1 z_B1_0 f_B1_0 z_B1_1 f_B1_1
      generalize ((w2.setCell ⟨s1, 0, none⟩ (.int .i64 0)).setCell ⟨s1, 1, none⟩ (.int .i64 0)) = W at *
      have z0 := cell_of HPP.out 0
      have z1 := cell_of HPP.out 1
      simp only [List.getElem?_toArray, List.getElem?_cons_succ, List.getElem?_cons_zero] at z0 z1
      refine bodyPost_ret (v := .tuple #[.agg #[.int .i64 0, .int .i64 0], .int .i64 5]) (by simp [results, Tryd.results16, go_sem, z0, z1]) rfl ?_
      exact ⟨rfl, CW.out⟩
    · refine go n (s + 1) 0 (if_pos ⟨h, hm⟩) (if_pos ⟨h, hm⟩) (by unfold nxE; rw [if_pos h, if_neg hm]) ?_
      have hmb : (s == 2147483647) = false := by simpa using hm
      have e1 : s + 1 ≤ 9223372036854775807 := by have := h.2.2.2; omega
      have e2 : 0 ≤ s + 1 := by have := h.2.2.1; omega
      clear go h hm
      go_enter Tryd.func16, Tryd.ntmps16
      go_wp2_with fail
      rw [← Ww1.out]
      generalize w.heap.size + 1 = s1 at *
      generalize w.heap.size = s0 at *
      clear Ww1
      have r1 := hcheck_any w1 n s
      rw [hk] at r1
      refine (r1).mono ?_
      rintro e w2 ⟨rfl, ca⟩
      replace B0 := Lib.hid (ca.at_ B0.out (by simp))
      replace B1 := Lib.hid (ca.at_ B1.out (by simp))
      replace C := Lib.hid (C.out.trans ca)
      clear ca
      have z_B0_0 := cell_of B0.out 0
      have f_B0_0 := free_of B0.out 0
      have z_B0_1 := cell_of B0.out 1
      have f_B0_1 := free_of B0.out 1
      simp only [List.getElem?_toArray, List.getElem?_cons_succ, List.getElem?_cons_zero] at z_B0_0 z_B0_1
      have z_B1_0 := cell_of B1.out 0
      have f_B1_0 := free_of B1.out 0
      have z_B1_1 := cell_of B1.out 1
      have f_B1_1 := free_of B1.out 1
      simp only [List.getElem?_toArray, List.getElem?_cons_succ, List.getElem?_cons_zero] at z_B1_0 z_B1_1
      have HPP := Lib.hid (put2_0 (.int .i64 n) (.int .i64 (s + 1)) B1.out)
      have CW := Lib.hid ((HP.out _ 1 (.int .i64 (s + 1)) (HP.out _ 0 (.int .i64 n) C.out)))
      go_wp2_with fail
      clear z_B0_0 f_B0_0 z_B0_1 f_B0_1 z_B1_0 f_B1_0 z_B1_1 f_B1_1
      generalize ((w2.setCell ⟨s1, 0, none⟩ (.int .i64 n)).setCell ⟨s1, 1, none⟩ (.int .i64 (s + 1))) = W at *
      have z0 := cell_of HPP.out 0
      have z1 := cell_of HPP.out 1
      simp only [List.getElem?_toArray, List.getElem?_cons_succ, List.getElem?_cons_zero] at z0 z1
      refine bodyPost_ret (v := .tuple #[.agg #[.int .i64 n, .int .i64 (s + 1)], .int .i64 0]) (by simp [results, Tryd.results16, go_sem, z0, z1]) rfl ?_
      exact ⟨rfl, CW.out⟩
  · refine go 0 0 2 (if_neg (fun h' => h h'.1)) (if_neg (fun h' => h h'.1)) (if_neg h) ?_
    have hk := chkD_odd h
    clear go h
    go_enter Tryd.func16, Tryd.ntmps16
    go_wp2_with fail
    rw [← Ww1.out]
    generalize w.heap.size + 1 = s1 at *
    generalize w.heap.size = s0 at *
    clear Ww1
    have r1 := hcheck_any w1 n s
    rw [hk] at r1
    refine (r1).mono ?_
    rintro e w2 ⟨rfl, ca⟩
    replace B0 := Lib.hid (ca.at_ B0.out (by simp))
    replace B1 := Lib.hid (ca.at_ B1.out (by simp))
    replace C := Lib.hid (C.out.trans ca)
    clear ca
    have z_B1_0 := cell_of B1.out 0
    have f_B1_0 := free_of B1.out 0
    have z_B1_1 := cell_of B1.out 1
    have f_B1_1 := free_of B1.out 1
    simp only [List.getElem?_toArray, List.getElem?_cons_succ, List.getElem?_cons_zero] at z_B1_0 z_B1_1
    have HPP := Lib.hid (put2_0 (.int .i64 0) (.int .i64 0) B1.out)
    have CW := Lib.hid ((HP.out _ 1 (.int .i64 0) (HP.out _ 0 (.int .i64 0) C.out)))
    go_wp2_with fail
    clear z_B1_0 f_B1_0 z_B1_1 f_B1_1
    generalize ((w2.setCell ⟨s1, 0, none⟩ (.int .i64 0)).setCell ⟨s1, 1, none⟩ (.int .i64 0)) = W at *
    have z0 := cell_of HPP.out 0
    have z1 := cell_of HPP.out 1
    simp only [List.getElem?_toArray, List.getElem?_cons_succ, List.getElem?_cons_zero] at z0 z1
    refine bodyPost_ret (v := .tuple #[.agg #[.int .i64 0, .int .i64 0], .int .i64 2]) (by simp [results, Tryd.results16, go_sem, z0, z1]) rfl ?_
    exact ⟨rfl, CW.out⟩
end Go.Proofs.YtmcnfopiilplnaaDoor
