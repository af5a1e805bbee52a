/- DotTells. -/
import Derived.Test.YtmcnfopiilplnaaDoorDlaws
import Derived.Test.YtmcnfopiilplnaaDoorHsort
import Derived.Deep.RegionHeld3
namespace Go.Proofs.YtmcnfopiilplnaaDoor
open Go.RowKit Go.Lib Go.Sort
set_option linter.unusedSimpArgs false
set_option linter.unusedVariables false



set_option maxHeartbeats 4000000 in
theorem dtellslaw_yes (w : World) (n0 s0 n1 s1 : Int) (A : Option Addr) (m c : Nat) (xs : List (Int × Int)) (h : RdK dotTy w A m xs) (hm : m ≤ 140737488351232) (hs : s0 ≤ 9223372036854775807) (hT : TabD w) : Calls Tryd.prog 3 #[.agg #[.int .i64 n0, .int .i64 s0], .agg #[.int .i64 n1, .int .i64 s1], .slice A m c] w fun r w' => r = .returned (.bool true) ∧ Chg [] w w' := by
  have hl := h.len
  subst hl
  have HT := Lib.hid hT
  have HB := Lib.hid h
  clear hT h
  have C := Lib.hid (Chg.refl [] w)
  obtain ⟨w1, hw1, cw1, b_B0, b_B1⟩ := news2 w (.cells #[.int .i64 n0, .int .i64 s0] 23) (.cells #[.int .i64 n1, .int .i64 s1] 23)
  have Ww1 := Lib.hid hw1
  have l_B0 := lt_of_heap b_B0
  have l_B1 := lt_of_heap b_B1
  replace C := Lib.hid (C.out.trans cw1)
  have B0 := Lib.hid (b_B0)
  have B1 := Lib.hid (b_B1)
  clear hw1 cw1 b_B0 b_B1
  go_enter Tryd.func3, Tryd.ntmps3
  by_cases hbig : 60 < xs.length
  · skip
    go_wp2_with fail
    rw [← Ww1.out]
    generalize w.heap.size + 1 = b1 at *
    generalize w.heap.size = b0 at *
    clear Ww1
    refine (dawake_yes _ (HT.out.chg C.out)).mono ?_
    rintro e w2 ⟨rfl, ca⟩
    replace B0 := Lib.hid (ca.at_ B0.out (by simp))
    replace B1 := Lib.hid (ca.at_ B1.out (by simp))
    replace C := Lib.hid (C.out.trans ca)
    clear ca
    go_wp2
    go_ret
    exact ⟨rfl, C.out⟩
  · skip
    go_wp2_with fail
    rw [← Ww1.out]
    generalize w.heap.size + 1 = b1 at *
    generalize w.heap.size = b0 at *
    clear Ww1
    refine (copydot_any _ A _ _ xs (HB.out.chg C.out (by simp)) (by omega)).mono ?_
    rintro e w2 ⟨A1, c1, rfl, ca⟩
    replace B0 := Lib.hid (ca.2.2.at_ B0.out (by simp))
    replace B1 := Lib.hid (ca.2.2.at_ B1.out (by simp))
    replace C := Lib.hid (C.out.trans ca.2.2)
    have F1 := Lib.hid ca.1
    have L1 := Lib.hid ca.1.lt
    have CNB := Lib.hid C.out
    have q0 := lt_of_heap B0.out
    have q1 := lt_of_heap B1.out
    have Q0 := Lib.hid q0
    have Q1 := Lib.hid q1
    clear ca q0 q1
    go_wp2_with fail
    refine (dsort_any _ A1 _ c1 xs F1.out.reads (by omega)).mono ?_
    rintro e w3 ⟨A2, c2, rfl, ca⟩
    replace B0 := Lib.hid (ca.2.2.at_ B0.out (by simp))
    replace B1 := Lib.hid (ca.2.2.at_ B1.out (by simp))
    replace C := Lib.hid (C.out.trans ca.2.2)
    replace F1 := Lib.hid (F1.out.chg ca.2.2 (by simp))
    have F2 := Lib.hid ca.1
    have N2 := Lib.hid ca.2.1
    clear ca
    go_wp2_with fail
    refine (hsort_any _ A _ c xs (HB.out.chg C.out (by simp)) (by omega)).mono ?_
    rintro e w4 ⟨A3, c3, rfl, ca⟩
    replace B0 := Lib.hid (ca.2.at_ B0.out (by simp))
    replace B1 := Lib.hid (ca.2.at_ B1.out (by simp))
    replace C := Lib.hid (C.out.trans ca.2)
    replace F1 := Lib.hid (F1.out.chg ca.2 (by simp))
    replace F2 := Lib.hid (F2.out.chg ca.2 (by simp))
    have F3 := Lib.hid ca.1
    have ip := (insAll_props xs).2.2
    clear ca
    rw [insAll_sortD] at F3 ip ⊢
    go_wp2_with fail
    refine (samedot_any _ A2 A3 _ _ c2 c3 _ _ F2.out.reads F3.out.reads (by omega) (by omega)).mono ?_
    rintro e w5 ⟨rfl, ca⟩
    replace B0 := Lib.hid (ca.at_ B0.out (by simp))
    replace B1 := Lib.hid (ca.at_ B1.out (by simp))
    replace C := Lib.hid (C.out.trans ca)
    replace F1 := Lib.hid (F1.out.chg ca (by simp))
    replace F2 := Lib.hid (F2.out.chg ca (by simp))
    replace F3 := Lib.hid (F3.out.chg ca (by simp))
    clear ca F3
    rw [show (sortD xs == sortD xs) = true by simp]
    go_wp2_with fail
    refine (overdot_own _ A2 _ c2 _ F2.out rfl).mono ?_
    rintro e w6 ⟨rfl, h9⟩
    obtain ⟨S, hS, h9⟩ := over_since N2.out h9
    have CC := Lib.hid (C.out.over CNB.out hS h9)
    have G1 := Lib.hid (F1.out.chg h9 (fun a ha hin => absurd (hS _ hin) (Nat.not_le.2 (L1.out a ha))))
    have D0 := Lib.hid (h9.at_ B0.out (fun hin => absurd (hS _ hin) (Nat.not_le.2 Q0.out)))
    have D1 := Lib.hid (h9.at_ B1.out (fun hin => absurd (hS _ hin) (Nat.not_le.2 Q1.out)))
    clear h9 hS F1 F2 N2 L1 CNB C B0 B1 Q0 Q1
    have LL := Lib.hid (fun w => dless_any w n0 s0 n1 s1)
    have LH := Lib.hid (fun w => hless_any w n0 s0 n1 s1)
    have KD := Lib.hid (fun w => dcheck_any w n0 s0)
    have KH := Lib.hid (fun w => hcheck_any w n0 s0)
    have ND := Lib.hid (fun w => dnext_any w n0 s0 hs)
    have NH := Lib.hid (fun w => hnext_any w n0 s0 hs)
    generalize decide (LtD n0 s0 n1 s1) = X at *
    generalize chkD n0 s0 = K0 at *
    generalize nxN n0 s0 = x at *
    generalize nxS n0 s0 = y at *
    generalize nxE n0 s0 = z at *
    have z_D0_0 := cell_of D0.out 0
    have z_D0_1 := cell_of D0.out 1
    simp only [List.getElem?_toArray, List.getElem?_cons_succ, List.getElem?_cons_zero] at z_D0_0 z_D0_1
    go_wp2_with fail
    refine (ND.out _).mono ?_
    rintro e w7 ⟨rfl, ca⟩
    clear z_D0_0 z_D0_1
    replace D0 := Lib.hid (ca.at_ D0.out (by simp))
    replace D1 := Lib.hid (ca.at_ D1.out (by simp))
    replace CC := Lib.hid (CC.out.trans ca)
    replace G1 := Lib.hid (G1.out.chg ca (by simp))
    clear ca
    obtain ⟨w8, hw8, cw8, b_B3⟩ := news1 w7 (.cells #[.int .i64 x, .int .i64 y] 23)
    have Ww8 := Lib.hid hw8
    have l_B3 := lt_of_heap b_B3
    replace D0 := Lib.hid (cw8.at_ D0.out (by simp))
    replace D1 := Lib.hid (cw8.at_ D1.out (by simp))
    replace CC := Lib.hid (CC.out.trans cw8)
    replace G1 := Lib.hid (G1.out.chg cw8 (by simp))
    have B3 := Lib.hid (b_B3)
    clear hw8 cw8 b_B3
    go_upto_region 8 with fail
    rw [← Ww8.out]
    generalize w7.heap.size = b3 at *
    clear Ww8
    have z_D0_0 := cell_of D0.out 0
    have z_D0_1 := cell_of D0.out 1
    simp only [List.getElem?_toArray, List.getElem?_cons_succ, List.getElem?_cons_zero] at z_D0_0 z_D0_1
    go_wp2_with fail
    refine (NH.out _).mono ?_
    rintro e w9 ⟨rfl, ca⟩
    clear z_D0_0 z_D0_1
    replace D0 := Lib.hid (ca.at_ D0.out (by simp))
    replace D1 := Lib.hid (ca.at_ D1.out (by simp))
    replace B3 := Lib.hid (ca.at_ B3.out (by simp))
    replace CC := Lib.hid (CC.out.trans ca)
    replace G1 := Lib.hid (G1.out.chg ca (by simp))
    clear ca
    obtain ⟨x1, hx1, cx1, b_B4⟩ := news1 w9 (.cells #[.int .i64 x, .int .i64 y] 23)
    have Wx1 := Lib.hid hx1
    have l_B4 := lt_of_heap b_B4
    replace D0 := Lib.hid (cx1.at_ D0.out (by simp))
    replace D1 := Lib.hid (cx1.at_ D1.out (by simp))
    replace B3 := Lib.hid (cx1.at_ B3.out (by simp))
    replace CC := Lib.hid (CC.out.trans cx1)
    replace G1 := Lib.hid (G1.out.chg cx1 (by simp))
    have B4 := Lib.hid (b_B4)
    clear hx1 cx1 b_B4
    go_upto_region 9 with fail
    rw [← Wx1.out]
    generalize w9.heap.size = b4 at *
    clear Wx1
    have SM := Lib.hid (fun (w' : World) (hc : Chg [] x1 w') => samedot_any w' A1 A xs.length xs.length c1 c xs xs (G1.out.reads.chg hc (by simp)) (HB.out.chg (CC.out.trans hc) (by simp)) hm hm)
    have AW := Lib.hid (fun (w' : World) (hc : Chg [] x1 w') => dawake_yes w' (HT.out.chg (CC.out.trans hc)))
    rw [show (xs == xs) = true by simp] at SM
    have hk : ∀ w', Chg [] x1 w' → w'.cell? ⟨b0, 0, none⟩ = some (.int .i64 n0) ∧ w'.cell? ⟨b0, 1, none⟩ = some (.int .i64 s0) ∧ w'.cell? ⟨b1, 0, none⟩ = some (.int .i64 n1) ∧ w'.cell? ⟨b1, 1, none⟩ = some (.int .i64 s1) ∧ w'.cell? ⟨b3, 0, none⟩ = some (.int .i64 x) ∧ w'.cell? ⟨b3, 1, none⟩ = some (.int .i64 y) ∧ w'.cell? ⟨b4, 0, none⟩ = some (.int .i64 x) ∧ w'.cell? ⟨b4, 1, none⟩ = some (.int .i64 y) ∧ Chg [] x1 w' := by
      intro w' hc
      have b_D0 := hc.at_ D0.out (by simp)
      have b_D1 := hc.at_ D1.out (by simp)
      have b_B3 := hc.at_ B3.out (by simp)
      have b_B4 := hc.at_ B4.out (by simp)
      exact ⟨cell_of b_D0 0, cell_of b_D0 1, cell_of b_D1 0, cell_of b_D1 1, cell_of b_B3 0, cell_of b_B3 1, cell_of b_B4 0, cell_of b_B4 1, hc⟩
    have HK := Lib.hid hk
    clear hk
    go_region_held3 (fun w' => w'.cell? ⟨b0, 0, none⟩ = some (.int .i64 n0) ∧ w'.cell? ⟨b0, 1, none⟩ = some (.int .i64 s0) ∧ w'.cell? ⟨b1, 0, none⟩ = some (.int .i64 n1) ∧ w'.cell? ⟨b1, 1, none⟩ = some (.int .i64 s1) ∧ w'.cell? ⟨b3, 0, none⟩ = some (.int .i64 x) ∧ w'.cell? ⟨b3, 1, none⟩ = some (.int .i64 y) ∧ w'.cell? ⟨b4, 0, none⟩ = some (.int .i64 x) ∧ w'.cell? ⟨b4, 1, none⟩ = some (.int .i64 y) ∧ Chg [] x1 w')
      (first | exact HK.out _ hC | exact HK.out _ (Chg.refl [] x1).drew | (have hC := (‹_ ∧ _ ∧ _ ∧ _ ∧ _ ∧ _ ∧ _ ∧ _ ∧ Chg [] x1 _›).2.2.2.2.2.2.2.2; first | exact HK.out _ (hC.allocD _) | exact HK.out _ (hC.alloc _) | exact HK.out _ hC.drew | exact HK.out _ hC))
      (((have hC := (‹_ ∧ _ ∧ _ ∧ _ ∧ _ ∧ _ ∧ _ ∧ _ ∧ Chg [] x1 _›).2.2.2.2.2.2.2.2); (first
        | (go_at_call 17; (with_reducible refine (KD.out _).mono ?_); rintro e v9 ⟨rfl, hc⟩; have hC := hC.trans hc)
        | (go_at_call 18; (with_reducible refine (KH.out _).mono ?_); rintro e v9 ⟨rfl, hc⟩; have hC := hC.trans hc)
        | (go_at_call 19; (with_reducible refine (LL.out _).mono ?_); rintro e v9 ⟨rfl, hc⟩; have hC := hC.trans hc)
        | (go_at_call 20; (with_reducible refine (LH.out _).mono ?_); rintro e v9 ⟨rfl, hc⟩; have hC := hC.trans hc)
        | (go_at_call 12; (with_reducible refine (SM.out _ hC).mono ?_); rintro e v9 ⟨rfl, hc⟩; have hC := hC.trans hc)
        | (go_at_call 9; (with_reducible refine (AW.out _ hC).mono ?_); rintro e v9 ⟨rfl, hc⟩; have hC := hC.trans hc))))
    all_goals
      have hC := (‹_ ∧ _ ∧ _ ∧ _ ∧ _ ∧ _ ∧ _ ∧ _ ∧ Chg [] x1 _›).2.2.2.2.2.2.2.2
      have CE := Lib.hid (CC.out.trans hC)
      clear hC
      go_wp2
      go_ret
      exact ⟨rfl, CE.out⟩
end Go.Proofs.YtmcnfopiilplnaaDoor
