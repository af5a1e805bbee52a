/- DotOrder. -/
import Derived.Test.YtmcnfopiilplnaaDoorDlaw
import Derived.Deep.Cut
namespace Go.Proofs.YtmcnfopiilplnaaDoor
open Go.RowKit Go.Lib
set_option linter.unusedSimpArgs false
set_option linter.unusedVariables false


theorem dless_is (w : World) (a s b t : Int) (v : Bool) (h : decide (LtD a s b t) = v) :
    Calls Tryd.prog 19 #[.agg #[.int .i64 a, .int .i64 s], .agg #[.int .i64 b, .int .i64 t]] w fun e w' => e = .returned (.bool v) ∧ Chg [] w w' := by
  have := dless_any w a s b t
  rwa [h] at this

set_option maxHeartbeats 4000000 in
theorem dorder_yes (w : World) (n0 s0 n1 s1 n2 s2 : Int) (hs : s0 ≤ 9223372036854775807) (hT : TabD w) : Calls Tryd.prog 8 #[.agg #[.int .i64 n0, .int .i64 s0], .agg #[.int .i64 n1, .int .i64 s1], .agg #[.int .i64 n2, .int .i64 s2]] w fun r w' => r = .returned (.bool true) ∧ Chg [] w w' := by
  have HT := Lib.hid hT
  clear hT
  have C := Lib.hid (Chg.refl [] w)
  obtain ⟨w1, hw1, cw1, b_B0, b_B1, b_B2⟩ := news3 w (.cells #[.int .i64 n0, .int .i64 s0] 23) (.cells #[.int .i64 n1, .int .i64 s1] 23) (.cells #[.int .i64 n2, .int .i64 s2] 23)
  have Ww1 := Lib.hid hw1
  have l_B0 := lt_of_heap b_B0
  have l_B1 := lt_of_heap b_B1
  have l_B2 := lt_of_heap b_B2
  replace C := Lib.hid (C.out.trans cw1)
  have B0 := Lib.hid (b_B0)
  have B1 := Lib.hid (b_B1)
  have B2 := Lib.hid (b_B2)
  clear hw1 cw1 b_B0 b_B1 b_B2
  go_enter Tryd.func8, Tryd.ntmps8
  go_wp2_with fail
  rw [← Ww1.out]
  generalize w.heap.size + 2 = b2 at *
  generalize w.heap.size + 1 = b1 at *
  generalize w.heap.size = b0 at *
  clear Ww1
  refine (dawake_yes _ (HT.out.chg C.out)).mono ?_
  rintro e w2 ⟨rfl, ca⟩
  replace B0 := Lib.hid (ca.at_ B0.out (by simp))
  replace B1 := Lib.hid (ca.at_ B1.out (by simp))
  replace B2 := Lib.hid (ca.at_ B2.out (by simp))
  replace C := Lib.hid (C.out.trans ca)
  clear ca
  go_wp2
  have l0 := fun w => dless_any w n0 s0 n1 s1
  have l1 := fun w => dless_any w n1 s1 n0 s0
  have l2 := fun w => dless_any w n1 s1 n2 s2
  have l3 := fun w => dless_any w n0 s0 n2 s2
  have hcon : (decide (LtD n0 s0 n1 s1) && decide (LtD n1 s1 n0 s0)) = false := by
    rw [← Bool.decide_and, decide_eq_false_iff_not]
    unfold LtD; omega
  have hcon2 : decide (LtD n0 s0 n1 s1) = true → decide (LtD n1 s1 n2 s2) = true → decide (LtD n0 s0 n2 s2) = true := by
    simp only [decide_eq_true_eq]
    unfold LtD; omega
  have hQ : decide (LtD n0 s0 n1 s1) = false → decide (LtD n1 s1 n0 s0) = false → n0 = n1 ∧ s0 = s1 := by
    simp only [decide_eq_false_iff_not]
    unfold LtD; omega
  have hQ2 : (decide (LtD n0 s0 n1 s1) = true ∨ decide (LtD n1 s1 n0 s0) = true) → ¬ (n0 = n1 ∧ s0 = s1) := by
    simp only [decide_eq_true_eq]
    unfold LtD; omega
  have hN : FineD n0 s0 ∧ s0 ≠ 2147483647 → decide (LtD n0 s0 n0 (s0 + 1)) = true ∧ (decide (LtD n0 s0 n1 s1) = true → decide (LtD n1 s1 n0 (s0 + 1)) = false) ∧ chkD n0 (s0 + 1) = 0 := by
    rintro ⟨⟨h1, h2, h3, h4⟩, h5⟩
    refine ⟨by rw [decide_eq_true_eq]; unfold LtD; omega, ?_, chkD_fine (by unfold FineD; omega)⟩
    rw [decide_eq_true_eq, decide_eq_false_iff_not]
    unfold LtD; omega
  have ln := fun w => dless_any w n0 s0 n0 (s0 + 1)
  have lm := fun w => dless_any w n1 s1 n0 (s0 + 1)
  have cn := fun w => dcheck_any w n0 (s0 + 1)
  have nx := fun w => dnext_any w n0 s0 hs
  generalize decide (LtD n0 s0 n1 s1) = X at *
  generalize decide (LtD n1 s1 n0 s0) = Y at *
  generalize decide (LtD n1 s1 n2 s2) = Z1 at *
  generalize decide (LtD n0 s0 n2 s2) = Z2 at *
  generalize decide (LtD n0 s0 n0 (s0 + 1)) = N1 at *
  generalize decide (LtD n1 s1 n0 (s0 + 1)) = N2 at *
  generalize chkD n0 (s0 + 1) = K0 at *
  have L0 := Lib.hid l0
  have L1 := Lib.hid l1
  have L2 := Lib.hid l2
  have L3 := Lib.hid l3
  have LN := Lib.hid ln
  have LM := Lib.hid lm
  have HCN := Lib.hid cn
  have NX := Lib.hid nx
  have HC1 := Lib.hid hcon
  have HC2 := Lib.hid hcon2
  have HQ := Lib.hid hQ
  have HQ2 := Lib.hid hQ2
  have HN := Lib.hid hN
  clear l0 l1 l2 l3 ln lm cn nx hcon hcon2 hQ hQ2 hN
  have hk : ∀ w', Chg [] w2 w' → w'.cell? ⟨b0, 0, none⟩ = some (.int .i64 n0) ∧ w'.cell? ⟨b0, 1, none⟩ = some (.int .i64 s0) ∧ w'.cell? ⟨b1, 0, none⟩ = some (.int .i64 n1) ∧ w'.cell? ⟨b1, 1, none⟩ = some (.int .i64 s1) ∧ Chg [] w2 w' := by
    intro w' hc
    have b_B0 := hc.at_ B0.out (by simp)
    have b_B1 := hc.at_ B1.out (by simp)
    exact ⟨cell_of b_B0 0, cell_of b_B0 1, cell_of b_B1 0, cell_of b_B1 1, hc⟩
  have HK := Lib.hid hk
  clear hk
  go_region_held3 (fun w' => w'.cell? ⟨b0, 0, none⟩ = some (.int .i64 n0) ∧ w'.cell? ⟨b0, 1, none⟩ = some (.int .i64 s0) ∧ w'.cell? ⟨b1, 0, none⟩ = some (.int .i64 n1) ∧ w'.cell? ⟨b1, 1, none⟩ = some (.int .i64 s1) ∧ Chg [] w2 w')
    (first | exact HK.out _ hC | exact HK.out _ (Chg.refl [] w2).drew | (have hC := (‹_ ∧ _ ∧ _ ∧ _ ∧ Chg [] w2 _›).2.2.2.2; first | exact HK.out _ (hC.allocD _) | exact HK.out _ (hC.alloc _) | exact HK.out _ hC.drew | exact HK.out _ hC))
    (((have hC := (‹_ ∧ _ ∧ _ ∧ _ ∧ Chg [] w2 _›).2.2.2.2); (first
      | (go_at_call 19; (first | (with_reducible refine (L0.out _).mono ?_) | (with_reducible refine (L1.out _).mono ?_)); rintro e w9 ⟨rfl, hc⟩; have hC := hC.trans hc))))
  all_goals
    have hC := (‹_ ∧ _ ∧ _ ∧ _ ∧ Chg [] w2 _›).2.2.2.2
    clear HK
    replace B0 := Lib.hid (hC.at_ B0.out (by simp))
    replace B1 := Lib.hid (hC.at_ B1.out (by simp))
    replace B2 := Lib.hid (hC.at_ B2.out (by simp))
    replace C := Lib.hid (C.out.trans hC)
    have CC := Lib.hid C.out
    clear C
    refine (Bool.eq_false_or_eq_true X).elim (fun hX => ?XT) (fun hX => ?XF)
    case XT =>
      subst hX
      have hY : Y = false := by simpa using HC1.out
      subst hY
      have hq := HQ2.out (.inl rfl)
      by_cases hn : n0 = n1
      · have hs2 : (s0 == s1) = false := by have := fun h => hq ⟨hn, h⟩; simpa using this
        have hn2 : (n0 == n1) = true := by simpa using hn
        clear hq hn
        refine (Bool.eq_false_or_eq_true Z1).elim (fun hZ => ?Z1) (fun hZ => ?Y1)
        case Z1 =>
          subst hZ
          have hZ2 := HC2.out rfl rfl
          subst hZ2
          have z_B0_0 := cell_of B0.out 0
          have z_B0_1 := cell_of B0.out 1
          have z_B1_0 := cell_of B1.out 0
          have z_B1_1 := cell_of B1.out 1
          have z_B2_0 := cell_of B2.out 0
          have z_B2_1 := cell_of B2.out 1
          simp only [List.getElem?_toArray, List.getElem?_cons_succ, List.getElem?_cons_zero] at z_B0_0 z_B0_1 z_B1_0 z_B1_1 z_B2_0 z_B2_1
          go_wp2_with fail
          refine (L2.out _).mono ?_
          rintro e y1 ⟨rfl, ca⟩
          clear z_B0_0 z_B0_1 z_B1_0 z_B1_1 z_B2_0 z_B2_1
          replace B0 := Lib.hid (ca.at_ B0.out (by simp))
          replace B1 := Lib.hid (ca.at_ B1.out (by simp))
          replace B2 := Lib.hid (ca.at_ B2.out (by simp))
          replace CC := Lib.hid (CC.out.trans ca)
          clear ca
          have z_B0_0 := cell_of B0.out 0
          have z_B0_1 := cell_of B0.out 1
          have z_B1_0 := cell_of B1.out 0
          have z_B1_1 := cell_of B1.out 1
          have z_B2_0 := cell_of B2.out 0
          have z_B2_1 := cell_of B2.out 1
          simp only [List.getElem?_toArray, List.getElem?_cons_succ, List.getElem?_cons_zero] at z_B0_0 z_B0_1 z_B1_0 z_B1_1 z_B2_0 z_B2_1
          go_wp2_with fail
          refine (L3.out _).mono ?_
          rintro e y2 ⟨rfl, ca⟩
          clear z_B0_0 z_B0_1 z_B1_0 z_B1_1 z_B2_0 z_B2_1
          replace B0 := Lib.hid (ca.at_ B0.out (by simp))
          replace B1 := Lib.hid (ca.at_ B1.out (by simp))
          replace B2 := Lib.hid (ca.at_ B2.out (by simp))
          replace CC := Lib.hid (CC.out.trans ca)
          clear ca
          go_upto_region 5 with fail
          clear HC1 HC2 HQ HQ2
          have z_B0_0 := cell_of B0.out 0
          have z_B0_1 := cell_of B0.out 1
          simp only [List.getElem?_toArray, List.getElem?_cons_succ, List.getElem?_cons_zero] at z_B0_0 z_B0_1
          go_wp2_with fail
          refine (NX.out _).mono ?_
          rintro e x1 ⟨rfl, ca⟩
          clear z_B0_0 z_B0_1
          replace B0 := Lib.hid (ca.at_ B0.out (by simp))
          replace B1 := Lib.hid (ca.at_ B1.out (by simp))
          replace B2 := Lib.hid (ca.at_ B2.out (by simp))
          replace CC := Lib.hid (CC.out.trans ca)
          clear ca
          by_cases hf : FineD n0 s0 ∧ s0 ≠ 2147483647
          · obtain ⟨e1, e2, e3⟩ := HN.out hf
            rw [show nxN n0 s0 = n0 from if_pos hf, show nxS n0 s0 = s0 + 1 from if_pos hf, show nxE n0 s0 = 0 by unfold nxE; rw [if_pos hf.1, if_neg hf.2]]
            clear hf
            subst e1 e3
            have e4 : N2 = false := by first | exact e2 rfl | exact e2 trivial
            subst e4
            clear e2
            obtain ⟨x2, hx2, cx2, b_B3⟩ := news1 x1 (.cells #[.int .i64 n0, .int .i64 (s0 + 1)] 23)
            have Wx2 := Lib.hid hx2
            have l_B3 := lt_of_heap b_B3
            replace B0 := Lib.hid (cx2.at_ B0.out (by simp))
            replace B1 := Lib.hid (cx2.at_ B1.out (by simp))
            replace B2 := Lib.hid (cx2.at_ B2.out (by simp))
            replace CC := Lib.hid (CC.out.trans cx2)
            have B3 := Lib.hid (b_B3)
            clear hx2 cx2 b_B3
            go_upto_region 6 with fail
            rw [← Wx2.out]
            generalize x1.heap.size = b3 at *
            clear Wx2
            have z_B0_0 := cell_of B0.out 0
            have z_B0_1 := cell_of B0.out 1
            have z_B3_0 := cell_of B3.out 0
            have z_B3_1 := cell_of B3.out 1
            simp only [List.getElem?_toArray, List.getElem?_cons_succ, List.getElem?_cons_zero] at z_B0_0 z_B0_1 z_B3_0 z_B3_1
            go_wp2_with fail
            refine (LN.out _).mono ?_
            rintro e x3 ⟨rfl, ca⟩
            clear z_B0_0 z_B0_1 z_B3_0 z_B3_1
            replace B0 := Lib.hid (ca.at_ B0.out (by simp))
            replace B1 := Lib.hid (ca.at_ B1.out (by simp))
            replace B2 := Lib.hid (ca.at_ B2.out (by simp))
            replace B3 := Lib.hid (ca.at_ B3.out (by simp))
            replace CC := Lib.hid (CC.out.trans ca)
            clear ca
            have z_B0_0 := cell_of B0.out 0
            have z_B0_1 := cell_of B0.out 1
            have z_B1_0 := cell_of B1.out 0
            have z_B1_1 := cell_of B1.out 1
            simp only [List.getElem?_toArray, List.getElem?_cons_succ, List.getElem?_cons_zero] at z_B0_0 z_B0_1 z_B1_0 z_B1_1
            go_wp2_with fail
            refine (L0.out _).mono ?_
            rintro e x4 ⟨rfl, ca⟩
            clear z_B0_0 z_B0_1 z_B1_0 z_B1_1
            replace B0 := Lib.hid (ca.at_ B0.out (by simp))
            replace B1 := Lib.hid (ca.at_ B1.out (by simp))
            replace B2 := Lib.hid (ca.at_ B2.out (by simp))
            replace B3 := Lib.hid (ca.at_ B3.out (by simp))
            replace CC := Lib.hid (CC.out.trans ca)
            clear ca
            have z_B1_0 := cell_of B1.out 0
            have z_B1_1 := cell_of B1.out 1
            have z_B3_0 := cell_of B3.out 0
            have z_B3_1 := cell_of B3.out 1
            simp only [List.getElem?_toArray, List.getElem?_cons_succ, List.getElem?_cons_zero] at z_B1_0 z_B1_1 z_B3_0 z_B3_1
            go_wp2_with fail
            refine (LM.out _).mono ?_
            rintro e x5 ⟨rfl, ca⟩
            clear z_B1_0 z_B1_1 z_B3_0 z_B3_1
            replace B0 := Lib.hid (ca.at_ B0.out (by simp))
            replace B1 := Lib.hid (ca.at_ B1.out (by simp))
            replace B2 := Lib.hid (ca.at_ B2.out (by simp))
            replace B3 := Lib.hid (ca.at_ B3.out (by simp))
            replace CC := Lib.hid (CC.out.trans ca)
            clear ca
            have z_B3_0 := cell_of B3.out 0
            have z_B3_1 := cell_of B3.out 1
            simp only [List.getElem?_toArray, List.getElem?_cons_succ, List.getElem?_cons_zero] at z_B3_0 z_B3_1
            go_wp2_with fail
            refine (HCN.out _).mono ?_
            rintro e x6 ⟨rfl, ca⟩
            clear z_B3_0 z_B3_1
            replace B0 := Lib.hid (ca.at_ B0.out (by simp))
            replace B1 := Lib.hid (ca.at_ B1.out (by simp))
            replace B2 := Lib.hid (ca.at_ B2.out (by simp))
            replace B3 := Lib.hid (ca.at_ B3.out (by simp))
            replace CC := Lib.hid (CC.out.trans ca)
            clear ca
            go_wp2
            go_ret
            exact ⟨rfl, CC.out⟩
          · skip
            have hE : (nxE n0 s0 != 0) = true := by
              unfold nxE
              split
              · rename_i h
                by_cases hm : s0 = 2147483647
                · rw [if_pos hm]; rfl
                · exact absurd ⟨h, hm⟩ hf
              · rfl
            clear hf
            generalize nxN n0 s0 = x at *
            generalize nxS n0 s0 = y at *
            generalize nxE n0 s0 = z at *
            obtain ⟨x2, hx2, cx2, b_B3⟩ := news1 x1 (.cells #[.int .i64 x, .int .i64 y] 23)
            have Wx2 := Lib.hid hx2
            have l_B3 := lt_of_heap b_B3
            replace B0 := Lib.hid (cx2.at_ B0.out (by simp))
            replace B1 := Lib.hid (cx2.at_ B1.out (by simp))
            replace B2 := Lib.hid (cx2.at_ B2.out (by simp))
            replace CC := Lib.hid (CC.out.trans cx2)
            have B3 := Lib.hid (b_B3)
            clear hx2 cx2 b_B3
            go_upto_region 6 with fail
            rw [← Wx2.out]
            generalize x1.heap.size = b3 at *
            clear Wx2
            go_wp2
            go_ret
            exact ⟨rfl, CC.out⟩
        case Y1 =>
          subst hZ
          have z_B0_0 := cell_of B0.out 0
          have z_B0_1 := cell_of B0.out 1
          have z_B1_0 := cell_of B1.out 0
          have z_B1_1 := cell_of B1.out 1
          have z_B2_0 := cell_of B2.out 0
          have z_B2_1 := cell_of B2.out 1
          simp only [List.getElem?_toArray, List.getElem?_cons_succ, List.getElem?_cons_zero] at z_B0_0 z_B0_1 z_B1_0 z_B1_1 z_B2_0 z_B2_1
          go_wp2_with fail
          refine (L2.out _).mono ?_
          rintro e y1 ⟨rfl, ca⟩
          clear z_B0_0 z_B0_1 z_B1_0 z_B1_1 z_B2_0 z_B2_1
          replace B0 := Lib.hid (ca.at_ B0.out (by simp))
          replace B1 := Lib.hid (ca.at_ B1.out (by simp))
          replace B2 := Lib.hid (ca.at_ B2.out (by simp))
          replace CC := Lib.hid (CC.out.trans ca)
          clear ca
          have z_B0_0 := cell_of B0.out 0
          have z_B0_1 := cell_of B0.out 1
          have z_B1_0 := cell_of B1.out 0
          have z_B1_1 := cell_of B1.out 1
          have z_B2_0 := cell_of B2.out 0
          have z_B2_1 := cell_of B2.out 1
          simp only [List.getElem?_toArray, List.getElem?_cons_succ, List.getElem?_cons_zero] at z_B0_0 z_B0_1 z_B1_0 z_B1_1 z_B2_0 z_B2_1
          go_upto_region 5 with fail
          clear z_B0_0 z_B0_1 z_B1_0 z_B1_1 z_B2_0 z_B2_1
          clear HC1 HC2 HQ HQ2
          have z_B0_0 := cell_of B0.out 0
          have z_B0_1 := cell_of B0.out 1
          simp only [List.getElem?_toArray, List.getElem?_cons_succ, List.getElem?_cons_zero] at z_B0_0 z_B0_1
          go_wp2_with fail
          refine (NX.out _).mono ?_
          rintro e x1 ⟨rfl, ca⟩
          clear z_B0_0 z_B0_1
          replace B0 := Lib.hid (ca.at_ B0.out (by simp))
          replace B1 := Lib.hid (ca.at_ B1.out (by simp))
          replace B2 := Lib.hid (ca.at_ B2.out (by simp))
          replace CC := Lib.hid (CC.out.trans ca)
          clear ca
          by_cases hf : FineD n0 s0 ∧ s0 ≠ 2147483647
          · obtain ⟨e1, e2, e3⟩ := HN.out hf
            rw [show nxN n0 s0 = n0 from if_pos hf, show nxS n0 s0 = s0 + 1 from if_pos hf, show nxE n0 s0 = 0 by unfold nxE; rw [if_pos hf.1, if_neg hf.2]]
            clear hf
            subst e1 e3
            have e4 : N2 = false := by first | exact e2 rfl | exact e2 trivial
            subst e4
            clear e2
            obtain ⟨x2, hx2, cx2, b_B3⟩ := news1 x1 (.cells #[.int .i64 n0, .int .i64 (s0 + 1)] 23)
            have Wx2 := Lib.hid hx2
            have l_B3 := lt_of_heap b_B3
            replace B0 := Lib.hid (cx2.at_ B0.out (by simp))
            replace B1 := Lib.hid (cx2.at_ B1.out (by simp))
            replace B2 := Lib.hid (cx2.at_ B2.out (by simp))
            replace CC := Lib.hid (CC.out.trans cx2)
            have B3 := Lib.hid (b_B3)
            clear hx2 cx2 b_B3
            go_upto_region 6 with fail
            rw [← Wx2.out]
            generalize x1.heap.size = b3 at *
            clear Wx2
            have z_B0_0 := cell_of B0.out 0
            have z_B0_1 := cell_of B0.out 1
            have z_B3_0 := cell_of B3.out 0
            have z_B3_1 := cell_of B3.out 1
            simp only [List.getElem?_toArray, List.getElem?_cons_succ, List.getElem?_cons_zero] at z_B0_0 z_B0_1 z_B3_0 z_B3_1
            go_wp2_with fail
            refine (LN.out _).mono ?_
            rintro e x3 ⟨rfl, ca⟩
            clear z_B0_0 z_B0_1 z_B3_0 z_B3_1
            replace B0 := Lib.hid (ca.at_ B0.out (by simp))
            replace B1 := Lib.hid (ca.at_ B1.out (by simp))
            replace B2 := Lib.hid (ca.at_ B2.out (by simp))
            replace B3 := Lib.hid (ca.at_ B3.out (by simp))
            replace CC := Lib.hid (CC.out.trans ca)
            clear ca
            have z_B0_0 := cell_of B0.out 0
            have z_B0_1 := cell_of B0.out 1
            have z_B1_0 := cell_of B1.out 0
            have z_B1_1 := cell_of B1.out 1
            simp only [List.getElem?_toArray, List.getElem?_cons_succ, List.getElem?_cons_zero] at z_B0_0 z_B0_1 z_B1_0 z_B1_1
            go_wp2_with fail
            refine (L0.out _).mono ?_
            rintro e x4 ⟨rfl, ca⟩
            clear z_B0_0 z_B0_1 z_B1_0 z_B1_1
            replace B0 := Lib.hid (ca.at_ B0.out (by simp))
            replace B1 := Lib.hid (ca.at_ B1.out (by simp))
            replace B2 := Lib.hid (ca.at_ B2.out (by simp))
            replace B3 := Lib.hid (ca.at_ B3.out (by simp))
            replace CC := Lib.hid (CC.out.trans ca)
            clear ca
            have z_B1_0 := cell_of B1.out 0
            have z_B1_1 := cell_of B1.out 1
            have z_B3_0 := cell_of B3.out 0
            have z_B3_1 := cell_of B3.out 1
            simp only [List.getElem?_toArray, List.getElem?_cons_succ, List.getElem?_cons_zero] at z_B1_0 z_B1_1 z_B3_0 z_B3_1
            go_wp2_with fail
            refine (LM.out _).mono ?_
            rintro e x5 ⟨rfl, ca⟩
            clear z_B1_0 z_B1_1 z_B3_0 z_B3_1
            replace B0 := Lib.hid (ca.at_ B0.out (by simp))
            replace B1 := Lib.hid (ca.at_ B1.out (by simp))
            replace B2 := Lib.hid (ca.at_ B2.out (by simp))
            replace B3 := Lib.hid (ca.at_ B3.out (by simp))
            replace CC := Lib.hid (CC.out.trans ca)
            clear ca
            have z_B3_0 := cell_of B3.out 0
            have z_B3_1 := cell_of B3.out 1
            simp only [List.getElem?_toArray, List.getElem?_cons_succ, List.getElem?_cons_zero] at z_B3_0 z_B3_1
            go_wp2_with fail
            refine (HCN.out _).mono ?_
            rintro e x6 ⟨rfl, ca⟩
            clear z_B3_0 z_B3_1
            replace B0 := Lib.hid (ca.at_ B0.out (by simp))
            replace B1 := Lib.hid (ca.at_ B1.out (by simp))
            replace B2 := Lib.hid (ca.at_ B2.out (by simp))
            replace B3 := Lib.hid (ca.at_ B3.out (by simp))
            replace CC := Lib.hid (CC.out.trans ca)
            clear ca
            go_wp2
            go_ret
            exact ⟨rfl, CC.out⟩
          · skip
            have hE : (nxE n0 s0 != 0) = true := by
              unfold nxE
              split
              · rename_i h
                by_cases hm : s0 = 2147483647
                · rw [if_pos hm]; rfl
                · exact absurd ⟨h, hm⟩ hf
              · rfl
            clear hf
            generalize nxN n0 s0 = x at *
            generalize nxS n0 s0 = y at *
            generalize nxE n0 s0 = z at *
            obtain ⟨x2, hx2, cx2, b_B3⟩ := news1 x1 (.cells #[.int .i64 x, .int .i64 y] 23)
            have Wx2 := Lib.hid hx2
            have l_B3 := lt_of_heap b_B3
            replace B0 := Lib.hid (cx2.at_ B0.out (by simp))
            replace B1 := Lib.hid (cx2.at_ B1.out (by simp))
            replace B2 := Lib.hid (cx2.at_ B2.out (by simp))
            replace CC := Lib.hid (CC.out.trans cx2)
            have B3 := Lib.hid (b_B3)
            clear hx2 cx2 b_B3
            go_upto_region 6 with fail
            rw [← Wx2.out]
            generalize x1.heap.size = b3 at *
            clear Wx2
            go_wp2
            go_ret
            exact ⟨rfl, CC.out⟩
      · have hn2 : (n0 == n1) = false := by simpa using hn
        clear hq hn
        refine (Bool.eq_false_or_eq_true Z1).elim (fun hZ => ?Z6) (fun hZ => ?Y6)
        case Z6 =>
          subst hZ
          have hZ2 := HC2.out rfl rfl
          subst hZ2
          have z_B0_0 := cell_of B0.out 0
          have z_B0_1 := cell_of B0.out 1
          have z_B1_0 := cell_of B1.out 0
          have z_B1_1 := cell_of B1.out 1
          have z_B2_0 := cell_of B2.out 0
          have z_B2_1 := cell_of B2.out 1
          simp only [List.getElem?_toArray, List.getElem?_cons_succ, List.getElem?_cons_zero] at z_B0_0 z_B0_1 z_B1_0 z_B1_1 z_B2_0 z_B2_1
          go_wp2_with fail
          refine (L2.out _).mono ?_
          rintro e y1 ⟨rfl, ca⟩
          clear z_B0_0 z_B0_1 z_B1_0 z_B1_1 z_B2_0 z_B2_1
          replace B0 := Lib.hid (ca.at_ B0.out (by simp))
          replace B1 := Lib.hid (ca.at_ B1.out (by simp))
          replace B2 := Lib.hid (ca.at_ B2.out (by simp))
          replace CC := Lib.hid (CC.out.trans ca)
          clear ca
          have z_B0_0 := cell_of B0.out 0
          have z_B0_1 := cell_of B0.out 1
          have z_B1_0 := cell_of B1.out 0
          have z_B1_1 := cell_of B1.out 1
          have z_B2_0 := cell_of B2.out 0
          have z_B2_1 := cell_of B2.out 1
          simp only [List.getElem?_toArray, List.getElem?_cons_succ, List.getElem?_cons_zero] at z_B0_0 z_B0_1 z_B1_0 z_B1_1 z_B2_0 z_B2_1
          go_wp2_with fail
          refine (L3.out _).mono ?_
          rintro e y2 ⟨rfl, ca⟩
          clear z_B0_0 z_B0_1 z_B1_0 z_B1_1 z_B2_0 z_B2_1
          replace B0 := Lib.hid (ca.at_ B0.out (by simp))
          replace B1 := Lib.hid (ca.at_ B1.out (by simp))
          replace B2 := Lib.hid (ca.at_ B2.out (by simp))
          replace CC := Lib.hid (CC.out.trans ca)
          clear ca
          go_upto_region 5 with fail
          clear HC1 HC2 HQ HQ2
          have z_B0_0 := cell_of B0.out 0
          have z_B0_1 := cell_of B0.out 1
          simp only [List.getElem?_toArray, List.getElem?_cons_succ, List.getElem?_cons_zero] at z_B0_0 z_B0_1
          go_wp2_with fail
          refine (NX.out _).mono ?_
          rintro e x1 ⟨rfl, ca⟩
          clear z_B0_0 z_B0_1
          replace B0 := Lib.hid (ca.at_ B0.out (by simp))
          replace B1 := Lib.hid (ca.at_ B1.out (by simp))
          replace B2 := Lib.hid (ca.at_ B2.out (by simp))
          replace CC := Lib.hid (CC.out.trans ca)
          clear ca
          by_cases hf : FineD n0 s0 ∧ s0 ≠ 2147483647
          · obtain ⟨e1, e2, e3⟩ := HN.out hf
            rw [show nxN n0 s0 = n0 from if_pos hf, show nxS n0 s0 = s0 + 1 from if_pos hf, show nxE n0 s0 = 0 by unfold nxE; rw [if_pos hf.1, if_neg hf.2]]
            clear hf
            subst e1 e3
            have e4 : N2 = false := by first | exact e2 rfl | exact e2 trivial
            subst e4
            clear e2
            obtain ⟨x2, hx2, cx2, b_B3⟩ := news1 x1 (.cells #[.int .i64 n0, .int .i64 (s0 + 1)] 23)
            have Wx2 := Lib.hid hx2
            have l_B3 := lt_of_heap b_B3
            replace B0 := Lib.hid (cx2.at_ B0.out (by simp))
            replace B1 := Lib.hid (cx2.at_ B1.out (by simp))
            replace B2 := Lib.hid (cx2.at_ B2.out (by simp))
            replace CC := Lib.hid (CC.out.trans cx2)
            have B3 := Lib.hid (b_B3)
            clear hx2 cx2 b_B3
            go_upto_region 6 with fail
            rw [← Wx2.out]
            generalize x1.heap.size = b3 at *
            clear Wx2
            have z_B0_0 := cell_of B0.out 0
            have z_B0_1 := cell_of B0.out 1
            have z_B3_0 := cell_of B3.out 0
            have z_B3_1 := cell_of B3.out 1
            simp only [List.getElem?_toArray, List.getElem?_cons_succ, List.getElem?_cons_zero] at z_B0_0 z_B0_1 z_B3_0 z_B3_1
            go_wp2_with fail
            refine (LN.out _).mono ?_
            rintro e x3 ⟨rfl, ca⟩
            clear z_B0_0 z_B0_1 z_B3_0 z_B3_1
            replace B0 := Lib.hid (ca.at_ B0.out (by simp))
            replace B1 := Lib.hid (ca.at_ B1.out (by simp))
            replace B2 := Lib.hid (ca.at_ B2.out (by simp))
            replace B3 := Lib.hid (ca.at_ B3.out (by simp))
            replace CC := Lib.hid (CC.out.trans ca)
            clear ca
            have z_B0_0 := cell_of B0.out 0
            have z_B0_1 := cell_of B0.out 1
            have z_B1_0 := cell_of B1.out 0
            have z_B1_1 := cell_of B1.out 1
            simp only [List.getElem?_toArray, List.getElem?_cons_succ, List.getElem?_cons_zero] at z_B0_0 z_B0_1 z_B1_0 z_B1_1
            go_wp2_with fail
            refine (L0.out _).mono ?_
            rintro e x4 ⟨rfl, ca⟩
            clear z_B0_0 z_B0_1 z_B1_0 z_B1_1
            replace B0 := Lib.hid (ca.at_ B0.out (by simp))
            replace B1 := Lib.hid (ca.at_ B1.out (by simp))
            replace B2 := Lib.hid (ca.at_ B2.out (by simp))
            replace B3 := Lib.hid (ca.at_ B3.out (by simp))
            replace CC := Lib.hid (CC.out.trans ca)
            clear ca
            have z_B1_0 := cell_of B1.out 0
            have z_B1_1 := cell_of B1.out 1
            have z_B3_0 := cell_of B3.out 0
            have z_B3_1 := cell_of B3.out 1
            simp only [List.getElem?_toArray, List.getElem?_cons_succ, List.getElem?_cons_zero] at z_B1_0 z_B1_1 z_B3_0 z_B3_1
            go_wp2_with fail
            refine (LM.out _).mono ?_
            rintro e x5 ⟨rfl, ca⟩
            clear z_B1_0 z_B1_1 z_B3_0 z_B3_1
            replace B0 := Lib.hid (ca.at_ B0.out (by simp))
            replace B1 := Lib.hid (ca.at_ B1.out (by simp))
            replace B2 := Lib.hid (ca.at_ B2.out (by simp))
            replace B3 := Lib.hid (ca.at_ B3.out (by simp))
            replace CC := Lib.hid (CC.out.trans ca)
            clear ca
            have z_B3_0 := cell_of B3.out 0
            have z_B3_1 := cell_of B3.out 1
            simp only [List.getElem?_toArray, List.getElem?_cons_succ, List.getElem?_cons_zero] at z_B3_0 z_B3_1
            go_wp2_with fail
            refine (HCN.out _).mono ?_
            rintro e x6 ⟨rfl, ca⟩
            clear z_B3_0 z_B3_1
            replace B0 := Lib.hid (ca.at_ B0.out (by simp))
            replace B1 := Lib.hid (ca.at_ B1.out (by simp))
            replace B2 := Lib.hid (ca.at_ B2.out (by simp))
            replace B3 := Lib.hid (ca.at_ B3.out (by simp))
            replace CC := Lib.hid (CC.out.trans ca)
            clear ca
            go_wp2
            go_ret
            exact ⟨rfl, CC.out⟩
          · skip
            have hE : (nxE n0 s0 != 0) = true := by
              unfold nxE
              split
              · rename_i h
                by_cases hm : s0 = 2147483647
                · rw [if_pos hm]; rfl
                · exact absurd ⟨h, hm⟩ hf
              · rfl
            clear hf
            generalize nxN n0 s0 = x at *
            generalize nxS n0 s0 = y at *
            generalize nxE n0 s0 = z at *
            obtain ⟨x2, hx2, cx2, b_B3⟩ := news1 x1 (.cells #[.int .i64 x, .int .i64 y] 23)
            have Wx2 := Lib.hid hx2
            have l_B3 := lt_of_heap b_B3
            replace B0 := Lib.hid (cx2.at_ B0.out (by simp))
            replace B1 := Lib.hid (cx2.at_ B1.out (by simp))
            replace B2 := Lib.hid (cx2.at_ B2.out (by simp))
            replace CC := Lib.hid (CC.out.trans cx2)
            have B3 := Lib.hid (b_B3)
            clear hx2 cx2 b_B3
            go_upto_region 6 with fail
            rw [← Wx2.out]
            generalize x1.heap.size = b3 at *
            clear Wx2
            go_wp2
            go_ret
            exact ⟨rfl, CC.out⟩
        case Y6 =>
          subst hZ
          have z_B0_0 := cell_of B0.out 0
          have z_B0_1 := cell_of B0.out 1
          have z_B1_0 := cell_of B1.out 0
          have z_B1_1 := cell_of B1.out 1
          have z_B2_0 := cell_of B2.out 0
          have z_B2_1 := cell_of B2.out 1
          simp only [List.getElem?_toArray, List.getElem?_cons_succ, List.getElem?_cons_zero] at z_B0_0 z_B0_1 z_B1_0 z_B1_1 z_B2_0 z_B2_1
          go_wp2_with fail
          refine (L2.out _).mono ?_
          rintro e y1 ⟨rfl, ca⟩
          clear z_B0_0 z_B0_1 z_B1_0 z_B1_1 z_B2_0 z_B2_1
          replace B0 := Lib.hid (ca.at_ B0.out (by simp))
          replace B1 := Lib.hid (ca.at_ B1.out (by simp))
          replace B2 := Lib.hid (ca.at_ B2.out (by simp))
          replace CC := Lib.hid (CC.out.trans ca)
          clear ca
          have z_B0_0 := cell_of B0.out 0
          have z_B0_1 := cell_of B0.out 1
          have z_B1_0 := cell_of B1.out 0
          have z_B1_1 := cell_of B1.out 1
          have z_B2_0 := cell_of B2.out 0
          have z_B2_1 := cell_of B2.out 1
          simp only [List.getElem?_toArray, List.getElem?_cons_succ, List.getElem?_cons_zero] at z_B0_0 z_B0_1 z_B1_0 z_B1_1 z_B2_0 z_B2_1
          go_upto_region 5 with fail
          clear z_B0_0 z_B0_1 z_B1_0 z_B1_1 z_B2_0 z_B2_1
          clear HC1 HC2 HQ HQ2
          have z_B0_0 := cell_of B0.out 0
          have z_B0_1 := cell_of B0.out 1
          simp only [List.getElem?_toArray, List.getElem?_cons_succ, List.getElem?_cons_zero] at z_B0_0 z_B0_1
          go_wp2_with fail
          refine (NX.out _).mono ?_
          rintro e x1 ⟨rfl, ca⟩
          clear z_B0_0 z_B0_1
          replace B0 := Lib.hid (ca.at_ B0.out (by simp))
          replace B1 := Lib.hid (ca.at_ B1.out (by simp))
          replace B2 := Lib.hid (ca.at_ B2.out (by simp))
          replace CC := Lib.hid (CC.out.trans ca)
          clear ca
          by_cases hf : FineD n0 s0 ∧ s0 ≠ 2147483647
          · obtain ⟨e1, e2, e3⟩ := HN.out hf
            rw [show nxN n0 s0 = n0 from if_pos hf, show nxS n0 s0 = s0 + 1 from if_pos hf, show nxE n0 s0 = 0 by unfold nxE; rw [if_pos hf.1, if_neg hf.2]]
            clear hf
            subst e1 e3
            have e4 : N2 = false := by first | exact e2 rfl | exact e2 trivial
            subst e4
            clear e2
            obtain ⟨x2, hx2, cx2, b_B3⟩ := news1 x1 (.cells #[.int .i64 n0, .int .i64 (s0 + 1)] 23)
            have Wx2 := Lib.hid hx2
            have l_B3 := lt_of_heap b_B3
            replace B0 := Lib.hid (cx2.at_ B0.out (by simp))
            replace B1 := Lib.hid (cx2.at_ B1.out (by simp))
            replace B2 := Lib.hid (cx2.at_ B2.out (by simp))
            replace CC := Lib.hid (CC.out.trans cx2)
            have B3 := Lib.hid (b_B3)
            clear hx2 cx2 b_B3
            go_upto_region 6 with fail
            rw [← Wx2.out]
            generalize x1.heap.size = b3 at *
            clear Wx2
            have z_B0_0 := cell_of B0.out 0
            have z_B0_1 := cell_of B0.out 1
            have z_B3_0 := cell_of B3.out 0
            have z_B3_1 := cell_of B3.out 1
            simp only [List.getElem?_toArray, List.getElem?_cons_succ, List.getElem?_cons_zero] at z_B0_0 z_B0_1 z_B3_0 z_B3_1
            go_wp2_with fail
            refine (LN.out _).mono ?_
            rintro e x3 ⟨rfl, ca⟩
            clear z_B0_0 z_B0_1 z_B3_0 z_B3_1
            replace B0 := Lib.hid (ca.at_ B0.out (by simp))
            replace B1 := Lib.hid (ca.at_ B1.out (by simp))
            replace B2 := Lib.hid (ca.at_ B2.out (by simp))
            replace B3 := Lib.hid (ca.at_ B3.out (by simp))
            replace CC := Lib.hid (CC.out.trans ca)
            clear ca
            have z_B0_0 := cell_of B0.out 0
            have z_B0_1 := cell_of B0.out 1
            have z_B1_0 := cell_of B1.out 0
            have z_B1_1 := cell_of B1.out 1
            simp only [List.getElem?_toArray, List.getElem?_cons_succ, List.getElem?_cons_zero] at z_B0_0 z_B0_1 z_B1_0 z_B1_1
            go_wp2_with fail
            refine (L0.out _).mono ?_
            rintro e x4 ⟨rfl, ca⟩
            clear z_B0_0 z_B0_1 z_B1_0 z_B1_1
            replace B0 := Lib.hid (ca.at_ B0.out (by simp))
            replace B1 := Lib.hid (ca.at_ B1.out (by simp))
            replace B2 := Lib.hid (ca.at_ B2.out (by simp))
            replace B3 := Lib.hid (ca.at_ B3.out (by simp))
            replace CC := Lib.hid (CC.out.trans ca)
            clear ca
            have z_B1_0 := cell_of B1.out 0
            have z_B1_1 := cell_of B1.out 1
            have z_B3_0 := cell_of B3.out 0
            have z_B3_1 := cell_of B3.out 1
            simp only [List.getElem?_toArray, List.getElem?_cons_succ, List.getElem?_cons_zero] at z_B1_0 z_B1_1 z_B3_0 z_B3_1
            go_wp2_with fail
            refine (LM.out _).mono ?_
            rintro e x5 ⟨rfl, ca⟩
            clear z_B1_0 z_B1_1 z_B3_0 z_B3_1
            replace B0 := Lib.hid (ca.at_ B0.out (by simp))
            replace B1 := Lib.hid (ca.at_ B1.out (by simp))
            replace B2 := Lib.hid (ca.at_ B2.out (by simp))
            replace B3 := Lib.hid (ca.at_ B3.out (by simp))
            replace CC := Lib.hid (CC.out.trans ca)
            clear ca
            have z_B3_0 := cell_of B3.out 0
            have z_B3_1 := cell_of B3.out 1
            simp only [List.getElem?_toArray, List.getElem?_cons_succ, List.getElem?_cons_zero] at z_B3_0 z_B3_1
            go_wp2_with fail
            refine (HCN.out _).mono ?_
            rintro e x6 ⟨rfl, ca⟩
            clear z_B3_0 z_B3_1
            replace B0 := Lib.hid (ca.at_ B0.out (by simp))
            replace B1 := Lib.hid (ca.at_ B1.out (by simp))
            replace B2 := Lib.hid (ca.at_ B2.out (by simp))
            replace B3 := Lib.hid (ca.at_ B3.out (by simp))
            replace CC := Lib.hid (CC.out.trans ca)
            clear ca
            go_wp2
            go_ret
            exact ⟨rfl, CC.out⟩
          · skip
            have hE : (nxE n0 s0 != 0) = true := by
              unfold nxE
              split
              · rename_i h
                by_cases hm : s0 = 2147483647
                · rw [if_pos hm]; rfl
                · exact absurd ⟨h, hm⟩ hf
              · rfl
            clear hf
            generalize nxN n0 s0 = x at *
            generalize nxS n0 s0 = y at *
            generalize nxE n0 s0 = z at *
            obtain ⟨x2, hx2, cx2, b_B3⟩ := news1 x1 (.cells #[.int .i64 x, .int .i64 y] 23)
            have Wx2 := Lib.hid hx2
            have l_B3 := lt_of_heap b_B3
            replace B0 := Lib.hid (cx2.at_ B0.out (by simp))
            replace B1 := Lib.hid (cx2.at_ B1.out (by simp))
            replace B2 := Lib.hid (cx2.at_ B2.out (by simp))
            replace CC := Lib.hid (CC.out.trans cx2)
            have B3 := Lib.hid (b_B3)
            clear hx2 cx2 b_B3
            go_upto_region 6 with fail
            rw [← Wx2.out]
            generalize x1.heap.size = b3 at *
            clear Wx2
            go_wp2
            go_ret
            exact ⟨rfl, CC.out⟩
    case XF =>
      subst hX
      refine (Bool.eq_false_or_eq_true Y).elim (fun hY => ?YT) (fun hY => ?YF)
      case YT =>
        subst hY
        have hq := HQ2.out (.inr rfl)
        by_cases hn : n0 = n1
        · have hs2 : (s0 == s1) = false := by have := fun h => hq ⟨hn, h⟩; simpa using this
          have hn2 : (n0 == n1) = true := by simpa using hn
          clear hq hn
          have z_B0_0 := cell_of B0.out 0
          have z_B0_1 := cell_of B0.out 1
          have z_B1_0 := cell_of B1.out 0
          have z_B1_1 := cell_of B1.out 1
          simp only [List.getElem?_toArray, List.getElem?_cons_succ, List.getElem?_cons_zero] at z_B0_0 z_B0_1 z_B1_0 z_B1_1
          go_upto_region 5 with fail
          clear z_B0_0 z_B0_1 z_B1_0 z_B1_1
          clear HC1 HC2 HQ HQ2
          have z_B0_0 := cell_of B0.out 0
          have z_B0_1 := cell_of B0.out 1
          simp only [List.getElem?_toArray, List.getElem?_cons_succ, List.getElem?_cons_zero] at z_B0_0 z_B0_1
          go_wp2_with fail
          refine (NX.out _).mono ?_
          rintro e x1 ⟨rfl, ca⟩
          clear z_B0_0 z_B0_1
          replace B0 := Lib.hid (ca.at_ B0.out (by simp))
          replace B1 := Lib.hid (ca.at_ B1.out (by simp))
          replace B2 := Lib.hid (ca.at_ B2.out (by simp))
          replace CC := Lib.hid (CC.out.trans ca)
          clear ca
          by_cases hf : FineD n0 s0 ∧ s0 ≠ 2147483647
          · obtain ⟨e1, e2, e3⟩ := HN.out hf
            rw [show nxN n0 s0 = n0 from if_pos hf, show nxS n0 s0 = s0 + 1 from if_pos hf, show nxE n0 s0 = 0 by unfold nxE; rw [if_pos hf.1, if_neg hf.2]]
            clear hf
            subst e1 e3
            clear e2
            obtain ⟨x2, hx2, cx2, b_B3⟩ := news1 x1 (.cells #[.int .i64 n0, .int .i64 (s0 + 1)] 23)
            have Wx2 := Lib.hid hx2
            have l_B3 := lt_of_heap b_B3
            replace B0 := Lib.hid (cx2.at_ B0.out (by simp))
            replace B1 := Lib.hid (cx2.at_ B1.out (by simp))
            replace B2 := Lib.hid (cx2.at_ B2.out (by simp))
            replace CC := Lib.hid (CC.out.trans cx2)
            have B3 := Lib.hid (b_B3)
            clear hx2 cx2 b_B3
            go_upto_region 6 with fail
            rw [← Wx2.out]
            generalize x1.heap.size = b3 at *
            clear Wx2
            have z_B0_0 := cell_of B0.out 0
            have z_B0_1 := cell_of B0.out 1
            have z_B3_0 := cell_of B3.out 0
            have z_B3_1 := cell_of B3.out 1
            simp only [List.getElem?_toArray, List.getElem?_cons_succ, List.getElem?_cons_zero] at z_B0_0 z_B0_1 z_B3_0 z_B3_1
            go_wp2_with fail
            refine (LN.out _).mono ?_
            rintro e x3 ⟨rfl, ca⟩
            clear z_B0_0 z_B0_1 z_B3_0 z_B3_1
            replace B0 := Lib.hid (ca.at_ B0.out (by simp))
            replace B1 := Lib.hid (ca.at_ B1.out (by simp))
            replace B2 := Lib.hid (ca.at_ B2.out (by simp))
            replace B3 := Lib.hid (ca.at_ B3.out (by simp))
            replace CC := Lib.hid (CC.out.trans ca)
            clear ca
            have z_B0_0 := cell_of B0.out 0
            have z_B0_1 := cell_of B0.out 1
            have z_B1_0 := cell_of B1.out 0
            have z_B1_1 := cell_of B1.out 1
            simp only [List.getElem?_toArray, List.getElem?_cons_succ, List.getElem?_cons_zero] at z_B0_0 z_B0_1 z_B1_0 z_B1_1
            go_wp2_with fail
            refine (L0.out _).mono ?_
            rintro e x4 ⟨rfl, ca⟩
            clear z_B0_0 z_B0_1 z_B1_0 z_B1_1
            replace B0 := Lib.hid (ca.at_ B0.out (by simp))
            replace B1 := Lib.hid (ca.at_ B1.out (by simp))
            replace B2 := Lib.hid (ca.at_ B2.out (by simp))
            replace B3 := Lib.hid (ca.at_ B3.out (by simp))
            replace CC := Lib.hid (CC.out.trans ca)
            clear ca
            have z_B3_0 := cell_of B3.out 0
            have z_B3_1 := cell_of B3.out 1
            simp only [List.getElem?_toArray, List.getElem?_cons_succ, List.getElem?_cons_zero] at z_B3_0 z_B3_1
            go_wp2_with fail
            refine (HCN.out _).mono ?_
            rintro e x6 ⟨rfl, ca⟩
            clear z_B3_0 z_B3_1
            replace B0 := Lib.hid (ca.at_ B0.out (by simp))
            replace B1 := Lib.hid (ca.at_ B1.out (by simp))
            replace B2 := Lib.hid (ca.at_ B2.out (by simp))
            replace B3 := Lib.hid (ca.at_ B3.out (by simp))
            replace CC := Lib.hid (CC.out.trans ca)
            clear ca
            go_wp2
            go_ret
            exact ⟨rfl, CC.out⟩
          · skip
            have hE : (nxE n0 s0 != 0) = true := by
              unfold nxE
              split
              · rename_i h
                by_cases hm : s0 = 2147483647
                · rw [if_pos hm]; rfl
                · exact absurd ⟨h, hm⟩ hf
              · rfl
            clear hf
            generalize nxN n0 s0 = x at *
            generalize nxS n0 s0 = y at *
            generalize nxE n0 s0 = z at *
            obtain ⟨x2, hx2, cx2, b_B3⟩ := news1 x1 (.cells #[.int .i64 x, .int .i64 y] 23)
            have Wx2 := Lib.hid hx2
            have l_B3 := lt_of_heap b_B3
            replace B0 := Lib.hid (cx2.at_ B0.out (by simp))
            replace B1 := Lib.hid (cx2.at_ B1.out (by simp))
            replace B2 := Lib.hid (cx2.at_ B2.out (by simp))
            replace CC := Lib.hid (CC.out.trans cx2)
            have B3 := Lib.hid (b_B3)
            clear hx2 cx2 b_B3
            go_upto_region 6 with fail
            rw [← Wx2.out]
            generalize x1.heap.size = b3 at *
            clear Wx2
            go_wp2
            go_ret
            exact ⟨rfl, CC.out⟩
        · have hn2 : (n0 == n1) = false := by simpa using hn
          clear hq hn
          have z_B0_0 := cell_of B0.out 0
          have z_B0_1 := cell_of B0.out 1
          have z_B1_0 := cell_of B1.out 0
          have z_B1_1 := cell_of B1.out 1
          simp only [List.getElem?_toArray, List.getElem?_cons_succ, List.getElem?_cons_zero] at z_B0_0 z_B0_1 z_B1_0 z_B1_1
          go_upto_region 5 with fail
          clear z_B0_0 z_B0_1 z_B1_0 z_B1_1
          clear HC1 HC2 HQ HQ2
          have z_B0_0 := cell_of B0.out 0
          have z_B0_1 := cell_of B0.out 1
          simp only [List.getElem?_toArray, List.getElem?_cons_succ, List.getElem?_cons_zero] at z_B0_0 z_B0_1
          go_wp2_with fail
          refine (NX.out _).mono ?_
          rintro e x1 ⟨rfl, ca⟩
          clear z_B0_0 z_B0_1
          replace B0 := Lib.hid (ca.at_ B0.out (by simp))
          replace B1 := Lib.hid (ca.at_ B1.out (by simp))
          replace B2 := Lib.hid (ca.at_ B2.out (by simp))
          replace CC := Lib.hid (CC.out.trans ca)
          clear ca
          by_cases hf : FineD n0 s0 ∧ s0 ≠ 2147483647
          · obtain ⟨e1, e2, e3⟩ := HN.out hf
            rw [show nxN n0 s0 = n0 from if_pos hf, show nxS n0 s0 = s0 + 1 from if_pos hf, show nxE n0 s0 = 0 by unfold nxE; rw [if_pos hf.1, if_neg hf.2]]
            clear hf
            subst e1 e3
            clear e2
            obtain ⟨x2, hx2, cx2, b_B3⟩ := news1 x1 (.cells #[.int .i64 n0, .int .i64 (s0 + 1)] 23)
            have Wx2 := Lib.hid hx2
            have l_B3 := lt_of_heap b_B3
            replace B0 := Lib.hid (cx2.at_ B0.out (by simp))
            replace B1 := Lib.hid (cx2.at_ B1.out (by simp))
            replace B2 := Lib.hid (cx2.at_ B2.out (by simp))
            replace CC := Lib.hid (CC.out.trans cx2)
            have B3 := Lib.hid (b_B3)
            clear hx2 cx2 b_B3
            go_upto_region 6 with fail
            rw [← Wx2.out]
            generalize x1.heap.size = b3 at *
            clear Wx2
            have z_B0_0 := cell_of B0.out 0
            have z_B0_1 := cell_of B0.out 1
            have z_B3_0 := cell_of B3.out 0
            have z_B3_1 := cell_of B3.out 1
            simp only [List.getElem?_toArray, List.getElem?_cons_succ, List.getElem?_cons_zero] at z_B0_0 z_B0_1 z_B3_0 z_B3_1
            go_wp2_with fail
            refine (LN.out _).mono ?_
            rintro e x3 ⟨rfl, ca⟩
            clear z_B0_0 z_B0_1 z_B3_0 z_B3_1
            replace B0 := Lib.hid (ca.at_ B0.out (by simp))
            replace B1 := Lib.hid (ca.at_ B1.out (by simp))
            replace B2 := Lib.hid (ca.at_ B2.out (by simp))
            replace B3 := Lib.hid (ca.at_ B3.out (by simp))
            replace CC := Lib.hid (CC.out.trans ca)
            clear ca
            have z_B0_0 := cell_of B0.out 0
            have z_B0_1 := cell_of B0.out 1
            have z_B1_0 := cell_of B1.out 0
            have z_B1_1 := cell_of B1.out 1
            simp only [List.getElem?_toArray, List.getElem?_cons_succ, List.getElem?_cons_zero] at z_B0_0 z_B0_1 z_B1_0 z_B1_1
            go_wp2_with fail
            refine (L0.out _).mono ?_
            rintro e x4 ⟨rfl, ca⟩
            clear z_B0_0 z_B0_1 z_B1_0 z_B1_1
            replace B0 := Lib.hid (ca.at_ B0.out (by simp))
            replace B1 := Lib.hid (ca.at_ B1.out (by simp))
            replace B2 := Lib.hid (ca.at_ B2.out (by simp))
            replace B3 := Lib.hid (ca.at_ B3.out (by simp))
            replace CC := Lib.hid (CC.out.trans ca)
            clear ca
            have z_B3_0 := cell_of B3.out 0
            have z_B3_1 := cell_of B3.out 1
            simp only [List.getElem?_toArray, List.getElem?_cons_succ, List.getElem?_cons_zero] at z_B3_0 z_B3_1
            go_wp2_with fail
            refine (HCN.out _).mono ?_
            rintro e x6 ⟨rfl, ca⟩
            clear z_B3_0 z_B3_1
            replace B0 := Lib.hid (ca.at_ B0.out (by simp))
            replace B1 := Lib.hid (ca.at_ B1.out (by simp))
            replace B2 := Lib.hid (ca.at_ B2.out (by simp))
            replace B3 := Lib.hid (ca.at_ B3.out (by simp))
            replace CC := Lib.hid (CC.out.trans ca)
            clear ca
            go_wp2
            go_ret
            exact ⟨rfl, CC.out⟩
          · skip
            have hE : (nxE n0 s0 != 0) = true := by
              unfold nxE
              split
              · rename_i h
                by_cases hm : s0 = 2147483647
                · rw [if_pos hm]; rfl
                · exact absurd ⟨h, hm⟩ hf
              · rfl
            clear hf
            generalize nxN n0 s0 = x at *
            generalize nxS n0 s0 = y at *
            generalize nxE n0 s0 = z at *
            obtain ⟨x2, hx2, cx2, b_B3⟩ := news1 x1 (.cells #[.int .i64 x, .int .i64 y] 23)
            have Wx2 := Lib.hid hx2
            have l_B3 := lt_of_heap b_B3
            replace B0 := Lib.hid (cx2.at_ B0.out (by simp))
            replace B1 := Lib.hid (cx2.at_ B1.out (by simp))
            replace B2 := Lib.hid (cx2.at_ B2.out (by simp))
            replace CC := Lib.hid (CC.out.trans cx2)
            have B3 := Lib.hid (b_B3)
            clear hx2 cx2 b_B3
            go_upto_region 6 with fail
            rw [← Wx2.out]
            generalize x1.heap.size = b3 at *
            clear Wx2
            go_wp2
            go_ret
            exact ⟨rfl, CC.out⟩
      case YF =>
        subst hY
        obtain ⟨h1, h2⟩ := HQ.out rfl rfl
        have hn2 : (n0 == n1) = true := by simpa using h1
        have hs2 : (s0 == s1) = true := by simpa using h2
        clear h1 h2
        have z_B0_0 := cell_of B0.out 0
        have z_B0_1 := cell_of B0.out 1
        have z_B1_0 := cell_of B1.out 0
        have z_B1_1 := cell_of B1.out 1
        simp only [List.getElem?_toArray, List.getElem?_cons_succ, List.getElem?_cons_zero] at z_B0_0 z_B0_1 z_B1_0 z_B1_1
        go_upto_region 5 with fail
        clear z_B0_0 z_B0_1 z_B1_0 z_B1_1
        clear HC1 HC2 HQ HQ2
        have z_B0_0 := cell_of B0.out 0
        have z_B0_1 := cell_of B0.out 1
        simp only [List.getElem?_toArray, List.getElem?_cons_succ, List.getElem?_cons_zero] at z_B0_0 z_B0_1
        go_wp2_with fail
        refine (NX.out _).mono ?_
        rintro e x1 ⟨rfl, ca⟩
        clear z_B0_0 z_B0_1
        replace B0 := Lib.hid (ca.at_ B0.out (by simp))
        replace B1 := Lib.hid (ca.at_ B1.out (by simp))
        replace B2 := Lib.hid (ca.at_ B2.out (by simp))
        replace CC := Lib.hid (CC.out.trans ca)
        clear ca
        by_cases hf : FineD n0 s0 ∧ s0 ≠ 2147483647
        · obtain ⟨e1, e2, e3⟩ := HN.out hf
          rw [show nxN n0 s0 = n0 from if_pos hf, show nxS n0 s0 = s0 + 1 from if_pos hf, show nxE n0 s0 = 0 by unfold nxE; rw [if_pos hf.1, if_neg hf.2]]
          clear hf
          subst e1 e3
          clear e2
          obtain ⟨x2, hx2, cx2, b_B3⟩ := news1 x1 (.cells #[.int .i64 n0, .int .i64 (s0 + 1)] 23)
          have Wx2 := Lib.hid hx2
          have l_B3 := lt_of_heap b_B3
          replace B0 := Lib.hid (cx2.at_ B0.out (by simp))
          replace B1 := Lib.hid (cx2.at_ B1.out (by simp))
          replace B2 := Lib.hid (cx2.at_ B2.out (by simp))
          replace CC := Lib.hid (CC.out.trans cx2)
          have B3 := Lib.hid (b_B3)
          clear hx2 cx2 b_B3
          go_upto_region 6 with fail
          rw [← Wx2.out]
          generalize x1.heap.size = b3 at *
          clear Wx2
          have z_B0_0 := cell_of B0.out 0
          have z_B0_1 := cell_of B0.out 1
          have z_B3_0 := cell_of B3.out 0
          have z_B3_1 := cell_of B3.out 1
          simp only [List.getElem?_toArray, List.getElem?_cons_succ, List.getElem?_cons_zero] at z_B0_0 z_B0_1 z_B3_0 z_B3_1
          go_wp2_with fail
          refine (LN.out _).mono ?_
          rintro e x3 ⟨rfl, ca⟩
          clear z_B0_0 z_B0_1 z_B3_0 z_B3_1
          replace B0 := Lib.hid (ca.at_ B0.out (by simp))
          replace B1 := Lib.hid (ca.at_ B1.out (by simp))
          replace B2 := Lib.hid (ca.at_ B2.out (by simp))
          replace B3 := Lib.hid (ca.at_ B3.out (by simp))
          replace CC := Lib.hid (CC.out.trans ca)
          clear ca
          have z_B0_0 := cell_of B0.out 0
          have z_B0_1 := cell_of B0.out 1
          have z_B1_0 := cell_of B1.out 0
          have z_B1_1 := cell_of B1.out 1
          simp only [List.getElem?_toArray, List.getElem?_cons_succ, List.getElem?_cons_zero] at z_B0_0 z_B0_1 z_B1_0 z_B1_1
          go_wp2_with fail
          refine (L0.out _).mono ?_
          rintro e x4 ⟨rfl, ca⟩
          clear z_B0_0 z_B0_1 z_B1_0 z_B1_1
          replace B0 := Lib.hid (ca.at_ B0.out (by simp))
          replace B1 := Lib.hid (ca.at_ B1.out (by simp))
          replace B2 := Lib.hid (ca.at_ B2.out (by simp))
          replace B3 := Lib.hid (ca.at_ B3.out (by simp))
          replace CC := Lib.hid (CC.out.trans ca)
          clear ca
          have z_B3_0 := cell_of B3.out 0
          have z_B3_1 := cell_of B3.out 1
          simp only [List.getElem?_toArray, List.getElem?_cons_succ, List.getElem?_cons_zero] at z_B3_0 z_B3_1
          go_wp2_with fail
          refine (HCN.out _).mono ?_
          rintro e x6 ⟨rfl, ca⟩
          clear z_B3_0 z_B3_1
          replace B0 := Lib.hid (ca.at_ B0.out (by simp))
          replace B1 := Lib.hid (ca.at_ B1.out (by simp))
          replace B2 := Lib.hid (ca.at_ B2.out (by simp))
          replace B3 := Lib.hid (ca.at_ B3.out (by simp))
          replace CC := Lib.hid (CC.out.trans ca)
          clear ca
          go_wp2
          go_ret
          exact ⟨rfl, CC.out⟩
        · skip
          have hE : (nxE n0 s0 != 0) = true := by
            unfold nxE
            split
            · rename_i h
              by_cases hm : s0 = 2147483647
              · rw [if_pos hm]; rfl
              · exact absurd ⟨h, hm⟩ hf
            · rfl
          clear hf
          generalize nxN n0 s0 = x at *
          generalize nxS n0 s0 = y at *
          generalize nxE n0 s0 = z at *
          obtain ⟨x2, hx2, cx2, b_B3⟩ := news1 x1 (.cells #[.int .i64 x, .int .i64 y] 23)
          have Wx2 := Lib.hid hx2
          have l_B3 := lt_of_heap b_B3
          replace B0 := Lib.hid (cx2.at_ B0.out (by simp))
          replace B1 := Lib.hid (cx2.at_ B1.out (by simp))
          replace B2 := Lib.hid (cx2.at_ B2.out (by simp))
          replace CC := Lib.hid (CC.out.trans cx2)
          have B3 := Lib.hid (b_B3)
          clear hx2 cx2 b_B3
          go_upto_region 6 with fail
          rw [← Wx2.out]
          generalize x1.heap.size = b3 at *
          clear Wx2
          go_wp2
          go_ret
          exact ⟨rfl, CC.out⟩
end Go.Proofs.YtmcnfopiilplnaaDoor
