/- DotBack. -/
import Derived.Test.YtmcnfopiilplnaaDoorDknown
import Derived.Test.YtmcnfopiilplnaaDoorDbmath
import Derived.Deep.Cut
namespace Go.Proofs.YtmcnfopiilplnaaDoor
open Go.RowKit Go.Lib
set_option linter.unusedSimpArgs false
set_option linter.unusedVariables false


theorem textO_str {n s : Int} (h : FineD n s) : (strOf (textO n s)).data.toList = dotT n s := by rw [textO_fine h, strOf_data]
theorem dotT_small {n s : Int} (h : FineD n s) : (strOf (dotT n s)).size ≤ 140737488351232 := by
  rw [strOf_size]
  have h1 := dec_len (v := n.toNat) (by have := h.2.1; omega)
  have h2 := dec_len (v := s.toNat) (by have := h.2.2.2; omega)
  simp [dotT]; omega

set_option maxHeartbeats 16000000 in
set_option maxRecDepth 100000 in
theorem dback_yes (w : World) (n0 s0 n1 s1 : Int) (A : Option Addr) (m c : Nat) (xs : List UInt8) (h : Bs w A m xs) (hm : m ≤ 140737488351232) (hmc : m ≤ c) (hcx : c ≤ 9223372036854775807) (z : ByteArray) (hz : z.size ≤ 140737488351232) (hT : TabD w) :
    Calls Tryd.prog 7 #[.agg #[.int .i64 n0, .int .i64 s0], .agg #[.int .i64 n1, .int .i64 s1], .slice A m c, .string z] w fun r w' => r = .returned (.bool true) ∧ Chg [] w w' := by
  have hl := h.len
  subst hl
  have HT := Lib.hid hT
  have HB := Lib.hid h
  clear hT h
  have C := Lib.hid (Chg.refl [] w)
  obtain ⟨w1, hw1, cw1, b_B0, b_B1⟩ := news2 w (.cells #[.int .i64 n0, .int .i64 s0] 23) (.cells #[.int .i64 n1, .int .i64 s1] 23)
  have Ww1 := Lib.hid hw1
  have l_B0 := lt_of_heap b_B0
  have l_B1 := lt_of_heap b_B1
  replace C := Lib.hid (C.out.trans cw1)
  have B0 := Lib.hid (b_B0)
  have B1 := Lib.hid (b_B1)
  clear hw1 cw1 b_B0 b_B1
  go_enter Tryd.func7, Tryd.ntmps7
  go_wp2_with fail
  rw [← Ww1.out]
  generalize w.heap.size + 1 = b1 at *
  generalize w.heap.size = b0 at *
  clear Ww1
  refine (dknown_yes _ (HT.out.chg C.out)).mono ?_
  rintro e w2 ⟨rfl, ca⟩
  replace B0 := Lib.hid (ca.at_ B0.out (by simp))
  replace B1 := Lib.hid (ca.at_ B1.out (by simp))
  replace C := Lib.hid (C.out.trans ca)
  clear ca
  by_cases hx : 40 < xs.length
  · skip
    go_wp2
    go_ret
    exact ⟨rfl, C.out⟩
  by_cases hy : 60 < z.size
  · skip
    go_wp2
    go_ret
    exact ⟨rfl, C.out⟩
  have z_B0_0 := cell_of B0.out 0
  have z_B0_1 := cell_of B0.out 1
  simp only [List.getElem?_toArray, List.getElem?_cons_succ, List.getElem?_cons_zero] at z_B0_0 z_B0_1
  go_wp2_with fail
  refine (dbytes_any _ n0 s0).mono ?_
  rintro e w3 ⟨A1, c1, rfl, ca⟩
  clear z_B0_0 z_B0_1
  replace B0 := Lib.hid (ca.2.2.at_ B0.out (by simp))
  replace B1 := Lib.hid (ca.2.2.at_ B1.out (by simp))
  replace C := Lib.hid (C.out.trans ca.2.2)
  have F1 := Lib.hid ca.1
  clear ca
  have z_B1_0 := cell_of B1.out 0
  have z_B1_1 := cell_of B1.out 1
  simp only [List.getElem?_toArray, List.getElem?_cons_succ, List.getElem?_cons_zero] at z_B1_0 z_B1_1
  go_wp2_with fail
  refine (dbytes_any _ n1 s1).mono ?_
  rintro e w4 ⟨A2, c2, rfl, ca⟩
  clear z_B1_0 z_B1_1
  replace B0 := Lib.hid (ca.2.2.at_ B0.out (by simp))
  replace B1 := Lib.hid (ca.2.2.at_ B1.out (by simp))
  replace C := Lib.hid (C.out.trans ca.2.2)
  replace F1 := Lib.hid (F1.out.chg ca.2.2 (by simp))
  have F2 := Lib.hid ca.1
  clear ca
  have z_B0_0 := cell_of B0.out 0
  have z_B0_1 := cell_of B0.out 1
  simp only [List.getElem?_toArray, List.getElem?_cons_succ, List.getElem?_cons_zero] at z_B0_0 z_B0_1
  go_wp2_with fail
  refine (dtext_any _ n0 s0 (HT.out.chg C.out)).mono ?_
  rintro e w5 ⟨rfl, ca⟩
  clear z_B0_0 z_B0_1
  replace B0 := Lib.hid (ca.at_ B0.out (by simp))
  replace B1 := Lib.hid (ca.at_ B1.out (by simp))
  replace C := Lib.hid (C.out.trans ca)
  replace F1 := Lib.hid (F1.out.chg ca (by simp))
  replace F2 := Lib.hid (F2.out.chg ca (by simp))
  clear ca
  have z_B0_0 := cell_of B0.out 0
  have z_B0_1 := cell_of B0.out 1
  simp only [List.getElem?_toArray, List.getElem?_cons_succ, List.getElem?_cons_zero] at z_B0_0 z_B0_1
  go_wp2_with fail
  refine (dcheck_any _ n0 s0).mono ?_
  rintro e w6 ⟨rfl, ca⟩
  clear z_B0_0 z_B0_1
  replace B0 := Lib.hid (ca.at_ B0.out (by simp))
  replace B1 := Lib.hid (ca.at_ B1.out (by simp))
  replace C := Lib.hid (C.out.trans ca)
  replace F1 := Lib.hid (F1.out.chg ca (by simp))
  replace F2 := Lib.hid (F2.out.chg ca (by simp))
  clear ca
  have z_B1_0 := cell_of B1.out 0
  have z_B1_1 := cell_of B1.out 1
  simp only [List.getElem?_toArray, List.getElem?_cons_succ, List.getElem?_cons_zero] at z_B1_0 z_B1_1
  go_wp2_with fail
  refine (dcheck_any _ n1 s1).mono ?_
  rintro e w7 ⟨rfl, ca⟩
  clear z_B1_0 z_B1_1
  replace B0 := Lib.hid (ca.at_ B0.out (by simp))
  replace B1 := Lib.hid (ca.at_ B1.out (by simp))
  replace C := Lib.hid (C.out.trans ca)
  replace F1 := Lib.hid (F1.out.chg ca (by simp))
  replace F2 := Lib.hid (F2.out.chg ca (by simp))
  clear ca
  refine (Decidable.em (FineD n0 s0)).elim (fun hf => ?P1) (fun hf => ?P0)
  case' P0 =>
    rw [chkD_odd hf]
    clear hf
    go_upto_region 14 with fail
    clear l_B0 l_B1
    clear F1 F2 B0 B1
    generalize w7 = W at *
  case' P1 =>
    rw [chkD_fine hf]
    have HF := Lib.hid hf
    replace F1 := Lib.hid (by have := F1.out; rwa [dotO_fine hf] at this : OwnB w7 A1 c1 (dotB n0 s0))
    have hlen : (dotO n0 s0).length = 5 := by rw [dotO_fine hf, dotB_len]
    rw [hlen]
    have ht : strOf (textO n0 s0) = strOf (dotT n0 s0) := by rw [textO_fine hf]
    rw [ht]
    clear hf hlen ht
    go_wp2_with fail
    have r1 := dread_any w7 A1 5 c1 (dotB n0 s0) (by have := F1.out.reads; rwa [dotB_len] at this) (by omega) (by have := F1.out.cap; rw [dotB_len] at this; exact this.1) (by have := F1.out.cap.2; unfold maxLen at this; exact this)
    rw [readD_back HF.out] at r1
    refine (r1).mono ?_
    rintro e w8 ⟨rfl, ca⟩
    replace B0 := Lib.hid (ca.at_ B0.out (by simp))
    replace B1 := Lib.hid (ca.at_ B1.out (by simp))
    replace C := Lib.hid (C.out.trans ca)
    replace F1 := Lib.hid (F1.out.chg ca (by simp))
    replace F2 := Lib.hid (F2.out.chg ca (by simp))
    clear ca r1
    obtain ⟨w9, hw9, cw9, b_B2, b_B3⟩ := news2 w8 (.cells #[.int .i64 n0, .int .i64 s0] 23) (.cells #[.int .i64 0, .int .i64 0] 40)
    have Ww9 := Lib.hid hw9
    have l_B2 := lt_of_heap b_B2
    have l_B3 := lt_of_heap b_B3
    replace B0 := Lib.hid (cw9.at_ B0.out (by simp))
    replace B1 := Lib.hid (cw9.at_ B1.out (by simp))
    replace C := Lib.hid (C.out.trans cw9)
    replace F1 := Lib.hid (F1.out.chg cw9 (by simp))
    replace F2 := Lib.hid (F2.out.chg cw9 (by simp))
    have B2 := Lib.hid (b_B2)
    have B3 := Lib.hid (b_B3)
    clear hw9 cw9 b_B2 b_B3
    go_wp2_with fail
    rw [← Ww9.out]
    generalize w8.heap.size + 1 = b3 at *
    generalize w8.heap.size = b2 at *
    clear Ww9
    have r1 := dparse_any w9 (strOf (dotT n0 s0)) (dotT_small HF.out) (HT.out.chg C.out)
    rw [strOf_data, parseD_text HF.out] at r1
    refine (r1).mono ?_
    rintro e wa ⟨rfl, ca⟩
    replace B0 := Lib.hid (ca.at_ B0.out (by simp))
    replace B1 := Lib.hid (ca.at_ B1.out (by simp))
    replace B2 := Lib.hid (ca.at_ B2.out (by simp))
    replace B3 := Lib.hid (ca.at_ B3.out (by simp))
    replace C := Lib.hid (C.out.trans ca)
    replace F1 := Lib.hid (F1.out.chg ca (by simp))
    replace F2 := Lib.hid (F2.out.chg ca (by simp))
    clear ca r1
    obtain ⟨wb, hwb, cwb, b_B4⟩ := news1 wa (.cells #[.int .i64 n0, .int .i64 s0] 23)
    have Wwb := Lib.hid hwb
    have l_B4 := lt_of_heap b_B4
    replace B0 := Lib.hid (cwb.at_ B0.out (by simp))
    replace B1 := Lib.hid (cwb.at_ B1.out (by simp))
    replace B2 := Lib.hid (cwb.at_ B2.out (by simp))
    replace B3 := Lib.hid (cwb.at_ B3.out (by simp))
    replace C := Lib.hid (C.out.trans cwb)
    replace F1 := Lib.hid (F1.out.chg cwb (by simp))
    replace F2 := Lib.hid (F2.out.chg cwb (by simp))
    have B4 := Lib.hid (b_B4)
    clear hwb cwb b_B4
    go_upto_region 12 with fail
    rw [← Wwb.out]
    generalize wa.heap.size = b4 at *
    clear Wwb
    generalize strOf (dotT n0 s0) = TX at *
    refine (Decidable.em (FineD n1 s1)).elim (fun hg => ?Q1) (fun hg => ?Q0)
    case' Q1 =>
      rw [chkD_fine hg]
      have hls := less_dot HF.out hg
      replace F2 := Lib.hid (by have := F2.out; rwa [dotO_fine hg] at this : OwnB wb A2 c2 (dotB n1 s1))
      have hlen : (dotO n1 s1).length = 5 := by rw [dotO_fine hg, dotB_len]
      rw [hlen]
      have HS1 := Lib.hid (fun (w' : World) (hc : Chg [] wb w') => run_str w' (c := c1) (n := 5) (by have := (F1.out.chg hc (by simp)).reads; rwa [dotB_len] at this))
      have HS2 := Lib.hid (fun (w' : World) (hc : Chg [] wb w') => run_str w' (c := c2) (n := 5) (by have := (F2.out.chg hc (by simp)).reads; rwa [dotB_len] at this))
      have LS := Lib.hid (fun w => dless_any w n0 s0 n1 s1)
      generalize decide (LtD n0 s0 n1 s1) = X at *
      clear hg hlen
      have hk : ∀ w', Chg [] wb w' → w'.cell? ⟨b0, 0, none⟩ = some (.int .i64 n0) ∧ w'.cell? ⟨b0, 1, none⟩ = some (.int .i64 s0) ∧ w'.cell? ⟨b1, 0, none⟩ = some (.int .i64 n1) ∧ w'.cell? ⟨b1, 1, none⟩ = some (.int .i64 s1) ∧ w'.cell? ⟨b2, 0, none⟩ = some (.int .i64 n0) ∧ w'.cell? ⟨b2, 1, none⟩ = some (.int .i64 s0) ∧ w'.cell? ⟨b3, 0, none⟩ = some (.int .i64 0) ∧ w'.cell? ⟨b4, 0, none⟩ = some (.int .i64 n0) ∧ w'.cell? ⟨b4, 1, none⟩ = some (.int .i64 s0) ∧ (convert 35 9 (.slice A1 5 c1)).run Tryd.prog w' = .ok (.string (strOf (dotB n0 s0))) w' ∧ (convert 35 9 (.slice A2 5 c2)).run Tryd.prog w' = .ok (.string (strOf (dotB n1 s1))) w' ∧ Chg [] wb w' := by
        intro w' hc
        have b_B0 := hc.at_ B0.out (by simp)
        have b_B1 := hc.at_ B1.out (by simp)
        have b_B2 := hc.at_ B2.out (by simp)
        have b_B3 := hc.at_ B3.out (by simp)
        have b_B4 := hc.at_ B4.out (by simp)
        exact ⟨cell_of b_B0 0, cell_of b_B0 1, cell_of b_B1 0, cell_of b_B1 1, cell_of b_B2 0, cell_of b_B2 1, cell_of b_B3 0, cell_of b_B4 0, cell_of b_B4 1, HS1.out w' hc, HS2.out w' hc, hc⟩
      have HK := Lib.hid hk
      clear hk
      go_region_held3 (fun w' => w'.cell? ⟨b0, 0, none⟩ = some (.int .i64 n0) ∧ w'.cell? ⟨b0, 1, none⟩ = some (.int .i64 s0) ∧ w'.cell? ⟨b1, 0, none⟩ = some (.int .i64 n1) ∧ w'.cell? ⟨b1, 1, none⟩ = some (.int .i64 s1) ∧ w'.cell? ⟨b2, 0, none⟩ = some (.int .i64 n0) ∧ w'.cell? ⟨b2, 1, none⟩ = some (.int .i64 s0) ∧ w'.cell? ⟨b3, 0, none⟩ = some (.int .i64 0) ∧ w'.cell? ⟨b4, 0, none⟩ = some (.int .i64 n0) ∧ w'.cell? ⟨b4, 1, none⟩ = some (.int .i64 s0) ∧ (convert 35 9 (.slice A1 5 c1)).run Tryd.prog w' = .ok (.string (strOf (dotB n0 s0))) w' ∧ (convert 35 9 (.slice A2 5 c2)).run Tryd.prog w' = .ok (.string (strOf (dotB n1 s1))) w' ∧ Chg [] wb w')
        (first | exact HK.out _ hC | exact HK.out _ (Chg.refl [] wb).drew | (have hC := (‹_ ∧ _ ∧ _ ∧ _ ∧ _ ∧ _ ∧ _ ∧ _ ∧ _ ∧ _ ∧ _ ∧ Chg [] wb _›).2.2.2.2.2.2.2.2.2.2.2; exact HK.out _ hC))
        (((have hC := (‹_ ∧ _ ∧ _ ∧ _ ∧ _ ∧ _ ∧ _ ∧ _ ∧ _ ∧ _ ∧ _ ∧ Chg [] wb _›).2.2.2.2.2.2.2.2.2.2.2); (go_at_call 19; (with_reducible refine (LS.out _).mono ?_); rintro e w9 ⟨rfl, hc⟩; have hC := hC.trans hc)))
      all_goals
        have hC := (‹_ ∧ _ ∧ _ ∧ _ ∧ _ ∧ _ ∧ _ ∧ _ ∧ _ ∧ _ ∧ _ ∧ Chg [] wb _›).2.2.2.2.2.2.2.2.2.2.2
        replace C := Lib.hid (C.out.trans hC)
        generalize w9 = W at *
        go_upto_region 14 with fail
        clear B0 B1 B2 B3 B4 F1 F2 HF HK HS1 HS2 LS hls l_B0 l_B1 l_B2 l_B3 l_B4
    case' Q0 =>
      rw [chkD_odd hg]
      clear hg
      have z_B0_0 := cell_of B0.out 0
      have z_B0_1 := cell_of B0.out 1
      have z_B1_0 := cell_of B1.out 0
      have z_B1_1 := cell_of B1.out 1
      have z_B2_0 := cell_of B2.out 0
      have z_B2_1 := cell_of B2.out 1
      have z_B3_0 := cell_of B3.out 0
      have z_B4_0 := cell_of B4.out 0
      have z_B4_1 := cell_of B4.out 1
      simp only [List.getElem?_toArray, List.getElem?_cons_succ, List.getElem?_cons_zero] at z_B0_0 z_B0_1 z_B1_0 z_B1_1 z_B2_0 z_B2_1 z_B3_0 z_B4_0 z_B4_1
      go_quiet (fail)
      clear z_B0_0 z_B0_1 z_B1_0 z_B1_1 z_B2_0 z_B2_1 z_B3_0 z_B4_0 z_B4_1
      replace C := Lib.hid (C.out.drewN nq)
      generalize wb.drewN nq = W at *
      go_upto_region 14 with fail
      clear B0 B1 B2 B3 B4 F1 F2 HF l_B0 l_B1 l_B2 l_B3 l_B4
  all_goals
    go_wp2_with fail
    refine (dread_any _ A _ c xs (HB.out.chg C.out (by simp)) hm hmc hcx).mono ?_
    rintro e v1 ⟨rfl, ca⟩
    replace C := Lib.hid (C.out.trans ca)
    clear ca
    obtain ⟨v2, hv2, cv2, b_D0, b_D1⟩ := news2 v1 (.cells #[.int .i64 (readD xs).1.1, .int .i64 (readD xs).1.2] 23) (.cells #[.int .i64 (readD xs).2.1, .int .i64 (readD xs).2.2] 40)
    have Wv2 := Lib.hid hv2
    have l_D0 := lt_of_heap b_D0
    have l_D1 := lt_of_heap b_D1
    replace C := Lib.hid (C.out.trans cv2)
    have D0 := Lib.hid (b_D0)
    have D1 := Lib.hid (b_D1)
    clear hv2 cv2 b_D0 b_D1
    go_upto_region 15 with fail
    rw [← Wv2.out]
    generalize v1.heap.size + 1 = d1 at *
    generalize v1.heap.size = d0 at *
    clear Wv2
    by_cases hr : (readD xs).2.1 = 0
    case' pos =>
      obtain ⟨hF, hO⟩ := readD_again hr
      have HF := Lib.hid hF
      have HO := Lib.hid hO
      rw [hr] at D1
      clear hF hO
      have z_D1_0 := cell_of D1.out 0
      simp only [List.getElem?_toArray, List.getElem?_cons_succ, List.getElem?_cons_zero] at z_D1_0
      go_upto_region 16 with fail
      clear z_D1_0
      have z_D0_0 := cell_of D0.out 0
      have z_D0_1 := cell_of D0.out 1
      simp only [List.getElem?_toArray, List.getElem?_cons_succ, List.getElem?_cons_zero] at z_D0_0 z_D0_1
      go_wp2_with fail
      have r1 := dbytes_any v2 (readD xs).1.1 (readD xs).1.2
      rw [dotO_fine HF.out, chkD_fine HF.out, HO.out] at r1
      refine (r1).mono ?_
      rintro e v3 ⟨A3, c3, rfl, ca⟩
      clear z_D0_0 z_D0_1
      replace D0 := Lib.hid (ca.2.2.at_ D0.out (by simp))
      replace D1 := Lib.hid (ca.2.2.at_ D1.out (by simp))
      replace C := Lib.hid (C.out.trans ca.2.2)
      have F3 := Lib.hid ca.1
      clear ca r1
      go_wp2_with fail
      refine (same_yes v3 A3 A _ _ c3 c xs xs F3.out.reads (HB.out.chg C.out (by simp)) rfl).mono ?_
      rintro e v4 ⟨rfl, rfl⟩
      go_upto_region 19 with fail
      clear D0 D1 F3 HF HO hr l_D0 l_D1
      generalize v3 = V at *
    case' neg =>
      have hrb : ((readD xs).2.1 == 0) = false := by simpa using hr
      have z_D1_0 := cell_of D1.out 0
      simp only [List.getElem?_toArray, List.getElem?_cons_succ, List.getElem?_cons_zero] at z_D1_0
      go_upto_region 19 with fail
      clear z_D1_0
      clear D0 D1 hr hrb l_D0 l_D1
      generalize v2 = V at *
    all_goals
      have hp := fun w h => dparse_any w z hz h
      have hb := @parseD_back z.data.toList
      have hb2 := @parseD_two z.data.toList
      generalize hR : parseD z.data.toList = R at *
      have HP := Lib.hid hp
      have HB1 := Lib.hid hb
      have HB2 := Lib.hid hb2
      clear hp hb hb2 hR
      go_wp2_with fail
      refine (HP.out _ (HT.out.chg C.out)).mono ?_
      rintro e u1 ⟨rfl, ca⟩
      replace C := Lib.hid (C.out.trans ca)
      clear ca
      obtain ⟨u2, hu2, cu2, b_E0⟩ := news1 u1 (.cells #[.int .i64 R.1.1, .int .i64 R.1.2] 23)
      have Wu2 := Lib.hid hu2
      have l_E0 := lt_of_heap b_E0
      replace C := Lib.hid (C.out.trans cu2)
      have E0 := Lib.hid (b_E0)
      clear hu2 cu2 b_E0
      go_upto_region 20 with fail
      rw [← Wu2.out]
      generalize u1.heap.size = e0 at *
      clear Wu2
      by_cases hq : R.2 = 0
      · obtain ⟨hF, hO⟩ := HB1.out hq
        have hstr : strOf (textO R.1.1 R.1.2) = z := by rw [textO_fine hF, hO]; exact (str_of_list z rfl).symm
        have hq2 : (R.2 != 0) = false := by rw [hq]; rfl
        have HF := Lib.hid hF
        have HS := Lib.hid hstr
        clear hF hO hstr hq
        have z_E0_0 := cell_of E0.out 0
        have z_E0_1 := cell_of E0.out 1
        simp only [List.getElem?_toArray, List.getElem?_cons_succ, List.getElem?_cons_zero] at z_E0_0 z_E0_1
        go_wp2_with fail
        have r1 := dtext_any u2 R.1.1 R.1.2 (HT.out.chg C.out)
        rw [HS.out, chkD_fine HF.out] at r1
        refine (r1).mono ?_
        rintro e u3 ⟨rfl, ca⟩
        clear z_E0_0 z_E0_1
        replace E0 := Lib.hid (ca.at_ E0.out (by simp))
        replace C := Lib.hid (C.out.trans ca)
        clear ca r1
        go_wp2
        go_ret
        exact ⟨rfl, C.out⟩
      · have hR2 := HB2.out hq
        have hq2 : (R.2 != 0) = true := by simpa using hq
        have e1 : R.1.1 = 0 := by rw [hR2]
        have e2 : R.1.2 = 0 := by rw [hR2]
        rw [e1, e2] at E0
        clear hR2 e1 e2 hq
        have z_E0_0 := cell_of E0.out 0
        have z_E0_1 := cell_of E0.out 1
        simp only [List.getElem?_toArray, List.getElem?_cons_succ, List.getElem?_cons_zero] at z_E0_0 z_E0_1
        go_wp2
        go_ret
        exact ⟨rfl, C.out⟩
end Go.Proofs.YtmcnfopiilplnaaDoor
