/- The walk of FrameBack. -/
import Derived.Test.YtelbahfmkpncaaaMkit
import Derived.Test.YtelbahfmkpncaaaBmath
import Derived.Test.YtelbahfmkpncaaaFknown
namespace Go.Proofs.Ytelbahfmkpncaaa
open Go.RowKit
set_option linter.unusedSimpArgs false
set_option linter.unusedVariables false


theorem pkO_small {f t m a : Int} {ys : List UInt8} (h : FineP f t m a ys.length) : (pkO f t m a ys).length ≤ 1000 := by
  unfold pkO
  rw [if_pos h, List.length_append, sumB_len]
  have e0 := enc_le (x := f) ⟨by have := h.1; omega, h.2.1⟩
  have e1 := enc_le h.2.2.1
  have e2 := enc_le h.2.2.2.1
  have e3 := enc_le h.2.2.2.2.1
  have e4 := h.2.2.2.2.2.1
  have e5 := nb_two ys.length (by omega)
  unfold pkB
  simp only [List.length_append, enc_len ys.length]
  omega

set_option maxHeartbeats 32000000 in
set_option maxRecDepth 20000 in
theorem fback_yes (w : World) (f t m a : Int) (A0 : Option Addr) (n0 c0 : Nat) (xs : List UInt8) (h0 : Bs w A0 n0 xs) (hn0 : n0 ≤ 140737488351232) (k i s z : Int) (A1 : Option Addr) (n1 c1 : Nat) (ys : List UInt8) (h1 : Bs w A1 n1 ys) (hn1 : n1 ≤ 140737488351232) (A2 : Option Addr) (n2 c2 : Nat) (zs : List UInt8) (h2 : Bs w A2 n2 zs) (hn2 : n2 ≤ 140737488351232) (hm2 : n2 ≤ c2) (hc2 : c2 ≤ 9223372036854775807) :
    Calls Try.prog 6 #[.agg #[.int .i64 f, .int .i64 t, .int .i64 m, .int .i64 a, .slice A0 n0 c0], .agg #[.int .i64 k, .int .i64 i, .int .i64 s, .int .i64 z, .slice A1 n1 c1], .slice A2 n2 c2] w fun r w' => r = .returned (.bool true) ∧ Chg [] w w' := by
  have hl := h0.len
  have hl' := h1.len
  have hl2 := h2.len
  subst hl hl' hl2
  have C := Lib.hid (Chg.refl [] w)
  have H0 := Lib.hid h0
  have H1 := Lib.hid h1
  have H2 := Lib.hid h2
  clear h0 h1 h2
  obtain ⟨w1, hw1, cw1, b_BP, b_BM⟩ := news2 w (.cells #[.int .i64 f, .int .i64 t, .int .i64 m, .int .i64 a, .slice A0 xs.length c0] 24) (.cells #[.int .i64 k, .int .i64 i, .int .i64 s, .int .i64 z, .slice A1 ys.length c1] 41)
  have Ww1 := Lib.hid hw1
  have l_BP := lt_of_heap b_BP
  have l_BM := lt_of_heap b_BM
  replace C := Lib.hid (C.out.trans cw1)
  have BP := Lib.hid (b_BP)
  have BM := Lib.hid (b_BM)
  clear hw1 cw1 b_BP b_BM
  go_enter Try.func6, Try.ntmps6
  go_wp2_with fail
  rw [← Ww1.out]
  generalize w.heap.size + 1 = s1 at *
  generalize w.heap.size = s0 at *
  clear Ww1
  refine (fknown_any w1).mono ?_
  rintro e w2 ⟨rfl, ca⟩
  replace BP := Lib.hid (ca.at_ BP.out (by simp))
  replace BM := Lib.hid (ca.at_ BM.out (by simp))
  replace C := Lib.hid (C.out.trans ca)
  clear ca
  have z_BP_4 := cell_of BP.out 4
  have z_BM_4 := cell_of BM.out 4
  simp only [List.getElem?_toArray, List.getElem?_cons_succ, List.getElem?_cons_zero] at z_BP_4 z_BM_4
  by_cases hx : 600 < xs.length
  · skip
    go_wp2
    go_ret
    exact ⟨rfl, C.out⟩
  by_cases hy : 600 < ys.length
  · skip
    go_wp2
    go_ret
    exact ⟨rfl, C.out⟩
  by_cases hz : 700 < zs.length
  · skip
    go_wp2
    go_ret
    exact ⟨rfl, C.out⟩
  clear z_BP_4 z_BM_4
  refine (Decidable.em (FineP f t m a xs.length)).elim (fun hp => ?P1) (fun hp => ?P0)
  case' P1 =>
    refine (Decidable.em (FineM k i s z ys.length)).elim (fun hm => ?P11) (fun hm => ?P10)
    case' P11 =>
      have z_BP_0 := cell_of BP.out 0
      have z_BP_1 := cell_of BP.out 1
      have z_BP_2 := cell_of BP.out 2
      have z_BP_3 := cell_of BP.out 3
      have z_BP_4 := cell_of BP.out 4
      have z_BM_0 := cell_of BM.out 0
      have z_BM_1 := cell_of BM.out 1
      have z_BM_2 := cell_of BM.out 2
      have z_BM_3 := cell_of BM.out 3
      have z_BM_4 := cell_of BM.out 4
      simp only [List.getElem?_toArray, List.getElem?_cons_succ, List.getElem?_cons_zero] at z_BP_0 z_BP_1 z_BP_2 z_BP_3 z_BP_4 z_BM_0 z_BM_1 z_BM_2 z_BM_3 z_BM_4
      go_wp2_with fail
      have r1 := pput_any w2 f t m a A0 _ c0 xs (H0.out.chg C.out (by simp)) hn0
      rw [chkP_fine hp] at r1
      refine (r1).mono ?_
      rintro e w3 ⟨A3, c3, rfl, f3⟩
      clear z_BP_0 z_BP_1 z_BP_2 z_BP_3 z_BP_4 z_BM_0 z_BM_1 z_BM_2 z_BM_3 z_BM_4
      replace BP := Lib.hid (f3.2.2.at_ BP.out (by simp))
      replace BM := Lib.hid (f3.2.2.at_ BM.out (by simp))
      replace C := Lib.hid (C.out.trans f3.2.2)
      have F3 := Lib.hid f3.1
      clear f3 r1
      have z_BM_0 := cell_of BM.out 0
      have z_BM_1 := cell_of BM.out 1
      have z_BM_2 := cell_of BM.out 2
      have z_BM_3 := cell_of BM.out 3
      have z_BM_4 := cell_of BM.out 4
      simp only [List.getElem?_toArray, List.getElem?_cons_succ, List.getElem?_cons_zero] at z_BM_0 z_BM_1 z_BM_2 z_BM_3 z_BM_4
      go_wp2_with fail
      have r1 := mputm_any w3 k i s z A1 _ c1 ys (H1.out.chg C.out (by simp)) hn1
      rw [chkM_fine hm] at r1
      refine (r1).mono ?_
      rintro e w4 ⟨A4, c4, rfl, f4⟩
      clear z_BM_0 z_BM_1 z_BM_2 z_BM_3 z_BM_4
      replace BP := Lib.hid (f4.2.2.at_ BP.out (by simp))
      replace BM := Lib.hid (f4.2.2.at_ BM.out (by simp))
      replace C := Lib.hid (C.out.trans f4.2.2)
      replace F3 := Lib.hid (F3.out.chg f4.2.2 (by simp))
      have F4 := Lib.hid f4.1
      clear f4 r1
      have z_BP_0 := cell_of BP.out 0
      have z_BP_1 := cell_of BP.out 1
      have z_BP_2 := cell_of BP.out 2
      have z_BP_3 := cell_of BP.out 3
      have z_BP_4 := cell_of BP.out 4
      simp only [List.getElem?_toArray, List.getElem?_cons_succ, List.getElem?_cons_zero] at z_BP_0 z_BP_1 z_BP_2 z_BP_3 z_BP_4
      go_wp2_with fail
      have r1 := pcheckp_any w4 f t m a A0 _ c0 hn0
      rw [chkP_fine hp] at r1
      refine (r1).mono ?_
      rintro e w5 ⟨rfl, hc⟩
      clear z_BP_0 z_BP_1 z_BP_2 z_BP_3 z_BP_4
      replace BP := Lib.hid (hc.at_ BP.out (by simp))
      replace BM := Lib.hid (hc.at_ BM.out (by simp))
      replace C := Lib.hid (C.out.trans hc)
      replace F3 := Lib.hid (F3.out.chg hc (by simp))
      replace F4 := Lib.hid (F4.out.chg hc (by simp))
      clear hc r1
      have z_BM_0 := cell_of BM.out 0
      have z_BM_1 := cell_of BM.out 1
      have z_BM_2 := cell_of BM.out 2
      have z_BM_3 := cell_of BM.out 3
      have z_BM_4 := cell_of BM.out 4
      simp only [List.getElem?_toArray, List.getElem?_cons_succ, List.getElem?_cons_zero] at z_BM_0 z_BM_1 z_BM_2 z_BM_3 z_BM_4
      go_wp2_with fail
      have r1 := mcheckm_any w5 k i s z A1 _ c1 hn1
      rw [chkM_fine hm] at r1
      refine (r1).mono ?_
      rintro e w6 ⟨rfl, hc⟩
      clear z_BM_0 z_BM_1 z_BM_2 z_BM_3 z_BM_4
      replace BP := Lib.hid (hc.at_ BP.out (by simp))
      replace BM := Lib.hid (hc.at_ BM.out (by simp))
      replace C := Lib.hid (C.out.trans hc)
      replace F3 := Lib.hid (F3.out.chg hc (by simp))
      replace F4 := Lib.hid (F4.out.chg hc (by simp))
      clear hc r1
      go_wp2_with fail
      have hpl : (pkO f t m a xs).length ≤ 1000 := pkO_small hp
      have hcap := F3.out.cap
      have hcap2 := hcap.2
      unfold maxLen at hcap2
      have r1 := pget_any w6 A3 _ c3 _ F3.out.reads (by omega) hcap.1 (by omega)
      rw [readP_back hp] at r1
      refine (r1).mono ?_
      rintro e w7 ⟨A5, c5, rfl, f5⟩
      replace BP := Lib.hid (f5.2.2.at_ BP.out (by simp))
      replace BM := Lib.hid (f5.2.2.at_ BM.out (by simp))
      replace C := Lib.hid (C.out.trans f5.2.2)
      replace F3 := Lib.hid (F3.out.chg f5.2.2 (by simp))
      replace F4 := Lib.hid (F4.out.chg f5.2.2 (by simp))
      have F5 := Lib.hid f5.1
      clear f5 r1 hcap hcap2 hpl
      obtain ⟨w8, hw8, cw8, b_B5, b_B6⟩ := news2 w7 (.cells #[.int .i64 f, .int .i64 t, .int .i64 m, .int .i64 a, .slice A5 xs.length c5] 24) (.cells #[.int .i64 0, .int .i64 0] 32)
      have Ww8 := Lib.hid hw8
      have l_B5 := lt_of_heap b_B5
      have l_B6 := lt_of_heap b_B6
      replace BP := Lib.hid (cw8.at_ BP.out (by simp))
      replace BM := Lib.hid (cw8.at_ BM.out (by simp))
      replace C := Lib.hid (C.out.trans cw8)
      replace F3 := Lib.hid (F3.out.chg cw8 (by simp))
      replace F4 := Lib.hid (F4.out.chg cw8 (by simp))
      replace F5 := Lib.hid (F5.out.chg cw8 (by simp))
      have B5 := Lib.hid (b_B5)
      have B6 := Lib.hid (b_B6)
      clear hw8 cw8 b_B5 b_B6
      go_upto_region 10 with fail
      rw [← Ww8.out]
      generalize w7.heap.size + 1 = s6 at *
      generalize w7.heap.size = s5 at *
      clear Ww8
      have z_B5_0 := cell_of B5.out 0
      have z_B5_1 := cell_of B5.out 1
      have z_B5_2 := cell_of B5.out 2
      have z_B5_3 := cell_of B5.out 3
      have z_B5_4 := cell_of B5.out 4
      have z_B6_0 := cell_of B6.out 0
      have z_BP_0 := cell_of BP.out 0
      have z_BP_1 := cell_of BP.out 1
      have z_BP_2 := cell_of BP.out 2
      have z_BP_3 := cell_of BP.out 3
      have z_BP_4 := cell_of BP.out 4
      simp only [List.getElem?_toArray, List.getElem?_cons_succ, List.getElem?_cons_zero] at z_B5_0 z_B5_1 z_B5_2 z_B5_3 z_B5_4 z_B6_0 z_BP_0 z_BP_1 z_BP_2 z_BP_3 z_BP_4
      go_wp2_with fail
      have r1 := samep_yes w8 f t m a A5 A0 _ c5 _ c0 _ F5.out.reads (H0.out.chg C.out (by simp))
      refine (r1).mono ?_
      rintro e w9 ⟨rfl, hc⟩
      clear z_B5_0 z_B5_1 z_B5_2 z_B5_3 z_B5_4 z_B6_0 z_BP_0 z_BP_1 z_BP_2 z_BP_3 z_BP_4
      replace BP := Lib.hid (hc.at_ BP.out (by simp))
      replace BM := Lib.hid (hc.at_ BM.out (by simp))
      replace B5 := Lib.hid (hc.at_ B5.out (by simp))
      replace B6 := Lib.hid (hc.at_ B6.out (by simp))
      replace C := Lib.hid (C.out.trans hc)
      replace F3 := Lib.hid (F3.out.chg hc (by simp))
      replace F4 := Lib.hid (F4.out.chg hc (by simp))
      replace F5 := Lib.hid (F5.out.chg hc (by simp))
      clear hc r1
      clear F5 B5 B6
      clear l_B5 l_B6
      go_wp2_with fail
      have hml := mO_small hm
      have hcap := F4.out.cap
      have hcap2 := hcap.2
      unfold maxLen at hcap2
      have r1 := mgetm_any w9 A4 _ c4 _ F4.out.reads (by omega)
      rw [readM_back hm] at r1
      refine (r1).mono ?_
      rintro e wa ⟨A6, c6, rfl, f6⟩
      replace BP := Lib.hid (f6.2.2.at_ BP.out (by simp))
      replace BM := Lib.hid (f6.2.2.at_ BM.out (by simp))
      replace C := Lib.hid (C.out.trans f6.2.2)
      replace F3 := Lib.hid (F3.out.chg f6.2.2 (by simp))
      replace F4 := Lib.hid (F4.out.chg f6.2.2 (by simp))
      have F6 := Lib.hid f6.1
      have hb240 : decide (240 < (mO k i s z ys).length) = false := by simp; omega
      have HML := Lib.hid hml
      clear f6 r1 hcap hcap2 hb240
      obtain ⟨wb, hwb, cwb, b_B7, b_B8⟩ := news2 wa (.cells #[.int .i64 k, .int .i64 i, .int .i64 s, .int .i64 z, .slice A6 ys.length c6] 41) (.cells #[.int .i64 0, .int .i64 0] 32)
      have Wwb := Lib.hid hwb
      have l_B7 := lt_of_heap b_B7
      have l_B8 := lt_of_heap b_B8
      replace BP := Lib.hid (cwb.at_ BP.out (by simp))
      replace BM := Lib.hid (cwb.at_ BM.out (by simp))
      replace C := Lib.hid (C.out.trans cwb)
      replace F3 := Lib.hid (F3.out.chg cwb (by simp))
      replace F4 := Lib.hid (F4.out.chg cwb (by simp))
      replace F6 := Lib.hid (F6.out.chg cwb (by simp))
      have B7 := Lib.hid (b_B7)
      have B8 := Lib.hid (b_B8)
      clear hwb cwb b_B7 b_B8
      go_upto_region 14 with fail
      rw [← Wwb.out]
      generalize wa.heap.size + 1 = s8 at *
      generalize wa.heap.size = s7 at *
      clear Wwb
      have z_B7_0 := cell_of B7.out 0
      have z_B7_1 := cell_of B7.out 1
      have z_B7_2 := cell_of B7.out 2
      have z_B7_3 := cell_of B7.out 3
      have z_B7_4 := cell_of B7.out 4
      have z_B8_0 := cell_of B8.out 0
      have z_BM_0 := cell_of BM.out 0
      have z_BM_1 := cell_of BM.out 1
      have z_BM_2 := cell_of BM.out 2
      have z_BM_3 := cell_of BM.out 3
      have z_BM_4 := cell_of BM.out 4
      simp only [List.getElem?_toArray, List.getElem?_cons_succ, List.getElem?_cons_zero] at z_B7_0 z_B7_1 z_B7_2 z_B7_3 z_B7_4 z_B8_0 z_BM_0 z_BM_1 z_BM_2 z_BM_3 z_BM_4
      go_wp2_with fail
      have r1 := samem_yes wb k i s z A6 A1 _ c6 _ c1 _ F6.out.reads (H1.out.chg C.out (by simp))
      refine (r1).mono ?_
      rintro e wc ⟨rfl, hc⟩
      clear z_B7_0 z_B7_1 z_B7_2 z_B7_3 z_B7_4 z_B8_0 z_BM_0 z_BM_1 z_BM_2 z_BM_3 z_BM_4
      replace BP := Lib.hid (hc.at_ BP.out (by simp))
      replace BM := Lib.hid (hc.at_ BM.out (by simp))
      replace B7 := Lib.hid (hc.at_ B7.out (by simp))
      replace B8 := Lib.hid (hc.at_ B8.out (by simp))
      replace C := Lib.hid (C.out.trans hc)
      replace F3 := Lib.hid (F3.out.chg hc (by simp))
      replace F4 := Lib.hid (F4.out.chg hc (by simp))
      replace F6 := Lib.hid (F6.out.chg hc (by simp))
      clear hc r1
      go_wp2_with fail
      have r1 := pcheckp_any wc 1 0 1 0 A4 (mO k i s z ys).length c4 (by have := HML.out; omega)
      rw [chkP_fine (by have := HML.out; unfold FineP inN; omega)] at r1
      refine (r1).mono ?_
      rintro e wd ⟨rfl, hc⟩
      replace BP := Lib.hid (hc.at_ BP.out (by simp))
      replace BM := Lib.hid (hc.at_ BM.out (by simp))
      replace B7 := Lib.hid (hc.at_ B7.out (by simp))
      replace B8 := Lib.hid (hc.at_ B8.out (by simp))
      replace C := Lib.hid (C.out.trans hc)
      replace F3 := Lib.hid (F3.out.chg hc (by simp))
      replace F4 := Lib.hid (F4.out.chg hc (by simp))
      replace F6 := Lib.hid (F6.out.chg hc (by simp))
      clear hc r1
      clear F6 B7 B8
      clear l_B7 l_B8 HML
      clear F3 F4 BP BM
      clear l_BP l_BM
      go_upto_region 16 with fail
      clear hml
      generalize wd = W at *
      clear hp hm
    case' P10 =>
      have z_BP_0 := cell_of BP.out 0
      have z_BP_1 := cell_of BP.out 1
      have z_BP_2 := cell_of BP.out 2
      have z_BP_3 := cell_of BP.out 3
      have z_BP_4 := cell_of BP.out 4
      have z_BM_0 := cell_of BM.out 0
      have z_BM_1 := cell_of BM.out 1
      have z_BM_2 := cell_of BM.out 2
      have z_BM_3 := cell_of BM.out 3
      have z_BM_4 := cell_of BM.out 4
      simp only [List.getElem?_toArray, List.getElem?_cons_succ, List.getElem?_cons_zero] at z_BP_0 z_BP_1 z_BP_2 z_BP_3 z_BP_4 z_BM_0 z_BM_1 z_BM_2 z_BM_3 z_BM_4
      go_wp2_with fail
      have r1 := pput_any w2 f t m a A0 _ c0 xs (H0.out.chg C.out (by simp)) hn0
      rw [chkP_fine hp] at r1
      refine (r1).mono ?_
      rintro e w3 ⟨A3, c3, rfl, f3⟩
      clear z_BP_0 z_BP_1 z_BP_2 z_BP_3 z_BP_4 z_BM_0 z_BM_1 z_BM_2 z_BM_3 z_BM_4
      replace BP := Lib.hid (f3.2.2.at_ BP.out (by simp))
      replace BM := Lib.hid (f3.2.2.at_ BM.out (by simp))
      replace C := Lib.hid (C.out.trans f3.2.2)
      have F3 := Lib.hid f3.1
      clear f3 r1
      have z_BM_0 := cell_of BM.out 0
      have z_BM_1 := cell_of BM.out 1
      have z_BM_2 := cell_of BM.out 2
      have z_BM_3 := cell_of BM.out 3
      have z_BM_4 := cell_of BM.out 4
      simp only [List.getElem?_toArray, List.getElem?_cons_succ, List.getElem?_cons_zero] at z_BM_0 z_BM_1 z_BM_2 z_BM_3 z_BM_4
      go_wp2_with fail
      have r1 := mputm_any w3 k i s z A1 _ c1 ys (H1.out.chg C.out (by simp)) hn1
      rw [chkM_odd hm] at r1
      refine (r1).mono ?_
      rintro e w4 ⟨A4, c4, rfl, f4⟩
      clear z_BM_0 z_BM_1 z_BM_2 z_BM_3 z_BM_4
      replace BP := Lib.hid (f4.2.2.at_ BP.out (by simp))
      replace BM := Lib.hid (f4.2.2.at_ BM.out (by simp))
      replace C := Lib.hid (C.out.trans f4.2.2)
      replace F3 := Lib.hid (F3.out.chg f4.2.2 (by simp))
      have F4 := Lib.hid f4.1
      clear f4 r1
      have z_BP_0 := cell_of BP.out 0
      have z_BP_1 := cell_of BP.out 1
      have z_BP_2 := cell_of BP.out 2
      have z_BP_3 := cell_of BP.out 3
      have z_BP_4 := cell_of BP.out 4
      simp only [List.getElem?_toArray, List.getElem?_cons_succ, List.getElem?_cons_zero] at z_BP_0 z_BP_1 z_BP_2 z_BP_3 z_BP_4
      go_wp2_with fail
      have r1 := pcheckp_any w4 f t m a A0 _ c0 hn0
      rw [chkP_fine hp] at r1
      refine (r1).mono ?_
      rintro e w5 ⟨rfl, hc⟩
      clear z_BP_0 z_BP_1 z_BP_2 z_BP_3 z_BP_4
      replace BP := Lib.hid (hc.at_ BP.out (by simp))
      replace BM := Lib.hid (hc.at_ BM.out (by simp))
      replace C := Lib.hid (C.out.trans hc)
      replace F3 := Lib.hid (F3.out.chg hc (by simp))
      replace F4 := Lib.hid (F4.out.chg hc (by simp))
      clear hc r1
      have z_BM_0 := cell_of BM.out 0
      have z_BM_1 := cell_of BM.out 1
      have z_BM_2 := cell_of BM.out 2
      have z_BM_3 := cell_of BM.out 3
      have z_BM_4 := cell_of BM.out 4
      simp only [List.getElem?_toArray, List.getElem?_cons_succ, List.getElem?_cons_zero] at z_BM_0 z_BM_1 z_BM_2 z_BM_3 z_BM_4
      go_wp2_with fail
      have r1 := mcheckm_any w5 k i s z A1 _ c1 hn1
      rw [chkM_odd hm] at r1
      refine (r1).mono ?_
      rintro e w6 ⟨rfl, hc⟩
      clear z_BM_0 z_BM_1 z_BM_2 z_BM_3 z_BM_4
      replace BP := Lib.hid (hc.at_ BP.out (by simp))
      replace BM := Lib.hid (hc.at_ BM.out (by simp))
      replace C := Lib.hid (C.out.trans hc)
      replace F3 := Lib.hid (F3.out.chg hc (by simp))
      replace F4 := Lib.hid (F4.out.chg hc (by simp))
      clear hc r1
      go_wp2_with fail
      have hpl : (pkO f t m a xs).length ≤ 1000 := pkO_small hp
      have hcap := F3.out.cap
      have hcap2 := hcap.2
      unfold maxLen at hcap2
      have r1 := pget_any w6 A3 _ c3 _ F3.out.reads (by omega) hcap.1 (by omega)
      rw [readP_back hp] at r1
      refine (r1).mono ?_
      rintro e w7 ⟨A5, c5, rfl, f5⟩
      replace BP := Lib.hid (f5.2.2.at_ BP.out (by simp))
      replace BM := Lib.hid (f5.2.2.at_ BM.out (by simp))
      replace C := Lib.hid (C.out.trans f5.2.2)
      replace F3 := Lib.hid (F3.out.chg f5.2.2 (by simp))
      replace F4 := Lib.hid (F4.out.chg f5.2.2 (by simp))
      have F5 := Lib.hid f5.1
      clear f5 r1 hcap hcap2 hpl
      obtain ⟨w8, hw8, cw8, b_B5, b_B6⟩ := news2 w7 (.cells #[.int .i64 f, .int .i64 t, .int .i64 m, .int .i64 a, .slice A5 xs.length c5] 24) (.cells #[.int .i64 0, .int .i64 0] 32)
      have Ww8 := Lib.hid hw8
      have l_B5 := lt_of_heap b_B5
      have l_B6 := lt_of_heap b_B6
      replace BP := Lib.hid (cw8.at_ BP.out (by simp))
      replace BM := Lib.hid (cw8.at_ BM.out (by simp))
      replace C := Lib.hid (C.out.trans cw8)
      replace F3 := Lib.hid (F3.out.chg cw8 (by simp))
      replace F4 := Lib.hid (F4.out.chg cw8 (by simp))
      replace F5 := Lib.hid (F5.out.chg cw8 (by simp))
      have B5 := Lib.hid (b_B5)
      have B6 := Lib.hid (b_B6)
      clear hw8 cw8 b_B5 b_B6
      go_upto_region 10 with fail
      rw [← Ww8.out]
      generalize w7.heap.size + 1 = s6 at *
      generalize w7.heap.size = s5 at *
      clear Ww8
      have z_B5_0 := cell_of B5.out 0
      have z_B5_1 := cell_of B5.out 1
      have z_B5_2 := cell_of B5.out 2
      have z_B5_3 := cell_of B5.out 3
      have z_B5_4 := cell_of B5.out 4
      have z_B6_0 := cell_of B6.out 0
      have z_BP_0 := cell_of BP.out 0
      have z_BP_1 := cell_of BP.out 1
      have z_BP_2 := cell_of BP.out 2
      have z_BP_3 := cell_of BP.out 3
      have z_BP_4 := cell_of BP.out 4
      simp only [List.getElem?_toArray, List.getElem?_cons_succ, List.getElem?_cons_zero] at z_B5_0 z_B5_1 z_B5_2 z_B5_3 z_B5_4 z_B6_0 z_BP_0 z_BP_1 z_BP_2 z_BP_3 z_BP_4
      go_wp2_with fail
      have r1 := samep_yes w8 f t m a A5 A0 _ c5 _ c0 _ F5.out.reads (H0.out.chg C.out (by simp))
      refine (r1).mono ?_
      rintro e w9 ⟨rfl, hc⟩
      clear z_B5_0 z_B5_1 z_B5_2 z_B5_3 z_B5_4 z_B6_0 z_BP_0 z_BP_1 z_BP_2 z_BP_3 z_BP_4
      replace BP := Lib.hid (hc.at_ BP.out (by simp))
      replace BM := Lib.hid (hc.at_ BM.out (by simp))
      replace B5 := Lib.hid (hc.at_ B5.out (by simp))
      replace B6 := Lib.hid (hc.at_ B6.out (by simp))
      replace C := Lib.hid (C.out.trans hc)
      replace F3 := Lib.hid (F3.out.chg hc (by simp))
      replace F4 := Lib.hid (F4.out.chg hc (by simp))
      replace F5 := Lib.hid (F5.out.chg hc (by simp))
      clear hc r1
      clear F5 B5 B6
      clear l_B5 l_B6
      clear F3 F4 BP BM
      clear l_BP l_BM
      go_upto_region 16 with fail
      generalize w9 = W at *
      clear hp hm
  case' P0 =>
    refine (Decidable.em (FineM k i s z ys.length)).elim (fun hm => ?P01) (fun hm => ?P00)
    case' P01 =>
      have z_BP_0 := cell_of BP.out 0
      have z_BP_1 := cell_of BP.out 1
      have z_BP_2 := cell_of BP.out 2
      have z_BP_3 := cell_of BP.out 3
      have z_BP_4 := cell_of BP.out 4
      have z_BM_0 := cell_of BM.out 0
      have z_BM_1 := cell_of BM.out 1
      have z_BM_2 := cell_of BM.out 2
      have z_BM_3 := cell_of BM.out 3
      have z_BM_4 := cell_of BM.out 4
      simp only [List.getElem?_toArray, List.getElem?_cons_succ, List.getElem?_cons_zero] at z_BP_0 z_BP_1 z_BP_2 z_BP_3 z_BP_4 z_BM_0 z_BM_1 z_BM_2 z_BM_3 z_BM_4
      go_wp2_with fail
      have r1 := pput_any w2 f t m a A0 _ c0 xs (H0.out.chg C.out (by simp)) hn0
      rw [chkP_odd hp] at r1
      refine (r1).mono ?_
      rintro e w3 ⟨A3, c3, rfl, f3⟩
      clear z_BP_0 z_BP_1 z_BP_2 z_BP_3 z_BP_4 z_BM_0 z_BM_1 z_BM_2 z_BM_3 z_BM_4
      replace BP := Lib.hid (f3.2.2.at_ BP.out (by simp))
      replace BM := Lib.hid (f3.2.2.at_ BM.out (by simp))
      replace C := Lib.hid (C.out.trans f3.2.2)
      have F3 := Lib.hid f3.1
      clear f3 r1
      have z_BM_0 := cell_of BM.out 0
      have z_BM_1 := cell_of BM.out 1
      have z_BM_2 := cell_of BM.out 2
      have z_BM_3 := cell_of BM.out 3
      have z_BM_4 := cell_of BM.out 4
      simp only [List.getElem?_toArray, List.getElem?_cons_succ, List.getElem?_cons_zero] at z_BM_0 z_BM_1 z_BM_2 z_BM_3 z_BM_4
      go_wp2_with fail
      have r1 := mputm_any w3 k i s z A1 _ c1 ys (H1.out.chg C.out (by simp)) hn1
      rw [chkM_fine hm] at r1
      refine (r1).mono ?_
      rintro e w4 ⟨A4, c4, rfl, f4⟩
      clear z_BM_0 z_BM_1 z_BM_2 z_BM_3 z_BM_4
      replace BP := Lib.hid (f4.2.2.at_ BP.out (by simp))
      replace BM := Lib.hid (f4.2.2.at_ BM.out (by simp))
      replace C := Lib.hid (C.out.trans f4.2.2)
      replace F3 := Lib.hid (F3.out.chg f4.2.2 (by simp))
      have F4 := Lib.hid f4.1
      clear f4 r1
      have z_BP_0 := cell_of BP.out 0
      have z_BP_1 := cell_of BP.out 1
      have z_BP_2 := cell_of BP.out 2
      have z_BP_3 := cell_of BP.out 3
      have z_BP_4 := cell_of BP.out 4
      simp only [List.getElem?_toArray, List.getElem?_cons_succ, List.getElem?_cons_zero] at z_BP_0 z_BP_1 z_BP_2 z_BP_3 z_BP_4
      go_wp2_with fail
      have r1 := pcheckp_any w4 f t m a A0 _ c0 hn0
      rw [chkP_odd hp] at r1
      refine (r1).mono ?_
      rintro e w5 ⟨rfl, hc⟩
      clear z_BP_0 z_BP_1 z_BP_2 z_BP_3 z_BP_4
      replace BP := Lib.hid (hc.at_ BP.out (by simp))
      replace BM := Lib.hid (hc.at_ BM.out (by simp))
      replace C := Lib.hid (C.out.trans hc)
      replace F3 := Lib.hid (F3.out.chg hc (by simp))
      replace F4 := Lib.hid (F4.out.chg hc (by simp))
      clear hc r1
      have z_BM_0 := cell_of BM.out 0
      have z_BM_1 := cell_of BM.out 1
      have z_BM_2 := cell_of BM.out 2
      have z_BM_3 := cell_of BM.out 3
      have z_BM_4 := cell_of BM.out 4
      simp only [List.getElem?_toArray, List.getElem?_cons_succ, List.getElem?_cons_zero] at z_BM_0 z_BM_1 z_BM_2 z_BM_3 z_BM_4
      go_wp2_with fail
      have r1 := mcheckm_any w5 k i s z A1 _ c1 hn1
      rw [chkM_fine hm] at r1
      refine (r1).mono ?_
      rintro e w6 ⟨rfl, hc⟩
      clear z_BM_0 z_BM_1 z_BM_2 z_BM_3 z_BM_4
      replace BP := Lib.hid (hc.at_ BP.out (by simp))
      replace BM := Lib.hid (hc.at_ BM.out (by simp))
      replace C := Lib.hid (C.out.trans hc)
      replace F3 := Lib.hid (F3.out.chg hc (by simp))
      replace F4 := Lib.hid (F4.out.chg hc (by simp))
      clear hc r1
      go_wp2_with fail
      have hml := mO_small hm
      have hcap := F4.out.cap
      have hcap2 := hcap.2
      unfold maxLen at hcap2
      have r1 := mgetm_any w6 A4 _ c4 _ F4.out.reads (by omega)
      rw [readM_back hm] at r1
      refine (r1).mono ?_
      rintro e wa ⟨A6, c6, rfl, f6⟩
      replace BP := Lib.hid (f6.2.2.at_ BP.out (by simp))
      replace BM := Lib.hid (f6.2.2.at_ BM.out (by simp))
      replace C := Lib.hid (C.out.trans f6.2.2)
      replace F3 := Lib.hid (F3.out.chg f6.2.2 (by simp))
      replace F4 := Lib.hid (F4.out.chg f6.2.2 (by simp))
      have F6 := Lib.hid f6.1
      have hb240 : decide (240 < (mO k i s z ys).length) = false := by simp; omega
      have HML := Lib.hid hml
      clear f6 r1 hcap hcap2 hb240
      obtain ⟨wb, hwb, cwb, b_B7, b_B8⟩ := news2 wa (.cells #[.int .i64 k, .int .i64 i, .int .i64 s, .int .i64 z, .slice A6 ys.length c6] 41) (.cells #[.int .i64 0, .int .i64 0] 32)
      have Wwb := Lib.hid hwb
      have l_B7 := lt_of_heap b_B7
      have l_B8 := lt_of_heap b_B8
      replace BP := Lib.hid (cwb.at_ BP.out (by simp))
      replace BM := Lib.hid (cwb.at_ BM.out (by simp))
      replace C := Lib.hid (C.out.trans cwb)
      replace F3 := Lib.hid (F3.out.chg cwb (by simp))
      replace F4 := Lib.hid (F4.out.chg cwb (by simp))
      replace F6 := Lib.hid (F6.out.chg cwb (by simp))
      have B7 := Lib.hid (b_B7)
      have B8 := Lib.hid (b_B8)
      clear hwb cwb b_B7 b_B8
      go_upto_region 14 with fail
      rw [← Wwb.out]
      generalize wa.heap.size + 1 = s8 at *
      generalize wa.heap.size = s7 at *
      clear Wwb
      have z_B7_0 := cell_of B7.out 0
      have z_B7_1 := cell_of B7.out 1
      have z_B7_2 := cell_of B7.out 2
      have z_B7_3 := cell_of B7.out 3
      have z_B7_4 := cell_of B7.out 4
      have z_B8_0 := cell_of B8.out 0
      have z_BM_0 := cell_of BM.out 0
      have z_BM_1 := cell_of BM.out 1
      have z_BM_2 := cell_of BM.out 2
      have z_BM_3 := cell_of BM.out 3
      have z_BM_4 := cell_of BM.out 4
      simp only [List.getElem?_toArray, List.getElem?_cons_succ, List.getElem?_cons_zero] at z_B7_0 z_B7_1 z_B7_2 z_B7_3 z_B7_4 z_B8_0 z_BM_0 z_BM_1 z_BM_2 z_BM_3 z_BM_4
      go_wp2_with fail
      have r1 := samem_yes wb k i s z A6 A1 _ c6 _ c1 _ F6.out.reads (H1.out.chg C.out (by simp))
      refine (r1).mono ?_
      rintro e wc ⟨rfl, hc⟩
      clear z_B7_0 z_B7_1 z_B7_2 z_B7_3 z_B7_4 z_B8_0 z_BM_0 z_BM_1 z_BM_2 z_BM_3 z_BM_4
      replace BP := Lib.hid (hc.at_ BP.out (by simp))
      replace BM := Lib.hid (hc.at_ BM.out (by simp))
      replace B7 := Lib.hid (hc.at_ B7.out (by simp))
      replace B8 := Lib.hid (hc.at_ B8.out (by simp))
      replace C := Lib.hid (C.out.trans hc)
      replace F3 := Lib.hid (F3.out.chg hc (by simp))
      replace F4 := Lib.hid (F4.out.chg hc (by simp))
      replace F6 := Lib.hid (F6.out.chg hc (by simp))
      clear hc r1
      go_wp2_with fail
      have r1 := pcheckp_any wc 1 0 1 0 A4 (mO k i s z ys).length c4 (by have := HML.out; omega)
      rw [chkP_fine (by have := HML.out; unfold FineP inN; omega)] at r1
      refine (r1).mono ?_
      rintro e wd ⟨rfl, hc⟩
      replace BP := Lib.hid (hc.at_ BP.out (by simp))
      replace BM := Lib.hid (hc.at_ BM.out (by simp))
      replace B7 := Lib.hid (hc.at_ B7.out (by simp))
      replace B8 := Lib.hid (hc.at_ B8.out (by simp))
      replace C := Lib.hid (C.out.trans hc)
      replace F3 := Lib.hid (F3.out.chg hc (by simp))
      replace F4 := Lib.hid (F4.out.chg hc (by simp))
      replace F6 := Lib.hid (F6.out.chg hc (by simp))
      clear hc r1
      clear F6 B7 B8
      clear l_B7 l_B8 HML
      clear F3 F4 BP BM
      clear l_BP l_BM
      go_upto_region 16 with fail
      clear hml
      generalize wd = W at *
      clear hp hm
    case' P00 =>
      have z_BP_0 := cell_of BP.out 0
      have z_BP_1 := cell_of BP.out 1
      have z_BP_2 := cell_of BP.out 2
      have z_BP_3 := cell_of BP.out 3
      have z_BP_4 := cell_of BP.out 4
      have z_BM_0 := cell_of BM.out 0
      have z_BM_1 := cell_of BM.out 1
      have z_BM_2 := cell_of BM.out 2
      have z_BM_3 := cell_of BM.out 3
      have z_BM_4 := cell_of BM.out 4
      simp only [List.getElem?_toArray, List.getElem?_cons_succ, List.getElem?_cons_zero] at z_BP_0 z_BP_1 z_BP_2 z_BP_3 z_BP_4 z_BM_0 z_BM_1 z_BM_2 z_BM_3 z_BM_4
      go_wp2_with fail
      have r1 := pput_any w2 f t m a A0 _ c0 xs (H0.out.chg C.out (by simp)) hn0
      rw [chkP_odd hp] at r1
      refine (r1).mono ?_
      rintro e w3 ⟨A3, c3, rfl, f3⟩
      clear z_BP_0 z_BP_1 z_BP_2 z_BP_3 z_BP_4 z_BM_0 z_BM_1 z_BM_2 z_BM_3 z_BM_4
      replace BP := Lib.hid (f3.2.2.at_ BP.out (by simp))
      replace BM := Lib.hid (f3.2.2.at_ BM.out (by simp))
      replace C := Lib.hid (C.out.trans f3.2.2)
      have F3 := Lib.hid f3.1
      clear f3 r1
      have z_BM_0 := cell_of BM.out 0
      have z_BM_1 := cell_of BM.out 1
      have z_BM_2 := cell_of BM.out 2
      have z_BM_3 := cell_of BM.out 3
      have z_BM_4 := cell_of BM.out 4
      simp only [List.getElem?_toArray, List.getElem?_cons_succ, List.getElem?_cons_zero] at z_BM_0 z_BM_1 z_BM_2 z_BM_3 z_BM_4
      go_wp2_with fail
      have r1 := mputm_any w3 k i s z A1 _ c1 ys (H1.out.chg C.out (by simp)) hn1
      rw [chkM_odd hm] at r1
      refine (r1).mono ?_
      rintro e w4 ⟨A4, c4, rfl, f4⟩
      clear z_BM_0 z_BM_1 z_BM_2 z_BM_3 z_BM_4
      replace BP := Lib.hid (f4.2.2.at_ BP.out (by simp))
      replace BM := Lib.hid (f4.2.2.at_ BM.out (by simp))
      replace C := Lib.hid (C.out.trans f4.2.2)
      replace F3 := Lib.hid (F3.out.chg f4.2.2 (by simp))
      have F4 := Lib.hid f4.1
      clear f4 r1
      have z_BP_0 := cell_of BP.out 0
      have z_BP_1 := cell_of BP.out 1
      have z_BP_2 := cell_of BP.out 2
      have z_BP_3 := cell_of BP.out 3
      have z_BP_4 := cell_of BP.out 4
      simp only [List.getElem?_toArray, List.getElem?_cons_succ, List.getElem?_cons_zero] at z_BP_0 z_BP_1 z_BP_2 z_BP_3 z_BP_4
      go_wp2_with fail
      have r1 := pcheckp_any w4 f t m a A0 _ c0 hn0
      rw [chkP_odd hp] at r1
      refine (r1).mono ?_
      rintro e w5 ⟨rfl, hc⟩
      clear z_BP_0 z_BP_1 z_BP_2 z_BP_3 z_BP_4
      replace BP := Lib.hid (hc.at_ BP.out (by simp))
      replace BM := Lib.hid (hc.at_ BM.out (by simp))
      replace C := Lib.hid (C.out.trans hc)
      replace F3 := Lib.hid (F3.out.chg hc (by simp))
      replace F4 := Lib.hid (F4.out.chg hc (by simp))
      clear hc r1
      have z_BM_0 := cell_of BM.out 0
      have z_BM_1 := cell_of BM.out 1
      have z_BM_2 := cell_of BM.out 2
      have z_BM_3 := cell_of BM.out 3
      have z_BM_4 := cell_of BM.out 4
      simp only [List.getElem?_toArray, List.getElem?_cons_succ, List.getElem?_cons_zero] at z_BM_0 z_BM_1 z_BM_2 z_BM_3 z_BM_4
      go_wp2_with fail
      have r1 := mcheckm_any w5 k i s z A1 _ c1 hn1
      rw [chkM_odd hm] at r1
      refine (r1).mono ?_
      rintro e w6 ⟨rfl, hc⟩
      clear z_BM_0 z_BM_1 z_BM_2 z_BM_3 z_BM_4
      replace BP := Lib.hid (hc.at_ BP.out (by simp))
      replace BM := Lib.hid (hc.at_ BM.out (by simp))
      replace C := Lib.hid (C.out.trans hc)
      replace F3 := Lib.hid (F3.out.chg hc (by simp))
      replace F4 := Lib.hid (F4.out.chg hc (by simp))
      clear hc r1
      clear F3 F4 BP BM
      clear l_BP l_BM
      go_upto_region 16 with fail
      generalize w6 = W at *
      clear hp hm
  all_goals
    have HB := Lib.hid (H2.out.chg C.out (by simp))
    go_wp2_with fail
    have r1 := pget_any W A2 _ c2 zs HB.out hn2 hm2 hc2
    refine (r1).mono ?_
    rintro e v1 ⟨A3, c3, rfl, f3⟩
    replace C := Lib.hid (C.out.trans f3.2.2)
    replace HB := Lib.hid (HB.out.chg f3.2.2 (by simp))
    have F3 := Lib.hid f3.1
    clear f3 r1
    obtain ⟨v2, hv2, cv2, b_B5, b_B6⟩ := news2 v1 (.cells #[.int .i64 (readP zs).1.1, .int .i64 (readP zs).1.2.1, .int .i64 (readP zs).1.2.2.1, .int .i64 (readP zs).1.2.2.2.1, .slice A3 (readP zs).1.2.2.2.2.length c3] 24) (.cells #[.int .i64 (readP zs).2.1, .int .i64 (readP zs).2.2] 32)
    have Wv2 := Lib.hid hv2
    have l_B5 := lt_of_heap b_B5
    have l_B6 := lt_of_heap b_B6
    replace C := Lib.hid (C.out.trans cv2)
    replace HB := Lib.hid (HB.out.chg cv2 (by simp))
    replace F3 := Lib.hid (F3.out.chg cv2 (by simp))
    have B5 := Lib.hid (b_B5)
    have B6 := Lib.hid (b_B6)
    clear hv2 cv2 b_B5 b_B6
    go_upto_region 17 with fail
    rw [← Wv2.out]
    generalize v1.heap.size + 1 = s6 at *
    generalize v1.heap.size = s5 at *
    clear Wv2
    by_cases hg : (readP zs).2.1 = 0
    case' pos =>
      obtain ⟨hF, hO⟩ := readP_again hg
      have HF := Lib.hid hF
      have HO := Lib.hid hO
      rw [hg] at B6
      clear hF hO
      have z_B6_0 := cell_of B6.out 0
      simp only [List.getElem?_toArray, List.getElem?_cons_succ, List.getElem?_cons_zero] at z_B6_0
      go_upto_region 18 with fail
      clear z_B6_0
      have z_B5_0 := cell_of B5.out 0
      have z_B5_1 := cell_of B5.out 1
      have z_B5_2 := cell_of B5.out 2
      have z_B5_3 := cell_of B5.out 3
      have z_B5_4 := cell_of B5.out 4
      simp only [List.getElem?_toArray, List.getElem?_cons_succ, List.getElem?_cons_zero] at z_B5_0 z_B5_1 z_B5_2 z_B5_3 z_B5_4
      go_wp2_with fail
      have r1 := pput_any v2 (readP zs).1.1 (readP zs).1.2.1 (readP zs).1.2.2.1 (readP zs).1.2.2.2.1 A3 _ c3 (readP zs).1.2.2.2.2 F3.out.reads (by have := HF.out.2.2.2.2.2.1; omega)
      rw [chkP_fine HF.out, HO.out] at r1
      refine (r1).mono ?_
      rintro e v3 ⟨A4, c4, rfl, f4⟩
      clear z_B5_0 z_B5_1 z_B5_2 z_B5_3 z_B5_4
      replace B5 := Lib.hid (f4.2.2.at_ B5.out (by simp))
      replace B6 := Lib.hid (f4.2.2.at_ B6.out (by simp))
      replace C := Lib.hid (C.out.trans f4.2.2)
      replace HB := Lib.hid (HB.out.chg f4.2.2 (by simp))
      replace F3 := Lib.hid (F3.out.chg f4.2.2 (by simp))
      have F4 := Lib.hid f4.1
      clear f4 r1
      go_wp2_with fail
      refine (same_yes v3 A4 A2 _ _ c4 c2 zs zs F4.out.reads HB.out rfl).mono ?_
      rintro e v4 ⟨rfl, rfl⟩
      clear F4
      clear HF HO hg
      clear F3 B5
      clear B6
      go_upto_region 21 with fail
      clear l_B5 l_B6
      generalize v3 = V at *
      skip
    case' neg =>
      have hgb : ((readP zs).2.1 == 0) = false := by simpa using hg
      have z_B6_0 := cell_of B6.out 0
      simp only [List.getElem?_toArray, List.getElem?_cons_succ, List.getElem?_cons_zero] at z_B6_0
      go_upto_region 21 with fail
      clear z_B6_0
      clear F3 B5 B6
      clear hgb hg
      clear l_B5 l_B6
      generalize v2 = V at *
      skip
    all_goals
      go_wp2_with fail
      have r1 := mgetm_any V A2 _ c2 zs HB.out hn2
      refine (r1).mono ?_
      rintro e u1 ⟨A3, c3, rfl, f3⟩
      replace C := Lib.hid (C.out.trans f3.2.2)
      replace HB := Lib.hid (HB.out.chg f3.2.2 (by simp))
      have F3 := Lib.hid f3.1
      clear f3 r1
      obtain ⟨u2, hu2, cu2, b_B7, b_B8⟩ := news2 u1 (.cells #[.int .i64 (readM zs).1.1, .int .i64 (readM zs).1.2.1, .int .i64 (readM zs).1.2.2.1, .int .i64 (readM zs).1.2.2.2.1, .slice A3 (readM zs).1.2.2.2.2.length c3] 41) (.cells #[.int .i64 (readM zs).2.1, .int .i64 (readM zs).2.2] 32)
      have Wu2 := Lib.hid hu2
      have l_B7 := lt_of_heap b_B7
      have l_B8 := lt_of_heap b_B8
      replace C := Lib.hid (C.out.trans cu2)
      replace HB := Lib.hid (HB.out.chg cu2 (by simp))
      replace F3 := Lib.hid (F3.out.chg cu2 (by simp))
      have B7 := Lib.hid (b_B7)
      have B8 := Lib.hid (b_B8)
      clear hu2 cu2 b_B7 b_B8
      go_upto_region 22 with fail
      rw [← Wu2.out]
      generalize u1.heap.size + 1 = s8 at *
      generalize u1.heap.size = s7 at *
      clear Wu2
      by_cases hg : (readM zs).2.1 = 0
      · obtain ⟨hF, hO⟩ := readM_again hg
        have HF := Lib.hid hF
        have HO := Lib.hid hO
        rw [hg] at B8
        clear hF hO
        have z_B8_0 := cell_of B8.out 0
        simp only [List.getElem?_toArray, List.getElem?_cons_succ, List.getElem?_cons_zero] at z_B8_0
        go_upto_region 24 with fail
        clear z_B8_0
        have z_B7_0 := cell_of B7.out 0
        have z_B7_1 := cell_of B7.out 1
        have z_B7_2 := cell_of B7.out 2
        have z_B7_3 := cell_of B7.out 3
        have z_B7_4 := cell_of B7.out 4
        simp only [List.getElem?_toArray, List.getElem?_cons_succ, List.getElem?_cons_zero] at z_B7_0 z_B7_1 z_B7_2 z_B7_3 z_B7_4
        go_wp2_with fail
        have hlen : (readM zs).1.2.2.2.2.length ≤ 200 := by have := HF.out.2.2; unfold PartP at this; omega
        have r1 := mputm_any u2 (readM zs).1.1 (readM zs).1.2.1 (readM zs).1.2.2.1 (readM zs).1.2.2.2.1 A3 _ c3 (readM zs).1.2.2.2.2 F3.out.reads (by omega)
        rw [chkM_fine HF.out, HO.out] at r1
        clear hlen
        refine (r1).mono ?_
        rintro e u3 ⟨A4, c4, rfl, f4⟩
        clear z_B7_0 z_B7_1 z_B7_2 z_B7_3 z_B7_4
        replace B7 := Lib.hid (f4.2.2.at_ B7.out (by simp))
        replace B8 := Lib.hid (f4.2.2.at_ B8.out (by simp))
        replace C := Lib.hid (C.out.trans f4.2.2)
        replace HB := Lib.hid (HB.out.chg f4.2.2 (by simp))
        replace F3 := Lib.hid (F3.out.chg f4.2.2 (by simp))
        have F4 := Lib.hid f4.1
        clear f4 r1
        go_wp2_with fail
        refine (same_yes u3 A4 A2 _ _ c4 c2 zs zs F4.out.reads HB.out rfl).mono ?_
        rintro e u4 ⟨rfl, rfl⟩
        go_wp2_with fail
        go_ret
        exact ⟨rfl, C.out⟩
      · have hk := readM_fault hg
        have hgb : (!((readM zs).2.1 == 0)) = true := by simpa using hg
        have hgc : ((readM zs).2.1 == 0) = false := by simpa using hg
        rw [hk] at B7
        have z_B8_0 := cell_of B8.out 0
        have z_B7_0 := cell_of B7.out 0
        simp only [List.getElem?_toArray, List.getElem?_cons_succ, List.getElem?_cons_zero] at z_B8_0 z_B7_0
        clear hk
        go_wp2_with fail
        go_ret
        exact ⟨rfl, C.out⟩
end Go.Proofs.Ytelbahfmkpncaaa
