/- The walk of FrameMessages. -/
import Derived.Test.YtelbahfmkpncaaaMkit
namespace Go.Proofs.Ytelbahfmkpncaaa
open Go.RowKit
set_option linter.unusedSimpArgs false
set_option linter.unusedVariables false


set_option maxHeartbeats 16000000 in
theorem fmessages_yes (w : World) (k i s a : Int) (A0 : Option Addr) (n0 c0 : Nat) (xs : List UInt8) (h0 : Bs w A0 n0 xs) (hn0 : n0 ≤ 140737488351232) (A1 : Option Addr) (n1 c1 : Nat) (ys : List UInt8) (h1 : Bs w A1 n1 ys) (hn1 : n1 ≤ 140737488351232) (hm1 : n1 ≤ c1) (hc1 : c1 ≤ 9223372036854775807) :
    Calls Try.prog 4 #[.agg #[.int .i64 k, .int .i64 i, .int .i64 s, .int .i64 a, .slice A0 n0 c0], .slice A1 n1 c1] w fun r w' => r = .returned (.bool true) ∧ Chg [] w w' := by
  have hl := h0.len
  have hl' := h1.len
  subst hl hl'
  have C := Lib.hid (Chg.refl [] w)
  have H0 := Lib.hid h0
  have H1 := Lib.hid h1
  have H00 := Lib.hid h0
  have H11 := Lib.hid h1
  clear h0 h1
  obtain ⟨w1, hw1, cw1, b_BP⟩ := news1 w (.cells #[.int .i64 k, .int .i64 i, .int .i64 s, .int .i64 a, .slice A0 xs.length c0] 41)
  have Ww1 := Lib.hid hw1
  have l_BP := lt_of_heap b_BP
  replace C := Lib.hid (C.out.trans cw1)
  replace H0 := Lib.hid (H0.out.chg cw1 (by simp))
  replace H1 := Lib.hid (H1.out.chg cw1 (by simp))
  have BP := Lib.hid (b_BP)
  clear hw1 cw1 b_BP
  go_enter Try.func4, Try.ntmps4
  go_upto_region 1 with fail
  rw [← Ww1.out]
  generalize w.heap.size = s0 at *
  clear Ww1
  have z_BP_4 := cell_of BP.out 4
  simp only [List.getElem?_toArray, List.getElem?_cons_succ, List.getElem?_cons_zero] at z_BP_4
  by_cases hx : 400 < xs.length ∨ 500 < ys.length
  · rcases hx with hx | hx
    · skip
      go_wp2_with fail
      clear z_BP_4
      refine (awake17_any w1).mono ?_
      rintro e wa ⟨rfl, ca⟩
      replace BP := Lib.hid (ca.at_ BP.out (by simp))
      replace C := Lib.hid (C.out.trans ca)
      replace H0 := Lib.hid (H0.out.chg ca (by simp))
      replace H1 := Lib.hid (H1.out.chg ca (by simp))
      clear ca
      go_wp2
      go_ret
      exact ⟨rfl, C.out⟩
    · by_cases hx2 : 400 < xs.length
      · skip
        go_wp2_with fail
        clear z_BP_4
        refine (awake17_any w1).mono ?_
        rintro e wa ⟨rfl, ca⟩
        replace BP := Lib.hid (ca.at_ BP.out (by simp))
        replace C := Lib.hid (C.out.trans ca)
        replace H0 := Lib.hid (H0.out.chg ca (by simp))
        replace H1 := Lib.hid (H1.out.chg ca (by simp))
        clear ca
        go_wp2
        go_ret
        exact ⟨rfl, C.out⟩
      · skip
        go_wp2_with fail
        clear z_BP_4
        refine (awake17_any w1).mono ?_
        rintro e wa ⟨rfl, ca⟩
        replace BP := Lib.hid (ca.at_ BP.out (by simp))
        replace C := Lib.hid (C.out.trans ca)
        replace H0 := Lib.hid (H0.out.chg ca (by simp))
        replace H1 := Lib.hid (H1.out.chg ca (by simp))
        clear ca
        go_wp2
        go_ret
        exact ⟨rfl, C.out⟩
  have hx0 : ¬ 400 < xs.length := fun h => hx (.inl h)
  have hy0 : ¬ 500 < ys.length := fun h => hx (.inr h)
  clear hx
  clear z_BP_4
  have z_BP_0 := cell_of BP.out 0
  have z_BP_1 := cell_of BP.out 1
  have z_BP_2 := cell_of BP.out 2
  have z_BP_3 := cell_of BP.out 3
  have z_BP_4 := cell_of BP.out 4
  simp only [List.getElem?_toArray, List.getElem?_cons_succ, List.getElem?_cons_zero] at z_BP_0 z_BP_1 z_BP_2 z_BP_3 z_BP_4
  go_wp2_with fail
  refine (copym_any w1 k i s a A0 _ c0 xs H0.out hn0).mono ?_
  rintro e w2 ⟨Ac, cc, rfl, fc⟩
  clear z_BP_0 z_BP_1 z_BP_2 z_BP_3 z_BP_4
  replace BP := Lib.hid (fc.2.2.at_ BP.out (by simp))
  replace C := Lib.hid (C.out.trans fc.2.2)
  replace H0 := Lib.hid (H0.out.chg fc.2.2 (by simp))
  replace H1 := Lib.hid (H1.out.chg fc.2.2 (by simp))
  have FC := Lib.hid fc.1
  have z21 := fc.2.2.size
  have ltc := fc.1.lt
  have LC := Lib.hid ltc
  clear fc ltc
  go_wp2_with fail
  refine (lent_any w2 A1 _ c1 ys H1.out hn1).mono ?_
  rintro e w3 ⟨g, rfl, hL, hg, cl⟩
  replace BP := Lib.hid (cl.at_ BP.out (by simp))
  replace C := Lib.hid (C.out.trans cl)
  replace H0 := Lib.hid (H0.out.chg cl (by simp))
  replace H1 := Lib.hid (H1.out.chg cl (by simp))
  replace FC := Lib.hid (FC.out.chg cl (by simp))
  have L := Lib.hid hL
  have z32 := cl.size
  have ltg := hL.old
  clear hL hg cl
  obtain ⟨w4, hw4, cw4, b_B5⟩ := news1 w3 (.cells #[.int .i64 k, .int .i64 i, .int .i64 s, .int .i64 a, .slice Ac xs.length cc] 41)
  have Ww4 := Lib.hid hw4
  have l_B5 := lt_of_heap b_B5
  replace BP := Lib.hid (cw4.at_ BP.out (by simp))
  replace C := Lib.hid (C.out.trans cw4)
  replace H0 := Lib.hid (H0.out.chg cw4 (by simp))
  replace H1 := Lib.hid (H1.out.chg cw4 (by simp))
  replace FC := Lib.hid (FC.out.chg cw4 (by simp))
  replace L := Lib.hid (L.out.chg cw4 (by simp))
  have B5 := Lib.hid (b_B5)
  clear hw4 cw4 b_B5
  have z_B5_0 := cell_of B5.out 0
  have z_B5_1 := cell_of B5.out 1
  have z_B5_2 := cell_of B5.out 2
  have z_B5_3 := cell_of B5.out 3
  have z_B5_4 := cell_of B5.out 4
  simp only [List.getElem?_toArray, List.getElem?_cons_succ, List.getElem?_cons_zero] at z_B5_0 z_B5_1 z_B5_2 z_B5_3 z_B5_4
  have e5 : w4.heap.size = w3.heap.size + 1 := by rw [Ww4.out]; simp
  go_upto_region 4 with fail
  rw [← Ww4.out]
  generalize w3.heap.size = s5 at *
  clear Ww4
  have z40 := C.out.size
  go_wp2_with fail
  refine (mputm_any w4 k i s a Ac _ cc xs FC.out.reads hn0).mono ?_
  rintro e w5 ⟨A2, c2, rfl, f2⟩
  clear z_B5_0 z_B5_1 z_B5_2 z_B5_3 z_B5_4
  replace BP := Lib.hid (f2.2.2.at_ BP.out (by simp))
  replace B5 := Lib.hid (f2.2.2.at_ B5.out (by simp))
  replace C := Lib.hid (C.out.trans f2.2.2)
  replace H0 := Lib.hid (H0.out.chg f2.2.2 (by simp))
  replace H1 := Lib.hid (H1.out.chg f2.2.2 (by simp))
  replace FC := Lib.hid (FC.out.chg f2.2.2 (by simp))
  replace L := Lib.hid (L.out.chg f2.2.2 (by simp))
  have F2 := Lib.hid f2.1
  have lo2 := f2.2.1
  have hi2 := f2.1.lt
  have LO2 := Lib.hid lo2
  have HI2 := Lib.hid hi2
  have z54 := f2.2.2.size
  clear f2 lo2 hi2
  have z_BP_0 := cell_of BP.out 0
  have z_BP_1 := cell_of BP.out 1
  have z_BP_2 := cell_of BP.out 2
  have z_BP_3 := cell_of BP.out 3
  have z_BP_4 := cell_of BP.out 4
  simp only [List.getElem?_toArray, List.getElem?_cons_succ, List.getElem?_cons_zero] at z_BP_0 z_BP_1 z_BP_2 z_BP_3 z_BP_4
  go_wp2_with fail
  refine (nputm_any w5 k i s a A0 _ c0 xs H0.out hn0).mono ?_
  rintro e w6 ⟨A3, c3, rfl, f3⟩
  clear z_BP_0 z_BP_1 z_BP_2 z_BP_3 z_BP_4
  replace BP := Lib.hid (f3.2.2.at_ BP.out (by simp))
  replace B5 := Lib.hid (f3.2.2.at_ B5.out (by simp))
  replace C := Lib.hid (C.out.trans f3.2.2)
  replace H0 := Lib.hid (H0.out.chg f3.2.2 (by simp))
  replace H1 := Lib.hid (H1.out.chg f3.2.2 (by simp))
  replace FC := Lib.hid (FC.out.chg f3.2.2 (by simp))
  replace L := Lib.hid (L.out.chg f3.2.2 (by simp))
  replace F2 := Lib.hid (F2.out.chg f3.2.2 (by simp))
  have F3 := Lib.hid f3.1
  have z65 := f3.2.2.size
  clear f3
  go_wp2_with fail
  have hgt := mgetm_any w6 (some ⟨g, 0, none⟩) ys.length (ys.length + 3) ys L.out.reads hn1
  refine (hgt).mono ?_
  rintro e w7 ⟨A4, c4, rfl, f4⟩
  replace BP := Lib.hid (f4.2.2.at_ BP.out (by simp))
  replace B5 := Lib.hid (f4.2.2.at_ B5.out (by simp))
  replace C := Lib.hid (C.out.trans f4.2.2)
  replace H0 := Lib.hid (H0.out.chg f4.2.2 (by simp))
  replace H1 := Lib.hid (H1.out.chg f4.2.2 (by simp))
  replace FC := Lib.hid (FC.out.chg f4.2.2 (by simp))
  replace L := Lib.hid (L.out.chg f4.2.2 (by simp))
  replace F2 := Lib.hid (F2.out.chg f4.2.2 (by simp))
  replace F3 := Lib.hid (F3.out.chg f4.2.2 (by simp))
  have F4 := Lib.hid f4.1
  have lo4 := f4.2.1
  have hi4 := f4.1.lt
  have LO4 := Lib.hid lo4
  have HI4 := Lib.hid hi4
  have z76 := f4.2.2.size
  clear f4 lo4 hi4 hgt
  obtain ⟨w8, hw8, cw8, b_B6, b_B7⟩ := news2 w7 (.cells #[.int .i64 (readM ys).1.1, .int .i64 (readM ys).1.2.1, .int .i64 (readM ys).1.2.2.1, .int .i64 (readM ys).1.2.2.2.1, .slice A4 (readM ys).1.2.2.2.2.length c4] 41) (.cells #[.int .i64 (readM ys).2.1, .int .i64 (readM ys).2.2] 32)
  have Ww8 := Lib.hid hw8
  have l_B6 := lt_of_heap b_B6
  have l_B7 := lt_of_heap b_B7
  replace BP := Lib.hid (cw8.at_ BP.out (by simp))
  replace B5 := Lib.hid (cw8.at_ B5.out (by simp))
  replace C := Lib.hid (C.out.trans cw8)
  replace H0 := Lib.hid (H0.out.chg cw8 (by simp))
  replace H1 := Lib.hid (H1.out.chg cw8 (by simp))
  replace FC := Lib.hid (FC.out.chg cw8 (by simp))
  replace L := Lib.hid (L.out.chg cw8 (by simp))
  replace F2 := Lib.hid (F2.out.chg cw8 (by simp))
  replace F3 := Lib.hid (F3.out.chg cw8 (by simp))
  replace F4 := Lib.hid (F4.out.chg cw8 (by simp))
  have B6 := Lib.hid (b_B6)
  have B7 := Lib.hid (b_B7)
  clear hw8 cw8 b_B6 b_B7
  have e8 : w8.heap.size = w7.heap.size + 2 := by rw [Ww8.out]; simp
  go_upto_region 7 with fail
  have k6 := Nat.le_refl w7.heap.size
  rw [← Ww8.out]
  generalize w7.heap.size + 1 = s7 at *
  generalize w7.heap.size = s6 at *
  clear Ww8
  go_wp2_with fail
  have hgt := ngetm_any w8 A1 ys.length c1 ys H1.out hn1 hm1 hc1
  refine (hgt).mono ?_
  rintro e w9 ⟨A5, c5, rfl, f5⟩
  replace BP := Lib.hid (f5.2.2.at_ BP.out (by simp))
  replace B5 := Lib.hid (f5.2.2.at_ B5.out (by simp))
  replace B6 := Lib.hid (f5.2.2.at_ B6.out (by simp))
  replace B7 := Lib.hid (f5.2.2.at_ B7.out (by simp))
  replace C := Lib.hid (C.out.trans f5.2.2)
  replace H0 := Lib.hid (H0.out.chg f5.2.2 (by simp))
  replace H1 := Lib.hid (H1.out.chg f5.2.2 (by simp))
  replace FC := Lib.hid (FC.out.chg f5.2.2 (by simp))
  replace L := Lib.hid (L.out.chg f5.2.2 (by simp))
  replace F2 := Lib.hid (F2.out.chg f5.2.2 (by simp))
  replace F3 := Lib.hid (F3.out.chg f5.2.2 (by simp))
  replace F4 := Lib.hid (F4.out.chg f5.2.2 (by simp))
  have F5 := Lib.hid f5.1
  clear f5 hgt
  obtain ⟨wa, hwa, cwa, b_B8, b_B9⟩ := news2 w9 (.cells #[.int .i64 (readM ys).1.1, .int .i64 (readM ys).1.2.1, .int .i64 (readM ys).1.2.2.1, .int .i64 (readM ys).1.2.2.2.1, .slice A5 (readM ys).1.2.2.2.2.length c5] 41) (.cells #[.int .i64 (readM ys).2.1, .int .i64 (readM ys).2.2] 32)
  have Wwa := Lib.hid hwa
  have l_B8 := lt_of_heap b_B8
  have l_B9 := lt_of_heap b_B9
  replace BP := Lib.hid (cwa.at_ BP.out (by simp))
  replace B5 := Lib.hid (cwa.at_ B5.out (by simp))
  replace B6 := Lib.hid (cwa.at_ B6.out (by simp))
  replace B7 := Lib.hid (cwa.at_ B7.out (by simp))
  replace C := Lib.hid (C.out.trans cwa)
  replace H0 := Lib.hid (H0.out.chg cwa (by simp))
  replace H1 := Lib.hid (H1.out.chg cwa (by simp))
  replace FC := Lib.hid (FC.out.chg cwa (by simp))
  replace L := Lib.hid (L.out.chg cwa (by simp))
  replace F2 := Lib.hid (F2.out.chg cwa (by simp))
  replace F3 := Lib.hid (F3.out.chg cwa (by simp))
  replace F4 := Lib.hid (F4.out.chg cwa (by simp))
  replace F5 := Lib.hid (F5.out.chg cwa (by simp))
  have B8 := Lib.hid (b_B8)
  have B9 := Lib.hid (b_B9)
  clear hwa cwa b_B8 b_B9
  go_upto_region 8 with fail
  rw [← Wwa.out]
  generalize w9.heap.size + 1 = s9 at *
  generalize w9.heap.size = s8 at *
  clear Wwa
  generalize hpo : mO k i s a xs = po at *
  generalize hck : chkM k i s a xs.length = ck at *
  have HPO := Lib.hid hpo
  have HCK := Lib.hid hck
  clear hpo hck
  generalize readM ys = R at *
  have hk : ∀ w', Chg [] wa w' → w'.cell? ⟨s0, 0, none⟩ = some (.int .i64 k) ∧ w'.cell? ⟨s0, 1, none⟩ = some (.int .i64 i) ∧ w'.cell? ⟨s0, 2, none⟩ = some (.int .i64 s) ∧ w'.cell? ⟨s0, 3, none⟩ = some (.int .i64 a) ∧ w'.cell? ⟨s0, 4, none⟩ = some (.slice A0 xs.length c0) ∧ w'.cell? ⟨s5, 0, none⟩ = some (.int .i64 k) ∧ w'.cell? ⟨s5, 1, none⟩ = some (.int .i64 i) ∧ w'.cell? ⟨s5, 2, none⟩ = some (.int .i64 s) ∧ w'.cell? ⟨s5, 3, none⟩ = some (.int .i64 a) ∧ w'.cell? ⟨s5, 4, none⟩ = some (.slice Ac xs.length cc) ∧ w'.cell? ⟨s6, 0, none⟩ = some (.int .i64 R.1.1) ∧ w'.cell? ⟨s6, 1, none⟩ = some (.int .i64 R.1.2.1) ∧ w'.cell? ⟨s6, 2, none⟩ = some (.int .i64 R.1.2.2.1) ∧ w'.cell? ⟨s6, 3, none⟩ = some (.int .i64 R.1.2.2.2.1) ∧ w'.cell? ⟨s6, 4, none⟩ = some (.slice A4 R.1.2.2.2.2.length c4) ∧ w'.cell? ⟨s7, 0, none⟩ = some (.int .i64 R.2.1) ∧ w'.cell? ⟨s7, 1, none⟩ = some (.int .i64 R.2.2) ∧ w'.cell? ⟨s8, 0, none⟩ = some (.int .i64 R.1.1) ∧ w'.cell? ⟨s8, 1, none⟩ = some (.int .i64 R.1.2.1) ∧ w'.cell? ⟨s8, 2, none⟩ = some (.int .i64 R.1.2.2.1) ∧ w'.cell? ⟨s8, 3, none⟩ = some (.int .i64 R.1.2.2.2.1) ∧ w'.cell? ⟨s8, 4, none⟩ = some (.slice A5 R.1.2.2.2.2.length c5) ∧ w'.cell? ⟨s9, 0, none⟩ = some (.int .i64 R.2.1) ∧ w'.cell? ⟨s9, 1, none⟩ = some (.int .i64 R.2.2) ∧ Chg [] wa w' := by
    intro w' hc
    have b_BP := hc.at_ BP.out (by simp)
    have b_B5 := hc.at_ B5.out (by simp)
    have b_B6 := hc.at_ B6.out (by simp)
    have b_B7 := hc.at_ B7.out (by simp)
    have b_B8 := hc.at_ B8.out (by simp)
    have b_B9 := hc.at_ B9.out (by simp)
    exact ⟨cell_of b_BP 0, cell_of b_BP 1, cell_of b_BP 2, cell_of b_BP 3, cell_of b_BP 4, cell_of b_B5 0, cell_of b_B5 1, cell_of b_B5 2, cell_of b_B5 3, cell_of b_B5 4, cell_of b_B6 0, cell_of b_B6 1, cell_of b_B6 2, cell_of b_B6 3, cell_of b_B6 4, cell_of b_B7 0, cell_of b_B7 1, cell_of b_B8 0, cell_of b_B8 1, cell_of b_B8 2, cell_of b_B8 3, cell_of b_B8 4, cell_of b_B9 0, cell_of b_B9 1, hc⟩
  have HK := Lib.hid hk
  clear hk
  go_region_held3 (fun w' => w'.cell? ⟨s0, 0, none⟩ = some (.int .i64 k) ∧ w'.cell? ⟨s0, 1, none⟩ = some (.int .i64 i) ∧ w'.cell? ⟨s0, 2, none⟩ = some (.int .i64 s) ∧ w'.cell? ⟨s0, 3, none⟩ = some (.int .i64 a) ∧ w'.cell? ⟨s0, 4, none⟩ = some (.slice A0 xs.length c0) ∧ w'.cell? ⟨s5, 0, none⟩ = some (.int .i64 k) ∧ w'.cell? ⟨s5, 1, none⟩ = some (.int .i64 i) ∧ w'.cell? ⟨s5, 2, none⟩ = some (.int .i64 s) ∧ w'.cell? ⟨s5, 3, none⟩ = some (.int .i64 a) ∧ w'.cell? ⟨s5, 4, none⟩ = some (.slice Ac xs.length cc) ∧ w'.cell? ⟨s6, 0, none⟩ = some (.int .i64 R.1.1) ∧ w'.cell? ⟨s6, 1, none⟩ = some (.int .i64 R.1.2.1) ∧ w'.cell? ⟨s6, 2, none⟩ = some (.int .i64 R.1.2.2.1) ∧ w'.cell? ⟨s6, 3, none⟩ = some (.int .i64 R.1.2.2.2.1) ∧ w'.cell? ⟨s6, 4, none⟩ = some (.slice A4 R.1.2.2.2.2.length c4) ∧ w'.cell? ⟨s7, 0, none⟩ = some (.int .i64 R.2.1) ∧ w'.cell? ⟨s7, 1, none⟩ = some (.int .i64 R.2.2) ∧ w'.cell? ⟨s8, 0, none⟩ = some (.int .i64 R.1.1) ∧ w'.cell? ⟨s8, 1, none⟩ = some (.int .i64 R.1.2.1) ∧ w'.cell? ⟨s8, 2, none⟩ = some (.int .i64 R.1.2.2.1) ∧ w'.cell? ⟨s8, 3, none⟩ = some (.int .i64 R.1.2.2.2.1) ∧ w'.cell? ⟨s8, 4, none⟩ = some (.slice A5 R.1.2.2.2.2.length c5) ∧ w'.cell? ⟨s9, 0, none⟩ = some (.int .i64 R.2.1) ∧ w'.cell? ⟨s9, 1, none⟩ = some (.int .i64 R.2.2) ∧ Chg [] wa w')
    (first | exact HK.out _ hC | exact HK.out _ (Chg.refl [] wa).drew | (have hC := (‹_ ∧ _ ∧ _ ∧ _ ∧ _ ∧ _ ∧ _ ∧ _ ∧ _ ∧ _ ∧ _ ∧ _ ∧ _ ∧ _ ∧ _ ∧ _ ∧ _ ∧ _ ∧ _ ∧ _ ∧ _ ∧ _ ∧ _ ∧ _ ∧ Chg [] wa _›).2.2.2.2.2.2.2.2.2.2.2.2.2.2.2.2.2.2.2.2.2.2.2.2; first | exact HK.out _ (hC.allocD _) | exact HK.out _ (hC.alloc _) | exact HK.out _ hC.drew | exact HK.out _ hC))
    (((have hC := (‹_ ∧ _ ∧ _ ∧ _ ∧ _ ∧ _ ∧ _ ∧ _ ∧ _ ∧ _ ∧ _ ∧ _ ∧ _ ∧ _ ∧ _ ∧ _ ∧ _ ∧ _ ∧ _ ∧ _ ∧ _ ∧ _ ∧ _ ∧ _ ∧ Chg [] wa _›).2.2.2.2.2.2.2.2.2.2.2.2.2.2.2.2.2.2.2.2.2.2.2.2); (first
      | (go_at_call 15; refine (same_yes _ A2 A3 _ _ _ _ po po ((F2.out.chg hC (by simp)).reads) ((F3.out.chg hC (by simp)).reads) rfl).mono ?_; rintro e w9 ⟨rfl, rfl⟩)
      | (go_at_call 26; (with_reducible refine (samem_yes _ _ _ _ _ A4 A5 _ _ _ _ _ ((F4.out.chg hC (by simp)).reads) ((F5.out.chg hC (by simp)).reads)).mono ?_); rintro e w9 ⟨rfl, hc⟩; have hC := hC.trans hc; clear hc)
      | (go_at_call 27; (with_reducible refine (mcheckm_any _ k i s a _ _ _ hn0).mono ?_); rw [HCK.out]; rintro e w9 ⟨rfl, hc⟩; have hC := hC.trans hc; clear hc)
      | (go_at_call 28; (with_reducible refine (ncheckm_any _ k i s a _ _ _ hn0).mono ?_); rw [HCK.out]; rintro e w9 ⟨rfl, hc⟩; have hC := hC.trans hc; clear hc))))
  all_goals
    have hC := (‹_ ∧ _ ∧ _ ∧ _ ∧ _ ∧ _ ∧ _ ∧ _ ∧ _ ∧ _ ∧ _ ∧ _ ∧ _ ∧ _ ∧ _ ∧ _ ∧ _ ∧ _ ∧ _ ∧ _ ∧ _ ∧ _ ∧ _ ∧ _ ∧ Chg [] wa _›).2.2.2.2.2.2.2.2.2.2.2.2.2.2.2.2.2.2.2.2.2.2.2.2
    have hcc := Lib.hid hC
    clear hC
    replace BP := Lib.hid (hcc.out.at_ BP.out (by simp))
    replace B5 := Lib.hid (hcc.out.at_ B5.out (by simp))
    replace B6 := Lib.hid (hcc.out.at_ B6.out (by simp))
    replace B7 := Lib.hid (hcc.out.at_ B7.out (by simp))
    replace B8 := Lib.hid (hcc.out.at_ B8.out (by simp))
    replace B9 := Lib.hid (hcc.out.at_ B9.out (by simp))
    replace C := Lib.hid (C.out.trans hcc.out)
    replace H0 := Lib.hid (H0.out.chg hcc.out (by simp))
    replace H1 := Lib.hid (H1.out.chg hcc.out (by simp))
    replace FC := Lib.hid (FC.out.chg hcc.out (by simp))
    replace L := Lib.hid (L.out.chg hcc.out (by simp))
    replace F2 := Lib.hid (F2.out.chg hcc.out (by simp))
    replace F3 := Lib.hid (F3.out.chg hcc.out (by simp))
    replace F4 := Lib.hid (F4.out.chg hcc.out (by simp))
    replace F5 := Lib.hid (F5.out.chg hcc.out (by simp))
    clear hcc
    go_upto_region 9 with fail
    go_wp2_with fail
    refine (over_own _ A2 c2 _ po F2.out rfl).mono ?_
    rintro e wb ⟨rfl, h7⟩
    have cb := h7 (blkOf A2) (fun _ e => mem_blkOf e)
    clear h7
    replace BP := Lib.hid (cb.at_ BP.out (notin_lo LO2.out (by omega)))
    replace B5 := Lib.hid (cb.at_ B5.out (notin_lo LO2.out (by omega)))
    replace B6 := Lib.hid (cb.at_ B6.out (notin_hi HI2.out (by omega)))
    replace F4 := Lib.hid (F4.out.chg cb (fun a e => notin_hi HI2.out (by have := LO4.out a e; omega)))
    replace FC := Lib.hid (FC.out.chg cb (fun a e => notin_lo LO2.out (by have := LC.out a e; omega)))
    replace L := Lib.hid (L.out.chg cb (notin_lo LO2.out (by omega)))
    have CB := Lib.hid (C.out.trans' cb (fun i hi => .inr (by have := blkOf_new LO2.out i hi; omega)))
    clear cb
    have z := cell_of B6.out 4
    simp only [List.getElem?_toArray, List.getElem?_cons_succ, List.getElem?_cons_zero] at z
    go_wp2_with fail
    clear z
    refine (over_own _ A4 c4 _ _ F4.out rfl).mono ?_
    rintro e wc ⟨rfl, h7⟩
    have cb := h7 (blkOf A4) (fun _ e => mem_blkOf e)
    clear h7
    replace BP := Lib.hid (cb.at_ BP.out (notin_lo LO4.out (by omega)))
    replace B5 := Lib.hid (cb.at_ B5.out (notin_lo LO4.out (by omega)))
    replace FC := Lib.hid (FC.out.chg cb (fun a e => notin_lo LO4.out (by have := LC.out a e; omega)))
    replace L := Lib.hid (L.out.chg cb (notin_lo LO4.out (by omega)))
    have CD := Lib.hid (CB.out.trans' cb (fun i hi => .inr (by have := blkOf_new LO4.out i hi; omega)))
    clear cb B6 B7 B8 B9 F2 F3 F4 F5 C CB H0 H1
    have z_BP_0 := cell_of BP.out 0
    have z_BP_1 := cell_of BP.out 1
    have z_BP_2 := cell_of BP.out 2
    have z_BP_3 := cell_of BP.out 3
    have z_BP_4 := cell_of BP.out 4
    have z_B5_0 := cell_of B5.out 0
    have z_B5_1 := cell_of B5.out 1
    have z_B5_2 := cell_of B5.out 2
    have z_B5_3 := cell_of B5.out 3
    have z_B5_4 := cell_of B5.out 4
    simp only [List.getElem?_toArray, List.getElem?_cons_succ, List.getElem?_cons_zero] at z_BP_0 z_BP_1 z_BP_2 z_BP_3 z_BP_4 z_B5_0 z_B5_1 z_B5_2 z_B5_3 z_B5_4
    go_wp2_with fail
    clear z_BP_0 z_BP_1 z_BP_2 z_BP_3 z_BP_4 z_B5_0 z_B5_1 z_B5_2 z_B5_3 z_B5_4
    refine (samem_yes wc k i s a Ac A0 _ _ _ _ _ FC.out.reads (H00.out.chg CD.out (by simp))).mono ?_
    rintro e wd ⟨rfl, hc⟩
    replace L := Lib.hid (L.out.chg hc (by simp))
    replace CD := Lib.hid (CD.out.trans hc)
    clear hc
    go_wp2_with fail
    refine (kept_any wd g A1 _ c1 ys L.out (H11.out.chg CD.out (by simp)) hn1).mono ?_
    rintro e we ⟨rfl, hc⟩
    replace CD := Lib.hid (CD.out.trans hc)
    clear hc
    go_wp2_with fail
    refine (awake17_any we).mono ?_
    rintro e wf ⟨rfl, hc⟩
    replace CD := Lib.hid (CD.out.trans hc)
    clear hc
    go_wp2_with fail
    go_ret
    exact ⟨rfl, CD.out⟩
end Go.Proofs.Ytelbahfmkpncaaa
