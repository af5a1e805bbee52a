/- GetMessage of the other messages. -/
import Derived.Test.YtelbahfmkpncaaaMget1
namespace Go.Proofs.Ytelbahfmkpncaaa
open Go.RowKit
set_option linter.unusedSimpArgs false
set_option linter.unusedVariables false


set_option maxHeartbeats 8000000 in
theorem mget_full (w : World) (A : Option Addr) (c : Nat) (xs : List UInt8) (h : Bs w A xs.length xs) (hn : xs.length ≤ 140737488351232) (hk : (mN1 xs).1 = 2) :
    Calls Try.prog 24 #[.slice A xs.length c] w (ReadMPost w (readM xs)) := by
  obtain ⟨w0, hw0, c0, b0, b1⟩ := news2 w (.cells #[.int .i64 0, .int .i64 0, .int .i64 0, .int .i64 0, .slice none 0 0] 41) (.cells #[.int .i64 0, .int .i64 0] 32)
  have W0 := Lib.hid hw0
  have hs2 : ¬ w.heap.size = w.heap.size + 1 := by omega
  have d5 : ¬ w.heap.size + 1 = w.heap.size := by omega
  have HP0 := Lib.hid (fun (w' : World) (j : Nat) (v : Value) (h : Chg [] w w') => h.put (s := w.heap.size) (Nat.le_refl _) j v)
  have HP1 := Lib.hid (fun (w' : World) (j : Nat) (v : Value) (h : Chg [] w w') => h.put (s := w.heap.size + 1) (Nat.le_succ _) j v)
  have g0 := lt_of_heap b0
  have g1 := lt_of_heap b1
  have C0 := Lib.hid c0
  have B0 := Lib.hid b0
  have B1 := Lib.hid b1
  have H := Lib.hid (h.chg c0 (by simp))
  have hS : mS xs = (0, 0, []) := by unfold mS; rw [if_neg (by omega)]
  have hsm := mR5_small xs
  rw [hS] at hsm
  dsimp only at hsm
  have hchk := fun w1 A c => mcheckm_any w1 2 (mN2 xs).1 0 0 A 0 c (by omega)
  have HCk := Lib.hid hchk
  have hr : readM xs = readM xs := rfl
  conv at hr => rhs; unfold readM
  rw [hS] at hr
  have HZ := Lib.hid (@mF_zero xs)
  rw [hk] at hr
  dsimp only [List.length_nil] at hr
  have HR := Lib.hid hr
  generalize readM xs = RR at *
  clear hchk hr hS hsm
  clear hw0 c0 b0 b1 h
  have HK := Lib.hid hk
  go_enter Try.func24, Try.ntmps24
  go_wp2_with fail
  rw [← W0.out]
  generalize w.heap.size + 1 = s1 at *
  generalize w.heap.size = s0 at *
  generalize hzs : xs = zs at *
  clear hzs
  refine (rs_open w0 w0 A zs.length c zs (Chg.refl _ _) H.out hn).mono ?_
  rintro e w1 ⟨b, rfl, h1⟩
  have K5 := Lib.hid h1
  clear h1
  go_wp2_with fail
  have r1 := rs_num w0 w1 b zs 0 0 0 1 3 K5.out
  change Calls _ _ _ _ (fun r w' => r = .returned (.int .i64 (mN1 zs).1) ∧ Rs w0 w' b zs (mN1 zs).2.1 (mN1 zs).2.2.1 (mN1 zs).2.2.2 ∧ _) at r1
  rw [HK.out] at r1
  refine r1.mono ?_
  rintro e w2 ⟨rfl, h2, -⟩
  replace K5 := Lib.hid h2
  clear h2 r1
  go_wp2_with fail
  have r1 := rs_num w0 w2 b zs _ _ _ 1 1099511627776 K5.out
  change Calls _ _ _ _ (fun r w' => r = .returned (.int .i64 (mN2 zs).1) ∧ Rs w0 w' b zs (mN2 zs).2.1 (mN2 zs).2.2.1 (mN2 zs).2.2.2 ∧ _) at r1
  refine r1.mono ?_
  rintro e w3 ⟨rfl, h2, -⟩
  replace K5 := Lib.hid h2
  clear h2 r1
  obtain ⟨y, hy, cy, by_⟩ := news1 w3 (.cells #[.int .i64 2, .int .i64 (mN2 zs).1, .int .i64 0, .int .i64 0, .slice none 0 0] 41)
  have HY := Lib.hid hy
  have hs5 : w0.heap.size ≤ w3.heap.size := K5.out.chg.size
  have B5 := Lib.hid by_
  replace K5 := Lib.hid (K5.out.past cy)
  clear hy cy by_
  go_wp2_with fail
  rw [← HY.out]
  generalize w3.heap.size = s5 at *
  refine (rests_map y).mono ?_
  rintro e y1 ⟨r, n, rfl, hm, cy⟩
  have HM := Lib.hid hm
  replace B5 := Lib.hid (cy.at_ B5.out (by simp))
  replace K5 := Lib.hid (K5.out.past cy)
  clear hm cy HY
  have x0 := cell_of B5.out 0
  simp only [List.getElem?_toArray, List.getElem?_cons_succ, List.getElem?_cons_zero] at x0
  have look := run_look y1 r n _ 2 1 (.func (.func 68) #[] #[]) HM.out rfl
  go_wp2_with fail
  clear x0 look
  refine (rest0_any y1 _ _).mono ?_
  rintro e y2 ⟨rfl, rfl⟩
  go_wp2_with fail
  have r1 := rs_end w0 y1 b zs _ _ _ K5.out
  have he0 : endR zs (mN2 zs).2.1 (mN2 zs).2.2.1 (mN2 zs).2.2.2 = mF zs := by unfold mF mE; rw [if_neg (by have := HK.out; omega)]
  rw [he0] at r1
  clear he0
  refine r1.mono ?_
  rintro e w6 ⟨rfl, c6⟩
  replace B5 := Lib.hid (c6.at_ B5.out (by simp))
  replace K5 := Lib.hid (K5.out.past c6)
  clear c6 r1
  have t6 := K5.out.chg.size
  have d1 : ¬ w6.heap.size = s0 := by omega
  have d2 : ¬ w6.heap.size = s1 := by omega
  have d3 : ¬ s0 = w6.heap.size := by omega
  have d4 : ¬ s1 = w6.heap.size := by omega
  have e5 : ¬ s5 = s0 := by omega
  have e6 : ¬ s5 = s1 := by omega
  have e7 : ¬ s0 = s5 := by omega
  have e8 : ¬ s1 = s5 := by omega
  clear t6
  obtain ⟨w7, hw7, c7, b7⟩ := news1 w6 (.cells #[.int .i64 (mF zs).1, .int .i64 (mF zs).2] 32)
  replace K5 := Lib.hid (K5.out.past c7)
  replace B5 := Lib.hid (c7.at_ B5.out (by simp))
  have W7 := Lib.hid hw7
  have B7 := Lib.hid b7
  have C7 := Lib.hid (C0.out.trans K5.out.chg)
  have hlt5 := lt_of_heap B5.out
  clear hw7 c7 b7
  have y0_ := cell_of (B7.out) 0
  have y1_ := cell_of (B7.out) 1
  simp only [List.getElem?_toArray, List.getElem?_cons_succ, List.getElem?_cons_zero] at y0_ y1_
  go_upto_region 12 with fail
  rw [← W7.out]
  generalize w6.heap.size = s6 at *
  by_cases he : (mF zs).1 = 0
  · have he2 := HZ.out he
    have hr := HR.out
    rw [if_neg (by simpa using he)] at hr
    have he' : ((mF zs).1 != 0) = false := by simpa using he
    by_cases hf : FineM 2 (mN2 zs).1 0 0 0
    · rw [if_pos hf] at hr
      have HR2 := Lib.hid hr
      have hc := HCk.out w7 none 0
      rw [chkM_fine hf] at hc
      have HC := Lib.hid hc
      have HE := Lib.hid (And.intro he he2)
      clear he he2 hf hc hr HR HCk
      have x0 := cell_of B5.out 0
      have x1 := cell_of B5.out 1
      have x2 := cell_of B5.out 2
      have x3 := cell_of B5.out 3
      have x4 := cell_of B5.out 4
      simp only [List.getElem?_toArray, List.getElem?_cons_succ, List.getElem?_cons_zero] at x0 x1 x2 x3 x4
      go_wp2_with fail
      clear x0 x1 x2 x3 x4 y0_ y1_
      refine HC.out.mono ?_
      rintro e wb ⟨rfl, cb⟩
      replace B5 := Lib.hid (cb.at_ B5.out (by simp))
      replace B7 := Lib.hid (cb.at_ B7.out (by simp))
      have QC := Lib.hid (K5.out.chg.trans cb)
      replace C7 := Lib.hid (C7.out.trans cb)
      clear cb
      have x0 := cell_of B5.out 0
      have x1 := cell_of B5.out 1
      have x2 := cell_of B5.out 2
      have x3 := cell_of B5.out 3
      have x4 := cell_of B5.out 4
      simp only [List.getElem?_toArray, List.getElem?_cons_succ, List.getElem?_cons_zero] at x0 x1 x2 x3 x4
      have CW := Lib.hid (HP1.out _ 1 (.int .i64 0) (HP1.out _ 0 (.int .i64 0) (HP0.out _ 4 (.slice none 0 0) (HP0.out _ 3 (.int .i64 0) (HP0.out _ 2 (.int .i64 0) (HP0.out _ 1 (.int .i64 (mN2 zs).1) (HP0.out _ 0 (.int .i64 2) C7.out)))))))
      have q0 := QC.out.at_ B0.out (by simp)
      have q1 := QC.out.at_ B1.out (by simp)
      have z0 := cell_of q0 0
      have f0 := free_of q0 0
      have z1 := cell_of q0 1
      have f1 := free_of q0 1
      have z2 := cell_of q0 2
      have f2 := free_of q0 2
      have z3 := cell_of q0 3
      have f3 := free_of q0 3
      have z4 := cell_of q0 4
      have f4 := free_of q0 4
      have z5 := cell_of q1 0
      have f5 := free_of q1 0
      have z6 := cell_of q1 1
      have f6 := free_of q1 1
      simp only [List.getElem?_toArray, List.getElem?_cons_succ, List.getElem?_cons_zero] at z0 z1 z2 z3 z4 z5 z6
      have HPP := Lib.hid (put7 (.int .i64 2) (.int .i64 (mN2 zs).1) (.int .i64 0) (.int .i64 0) (.slice none 0 0) (.int .i64 0) (.int .i64 0) q0 q1 hs2)
      clear q0 q1
      go_wp2
      clear z0 z1 z2 z3 z4 z5 z6 f0 f1 f2 f3 f4 f5 f6
      generalize (((((((wb.setCell ⟨s0, 0, none⟩ (.int .i64 2)).setCell ⟨s0, 1, none⟩ (.int .i64 (mN2 zs).1)).setCell ⟨s0, 2, none⟩ (.int .i64 0)).setCell ⟨s0, 3, none⟩ (.int .i64 0)).setCell ⟨s0, 4, none⟩ (.slice none 0 0)).setCell ⟨s1, 0, none⟩ (.int .i64 0)).setCell ⟨s1, 1, none⟩ (.int .i64 0)) = W at *
      have z0 := cell_of HPP.out.1 0
      have z1 := cell_of HPP.out.1 1
      have z2 := cell_of HPP.out.1 2
      have z3 := cell_of HPP.out.1 3
      have z4 := cell_of HPP.out.1 4
      have z5 := cell_of HPP.out.2 0
      have z6 := cell_of HPP.out.2 1
      simp only [List.getElem?_toArray, List.getElem?_cons_succ, List.getElem?_cons_zero] at z0 z1 z2 z3 z4 z5 z6
      refine bodyPost_ret (v := .tuple #[.agg #[.int .i64 2, .int .i64 (mN2 zs).1, .int .i64 0, .int .i64 0, .slice none 0 0], .agg #[.int .i64 0, .int .i64 0]]) (by simp [results, Try.results24, go_sem, z0, z1, z2, z3, z4, z5, z6]) rfl ?_
      rw [HR2.out]
      exact ⟨none, 0, rfl, Fresh.none_ CW.out⟩
    · rw [if_neg hf] at hr
      have HR2 := Lib.hid hr
      have hc := HCk.out w7 none 0
      rw [chkM_odd hf] at hc
      have HC := Lib.hid hc
      have HE := Lib.hid (And.intro he he2)
      clear he he2 hf hc hr HR HCk
      have x0 := cell_of B5.out 0
      have x1 := cell_of B5.out 1
      have x2 := cell_of B5.out 2
      have x3 := cell_of B5.out 3
      have x4 := cell_of B5.out 4
      simp only [List.getElem?_toArray, List.getElem?_cons_succ, List.getElem?_cons_zero] at x0 x1 x2 x3 x4
      go_wp2_with fail
      clear x0 x1 x2 x3 x4 y0_ y1_
      refine HC.out.mono ?_
      rintro e wb ⟨rfl, cb⟩
      replace B5 := Lib.hid (cb.at_ B5.out (by simp))
      replace B7 := Lib.hid (cb.at_ B7.out (by simp))
      have QC := Lib.hid (K5.out.chg.trans cb)
      replace C7 := Lib.hid (C7.out.trans cb)
      clear cb
      have CW := Lib.hid (HP1.out _ 1 (.int .i64 0) (HP1.out _ 0 (.int .i64 2) (HP0.out _ 4 (.slice none 0 0) (HP0.out _ 3 (.int .i64 0) (HP0.out _ 2 (.int .i64 0) (HP0.out _ 1 (.int .i64 0) (HP0.out _ 0 (.int .i64 0) C7.out)))))))
      have q0 := QC.out.at_ B0.out (by simp)
      have q1 := QC.out.at_ B1.out (by simp)
      have z0 := cell_of q0 0
      have f0 := free_of q0 0
      have z1 := cell_of q0 1
      have f1 := free_of q0 1
      have z2 := cell_of q0 2
      have f2 := free_of q0 2
      have z3 := cell_of q0 3
      have f3 := free_of q0 3
      have z4 := cell_of q0 4
      have f4 := free_of q0 4
      have z5 := cell_of q1 0
      have f5 := free_of q1 0
      have z6 := cell_of q1 1
      have f6 := free_of q1 1
      simp only [List.getElem?_toArray, List.getElem?_cons_succ, List.getElem?_cons_zero] at z0 z1 z2 z3 z4 z5 z6
      have HPP := Lib.hid (put7 (.int .i64 0) (.int .i64 0) (.int .i64 0) (.int .i64 0) (.slice none 0 0) (.int .i64 2) (.int .i64 0) q0 q1 hs2)
      clear q0 q1
      go_wp2
      clear z0 z1 z2 z3 z4 z5 z6 f0 f1 f2 f3 f4 f5 f6
      generalize (((((((wb.setCell ⟨s0, 0, none⟩ (.int .i64 0)).setCell ⟨s0, 1, none⟩ (.int .i64 0)).setCell ⟨s0, 2, none⟩ (.int .i64 0)).setCell ⟨s0, 3, none⟩ (.int .i64 0)).setCell ⟨s0, 4, none⟩ (.slice none 0 0)).setCell ⟨s1, 0, none⟩ (.int .i64 2)).setCell ⟨s1, 1, none⟩ (.int .i64 0)) = W at *
      have z0 := cell_of HPP.out.1 0
      have z1 := cell_of HPP.out.1 1
      have z2 := cell_of HPP.out.1 2
      have z3 := cell_of HPP.out.1 3
      have z4 := cell_of HPP.out.1 4
      have z5 := cell_of HPP.out.2 0
      have z6 := cell_of HPP.out.2 1
      simp only [List.getElem?_toArray, List.getElem?_cons_succ, List.getElem?_cons_zero] at z0 z1 z2 z3 z4 z5 z6
      refine bodyPost_ret (v := .tuple #[.agg #[.int .i64 0, .int .i64 0, .int .i64 0, .int .i64 0, .slice none 0 0], .agg #[.int .i64 2, .int .i64 0]]) (by simp [results, Try.results24, go_sem, z0, z1, z2, z3, z4, z5, z6]) rfl ?_
      rw [HR2.out]
      exact ⟨none, 0, rfl, Fresh.none_ CW.out⟩
  · have hr := HR.out
    rw [if_pos he] at hr
    have HR2 := Lib.hid hr
    have he' : ((mF zs).1 != 0) = true := by simpa using he
    have QC := Lib.hid K5.out.chg
    clear he hr HR HCk
    have CW := Lib.hid (HP1.out _ 1 (.int .i64 (mF zs).2) (HP1.out _ 0 (.int .i64 (mF zs).1) (HP0.out _ 4 (.slice none 0 0) (HP0.out _ 3 (.int .i64 0) (HP0.out _ 2 (.int .i64 0) (HP0.out _ 1 (.int .i64 0) (HP0.out _ 0 (.int .i64 0) C7.out)))))))
    have q0 := QC.out.at_ B0.out (by simp)
    have q1 := QC.out.at_ B1.out (by simp)
    have z0 := cell_of q0 0
    have f0 := free_of q0 0
    have z1 := cell_of q0 1
    have f1 := free_of q0 1
    have z2 := cell_of q0 2
    have f2 := free_of q0 2
    have z3 := cell_of q0 3
    have f3 := free_of q0 3
    have z4 := cell_of q0 4
    have f4 := free_of q0 4
    have z5 := cell_of q1 0
    have f5 := free_of q1 0
    have z6 := cell_of q1 1
    have f6 := free_of q1 1
    simp only [List.getElem?_toArray, List.getElem?_cons_succ, List.getElem?_cons_zero] at z0 z1 z2 z3 z4 z5 z6
    have HPP := Lib.hid (put7 (.int .i64 0) (.int .i64 0) (.int .i64 0) (.int .i64 0) (.slice none 0 0) (.int .i64 (mF zs).1) (.int .i64 (mF zs).2) q0 q1 hs2)
    clear q0 q1
    go_wp2
    go_region
    go_wp2
    clear z0 z1 z2 z3 z4 z5 z6 f0 f1 f2 f3 f4 f5 f6
    generalize (((((((w7.setCell ⟨s0, 0, none⟩ (.int .i64 0)).setCell ⟨s0, 1, none⟩ (.int .i64 0)).setCell ⟨s0, 2, none⟩ (.int .i64 0)).setCell ⟨s0, 3, none⟩ (.int .i64 0)).setCell ⟨s0, 4, none⟩ (.slice none 0 0)).setCell ⟨s1, 0, none⟩ (.int .i64 (mF zs).1)).setCell ⟨s1, 1, none⟩ (.int .i64 (mF zs).2)) = W at *
    have z0 := cell_of HPP.out.1 0
    have z1 := cell_of HPP.out.1 1
    have z2 := cell_of HPP.out.1 2
    have z3 := cell_of HPP.out.1 3
    have z4 := cell_of HPP.out.1 4
    have z5 := cell_of HPP.out.2 0
    have z6 := cell_of HPP.out.2 1
    simp only [List.getElem?_toArray, List.getElem?_cons_succ, List.getElem?_cons_zero] at z0 z1 z2 z3 z4 z5 z6
    refine bodyPost_ret (v := .tuple #[.agg #[.int .i64 0, .int .i64 0, .int .i64 0, .int .i64 0, .slice none 0 0], .agg #[.int .i64 (mF zs).1, .int .i64 (mF zs).2]]) (by simp [results, Try.results24, go_sem, z0, z1, z2, z3, z4, z5, z6]) rfl ?_
    rw [HR2.out]
    exact ⟨none, 0, rfl, Fresh.none_ CW.out.drew⟩

set_option maxHeartbeats 8000000 in
theorem mget_got (w : World) (A : Option Addr) (c : Nat) (xs : List UInt8) (h : Bs w A xs.length xs) (hn : xs.length ≤ 140737488351232) (hk : (mN1 xs).1 = 3) :
    Calls Try.prog 24 #[.slice A xs.length c] w (ReadMPost w (readM xs)) := by
  obtain ⟨w0, hw0, c0, b0, b1⟩ := news2 w (.cells #[.int .i64 0, .int .i64 0, .int .i64 0, .int .i64 0, .slice none 0 0] 41) (.cells #[.int .i64 0, .int .i64 0] 32)
  have W0 := Lib.hid hw0
  have hs2 : ¬ w.heap.size = w.heap.size + 1 := by omega
  have d5 : ¬ w.heap.size + 1 = w.heap.size := by omega
  have HP0 := Lib.hid (fun (w' : World) (j : Nat) (v : Value) (h : Chg [] w w') => h.put (s := w.heap.size) (Nat.le_refl _) j v)
  have HP1 := Lib.hid (fun (w' : World) (j : Nat) (v : Value) (h : Chg [] w w') => h.put (s := w.heap.size + 1) (Nat.le_succ _) j v)
  have g0 := lt_of_heap b0
  have g1 := lt_of_heap b1
  have C0 := Lib.hid c0
  have B0 := Lib.hid b0
  have B1 := Lib.hid b1
  have H := Lib.hid (h.chg c0 (by simp))
  have hS : mS xs = (0, 0, []) := by unfold mS; rw [if_neg (by omega)]
  have hsm := mR5_small xs
  rw [hS] at hsm
  dsimp only at hsm
  have hchk := fun w1 A c => mcheckm_any w1 3 (mN2 xs).1 0 0 A 0 c (by omega)
  have HCk := Lib.hid hchk
  have hr : readM xs = readM xs := rfl
  conv at hr => rhs; unfold readM
  rw [hS] at hr
  have HZ := Lib.hid (@mF_zero xs)
  rw [hk] at hr
  dsimp only [List.length_nil] at hr
  have HR := Lib.hid hr
  generalize readM xs = RR at *
  clear hchk hr hS hsm
  clear hw0 c0 b0 b1 h
  have HK := Lib.hid hk
  go_enter Try.func24, Try.ntmps24
  go_wp2_with fail
  rw [← W0.out]
  generalize w.heap.size + 1 = s1 at *
  generalize w.heap.size = s0 at *
  generalize hzs : xs = zs at *
  clear hzs
  refine (rs_open w0 w0 A zs.length c zs (Chg.refl _ _) H.out hn).mono ?_
  rintro e w1 ⟨b, rfl, h1⟩
  have K5 := Lib.hid h1
  clear h1
  go_wp2_with fail
  have r1 := rs_num w0 w1 b zs 0 0 0 1 3 K5.out
  change Calls _ _ _ _ (fun r w' => r = .returned (.int .i64 (mN1 zs).1) ∧ Rs w0 w' b zs (mN1 zs).2.1 (mN1 zs).2.2.1 (mN1 zs).2.2.2 ∧ _) at r1
  rw [HK.out] at r1
  refine r1.mono ?_
  rintro e w2 ⟨rfl, h2, -⟩
  replace K5 := Lib.hid h2
  clear h2 r1
  go_wp2_with fail
  have r1 := rs_num w0 w2 b zs _ _ _ 1 1099511627776 K5.out
  change Calls _ _ _ _ (fun r w' => r = .returned (.int .i64 (mN2 zs).1) ∧ Rs w0 w' b zs (mN2 zs).2.1 (mN2 zs).2.2.1 (mN2 zs).2.2.2 ∧ _) at r1
  refine r1.mono ?_
  rintro e w3 ⟨rfl, h2, -⟩
  replace K5 := Lib.hid h2
  clear h2 r1
  obtain ⟨y, hy, cy, by_⟩ := news1 w3 (.cells #[.int .i64 3, .int .i64 (mN2 zs).1, .int .i64 0, .int .i64 0, .slice none 0 0] 41)
  have HY := Lib.hid hy
  have hs5 : w0.heap.size ≤ w3.heap.size := K5.out.chg.size
  have B5 := Lib.hid by_
  replace K5 := Lib.hid (K5.out.past cy)
  clear hy cy by_
  go_wp2_with fail
  rw [← HY.out]
  generalize w3.heap.size = s5 at *
  refine (rests_map y).mono ?_
  rintro e y1 ⟨r, n, rfl, hm, cy⟩
  have HM := Lib.hid hm
  replace B5 := Lib.hid (cy.at_ B5.out (by simp))
  replace K5 := Lib.hid (K5.out.past cy)
  clear hm cy HY
  have x0 := cell_of B5.out 0
  simp only [List.getElem?_toArray, List.getElem?_cons_succ, List.getElem?_cons_zero] at x0
  have look := run_look y1 r n _ 3 2 (.func (.func 68) #[] #[]) HM.out rfl
  go_wp2_with fail
  clear x0 look
  refine (rest0_any y1 _ _).mono ?_
  rintro e y2 ⟨rfl, rfl⟩
  go_wp2_with fail
  have r1 := rs_end w0 y1 b zs _ _ _ K5.out
  have he0 : endR zs (mN2 zs).2.1 (mN2 zs).2.2.1 (mN2 zs).2.2.2 = mF zs := by unfold mF mE; rw [if_neg (by have := HK.out; omega)]
  rw [he0] at r1
  clear he0
  refine r1.mono ?_
  rintro e w6 ⟨rfl, c6⟩
  replace B5 := Lib.hid (c6.at_ B5.out (by simp))
  replace K5 := Lib.hid (K5.out.past c6)
  clear c6 r1
  have t6 := K5.out.chg.size
  have d1 : ¬ w6.heap.size = s0 := by omega
  have d2 : ¬ w6.heap.size = s1 := by omega
  have d3 : ¬ s0 = w6.heap.size := by omega
  have d4 : ¬ s1 = w6.heap.size := by omega
  have e5 : ¬ s5 = s0 := by omega
  have e6 : ¬ s5 = s1 := by omega
  have e7 : ¬ s0 = s5 := by omega
  have e8 : ¬ s1 = s5 := by omega
  clear t6
  obtain ⟨w7, hw7, c7, b7⟩ := news1 w6 (.cells #[.int .i64 (mF zs).1, .int .i64 (mF zs).2] 32)
  replace K5 := Lib.hid (K5.out.past c7)
  replace B5 := Lib.hid (c7.at_ B5.out (by simp))
  have W7 := Lib.hid hw7
  have B7 := Lib.hid b7
  have C7 := Lib.hid (C0.out.trans K5.out.chg)
  have hlt5 := lt_of_heap B5.out
  clear hw7 c7 b7
  have y0_ := cell_of (B7.out) 0
  have y1_ := cell_of (B7.out) 1
  simp only [List.getElem?_toArray, List.getElem?_cons_succ, List.getElem?_cons_zero] at y0_ y1_
  go_upto_region 12 with fail
  rw [← W7.out]
  generalize w6.heap.size = s6 at *
  by_cases he : (mF zs).1 = 0
  · have he2 := HZ.out he
    have hr := HR.out
    rw [if_neg (by simpa using he)] at hr
    have he' : ((mF zs).1 != 0) = false := by simpa using he
    by_cases hf : FineM 3 (mN2 zs).1 0 0 0
    · rw [if_pos hf] at hr
      have HR2 := Lib.hid hr
      have hc := HCk.out w7 none 0
      rw [chkM_fine hf] at hc
      have HC := Lib.hid hc
      have HE := Lib.hid (And.intro he he2)
      clear he he2 hf hc hr HR HCk
      have x0 := cell_of B5.out 0
      have x1 := cell_of B5.out 1
      have x2 := cell_of B5.out 2
      have x3 := cell_of B5.out 3
      have x4 := cell_of B5.out 4
      simp only [List.getElem?_toArray, List.getElem?_cons_succ, List.getElem?_cons_zero] at x0 x1 x2 x3 x4
      go_wp2_with fail
      clear x0 x1 x2 x3 x4 y0_ y1_
      refine HC.out.mono ?_
      rintro e wb ⟨rfl, cb⟩
      replace B5 := Lib.hid (cb.at_ B5.out (by simp))
      replace B7 := Lib.hid (cb.at_ B7.out (by simp))
      have QC := Lib.hid (K5.out.chg.trans cb)
      replace C7 := Lib.hid (C7.out.trans cb)
      clear cb
      have x0 := cell_of B5.out 0
      have x1 := cell_of B5.out 1
      have x2 := cell_of B5.out 2
      have x3 := cell_of B5.out 3
      have x4 := cell_of B5.out 4
      simp only [List.getElem?_toArray, List.getElem?_cons_succ, List.getElem?_cons_zero] at x0 x1 x2 x3 x4
      have CW := Lib.hid (HP1.out _ 1 (.int .i64 0) (HP1.out _ 0 (.int .i64 0) (HP0.out _ 4 (.slice none 0 0) (HP0.out _ 3 (.int .i64 0) (HP0.out _ 2 (.int .i64 0) (HP0.out _ 1 (.int .i64 (mN2 zs).1) (HP0.out _ 0 (.int .i64 3) C7.out)))))))
      have q0 := QC.out.at_ B0.out (by simp)
      have q1 := QC.out.at_ B1.out (by simp)
      have z0 := cell_of q0 0
      have f0 := free_of q0 0
      have z1 := cell_of q0 1
      have f1 := free_of q0 1
      have z2 := cell_of q0 2
      have f2 := free_of q0 2
      have z3 := cell_of q0 3
      have f3 := free_of q0 3
      have z4 := cell_of q0 4
      have f4 := free_of q0 4
      have z5 := cell_of q1 0
      have f5 := free_of q1 0
      have z6 := cell_of q1 1
      have f6 := free_of q1 1
      simp only [List.getElem?_toArray, List.getElem?_cons_succ, List.getElem?_cons_zero] at z0 z1 z2 z3 z4 z5 z6
      have HPP := Lib.hid (put7 (.int .i64 3) (.int .i64 (mN2 zs).1) (.int .i64 0) (.int .i64 0) (.slice none 0 0) (.int .i64 0) (.int .i64 0) q0 q1 hs2)
      clear q0 q1
      go_wp2
      clear z0 z1 z2 z3 z4 z5 z6 f0 f1 f2 f3 f4 f5 f6
      generalize (((((((wb.setCell ⟨s0, 0, none⟩ (.int .i64 3)).setCell ⟨s0, 1, none⟩ (.int .i64 (mN2 zs).1)).setCell ⟨s0, 2, none⟩ (.int .i64 0)).setCell ⟨s0, 3, none⟩ (.int .i64 0)).setCell ⟨s0, 4, none⟩ (.slice none 0 0)).setCell ⟨s1, 0, none⟩ (.int .i64 0)).setCell ⟨s1, 1, none⟩ (.int .i64 0)) = W at *
      have z0 := cell_of HPP.out.1 0
      have z1 := cell_of HPP.out.1 1
      have z2 := cell_of HPP.out.1 2
      have z3 := cell_of HPP.out.1 3
      have z4 := cell_of HPP.out.1 4
      have z5 := cell_of HPP.out.2 0
      have z6 := cell_of HPP.out.2 1
      simp only [List.getElem?_toArray, List.getElem?_cons_succ, List.getElem?_cons_zero] at z0 z1 z2 z3 z4 z5 z6
      refine bodyPost_ret (v := .tuple #[.agg #[.int .i64 3, .int .i64 (mN2 zs).1, .int .i64 0, .int .i64 0, .slice none 0 0], .agg #[.int .i64 0, .int .i64 0]]) (by simp [results, Try.results24, go_sem, z0, z1, z2, z3, z4, z5, z6]) rfl ?_
      rw [HR2.out]
      exact ⟨none, 0, rfl, Fresh.none_ CW.out⟩
    · rw [if_neg hf] at hr
      have HR2 := Lib.hid hr
      have hc := HCk.out w7 none 0
      rw [chkM_odd hf] at hc
      have HC := Lib.hid hc
      have HE := Lib.hid (And.intro he he2)
      clear he he2 hf hc hr HR HCk
      have x0 := cell_of B5.out 0
      have x1 := cell_of B5.out 1
      have x2 := cell_of B5.out 2
      have x3 := cell_of B5.out 3
      have x4 := cell_of B5.out 4
      simp only [List.getElem?_toArray, List.getElem?_cons_succ, List.getElem?_cons_zero] at x0 x1 x2 x3 x4
      go_wp2_with fail
      clear x0 x1 x2 x3 x4 y0_ y1_
      refine HC.out.mono ?_
      rintro e wb ⟨rfl, cb⟩
      replace B5 := Lib.hid (cb.at_ B5.out (by simp))
      replace B7 := Lib.hid (cb.at_ B7.out (by simp))
      have QC := Lib.hid (K5.out.chg.trans cb)
      replace C7 := Lib.hid (C7.out.trans cb)
      clear cb
      have CW := Lib.hid (HP1.out _ 1 (.int .i64 0) (HP1.out _ 0 (.int .i64 2) (HP0.out _ 4 (.slice none 0 0) (HP0.out _ 3 (.int .i64 0) (HP0.out _ 2 (.int .i64 0) (HP0.out _ 1 (.int .i64 0) (HP0.out _ 0 (.int .i64 0) C7.out)))))))
      have q0 := QC.out.at_ B0.out (by simp)
      have q1 := QC.out.at_ B1.out (by simp)
      have z0 := cell_of q0 0
      have f0 := free_of q0 0
      have z1 := cell_of q0 1
      have f1 := free_of q0 1
      have z2 := cell_of q0 2
      have f2 := free_of q0 2
      have z3 := cell_of q0 3
      have f3 := free_of q0 3
      have z4 := cell_of q0 4
      have f4 := free_of q0 4
      have z5 := cell_of q1 0
      have f5 := free_of q1 0
      have z6 := cell_of q1 1
      have f6 := free_of q1 1
      simp only [List.getElem?_toArray, List.getElem?_cons_succ, List.getElem?_cons_zero] at z0 z1 z2 z3 z4 z5 z6
      have HPP := Lib.hid (put7 (.int .i64 0) (.int .i64 0) (.int .i64 0) (.int .i64 0) (.slice none 0 0) (.int .i64 2) (.int .i64 0) q0 q1 hs2)
      clear q0 q1
      go_wp2
      clear z0 z1 z2 z3 z4 z5 z6 f0 f1 f2 f3 f4 f5 f6
      generalize (((((((wb.setCell ⟨s0, 0, none⟩ (.int .i64 0)).setCell ⟨s0, 1, none⟩ (.int .i64 0)).setCell ⟨s0, 2, none⟩ (.int .i64 0)).setCell ⟨s0, 3, none⟩ (.int .i64 0)).setCell ⟨s0, 4, none⟩ (.slice none 0 0)).setCell ⟨s1, 0, none⟩ (.int .i64 2)).setCell ⟨s1, 1, none⟩ (.int .i64 0)) = W at *
      have z0 := cell_of HPP.out.1 0
      have z1 := cell_of HPP.out.1 1
      have z2 := cell_of HPP.out.1 2
      have z3 := cell_of HPP.out.1 3
      have z4 := cell_of HPP.out.1 4
      have z5 := cell_of HPP.out.2 0
      have z6 := cell_of HPP.out.2 1
      simp only [List.getElem?_toArray, List.getElem?_cons_succ, List.getElem?_cons_zero] at z0 z1 z2 z3 z4 z5 z6
      refine bodyPost_ret (v := .tuple #[.agg #[.int .i64 0, .int .i64 0, .int .i64 0, .int .i64 0, .slice none 0 0], .agg #[.int .i64 2, .int .i64 0]]) (by simp [results, Try.results24, go_sem, z0, z1, z2, z3, z4, z5, z6]) rfl ?_
      rw [HR2.out]
      exact ⟨none, 0, rfl, Fresh.none_ CW.out⟩
  · have hr := HR.out
    rw [if_pos he] at hr
    have HR2 := Lib.hid hr
    have he' : ((mF zs).1 != 0) = true := by simpa using he
    have QC := Lib.hid K5.out.chg
    clear he hr HR HCk
    have CW := Lib.hid (HP1.out _ 1 (.int .i64 (mF zs).2) (HP1.out _ 0 (.int .i64 (mF zs).1) (HP0.out _ 4 (.slice none 0 0) (HP0.out _ 3 (.int .i64 0) (HP0.out _ 2 (.int .i64 0) (HP0.out _ 1 (.int .i64 0) (HP0.out _ 0 (.int .i64 0) C7.out)))))))
    have q0 := QC.out.at_ B0.out (by simp)
    have q1 := QC.out.at_ B1.out (by simp)
    have z0 := cell_of q0 0
    have f0 := free_of q0 0
    have z1 := cell_of q0 1
    have f1 := free_of q0 1
    have z2 := cell_of q0 2
    have f2 := free_of q0 2
    have z3 := cell_of q0 3
    have f3 := free_of q0 3
    have z4 := cell_of q0 4
    have f4 := free_of q0 4
    have z5 := cell_of q1 0
    have f5 := free_of q1 0
    have z6 := cell_of q1 1
    have f6 := free_of q1 1
    simp only [List.getElem?_toArray, List.getElem?_cons_succ, List.getElem?_cons_zero] at z0 z1 z2 z3 z4 z5 z6
    have HPP := Lib.hid (put7 (.int .i64 0) (.int .i64 0) (.int .i64 0) (.int .i64 0) (.slice none 0 0) (.int .i64 (mF zs).1) (.int .i64 (mF zs).2) q0 q1 hs2)
    clear q0 q1
    go_wp2
    go_region
    go_wp2
    clear z0 z1 z2 z3 z4 z5 z6 f0 f1 f2 f3 f4 f5 f6
    generalize (((((((w7.setCell ⟨s0, 0, none⟩ (.int .i64 0)).setCell ⟨s0, 1, none⟩ (.int .i64 0)).setCell ⟨s0, 2, none⟩ (.int .i64 0)).setCell ⟨s0, 3, none⟩ (.int .i64 0)).setCell ⟨s0, 4, none⟩ (.slice none 0 0)).setCell ⟨s1, 0, none⟩ (.int .i64 (mF zs).1)).setCell ⟨s1, 1, none⟩ (.int .i64 (mF zs).2)) = W at *
    have z0 := cell_of HPP.out.1 0
    have z1 := cell_of HPP.out.1 1
    have z2 := cell_of HPP.out.1 2
    have z3 := cell_of HPP.out.1 3
    have z4 := cell_of HPP.out.1 4
    have z5 := cell_of HPP.out.2 0
    have z6 := cell_of HPP.out.2 1
    simp only [List.getElem?_toArray, List.getElem?_cons_succ, List.getElem?_cons_zero] at z0 z1 z2 z3 z4 z5 z6
    refine bodyPost_ret (v := .tuple #[.agg #[.int .i64 0, .int .i64 0, .int .i64 0, .int .i64 0, .slice none 0 0], .agg #[.int .i64 (mF zs).1, .int .i64 (mF zs).2]]) (by simp [results, Try.results24, go_sem, z0, z1, z2, z3, z4, z5, z6]) rfl ?_
    rw [HR2.out]
    exact ⟨none, 0, rfl, Fresh.none_ CW.out.drew⟩

set_option maxHeartbeats 8000000 in
theorem mget_none (w : World) (A : Option Addr) (c : Nat) (xs : List UInt8) (h : Bs w A xs.length xs) (hn : xs.length ≤ 140737488351232) (hk : ¬ (mN1 xs).1 = 1 ∧ ¬ (mN1 xs).1 = 2 ∧ ¬ (mN1 xs).1 = 3) :
    Calls Try.prog 24 #[.slice A xs.length c] w (ReadMPost w (readM xs)) := by
  obtain ⟨w0, hw0, c0, b0, b1⟩ := news2 w (.cells #[.int .i64 0, .int .i64 0, .int .i64 0, .int .i64 0, .slice none 0 0] 41) (.cells #[.int .i64 0, .int .i64 0] 32)
  have W0 := Lib.hid hw0
  have hs2 : ¬ w.heap.size = w.heap.size + 1 := by omega
  have d5 : ¬ w.heap.size + 1 = w.heap.size := by omega
  have HP0 := Lib.hid (fun (w' : World) (j : Nat) (v : Value) (h : Chg [] w w') => h.put (s := w.heap.size) (Nat.le_refl _) j v)
  have HP1 := Lib.hid (fun (w' : World) (j : Nat) (v : Value) (h : Chg [] w w') => h.put (s := w.heap.size + 1) (Nat.le_succ _) j v)
  have g0 := lt_of_heap b0
  have g1 := lt_of_heap b1
  have C0 := Lib.hid c0
  have B0 := Lib.hid b0
  have B1 := Lib.hid b1
  have H := Lib.hid (h.chg c0 (by simp))
  have hS : mS xs = (0, 0, []) := by unfold mS; rw [if_neg (by omega)]
  have hsm := mR5_small xs
  rw [hS] at hsm
  dsimp only at hsm
  have hchk := fun w1 A c => mcheckm_any w1 (mN1 xs).1 (mN2 xs).1 0 0 A 0 c (by omega)
  have HCk := Lib.hid hchk
  have hr : readM xs = readM xs := rfl
  conv at hr => rhs; unfold readM
  rw [hS] at hr
  have HZ := Lib.hid (@mF_zero xs)
  dsimp only [List.length_nil] at hr
  have HR := Lib.hid hr
  generalize readM xs = RR at *
  clear hchk hr hS hsm
  clear hw0 c0 b0 b1 h
  have HK := Lib.hid hk
  obtain ⟨hk1, hk2, hk3⟩ := hk
  go_enter Try.func24, Try.ntmps24
  go_wp2_with fail
  rw [← W0.out]
  generalize w.heap.size + 1 = s1 at *
  generalize w.heap.size = s0 at *
  generalize hzs : xs = zs at *
  clear hzs
  refine (rs_open w0 w0 A zs.length c zs (Chg.refl _ _) H.out hn).mono ?_
  rintro e w1 ⟨b, rfl, h1⟩
  have K5 := Lib.hid h1
  clear h1
  go_wp2_with fail
  have r1 := rs_num w0 w1 b zs 0 0 0 1 3 K5.out
  change Calls _ _ _ _ (fun r w' => r = .returned (.int .i64 (mN1 zs).1) ∧ Rs w0 w' b zs (mN1 zs).2.1 (mN1 zs).2.2.1 (mN1 zs).2.2.2 ∧ _) at r1
  refine r1.mono ?_
  rintro e w2 ⟨rfl, h2, -⟩
  replace K5 := Lib.hid h2
  clear h2 r1
  go_wp2_with fail
  have r1 := rs_num w0 w2 b zs _ _ _ 1 1099511627776 K5.out
  change Calls _ _ _ _ (fun r w' => r = .returned (.int .i64 (mN2 zs).1) ∧ Rs w0 w' b zs (mN2 zs).2.1 (mN2 zs).2.2.1 (mN2 zs).2.2.2 ∧ _) at r1
  refine r1.mono ?_
  rintro e w3 ⟨rfl, h2, -⟩
  replace K5 := Lib.hid h2
  clear h2 r1
  obtain ⟨y, hy, cy, by_⟩ := news1 w3 (.cells #[.int .i64 (mN1 zs).1, .int .i64 (mN2 zs).1, .int .i64 0, .int .i64 0, .slice none 0 0] 41)
  have HY := Lib.hid hy
  have hs5 : w0.heap.size ≤ w3.heap.size := K5.out.chg.size
  have B5 := Lib.hid by_
  replace K5 := Lib.hid (K5.out.past cy)
  clear hy cy by_
  go_wp2_with fail
  rw [← HY.out]
  generalize w3.heap.size = s5 at *
  refine (rests_map y).mono ?_
  rintro e y1 ⟨r, n, rfl, hm, cy⟩
  have HM := Lib.hid hm
  replace B5 := Lib.hid (cy.at_ B5.out (by simp))
  replace K5 := Lib.hid (K5.out.past cy)
  clear hm cy HY
  have x0 := cell_of B5.out 0
  simp only [List.getElem?_toArray, List.getElem?_cons_succ, List.getElem?_cons_zero] at x0
  go_wp2_with fail
  clear x0
  have r1 := rs_end w0 y1 b zs _ _ _ K5.out
  have he0 : endR zs (mN2 zs).2.1 (mN2 zs).2.2.1 (mN2 zs).2.2.2 = mF zs := by unfold mF mE; rw [if_neg (by have := HK.out; omega)]
  rw [he0] at r1
  clear he0
  refine r1.mono ?_
  rintro e w6 ⟨rfl, c6⟩
  replace B5 := Lib.hid (c6.at_ B5.out (by simp))
  replace K5 := Lib.hid (K5.out.past c6)
  clear c6 r1
  have t6 := K5.out.chg.size
  have d1 : ¬ w6.heap.size = s0 := by omega
  have d2 : ¬ w6.heap.size = s1 := by omega
  have d3 : ¬ s0 = w6.heap.size := by omega
  have d4 : ¬ s1 = w6.heap.size := by omega
  have e5 : ¬ s5 = s0 := by omega
  have e6 : ¬ s5 = s1 := by omega
  have e7 : ¬ s0 = s5 := by omega
  have e8 : ¬ s1 = s5 := by omega
  clear t6
  obtain ⟨w7, hw7, c7, b7⟩ := news1 w6 (.cells #[.int .i64 (mF zs).1, .int .i64 (mF zs).2] 32)
  replace K5 := Lib.hid (K5.out.past c7)
  replace B5 := Lib.hid (c7.at_ B5.out (by simp))
  have W7 := Lib.hid hw7
  have B7 := Lib.hid b7
  have C7 := Lib.hid (C0.out.trans K5.out.chg)
  have hlt5 := lt_of_heap B5.out
  clear hw7 c7 b7
  have y0_ := cell_of (B7.out) 0
  have y1_ := cell_of (B7.out) 1
  simp only [List.getElem?_toArray, List.getElem?_cons_succ, List.getElem?_cons_zero] at y0_ y1_
  go_upto_region 12 with fail
  rw [← W7.out]
  generalize w6.heap.size = s6 at *
  by_cases he : (mF zs).1 = 0
  · have he2 := HZ.out he
    have hr := HR.out
    rw [if_neg (by simpa using he)] at hr
    have he' : ((mF zs).1 != 0) = false := by simpa using he
    by_cases hf : FineM (mN1 zs).1 (mN2 zs).1 0 0 0
    · rw [if_pos hf] at hr
      have HR2 := Lib.hid hr
      have hc := HCk.out w7 none 0
      rw [chkM_fine hf] at hc
      have HC := Lib.hid hc
      have HE := Lib.hid (And.intro he he2)
      clear he he2 hf hc hr HR HCk
      have x0 := cell_of B5.out 0
      have x1 := cell_of B5.out 1
      have x2 := cell_of B5.out 2
      have x3 := cell_of B5.out 3
      have x4 := cell_of B5.out 4
      simp only [List.getElem?_toArray, List.getElem?_cons_succ, List.getElem?_cons_zero] at x0 x1 x2 x3 x4
      go_wp2_with fail
      clear x0 x1 x2 x3 x4 y0_ y1_
      refine HC.out.mono ?_
      rintro e wb ⟨rfl, cb⟩
      replace B5 := Lib.hid (cb.at_ B5.out (by simp))
      replace B7 := Lib.hid (cb.at_ B7.out (by simp))
      have QC := Lib.hid (K5.out.chg.trans cb)
      replace C7 := Lib.hid (C7.out.trans cb)
      clear cb
      have x0 := cell_of B5.out 0
      have x1 := cell_of B5.out 1
      have x2 := cell_of B5.out 2
      have x3 := cell_of B5.out 3
      have x4 := cell_of B5.out 4
      simp only [List.getElem?_toArray, List.getElem?_cons_succ, List.getElem?_cons_zero] at x0 x1 x2 x3 x4
      have CW := Lib.hid (HP1.out _ 1 (.int .i64 0) (HP1.out _ 0 (.int .i64 0) (HP0.out _ 4 (.slice none 0 0) (HP0.out _ 3 (.int .i64 0) (HP0.out _ 2 (.int .i64 0) (HP0.out _ 1 (.int .i64 (mN2 zs).1) (HP0.out _ 0 (.int .i64 (mN1 zs).1) C7.out)))))))
      have q0 := QC.out.at_ B0.out (by simp)
      have q1 := QC.out.at_ B1.out (by simp)
      have z0 := cell_of q0 0
      have f0 := free_of q0 0
      have z1 := cell_of q0 1
      have f1 := free_of q0 1
      have z2 := cell_of q0 2
      have f2 := free_of q0 2
      have z3 := cell_of q0 3
      have f3 := free_of q0 3
      have z4 := cell_of q0 4
      have f4 := free_of q0 4
      have z5 := cell_of q1 0
      have f5 := free_of q1 0
      have z6 := cell_of q1 1
      have f6 := free_of q1 1
      simp only [List.getElem?_toArray, List.getElem?_cons_succ, List.getElem?_cons_zero] at z0 z1 z2 z3 z4 z5 z6
      have HPP := Lib.hid (put7 (.int .i64 (mN1 zs).1) (.int .i64 (mN2 zs).1) (.int .i64 0) (.int .i64 0) (.slice none 0 0) (.int .i64 0) (.int .i64 0) q0 q1 hs2)
      clear q0 q1
      go_wp2
      clear z0 z1 z2 z3 z4 z5 z6 f0 f1 f2 f3 f4 f5 f6
      generalize (((((((wb.setCell ⟨s0, 0, none⟩ (.int .i64 (mN1 zs).1)).setCell ⟨s0, 1, none⟩ (.int .i64 (mN2 zs).1)).setCell ⟨s0, 2, none⟩ (.int .i64 0)).setCell ⟨s0, 3, none⟩ (.int .i64 0)).setCell ⟨s0, 4, none⟩ (.slice none 0 0)).setCell ⟨s1, 0, none⟩ (.int .i64 0)).setCell ⟨s1, 1, none⟩ (.int .i64 0)) = W at *
      have z0 := cell_of HPP.out.1 0
      have z1 := cell_of HPP.out.1 1
      have z2 := cell_of HPP.out.1 2
      have z3 := cell_of HPP.out.1 3
      have z4 := cell_of HPP.out.1 4
      have z5 := cell_of HPP.out.2 0
      have z6 := cell_of HPP.out.2 1
      simp only [List.getElem?_toArray, List.getElem?_cons_succ, List.getElem?_cons_zero] at z0 z1 z2 z3 z4 z5 z6
      refine bodyPost_ret (v := .tuple #[.agg #[.int .i64 (mN1 zs).1, .int .i64 (mN2 zs).1, .int .i64 0, .int .i64 0, .slice none 0 0], .agg #[.int .i64 0, .int .i64 0]]) (by simp [results, Try.results24, go_sem, z0, z1, z2, z3, z4, z5, z6]) rfl ?_
      rw [HR2.out]
      exact ⟨none, 0, rfl, Fresh.none_ CW.out⟩
    · rw [if_neg hf] at hr
      have HR2 := Lib.hid hr
      have hc := HCk.out w7 none 0
      rw [chkM_odd hf] at hc
      have HC := Lib.hid hc
      have HE := Lib.hid (And.intro he he2)
      clear he he2 hf hc hr HR HCk
      have x0 := cell_of B5.out 0
      have x1 := cell_of B5.out 1
      have x2 := cell_of B5.out 2
      have x3 := cell_of B5.out 3
      have x4 := cell_of B5.out 4
      simp only [List.getElem?_toArray, List.getElem?_cons_succ, List.getElem?_cons_zero] at x0 x1 x2 x3 x4
      go_wp2_with fail
      clear x0 x1 x2 x3 x4 y0_ y1_
      refine HC.out.mono ?_
      rintro e wb ⟨rfl, cb⟩
      replace B5 := Lib.hid (cb.at_ B5.out (by simp))
      replace B7 := Lib.hid (cb.at_ B7.out (by simp))
      have QC := Lib.hid (K5.out.chg.trans cb)
      replace C7 := Lib.hid (C7.out.trans cb)
      clear cb
      have CW := Lib.hid (HP1.out _ 1 (.int .i64 0) (HP1.out _ 0 (.int .i64 2) (HP0.out _ 4 (.slice none 0 0) (HP0.out _ 3 (.int .i64 0) (HP0.out _ 2 (.int .i64 0) (HP0.out _ 1 (.int .i64 0) (HP0.out _ 0 (.int .i64 0) C7.out)))))))
      have q0 := QC.out.at_ B0.out (by simp)
      have q1 := QC.out.at_ B1.out (by simp)
      have z0 := cell_of q0 0
      have f0 := free_of q0 0
      have z1 := cell_of q0 1
      have f1 := free_of q0 1
      have z2 := cell_of q0 2
      have f2 := free_of q0 2
      have z3 := cell_of q0 3
      have f3 := free_of q0 3
      have z4 := cell_of q0 4
      have f4 := free_of q0 4
      have z5 := cell_of q1 0
      have f5 := free_of q1 0
      have z6 := cell_of q1 1
      have f6 := free_of q1 1
      simp only [List.getElem?_toArray, List.getElem?_cons_succ, List.getElem?_cons_zero] at z0 z1 z2 z3 z4 z5 z6
      have HPP := Lib.hid (put7 (.int .i64 0) (.int .i64 0) (.int .i64 0) (.int .i64 0) (.slice none 0 0) (.int .i64 2) (.int .i64 0) q0 q1 hs2)
      clear q0 q1
      go_wp2
      clear z0 z1 z2 z3 z4 z5 z6 f0 f1 f2 f3 f4 f5 f6
      generalize (((((((wb.setCell ⟨s0, 0, none⟩ (.int .i64 0)).setCell ⟨s0, 1, none⟩ (.int .i64 0)).setCell ⟨s0, 2, none⟩ (.int .i64 0)).setCell ⟨s0, 3, none⟩ (.int .i64 0)).setCell ⟨s0, 4, none⟩ (.slice none 0 0)).setCell ⟨s1, 0, none⟩ (.int .i64 2)).setCell ⟨s1, 1, none⟩ (.int .i64 0)) = W at *
      have z0 := cell_of HPP.out.1 0
      have z1 := cell_of HPP.out.1 1
      have z2 := cell_of HPP.out.1 2
      have z3 := cell_of HPP.out.1 3
      have z4 := cell_of HPP.out.1 4
      have z5 := cell_of HPP.out.2 0
      have z6 := cell_of HPP.out.2 1
      simp only [List.getElem?_toArray, List.getElem?_cons_succ, List.getElem?_cons_zero] at z0 z1 z2 z3 z4 z5 z6
      refine bodyPost_ret (v := .tuple #[.agg #[.int .i64 0, .int .i64 0, .int .i64 0, .int .i64 0, .slice none 0 0], .agg #[.int .i64 2, .int .i64 0]]) (by simp [results, Try.results24, go_sem, z0, z1, z2, z3, z4, z5, z6]) rfl ?_
      rw [HR2.out]
      exact ⟨none, 0, rfl, Fresh.none_ CW.out⟩
  · have hr := HR.out
    rw [if_pos he] at hr
    have HR2 := Lib.hid hr
    have he' : ((mF zs).1 != 0) = true := by simpa using he
    have QC := Lib.hid K5.out.chg
    clear he hr HR HCk
    have CW := Lib.hid (HP1.out _ 1 (.int .i64 (mF zs).2) (HP1.out _ 0 (.int .i64 (mF zs).1) (HP0.out _ 4 (.slice none 0 0) (HP0.out _ 3 (.int .i64 0) (HP0.out _ 2 (.int .i64 0) (HP0.out _ 1 (.int .i64 0) (HP0.out _ 0 (.int .i64 0) C7.out)))))))
    have q0 := QC.out.at_ B0.out (by simp)
    have q1 := QC.out.at_ B1.out (by simp)
    have z0 := cell_of q0 0
    have f0 := free_of q0 0
    have z1 := cell_of q0 1
    have f1 := free_of q0 1
    have z2 := cell_of q0 2
    have f2 := free_of q0 2
    have z3 := cell_of q0 3
    have f3 := free_of q0 3
    have z4 := cell_of q0 4
    have f4 := free_of q0 4
    have z5 := cell_of q1 0
    have f5 := free_of q1 0
    have z6 := cell_of q1 1
    have f6 := free_of q1 1
    simp only [List.getElem?_toArray, List.getElem?_cons_succ, List.getElem?_cons_zero] at z0 z1 z2 z3 z4 z5 z6
    have HPP := Lib.hid (put7 (.int .i64 0) (.int .i64 0) (.int .i64 0) (.int .i64 0) (.slice none 0 0) (.int .i64 (mF zs).1) (.int .i64 (mF zs).2) q0 q1 hs2)
    clear q0 q1
    go_wp2
    go_region
    go_wp2
    clear z0 z1 z2 z3 z4 z5 z6 f0 f1 f2 f3 f4 f5 f6
    generalize (((((((w7.setCell ⟨s0, 0, none⟩ (.int .i64 0)).setCell ⟨s0, 1, none⟩ (.int .i64 0)).setCell ⟨s0, 2, none⟩ (.int .i64 0)).setCell ⟨s0, 3, none⟩ (.int .i64 0)).setCell ⟨s0, 4, none⟩ (.slice none 0 0)).setCell ⟨s1, 0, none⟩ (.int .i64 (mF zs).1)).setCell ⟨s1, 1, none⟩ (.int .i64 (mF zs).2)) = W at *
    have z0 := cell_of HPP.out.1 0
    have z1 := cell_of HPP.out.1 1
    have z2 := cell_of HPP.out.1 2
    have z3 := cell_of HPP.out.1 3
    have z4 := cell_of HPP.out.1 4
    have z5 := cell_of HPP.out.2 0
    have z6 := cell_of HPP.out.2 1
    simp only [List.getElem?_toArray, List.getElem?_cons_succ, List.getElem?_cons_zero] at z0 z1 z2 z3 z4 z5 z6
    refine bodyPost_ret (v := .tuple #[.agg #[.int .i64 0, .int .i64 0, .int .i64 0, .int .i64 0, .slice none 0 0], .agg #[.int .i64 (mF zs).1, .int .i64 (mF zs).2]]) (by simp [results, Try.results24, go_sem, z0, z1, z2, z3, z4, z5, z6]) rfl ?_
    rw [HR2.out]
    exact ⟨none, 0, rfl, Fresh.none_ CW.out.drew⟩
end Go.Proofs.Ytelbahfmkpncaaa
