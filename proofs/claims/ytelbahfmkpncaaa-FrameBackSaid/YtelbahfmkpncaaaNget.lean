/- The document's GetMessage. -/
import Derived.Test.YtelbahfmkpncaaaMget2
namespace Go.Proofs.Ytelbahfmkpncaaa
open Go.RowKit
set_option linter.unusedSimpArgs false
set_option linter.unusedVariables false


set_option maxHeartbeats 8000000 in
theorem nget_part (w : World) (A : Option Addr) (c : Nat) (xs : List UInt8) (h : Bs w A xs.length xs) (hn : xs.length ≤ 140737488351232) (hc1 : xs.length ≤ c) (hc2 : c ≤ 9223372036854775807) (hk : (mN1 xs).1 = 1) :
    Calls Try.prog 25 #[.slice A xs.length c] w (ReadMPost w (readM xs)) := by
  obtain ⟨w0, hw0, c0, b0, b1⟩ := news2 w (.cells #[.int .i64 0, .int .i64 0, .int .i64 0, .int .i64 0, .slice none 0 0] 41) (.cells #[.int .i64 0, .int .i64 0] 32)
  have W0 := Lib.hid hw0
  have hs2 : ¬ w.heap.size = w.heap.size + 1 := by omega
  have d5 : ¬ w.heap.size + 1 = w.heap.size := by omega
  have HP0 := Lib.hid (fun (w' : World) (j : Nat) (v : Value) (h : Chg [] w w') => h.put (s := w.heap.size) (Nat.le_refl _) j v)
  have HP1 := Lib.hid (fun (w' : World) (j : Nat) (v : Value) (h : Chg [] w w') => h.put (s := w.heap.size + 1) (Nat.le_succ _) j v)
  have g0 := lt_of_heap b0
  have g1 := lt_of_heap b1
  have C0 := Lib.hid c0
  have B0 := Lib.hid b0
  have B1 := Lib.hid b1
  have H := Lib.hid (h.chg c0 (by simp))
  have hS : mS xs = ((mN3 xs).1, (mN4 xs).1, (mR5 xs).1) := by unfold mS; rw [if_pos hk]
  have hsm := mR5_small xs
  rw [hS] at hsm
  dsimp only at hsm
  have hchk := fun w1 A c => ncheckm_any w1 1 (mN2 xs).1 (mN3 xs).1 (mN4 xs).1 A (mR5 xs).1.length c (by omega)
  have HCk := Lib.hid hchk
  have hr : readM xs = readM xs := rfl
  conv at hr => rhs; unfold readM
  rw [hS] at hr
  have HZ := Lib.hid (@mF_zero xs)
  rw [hk] at hr
  dsimp only at hr
  have HR := Lib.hid hr
  generalize readM xs = RR at *
  clear hchk hr hS hsm
  clear hw0 c0 b0 b1 h
  have HK := Lib.hid hk
  go_enter Try.func25, Try.ntmps25
  go_wp2_with fail
  rw [← W0.out]
  generalize w.heap.size + 1 = s1 at *
  generalize w.heap.size = s0 at *
  generalize hzs : xs = zs at *
  clear hzs
  refine (us_open w0 w0 A c zs (Chg.refl _ _) H.out hc1 hc2 hn).mono ?_
  rintro e w1 ⟨v, rfl, h1⟩
  have hv := lt_of_heap h1.1.1
  have hv1 : ¬ w1.heap.size = v := by omega
  have hv2 : ¬ v = w1.heap.size := by omega
  have hs5 : w0.heap.size ≤ w1.heap.size := h1.chg.size
  have b5 := heap_alloc_new w1 (.cells #[.int .i64 0, .int .i64 0, .int .i64 0, .int .i64 0, .slice none 0 0] 41)
  have K5 := Lib.hid (h1.past ((Chg.refl [] w1).alloc (.cells #[.int .i64 0, .int .i64 0, .int .i64 0, .int .i64 0, .slice none 0 0] 41)))
  have B5 := Lib.hid b5
  clear h1 hv b5
  go_wp2_with fail
  generalize w1.alloc (.cells #[.int .i64 0, .int .i64 0, .int .i64 0, .int .i64 0, .slice none 0 0] 41) = y0 at *
  generalize w1.heap.size = s5 at *
  have r1 := us_num w0 y0 v _ c zs 0 0 0 1 3 K5.out
  change Calls _ _ _ _ (fun r w' => r = .returned (.int .i64 (mN1 zs).1) ∧ Us w0 w' v _ c zs (mN1 zs).2.1 (mN1 zs).2.2.1 (mN1 zs).2.2.2 ∧ _) at r1
  rw [HK.out] at r1
  refine r1.mono ?_
  rintro e x1 ⟨rfl, h2, c2⟩
  have b5 := c2.at_ B5.out (by simpa using hv1)
  have m0 := cell_of b5 0
  have m1 := free_of b5 0
  simp only [List.getElem?_toArray, List.getElem?_cons_succ, List.getElem?_cons_zero] at m0
  replace K5 := Lib.hid (h2.put (s := s5) 0 (.int .i64 1) hs5 hv1)
  have b6 := heap_setCell_same x1 s5 0 _ _ (.int .i64 1) b5
  simp only [List.setIfInBounds_toArray, List.set_cons_zero, List.set_cons_succ] at b6
  replace B5 := Lib.hid b6
  clear h2 c2 b5 b6 r1
  go_wp2_with fail
  generalize x1.setCell ⟨s5, 0, none⟩ (.int .i64 1) = y1 at *
  clear m0 m1
  have r1 := us_num w0 y1 v _ c zs _ _ _ 1 1099511627776 K5.out
  change Calls _ _ _ _ (fun r w' => r = .returned (.int .i64 (mN2 zs).1) ∧ Us w0 w' v _ c zs (mN2 zs).2.1 (mN2 zs).2.2.1 (mN2 zs).2.2.2 ∧ _) at r1
  refine r1.mono ?_
  rintro e x2 ⟨rfl, h2, c2⟩
  have b5 := c2.at_ B5.out (by simpa using hv1)
  have m0 := cell_of b5 1
  have m1 := free_of b5 1
  simp only [List.getElem?_toArray, List.getElem?_cons_succ, List.getElem?_cons_zero] at m0
  replace K5 := Lib.hid (h2.put (s := s5) 1 (.int .i64 (mN2 zs).1) hs5 hv1)
  have b6 := heap_setCell_same x2 s5 1 _ _ (.int .i64 (mN2 zs).1) b5
  simp only [List.setIfInBounds_toArray, List.set_cons_zero, List.set_cons_succ] at b6
  have xk := cell_of b6 0
  simp only [List.getElem?_toArray, List.getElem?_cons_succ, List.getElem?_cons_zero] at xk
  replace B5 := Lib.hid b6
  clear h2 c2 b5 b6 r1
  go_upto_region 5 with fail
  generalize x2.setCell ⟨s5, 1, none⟩ (.int .i64 (mN2 zs).1) = y2 at *
  clear m0 m1
  go_wp2_with fail
  clear xk
  have r1 := us_num w0 y2 v _ c zs _ _ _ 1 60000 K5.out
  change Calls _ _ _ _ (fun r w' => r = .returned (.int .i64 (mN3 zs).1) ∧ Us w0 w' v _ c zs (mN3 zs).2.1 (mN3 zs).2.2.1 (mN3 zs).2.2.2 ∧ _) at r1
  refine r1.mono ?_
  rintro e x3 ⟨rfl, h2, c2⟩
  have b5 := c2.at_ B5.out (by simpa using hv1)
  have m0 := cell_of b5 2
  have m1 := free_of b5 2
  simp only [List.getElem?_toArray, List.getElem?_cons_succ, List.getElem?_cons_zero] at m0
  replace K5 := Lib.hid (h2.put (s := s5) 2 (.int .i64 (mN3 zs).1) hs5 hv1)
  have b6 := heap_setCell_same x3 s5 2 _ _ (.int .i64 (mN3 zs).1) b5
  simp only [List.setIfInBounds_toArray, List.set_cons_zero, List.set_cons_succ] at b6
  replace B5 := Lib.hid b6
  clear h2 c2 b5 b6 r1
  go_wp2_with fail
  generalize x3.setCell ⟨s5, 2, none⟩ (.int .i64 (mN3 zs).1) = y3 at *
  clear m0 m1
  have r1 := us_num w0 y3 v _ c zs _ _ _ 0 60000 K5.out
  change Calls _ _ _ _ (fun r w' => r = .returned (.int .i64 (mN4 zs).1) ∧ Us w0 w' v _ c zs (mN4 zs).2.1 (mN4 zs).2.2.1 (mN4 zs).2.2.2 ∧ _) at r1
  refine r1.mono ?_
  rintro e x4 ⟨rfl, h2, c2⟩
  have b5 := c2.at_ B5.out (by simpa using hv1)
  have m0 := cell_of b5 3
  have m1 := free_of b5 3
  simp only [List.getElem?_toArray, List.getElem?_cons_succ, List.getElem?_cons_zero] at m0
  replace K5 := Lib.hid (h2.put (s := s5) 3 (.int .i64 (mN4 zs).1) hs5 hv1)
  have b6 := heap_setCell_same x4 s5 3 _ _ (.int .i64 (mN4 zs).1) b5
  simp only [List.setIfInBounds_toArray, List.set_cons_zero, List.set_cons_succ] at b6
  replace B5 := Lib.hid b6
  clear h2 c2 b5 b6 r1
  go_wp2_with fail
  generalize x4.setCell ⟨s5, 3, none⟩ (.int .i64 (mN4 zs).1) = y4 at *
  clear m0 m1
  have r1 := us_raw w0 y4 v _ c zs _ _ _ 200 K5.out
  change Calls _ _ _ _ (fun r w' => ∃ A' c', r = .returned (.slice A' (mR5 zs).1.length c') ∧ OwnB w' A' c' (mR5 zs).1 ∧ (∀ a, A' = some a → y4.heap.size ≤ a.block) ∧ Us w0 w' v _ c zs (mR5 zs).2.1 (mR5 zs).2.2.1 (mR5 zs).2.2.2 ∧ _) at r1
  refine r1.mono ?_
  rintro e x5 ⟨A4, c4, rfl, o4, n4, h2, c2⟩
  have hlt := lt_of_heap B5.out
  have n4' : ∀ a, A4 = some a → w0.heap.size ≤ a.block := fun a e => Nat.le_trans K5.out.chg.size (n4 a e)
  have n4s : ∀ a, A4 = some a → a.block ∉ [s5] := fun a e => by have := n4 a e; simp; omega
  have N4 := Lib.hid n4'
  have O4 := Lib.hid (o4.chg ((Chg.refl [s5] x5).setCell (p := ⟨s5, 4, none⟩) (.inl (by simp)) (.slice A4 (mR5 zs).1.length c4)) n4s)
  clear hlt n4 n4' n4s o4
  have b5 := c2.at_ B5.out (by simpa using hv1)
  have m0 := cell_of b5 4
  have m1 := free_of b5 4
  simp only [List.getElem?_toArray, List.getElem?_cons_succ, List.getElem?_cons_zero] at m0
  replace K5 := Lib.hid (h2.put (s := s5) 4 (.slice A4 (mR5 zs).1.length c4) hs5 hv1)
  have b6 := heap_setCell_same x5 s5 4 _ _ (.slice A4 (mR5 zs).1.length c4) b5
  simp only [List.setIfInBounds_toArray, List.set_cons_zero, List.set_cons_succ] at b6
  replace B5 := Lib.hid b6
  clear h2 c2 b5 b6 r1
  go_wp2_with fail
  generalize x5.setCell ⟨s5, 4, none⟩ (.slice A4 (mR5 zs).1.length c4) = y5 at *
  clear m0 m1
  have r1 := us_end w0 y5 v _ c zs _ _ _ K5.out
  have he0 : endR zs (mR5 zs).2.1 (mR5 zs).2.2.1 (mR5 zs).2.2.2 = mF zs := by unfold mF mE; rw [if_pos HK.out]
  rw [he0] at r1
  clear he0
  refine r1.mono ?_
  rintro e w6 ⟨rfl, c6⟩
  replace B5 := Lib.hid (c6.at_ B5.out (by simp))
  replace K5 := Lib.hid (K5.out.past c6)
  replace O4 := Lib.hid (O4.out.chg c6 (by simp))
  clear c6 r1
  have t6 := K5.out.chg.size
  have d1 : ¬ w6.heap.size = s0 := by omega
  have d2 : ¬ w6.heap.size = s1 := by omega
  have d3 : ¬ s0 = w6.heap.size := by omega
  have d4 : ¬ s1 = w6.heap.size := by omega
  have e5 : ¬ s5 = s0 := by omega
  have e6 : ¬ s5 = s1 := by omega
  have e7 : ¬ s0 = s5 := by omega
  have e8 : ¬ s1 = s5 := by omega
  clear t6
  obtain ⟨w7, hw7, c7, b7⟩ := news1 w6 (.cells #[.int .i64 (mF zs).1, .int .i64 (mF zs).2] 32)
  replace K5 := Lib.hid (K5.out.past c7)
  replace B5 := Lib.hid (c7.at_ B5.out (by simp))
  replace O4 := Lib.hid (O4.out.chg c7 (by simp))
  have W7 := Lib.hid hw7
  have B7 := Lib.hid b7
  have C7 := Lib.hid (C0.out.trans K5.out.chg)
  have hlt5 := lt_of_heap B5.out
  clear hw7 c7 b7
  have y0_ := cell_of (B7.out) 0
  have y1_ := cell_of (B7.out) 1
  simp only [List.getElem?_toArray, List.getElem?_cons_succ, List.getElem?_cons_zero] at y0_ y1_
  go_upto_region 10 with fail
  rw [← W7.out]
  generalize w6.heap.size = s6 at *
  by_cases he : (mF zs).1 = 0
  · have he2 := HZ.out he
    have hr := HR.out
    rw [if_neg (by simpa using he)] at hr
    have he' : ((mF zs).1 != 0) = false := by simpa using he
    by_cases hf : FineM 1 (mN2 zs).1 (mN3 zs).1 (mN4 zs).1 (mR5 zs).1.length
    · rw [if_pos hf] at hr
      have HR2 := Lib.hid hr
      have hc := HCk.out w7 A4 c4
      rw [chkM_fine hf] at hc
      have HC := Lib.hid hc
      have HE := Lib.hid (And.intro he he2)
      clear he he2 hf hc hr HR HCk
      have x0 := cell_of B5.out 0
      have x1 := cell_of B5.out 1
      have x2 := cell_of B5.out 2
      have x3 := cell_of B5.out 3
      have x4 := cell_of B5.out 4
      simp only [List.getElem?_toArray, List.getElem?_cons_succ, List.getElem?_cons_zero] at x0 x1 x2 x3 x4
      go_wp2_with fail
      clear x0 x1 x2 x3 x4 y0_ y1_
      refine HC.out.mono ?_
      rintro e wb ⟨rfl, cb⟩
      replace B5 := Lib.hid (cb.at_ B5.out (by simp))
      replace B7 := Lib.hid (cb.at_ B7.out (by simp))
      have QC := Lib.hid (K5.out.chg.trans cb)
      replace C7 := Lib.hid (C7.out.trans cb)
      replace O4 := Lib.hid (O4.out.chg cb (by simp))
      clear cb
      have x0 := cell_of B5.out 0
      have x1 := cell_of B5.out 1
      have x2 := cell_of B5.out 2
      have x3 := cell_of B5.out 3
      have x4 := cell_of B5.out 4
      simp only [List.getElem?_toArray, List.getElem?_cons_succ, List.getElem?_cons_zero] at x0 x1 x2 x3 x4
      have y0_ := cell_of (B7.out) 0
      have y1_ := cell_of (B7.out) 1
      simp only [List.getElem?_toArray, List.getElem?_cons_succ, List.getElem?_cons_zero] at y0_ y1_
      have OW := Lib.hid (O4.out.chg (S := [s0, s1]) ((((((((Chg.refl [s0, s1] wb).setCell (p := ⟨s0, 0, none⟩) (.inl (by simp)) (.int .i64 1)).setCell (p := ⟨s0, 1, none⟩) (.inl (by simp)) (.int .i64 (mN2 zs).1)).setCell (p := ⟨s0, 2, none⟩) (.inl (by simp)) (.int .i64 (mN3 zs).1)).setCell (p := ⟨s0, 3, none⟩) (.inl (by simp)) (.int .i64 (mN4 zs).1)).setCell (p := ⟨s0, 4, none⟩) (.inl (by simp)) (.slice A4 (mR5 zs).1.length c4)).setCell (p := ⟨s1, 0, none⟩) (.inl (by simp)) (.int .i64 (mF zs).1)).setCell (p := ⟨s1, 1, none⟩) (.inl (by simp)) (.int .i64 (mF zs).2)) (bs_apart2 N4.out g0 g1))
      have CW := Lib.hid (HP1.out _ 1 (.int .i64 (mF zs).2) (HP1.out _ 0 (.int .i64 (mF zs).1) (HP0.out _ 4 (.slice A4 (mR5 zs).1.length c4) (HP0.out _ 3 (.int .i64 (mN4 zs).1) (HP0.out _ 2 (.int .i64 (mN3 zs).1) (HP0.out _ 1 (.int .i64 (mN2 zs).1) (HP0.out _ 0 (.int .i64 1) C7.out)))))))
      have q0 := QC.out.at_ B0.out (by simp)
      have q1 := QC.out.at_ B1.out (by simp)
      have z0 := cell_of q0 0
      have f0 := free_of q0 0
      have z1 := cell_of q0 1
      have f1 := free_of q0 1
      have z2 := cell_of q0 2
      have f2 := free_of q0 2
      have z3 := cell_of q0 3
      have f3 := free_of q0 3
      have z4 := cell_of q0 4
      have f4 := free_of q0 4
      have z5 := cell_of q1 0
      have f5 := free_of q1 0
      have z6 := cell_of q1 1
      have f6 := free_of q1 1
      simp only [List.getElem?_toArray, List.getElem?_cons_succ, List.getElem?_cons_zero] at z0 z1 z2 z3 z4 z5 z6
      have HPP := Lib.hid (put7 (.int .i64 1) (.int .i64 (mN2 zs).1) (.int .i64 (mN3 zs).1) (.int .i64 (mN4 zs).1) (.slice A4 (mR5 zs).1.length c4) (.int .i64 (mF zs).1) (.int .i64 (mF zs).2) q0 q1 hs2)
      clear q0 q1
      go_wp2
      go_region
      go_wp2
      clear z0 z1 z2 z3 z4 z5 z6 f0 f1 f2 f3 f4 f5 f6
      generalize (((((((wb.setCell ⟨s0, 0, none⟩ (.int .i64 1)).setCell ⟨s0, 1, none⟩ (.int .i64 (mN2 zs).1)).setCell ⟨s0, 2, none⟩ (.int .i64 (mN3 zs).1)).setCell ⟨s0, 3, none⟩ (.int .i64 (mN4 zs).1)).setCell ⟨s0, 4, none⟩ (.slice A4 (mR5 zs).1.length c4)).setCell ⟨s1, 0, none⟩ (.int .i64 (mF zs).1)).setCell ⟨s1, 1, none⟩ (.int .i64 (mF zs).2)) = W at *
      have z0 := cell_of HPP.out.1 0
      have z1 := cell_of HPP.out.1 1
      have z2 := cell_of HPP.out.1 2
      have z3 := cell_of HPP.out.1 3
      have z4 := cell_of HPP.out.1 4
      have z5 := cell_of HPP.out.2 0
      have z6 := cell_of HPP.out.2 1
      simp only [List.getElem?_toArray, List.getElem?_cons_succ, List.getElem?_cons_zero] at z0 z1 z2 z3 z4 z5 z6
      refine bodyPost_ret (v := .tuple #[.agg #[.int .i64 1, .int .i64 (mN2 zs).1, .int .i64 (mN3 zs).1, .int .i64 (mN4 zs).1, .slice A4 (mR5 zs).1.length c4], .agg #[.int .i64 (mF zs).1, .int .i64 (mF zs).2]]) (by simp [results, Try.results25, go_sem, z0, z1, z2, z3, z4, z5, z6]) rfl ?_
      rw [HR2.out]
      exact ⟨A4, c4, by rw [HE.out.1, HE.out.2], OW.out.chg (Chg.refl [] W).drew (by simp), fun a e => Nat.le_trans C0.out.size (N4.out a e), CW.out.drew⟩
    · rw [if_neg hf] at hr
      have HR2 := Lib.hid hr
      have hc := HCk.out w7 A4 c4
      rw [chkM_odd hf] at hc
      have HC := Lib.hid hc
      have HE := Lib.hid (And.intro he he2)
      clear he he2 hf hc hr HR HCk
      have x0 := cell_of B5.out 0
      have x1 := cell_of B5.out 1
      have x2 := cell_of B5.out 2
      have x3 := cell_of B5.out 3
      have x4 := cell_of B5.out 4
      simp only [List.getElem?_toArray, List.getElem?_cons_succ, List.getElem?_cons_zero] at x0 x1 x2 x3 x4
      go_wp2_with fail
      clear x0 x1 x2 x3 x4 y0_ y1_
      refine HC.out.mono ?_
      rintro e wb ⟨rfl, cb⟩
      replace B5 := Lib.hid (cb.at_ B5.out (by simp))
      replace B7 := Lib.hid (cb.at_ B7.out (by simp))
      have QC := Lib.hid (K5.out.chg.trans cb)
      replace C7 := Lib.hid (C7.out.trans cb)
      replace O4 := Lib.hid (O4.out.chg cb (by simp))
      clear cb
      have CW := Lib.hid (HP1.out _ 1 (.int .i64 0) (HP1.out _ 0 (.int .i64 2) (HP0.out _ 4 (.slice none 0 0) (HP0.out _ 3 (.int .i64 0) (HP0.out _ 2 (.int .i64 0) (HP0.out _ 1 (.int .i64 0) (HP0.out _ 0 (.int .i64 0) C7.out)))))))
      have q0 := QC.out.at_ B0.out (by simp)
      have q1 := QC.out.at_ B1.out (by simp)
      have z0 := cell_of q0 0
      have f0 := free_of q0 0
      have z1 := cell_of q0 1
      have f1 := free_of q0 1
      have z2 := cell_of q0 2
      have f2 := free_of q0 2
      have z3 := cell_of q0 3
      have f3 := free_of q0 3
      have z4 := cell_of q0 4
      have f4 := free_of q0 4
      have z5 := cell_of q1 0
      have f5 := free_of q1 0
      have z6 := cell_of q1 1
      have f6 := free_of q1 1
      simp only [List.getElem?_toArray, List.getElem?_cons_succ, List.getElem?_cons_zero] at z0 z1 z2 z3 z4 z5 z6
      have HPP := Lib.hid (put7 (.int .i64 0) (.int .i64 0) (.int .i64 0) (.int .i64 0) (.slice none 0 0) (.int .i64 2) (.int .i64 0) q0 q1 hs2)
      clear q0 q1
      go_wp2
      clear z0 z1 z2 z3 z4 z5 z6 f0 f1 f2 f3 f4 f5 f6
      generalize (((((((wb.setCell ⟨s0, 0, none⟩ (.int .i64 0)).setCell ⟨s0, 1, none⟩ (.int .i64 0)).setCell ⟨s0, 2, none⟩ (.int .i64 0)).setCell ⟨s0, 3, none⟩ (.int .i64 0)).setCell ⟨s0, 4, none⟩ (.slice none 0 0)).setCell ⟨s1, 0, none⟩ (.int .i64 2)).setCell ⟨s1, 1, none⟩ (.int .i64 0)) = W at *
      have z0 := cell_of HPP.out.1 0
      have z1 := cell_of HPP.out.1 1
      have z2 := cell_of HPP.out.1 2
      have z3 := cell_of HPP.out.1 3
      have z4 := cell_of HPP.out.1 4
      have z5 := cell_of HPP.out.2 0
      have z6 := cell_of HPP.out.2 1
      simp only [List.getElem?_toArray, List.getElem?_cons_succ, List.getElem?_cons_zero] at z0 z1 z2 z3 z4 z5 z6
      refine bodyPost_ret (v := .tuple #[.agg #[.int .i64 0, .int .i64 0, .int .i64 0, .int .i64 0, .slice none 0 0], .agg #[.int .i64 2, .int .i64 0]]) (by simp [results, Try.results25, go_sem, z0, z1, z2, z3, z4, z5, z6]) rfl ?_
      rw [HR2.out]
      exact ⟨none, 0, rfl, Fresh.none_ CW.out⟩
  · have hr := HR.out
    rw [if_pos he] at hr
    have HR2 := Lib.hid hr
    have he' : ((mF zs).1 != 0) = true := by simpa using he
    have QC := Lib.hid K5.out.chg
    clear he hr HR HCk
    have CW := Lib.hid (HP1.out _ 1 (.int .i64 (mF zs).2) (HP1.out _ 0 (.int .i64 (mF zs).1) (HP0.out _ 4 (.slice none 0 0) (HP0.out _ 3 (.int .i64 0) (HP0.out _ 2 (.int .i64 0) (HP0.out _ 1 (.int .i64 0) (HP0.out _ 0 (.int .i64 0) C7.out)))))))
    have q0 := QC.out.at_ B0.out (by simp)
    have q1 := QC.out.at_ B1.out (by simp)
    have z0 := cell_of q0 0
    have f0 := free_of q0 0
    have z1 := cell_of q0 1
    have f1 := free_of q0 1
    have z2 := cell_of q0 2
    have f2 := free_of q0 2
    have z3 := cell_of q0 3
    have f3 := free_of q0 3
    have z4 := cell_of q0 4
    have f4 := free_of q0 4
    have z5 := cell_of q1 0
    have f5 := free_of q1 0
    have z6 := cell_of q1 1
    have f6 := free_of q1 1
    simp only [List.getElem?_toArray, List.getElem?_cons_succ, List.getElem?_cons_zero] at z0 z1 z2 z3 z4 z5 z6
    have HPP := Lib.hid (put7 (.int .i64 0) (.int .i64 0) (.int .i64 0) (.int .i64 0) (.slice none 0 0) (.int .i64 (mF zs).1) (.int .i64 (mF zs).2) q0 q1 hs2)
    clear q0 q1
    go_wp2
    go_region
    go_wp2
    clear z0 z1 z2 z3 z4 z5 z6 f0 f1 f2 f3 f4 f5 f6
    generalize (((((((w7.setCell ⟨s0, 0, none⟩ (.int .i64 0)).setCell ⟨s0, 1, none⟩ (.int .i64 0)).setCell ⟨s0, 2, none⟩ (.int .i64 0)).setCell ⟨s0, 3, none⟩ (.int .i64 0)).setCell ⟨s0, 4, none⟩ (.slice none 0 0)).setCell ⟨s1, 0, none⟩ (.int .i64 (mF zs).1)).setCell ⟨s1, 1, none⟩ (.int .i64 (mF zs).2)) = W at *
    have z0 := cell_of HPP.out.1 0
    have z1 := cell_of HPP.out.1 1
    have z2 := cell_of HPP.out.1 2
    have z3 := cell_of HPP.out.1 3
    have z4 := cell_of HPP.out.1 4
    have z5 := cell_of HPP.out.2 0
    have z6 := cell_of HPP.out.2 1
    simp only [List.getElem?_toArray, List.getElem?_cons_succ, List.getElem?_cons_zero] at z0 z1 z2 z3 z4 z5 z6
    refine bodyPost_ret (v := .tuple #[.agg #[.int .i64 0, .int .i64 0, .int .i64 0, .int .i64 0, .slice none 0 0], .agg #[.int .i64 (mF zs).1, .int .i64 (mF zs).2]]) (by simp [results, Try.results25, go_sem, z0, z1, z2, z3, z4, z5, z6]) rfl ?_
    rw [HR2.out]
    exact ⟨none, 0, rfl, Fresh.none_ CW.out.drew⟩

set_option maxHeartbeats 8000000 in
theorem nget_none (w : World) (A : Option Addr) (c : Nat) (xs : List UInt8) (h : Bs w A xs.length xs) (hn : xs.length ≤ 140737488351232) (hc1 : xs.length ≤ c) (hc2 : c ≤ 9223372036854775807) (hk : ¬ (mN1 xs).1 = 1) :
    Calls Try.prog 25 #[.slice A xs.length c] w (ReadMPost w (readM xs)) := by
  obtain ⟨w0, hw0, c0, b0, b1⟩ := news2 w (.cells #[.int .i64 0, .int .i64 0, .int .i64 0, .int .i64 0, .slice none 0 0] 41) (.cells #[.int .i64 0, .int .i64 0] 32)
  have W0 := Lib.hid hw0
  have hs2 : ¬ w.heap.size = w.heap.size + 1 := by omega
  have d5 : ¬ w.heap.size + 1 = w.heap.size := by omega
  have HP0 := Lib.hid (fun (w' : World) (j : Nat) (v : Value) (h : Chg [] w w') => h.put (s := w.heap.size) (Nat.le_refl _) j v)
  have HP1 := Lib.hid (fun (w' : World) (j : Nat) (v : Value) (h : Chg [] w w') => h.put (s := w.heap.size + 1) (Nat.le_succ _) j v)
  have g0 := lt_of_heap b0
  have g1 := lt_of_heap b1
  have C0 := Lib.hid c0
  have B0 := Lib.hid b0
  have B1 := Lib.hid b1
  have H := Lib.hid (h.chg c0 (by simp))
  have hS : mS xs = (0, 0, []) := by unfold mS; rw [if_neg hk]
  have hsm := mR5_small xs
  rw [hS] at hsm
  dsimp only at hsm
  have hchk := fun w1 A c => ncheckm_any w1 (mN1 xs).1 (mN2 xs).1 0 0 A 0 c (by omega)
  have HCk := Lib.hid hchk
  have hr : readM xs = readM xs := rfl
  conv at hr => rhs; unfold readM
  rw [hS] at hr
  have HZ := Lib.hid (@mF_zero xs)
  dsimp only [List.length_nil] at hr
  have HR := Lib.hid hr
  generalize readM xs = RR at *
  clear hchk hr hS hsm
  clear hw0 c0 b0 b1 h
  have HK := Lib.hid hk
  have hkb : ((mN1 xs).1 == 1) = false := by simpa using hk
  have hkc : decide ((mN1 xs).1 = 1) = false := by simpa using hk
  go_enter Try.func25, Try.ntmps25
  go_wp2_with fail
  rw [← W0.out]
  generalize w.heap.size + 1 = s1 at *
  generalize w.heap.size = s0 at *
  generalize hzs : xs = zs at *
  clear hzs
  refine (us_open w0 w0 A c zs (Chg.refl _ _) H.out hc1 hc2 hn).mono ?_
  rintro e w1 ⟨v, rfl, h1⟩
  have hv := lt_of_heap h1.1.1
  have hv1 : ¬ w1.heap.size = v := by omega
  have hv2 : ¬ v = w1.heap.size := by omega
  have hs5 : w0.heap.size ≤ w1.heap.size := h1.chg.size
  have b5 := heap_alloc_new w1 (.cells #[.int .i64 0, .int .i64 0, .int .i64 0, .int .i64 0, .slice none 0 0] 41)
  have K5 := Lib.hid (h1.past ((Chg.refl [] w1).alloc (.cells #[.int .i64 0, .int .i64 0, .int .i64 0, .int .i64 0, .slice none 0 0] 41)))
  have B5 := Lib.hid b5
  clear h1 hv b5
  go_wp2_with fail
  generalize w1.alloc (.cells #[.int .i64 0, .int .i64 0, .int .i64 0, .int .i64 0, .slice none 0 0] 41) = y0 at *
  generalize w1.heap.size = s5 at *
  have r1 := us_num w0 y0 v _ c zs 0 0 0 1 3 K5.out
  change Calls _ _ _ _ (fun r w' => r = .returned (.int .i64 (mN1 zs).1) ∧ Us w0 w' v _ c zs (mN1 zs).2.1 (mN1 zs).2.2.1 (mN1 zs).2.2.2 ∧ _) at r1
  refine r1.mono ?_
  rintro e x1 ⟨rfl, h2, c2⟩
  have b5 := c2.at_ B5.out (by simpa using hv1)
  have m0 := cell_of b5 0
  have m1 := free_of b5 0
  simp only [List.getElem?_toArray, List.getElem?_cons_succ, List.getElem?_cons_zero] at m0
  replace K5 := Lib.hid (h2.put (s := s5) 0 (.int .i64 (mN1 zs).1) hs5 hv1)
  have b6 := heap_setCell_same x1 s5 0 _ _ (.int .i64 (mN1 zs).1) b5
  simp only [List.setIfInBounds_toArray, List.set_cons_zero, List.set_cons_succ] at b6
  replace B5 := Lib.hid b6
  clear h2 c2 b5 b6 r1
  go_wp2_with fail
  generalize x1.setCell ⟨s5, 0, none⟩ (.int .i64 (mN1 zs).1) = y1 at *
  clear m0 m1
  have r1 := us_num w0 y1 v _ c zs _ _ _ 1 1099511627776 K5.out
  change Calls _ _ _ _ (fun r w' => r = .returned (.int .i64 (mN2 zs).1) ∧ Us w0 w' v _ c zs (mN2 zs).2.1 (mN2 zs).2.2.1 (mN2 zs).2.2.2 ∧ _) at r1
  refine r1.mono ?_
  rintro e x2 ⟨rfl, h2, c2⟩
  have b5 := c2.at_ B5.out (by simpa using hv1)
  have m0 := cell_of b5 1
  have m1 := free_of b5 1
  simp only [List.getElem?_toArray, List.getElem?_cons_succ, List.getElem?_cons_zero] at m0
  replace K5 := Lib.hid (h2.put (s := s5) 1 (.int .i64 (mN2 zs).1) hs5 hv1)
  have b6 := heap_setCell_same x2 s5 1 _ _ (.int .i64 (mN2 zs).1) b5
  simp only [List.setIfInBounds_toArray, List.set_cons_zero, List.set_cons_succ] at b6
  have xk := cell_of b6 0
  simp only [List.getElem?_toArray, List.getElem?_cons_succ, List.getElem?_cons_zero] at xk
  replace B5 := Lib.hid b6
  clear h2 c2 b5 b6 r1
  go_upto_region 5 with fail
  generalize x2.setCell ⟨s5, 1, none⟩ (.int .i64 (mN2 zs).1) = y2 at *
  clear m0 m1
  go_wp2_with fail
  clear xk
  have r1 := us_end w0 y2 v _ c zs _ _ _ K5.out
  have he0 : endR zs (mN2 zs).2.1 (mN2 zs).2.2.1 (mN2 zs).2.2.2 = mF zs := by unfold mF mE; rw [if_neg HK.out]
  rw [he0] at r1
  clear he0
  refine r1.mono ?_
  rintro e w6 ⟨rfl, c6⟩
  replace B5 := Lib.hid (c6.at_ B5.out (by simp))
  replace K5 := Lib.hid (K5.out.past c6)
  clear c6 r1
  have t6 := K5.out.chg.size
  have d1 : ¬ w6.heap.size = s0 := by omega
  have d2 : ¬ w6.heap.size = s1 := by omega
  have d3 : ¬ s0 = w6.heap.size := by omega
  have d4 : ¬ s1 = w6.heap.size := by omega
  have e5 : ¬ s5 = s0 := by omega
  have e6 : ¬ s5 = s1 := by omega
  have e7 : ¬ s0 = s5 := by omega
  have e8 : ¬ s1 = s5 := by omega
  clear t6
  obtain ⟨w7, hw7, c7, b7⟩ := news1 w6 (.cells #[.int .i64 (mF zs).1, .int .i64 (mF zs).2] 32)
  replace K5 := Lib.hid (K5.out.past c7)
  replace B5 := Lib.hid (c7.at_ B5.out (by simp))
  have W7 := Lib.hid hw7
  have B7 := Lib.hid b7
  have C7 := Lib.hid (C0.out.trans K5.out.chg)
  have hlt5 := lt_of_heap B5.out
  clear hw7 c7 b7
  have y0_ := cell_of (B7.out) 0
  have y1_ := cell_of (B7.out) 1
  simp only [List.getElem?_toArray, List.getElem?_cons_succ, List.getElem?_cons_zero] at y0_ y1_
  go_upto_region 10 with fail
  rw [← W7.out]
  generalize w6.heap.size = s6 at *
  by_cases he : (mF zs).1 = 0
  · have he2 := HZ.out he
    have hr := HR.out
    rw [if_neg (by simpa using he)] at hr
    have he' : ((mF zs).1 != 0) = false := by simpa using he
    by_cases hf : FineM (mN1 zs).1 (mN2 zs).1 0 0 0
    · rw [if_pos hf] at hr
      have HR2 := Lib.hid hr
      have hc := HCk.out w7 none 0
      rw [chkM_fine hf] at hc
      have HC := Lib.hid hc
      have HE := Lib.hid (And.intro he he2)
      clear he he2 hf hc hr HR HCk
      have x0 := cell_of B5.out 0
      have x1 := cell_of B5.out 1
      have x2 := cell_of B5.out 2
      have x3 := cell_of B5.out 3
      have x4 := cell_of B5.out 4
      simp only [List.getElem?_toArray, List.getElem?_cons_succ, List.getElem?_cons_zero] at x0 x1 x2 x3 x4
      go_wp2_with fail
      clear x0 x1 x2 x3 x4 y0_ y1_
      refine HC.out.mono ?_
      rintro e wb ⟨rfl, cb⟩
      replace B5 := Lib.hid (cb.at_ B5.out (by simp))
      replace B7 := Lib.hid (cb.at_ B7.out (by simp))
      have QC := Lib.hid (K5.out.chg.trans cb)
      replace C7 := Lib.hid (C7.out.trans cb)
      clear cb
      have x0 := cell_of B5.out 0
      have x1 := cell_of B5.out 1
      have x2 := cell_of B5.out 2
      have x3 := cell_of B5.out 3
      have x4 := cell_of B5.out 4
      simp only [List.getElem?_toArray, List.getElem?_cons_succ, List.getElem?_cons_zero] at x0 x1 x2 x3 x4
      have y0_ := cell_of (B7.out) 0
      have y1_ := cell_of (B7.out) 1
      simp only [List.getElem?_toArray, List.getElem?_cons_succ, List.getElem?_cons_zero] at y0_ y1_
      have CW := Lib.hid (HP1.out _ 1 (.int .i64 (mF zs).2) (HP1.out _ 0 (.int .i64 (mF zs).1) (HP0.out _ 4 (.slice none 0 0) (HP0.out _ 3 (.int .i64 0) (HP0.out _ 2 (.int .i64 0) (HP0.out _ 1 (.int .i64 (mN2 zs).1) (HP0.out _ 0 (.int .i64 (mN1 zs).1) C7.out)))))))
      have q0 := QC.out.at_ B0.out (by simp)
      have q1 := QC.out.at_ B1.out (by simp)
      have z0 := cell_of q0 0
      have f0 := free_of q0 0
      have z1 := cell_of q0 1
      have f1 := free_of q0 1
      have z2 := cell_of q0 2
      have f2 := free_of q0 2
      have z3 := cell_of q0 3
      have f3 := free_of q0 3
      have z4 := cell_of q0 4
      have f4 := free_of q0 4
      have z5 := cell_of q1 0
      have f5 := free_of q1 0
      have z6 := cell_of q1 1
      have f6 := free_of q1 1
      simp only [List.getElem?_toArray, List.getElem?_cons_succ, List.getElem?_cons_zero] at z0 z1 z2 z3 z4 z5 z6
      have HPP := Lib.hid (put7 (.int .i64 (mN1 zs).1) (.int .i64 (mN2 zs).1) (.int .i64 0) (.int .i64 0) (.slice none 0 0) (.int .i64 (mF zs).1) (.int .i64 (mF zs).2) q0 q1 hs2)
      clear q0 q1
      go_wp2
      go_region
      go_wp2
      clear z0 z1 z2 z3 z4 z5 z6 f0 f1 f2 f3 f4 f5 f6
      generalize (((((((wb.setCell ⟨s0, 0, none⟩ (.int .i64 (mN1 zs).1)).setCell ⟨s0, 1, none⟩ (.int .i64 (mN2 zs).1)).setCell ⟨s0, 2, none⟩ (.int .i64 0)).setCell ⟨s0, 3, none⟩ (.int .i64 0)).setCell ⟨s0, 4, none⟩ (.slice none 0 0)).setCell ⟨s1, 0, none⟩ (.int .i64 (mF zs).1)).setCell ⟨s1, 1, none⟩ (.int .i64 (mF zs).2)) = W at *
      have z0 := cell_of HPP.out.1 0
      have z1 := cell_of HPP.out.1 1
      have z2 := cell_of HPP.out.1 2
      have z3 := cell_of HPP.out.1 3
      have z4 := cell_of HPP.out.1 4
      have z5 := cell_of HPP.out.2 0
      have z6 := cell_of HPP.out.2 1
      simp only [List.getElem?_toArray, List.getElem?_cons_succ, List.getElem?_cons_zero] at z0 z1 z2 z3 z4 z5 z6
      refine bodyPost_ret (v := .tuple #[.agg #[.int .i64 (mN1 zs).1, .int .i64 (mN2 zs).1, .int .i64 0, .int .i64 0, .slice none 0 0], .agg #[.int .i64 (mF zs).1, .int .i64 (mF zs).2]]) (by simp [results, Try.results25, go_sem, z0, z1, z2, z3, z4, z5, z6]) rfl ?_
      rw [HR2.out]
      exact ⟨none, 0, by rw [HE.out.1, HE.out.2]; rfl, Fresh.none_ CW.out.drew⟩
    · rw [if_neg hf] at hr
      have HR2 := Lib.hid hr
      have hc := HCk.out w7 none 0
      rw [chkM_odd hf] at hc
      have HC := Lib.hid hc
      have HE := Lib.hid (And.intro he he2)
      clear he he2 hf hc hr HR HCk
      have x0 := cell_of B5.out 0
      have x1 := cell_of B5.out 1
      have x2 := cell_of B5.out 2
      have x3 := cell_of B5.out 3
      have x4 := cell_of B5.out 4
      simp only [List.getElem?_toArray, List.getElem?_cons_succ, List.getElem?_cons_zero] at x0 x1 x2 x3 x4
      go_wp2_with fail
      clear x0 x1 x2 x3 x4 y0_ y1_
      refine HC.out.mono ?_
      rintro e wb ⟨rfl, cb⟩
      replace B5 := Lib.hid (cb.at_ B5.out (by simp))
      replace B7 := Lib.hid (cb.at_ B7.out (by simp))
      have QC := Lib.hid (K5.out.chg.trans cb)
      replace C7 := Lib.hid (C7.out.trans cb)
      clear cb
      have CW := Lib.hid (HP1.out _ 1 (.int .i64 0) (HP1.out _ 0 (.int .i64 2) (HP0.out _ 4 (.slice none 0 0) (HP0.out _ 3 (.int .i64 0) (HP0.out _ 2 (.int .i64 0) (HP0.out _ 1 (.int .i64 0) (HP0.out _ 0 (.int .i64 0) C7.out)))))))
      have q0 := QC.out.at_ B0.out (by simp)
      have q1 := QC.out.at_ B1.out (by simp)
      have z0 := cell_of q0 0
      have f0 := free_of q0 0
      have z1 := cell_of q0 1
      have f1 := free_of q0 1
      have z2 := cell_of q0 2
      have f2 := free_of q0 2
      have z3 := cell_of q0 3
      have f3 := free_of q0 3
      have z4 := cell_of q0 4
      have f4 := free_of q0 4
      have z5 := cell_of q1 0
      have f5 := free_of q1 0
      have z6 := cell_of q1 1
      have f6 := free_of q1 1
      simp only [List.getElem?_toArray, List.getElem?_cons_succ, List.getElem?_cons_zero] at z0 z1 z2 z3 z4 z5 z6
      have HPP := Lib.hid (put7 (.int .i64 0) (.int .i64 0) (.int .i64 0) (.int .i64 0) (.slice none 0 0) (.int .i64 2) (.int .i64 0) q0 q1 hs2)
      clear q0 q1
      go_wp2
      clear z0 z1 z2 z3 z4 z5 z6 f0 f1 f2 f3 f4 f5 f6
      generalize (((((((wb.setCell ⟨s0, 0, none⟩ (.int .i64 0)).setCell ⟨s0, 1, none⟩ (.int .i64 0)).setCell ⟨s0, 2, none⟩ (.int .i64 0)).setCell ⟨s0, 3, none⟩ (.int .i64 0)).setCell ⟨s0, 4, none⟩ (.slice none 0 0)).setCell ⟨s1, 0, none⟩ (.int .i64 2)).setCell ⟨s1, 1, none⟩ (.int .i64 0)) = W at *
      have z0 := cell_of HPP.out.1 0
      have z1 := cell_of HPP.out.1 1
      have z2 := cell_of HPP.out.1 2
      have z3 := cell_of HPP.out.1 3
      have z4 := cell_of HPP.out.1 4
      have z5 := cell_of HPP.out.2 0
      have z6 := cell_of HPP.out.2 1
      simp only [List.getElem?_toArray, List.getElem?_cons_succ, List.getElem?_cons_zero] at z0 z1 z2 z3 z4 z5 z6
      refine bodyPost_ret (v := .tuple #[.agg #[.int .i64 0, .int .i64 0, .int .i64 0, .int .i64 0, .slice none 0 0], .agg #[.int .i64 2, .int .i64 0]]) (by simp [results, Try.results25, go_sem, z0, z1, z2, z3, z4, z5, z6]) rfl ?_
      rw [HR2.out]
      exact ⟨none, 0, rfl, Fresh.none_ CW.out⟩
  · have hr := HR.out
    rw [if_pos he] at hr
    have HR2 := Lib.hid hr
    have he' : ((mF zs).1 != 0) = true := by simpa using he
    have QC := Lib.hid K5.out.chg
    clear he hr HR HCk
    have CW := Lib.hid (HP1.out _ 1 (.int .i64 (mF zs).2) (HP1.out _ 0 (.int .i64 (mF zs).1) (HP0.out _ 4 (.slice none 0 0) (HP0.out _ 3 (.int .i64 0) (HP0.out _ 2 (.int .i64 0) (HP0.out _ 1 (.int .i64 0) (HP0.out _ 0 (.int .i64 0) C7.out)))))))
    have q0 := QC.out.at_ B0.out (by simp)
    have q1 := QC.out.at_ B1.out (by simp)
    have z0 := cell_of q0 0
    have f0 := free_of q0 0
    have z1 := cell_of q0 1
    have f1 := free_of q0 1
    have z2 := cell_of q0 2
    have f2 := free_of q0 2
    have z3 := cell_of q0 3
    have f3 := free_of q0 3
    have z4 := cell_of q0 4
    have f4 := free_of q0 4
    have z5 := cell_of q1 0
    have f5 := free_of q1 0
    have z6 := cell_of q1 1
    have f6 := free_of q1 1
    simp only [List.getElem?_toArray, List.getElem?_cons_succ, List.getElem?_cons_zero] at z0 z1 z2 z3 z4 z5 z6
    have HPP := Lib.hid (put7 (.int .i64 0) (.int .i64 0) (.int .i64 0) (.int .i64 0) (.slice none 0 0) (.int .i64 (mF zs).1) (.int .i64 (mF zs).2) q0 q1 hs2)
    clear q0 q1
    go_wp2
    go_region
    go_wp2
    clear z0 z1 z2 z3 z4 z5 z6 f0 f1 f2 f3 f4 f5 f6
    generalize (((((((w7.setCell ⟨s0, 0, none⟩ (.int .i64 0)).setCell ⟨s0, 1, none⟩ (.int .i64 0)).setCell ⟨s0, 2, none⟩ (.int .i64 0)).setCell ⟨s0, 3, none⟩ (.int .i64 0)).setCell ⟨s0, 4, none⟩ (.slice none 0 0)).setCell ⟨s1, 0, none⟩ (.int .i64 (mF zs).1)).setCell ⟨s1, 1, none⟩ (.int .i64 (mF zs).2)) = W at *
    have z0 := cell_of HPP.out.1 0
    have z1 := cell_of HPP.out.1 1
    have z2 := cell_of HPP.out.1 2
    have z3 := cell_of HPP.out.1 3
    have z4 := cell_of HPP.out.1 4
    have z5 := cell_of HPP.out.2 0
    have z6 := cell_of HPP.out.2 1
    simp only [List.getElem?_toArray, List.getElem?_cons_succ, List.getElem?_cons_zero] at z0 z1 z2 z3 z4 z5 z6
    refine bodyPost_ret (v := .tuple #[.agg #[.int .i64 0, .int .i64 0, .int .i64 0, .int .i64 0, .slice none 0 0], .agg #[.int .i64 (mF zs).1, .int .i64 (mF zs).2]]) (by simp [results, Try.results25, go_sem, z0, z1, z2, z3, z4, z5, z6]) rfl ?_
    rw [HR2.out]
    exact ⟨none, 0, rfl, Fresh.none_ CW.out.drew⟩

theorem mgetm_any (w : World) (A : Option Addr) (n c : Nat) (xs : List UInt8) (h : Bs w A n xs) (hn : n ≤ 140737488351232) : Calls Try.prog 24 #[.slice A n c] w (ReadMPost w (readM xs)) := by
  have hl := h.len
  subst hl
  by_cases h1 : (mN1 xs).1 = 1
  · exact mget_part w A c xs h hn h1
  by_cases h2 : (mN1 xs).1 = 2
  · exact mget_full w A c xs h hn h2
  by_cases h3 : (mN1 xs).1 = 3
  · exact mget_got w A c xs h hn h3
  · exact mget_none w A c xs h hn ⟨h1, h2, h3⟩
theorem ngetm_any (w : World) (A : Option Addr) (n c : Nat) (xs : List UInt8) (h : Bs w A n xs) (hn : n ≤ 140737488351232) (hc1 : n ≤ c) (hc2 : c ≤ 9223372036854775807) : Calls Try.prog 25 #[.slice A n c] w (ReadMPost w (readM xs)) := by
  have hl := h.len
  subst hl
  by_cases h1 : (mN1 xs).1 = 1
  · exact nget_part w A c xs h hn hc1 hc2 h1
  · exact nget_none w A c xs h hn hc1 hc2 h1
end Go.Proofs.Ytelbahfmkpncaaa
