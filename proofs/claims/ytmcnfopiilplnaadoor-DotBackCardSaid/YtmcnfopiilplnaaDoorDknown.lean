/- DotKnown. -/
import Derived.Test.YtmcnfopiilplnaaDoorDlaw
import Derived.Test.YtmcnfopiilplnaaDoorDsmath
import Derived.Deep.Cut
namespace Go.Proofs.YtmcnfopiilplnaaDoor
open Go.RowKit Go.Lib
set_option linter.unusedSimpArgs false
set_option linter.unusedVariables false


theorem RdK.lit {α : Type} {R : RowTy α} {w : World} {C : Array Value} {n : Nat} (xs : List α) (h : C.toList = R.flat xs) (hn : xs.length = n) : RdK R (w.alloc (.cells C R.T)) (some ⟨w.heap.size, 0, none⟩) n xs :=
  ⟨hn, fun j v hj => ⟨_, rfl, by
    rw [add_zero_lit, cell_of (heap_alloc_new w (.cells C R.T)) j, ← Array.getElem?_toList, h, hj]⟩⟩
theorem Bs.lits6 {w : World} {C : Array Value} {fr : Nat × Nat} {n : Nat} (xs : List UInt8) (h : C.toList = xs.map bv) (hn : xs.length = n) : Bs (w.alloc (.cells C 5 fr)) (some ⟨w.heap.size, 0, none⟩) n xs :=
  ⟨hn, fun j u hj => ⟨_, rfl, by
    rw [add_zero_lit, cell_of (heap_alloc_new w (.cells C 5 fr)) j, ← Array.getElem?_toList, h, List.getElem?_map, hj]; rfl⟩⟩
theorem nx1 (w : World) : Calls Tryd.prog 15 #[.agg #[.int .i64 3, .int .i64 258]] w fun e w' => e = .returned (.tuple #[.agg #[.int .i64 3, .int .i64 259], .int .i64 0]) ∧ Chg [] w w' := by
  have h := dnext_any w 3 258 (by decide)
  rwa [show nxN 3 258 = 3 by decide +kernel, show nxS 3 258 = 259 by decide +kernel, show nxE 3 258 = 0 by decide +kernel] at h
theorem nx2 (w : World) : Calls Tryd.prog 15 #[.agg #[.int .i64 3, .int .i64 2147483647]] w fun e w' => e = .returned (.tuple #[.agg #[.int .i64 0, .int .i64 0], .int .i64 5]) ∧ Chg [] w w' := by
  have h := dnext_any w 3 2147483647 (by decide)
  rwa [show nxN 3 2147483647 = 0 by decide +kernel, show nxS 3 2147483647 = 0 by decide +kernel, show nxE 3 2147483647 = 5 by decide +kernel] at h
theorem ck1 (w : World) : Calls Tryd.prog 17 #[.agg #[.int .i64 201, .int .i64 1]] w fun e w' => e = .returned (.int .i64 2) ∧ Chg [] w w' := by
  have h := dcheck_any w 201 1
  rwa [show chkD 201 1 = 2 by decide +kernel] at h
theorem ck2 (w : World) : Calls Tryd.prog 17 #[.agg #[.int .i64 1, .int .i64 0]] w fun e w' => e = .returned (.int .i64 2) ∧ Chg [] w w' := by
  have h := dcheck_any w 1 0
  rwa [show chkD 1 0 = 2 by decide +kernel] at h
theorem ck3 (w : World) : Calls Tryd.prog 17 #[.agg #[.int .i64 200, .int .i64 2147483647]] w fun e w' => e = .returned (.int .i64 0) ∧ Chg [] w w' := by
  have h := dcheck_any w 200 2147483647
  rwa [show chkD 200 2147483647 = 0 by decide +kernel] at h
theorem rd0 (w : World) : Calls Tryd.prog 24 #[.slice none 0 0] w fun e w' => e = .returned (.tuple #[.agg #[.int .i64 0, .int .i64 0], .agg #[.int .i64 4, .int .i64 0]]) ∧ Chg [] w w' := by
  have h := dread_any w none 0 0 [] (Bs.nil _ _) (by decide) (by decide) (by decide)
  rwa [show readD [] = ((0, 0), (4, 0)) by decide +kernel] at h
theorem rd6 (w : World) : Calls Tryd.prog 24 #[.slice (some ⟨w.heap.size, 0, none⟩) 6 6] (w.alloc (.cells #[.int .u8 3, .int .u8 0, .int .u8 0, .int .u8 1, .int .u8 2, .int .u8 0] 5)) fun e w' => e = .returned (.tuple #[.agg #[.int .i64 0, .int .i64 0], .agg #[.int .i64 4, .int .i64 5]]) ∧ Chg [] (w.alloc (.cells #[.int .u8 3, .int .u8 0, .int .u8 0, .int .u8 1, .int .u8 2, .int .u8 0] 5)) w' := by
  have h := dread_any _ _ 6 6 [3, 0, 0, 1, 2, 0] (Bs.lits6 (w := w) (C := #[.int .u8 3, .int .u8 0, .int .u8 0, .int .u8 1, .int .u8 2, .int .u8 0]) (fr := (0, 0)) [3, 0, 0, 1, 2, 0] rfl rfl) (by decide) (by decide) (by decide)
  rwa [show readD [3, 0, 0, 1, 2, 0] = ((0, 0), (4, 5)) by decide +kernel] at h
theorem rd5 (w : World) : Calls Tryd.prog 24 #[.slice (some ⟨w.heap.size, 0, none⟩) 5 5] (w.alloc (.cells #[.int .u8 0, .int .u8 0, .int .u8 0, .int .u8 0, .int .u8 1] 5)) fun e w' => e = .returned (.tuple #[.agg #[.int .i64 0, .int .i64 0], .agg #[.int .i64 2, .int .i64 0]]) ∧ Chg [] (w.alloc (.cells #[.int .u8 0, .int .u8 0, .int .u8 0, .int .u8 0, .int .u8 1] 5)) w' := by
  have h := dread_any _ _ 5 5 [0, 0, 0, 0, 1] (Bs.lits6 (w := w) (C := #[.int .u8 0, .int .u8 0, .int .u8 0, .int .u8 0, .int .u8 1]) (fr := (0, 0)) [0, 0, 0, 0, 1] rfl rfl) (by decide) (by decide) (by decide)
  rwa [show readD [0, 0, 0, 0, 1] = ((0, 0), (2, 0)) by decide +kernel] at h
theorem ps1 (w : World) (hT : TabD w) : Calls Tryd.prog 31 #[.string ⟨#[51, 46]⟩] w fun e w' => e = .returned (.tuple #[.agg #[.int .i64 0, .int .i64 0], .int .i64 2]) ∧ Chg [] w w' := by
  have h := dparse_any w ⟨#[51, 46]⟩ (by decide) hT
  rwa [show parseD (⟨#[51, 46]⟩ : ByteArray).data.toList = ((0, 0), 2) by decide +kernel] at h
theorem ps2 (w : World) (hT : TabD w) : Calls Tryd.prog 31 #[.string ⟨#[48, 51, 46, 49]⟩] w fun e w' => e = .returned (.tuple #[.agg #[.int .i64 0, .int .i64 0], .int .i64 2]) ∧ Chg [] w w' := by
  have h := dparse_any w ⟨#[48, 51, 46, 49]⟩ (by decide) hT
  rwa [show parseD (⟨#[48, 51, 46, 49]⟩ : ByteArray).data.toList = ((0, 0), 2) by decide +kernel] at h
theorem sort3 (w : World) : Calls Tryd.prog 11 #[.slice (some ⟨w.heap.size, 0, none⟩) 3 3] (w.alloc (.cells #[.int .i64 2, .int .i64 1, .int .i64 1, .int .i64 9, .int .i64 2, .int .i64 1] 23)) fun e w' => ∃ A' c', e = .returned (.slice A' 2 c') ∧ RdK dotTy w' A' 2 [(1, 9), (2, 1)] ∧ Chg [] (w.alloc (.cells #[.int .i64 2, .int .i64 1, .int .i64 1, .int .i64 9, .int .i64 2, .int .i64 1] 23)) w' := by
  have h := dsort_any _ _ 3 3 _ (RdK.lit (R := dotTy) (w := w) (C := #[.int .i64 2, .int .i64 1, .int .i64 1, .int .i64 9, .int .i64 2, .int .i64 1]) [(2, 1), (1, 9), (2, 1)] rfl rfl) (by decide)
  rw [sortD_three] at h
  exact h.mono fun e w' ⟨A, c, h1, h2, _, h3⟩ => ⟨A, c, h1, h2.reads, h3⟩

set_option maxRecDepth 100000 in
set_option maxHeartbeats 4000000 in
theorem dknown_yes (w : World) (hT : TabD w) : Calls Tryd.prog 6 #[] w fun r w' => r = .returned (.bool true) ∧ Chg [] w w' := by
  have HT := Lib.hid hT
  clear hT
  have C := Lib.hid (Chg.refl [] w)
  go_enter Tryd.func6, Tryd.ntmps6
  go_wp2_with fail
  refine (dof_any _ _ _).mono ?_
  rintro e x1 ⟨rfl, ca⟩
  replace C := Lib.hid (C.out.trans ca)
  clear ca
  go_wp2_with fail
  refine (nx1 _).mono ?_
  rintro e x2 ⟨rfl, ca⟩
  replace C := Lib.hid (C.out.trans ca)
  clear ca
  obtain ⟨y1, hy1, cy1, b_B1⟩ := news1 x2 (.cells #[.int .i64 3, .int .i64 259] 23)
  have Wy1 := Lib.hid hy1
  have l_B1 := lt_of_heap b_B1
  replace C := Lib.hid (C.out.trans cy1)
  have B1 := Lib.hid (b_B1)
  clear hy1 cy1 b_B1
  go_wp2_with fail
  rw [← Wy1.out]
  generalize x2.heap.size = s1 at *
  clear Wy1
  refine (dof_any _ _ _).mono ?_
  rintro e x3 ⟨rfl, ca⟩
  replace B1 := Lib.hid (ca.at_ B1.out (by simp))
  replace C := Lib.hid (C.out.trans ca)
  clear ca
  go_wp2_with fail
  refine (nx2 _).mono ?_
  rintro e x4 ⟨rfl, ca⟩
  replace B1 := Lib.hid (ca.at_ B1.out (by simp))
  replace C := Lib.hid (C.out.trans ca)
  clear ca
  obtain ⟨y2, hy2, cy2, b_B2⟩ := news1 x4 (.cells #[.int .i64 0, .int .i64 0] 23)
  have Wy2 := Lib.hid hy2
  have l_B2 := lt_of_heap b_B2
  replace B1 := Lib.hid (cy2.at_ B1.out (by simp))
  replace C := Lib.hid (C.out.trans cy2)
  have B2 := Lib.hid (b_B2)
  clear hy2 cy2 b_B2
  go_wp2_with fail
  rw [← Wy2.out]
  generalize x4.heap.size = s2 at *
  clear Wy2
  clear B2
  refine (dof_any _ _ _).mono ?_
  rintro e x5 ⟨rfl, ca⟩
  replace B1 := Lib.hid (ca.at_ B1.out (by simp))
  replace C := Lib.hid (C.out.trans ca)
  clear ca
  go_wp2_with fail
  refine (ck1 _).mono ?_
  rintro e x6 ⟨rfl, ca⟩
  replace B1 := Lib.hid (ca.at_ B1.out (by simp))
  replace C := Lib.hid (C.out.trans ca)
  clear ca
  go_wp2_with fail
  refine (dof_any _ _ _).mono ?_
  rintro e x7 ⟨rfl, ca⟩
  replace B1 := Lib.hid (ca.at_ B1.out (by simp))
  replace C := Lib.hid (C.out.trans ca)
  clear ca
  go_wp2_with fail
  refine (ck2 _).mono ?_
  rintro e x8 ⟨rfl, ca⟩
  replace B1 := Lib.hid (ca.at_ B1.out (by simp))
  replace C := Lib.hid (C.out.trans ca)
  clear ca
  go_wp2_with fail
  refine (dof_any _ _ _).mono ?_
  rintro e x9 ⟨rfl, ca⟩
  replace B1 := Lib.hid (ca.at_ B1.out (by simp))
  replace C := Lib.hid (C.out.trans ca)
  clear ca
  go_wp2_with fail
  refine (ck3 _).mono ?_
  rintro e x10 ⟨rfl, ca⟩
  replace B1 := Lib.hid (ca.at_ B1.out (by simp))
  replace C := Lib.hid (C.out.trans ca)
  clear ca
  go_wp2_with fail
  refine (rd0 _).mono ?_
  rintro e x11 ⟨rfl, ca⟩
  replace B1 := Lib.hid (ca.at_ B1.out (by simp))
  replace C := Lib.hid (C.out.trans ca)
  clear ca
  obtain ⟨y3, hy3, cy3, b_B3, b_B4⟩ := news2 x11 (.cells #[.int .i64 0, .int .i64 0] 23) (.cells #[.int .i64 4, .int .i64 0] 40)
  have Wy3 := Lib.hid hy3
  have l_B3 := lt_of_heap b_B3
  have l_B4 := lt_of_heap b_B4
  replace B1 := Lib.hid (cy3.at_ B1.out (by simp))
  replace C := Lib.hid (C.out.trans cy3)
  have B3 := Lib.hid (b_B3)
  have B4 := Lib.hid (b_B4)
  clear hy3 cy3 b_B3 b_B4
  go_upto_region 5 with fail
  rw [← Wy3.out]
  generalize x11.heap.size + 1 = s4 at *
  generalize x11.heap.size = s3 at *
  clear Wy3
  go_wp2_with fail
  clear B3
  refine (rd6 _).mono ?_
  rintro e x12 ⟨rfl, ca⟩
  have ca := ((Chg.refl [] y3).alloc (.cells #[.int .u8 3, .int .u8 0, .int .u8 0, .int .u8 1, .int .u8 2, .int .u8 0] 5)).trans ca
  replace B1 := Lib.hid (ca.at_ B1.out (by simp))
  replace B4 := Lib.hid (ca.at_ B4.out (by simp))
  replace C := Lib.hid (C.out.trans ca)
  clear ca
  obtain ⟨y4, hy4, cy4, b_B5, b_B6⟩ := news2 x12 (.cells #[.int .i64 0, .int .i64 0] 23) (.cells #[.int .i64 4, .int .i64 5] 40)
  have Wy4 := Lib.hid hy4
  have l_B5 := lt_of_heap b_B5
  have l_B6 := lt_of_heap b_B6
  replace B1 := Lib.hid (cy4.at_ B1.out (by simp))
  replace B4 := Lib.hid (cy4.at_ B4.out (by simp))
  replace C := Lib.hid (C.out.trans cy4)
  have B5 := Lib.hid (b_B5)
  have B6 := Lib.hid (b_B6)
  clear hy4 cy4 b_B5 b_B6
  go_upto_region 6 with fail
  rw [← Wy4.out]
  generalize x12.heap.size + 1 = s6 at *
  generalize x12.heap.size = s5 at *
  clear Wy4
  go_wp2_with fail
  clear B5
  refine (rd5 _).mono ?_
  rintro e x13 ⟨rfl, ca⟩
  have ca := ((Chg.refl [] y4).alloc (.cells #[.int .u8 0, .int .u8 0, .int .u8 0, .int .u8 0, .int .u8 1] 5)).trans ca
  replace B1 := Lib.hid (ca.at_ B1.out (by simp))
  replace B4 := Lib.hid (ca.at_ B4.out (by simp))
  replace B6 := Lib.hid (ca.at_ B6.out (by simp))
  replace C := Lib.hid (C.out.trans ca)
  clear ca
  obtain ⟨y5, hy5, cy5, b_B7, b_B8⟩ := news2 x13 (.cells #[.int .i64 0, .int .i64 0] 23) (.cells #[.int .i64 2, .int .i64 0] 40)
  have Wy5 := Lib.hid hy5
  have l_B7 := lt_of_heap b_B7
  have l_B8 := lt_of_heap b_B8
  replace B1 := Lib.hid (cy5.at_ B1.out (by simp))
  replace B4 := Lib.hid (cy5.at_ B4.out (by simp))
  replace B6 := Lib.hid (cy5.at_ B6.out (by simp))
  replace C := Lib.hid (C.out.trans cy5)
  have B7 := Lib.hid (b_B7)
  have B8 := Lib.hid (b_B8)
  clear hy5 cy5 b_B7 b_B8
  go_upto_region 7 with fail
  rw [← Wy5.out]
  generalize x13.heap.size + 1 = s8 at *
  generalize x13.heap.size = s7 at *
  clear Wy5
  go_wp2_with fail
  clear B7
  refine (ps1 _ (HT.out.chg C.out)).mono ?_
  rintro e x14 ⟨rfl, ca⟩
  replace B1 := Lib.hid (ca.at_ B1.out (by simp))
  replace B4 := Lib.hid (ca.at_ B4.out (by simp))
  replace B6 := Lib.hid (ca.at_ B6.out (by simp))
  replace B8 := Lib.hid (ca.at_ B8.out (by simp))
  replace C := Lib.hid (C.out.trans ca)
  clear ca
  obtain ⟨y6, hy6, cy6, b_B9⟩ := news1 x14 (.cells #[.int .i64 0, .int .i64 0] 23)
  have Wy6 := Lib.hid hy6
  have l_B9 := lt_of_heap b_B9
  replace B1 := Lib.hid (cy6.at_ B1.out (by simp))
  replace B4 := Lib.hid (cy6.at_ B4.out (by simp))
  replace B6 := Lib.hid (cy6.at_ B6.out (by simp))
  replace B8 := Lib.hid (cy6.at_ B8.out (by simp))
  replace C := Lib.hid (C.out.trans cy6)
  have B9 := Lib.hid (b_B9)
  clear hy6 cy6 b_B9
  go_wp2_with fail
  rw [← Wy6.out]
  generalize x14.heap.size = s9 at *
  clear Wy6
  clear B9
  refine (ps2 _ (HT.out.chg C.out)).mono ?_
  rintro e x15 ⟨rfl, ca⟩
  replace B1 := Lib.hid (ca.at_ B1.out (by simp))
  replace B4 := Lib.hid (ca.at_ B4.out (by simp))
  replace B6 := Lib.hid (ca.at_ B6.out (by simp))
  replace B8 := Lib.hid (ca.at_ B8.out (by simp))
  replace C := Lib.hid (C.out.trans ca)
  clear ca
  obtain ⟨y7, hy7, cy7, b_Ba⟩ := news1 x15 (.cells #[.int .i64 0, .int .i64 0] 23)
  have Wy7 := Lib.hid hy7
  have l_Ba := lt_of_heap b_Ba
  replace B1 := Lib.hid (cy7.at_ B1.out (by simp))
  replace B4 := Lib.hid (cy7.at_ B4.out (by simp))
  replace B6 := Lib.hid (cy7.at_ B6.out (by simp))
  replace B8 := Lib.hid (cy7.at_ B8.out (by simp))
  replace C := Lib.hid (C.out.trans cy7)
  have Ba := Lib.hid (b_Ba)
  clear hy7 cy7 b_Ba
  go_upto_region 9 with fail
  rw [← Wy7.out]
  generalize x15.heap.size = sa at *
  clear Wy7
  clear Ba
  have hk : ∀ w', Chg [] y7 w' → w'.cell? ⟨s1, 0, none⟩ = some (.int .i64 3) ∧ w'.cell? ⟨s1, 1, none⟩ = some (.int .i64 259) ∧ w'.cell? ⟨s4, 0, none⟩ = some (.int .i64 4) ∧ w'.cell? ⟨s4, 1, none⟩ = some (.int .i64 0) ∧ w'.cell? ⟨s6, 0, none⟩ = some (.int .i64 4) ∧ w'.cell? ⟨s6, 1, none⟩ = some (.int .i64 5) ∧ w'.cell? ⟨s8, 0, none⟩ = some (.int .i64 2) ∧ w'.cell? ⟨s8, 1, none⟩ = some (.int .i64 0) ∧ Chg [] y7 w' := by
    intro w' hc
    have b_B1 := hc.at_ B1.out (by simp)
    have b_B4 := hc.at_ B4.out (by simp)
    have b_B6 := hc.at_ B6.out (by simp)
    have b_B8 := hc.at_ B8.out (by simp)
    exact ⟨cell_of b_B1 0, cell_of b_B1 1, cell_of b_B4 0, cell_of b_B4 1, cell_of b_B6 0, cell_of b_B6 1, cell_of b_B8 0, cell_of b_B8 1, hc⟩
  have HK := Lib.hid hk
  clear hk
  go_region_held3 (fun w' => w'.cell? ⟨s1, 0, none⟩ = some (.int .i64 3) ∧ w'.cell? ⟨s1, 1, none⟩ = some (.int .i64 259) ∧ w'.cell? ⟨s4, 0, none⟩ = some (.int .i64 4) ∧ w'.cell? ⟨s4, 1, none⟩ = some (.int .i64 0) ∧ w'.cell? ⟨s6, 0, none⟩ = some (.int .i64 4) ∧ w'.cell? ⟨s6, 1, none⟩ = some (.int .i64 5) ∧ w'.cell? ⟨s8, 0, none⟩ = some (.int .i64 2) ∧ w'.cell? ⟨s8, 1, none⟩ = some (.int .i64 0) ∧ Chg [] y7 w')
    (first | exact HK.out _ hC | exact HK.out _ (Chg.refl [] y7).drew | (have hC := (‹_ ∧ _ ∧ _ ∧ _ ∧ _ ∧ _ ∧ _ ∧ _ ∧ Chg [] y7 _›).2.2.2.2.2.2.2.2; first | exact HK.out _ (hC.allocD _) | exact HK.out _ (hC.alloc _) | exact HK.out _ hC.drew | exact HK.out _ hC))
    (((have hC := (‹_ ∧ _ ∧ _ ∧ _ ∧ _ ∧ _ ∧ _ ∧ _ ∧ Chg [] y7 _›).2.2.2.2.2.2.2.2); (first
      | (go_at_call 33; (with_reducible refine (dof_any _ _ _).mono ?_); rintro e w9 ⟨rfl, hc⟩; have hC := hC.trans hc))))
  all_goals
    have hC := (‹_ ∧ _ ∧ _ ∧ _ ∧ _ ∧ _ ∧ _ ∧ _ ∧ Chg [] y7 _›).2.2.2.2.2.2.2.2
    have HCf := Lib.hid (C.out.trans hC)
    clear hC HK
    clear B1 B4 B6 B8
    go_wp2_with fail
    refine (dawake_yes _ (HT.out.chg HCf.out)).mono ?_
    rintro e x16 ⟨rfl, ca⟩
    replace HCf := Lib.hid (HCf.out.trans ca)
    clear ca
    go_wp2_with fail
    refine (dof_any _ _ _).mono ?_
    rintro e x17 ⟨rfl, ca⟩
    replace HCf := Lib.hid (HCf.out.trans ca)
    clear ca
    go_wp2_with fail
    refine (dof_any _ _ _).mono ?_
    rintro e x18 ⟨rfl, ca⟩
    replace HCf := Lib.hid (HCf.out.trans ca)
    clear ca
    go_wp2_with fail
    refine (dof_any _ _ _).mono ?_
    rintro e x19 ⟨rfl, ca⟩
    replace HCf := Lib.hid (HCf.out.trans ca)
    clear ca
    go_wp2_with fail
    refine (sort3 _).mono ?_
    rintro e x20 ⟨A, c, rfl, hs, ca⟩
    have ca := ((Chg.refl [] x19).alloc (.cells #[.int .i64 2, .int .i64 1, .int .i64 1, .int .i64 9, .int .i64 2, .int .i64 1] 23)).trans ca
    replace HCf := Lib.hid (HCf.out.trans ca)
    have HS := Lib.hid hs
    clear ca hs
    go_wp2_with fail
    refine (dof_any _ _ _).mono ?_
    rintro e x21 ⟨rfl, ca⟩
    replace HCf := Lib.hid (HCf.out.trans ca)
    replace HS := Lib.hid (HS.out.chg ca (by simp))
    clear ca
    go_wp2_with fail
    refine (dof_any _ _ _).mono ?_
    rintro e x22 ⟨rfl, ca⟩
    replace HCf := Lib.hid (HCf.out.trans ca)
    replace HS := Lib.hid (HS.out.chg ca (by simp))
    clear ca
    go_wp2_with fail
    refine (samedot_any _ A _ 2 2 c 2 [(1, 9), (2, 1)] [(1, 9), (2, 1)] (HS.out.chg ((Chg.refl [] _).alloc _) (by simp)) (RdK.lit (R := dotTy) [(1, 9), (2, 1)] rfl rfl) (by decide) (by decide)).mono ?_
    rintro e z1 ⟨rfl, ca⟩
    have HCz := Lib.hid ((HCf.out.alloc _).trans ca)
    clear ca
    go_wp2
    go_ret
    exact ⟨rfl, HCz.out⟩
end Go.Proofs.YtmcnfopiilplnaaDoor
