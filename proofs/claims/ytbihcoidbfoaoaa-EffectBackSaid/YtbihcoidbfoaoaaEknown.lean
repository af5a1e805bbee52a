/- fails, and the walk of EffectKnown. -/
import Derived.Test.YtbihcoidbfoaoaaElaw
namespace Go.Proofs.Ytbihcoidbfoaoaa
open Go.RowKit
set_option linter.unusedSimpArgs false

set_option maxHeartbeats 1000000 in
theorem efails_yes (w : World) (B : Option Addr) (m d : Nat) (xs : List UInt8) (e q : Int) (h : Bs w B m xs) (hm : m ≤ 140737488351232) (hr : readE xs = ((0, 0, []), e, q)) :
    Calls Try.prog 29 #[.slice B m d, .int .i64 e, .int .i64 q] w fun r w' => r = .returned (.bool true) ∧ Chg [] w w' := by
  have hb := eread_any w B m d xs h hm
  rw [hr] at hb
  have HB := Lib.hid hb
  clear hb hr h
  go_enter Try.func29, Try.ntmps29
  go_wp2_with fail
  refine HB.out.mono ?_
  rintro r w1 ⟨A, c, rfl, f1⟩
  have C1 := Lib.hid f1.2.2
  clear f1
  go_upto_region 2 with fail
  obtain ⟨w2, hw2, c2, b0, b1⟩ := two_at w1 (.cells #[.int .i64 0, .int .i64 0, .slice A 0 c] 24) (.cells #[.int .i64 e, .int .i64 q] 37)
  rw [← hw2]
  have z0 := cell_of b0 0
  have z1 := cell_of b0 1
  have z2 := cell_of b0 2
  have z3 := cell_of b1 0
  have z4 := cell_of b1 1
  simp only [List.getElem?_toArray, List.getElem?_cons_succ, List.getElem?_cons_zero] at z0 z1 z2 z3 z4
  have C2 := Lib.hid (C1.out.trans c2)
  clear hw2 c2 b0 b1 C1
  generalize w1.heap.size + 1 = s1 at *
  generalize w1.heap.size = s0 at *
  go_wp2_with fail
  refine (sameeff_yes w2 0 0 A none 0 c 0 0 [] (Bs.nil _ _) (Bs.nil _ _)).mono ?_
  rintro r w3 ⟨rfl, c3⟩
  have C3 := Lib.hid (C2.out.trans c3)
  clear c3 C2
  go_wp2
  go_ret
  exact ⟨rfl, C3.out⟩

/-- A world a few new blocks on. -/
theorem Chg.some {w w1 w2 : World} (h : Chg [] w w1) (k : Chg [] w1 w2) : Chg [] w w2 := h.trans k

set_option maxHeartbeats 4000000 in
theorem eknown_yes (w : World) : Calls Try.prog 5 #[] w fun r w' => r = .returned (.bool true) ∧ Chg [] w w' := by
  have e1 : chkE 2 0 1 = 2 := by decide +kernel
  have e2 : chkE 3 1 0 = 2 := by decide +kernel
  have e3 : chkE 1 512 0 = 2 := by decide +kernel
  have e4 : chkE 0 0 0 = 2 := by decide +kernel
  go_enter Try.func5, Try.ntmps5
  go_wp2_with fail
  refine (of_any w 3).mono ?_
  rintro r w1 ⟨rfl, c1⟩
  have HC := Lib.hid c1
  clear c1
  go_wp2_with fail
  have hb := ebytes_any w1 3 0 none 0 0 [] (Bs.nil _ _) (by decide)
  rw [show effO 3 0 [] = [1, 3, 0, 0] by decide +kernel, show chkE 3 0 0 = 0 by decide +kernel] at hb
  refine hb.mono ?_
  clear hb
  rintro r w2 ⟨A2, c2, rfl, f2⟩
  have F2 := Lib.hid f2
  have HC := Lib.hid (HC.out.trans f2.2.2)
  clear f2
  go_upto_region 3 with (first
    | (go_at_call 14; refine (check_any _ _ _ _ _ _ (by decide)).mono ?_; rintro e w' ⟨rfl, hc⟩; have hc' : Chg [] w w' := (by first | exact HC.out.trans hc | exact (HC.out.alloc _).trans hc | exact ((HC.out.alloc _).alloc _).trans hc); have hf' : Fresh w1 w' A2 c2 [1, 3, 0, 0] := (by first | exact F2.out.past hc | exact (F2.out.past ((Chg.refl [] _).alloc _)).past hc); clear HC F2 hc; have HC := Lib.hid hc'; have F2 := Lib.hid hf'; clear hc' hf')
    | (go_at_call 28; refine (file_any _ _ _ _ _).mono ?_; rintro e w' ⟨rfl, hc⟩; have hc' : Chg [] w w' := (by first | exact HC.out.trans hc | exact (HC.out.alloc _).trans hc | exact ((HC.out.alloc _).alloc _).trans hc); have hf' : Fresh w1 w' A2 c2 [1, 3, 0, 0] := (by first | exact F2.out.past hc | exact (F2.out.past ((Chg.refl [] _).alloc _)).past hc); clear HC F2 hc; have HC := Lib.hid hc'; have F2 := Lib.hid hf'; clear hc' hf'))
  go_wp2_with fail
  obtain ⟨w3, hw3⟩ : ∃ w3 : World, w3 = w'.alloc (.cells #[.int .u8 1, .int .u8 3, .int .u8 0, .int .u8 0] 5) := ⟨_, rfl⟩
  rw [← hw3]
  have l9 : Bs w3 (some ⟨w'.heap.size, 0, none⟩) 4 [1, 3, 0, 0] := hw3 ▸ Bs.fill [1, 3, 0, 0] (heap_alloc_new w' (.cells #[.int .u8 1, .int .u8 3, .int .u8 0, .int .u8 0] 5)) rfl rfl
  have c3 : Chg [] w' w3 := hw3 ▸ (Chg.refl [] _).alloc _
  have HC3 := Lib.hid (HC.out.trans c3)
  refine (same_yes _ _ _ _ _ _ _ _ _ (F2.out.past c3).1.reads l9 rfl).mono ?_
  rintro r w4 ⟨rfl, rfl⟩
  clear l9 hw3 HC F2 c3
  have HC := Lib.hid HC3.out
  clear HC3
  go_wp2_with fail
  have l9 := Bs.fill [1, 4, 0, 0] (heap_alloc_new w3 (.cells #[.int .u8 1, .int .u8 4, .int .u8 0, .int .u8 0] 5)) rfl (rfl : _ = 4)
  refine (efails_yes _ _ _ _ [1, 4, 0, 0] 5 0 l9 (by decide) (by decide +kernel)).mono ?_
  clear l9
  rintro r w' ⟨rfl, hc⟩
  have hc' : Chg [] w w' := (by first | exact HC.out.trans hc | exact (HC.out.alloc _).trans hc | exact ((HC.out.alloc _).alloc _).trans hc); clear HC hc; have HC := Lib.hid hc'; clear hc'
  go_wp2_with fail
  have l9 := Bs.fill [1, 3, 1, 1, 0] (heap_alloc_new w' (.cells #[.int .u8 1, .int .u8 3, .int .u8 1, .int .u8 1, .int .u8 0] 5)) rfl (rfl : _ = 5)
  refine (efails_yes _ _ _ _ [1, 3, 1, 1, 0] 2 0 l9 (by decide) (by decide +kernel)).mono ?_
  clear l9
  rintro r w' ⟨rfl, hc⟩
  have hc' : Chg [] w w' := (by first | exact HC.out.trans hc | exact (HC.out.alloc _).trans hc | exact ((HC.out.alloc _).alloc _).trans hc); clear HC hc; have HC := Lib.hid hc'; clear hc'
  go_wp2_with fail
  refine (efails_yes _ none 0 0 [] 4 0 (Bs.nil _ _) (by decide) (by decide +kernel)).mono ?_
  rintro r w' ⟨rfl, hc⟩
  have hc' : Chg [] w w' := (by first | exact HC.out.trans hc | exact (HC.out.alloc _).trans hc | exact ((HC.out.alloc _).alloc _).trans hc); clear HC hc; have HC := Lib.hid hc'; clear hc'
  go_wp2_with fail
  refine (eawake_yes _).mono ?_
  rintro r w' ⟨rfl, hc⟩
  have hc' : Chg [] w w' := (by first | exact HC.out.trans hc | exact (HC.out.alloc _).trans hc | exact ((HC.out.alloc _).alloc _).trans hc); clear HC hc; have HC := Lib.hid hc'; clear hc'
  go_wp2_with fail
  refine (file_any _ _ _ _ _).mono ?_
  rintro r w' ⟨rfl, hc⟩
  have hc' : Chg [] w w' := (by first | exact HC.out.trans hc | exact (HC.out.alloc _).trans hc | exact ((HC.out.alloc _).alloc _).trans hc); clear HC hc; have HC := Lib.hid hc'; clear hc'
  go_wp2_with fail
  refine (file_any _ _ _ _ _).mono ?_
  rintro r w' ⟨rfl, hc⟩
  have hc' : Chg [] w w' := (by first | exact HC.out.trans hc | exact (HC.out.alloc _).trans hc | exact ((HC.out.alloc _).alloc _).trans hc); clear HC hc; have HC := Lib.hid hc'; clear hc'
  go_wp2_with fail
  refine (eless_yes _ 1 1 1 2 none none 0 0 0 0 [] [] (Bs.nil _ _) (Bs.nil _ _) (by decide +kernel)).mono ?_
  rintro r w5 ⟨rfl, hc⟩
  have HC5 := Lib.hid (HC.out.trans hc)
  clear HC hc
  go_wp2_with fail
  have l1 := Bs.fill [7] (heap_alloc_new w5 (.cells #[.int .u8 7] 5)) rfl (rfl : _ = 1)
  refine (file_any _ _ _ _ _).mono ?_
  rintro r w6 ⟨rfl, hc⟩
  have HC6 := Lib.hid ((HC5.out.alloc _).trans hc)
  have L1 := Lib.hid (l1.chg hc (by simp))
  clear hc l1 HC5
  generalize w5.heap.size = g1 at *
  go_wp2_with fail
  have l2 := Bs.fill [7, 8] (heap_alloc_new w6 (.cells #[.int .u8 7, .int .u8 8] 5)) rfl (rfl : _ = 2)
  refine (file_any _ _ _ _ _).mono ?_
  rintro r w7 ⟨rfl, hc⟩
  have HC7 := Lib.hid ((HC6.out.alloc _).trans hc)
  have L2 := Lib.hid (l2.chg hc (by simp))
  have L3 := Lib.hid ((L1.out.chg ((Chg.refl [] _).alloc _) (by simp)).chg hc (by simp))
  clear hc l2 HC6 L1
  generalize w6.heap.size = g2 at *
  go_wp2_with fail
  refine (eless_yes _ 1 1 1 1 _ _ 1 1 2 2 [7] [7, 8] L3.out L2.out (by decide +kernel)).mono ?_
  rintro r w8 ⟨rfl, hc⟩
  have HC8 := Lib.hid (HC7.out.trans hc)
  clear hc HC7 L2 L3
  go_wp2_with fail
  refine (of_any _ _).mono ?_
  rintro r w9 ⟨rfl, hc⟩
  have HC9 := Lib.hid (HC8.out.trans hc)
  clear hc HC8
  go_wp2_with fail
  refine (of_any _ _).mono ?_
  rintro r wa ⟨rfl, hc⟩
  have HCa := Lib.hid (HC9.out.trans hc)
  clear hc HC9
  go_wp2_with fail
  refine (eless_no _ 2 0 2 0 none none 0 0 0 0 [] [] (Bs.nil _ _) (Bs.nil _ _) (by decide +kernel)).mono ?_
  rintro r wb ⟨rfl, hc⟩
  have HCb := Lib.hid (HCa.out.trans hc)
  clear hc HCa
  go_wp2
  go_ret
  exact ⟨rfl, HCb.out⟩
end Go.Proofs.Ytbihcoidbfoaoaa
