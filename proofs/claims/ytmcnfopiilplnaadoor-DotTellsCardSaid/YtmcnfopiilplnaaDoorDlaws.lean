/- DotBytes, DotTexts. -/
import Derived.Test.YtmcnfopiilplnaaDoorDlaw
import Derived.Deep.Cut
namespace Go.Proofs.YtmcnfopiilplnaaDoor
open Go.RowKit Go.Lib
set_option linter.unusedSimpArgs false
set_option linter.unusedVariables false


/-- What is written over is new since w1. -/
theorem over_since {w1 w6 w7 : World} {A : Option Addr} (hF : ∀ a, A = some a → w1.heap.size ≤ a.block) (h7 : ∀ S : List Nat, (∀ a, A = some a → a.block ∈ S) → Chg S w6 w7) : ∃ S : List Nat, (∀ i ∈ S, w1.heap.size ≤ i) ∧ Chg S w6 w7 := by
  rcases A with _ | a
  · exact ⟨[], by simp, h7 [] (by simp)⟩
  · exact ⟨[a.block], by simpa using hF a rfl, h7 [a.block] (by rintro b ⟨⟩; simp)⟩
theorem Chg.over {w w1 w6 w7 : World} {S : List Nat} (h : Chg [] w w6) (h1 : Chg [] w w1) (hS : ∀ i ∈ S, w1.heap.size ≤ i) (h7 : Chg S w6 w7) : Chg [] w w7 :=
  h.trans' h7 fun i hi => .inr (Nat.le_trans h1.size (hS i hi))

set_option maxHeartbeats 4000000 in
theorem dbyteslaw_yes (w : World) (n s : Int) (A : Option Addr) (m c : Nat) (xs : List UInt8) (h : Bs w A m xs) (hm : m ≤ 140737488351232) (hmc : m ≤ c) (hc : c ≤ 9223372036854775807) (hT : TabD w) : Calls Tryd.prog 4 #[.agg #[.int .i64 n, .int .i64 s], .slice A m c] w fun r w' => r = .returned (.bool true) ∧ Chg [] w w' := by
  have hl := h.len
  subst hl
  have HT := Lib.hid hT
  have HB := Lib.hid h
  clear hT h
  have C := Lib.hid (Chg.refl [] w)
  obtain ⟨w1, hw1, cw1, b_B0⟩ := news1 w (.cells #[.int .i64 n, .int .i64 s] 23)
  have Ww1 := Lib.hid hw1
  have l_B0 := lt_of_heap b_B0
  replace C := Lib.hid (C.out.trans cw1)
  have B0 := Lib.hid (b_B0)
  clear hw1 cw1 b_B0
  go_enter Tryd.func4, Tryd.ntmps4
  by_cases hbig : 40 < xs.length
  · skip
    go_wp2_with fail
    rw [← Ww1.out]
    generalize w.heap.size = s0 at *
    clear Ww1
    refine (dawake_yes _ (HT.out.chg C.out)).mono ?_
    rintro e w2 ⟨rfl, ca⟩
    replace B0 := Lib.hid (ca.at_ B0.out (by simp))
    replace C := Lib.hid (C.out.trans ca)
    clear ca
    go_wp2
    go_ret
    exact ⟨rfl, C.out⟩
  · skip
    go_wp2_with fail
    rw [← Ww1.out]
    generalize w.heap.size = s0 at *
    clear Ww1
    refine (lent_any _ _ _ _ _ (HB.out.chg C.out (by simp)) hm).mono ?_
    rintro e w2 ⟨g, rfl, hL, hg, ca⟩
    replace B0 := Lib.hid (ca.at_ B0.out (by simp))
    replace C := Lib.hid (C.out.trans ca)
    have HL := Lib.hid hL
    have CL := Lib.hid (Chg.refl [] w2)
    clear hL hg ca
    have z_B0_0 := cell_of B0.out 0
    have z_B0_1 := cell_of B0.out 1
    simp only [List.getElem?_toArray, List.getElem?_cons_succ, List.getElem?_cons_zero] at z_B0_0 z_B0_1
    go_wp2_with fail
    have CNB := Lib.hid C.out
    have CLB := Lib.hid CL.out
    refine (dbytes_any _ n s).mono ?_
    rintro e w3 ⟨A1, c1, rfl, ca⟩
    clear z_B0_0 z_B0_1
    replace B0 := Lib.hid (ca.2.2.at_ B0.out (by simp))
    replace C := Lib.hid (C.out.trans ca.2.2)
    replace CL := Lib.hid (CL.out.trans ca.2.2)
    have F1 := Lib.hid ca.1
    have N1 := Lib.hid ca.2.1
    clear ca
    have z_B0_0 := cell_of B0.out 0
    have z_B0_1 := cell_of B0.out 1
    simp only [List.getElem?_toArray, List.getElem?_cons_succ, List.getElem?_cons_zero] at z_B0_0 z_B0_1
    go_wp2_with fail
    refine (hbytes_any _ n s).mono ?_
    rintro e w4 ⟨A2, c2, rfl, ca⟩
    clear z_B0_0 z_B0_1
    replace B0 := Lib.hid (ca.2.2.at_ B0.out (by simp))
    replace C := Lib.hid (C.out.trans ca.2.2)
    replace CL := Lib.hid (CL.out.trans ca.2.2)
    replace F1 := Lib.hid (F1.out.chg ca.2.2 (by simp))
    have F2 := Lib.hid ca.1
    clear ca
    go_wp2_with fail
    refine (dread_any _ (some ⟨g, 0, none⟩) _ _ xs (HL.out.chg CL.out (by simp)).reads hm (by omega) (by omega)).mono ?_
    rintro e w5 ⟨rfl, ca⟩
    replace B0 := Lib.hid (ca.at_ B0.out (by simp))
    replace C := Lib.hid (C.out.trans ca)
    replace CL := Lib.hid (CL.out.trans ca)
    replace F1 := Lib.hid (F1.out.chg ca (by simp))
    replace F2 := Lib.hid (F2.out.chg ca (by simp))
    clear ca
    obtain ⟨w6, hw6, cw6, b_B1, b_B2⟩ := news2 w5 (.cells #[.int .i64 (readD xs).1.1, .int .i64 (readD xs).1.2] 23) (.cells #[.int .i64 (readD xs).2.1, .int .i64 (readD xs).2.2] 40)
    have Ww6 := Lib.hid hw6
    have l_B1 := lt_of_heap b_B1
    have l_B2 := lt_of_heap b_B2
    replace B0 := Lib.hid (cw6.at_ B0.out (by simp))
    replace C := Lib.hid (C.out.trans cw6)
    replace CL := Lib.hid (CL.out.trans cw6)
    replace F1 := Lib.hid (F1.out.chg cw6 (by simp))
    replace F2 := Lib.hid (F2.out.chg cw6 (by simp))
    have B1 := Lib.hid (b_B1)
    have B2 := Lib.hid (b_B2)
    clear hw6 cw6 b_B1 b_B2
    go_wp2_with fail
    rw [← Ww6.out]
    generalize w5.heap.size + 1 = s2 at *
    generalize w5.heap.size = s1 at *
    clear Ww6
    refine (hread_any _ A _ _ xs (HB.out.chg C.out (by simp)) hm hmc hc).mono ?_
    rintro e w7 ⟨rfl, ca⟩
    replace B0 := Lib.hid (ca.at_ B0.out (by simp))
    replace B1 := Lib.hid (ca.at_ B1.out (by simp))
    replace B2 := Lib.hid (ca.at_ B2.out (by simp))
    replace C := Lib.hid (C.out.trans ca)
    replace CL := Lib.hid (CL.out.trans ca)
    replace F1 := Lib.hid (F1.out.chg ca (by simp))
    replace F2 := Lib.hid (F2.out.chg ca (by simp))
    clear ca
    obtain ⟨w8, hw8, cw8, b_B3, b_B4⟩ := news2 w7 (.cells #[.int .i64 (readD xs).1.1, .int .i64 (readD xs).1.2] 23) (.cells #[.int .i64 (readD xs).2.1, .int .i64 (readD xs).2.2] 40)
    have Ww8 := Lib.hid hw8
    have l_B3 := lt_of_heap b_B3
    have l_B4 := lt_of_heap b_B4
    replace B0 := Lib.hid (cw8.at_ B0.out (by simp))
    replace B1 := Lib.hid (cw8.at_ B1.out (by simp))
    replace B2 := Lib.hid (cw8.at_ B2.out (by simp))
    replace C := Lib.hid (C.out.trans cw8)
    replace CL := Lib.hid (CL.out.trans cw8)
    replace F1 := Lib.hid (F1.out.chg cw8 (by simp))
    replace F2 := Lib.hid (F2.out.chg cw8 (by simp))
    have B3 := Lib.hid (b_B3)
    have B4 := Lib.hid (b_B4)
    clear hw8 cw8 b_B3 b_B4
    go_upto_region 8 with fail
    rw [← Ww8.out]
    generalize w7.heap.size + 1 = s4 at *
    generalize w7.heap.size = s3 at *
    clear Ww8
    have z_B1_0 := cell_of B1.out 0
    have z_B1_1 := cell_of B1.out 1
    have z_B2_0 := cell_of B2.out 0
    have z_B2_1 := cell_of B2.out 1
    have z_B3_0 := cell_of B3.out 0
    have z_B3_1 := cell_of B3.out 1
    have z_B4_0 := cell_of B4.out 0
    have z_B4_1 := cell_of B4.out 1
    simp only [List.getElem?_toArray, List.getElem?_cons_succ, List.getElem?_cons_zero] at z_B1_0 z_B1_1 z_B2_0 z_B2_1 z_B3_0 z_B3_1 z_B4_0 z_B4_1
    go_wp2_with fail
    refine (same_yes w8 A1 A2 _ _ c1 c2 _ _ F1.out.reads F2.out.reads rfl).mono ?_
    rintro e w9 ⟨rfl, rfl⟩
    go_wp2_with fail
    clear z_B1_0 z_B1_1 z_B2_0 z_B2_1 z_B3_0 z_B3_1 z_B4_0 z_B4_1
    refine (over_own w8 A1 c1 _ _ F1.out rfl).mono ?_
    rintro e v1 ⟨rfl, h9⟩
    obtain ⟨S, hS, h9⟩ := over_since N1.out h9
    have C9 := Lib.hid (C.out.over (CNB.out) hS h9)
    have CL9 := Lib.hid (CL.out.over CLB.out hS h9)
    clear h9 hS F1 F2 B0 B1 B2 B3 B4
    go_wp2_with fail
    refine (kept_any v1 g A _ c xs (HL.out.chg CL9.out (by simp)) (HB.out.chg C9.out (by simp)) hm).mono ?_
    rintro e v2 ⟨rfl, ca⟩
    have C10 := Lib.hid (C9.out.trans ca)
    clear ca
    go_wp2_with fail
    refine (dawake_yes v2 (HT.out.chg C10.out)).mono ?_
    rintro e v3 ⟨rfl, ca⟩
    have C11 := Lib.hid (C10.out.trans ca)
    clear ca
    go_wp2
    go_ret
    exact ⟨rfl, C11.out⟩

set_option maxHeartbeats 4000000 in
theorem dtextslaw_yes (w : World) (n s : Int) (z : ByteArray) (hz : z.size ≤ 140737488351232) (hT : TabD w) : Calls Tryd.prog 5 #[.agg #[.int .i64 n, .int .i64 s], .string z] w fun r w' => r = .returned (.bool true) ∧ Chg [] w w' := by
  have HT := Lib.hid hT
  clear hT
  have C := Lib.hid (Chg.refl [] w)
  obtain ⟨w1, hw1, cw1, b_B0⟩ := news1 w (.cells #[.int .i64 n, .int .i64 s] 23)
  have Ww1 := Lib.hid hw1
  have l_B0 := lt_of_heap b_B0
  replace C := Lib.hid (C.out.trans cw1)
  have B0 := Lib.hid (b_B0)
  clear hw1 cw1 b_B0
  go_enter Tryd.func5, Tryd.ntmps5
  by_cases hbig : 60 < z.size
  · skip
    go_wp2_with fail
    rw [← Ww1.out]
    generalize w.heap.size = s0 at *
    clear Ww1
    refine (dawake_yes _ (HT.out.chg C.out)).mono ?_
    rintro e w2 ⟨rfl, ca⟩
    replace B0 := Lib.hid (ca.at_ B0.out (by simp))
    replace C := Lib.hid (C.out.trans ca)
    clear ca
    go_wp2
    go_ret
    exact ⟨rfl, C.out⟩
  · skip
    go_wp2_with fail
    rw [← Ww1.out]
    generalize w.heap.size = s0 at *
    clear Ww1
    refine (dtext_any _ n s (HT.out.chg C.out)).mono ?_
    rintro e w2 ⟨rfl, ca⟩
    replace B0 := Lib.hid (ca.at_ B0.out (by simp))
    replace C := Lib.hid (C.out.trans ca)
    clear ca
    have z_B0_0 := cell_of B0.out 0
    have z_B0_1 := cell_of B0.out 1
    simp only [List.getElem?_toArray, List.getElem?_cons_succ, List.getElem?_cons_zero] at z_B0_0 z_B0_1
    go_wp2_with fail
    refine (htext_any _ n s).mono ?_
    rintro e w3 ⟨rfl, ca⟩
    clear z_B0_0 z_B0_1
    replace B0 := Lib.hid (ca.at_ B0.out (by simp))
    replace C := Lib.hid (C.out.trans ca)
    clear ca
    generalize strOf (textO n s) = X at *
    generalize chkD n s = K at *
    go_wp2_with fail
    refine (dparse_any _ z hz (HT.out.chg C.out)).mono ?_
    rintro e w4 ⟨rfl, ca⟩
    replace B0 := Lib.hid (ca.at_ B0.out (by simp))
    replace C := Lib.hid (C.out.trans ca)
    clear ca
    have hp := fun w => hparse_any w z hz
    generalize parseD z.data.toList = R at *
    have HP := Lib.hid hp
    clear hp
    obtain ⟨w5, hw5, cw5, b_B1⟩ := news1 w4 (.cells #[.int .i64 R.1.1, .int .i64 R.1.2] 23)
    have Ww5 := Lib.hid hw5
    have l_B1 := lt_of_heap b_B1
    replace B0 := Lib.hid (cw5.at_ B0.out (by simp))
    replace C := Lib.hid (C.out.trans cw5)
    have B1 := Lib.hid (b_B1)
    clear hw5 cw5 b_B1
    go_wp2_with fail
    rw [← Ww5.out]
    generalize w4.heap.size = s1 at *
    clear Ww5
    refine (HP.out _).mono ?_
    rintro e w6 ⟨rfl, ca⟩
    replace B0 := Lib.hid (ca.at_ B0.out (by simp))
    replace B1 := Lib.hid (ca.at_ B1.out (by simp))
    replace C := Lib.hid (C.out.trans ca)
    clear ca
    obtain ⟨w7, hw7, cw7, b_B2⟩ := news1 w6 (.cells #[.int .i64 R.1.1, .int .i64 R.1.2] 23)
    have Ww7 := Lib.hid hw7
    have l_B2 := lt_of_heap b_B2
    replace B0 := Lib.hid (cw7.at_ B0.out (by simp))
    replace B1 := Lib.hid (cw7.at_ B1.out (by simp))
    replace C := Lib.hid (C.out.trans cw7)
    have B2 := Lib.hid (b_B2)
    clear hw7 cw7 b_B2
    go_upto_region 7 with fail
    rw [← Ww7.out]
    generalize w6.heap.size = s2 at *
    clear Ww7
    have z_B1_0 := cell_of B1.out 0
    have z_B1_1 := cell_of B1.out 1
    have z_B2_0 := cell_of B2.out 0
    have z_B2_1 := cell_of B2.out 1
    simp only [List.getElem?_toArray, List.getElem?_cons_succ, List.getElem?_cons_zero] at z_B1_0 z_B1_1 z_B2_0 z_B2_1
    go_wp2_with fail
    refine (dawake_yes _ (HT.out.chg C.out)).mono ?_
    rintro e w8 ⟨rfl, ca⟩
    clear z_B1_0 z_B1_1 z_B2_0 z_B2_1
    replace B0 := Lib.hid (ca.at_ B0.out (by simp))
    replace B1 := Lib.hid (ca.at_ B1.out (by simp))
    replace B2 := Lib.hid (ca.at_ B2.out (by simp))
    replace C := Lib.hid (C.out.trans ca)
    clear ca
    go_wp2
    go_ret
    exact ⟨rfl, C.out⟩
end Go.Proofs.YtmcnfopiilplnaaDoor
