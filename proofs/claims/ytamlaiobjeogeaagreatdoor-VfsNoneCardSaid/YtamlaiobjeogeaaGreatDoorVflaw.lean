/- The walk of VfsNone. -/
import Derived.Test.YtamlaiobjeogeaaGreatDoorVfnone
import Derived.Test.YtamlaiobjeogeaaGreatDoorVfsAwake
import Derived.Test.YtamlaiobjeogeaaGreatDoorLaid0
namespace Go.Proofs.YtamlaiobjeogeaaGreatDoor
open Go.RowKit Go.Lib
set_option linter.unusedSimpArgs false
set_option linter.unusedVariables false


/-- Nothing is asked of the variables. -/
def TabN (_ : World) : Prop := True
theorem TabN.laid {W : World} (_h : laidMetH Tryz.prog tables W) : TabN W := trivial
set_option maxHeartbeats 4000000 in
set_option maxRecDepth 100000 in
theorem vfnone_yes (w : World) (kd of : Int) (s t : ByteArray) (k m : Int) (A : Option Addr) (n c : Nat) :
    Calls Tryz.prog 3 #[.agg #[.int .i64 kd, .int .i64 of, .string s, .string t, .int .i64 k, .int .i64 m, .slice A n c]] w fun e w' => e = .returned (.bool true) ∧ Chg [] w w' := by
  obtain ⟨w1, hw1, c1, b0⟩ := news1 w (.cells #[.int .i64 kd, .int .i64 of, .string s, .string t, .int .i64 k, .int .i64 m, .slice A n c] 26)
  obtain ⟨w2, hw2, c2, b1⟩ := news1 w1 (.cells #[.int .i64 kd, .int .i64 of, .string s, .string t, .int .i64 k, .int .i64 m, .slice A n c] 26)
  have W1 := Lib.hid hw1
  have W2 := Lib.hid hw2
  have C2 := Lib.hid (c1.trans c2)
  have B0 := Lib.hid (c2.at_ b0 (by simp))
  have B1 := Lib.hid b1
  have S1 : w1.heap.size = w.heap.size + 1 := by rw [hw1]; simp
  clear hw1 hw2 c1 c2 b0 b1
  go_enter Tryz.func3, Tryz.ntmps3
  go_wp2_with fail
  rw [← W1.out, ← W2.out, ← S1]
  refine (vlong_one w2 w1.heap.size kd of s t k m A n c B1.out).mono ?_
  rintro r w3 ⟨rfl, hc⟩
  have C3 := Lib.hid (C2.out.trans hc)
  have B3 := Lib.hid (hc.at_ B0.out (by simp))
  clear hc W1 W2 B0 B1 C2
  have SZ : w.heap.size < w3.heap.size := lt_of_heap B3.out
  cases hl : longV s.size t.size n with
  | true =>
    clear hl
    go_wp2_with fail
    refine (vfsAwake_run w3).mono ?_
    rintro r w4 ⟨rfl, hc⟩
    have C4 := Lib.hid (C3.out.trans hc)
    clear hc
    go_wp2
    go_ret
    exact ⟨rfl, C4.out⟩
  | false =>
    clear hl
    obtain ⟨V, hV, cV, bZ, bR⟩ := news2 w3 (.cells #[.pointer none, .slice none 0 0, .int .i64 0, .map none] 34) (.cells #[.pointer none, .pointer (some ⟨w3.heap.size, 0, none⟩)] 30)
    go_upto_region 4 with fail
    rw [← hV]
    have CV := Lib.hid (C3.out.trans cV)
    have BV := Lib.hid (cV.at_ B3.out (by simp))
    have DZ := Lib.hid (cell_of bZ 0)
    have R0 := Lib.hid (cell_of bR 0)
    have R1 := Lib.hid (cell_of bR 1)
    have HV := Lib.hid hV
    clear hV cV bZ bR C3 B3
    generalize w3.heap.size = z at *
    generalize z + 1 = R at *
    clear HV
    generalize w.heap.size = b0 at *
    go_wp2
    go_loopw [4] (fun i wr => ∃ j : Nat, j ≤ 2 ∧ i = .int .i64 j ∧ Hid (Chg [] V wr)) (fun i _ => 2 - (RowKit.intOf i).toNat)
    case atStart => exact ⟨0, by omega, rfl, Chg.refl _ _⟩
    case round =>
      obtain ⟨j, hj, rfl, HI⟩ := hrel
      generalize wr = w4 at *
      clear wr
      by_cases hlt : j < 2
      · obtain ⟨p, hp, hd⟩ : ∃ p, w4.cell? ⟨R, j, none⟩ = some (.pointer p) ∧ DeadF w4 p := by
          rcases (by omega : j = 0 ∨ j = 1) with rfl | rfl
          · exact ⟨none, HI.out.cell R0.out (by simp), .inl rfl⟩
          · exact ⟨some ⟨z, 0, none⟩, HI.out.cell R1.out (by simp), .inr ⟨z, rfl, HI.out.cell DZ.out (by simp)⟩⟩
        have H := Lib.hid hd
        have CH := HI
        have i0 : (0 : Int) ≤ (j : Int) := by omega
        have i1 : (j : Int) < 2 := by omega
        clear hd
        go_upto_region 8 with fail
        clear hp
        have hb := CH.out.at_ BV.out (by simp)
        have k1 := cell_of hb 1
        have k2 := cell_of hb 2
        have k3 := cell_of hb 3
        have k4 := cell_of hb 4
        have k5 := cell_of hb 5
        have k6 := cell_of hb 6
        simp only [List.getElem?_toArray, List.getElem?_cons_succ, List.getElem?_cons_zero] at k1 k2 k3 k4 k5 k6
        clear hb
        go_wp2_with fail
        refine (fwrite_dead _ p H.out s m A n c).mono ?_
        rintro r w9 ⟨rfl, hc⟩
        have CH := Lib.hid (CH.out.trans hc)
        have H := Lib.hid (H.out.chg hc)
        clear hc k1 k2 k3 k4 k5 k6
        skip
        have hb := CH.out.at_ BV.out (by simp)
        have k1 := cell_of hb 1
        have k2 := cell_of hb 2
        have k3 := cell_of hb 3
        have k4 := cell_of hb 4
        have k5 := cell_of hb 5
        have k6 := cell_of hb 6
        simp only [List.getElem?_toArray, List.getElem?_cons_succ, List.getElem?_cons_zero] at k1 k2 k3 k4 k5 k6
        clear hb
        go_wp2_with fail
        refine (fmkdir_dead _ p H.out s m).mono ?_
        rintro r w9 ⟨rfl, hc⟩
        have CH := Lib.hid (CH.out.trans hc)
        have H := Lib.hid (H.out.chg hc)
        clear hc k1 k2 k3 k4 k5 k6
        skip
        have hb := CH.out.at_ BV.out (by simp)
        have k1 := cell_of hb 1
        have k2 := cell_of hb 2
        have k3 := cell_of hb 3
        have k4 := cell_of hb 4
        have k5 := cell_of hb 5
        have k6 := cell_of hb 6
        simp only [List.getElem?_toArray, List.getElem?_cons_succ, List.getElem?_cons_zero] at k1 k2 k3 k4 k5 k6
        clear hb
        go_wp2_with fail
        refine (fchmod_dead _ p H.out s m).mono ?_
        rintro r w9 ⟨rfl, hc⟩
        have CH := Lib.hid (CH.out.trans hc)
        have H := Lib.hid (H.out.chg hc)
        clear hc k1 k2 k3 k4 k5 k6
        skip
        have hb := CH.out.at_ BV.out (by simp)
        have k1 := cell_of hb 1
        have k2 := cell_of hb 2
        have k3 := cell_of hb 3
        have k4 := cell_of hb 4
        have k5 := cell_of hb 5
        have k6 := cell_of hb 6
        simp only [List.getElem?_toArray, List.getElem?_cons_succ, List.getElem?_cons_zero] at k1 k2 k3 k4 k5 k6
        clear hb
        go_wp2_with fail
        refine (fremove_dead _ p H.out s).mono ?_
        rintro r w9 ⟨rfl, hc⟩
        have CH := Lib.hid (CH.out.trans hc)
        have H := Lib.hid (H.out.chg hc)
        clear hc k1 k2 k3 k4 k5 k6
        skip
        have hb := CH.out.at_ BV.out (by simp)
        have k1 := cell_of hb 1
        have k2 := cell_of hb 2
        have k3 := cell_of hb 3
        have k4 := cell_of hb 4
        have k5 := cell_of hb 5
        have k6 := cell_of hb 6
        simp only [List.getElem?_toArray, List.getElem?_cons_succ, List.getElem?_cons_zero] at k1 k2 k3 k4 k5 k6
        clear hb
        go_wp2_with fail
        refine (frename_dead _ p H.out s t).mono ?_
        rintro r w9 ⟨rfl, hc⟩
        have CH := Lib.hid (CH.out.trans hc)
        have H := Lib.hid (H.out.chg hc)
        clear hc k1 k2 k3 k4 k5 k6
        skip
        have hb := CH.out.at_ BV.out (by simp)
        have k1 := cell_of hb 1
        have k2 := cell_of hb 2
        have k3 := cell_of hb 3
        have k4 := cell_of hb 4
        have k5 := cell_of hb 5
        have k6 := cell_of hb 6
        simp only [List.getElem?_toArray, List.getElem?_cons_succ, List.getElem?_cons_zero] at k1 k2 k3 k4 k5 k6
        clear hb
        go_wp2_with fail
        refine (fswap_dead _ p H.out s k m A n c of).mono ?_
        rintro r w9 ⟨rfl, hc⟩
        have CH := Lib.hid (CH.out.trans hc)
        have H := Lib.hid (H.out.chg hc)
        clear hc k1 k2 k3 k4 k5 k6
        skip
        have hb := CH.out.at_ BV.out (by simp)
        have k1 := cell_of hb 1
        have k2 := cell_of hb 2
        have k3 := cell_of hb 3
        have k4 := cell_of hb 4
        have k5 := cell_of hb 5
        have k6 := cell_of hb 6
        simp only [List.getElem?_toArray, List.getElem?_cons_succ, List.getElem?_cons_zero] at k1 k2 k3 k4 k5 k6
        clear hb
        go_wp2_with fail
        refine (ftree_dead _ p H.out).mono ?_
        rintro r w9 ⟨rfl, hc⟩
        have CH := Lib.hid (CH.out.trans hc)
        have H := Lib.hid (H.out.chg hc)
        clear hc k1 k2 k3 k4 k5 k6
        skip
        have hb := CH.out.at_ BV.out (by simp)
        have k1 := cell_of hb 1
        have k2 := cell_of hb 2
        have k3 := cell_of hb 3
        have k4 := cell_of hb 4
        have k5 := cell_of hb 5
        have k6 := cell_of hb 6
        simp only [List.getElem?_toArray, List.getElem?_cons_succ, List.getElem?_cons_zero] at k1 k2 k3 k4 k5 k6
        clear hb
        go_wp2_with fail
        refine (fstamp_dead _ p H.out s).mono ?_
        rintro r w9 ⟨rfl, hc⟩
        have CH := Lib.hid (CH.out.trans hc)
        have H := Lib.hid (H.out.chg hc)
        clear hc k1 k2 k3 k4 k5 k6
        skip
        have hb := CH.out.at_ BV.out (by simp)
        have k1 := cell_of hb 1
        have k2 := cell_of hb 2
        have k3 := cell_of hb 3
        have k4 := cell_of hb 4
        have k5 := cell_of hb 5
        have k6 := cell_of hb 6
        simp only [List.getElem?_toArray, List.getElem?_cons_succ, List.getElem?_cons_zero] at k1 k2 k3 k4 k5 k6
        clear hb
        go_wp2_with fail
        refine (fclock_dead _ p H.out).mono ?_
        rintro r w9 ⟨rfl, hc⟩
        have CH := Lib.hid (CH.out.trans hc)
        have H := Lib.hid (H.out.chg hc)
        clear hc k1 k2 k3 k4 k5 k6
        skip
        go_wp2
        go_round
        case rel => first | exact ⟨j + 1, by omega, by go_num, CH.out⟩ | ((repeat apply Exists.intro); exact ⟨⟨j + 1, by omega, by go_num, CH.out⟩, rfl⟩)
        case measure => simp [RowKit.intOf]; omega
      · obtain rfl : j = 2 := by omega
        go_wp2_with fail
        refine (vfsAwake_run _).mono ?_
        rintro r w5 ⟨rfl, hc⟩
        have CH := Lib.hid (CV.out.trans (HI.out.trans hc))
        clear hc
        go_wp2
        go_ret
        exact ⟨rfl, CH.out⟩
end Go.Proofs.YtamlaiobjeogeaaGreatDoor
