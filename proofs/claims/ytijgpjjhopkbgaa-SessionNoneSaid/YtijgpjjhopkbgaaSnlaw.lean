/- The walk of SessionNone. -/
import Derived.Test.YtijgpjjhopkbgaaSnone
import Derived.Test.YtijgpjjhopkbgaaSawk
import Derived.Deep.Cut
namespace Go.Proofs.Ytijgpjjhopkbgaa
open Go.RowKit Go.Lib
set_option linter.unusedSimpArgs false
set_option linter.unusedVariables false
set_option maxHeartbeats 4000000 in
set_option maxRecDepth 100000 in
theorem snone_yes (w : World) (k f t m a : Int) (A : Option Addr) (n c : Nat) (hn : n ≤ 140737488351232) :
    Calls Try.prog 3 #[.agg #[.int .i64 k, .int .i64 f, .int .i64 t, .int .i64 m, .int .i64 a, .slice A n c]] w fun e w' => e = .returned (.bool true) ∧ Chg [] w w' := by
  obtain ⟨w1, hw1, c1, b0⟩ := news1 w (.cells #[.int .i64 k, .int .i64 f, .int .i64 t, .int .i64 m, .int .i64 a, .slice A n c] 26)
  obtain ⟨w2, hw2, c2, b1⟩ := news1 w1 (.cells #[.int .i64 k, .int .i64 f, .int .i64 t, .int .i64 m, .int .i64 a, .slice A n c] 26)
  have W1 := Lib.hid hw1
  have W2 := Lib.hid hw2
  have C2 := Lib.hid (c1.trans c2)
  have B0 := Lib.hid (c2.at_ b0 (by simp))
  have B1 := Lib.hid b1
  have S1 : w1.heap.size = w.heap.size + 1 := by rw [hw1]; simp
  have HN := Lib.hid hn
  clear hw1 hw2 c1 c2 b0 b1 hn
  go_enter Try.func3, Try.ntmps3
  go_wp2_with fail
  rw [← W1.out, ← W2.out, ← S1]
  refine (long_one w2 w1.heap.size k f t m a A n c B1.out HN.out).mono ?_
  rintro r w3 ⟨rfl, hc⟩
  have C3 := Lib.hid (C2.out.trans hc)
  have B3 := Lib.hid (hc.at_ B0.out (by simp))
  clear hc W1 W2 B0 B1 C2
  have SZ : w.heap.size < w3.heap.size := lt_of_heap B3.out
  by_cases hl : 500 < n
  · rw [decide_eq_true hl]
    clear hl
    go_wp2_with fail
    refine (l18awake_run w3).mono ?_
    rintro r w4 ⟨rfl, hc⟩
    have C4 := Lib.hid (C3.out.trans hc)
    clear hc
    go_wp2
    go_ret
    exact ⟨rfl, C4.out⟩
  · rw [decide_eq_false hl]
    clear hl
    obtain ⟨V, hV, cV, bZ, bR⟩ := news2 w3 (.cells #[.pointer none, .int .i64 0, .int .i64 0, .int .i64 0, .slice none 0 0, .bool false, .int .i64 0, .slice none 0 0, .bool false, .int .i64 0, .slice none 0 0, .bool false, .int .i64 0, .slice none 0 0, .bool false, .int .i64 0, .slice none 0 0, .bool false, .int .i64 0, .slice none 0 0, .bool false, .int .i64 0, .slice none 0 0, .bool false, .int .i64 0, .slice none 0 0, .bool false, .int .i64 0, .int .i64 0, .int .i64 0, .int .i64 0, .slice none 0 0, .int .i64 0, .int .u32 0] 46) (.cells #[.pointer none, .pointer (some ⟨w3.heap.size, 0, none⟩)] 30)
    go_upto_region 4 with fail
    rw [← hV]
    have CV := Lib.hid (C3.out.trans cV)
    have BV := Lib.hid (cV.at_ B3.out (by simp))
    have DZ := Lib.hid (cell_of bZ 0)
    have R0 := Lib.hid (cell_of bR 0)
    have R1 := Lib.hid (cell_of bR 1)
    have HV := Lib.hid hV
    clear hV cV bZ bR C3 B3
    generalize w3.heap.size = z at *
    generalize z + 1 = R at *
    clear HV
    go_wp2
    go_loopw [4] (fun i wr => ∃ j : Nat, j ≤ 2 ∧ i = .int .i64 j ∧ Hid (Chg [] V wr)) (fun i _ => 2 - (RowKit.intOf i).toNat)
    case atStart => exact ⟨0, by omega, rfl, Chg.refl _ _⟩
    case round =>
      obtain ⟨j, hj, rfl, HI⟩ := hrel
      generalize wr = w4 at *
      clear wr
      by_cases hlt : j < 2
      · obtain ⟨p, hp, hd⟩ : ∃ p, w4.cell? ⟨R, j, none⟩ = some (.pointer p) ∧ DeadS w4 p := by
          rcases (by omega : j = 0 ∨ j = 1) with rfl | rfl
          · exact ⟨none, HI.out.cell R0.out (by simp), .inl rfl⟩
          · exact ⟨some ⟨z, 0, none⟩, HI.out.cell R1.out (by simp), .inr ⟨z, rfl, HI.out.cell DZ.out (by simp)⟩⟩
        have HD := Lib.hid hd
        have CH := HI
        have i0 : (0 : Int) ≤ (j : Int) := by omega
        have i1 : (j : Int) < 2 := by omega
        clear hd
        go_wp2_with fail
        refine (tick_dead _ p HD.out).mono ?_
        rintro r w5 ⟨rfl, hc⟩
        have CH := Lib.hid (CH.out.trans hc)
        have HD := Lib.hid (HD.out.chg hc)
        have hb := CH.out.at_ BV.out (by simp)
        have k1 := cell_of hb 1
        have k2 := cell_of hb 2
        have k3 := cell_of hb 3
        have k4 := cell_of hb 4
        have k5 := cell_of hb 5
        simp only [List.getElem?_toArray, List.getElem?_cons_succ, List.getElem?_cons_zero] at k1 k2 k3 k4 k5
        clear hc hb hp
        go_wp2_with fail
        refine (receive_dead _ p HD.out f t m a A n c).mono ?_
        rintro r w6 ⟨rfl, hc⟩
        have CH := Lib.hid (CH.out.trans hc)
        have HD := Lib.hid (HD.out.chg hc)
        have hb := CH.out.at_ BV.out (by simp)
        have k5 := cell_of hb 5
        simp only [List.getElem?_toArray, List.getElem?_cons_succ, List.getElem?_cons_zero] at k5
        clear hb k1 k2 k3 k4
        clear hc
        go_wp2_with fail
        refine (send_dead _ p HD.out A n c).mono ?_
        rintro r w7 ⟨rfl, hc⟩
        have CH := Lib.hid (CH.out.trans hc)
        have HD := Lib.hid (HD.out.chg hc)
        clear hc
        go_wp2_with fail
        refine (out_dead _ p HD.out).mono ?_
        rintro r w8 ⟨rfl, hc⟩
        have CH := Lib.hid (CH.out.trans hc)
        have HD := Lib.hid (HD.out.chg hc)
        clear hc
        go_wp2_with fail
        refine (take_dead _ p HD.out).mono ?_
        rintro r w9 ⟨rfl, hc⟩
        have CH := Lib.hid (CH.out.trans hc)
        have HD := Lib.hid (HD.out.chg hc)
        clear hc
        go_wp2_with fail
        refine (peer_dead _ p HD.out).mono ?_
        rintro r w10 ⟨rfl, hc⟩
        have CH := Lib.hid (CH.out.trans hc)
        have HD := Lib.hid (HD.out.chg hc)
        clear hc
        go_wp2_with fail
        refine (waiting_dead _ p HD.out).mono ?_
        rintro r w11 ⟨rfl, hc⟩
        have CH := Lib.hid (CH.out.trans hc)
        have HD := Lib.hid (HD.out.chg hc)
        clear hc
        go_wp2_with fail
        refine (turns_dead _ p HD.out).mono ?_
        rintro r w12 ⟨rfl, hc⟩
        have CH := Lib.hid (CH.out.trans hc)
        have HD := Lib.hid (HD.out.chg hc)
        clear hc
        go_wp2
        go_round
        case rel => exact ⟨j + 1, by omega, by go_num, CH.out⟩
        case measure => simp [RowKit.intOf]; omega
      · obtain rfl : j = 2 := by omega
        go_wp2_with fail
        refine (l18awake_run _).mono ?_
        rintro r w5 ⟨rfl, hc⟩
        have CH := Lib.hid (CV.out.trans (HI.out.trans hc))
        clear hc
        go_wp2
        go_ret
        exact ⟨rfl, CH.out⟩
end Go.Proofs.Ytijgpjjhopkbgaa
