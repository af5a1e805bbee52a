/- The walk of ChunkNone. -/
import Derived.Test.YtkjdfndbadbkkaaCknone
import Derived.Test.YtkjdfndbadbkkaaCkawk
namespace Go.Proofs.Ytkjdfndbadbkkaa
open Go.RowKit Go.Lib
set_option linter.unusedSimpArgs false
set_option linter.unusedVariables false


set_option maxHeartbeats 4000000 in
set_option maxRecDepth 100000 in
theorem cknone_yes (w : World) (k i s a : Int) (A : Option Addr) (n c : Nat) :
    Calls Try.prog 3 #[.agg #[.int .i64 k, .int .i64 i, .int .i64 s, .int .i64 a, .slice A n c]] w fun e w' => e = .returned (.bool true) ∧ Chg [] w w' := by
  obtain ⟨w1, hw1, c1, b0⟩ := news1 w (.cells #[.int .i64 k, .int .i64 i, .int .i64 s, .int .i64 a, .slice A n c] 24)
  have W1 := Lib.hid hw1
  have C1 := Lib.hid c1
  have B1 := Lib.hid b0
  have k4 := cell_of b0 4
  simp only [List.getElem?_toArray, List.getElem?_cons_succ, List.getElem?_cons_zero] at k4
  clear hw1 c1 b0
  by_cases hbig : 400 < n
  · have h2 : (400 : Int) < (n : Int) := by omega
    go_enter Try.func3, Try.ntmps3
    go_upto_region 1 with fail
    rw [← W1.out]
    clear W1
    go_wp2_with fail
    refine (l19awake_run w1).mono ?_
    rintro r w4 ⟨rfl, hc⟩
    have C4 := Lib.hid (C1.out.trans hc)
    clear hc
    go_wp2
    go_ret
    exact ⟨rfl, C4.out⟩
  · have h2 : ¬ (400 : Int) < (n : Int) := by omega
    obtain ⟨V, hV, cV, bZ, bR⟩ := news2 w1 (.cells #[.pointer none, .int .i64 0, .int .i64 0, .int .i64 0, .slice none 0 0] 28) (.cells #[.pointer none, .pointer (some ⟨w1.heap.size, 0, none⟩)] 26)
    have SZ : w.heap.size < w1.heap.size := lt_of_heap B1.out
    go_enter Try.func3, Try.ntmps3
    go_upto_region 1 with fail
    rw [← W1.out]
    clear W1
    go_upto_region 4 with fail
    rw [← hV]
    have CV := Lib.hid (C1.out.trans cV)
    have BV := Lib.hid (cV.at_ B1.out (by simp))
    have DZ := Lib.hid (cell_of bZ 0)
    have R0 := Lib.hid (cell_of bR 0)
    have R1 := Lib.hid (cell_of bR 1)
    have HV := Lib.hid hV
    clear hV cV bZ bR B1 k4
    generalize w1.heap.size = z at *
    generalize z + 1 = R at *
    clear HV
    go_wp2
    go_loopw [4] (fun i wr => ∃ j : Nat, j ≤ 2 ∧ i = .int .i64 j ∧ Hid (Chg [] V wr)) (fun i _ => 2 - (RowKit.intOf i).toNat)
    case atStart => exact ⟨0, by omega, rfl, Chg.refl _ _⟩
    case round =>
      obtain ⟨j, hj, rfl, HI⟩ := hrel
      generalize wr = w4 at *
      clear wr
      by_cases hlt : j < 2
      · obtain ⟨p, hp, hd⟩ : ∃ p, w4.cell? ⟨R, j, none⟩ = some (.pointer p) ∧ DeadB w4 p := by
          rcases (by omega : j = 0 ∨ j = 1) with rfl | rfl
          · exact ⟨none, HI.out.cell R0.out (by simp), .inl rfl⟩
          · exact ⟨some ⟨z, 0, none⟩, HI.out.cell R1.out (by simp), .inr ⟨z, rfl, HI.out.cell DZ.out (by simp)⟩⟩
        have HD := Lib.hid hd
        have CH := HI
        have i0 : (0 : Int) ≤ (j : Int) := by omega
        have i1 : (j : Int) < 2 := by omega
        have HP := Lib.hid hp
        clear hd hp
        have hb := CH.out.at_ BV.out (by simp)
        have HB := Lib.hid hb
        clear hb
        have hk : ∀ w', Chg [] w4 w' → (w'.cell? ⟨R, j, none⟩ = some (.pointer p) ∧ w'.cell? ⟨w.heap.size, 0, none⟩ = some (.int .i64 k) ∧ w'.cell? ⟨w.heap.size, 1, none⟩ = some (.int .i64 i) ∧ w'.cell? ⟨w.heap.size, 2, none⟩ = some (.int .i64 s) ∧ w'.cell? ⟨w.heap.size, 3, none⟩ = some (.int .i64 a) ∧ w'.cell? ⟨w.heap.size, 4, none⟩ = some (.slice A n c)) := fun w' h => by
          have hb := h.at_ HB.out (by simp)
          exact ⟨h.cell HP.out (by simp), cell_of hb 0, cell_of hb 1, cell_of hb 2, cell_of hb 3, cell_of hb 4⟩
        have HK := Lib.hid hk
        clear hk
        generalize w.heap.size = b0 at *
        go_upto_region 7 with fail
        refine wp_region_held_drew (S := fun w' => Chg [] w4 w') (by kernel_rfl) (Chg.refl [] w4).drew (fun hHeld => ?_)
        refine step_yes 0 22 ?_ (by assumption) rfl rfl (by kernel_rfl) (by kernel_rfl) (by kernel_rfl) (fun _ _ _ h => h) (by rfl) ?_ ?_
        rotate_left
        · (intro w hSw; (try dsimp only at hSw); go_simp; try with_reducible rfl)
        try simp only [Act.put, List.setIfInBounds_toArray, List.set_cons_zero, List.set_cons_succ]
        refine step_yes 1 23 ?_ (by assumption) rfl rfl (by kernel_rfl) (by kernel_rfl) (by kernel_rfl) (fun _ _ _ h => h) (by rfl) ?_ ?_
        rotate_left
        · (intro w hSw; (try dsimp only at hSw); go_simp; try with_reducible rfl)
        try simp only [Act.put, List.setIfInBounds_toArray, List.set_cons_zero, List.set_cons_succ]
        refine step_yes 2 24 ?_ (by assumption) rfl rfl (by kernel_rfl) (by kernel_rfl) (by kernel_rfl) (fun _ _ _ h => h) (by rfl) ?_ ?_
        rotate_left
        · (intro w hSw; (try dsimp only at hSw); go_simp; try with_reducible rfl)
        try simp only [Act.put, List.setIfInBounds_toArray, List.set_cons_zero, List.set_cons_succ]
        refine step_yes 3 25 ?_ (by assumption) rfl rfl (by kernel_rfl) (by kernel_rfl) (by kernel_rfl) (fun _ _ _ h => h) (by rfl) ?_ ?_
        rotate_left
        · (intro w hSw; (try dsimp only at hSw); have hq := HK.out _ hSw; obtain ⟨q0, q1, q2, q3, q4, q5⟩ := hq; go_simp; try with_reducible rfl)
        try simp only [Act.put, List.setIfInBounds_toArray, List.set_cons_zero, List.set_cons_succ]
        refine step_yes 4 26 ?_ (by assumption) rfl rfl (by kernel_rfl) (by kernel_rfl) (by kernel_rfl) (fun _ _ _ h => h) (by rfl) ?_ ?_
        rotate_left
        · (intro w hSw; (try dsimp only at hSw); have hq := HK.out _ hSw; obtain ⟨q0, q1, q2, q3, q4, q5⟩ := hq; go_simp; try with_reducible rfl)
        try simp only [Act.put, List.setIfInBounds_toArray, List.set_cons_zero, List.set_cons_succ]
        refine wpAnyH_ready (rs := [5]) (by kernel_rfl) (by simp) ?_
        refine AllReadyH.cons rfl (fun K hK => ?_) AllReadyH.nil
        replace hK := Lib.hid hK
        go_simp
        refine (bput_dead _ p (HD.out.chg hHeld) k i s a A n c).mono ?_
        rintro e w9 ⟨rfl, hc⟩
        have C9 := Lib.hid (hHeld.trans hc)
        clear hc hHeld
        refine hK.out _ _ C9.out (fun hHeld => ?_)
        clear hK K
        try simp only [Act.put, List.setIfInBounds_toArray, List.set_cons_zero, List.set_cons_succ]
        refine step_yes 6 21 ?_ (by assumption) rfl rfl (by kernel_rfl) (by kernel_rfl) (by kernel_rfl) (fun _ _ _ h => h) (by rfl) ?_ ?_
        rotate_left
        · (intro w hSw; (try dsimp only at hSw); go_simp; try with_reducible rfl)
        try simp only [Act.put, List.setIfInBounds_toArray, List.set_cons_zero, List.set_cons_succ]
        refine step_yes 7 28 ?_ (by assumption) rfl rfl (by kernel_rfl) (by kernel_rfl) (by kernel_rfl) (fun _ _ _ h => h) (by rfl) ?_ ?_
        rotate_left
        · (intro w hSw; (try dsimp only at hSw); go_simp; try with_reducible rfl)
        try simp only [Act.put, List.setIfInBounds_toArray, List.set_cons_zero, List.set_cons_succ]
        refine step_yes 8 29 ?_ (by assumption) rfl rfl (by kernel_rfl) (by kernel_rfl) (by kernel_rfl) (fun _ _ _ h => h) (by rfl) ?_ ?_
        rotate_left
        · (intro w hSw; (try dsimp only at hSw); go_simp; try with_reducible rfl)
        try simp only [Act.put, List.setIfInBounds_toArray, List.set_cons_zero, List.set_cons_succ]
        refine step_yes 9 5 ?_ (by assumption) rfl rfl (by kernel_rfl) (by kernel_rfl) (by kernel_rfl) (fun _ _ _ h => h) (by rfl) ?_ ?_
        rotate_left
        · (intro w hSw; (try dsimp only at hSw); go_simp; try with_reducible rfl)
        try simp only [Act.put, List.setIfInBounds_toArray, List.set_cons_zero, List.set_cons_succ]
        refine step_yes 10 6 ?_ (by assumption) rfl rfl (by kernel_rfl) (by kernel_rfl) (by kernel_rfl) (fun _ _ _ h => h) (by rfl) ?_ ?_
        rotate_left
        · (intro w hSw; (try dsimp only at hSw); go_simp; try with_reducible rfl)
        try simp only [Act.put, List.setIfInBounds_toArray, List.set_cons_zero, List.set_cons_succ]
        refine wpAnyH_done (by kernel_rfl) ?_ _
        have CH := Lib.hid (CH.out.trans C9.out)
        have HD := Lib.hid (HD.out.chg C9.out)
        have hp := C9.out.cell HP.out (by simp)
        have HP := Lib.hid hp
        clear HK C9
        go_wp2_with fail
        refine (bdrop_dead _ p HD.out).mono ?_
        rintro r w10 ⟨rfl, hc⟩
        have CH := Lib.hid (CH.out.trans hc)
        have HD := Lib.hid (HD.out.chg hc)
        have hp := hc.cell HP.out (by simp)
        have HP := Lib.hid hp
        clear hc
        go_wp2_with fail
        refine (bitem_dead _ p HD.out).mono ?_
        rintro r w11 ⟨rfl, hc⟩
        have CH := Lib.hid (CH.out.trans hc)
        have HD := Lib.hid (HD.out.chg hc)
        have hp := hc.cell HP.out (by simp)
        have HP := Lib.hid hp
        clear hc
        go_wp2_with fail
        refine (bused_dead _ p HD.out).mono ?_
        rintro r w12 ⟨rfl, hc⟩
        have CH := Lib.hid (CH.out.trans hc)
        clear hc hp
        go_wp2
        go_round
        case rel => exact ⟨j + 1, by omega, by go_num, CH.out⟩
        case measure => simp [RowKit.intOf]; omega
      · obtain rfl : j = 2 := by omega
        go_wp2_with fail
        refine (l19awake_run _).mono ?_
        rintro r w5 ⟨rfl, hc⟩
        have CH := Lib.hid (CV.out.trans (HI.out.trans hc))
        clear hc
        go_wp2
        go_ret
        exact ⟨rfl, CH.out⟩
end Go.Proofs.Ytkjdfndbadbkkaa
