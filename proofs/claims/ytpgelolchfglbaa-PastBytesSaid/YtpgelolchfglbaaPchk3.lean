/- The document's Check of a past. -/
import Derived.Test.YtpgelolchfglbaaPchk
import Derived.Deep.Cut
import Derived.Deep.QuietTactic
import Derived.BigQuiet
namespace Go.Proofs.Ytpgelolchfglbaa
open Go.RowKit Go.Lib
set_option linter.unusedSimpArgs false
set_option linter.unusedVariables false



set_option maxHeartbeats 8000000 in
set_option maxRecDepth 100000 in
theorem qacheck_any (w : World) (A : Option Addr) (n c : Nat) (xs : List (Int × Int × Int)) (h : RdK spanTy w A n xs) (hn : n ≤ 140737488351232) : Calls Try.prog 23 #[.slice A n c] w fun e w' => e = .returned (.int .i64 (chkS xs)) ∧ Chg [] w w' := by
  have go : ∀ v, chkS xs = v → Calls Try.prog 23 #[.slice A n c] w (fun e w' => e = .returned (.int .i64 v) ∧ Chg [] w w') → Calls Try.prog 23 #[.slice A n c] w fun e w' => e = .returned (.int .i64 (chkS xs)) ∧ Chg [] w w' := fun v hv h => hv ▸ h
  have hl := h.len
  subst hl
  by_cases hbig : 4000 < xs.length
  · refine go 2 (if_neg (by omega)) ?_
    clear go h
    go_enter Try.func23, Try.ntmps23
    go_wp2
    go_ret
    exact ⟨rfl, Chg.refl _ _⟩
  · skip
    have HX := Lib.hid h
    have hV : chkS xs = if okFrom none xs = true then 0 else 2 := by unfold chkS; by_cases ho : okFrom none xs = true <;> simp [ho] <;> omega
    have HV := Lib.hid hV
    clear h go
    generalize chkS xs = V at *
    clear hV
    go_enter Try.func23, Try.ntmps23
    go_wp2
    go_loopw [3] (fun i wr => ∃ (k : Nat), k ≤ xs.length ∧ i = .int .i64 k ∧ Hid (Chg [] w wr ∧ okFrom none xs = okFrom (prevS xs k) (xs.drop k) ∧ ∀ y, prevS xs k = some y → FineS y.1 y.2.1 y.2.2)) (fun i _ => xs.length - (RowKit.intOf i).toNat)
    case atStart => exact ⟨0, Nat.zero_le _, rfl, Chg.refl _ _, rfl, by unfold prevS; simp⟩
    case round =>
      obtain ⟨k, hk, rfl, HI⟩ := hrel
      generalize wr = w1 at *
      clear wr
      by_cases hlt : k < xs.length
      · skip
        obtain ⟨g, o, eA, _⟩ := HX.out.line (by omega)
        subst eA
        have ex := List.getElem?_eq_getElem hlt
        generalize xs[k] = x at *
        have EX := Lib.hid ex
        have hok := okFrom_next xs k x ex
        have HOK := Lib.hid (HI.out.2.1.trans hok)
        clear ex hok
        have i0 : (0 : Int) ≤ (k : Int) := by omega
        have i1 : (k : Int) < (xs.length : Int) := by omega
        have hcc := spanCells (HX.out.chg HI.out.1 (by simp)) EX.out
        obtain ⟨p0, p1, p2⟩ := hcc
        have CW := Lib.hid HI.out.1
        obtain ⟨w2, hw2, cw2, b_B0⟩ := news1 w1 (.cells #[.int .i64 x.1, .int .i64 x.2.1, .int .i64 x.2.2] 65)
        have Ww2 := Lib.hid hw2
        have l_B0 := lt_of_heap b_B0
        replace CW := Lib.hid (CW.out.trans cw2)
        have B0 := Lib.hid (b_B0)
        clear hw2 cw2 b_B0
        go_upto_region 7 with fail
        rw [← Ww2.out]
        generalize w1.heap.size = b at *
        clear Ww2
        clear p0 p1 p2
        have z_B0_0 := cell_of B0.out 0
        have z_B0_1 := cell_of B0.out 1
        have z_B0_2 := cell_of B0.out 2
        simp only [List.getElem?_toArray, List.getElem?_cons_succ, List.getElem?_cons_zero] at z_B0_0 z_B0_1 z_B0_2
        by_cases f1 : x.1 < 1
        · have hd : decide (FineS x.1 x.2.1 x.2.2) = false := decide_eq_false (by unfold FineS; omega)
          have hv2 : ¬ okFrom none xs = true := by rw [HOK.out, hd]; simp
          have HV2 : V = 2 := HV.out.trans (if_neg hv2)
          subst HV2
          clear hv2 hd
          go_wp2
          go_ret
          exact ⟨rfl, CW.out⟩
        by_cases f2 : 200 < x.1
        · have hd : decide (FineS x.1 x.2.1 x.2.2) = false := decide_eq_false (by unfold FineS; omega)
          have hv2 : ¬ okFrom none xs = true := by rw [HOK.out, hd]; simp
          have HV2 : V = 2 := HV.out.trans (if_neg hv2)
          subst HV2
          clear hv2 hd
          go_wp2
          go_ret
          exact ⟨rfl, CW.out⟩
        by_cases f3 : x.2.1 < 1
        · have hd : decide (FineS x.1 x.2.1 x.2.2) = false := decide_eq_false (by unfold FineS; omega)
          have hv2 : ¬ okFrom none xs = true := by rw [HOK.out, hd]; simp
          have HV2 : V = 2 := HV.out.trans (if_neg hv2)
          subst HV2
          clear hv2 hd
          go_wp2
          go_ret
          exact ⟨rfl, CW.out⟩
        by_cases f4 : x.2.2 < x.2.1
        · have hd : decide (FineS x.1 x.2.1 x.2.2) = false := decide_eq_false (by unfold FineS; omega)
          have hv2 : ¬ okFrom none xs = true := by rw [HOK.out, hd]; simp
          have HV2 : V = 2 := HV.out.trans (if_neg hv2)
          subst HV2
          clear hv2 hd
          go_wp2
          go_ret
          exact ⟨rfl, CW.out⟩
        by_cases f5 : 2147483647 < x.2.2
        · have hd : decide (FineS x.1 x.2.1 x.2.2) = false := decide_eq_false (by unfold FineS; omega)
          have hv2 : ¬ okFrom none xs = true := by rw [HOK.out, hd]; simp
          have HV2 : V = 2 := HV.out.trans (if_neg hv2)
          subst HV2
          clear hv2 hd
          go_wp2
          go_ret
          exact ⟨rfl, CW.out⟩
        have hf : FineS x.1 x.2.1 x.2.2 := by unfold FineS; omega
        have HFN := Lib.hid hf
        have hd := decide_eq_true hf
        rw [hd] at HOK
        clear hd hf
        go_upto_region 9 with fail
        by_cases h0 : k = 0
        · subst h0
          go_quiet (fail)
          have e1 : prevS xs (0 + 1) = some x := by unfold prevS; rw [if_neg (by omega)]; exact EX.out
          have CE := Lib.hid (CW.out.drewN nq)
          go_wp2
          go_round
          case rel =>
            refine ⟨0 + 1, by omega, by go_num, CE.out, ?_, ?_⟩
            · rw [HOK.out]; simp [prevS]
            · rw [e1]; rintro y ⟨⟩; exact HFN.out
          case measure => simp [RowKit.intOf]; omega
        · have hk1 : k - 1 < xs.length := by omega
          have ey := List.getElem?_eq_getElem hk1
          generalize xs[k - 1] = y at *
          have ep : prevS xs k = some y := by unfold prevS; rw [if_neg h0]; exact ey
          have EY := Lib.hid ey
          have hfy := HI.out.2.2 y ep
          unfold FineS at hfy
          rw [ep] at HOK
          dsimp only at HOK
          clear ey ep
          have hcc := spanCells (HX.out.chg CW.out (by simp)) EY.out
          obtain ⟨p0, p1, p2⟩ := hcc
          have hk2 : ((k : Int) - 1) = ((k - 1 : Nat) : Int) := by omega
          have hk4 : ((k - 1 : Nat) : Int) < (xs.length : Int) := by omega
          have hk5 : (0 : Int) ≤ ((k - 1 : Nat) : Int) := by omega
          have hk6 : IntKind.i64.wrap ((k - 1 : Nat) : Int) = ((k - 1 : Nat) : Int) := IntWalk.i64_in _ (by omega)
          have hk7 : decide (0 < k) = true := by simp; omega
          have hk8 : IntKind.i64.wrap (y.2.2 + 1) = y.2.2 + 1 := IntWalk.i64_in _ (by omega)
          clear hfy
          by_cases g1 : x.1 < y.1
          · skip
            have hA : decide (ApartS y.1 y.2.2 x.1 x.2.1) = false := decide_eq_false (by unfold ApartS; omega)
            rw [hA] at HOK
            clear hA
            go_quiet (fail)
            have hv2 : ¬ okFrom none xs = true := by rw [HOK.out]; simp
            have HV2 : V = 2 := HV.out.trans (if_neg hv2)
            subst HV2
            clear hv2
            have CE := Lib.hid (CW.out.drewN nq)
            go_wp2
            go_ret
            exact ⟨rfl, CE.out⟩
          by_cases g2 : x.1 = y.1
          rotate_left
          · skip
            have hA : decide (ApartS y.1 y.2.2 x.1 x.2.1) = true := decide_eq_true (by unfold ApartS; omega)
            rw [hA] at HOK
            clear hA
            go_quiet (fail)
            have e1 : prevS xs (k + 1) = some x := by unfold prevS; rw [if_neg (by omega)]; exact EX.out
            have CE := Lib.hid (CW.out.drewN nq)
            go_wp2
            go_round
            case rel =>
              refine ⟨k + 1, by omega, by go_num, CE.out, ?_, ?_⟩
              · rw [HOK.out]; simp [e1]
              · rw [e1]; rintro y ⟨⟩; exact HFN.out
            case measure => simp [RowKit.intOf]; omega
          by_cases g3 : x.2.1 ≤ y.2.2 + 1
          · skip
            have hA : decide (ApartS y.1 y.2.2 x.1 x.2.1) = false := decide_eq_false (by unfold ApartS; omega)
            rw [hA] at HOK
            clear hA
            go_quiet (fail)
            have hv2 : ¬ okFrom none xs = true := by rw [HOK.out]; simp
            have HV2 : V = 2 := HV.out.trans (if_neg hv2)
            subst HV2
            clear hv2
            have CE := Lib.hid (CW.out.drewN nq)
            go_wp2
            go_ret
            exact ⟨rfl, CE.out⟩
          · skip
            have hA : decide (ApartS y.1 y.2.2 x.1 x.2.1) = true := decide_eq_true (by unfold ApartS; omega)
            rw [hA] at HOK
            clear hA
            go_quiet (fail)
            have e1 : prevS xs (k + 1) = some x := by unfold prevS; rw [if_neg (by omega)]; exact EX.out
            have CE := Lib.hid (CW.out.drewN nq)
            go_wp2
            go_round
            case rel =>
              refine ⟨k + 1, by omega, by go_num, CE.out, ?_, ?_⟩
              · rw [HOK.out]; simp [e1]
              · rw [e1]; rintro y ⟨⟩; exact HFN.out
            case measure => simp [RowKit.intOf]; omega
      · obtain rfl : k = xs.length := by omega
        have hv := HI.out.2.1
        rw [List.drop_length] at hv
        have hv2 : okFrom none xs = true := by rw [hv]; cases prevS xs xs.length <;> rfl
        have HV2 : V = 0 := HV.out.trans (if_pos hv2)
        subst HV2
        clear hv hv2
        go_wp2
        go_ret
        exact ⟨rfl, HI.out.1⟩
end Go.Proofs.Ytpgelolchfglbaa
