/- The document's Check of a past. The document's Join. past.Has: how a span lies to a dot. past.Has: a dot is looked for. past.Has. past: Count, Last. The document's Has, Count, Last. The document's Check of a dot, as the past sees it. The document's without. Sets of dots as lists of spans: how many dots they have, what is the last one, what is joined, left, within. Plain. The document's Minus. -/
import Derived.Test.YtgafkphhnlifiaaZpsb
import Derived.Deep.Cut
import Derived.Deep.QuietTactic
import Derived.BigQuiet
import Derived.Test.YtgafkphhnlifiaaZpsh
import Derived.RegionTactic
import Derived.Test.YtgafkphhnlifiaaZpsg
import Derived.Test.YtgafkphhnlifiaaZpse
namespace Go.Proofs.Ytgafkphhnlifiaa
section
open Go.RowKit Go.Lib
set_option linter.unusedSimpArgs false
set_option linter.unusedVariables false



set_option maxHeartbeats 8000000 in
set_option maxRecDepth 100000 in
theorem qacheck_any (w : World) (A : Option Addr) (n c : Nat) (xs : List (Int × Int × Int)) (h : RdK spanTy w A n xs) (hn : n ≤ 140737488351232) : Calls Try.prog 21 #[.slice A n c] w fun e w' => e = .returned (.int .i64 (chkS xs)) ∧ Chg [] w w' := by
  have go : ∀ v, chkS xs = v → Calls Try.prog 21 #[.slice A n c] w (fun e w' => e = .returned (.int .i64 v) ∧ Chg [] w w') → Calls Try.prog 21 #[.slice A n c] w fun e w' => e = .returned (.int .i64 (chkS xs)) ∧ Chg [] w w' := fun v hv h => hv ▸ h
  have hl := h.len
  subst hl
  by_cases hbig : 4000 < xs.length
  · refine go 2 (if_neg (by omega)) ?_
    clear go h
    go_enter Try.func21, Try.ntmps21
    go_wp2
    go_ret
    exact ⟨rfl, Chg.refl _ _⟩
  · skip
    have HX := Lib.hid h
    have hV : chkS xs = if okFrom none xs = true then 0 else 2 := by unfold chkS; by_cases ho : okFrom none xs = true <;> simp [ho] <;> omega
    have HV := Lib.hid hV
    clear h go
    generalize chkS xs = V at *
    clear hV
    go_enter Try.func21, Try.ntmps21
    go_wp2
    go_loopw [3] (fun i wr => ∃ (k : Nat), k ≤ xs.length ∧ i = .int .i64 k ∧ Hid (Chg [] w wr ∧ okFrom none xs = okFrom (prevS xs k) (xs.drop k) ∧ ∀ y, prevS xs k = some y → FineS y.1 y.2.1 y.2.2)) (fun i _ => xs.length - (RowKit.intOf i).toNat)
    case atStart => exact ⟨0, Nat.zero_le _, rfl, Chg.refl _ _, rfl, by unfold prevS; simp⟩
    case round =>
      obtain ⟨k, hk, rfl, HI⟩ := hrel
      generalize wr = w1 at *
      clear wr
      by_cases hlt : k < xs.length
      · skip
        obtain ⟨g, o, eA, _⟩ := HX.out.line (by omega)
        subst eA
        have ex := List.getElem?_eq_getElem hlt
        generalize xs[k] = x at *
        have EX := Lib.hid ex
        have hok := okFrom_next xs k x ex
        have HOK := Lib.hid (HI.out.2.1.trans hok)
        clear ex hok
        have i0 : (0 : Int) ≤ (k : Int) := by omega
        have i1 : (k : Int) < (xs.length : Int) := by omega
        have hcc := spanCells (HX.out.chg HI.out.1 (by simp)) EX.out
        obtain ⟨p0, p1, p2⟩ := hcc
        have CW := Lib.hid HI.out.1
        obtain ⟨w2, hw2, cw2, b_B0⟩ := news1 w1 (.cells #[.int .i64 x.1, .int .i64 x.2.1, .int .i64 x.2.2] 62)
        have Ww2 := Lib.hid hw2
        have l_B0 := lt_of_heap b_B0
        replace CW := Lib.hid (CW.out.trans cw2)
        have B0 := Lib.hid (b_B0)
        clear hw2 cw2 b_B0
        go_upto_region 7 with fail
        rw [← Ww2.out]
        generalize w1.heap.size = b at *
        clear Ww2
        clear p0 p1 p2
        have z_B0_0 := cell_of B0.out 0
        have z_B0_1 := cell_of B0.out 1
        have z_B0_2 := cell_of B0.out 2
        simp only [List.getElem?_toArray, List.getElem?_cons_succ, List.getElem?_cons_zero] at z_B0_0 z_B0_1 z_B0_2
        by_cases f1 : x.1 < 1
        · have hd : decide (FineS x.1 x.2.1 x.2.2) = false := decide_eq_false (by unfold FineS; omega)
          have hv2 : ¬ okFrom none xs = true := by rw [HOK.out, hd]; simp
          have HV2 : V = 2 := HV.out.trans (if_neg hv2)
          subst HV2
          clear hv2 hd
          go_wp2
          go_ret
          exact ⟨rfl, CW.out⟩
        by_cases f2 : 200 < x.1
        · have hd : decide (FineS x.1 x.2.1 x.2.2) = false := decide_eq_false (by unfold FineS; omega)
          have hv2 : ¬ okFrom none xs = true := by rw [HOK.out, hd]; simp
          have HV2 : V = 2 := HV.out.trans (if_neg hv2)
          subst HV2
          clear hv2 hd
          go_wp2
          go_ret
          exact ⟨rfl, CW.out⟩
        by_cases f3 : x.2.1 < 1
        · have hd : decide (FineS x.1 x.2.1 x.2.2) = false := decide_eq_false (by unfold FineS; omega)
          have hv2 : ¬ okFrom none xs = true := by rw [HOK.out, hd]; simp
          have HV2 : V = 2 := HV.out.trans (if_neg hv2)
          subst HV2
          clear hv2 hd
          go_wp2
          go_ret
          exact ⟨rfl, CW.out⟩
        by_cases f4 : x.2.2 < x.2.1
        · have hd : decide (FineS x.1 x.2.1 x.2.2) = false := decide_eq_false (by unfold FineS; omega)
          have hv2 : ¬ okFrom none xs = true := by rw [HOK.out, hd]; simp
          have HV2 : V = 2 := HV.out.trans (if_neg hv2)
          subst HV2
          clear hv2 hd
          go_wp2
          go_ret
          exact ⟨rfl, CW.out⟩
        by_cases f5 : 2147483647 < x.2.2
        · have hd : decide (FineS x.1 x.2.1 x.2.2) = false := decide_eq_false (by unfold FineS; omega)
          have hv2 : ¬ okFrom none xs = true := by rw [HOK.out, hd]; simp
          have HV2 : V = 2 := HV.out.trans (if_neg hv2)
          subst HV2
          clear hv2 hd
          go_wp2
          go_ret
          exact ⟨rfl, CW.out⟩
        have hf : FineS x.1 x.2.1 x.2.2 := by unfold FineS; omega
        have HFN := Lib.hid hf
        have hd := decide_eq_true hf
        rw [hd] at HOK
        clear hd hf
        go_upto_region 9 with fail
        by_cases h0 : k = 0
        · subst h0
          go_quiet (fail)
          have e1 : prevS xs (0 + 1) = some x := by unfold prevS; rw [if_neg (by omega)]; exact EX.out
          have CE := Lib.hid (CW.out.drewN nq)
          go_wp2
          go_round
          case rel =>
            refine ⟨0 + 1, by omega, by go_num, CE.out, ?_, ?_⟩
            · rw [HOK.out]; simp [prevS]
            · rw [e1]; rintro y ⟨⟩; exact HFN.out
          case measure => simp [RowKit.intOf]; omega
        · have hk1 : k - 1 < xs.length := by omega
          have ey := List.getElem?_eq_getElem hk1
          generalize xs[k - 1] = y at *
          have ep : prevS xs k = some y := by unfold prevS; rw [if_neg h0]; exact ey
          have EY := Lib.hid ey
          have hfy := HI.out.2.2 y ep
          unfold FineS at hfy
          rw [ep] at HOK
          dsimp only at HOK
          clear ey ep
          have hcc := spanCells (HX.out.chg CW.out (by simp)) EY.out
          obtain ⟨p0, p1, p2⟩ := hcc
          have hk2 : ((k : Int) - 1) = ((k - 1 : Nat) : Int) := by omega
          have hk4 : ((k - 1 : Nat) : Int) < (xs.length : Int) := by omega
          have hk5 : (0 : Int) ≤ ((k - 1 : Nat) : Int) := by omega
          have hk6 : IntKind.i64.wrap ((k - 1 : Nat) : Int) = ((k - 1 : Nat) : Int) := IntWalk.i64_in _ (by omega)
          have hk7 : decide (0 < k) = true := by simp; omega
          have hk8 : IntKind.i64.wrap (y.2.2 + 1) = y.2.2 + 1 := IntWalk.i64_in _ (by omega)
          clear hfy
          by_cases g1 : x.1 < y.1
          · skip
            have hA : decide (ApartS y.1 y.2.2 x.1 x.2.1) = false := decide_eq_false (by unfold ApartS; omega)
            rw [hA] at HOK
            clear hA
            go_quiet (fail)
            have hv2 : ¬ okFrom none xs = true := by rw [HOK.out]; simp
            have HV2 : V = 2 := HV.out.trans (if_neg hv2)
            subst HV2
            clear hv2
            have CE := Lib.hid (CW.out.drewN nq)
            go_wp2
            go_ret
            exact ⟨rfl, CE.out⟩
          by_cases g2 : x.1 = y.1
          rotate_left
          · skip
            have hA : decide (ApartS y.1 y.2.2 x.1 x.2.1) = true := decide_eq_true (by unfold ApartS; omega)
            rw [hA] at HOK
            clear hA
            go_quiet (fail)
            have e1 : prevS xs (k + 1) = some x := by unfold prevS; rw [if_neg (by omega)]; exact EX.out
            have CE := Lib.hid (CW.out.drewN nq)
            go_wp2
            go_round
            case rel =>
              refine ⟨k + 1, by omega, by go_num, CE.out, ?_, ?_⟩
              · rw [HOK.out]; simp [e1]
              · rw [e1]; rintro y ⟨⟩; exact HFN.out
            case measure => simp [RowKit.intOf]; omega
          by_cases g3 : x.2.1 ≤ y.2.2 + 1
          · skip
            have hA : decide (ApartS y.1 y.2.2 x.1 x.2.1) = false := decide_eq_false (by unfold ApartS; omega)
            rw [hA] at HOK
            clear hA
            go_quiet (fail)
            have hv2 : ¬ okFrom none xs = true := by rw [HOK.out]; simp
            have HV2 : V = 2 := HV.out.trans (if_neg hv2)
            subst HV2
            clear hv2
            have CE := Lib.hid (CW.out.drewN nq)
            go_wp2
            go_ret
            exact ⟨rfl, CE.out⟩
          · skip
            have hA : decide (ApartS y.1 y.2.2 x.1 x.2.1) = true := decide_eq_true (by unfold ApartS; omega)
            rw [hA] at HOK
            clear hA
            go_quiet (fail)
            have e1 : prevS xs (k + 1) = some x := by unfold prevS; rw [if_neg (by omega)]; exact EX.out
            have CE := Lib.hid (CW.out.drewN nq)
            go_wp2
            go_round
            case rel =>
              refine ⟨k + 1, by omega, by go_num, CE.out, ?_, ?_⟩
              · rw [HOK.out]; simp [e1]
              · rw [e1]; rintro y ⟨⟩; exact HFN.out
            case measure => simp [RowKit.intOf]; omega
      · obtain rfl : k = xs.length := by omega
        have hv := HI.out.2.1
        rw [List.drop_length] at hv
        have hv2 : okFrom none xs = true := by rw [hv]; cases prevS xs xs.length <;> rfl
        have HV2 : V = 0 := HV.out.trans (if_pos hv2)
        subst HV2
        clear hv hv2
        go_wp2
        go_ret
        exact ⟨rfl, HI.out.1⟩
end
section
open Go.RowKit Go.Lib
set_option linter.unusedSimpArgs false
set_option linter.unusedVariables false

set_option maxRecDepth 100000 in
set_option maxHeartbeats 8000000 in
theorem qjoin_any (w : World) (A : Option Addr) (c : Nat) (xs : List Sp) (B : Option Addr) (d : Nat) (ys : List Sp) (h : RdK spanTy w A xs.length xs) (h' : RdK spanTy w B ys.length ys) (hn : xs.length ≤ 140737488351232) (hm : ys.length ≤ 140737488351232) :
    Calls Try.prog 14 #[.slice A xs.length c, .slice B ys.length d] w fun e w' => ∃ A' c', e = .returned (.tuple #[.slice A' (joinE xs ys).2.length c', .int .i64 (joinE xs ys).1]) ∧ OwnK spanTy w' A' c' (joinE xs ys).2 ∧ (∀ a, A' = some a → w.heap.size ≤ a.block) ∧ Chg [] w w' := by
  have H := Lib.hid h
  have H' := Lib.hid h'
  have HN := Lib.hid hn
  have HM := Lib.hid hm
  clear h h' hn hm
  rcases chk_two xs with e1 | e1
  rotate_left
  · have EJ : Hid (joinE xs ys = (2, [])) := Lib.hid (by unfold joinE; rw [if_neg (by omega)])
    go_enter Try.func14, Try.ntmps14
    go_wp2_with fail
    refine (qacheck_any w A _ c xs H.out HN.out).mono ?_
    rintro e w2 ⟨rfl, hc⟩
    rw [e1]
    have C := Lib.hid hc
    clear hc
    go_wp2
    go_ret2
    rw [EJ.out]
    exact ⟨none, 0, rfl, OwnK.none_ _, by simp, C.out⟩
  rcases chk_two ys with e2 | e2
  rotate_left
  · have EJ : Hid (joinE xs ys = (2, [])) := Lib.hid (by unfold joinE; rw [if_neg (by omega)])
    go_enter Try.func14, Try.ntmps14
    go_wp2_with fail
    refine (qacheck_any w A _ c xs H.out HN.out).mono ?_
    rintro e w2 ⟨rfl, hc⟩
    rw [e1]
    have C := Lib.hid hc
    clear hc
    go_wp2_with fail
    refine (qacheck_any w2 B _ d ys (H'.out.chg C.out (by simp)) HM.out).mono ?_
    rintro e w3 ⟨rfl, hc⟩
    rw [e2]
    replace C := Lib.hid (C.out.trans hc)
    clear hc
    go_wp2
    go_ret2
    rw [EJ.out]
    exact ⟨none, 0, rfl, OwnK.none_ _, by simp, C.out⟩
  have EJ : Hid (joinE xs ys = boundP (tidyS (xs ++ ys))) := Lib.hid (by unfold joinE; rw [if_pos ⟨e1, e2⟩])
  have WX := wf_of_chk e1
  have WD := wf_of_chk e2
  have HL : Hid (xs.length ≤ 4000 ∧ ys.length ≤ 4000) := Lib.hid ⟨WX.2, WD.2⟩
  have HB : Hid (∀ x ∈ xs ++ ys, B3 x) := Lib.hid (fun x hx => by
    rcases List.mem_append.1 hx with q | q
    · have a := WX.1.2 x q; have b := WX.1.1.1 x q; unfold SpOk at b; unfold B3; omega
    · have a := WD.1.2 x q; have b := WD.1.1.1 x q; unfold SpOk at b; unfold B3; omega)
  clear WX WD
  rw [EJ.out]
  clear EJ
  generalize hRR : boundP (tidyS (xs ++ ys)) = RR
  have HRR := Lib.hid hRR
  clear hRR
  go_enter Try.func14, Try.ntmps14
  go_wp2_with fail
  refine (qacheck_any w A _ c xs H.out HN.out).mono ?_
  rintro e w2 ⟨rfl, hc⟩
  rw [e1]
  have C := Lib.hid hc
  clear hc
  go_wp2_with fail
  refine (qacheck_any w2 B _ d ys (H'.out.chg C.out (by simp)) HM.out).mono ?_
  rintro e w3 ⟨rfl, hc⟩
  rw [e2]
  replace C := Lib.hid (C.out.trans hc)
  clear hc e1 e2
  obtain ⟨w4, hw, cn, bn⟩ := news1 w3 (.cells #[] 62)
  have W4 := Lib.hid hw
  have EO := Lib.hid (own_emptyS bn)
  have SZ := Lib.hid (fun a (ha : (some ⟨w3.heap.size, 0, none⟩ : Option Addr) = some a) => (show w.heap.size ≤ a.block from by cases ha; exact C.out.size))
  replace C := Lib.hid (C.out.trans cn)
  have N1 : Hid ((0 + xs.length) * 400 ≤ 140737488355327) := Lib.hid (by have := HL.out; omega)
  have N2 : Hid ((xs.length + ys.length) * 400 ≤ 140737488355327) := Lib.hid (by have := HL.out; omega)
  clear hw cn bn
  go_wp2_with (first
    | (at_builtin; rw [← W4.out]; refine wpList_appK (R := spanTy) rfl (.tmp 14) (.tmp 15) rfl rfl (A := some ⟨w3.heap.size, 0, none⟩) (n := 0) (c := 0) (xs := []) EO.out rfl rfl (H.out.chg C.out (by simp)) N1.out ?_; rw [Nat.zero_add]; intro A5 c5 w5 o5 g5 e5; have O5 := Lib.hid o5; have F5 := Lib.hid (fresh_appS SZ.out C.out g5 e5); clear o5 g5 e5)
    | (at_builtin; refine wpList_appK (R := spanTy) rfl (.tmp 16) (.tmp 17) rfl rfl (A := A5) (n := xs.length) (c := c5) (xs := [] ++ xs) O5.out (by simp) rfl (H'.out.chg F5.out.2 (by simp)) N2.out ?_; intro A6 c6 w6 o6 g6 e6; have O6 := Lib.hid o6; have F6 := Lib.hid (fresh_appS F5.out.1 F5.out.2 g6 e6); clear o6 g6 e6))
  rw [List.nil_append] at O6
  have EL : xs.length + ys.length = (xs ++ ys).length := by simp
  rw [EL]
  refine (qtidy_any w6 A6 c6 (xs ++ ys) O6.out.reads (by have := HL.out; simp; omega) HB.out).mono ?_
  rintro e w9 ⟨A9, c9, rfl, h1, h2, h3⟩
  rw [HRR.out] at h1 ⊢
  have O9 := Lib.hid h1
  have N9 : Hid (∀ a, A9 = some a → w.heap.size ≤ a.block) := Lib.hid (fun a ha => by have := h2 a ha; have := F6.out.2.size; omega)
  replace C := Lib.hid (F6.out.2.trans h3)
  clear h1 h2 h3 EL
  go_wp2
  go_ret2
  exact ⟨A9, c9, rfl, O9.out, N9.out, C.out⟩
end
section
open Go.RowKit Go.Lib
set_option linter.unusedSimpArgs false
set_option linter.unusedVariables false
end
section
open Go.RowKit Go.Lib
set_option linter.unusedSimpArgs false
set_option linter.unusedVariables false
end
section
open Go.RowKit Go.Lib
set_option linter.unusedSimpArgs false
set_option linter.unusedVariables false
end
section
open Go.RowKit Go.Lib
set_option linter.unusedSimpArgs false
set_option linter.unusedVariables false


def Fin (xs : List Sp) : Prop := ∀ x ∈ xs, B3 x
theorem fin_of {xs : List Sp} (h : WfC xs) : Fin xs := fun x hx => by
  have := h.2 x hx
  have o := h.1.1 x hx
  unfold B3 SpOk at *
  omega
end
section
open Go.RowKit Go.Lib
set_option linter.unusedSimpArgs false
set_option linter.unusedVariables false
end
section
open Go.RowKit Go.Lib
set_option linter.unusedSimpArgs false
set_option linter.unusedVariables false


def FineQ (n s : Int) : Prop := 1 ≤ n ∧ n ≤ 200 ∧ 1 ≤ s ∧ s ≤ 2147483647
instance (n s : Int) : Decidable (FineQ n s) := by unfold FineQ; exact inferInstance
theorem chk_dot (n s : Int) : chkS [(n, s, s)] = if FineQ n s then 0 else 2 := by
  by_cases h : FineQ n s
  · rw [if_pos h]
    unfold FineQ at h
    refine chk_of_wf ⟨⟨fun x hx => ?_, List.pairwise_singleton _ _⟩, fun x hx => ?_⟩ (by simp)
    · cases List.mem_singleton.1 hx; unfold SpOk; simp
    · cases List.mem_singleton.1 hx; simp only; omega
  · rw [if_neg h]
    rcases chk_two [(n, s, s)] with e | e
    · have w := (wf_of_chk e).1.2 (n, s, s) (by simp)
      simp only at w
      exact absurd (by unfold FineQ; omega) h
    · exact e
set_option maxRecDepth 100000 in
set_option maxHeartbeats 4000000 in
theorem hcheck_dot (w : World) (n s : Int) : Calls Try.prog 48 #[.agg #[.int .i64 n, .int .i64 s]] w fun e w' => e = .returned (.int .i64 (chkS [(n, s, s)])) ∧ Chg [] w w' := by
  have go : ∀ v, chkS [(n, s, s)] = v → Calls Try.prog 48 #[.agg #[.int .i64 n, .int .i64 s]] w (fun e w' => e = .returned (.int .i64 v) ∧ Chg [] w w') → Calls Try.prog 48 #[.agg #[.int .i64 n, .int .i64 s]] w fun e w' => e = .returned (.int .i64 (chkS [(n, s, s)])) ∧ Chg [] w w' := fun v e h => by rw [e]; exact h
  have CD := chk_dot n s
  obtain ⟨w1, hw1, c1, b0⟩ := news1 w (.cells #[.int .i64 n, .int .i64 s] 37)
  have W1 := Lib.hid hw1
  have C1 := Lib.hid c1
  have z0 := cell_of b0 0
  have z1 := cell_of b0 1
  simp only [List.getElem?_toArray, List.getElem?_cons_succ, List.getElem?_cons_zero] at z0 z1
  clear hw1 c1 b0
  by_cases h1 : n < 1
  · skip
    refine go 2 (by rw [CD, if_neg (by unfold FineQ; omega)]) ?_
    clear go CD
    go_enter Try.func48, Try.ntmps48
    go_upto_region 1 with fail
    rw [← W1.out]
    generalize w.heap.size = g0 at *
    go_wp2
    go_ret
    exact ⟨rfl, C1.out⟩
  by_cases h2 : 200 < n
  · skip
    refine go 2 (by rw [CD, if_neg (by unfold FineQ; omega)]) ?_
    clear go CD
    go_enter Try.func48, Try.ntmps48
    go_upto_region 1 with fail
    rw [← W1.out]
    generalize w.heap.size = g0 at *
    go_wp2
    go_ret
    exact ⟨rfl, C1.out⟩
  by_cases h3 : s < 1
  · skip
    refine go 2 (by rw [CD, if_neg (by unfold FineQ; omega)]) ?_
    clear go CD
    go_enter Try.func48, Try.ntmps48
    go_upto_region 1 with fail
    rw [← W1.out]
    generalize w.heap.size = g0 at *
    go_wp2
    go_ret
    exact ⟨rfl, C1.out⟩
  by_cases h4 : 2147483647 < s
  · skip
    refine go 2 (by rw [CD, if_neg (by unfold FineQ; omega)]) ?_
    clear go CD
    go_enter Try.func48, Try.ntmps48
    go_upto_region 1 with fail
    rw [← W1.out]
    generalize w.heap.size = g0 at *
    go_wp2
    go_ret
    exact ⟨rfl, C1.out⟩
  refine go 0 (by rw [CD, if_pos (by unfold FineQ; omega)]) ?_
  clear go CD
  go_enter Try.func48, Try.ntmps48
  go_upto_region 1 with fail
  rw [← W1.out]
  generalize w.heap.size = g0 at *
  go_wp2
  go_ret
  exact ⟨rfl, C1.out⟩
end
section
open Go.RowKit Go.Lib
set_option linter.unusedSimpArgs false
set_option linter.unusedVariables false

theorem inblk {A : Option Addr} {k : Nat} (h : A.map (·.block) = some k) : k ∈ blkOf A := by
  cases A with
  | none => simp at h
  | some a => simp at h; subst h; exact mem_blkOf rfl
theorem wi_len (x y : Sp) : (wiP x y).length ≤ 2 := by
  unfold wiP
  split
  · simp
  · split <;> split <;> simp
theorem without_len {x : Sp} (hx : SpOk x) : ∀ {l : List Sp}, Norm l → (withoutP l x).length ≤ l.length + 1
  | [], _ => by simp [withoutP]
  | y :: l, h => by
    have hl : Norm l := ⟨fun z hz => h.1 z (by simp [hz]), (List.pairwise_cons.1 h.2).2⟩
    have ih := without_len hx hl
    have ap := (List.pairwise_cons.1 h.2).1
    have e : withoutP (y :: l) x = wiP x y ++ withoutP l x := by simp [withoutP]
    rw [e, List.length_append, List.length_cons]
    by_cases h2 : y.1 = x.1 ∧ y.2.1 < x.2.1 ∧ x.2.2 < y.2.2
    · have same : ∀ m : List Sp, (∀ z ∈ m, Ap y z) → withoutP m x = m := by
        intro m
        induction m with
        | nil => intro _; rfl
        | cons z m ih2 =>
          intro hm
          have hz := hm z (by simp)
          have q : wiP x z = [z] := by unfold wiP; rw [if_pos]; unfold Ap at hz; unfold SpOk at hx; omega
          show wiP x z ++ withoutP m x = z :: m
          rw [q, ih2 (fun u hu => hm u (by simp [hu]))]; rfl
      rw [same l ap]
      have := wi_len x y
      omega
    · have : (wiP x y).length ≤ 1 := by
        unfold wiP
        split
        · simp
        · split <;> split <;> simp <;> omega
      omega
theorem without_take {xs : List Sp} {k : Nat} {x y : Sp} (h : xs[k]? = some y) : withoutP (xs.take (k + 1)) x = withoutP (xs.take k) x ++ wiP x y := by
  rw [List.take_add_one, h]; simp [withoutP]
theorem without_len2 (x : Sp) : ∀ l : List Sp, (withoutP l x).length ≤ 2 * l.length
  | [] => by simp [withoutP]
  | y :: l => by
    have := without_len2 x l
    have := wi_len x y
    have e : withoutP (y :: l) x = wiP x y ++ withoutP l x := by simp [withoutP]
    rw [e, List.length_append, List.length_cons]; omega
set_option maxRecDepth 100000 in
set_option maxHeartbeats 8000000 in
theorem qwithout_any (w : World) (A : Option Addr) (c : Nat) (xs : List Sp) (x : Sp) (h : RdK spanTy w A xs.length xs) (hn : xs.length ≤ 100000) (hb : ∀ y ∈ xs, B3 y) (hx : B3 x) :
    Calls Try.prog 55 #[.slice A xs.length c, .agg #[.int .i64 x.1, .int .i64 x.2.1, .int .i64 x.2.2]] w fun e w' => ∃ A' c', e = .returned (.slice A' (withoutP xs x).length c') ∧ OwnK spanTy w' A' c' (withoutP xs x) ∧ (∀ a, A' = some a → w.heap.size ≤ a.block) ∧ Chg [] w w' := by
  obtain ⟨w0, hw0, c0, b0⟩ := news1 w (.cells #[.int .i64 x.1, .int .i64 x.2.1, .int .i64 x.2.2] 62)
  have W0 := Lib.hid hw0
  have C0 := Lib.hid c0
  have B0 := Lib.hid b0
  have HX := Lib.hid (h.chg c0 (by simp))
  have HN := Lib.hid hn
  have HB := Lib.hid hb
  have XB := Lib.hid hx
  clear hw0 c0 b0 h hn hb hx
  go_enter Try.func55, Try.ntmps55
  go_upto_region 1 with fail
  rw [← W0.out]
  generalize w.heap.size = g0 at *
  go_wp2
  go_loopw [5, 6] (fun o i wr => ∃ (k : Nat) (A' : Option Addr) (d : Nat), k ≤ xs.length ∧ i = .int .i64 k ∧ o = .slice A' (withoutP (xs.take k) x).length d ∧ Hid (OwnK spanTy wr A' d (withoutP (xs.take k) x)) ∧ Hid (∀ a, A' = some a → w0.heap.size ≤ a.block) ∧ Hid (Chg [] w0 wr)) (fun _ i _ => xs.length - (RowKit.intOf i).toNat)
  case atStart => exact ⟨0, none, 0, Nat.zero_le _, rfl, rfl, OwnK.none_ _, Lib.hid (by simp), Chg.refl _ _⟩
  case round =>
    obtain ⟨k, A1, d, hi, rfl, rfl, RO, RN, RC⟩ := hrel
    have i0 : (0 : Int) ≤ (k : Int) := by omega
    by_cases hlt : k < xs.length
    · have i1 : (k : Int) < (xs.length : Int) := by omega
      have i3 : IntKind.i64.wrap ((k : Int) + 1) = (k : Int) + 1 := IntWalk.i64_in _ (by have := HN.out; omega)
      obtain ⟨y, hy⟩ : ∃ y, xs[k]? = some y := ⟨_, List.getElem?_eq_getElem hlt⟩
      obtain ⟨g, o, eA, _⟩ := HX.out.line (by omega)
      subst eA
      have FS := Lib.hid (without_take (x := x) hy)
      have LN : Hid ((withoutP (xs.take k) x).length ≤ 200000) := Lib.hid (by have := without_len2 x (xs.take k); rw [List.length_take] at this; have := HN.out; omega)
      have YB := Lib.hid (HB.out y (List.mem_of_getElem? hy))
      generalize withoutP (xs.take k) x = out at *
      obtain ⟨q0, q1, q2⟩ := spanCells (HX.out.chg RC.out (by simp)) hy
      obtain ⟨wy, hwy, cy, by_⟩ := news1 wr (.cells #[.int .i64 y.1, .int .i64 y.2.1, .int .i64 y.2.2] 62)
      have WY := Lib.hid hwy
      obtain ⟨gy0, hgy⟩ : ∃ g, wr.heap.size = g := ⟨_, rfl⟩
      have GY := Lib.hid hgy
      have RLT : Hid (∀ u, A1 = some u → u.block < gy0) := Lib.hid (fun u hu => by rw [← hgy]; exact RO.out.lt u hu)
      rw [hgy] at by_
      clear hgy
      have z0 := cell_of by_ 0
      have z1 := cell_of by_ 1
      have z2 := cell_of by_ 2
      have CY := Lib.hid (RC.out.trans cy)
      have bx := CY.out.at_ B0.out (by simp)
      have x0 := cell_of bx 0
      have x1 := cell_of bx 1
      have x2 := cell_of bx 2
      have YY := Lib.hid by_
      replace RO := Lib.hid (RO.out.chg cy (by simp))
      have yb := YB.out
      have xb := XB.out
      unfold B3 at yb xb
      have e4 : IntKind.i64.wrap (x.2.1 - 1) = x.2.1 - 1 := IntWalk.i64_in _ (by omega)
      have e5 : IntKind.i64.wrap (x.2.2 + 1) = x.2.2 + 1 := IntWalk.i64_in _ (by omega)
      simp only [List.getElem?_toArray, List.getElem?_cons_succ, List.getElem?_cons_zero] at z0 z1 z2 x0 x1 x2
      have N4 : Hid ((out.length + 1) * 400 ≤ 140737488355327) := Lib.hid (by have := LN.out; omega)
      have N5 : Hid ((out.length + 1 + 1) * 400 ≤ 140737488355327) := Lib.hid (by have := LN.out; omega)
      have BLK : Hid (∀ z ∈ blkOf A1, z ≠ gy0) := Lib.hid (fun z hz => by obtain ⟨u, hu, rfl⟩ := of_blkOf hz; exact Nat.ne_of_lt (RLT.out u hu))
      clear hwy by_ cy bx yb xb hy
      go_upto_region 6 with fail
      rw [← WY.out]
      rw [GY.out]
      clear WY q0 q1 q2
      by_cases p1 : y.1 = x.1
      rotate_left
      · have p1b : ((y.1 == x.1) : Bool) = false := by simpa using p1
        have HW : Hid (wiP x y = [(y.1, y.2.1, y.2.2)]) := Lib.hid (by unfold wiP; rw [if_pos (by omega)])
        obtain ⟨n1, hw, cn, bn⟩ := news1 wy (.cells #[.int .i64 (y.1), .int .i64 (y.2.1), .int .i64 (y.2.2)] 62); have W_n1 := Lib.hid hw; have R_n1 := Lib.hid (rd_oneS (x := (y.1, y.2.1, y.2.2)) bn); have O_n1 := Lib.hid (RO.out.chg cn (by simp)); have C_n1 := Lib.hid (CY.out.trans cn); clear hw cn bn
        go_wp2_with (at_builtin; rw [← W_n1.out]; refine wpList_appK (R := spanTy) rfl (.tmp 37) (.tmp 39) rfl rfl (A := A1) O_n1.out rfl rfl R_n1.out N4.out ?_; intro A7 c7 w7 o_ g_ e_; have P7 := Lib.hid o_; have F7 := Lib.hid (fresh_appS RN.out C_n1.out g_ e_); clear o_ g_ e_)
        go_wp2
        go_round
        case rel => exact ⟨k + 1, A7, c7, by omega, by go_num, by (rw [FS.out, HW.out]) <;> first | rfl | (simp [List.length_append]; done) | (simp only [List.append_nil]; rfl), by (rw [FS.out, HW.out]); exact P7, Lib.hid F7.out.1, Lib.hid F7.out.2⟩
        case measure => simp [RowKit.intOf]; omega
      have p1b : ((y.1 == x.1) : Bool) = true := by simpa using p1
      have P1 := Lib.hid p1
      clear p1
      by_cases p2 : y.2.2 < x.2.1
      · skip
        have HW : Hid (wiP x y = [(x.1, y.2.1, y.2.2)]) := Lib.hid (by unfold wiP; rw [if_pos (by omega)]; exact congrArg (fun q => [q]) (Prod.ext P1.out rfl))
        obtain ⟨n1, hw, cn, bn⟩ := news1 wy (.cells #[.int .i64 (x.1), .int .i64 (y.2.1), .int .i64 (y.2.2)] 62); have W_n1 := Lib.hid hw; have R_n1 := Lib.hid (rd_oneS (x := (x.1, y.2.1, y.2.2)) bn); have O_n1 := Lib.hid (RO.out.chg cn (by simp)); have C_n1 := Lib.hid (CY.out.trans cn); clear hw cn bn
        go_wp2_with (at_builtin; rw [← W_n1.out]; refine wpList_appK (R := spanTy) rfl (.tmp 37) (.tmp 39) rfl rfl (A := A1) O_n1.out rfl rfl R_n1.out N4.out ?_; intro A7 c7 w7 o_ g_ e_; have P7 := Lib.hid o_; have F7 := Lib.hid (fresh_appS RN.out C_n1.out g_ e_); clear o_ g_ e_)
        go_wp2
        go_round
        case rel => exact ⟨k + 1, A7, c7, by omega, by go_num, by (rw [FS.out, HW.out]) <;> first | rfl | (simp [List.length_append]; done) | (simp only [List.append_nil]; rfl), by (rw [FS.out, HW.out]); exact P7, Lib.hid F7.out.1, Lib.hid F7.out.2⟩
        case measure => simp [RowKit.intOf]; omega
      by_cases p3 : x.2.2 < y.2.1
      · skip
        have HW : Hid (wiP x y = [(x.1, y.2.1, y.2.2)]) := Lib.hid (by unfold wiP; rw [if_pos (by omega)]; exact congrArg (fun q => [q]) (Prod.ext P1.out rfl))
        obtain ⟨n1, hw, cn, bn⟩ := news1 wy (.cells #[.int .i64 (x.1), .int .i64 (y.2.1), .int .i64 (y.2.2)] 62); have W_n1 := Lib.hid hw; have R_n1 := Lib.hid (rd_oneS (x := (x.1, y.2.1, y.2.2)) bn); have O_n1 := Lib.hid (RO.out.chg cn (by simp)); have C_n1 := Lib.hid (CY.out.trans cn); clear hw cn bn
        go_wp2_with (at_builtin; rw [← W_n1.out]; refine wpList_appK (R := spanTy) rfl (.tmp 37) (.tmp 39) rfl rfl (A := A1) O_n1.out rfl rfl R_n1.out N4.out ?_; intro A7 c7 w7 o_ g_ e_; have P7 := Lib.hid o_; have F7 := Lib.hid (fresh_appS RN.out C_n1.out g_ e_); clear o_ g_ e_)
        go_wp2
        go_round
        case rel => exact ⟨k + 1, A7, c7, by omega, by go_num, by (rw [FS.out, HW.out]) <;> first | rfl | (simp [List.length_append]; done) | (simp only [List.append_nil]; rfl), by (rw [FS.out, HW.out]); exact P7, Lib.hid F7.out.1, Lib.hid F7.out.2⟩
        case measure => simp [RowKit.intOf]; omega
      by_cases p4 : y.2.1 < x.2.1
      · by_cases p5 : x.2.2 < y.2.2
        · have HW : Hid (wiP x y = [(x.1, y.2.1, x.2.1 - 1)] ++ [(x.1, x.2.2 + 1, y.2.2)]) := Lib.hid (by unfold wiP; rw [if_neg (by have := P1.out; omega), if_pos p4, if_pos p5, P1.out])
          have Y1 := Lib.hid (fun w' (hc : Chg [] wy w') => hc.at_ YY.out (by simp))
          have X1 := Lib.hid (fun w' (hc : Chg [] w0 w') => hc.at_ B0.out (by simp))
          obtain ⟨n1, hw, cn, bn⟩ := news1 wy (.cells #[.int .i64 (x.1), .int .i64 (y.2.1), .int .i64 (x.2.1 - 1)] 62); have W_n1 := Lib.hid hw; have R_n1 := Lib.hid (rd_oneS (x := (x.1, y.2.1, x.2.1 - 1)) bn); have O_n1 := Lib.hid (RO.out.chg cn (by simp)); have C_n1 := Lib.hid (CY.out.trans cn); have C_q := Lib.hid cn; clear hw cn bn
          have D_n1 := Lib.hid (show Chg [] wy n1 from C_q.out)
          go_wp2_with (first | (at_builtin; rw [← W_n1.out]; refine wpList_appK (R := spanTy) rfl (.tmp 46) (.tmp 55) rfl rfl (A := A1) O_n1.out rfl rfl R_n1.out N4.out ?_; intro A7 c7 w7 o_ g_ e_; have P7 := Lib.hid o_; have F7 := Lib.hid (fresh_appS RN.out C_n1.out g_ e_); have D7 := Lib.hid ((D_n1.out.mono (S' := blkOf A1) (by simp)).trans ((Chg.refl (blkOf A1) n1).grown g_ (fun k hk => .inl (inblk hk)))); have yb := D7.out.at_ YY.out (fun hm => BLK.out _ hm rfl); have xb := F7.out.2.at_ B0.out (by simp); have z0 := cell_of yb 0; have z1 := cell_of yb 1; have z2 := cell_of yb 2; have x0 := cell_of xb 0; have x1 := cell_of xb 1; have x2 := cell_of xb 2; simp only [List.getElem?_toArray, List.getElem?_cons_succ, List.getElem?_cons_zero] at z0 z1 z2 x0 x1 x2; clear yb xb o_ g_ e_; obtain ⟨n2, hw, cn, bn⟩ := news1 w7 (.cells #[.int .i64 (x.1), .int .i64 (x.2.2 + 1), .int .i64 (y.2.2)] 62); have W_n2 := Lib.hid hw; have R_n2 := Lib.hid (rd_oneS (x := (x.1, x.2.2 + 1, y.2.2)) bn); have O_n2 := Lib.hid (P7.out.chg cn (by simp)); have C_n2 := Lib.hid (F7.out.2.trans cn); clear hw cn bn) | (at_builtin; rw [← W_n2.out]; refine wpList_appK (R := spanTy) rfl (.tmp 62) (.tmp 71) rfl rfl (A := A7) O_n2.out (show (out ++ [((x.1, y.2.1, x.2.1 - 1) : Sp)]).length = out.length + 1 from by simp) rfl R_n2.out N5.out ?_; intro A8 c8 w8 o_ g_ e_; have P8 := Lib.hid o_; have F8 := Lib.hid (fresh_appS F7.out.1 C_n2.out g_ e_); clear o_ g_ e_))
          go_wp2
          go_round
          case rel => exact ⟨k + 1, A8, c8, by omega, by go_num, by (rw [FS.out, HW.out, ← List.append_assoc]) <;> first | rfl | (simp [List.length_append]; done) | (simp only [List.append_nil]; rfl), by (rw [FS.out, HW.out, ← List.append_assoc]); exact P8, Lib.hid F8.out.1, Lib.hid F8.out.2⟩
          case measure => simp [RowKit.intOf]; omega
        · have HW : Hid (wiP x y = [(x.1, y.2.1, x.2.1 - 1)]) := Lib.hid (by unfold wiP; rw [if_neg (by have := P1.out; omega), if_pos p4, if_neg p5, P1.out]; rfl)
          have Y1 := Lib.hid (fun w' (hc : Chg [] wy w') => hc.at_ YY.out (by simp))
          obtain ⟨n1, hw, cn, bn⟩ := news1 wy (.cells #[.int .i64 (x.1), .int .i64 (y.2.1), .int .i64 (x.2.1 - 1)] 62); have W_n1 := Lib.hid hw; have R_n1 := Lib.hid (rd_oneS (x := (x.1, y.2.1, x.2.1 - 1)) bn); have O_n1 := Lib.hid (RO.out.chg cn (by simp)); have C_n1 := Lib.hid (CY.out.trans cn); have C_q := Lib.hid cn; clear hw cn bn
          have D_n1 := Lib.hid (show Chg [] wy n1 from C_q.out)
          go_wp2_with (at_builtin; rw [← W_n1.out]; refine wpList_appK (R := spanTy) rfl (.tmp 46) (.tmp 55) rfl rfl (A := A1) O_n1.out rfl rfl R_n1.out N4.out ?_; intro A7 c7 w7 o_ g_ e_; have P7 := Lib.hid o_; have F7 := Lib.hid (fresh_appS RN.out C_n1.out g_ e_); have D7 := Lib.hid ((D_n1.out.mono (S' := blkOf A1) (by simp)).trans ((Chg.refl (blkOf A1) n1).grown g_ (fun k hk => .inl (inblk hk)))); have yb := D7.out.at_ YY.out (fun hm => BLK.out _ hm rfl); have xb := F7.out.2.at_ B0.out (by simp); have z0 := cell_of yb 0; have z1 := cell_of yb 1; have z2 := cell_of yb 2; have x0 := cell_of xb 0; have x1 := cell_of xb 1; have x2 := cell_of xb 2; simp only [List.getElem?_toArray, List.getElem?_cons_succ, List.getElem?_cons_zero] at z0 z1 z2 x0 x1 x2; clear yb xb o_ g_ e_)
          go_wp2
          go_round
          case rel => exact ⟨k + 1, A7, c7, by omega, by go_num, by (rw [FS.out, HW.out]) <;> first | rfl | (simp [List.length_append]; done) | (simp only [List.append_nil]; rfl), by (rw [FS.out, HW.out]); exact P7, Lib.hid F7.out.1, Lib.hid F7.out.2⟩
          case measure => simp [RowKit.intOf]; omega
      · by_cases p5 : x.2.2 < y.2.2
        · have HW : Hid (wiP x y = [(x.1, x.2.2 + 1, y.2.2)]) := Lib.hid (by unfold wiP; rw [if_neg (by have := P1.out; omega), if_neg p4, if_pos p5, P1.out]; rfl)
          obtain ⟨n1, hw, cn, bn⟩ := news1 wy (.cells #[.int .i64 (x.1), .int .i64 (x.2.2 + 1), .int .i64 (y.2.2)] 62); have W_n1 := Lib.hid hw; have R_n1 := Lib.hid (rd_oneS (x := (x.1, x.2.2 + 1, y.2.2)) bn); have O_n1 := Lib.hid (RO.out.chg cn (by simp)); have C_n1 := Lib.hid (CY.out.trans cn); clear hw cn bn
          go_wp2_with (at_builtin; rw [← W_n1.out]; refine wpList_appK (R := spanTy) rfl (.tmp 62) (.tmp 71) rfl rfl (A := A1) O_n1.out rfl rfl R_n1.out N4.out ?_; intro A7 c7 w7 o_ g_ e_; have P7 := Lib.hid o_; have F7 := Lib.hid (fresh_appS RN.out C_n1.out g_ e_); clear o_ g_ e_)
          go_wp2
          go_round
          case rel => exact ⟨k + 1, A7, c7, by omega, by go_num, by (rw [FS.out, HW.out]) <;> first | rfl | (simp [List.length_append]; done) | (simp only [List.append_nil]; rfl), by (rw [FS.out, HW.out]); exact P7, Lib.hid F7.out.1, Lib.hid F7.out.2⟩
          case measure => simp [RowKit.intOf]; omega
        · have HW : Hid (wiP x y = []) := Lib.hid (by unfold wiP; rw [if_neg (by have := P1.out; omega), if_neg p4, if_neg p5]; rfl)
          go_wp2
          go_round
          case rel => exact ⟨k + 1, A1, d, by omega, by go_num, by (rw [FS.out, HW.out, List.append_nil]) <;> first | rfl | (simp [List.length_append]; done) | (simp only [List.append_nil]; rfl), by (rw [FS.out, HW.out, List.append_nil]); exact RO, RN, CY⟩
          case measure => simp [RowKit.intOf]; omega
    · obtain rfl : k = xs.length := by omega
      have i1 : ¬ (xs.length : Int) < (xs.length : Int) := by omega
      rw [List.take_length] at RO ⊢
      go_wp2
      go_ret
      exact ⟨A1, d, rfl, RO.out, fun a ha => Nat.le_trans C0.out.size (RN.out a ha), C0.out.trans RC.out⟩
end
section
set_option linter.unusedSimpArgs false
set_option linter.unusedVariables false

theorem wf_mem {xs : List Sp} (h : WfC xs) {n s : Int} (hm : Mem xs n s) : 1 ≤ n ∧ n ≤ 200 ∧ 1 ≤ s ∧ s ≤ 2147483647 := by
  obtain ⟨x, hx, e, l, r⟩ := hm
  have := h.2 x hx
  omega
theorem wf_sub {m : List Sp} (h : Norm m) (hb : ∀ n s, Mem m n s → 1 ≤ n ∧ n ≤ 200 ∧ 1 ≤ s ∧ s ≤ 2147483647) : WfC m :=
  ⟨h, fun x hx => by
    have o := h.1 x hx
    unfold SpOk at o
    have a := hb x.1 x.2.1 ⟨x, hx, rfl, Int.le_refl _, o⟩
    have b := hb x.1 x.2.2 ⟨x, hx, rfl, o, Int.le_refl _⟩
    omega⟩
theorem push_len (out : List Sp) (z : Sp) : (pushP out z).length ≤ out.length + 1 := by
  unfold pushP
  split <;> (try split) <;> simp <;> omega
theorem fold_len : ∀ (zs out : List Sp), (zs.foldl pushP out).length ≤ out.length + zs.length
  | [], out => by simp
  | z :: zs, out => by
    have h1 := fold_len zs (pushP out z)
    have h2 := push_len out z
    rw [List.foldl_cons, List.length_cons]
    omega
theorem tidy_len (l : List Sp) : (tidyS l).length ≤ l.length := by
  have := fold_len (riseS l) []
  rw [(rise_props l).2.2] at this
  simpa [tidyS] using this
theorem withouts_len : ∀ (b a : List Sp), (∀ x ∈ b, SpOk x) → Norm a → (b.foldl withoutP a).length ≤ a.length + b.length
  | [], a, _, _ => by simp
  | x :: b, a, hb, ha => by
    have hx := hb x (by simp)
    have h1 := withouts_len b (withoutP a x) (fun y hy => hb y (by simp [hy])) (without_norm hx ha).1
    have h2 := without_len hx ha
    rw [List.foldl_cons, List.length_cons]
    omega
theorem bound_le {l : List Sp} (h : l.length ≤ 4000) : boundP l = (0, l) := by unfold boundP; rw [if_neg (by omega)]
/-- What is joined of two short pasts. -/
theorem join_ok {a b : List Sp} (ha : chkS a = 0) (hb : chkS b = 0) (hl : a.length + b.length ≤ 4000) : joinE a b = (0, tidyS (a ++ b)) ∧ chkS (tidyS (a ++ b)) = 0 ∧ (tidyS (a ++ b)).length ≤ a.length + b.length ∧ ∀ n s, Mem (tidyS (a ++ b)) n s ↔ Mem a n s ∨ Mem b n s := by
  have wa := (wf_of_chk ha).1
  have wb := (wf_of_chk hb).1
  have t := tidy_norm (l := a ++ b) (fun x hx => by
    rcases List.mem_append.1 hx with q | q
    · exact wa.1.1 x q
    · exact wb.1.1 x q)
  have tl := tidy_len (a ++ b)
  rw [List.length_append] at tl
  have tm : ∀ n s, Mem (tidyS (a ++ b)) n s ↔ Mem a n s ∨ Mem b n s := fun n s => (t.2 n s).trans mem_append
  have wt : WfC (tidyS (a ++ b)) := wf_sub t.1 (fun n s h => by
    rcases (tm n s).1 h with q | q
    · exact wf_mem wa q
    · exact wf_mem wb q)
  refine ⟨?_, chk_of_wf wt (by omega), tl, tm⟩
  unfold joinE
  rw [if_pos ⟨ha, hb⟩, bound_le (by omega)]
theorem within_len {a b : List Sp} (ha : chkS a = 0) (hb : chkS b = 0) : withinE a b = decide ((b.foldl withoutP a).length = 0) := by
  unfold withinE
  rw [decide_eq_true (show chkS a = 0 ∧ chkS b = 0 from ⟨ha, hb⟩), Bool.true_and]
  exact decide_eq_decide.2 List.length_eq_zero_iff.symm
/-- What is left behind the first k spans of the second past. -/
theorem wouts_ok {a b : List Sp} (ha : WfC a) (hb : WfC b) (k : Nat) : WfC ((b.take k).foldl withoutP a) ∧ ((b.take k).foldl withoutP a).length ≤ a.length + b.length := by
  have hs : ∀ x ∈ b.take k, SpOk x := fun x hx => hb.1.1 x (List.mem_of_mem_take hx)
  have t := withouts_norm (b := b.take k) (a := a) hs ha.1
  have tl := withouts_len (b.take k) a hs ha.1
  rw [List.length_take] at tl
  exact ⟨wf_sub t.1 (fun n s h => wf_mem ha ((t.2 n s).1 h).1), by omega⟩
theorem wouts_succ {a b : List Sp} {k : Nat} {x : Sp} (h : b[k]? = some x) : (b.take (k + 1)).foldl withoutP a = withoutP ((b.take k).foldl withoutP a) x := by
  rw [List.take_add_one, h]
  simp
def aloneP (d : Int × Int) : Sp := (d.1, d.2, d.2)
def fineL (l : List (Int × Int)) : Bool := l.all (fun d => decide (FineQ d.1 d.2))
theorem fineL_iff {l : List (Int × Int)} : fineL l = true ↔ ∀ d ∈ l, FineQ d.1 d.2 := by
  unfold fineL
  rw [List.all_eq_true]
  exact ⟨fun h d hd => of_decide_eq_true (h d hd), fun h d hd => decide_eq_true (h d hd)⟩
def ofE (l : List (Int × Int)) : Int × List Sp := if fineL l = true then boundP (tidyS (l.map aloneP)) else (2, [])
theorem alone_mem {l : List (Int × Int)} {n s : Int} : Mem (l.map aloneP) n s ↔ (n, s) ∈ l := by
  unfold Mem
  constructor
  · rintro ⟨x, hx, h1, h2, h3⟩
    obtain ⟨d, hd, rfl⟩ := List.mem_map.1 hx
    have e : d = (n, s) := Prod.ext h1 (by have : d.2 ≤ s := h2; have : s ≤ d.2 := h3; show d.2 = s; omega)
    exact e ▸ hd
  · intro h
    exact ⟨(n, s, s), List.mem_map.2 ⟨(n, s), h, rfl⟩, rfl, Int.le_refl _, Int.le_refl _⟩
theorem alone_ok (l : List (Int × Int)) : ∀ x ∈ l.map aloneP, SpOk x := by
  intro x hx
  obtain ⟨d, hd, rfl⟩ := List.mem_map.1 hx
  exact Int.le_refl _
theorem alone_B3 {l : List (Int × Int)} (h : fineL l = true) : ∀ x ∈ l.map aloneP, B3 x := by
  intro x hx
  obtain ⟨d, hd, rfl⟩ := List.mem_map.1 hx
  have := fineL_iff.1 h d hd
  unfold FineQ at this
  unfold B3 aloneP
  simp only
  omega
theorem of_sorted {l m : List (Int × Int)} (hm : ∀ d, d ∈ m ↔ d ∈ l) (hs : m.Pairwise (fun x y => x.1 < y.1 ∨ x.1 = y.1 ∧ x.2 < y.2)) : (m.map aloneP).foldl pushP [] = tidyS (l.map aloneP) := by
  have t := tidy_norm (alone_ok l)
  have f := fold_norm (zs := m.map aloneP) (out := []) norm_nil (alone_ok m) (List.pairwise_map.2 (hs.imp (fun {x y} q => by unfold Le aloneP; simp only; omega))) (fun y z h => by simp at h)
  refine norm_ext f.1 t.1 (fun n s => ?_)
  rw [f.2 n s, t.2 n s, alone_mem, alone_mem, hm]
  exact ⟨fun q => q.resolve_left mem_nil, .inr⟩
end
section
open Go.RowKit Go.Lib
set_option linter.unusedSimpArgs false
set_option linter.unusedVariables false


set_option maxRecDepth 100000 in
set_option maxHeartbeats 8000000 in
theorem qminus_any (w : World) (A : Option Addr) (c : Nat) (xs : List Sp) (B : Option Addr) (d : Nat) (ys : List Sp) (h : RdK spanTy w A xs.length xs) (h' : RdK spanTy w B ys.length ys) (hn : xs.length ≤ 140737488351232) (hm : ys.length ≤ 140737488351232) :
    Calls Try.prog 16 #[.slice A xs.length c, .slice B ys.length d] w fun e w' => ∃ A' c', e = .returned (.tuple #[.slice A' (minusE xs ys).2.length c', .int .i64 (minusE xs ys).1]) ∧ OwnK spanTy w' A' c' (minusE xs ys).2 ∧ (∀ a, A' = some a → w.heap.size ≤ a.block) ∧ Chg [] w w' := by
  have H := Lib.hid h
  have H' := Lib.hid h'
  have HN := Lib.hid hn
  have HM := Lib.hid hm
  clear h h' hn hm
  rcases chk_two xs with e1 | e1
  rotate_left
  · have EJ : Hid (minusE xs ys = (2, [])) := Lib.hid (by unfold minusE; rw [if_neg (by omega)])
    go_enter Try.func16, Try.ntmps16
    go_wp2_with fail
    refine (qacheck_any w A _ c xs H.out HN.out).mono ?_
    rintro e w2 ⟨rfl, hc⟩
    rw [e1]
    have C := Lib.hid hc
    clear hc
    go_wp2
    go_ret2
    rw [EJ.out]
    exact ⟨none, 0, rfl, OwnK.none_ _, by simp, C.out⟩
  rcases chk_two ys with e2 | e2
  rotate_left
  · have EJ : Hid (minusE xs ys = (2, [])) := Lib.hid (by unfold minusE; rw [if_neg (by omega)])
    go_enter Try.func16, Try.ntmps16
    go_wp2_with fail
    refine (qacheck_any w A _ c xs H.out HN.out).mono ?_
    rintro e w2 ⟨rfl, hc⟩
    rw [e1]
    have C := Lib.hid hc
    clear hc
    go_wp2_with fail
    refine (qacheck_any w2 B _ d ys (H'.out.chg C.out (by simp)) HM.out).mono ?_
    rintro e w3 ⟨rfl, hc⟩
    rw [e2]
    replace C := Lib.hid (C.out.trans hc)
    clear hc
    go_wp2
    go_ret2
    rw [EJ.out]
    exact ⟨none, 0, rfl, OwnK.none_ _, by simp, C.out⟩
  have EJ : Hid (minusE xs ys = boundP (ys.foldl withoutP xs)) := Lib.hid (by unfold minusE; rw [if_pos ⟨e1, e2⟩])
  rw [EJ.out]
  clear EJ
  generalize hRR : boundP (ys.foldl withoutP xs) = RR
  have HRR := Lib.hid hRR
  clear hRR
  have WX := wf_of_chk e1
  have WD := wf_of_chk e2
  have WA := Lib.hid WX.1
  have WB := Lib.hid WD.1
  have HL : Hid (xs.length ≤ 4000 ∧ ys.length ≤ 4000) := Lib.hid ⟨WX.2, WD.2⟩
  have W1 := Lib.hid e1
  have W2 := Lib.hid e2
  clear WX WD
  go_enter Try.func16, Try.ntmps16
  go_wp2_with fail
  refine (qacheck_any w A _ c xs H.out HN.out).mono ?_
  rintro e w2 ⟨rfl, hc⟩
  rw [e1]
  have C := Lib.hid hc
  clear hc
  go_wp2_with fail
  refine (qacheck_any w2 B _ d ys (H'.out.chg C.out (by simp)) HM.out).mono ?_
  rintro e w3 ⟨rfl, hc⟩
  rw [e2]
  replace C := Lib.hid (C.out.trans hc)
  clear hc e1 e2
  obtain ⟨w4, hw, cn, bn⟩ := news1 w3 (.cells #[] 62)
  have W4 := Lib.hid hw
  have EO := Lib.hid (own_emptyS bn)
  have SZ := Lib.hid (fun a (ha : (some ⟨w3.heap.size, 0, none⟩ : Option Addr) = some a) => (show w.heap.size ≤ a.block from by cases ha; exact C.out.size))
  replace C := Lib.hid (C.out.trans cn)
  have N1 : Hid ((0 + xs.length) * 400 ≤ 140737488355327) := Lib.hid (by have := HL.out; omega)
  clear hw cn bn
  go_wp2_with (first
    | (at_builtin; rw [← W4.out]; refine wpList_appK (R := spanTy) rfl (.tmp 16) (.tmp 17) rfl rfl (A := some ⟨w3.heap.size, 0, none⟩) (n := 0) (c := 0) (xs := []) EO.out rfl rfl (H.out.chg C.out (by simp)) N1.out ?_; rw [Nat.zero_add]; intro A5 c5 w5 o5 g5 e5; have O5 := Lib.hid o5; have F5 := Lib.hid (fresh_appS SZ.out C.out g5 e5); clear o5 g5 e5))
  rw [List.nil_append] at O5
  clear W4 EO SZ
  go_loopw [6, 7] (fun o i wr => ∃ (k : Nat) (A' : Option Addr) (d' : Nat), k ≤ ys.length ∧ i = .int .i64 k ∧ o = .slice A' ((ys.take k).foldl withoutP xs).length d' ∧ Hid (OwnK spanTy wr A' d' ((ys.take k).foldl withoutP xs)) ∧ Hid (∀ a, A' = some a → w.heap.size ≤ a.block) ∧ Hid (Chg [] w wr)) (fun o i _ => ys.length - (RowKit.intOf i).toNat)
  case atStart => exact ⟨0, A5, c5, Nat.zero_le _, rfl, rfl, O5, Lib.hid F5.out.1, F5.out.2⟩
  case round =>
    obtain ⟨k, A1, d1, hi, rfl, rfl, RO, RN, RC⟩ := hrel
    have i0 : (0 : Int) ≤ (k : Int) := by omega
    by_cases hlt : k < ys.length
    · have i1 : (k : Int) < (ys.length : Int) := by omega
      have i3 : IntKind.i64.wrap ((k : Int) + 1) = (k : Int) + 1 := IntWalk.i64_in _ (by have := HL.out; omega)
      obtain ⟨y, hy⟩ : ∃ y, ys[k]? = some y := ⟨_, List.getElem?_eq_getElem hlt⟩
      obtain ⟨g, o, eA, _⟩ := H'.out.line (by omega)
      subst eA
      have FS := Lib.hid (wouts_succ (a := xs) hy)
      have WK := Lib.hid (wouts_ok WA.out WB.out k)
      have YB := Lib.hid (fin_of WB.out y (List.mem_of_getElem? hy))
      generalize (ys.take k).foldl withoutP xs = out at *
      obtain ⟨q0, q1, q2⟩ := spanCells (H'.out.chg RC.out (by simp)) hy
      clear hy
      go_wp2_with fail
      clear q0 q1 q2
      refine (qwithout_any wr A1 d1 out y RO.out.reads (by have := WK.out.2; have := HL.out; omega) (fin_of WK.out.1) YB.out).mono ?_
      rintro e w6 ⟨A7, c7, rfl, ho, hn, hc⟩
      have O7 := Lib.hid ho
      have N7 : Hid (∀ a, A7 = some a → w.heap.size ≤ a.block) := Lib.hid (fun a ha => Nat.le_trans RC.out.size (hn a ha))
      have C7 := Lib.hid (RC.out.trans hc)
      clear ho hn hc
      go_wp2
      go_round
      case rel => exact ⟨k + 1, A7, c7, by omega, by go_num, by rw [FS.out], by rw [FS.out]; exact O7, N7, C7⟩
      case measure => simp [RowKit.intOf]; omega
    · obtain rfl : k = ys.length := by omega
      have WK := Lib.hid (wouts_ok WA.out WB.out ys.length)
      rw [List.take_length] at WK RO ⊢
      have i1 : ¬ (ys.length : Int) < (ys.length : Int) := by omega
      generalize ys.foldl withoutP xs = out at *
      by_cases hb : 4000 < out.length
      · have hb1 : (4000 : Int) < (out.length : Int) := by omega
        obtain rfl : RR = (8, []) := by rw [← HRR.out]; unfold boundP; rw [if_pos hb]
        clear hb
        go_wp2
        go_ret2
        exact ⟨none, 0, rfl, OwnK.none_ _, by simp, RC.out⟩
      · have hb1 : ¬ (4000 : Int) < (out.length : Int) := by omega
        obtain rfl : RR = (0, out) := by rw [← HRR.out]; unfold boundP; rw [if_neg hb]
        clear hb
        go_wp2
        go_ret2
        exact ⟨A1, d1, rfl, RO.out, RN.out, RC.out⟩
end
end Go.Proofs.Ytgafkphhnlifiaa
