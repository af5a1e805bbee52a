/- The document's Check of a past. The document's Has, Count, Last. The document's ahead. The document's Check of a dot, as the past sees it. The kit's CopyEffect. The kit's CopyEvent. Rows of events; the kit's SameEvents. -/
import Derived.Test.YtfdaclifapfmdaaGreatDoorZcac
import Derived.Deep.Cut
import Derived.Deep.QuietTactic
import Derived.BigQuiet
import Derived.Test.YtfdaclifapfmdaaGreatDoorZcaf
import Derived.Test.YtfdaclifapfmdaaGreatDoorZcad
import Derived.RegionTactic
import Derived.Test.YtfdaclifapfmdaaGreatDoorZcaa
namespace Go.Proofs.YtfdaclifapfmdaaGreatDoor
section
open Go.RowKit Go.Lib
set_option linter.unusedSimpArgs false
set_option linter.unusedVariables false



set_option maxHeartbeats 8000000 in
set_option maxRecDepth 100000 in
theorem qacheck_any (w : World) (A : Option Addr) (n c : Nat) (xs : List (Int × Int × Int)) (h : RdK spanTy w A n xs) (hn : n ≤ 140737488351232) : Calls Tryz.prog 88 #[.slice A n c] w fun e w' => e = .returned (.int .i64 (chkS xs)) ∧ Chg [] w w' := by
  have go : ∀ v, chkS xs = v → Calls Tryz.prog 88 #[.slice A n c] w (fun e w' => e = .returned (.int .i64 v) ∧ Chg [] w w') → Calls Tryz.prog 88 #[.slice A n c] w fun e w' => e = .returned (.int .i64 (chkS xs)) ∧ Chg [] w w' := fun v hv h => hv ▸ h
  have hl := h.len
  subst hl
  by_cases hbig : 4000 < xs.length
  · refine go 2 (if_neg (by omega)) ?_
    clear go h
    go_enter Tryz.func88, Tryz.ntmps88
    go_wp2
    go_ret
    exact ⟨rfl, Chg.refl _ _⟩
  · skip
    have HX := Lib.hid h
    have hV : chkS xs = if okFrom none xs = true then 0 else 2 := by unfold chkS; by_cases ho : okFrom none xs = true <;> simp [ho] <;> omega
    have HV := Lib.hid hV
    clear h go
    generalize chkS xs = V at *
    clear hV
    go_enter Tryz.func88, Tryz.ntmps88
    go_wp2
    go_loopw [3] (fun i wr => ∃ (k : Nat), k ≤ xs.length ∧ i = .int .i64 k ∧ Hid (Chg [] w wr ∧ okFrom none xs = okFrom (prevS xs k) (xs.drop k) ∧ ∀ y, prevS xs k = some y → FineS y.1 y.2.1 y.2.2)) (fun i _ => xs.length - (RowKit.intOf i).toNat)
    case atStart => exact ⟨0, Nat.zero_le _, rfl, Chg.refl _ _, rfl, by unfold prevS; simp⟩
    case round =>
      obtain ⟨k, hk, rfl, HI⟩ := hrel
      generalize wr = w1 at *
      clear wr
      by_cases hlt : k < xs.length
      · skip
        obtain ⟨g, o, eA, _⟩ := HX.out.line (by omega)
        subst eA
        have ex := List.getElem?_eq_getElem hlt
        generalize xs[k] = x at *
        have EX := Lib.hid ex
        have hok := okFrom_next xs k x ex
        have HOK := Lib.hid (HI.out.2.1.trans hok)
        clear ex hok
        have i0 : (0 : Int) ≤ (k : Int) := by omega
        have i1 : (k : Int) < (xs.length : Int) := by omega
        have hcc := spanCells (HX.out.chg HI.out.1 (by simp)) EX.out
        obtain ⟨p0, p1, p2⟩ := hcc
        have CW := Lib.hid HI.out.1
        obtain ⟨w2, hw2, cw2, b_B0⟩ := news1 w1 (.cells #[.int .i64 x.1, .int .i64 x.2.1, .int .i64 x.2.2] 95)
        have Ww2 := Lib.hid hw2
        have l_B0 := lt_of_heap b_B0
        replace CW := Lib.hid (CW.out.trans cw2)
        have B0 := Lib.hid (b_B0)
        clear hw2 cw2 b_B0
        go_upto_region 7 with fail
        rw [← Ww2.out]
        generalize w1.heap.size = b at *
        clear Ww2
        clear p0 p1 p2
        have z_B0_0 := cell_of B0.out 0
        have z_B0_1 := cell_of B0.out 1
        have z_B0_2 := cell_of B0.out 2
        simp only [List.getElem?_toArray, List.getElem?_cons_succ, List.getElem?_cons_zero] at z_B0_0 z_B0_1 z_B0_2
        by_cases f1 : x.1 < 1
        · have hd : decide (FineS x.1 x.2.1 x.2.2) = false := decide_eq_false (by unfold FineS; omega)
          have hv2 : ¬ okFrom none xs = true := by rw [HOK.out, hd]; simp
          have HV2 : V = 2 := HV.out.trans (if_neg hv2)
          subst HV2
          clear hv2 hd
          go_wp2
          go_ret
          exact ⟨rfl, CW.out⟩
        by_cases f2 : 200 < x.1
        · have hd : decide (FineS x.1 x.2.1 x.2.2) = false := decide_eq_false (by unfold FineS; omega)
          have hv2 : ¬ okFrom none xs = true := by rw [HOK.out, hd]; simp
          have HV2 : V = 2 := HV.out.trans (if_neg hv2)
          subst HV2
          clear hv2 hd
          go_wp2
          go_ret
          exact ⟨rfl, CW.out⟩
        by_cases f3 : x.2.1 < 1
        · have hd : decide (FineS x.1 x.2.1 x.2.2) = false := decide_eq_false (by unfold FineS; omega)
          have hv2 : ¬ okFrom none xs = true := by rw [HOK.out, hd]; simp
          have HV2 : V = 2 := HV.out.trans (if_neg hv2)
          subst HV2
          clear hv2 hd
          go_wp2
          go_ret
          exact ⟨rfl, CW.out⟩
        by_cases f4 : x.2.2 < x.2.1
        · have hd : decide (FineS x.1 x.2.1 x.2.2) = false := decide_eq_false (by unfold FineS; omega)
          have hv2 : ¬ okFrom none xs = true := by rw [HOK.out, hd]; simp
          have HV2 : V = 2 := HV.out.trans (if_neg hv2)
          subst HV2
          clear hv2 hd
          go_wp2
          go_ret
          exact ⟨rfl, CW.out⟩
        by_cases f5 : 2147483647 < x.2.2
        · have hd : decide (FineS x.1 x.2.1 x.2.2) = false := decide_eq_false (by unfold FineS; omega)
          have hv2 : ¬ okFrom none xs = true := by rw [HOK.out, hd]; simp
          have HV2 : V = 2 := HV.out.trans (if_neg hv2)
          subst HV2
          clear hv2 hd
          go_wp2
          go_ret
          exact ⟨rfl, CW.out⟩
        have hf : FineS x.1 x.2.1 x.2.2 := by unfold FineS; omega
        have HFN := Lib.hid hf
        have hd := decide_eq_true hf
        rw [hd] at HOK
        clear hd hf
        go_upto_region 9 with fail
        by_cases h0 : k = 0
        · subst h0
          go_quiet (fail)
          have e1 : prevS xs (0 + 1) = some x := by unfold prevS; rw [if_neg (by omega)]; exact EX.out
          have CE := Lib.hid (CW.out.drewN nq)
          go_wp2
          go_round
          case rel =>
            refine ⟨0 + 1, by omega, by go_num, CE.out, ?_, ?_⟩
            · rw [HOK.out]; simp [prevS]
            · rw [e1]; rintro y ⟨⟩; exact HFN.out
          case measure => simp [RowKit.intOf]; omega
        · have hk1 : k - 1 < xs.length := by omega
          have ey := List.getElem?_eq_getElem hk1
          generalize xs[k - 1] = y at *
          have ep : prevS xs k = some y := by unfold prevS; rw [if_neg h0]; exact ey
          have EY := Lib.hid ey
          have hfy := HI.out.2.2 y ep
          unfold FineS at hfy
          rw [ep] at HOK
          dsimp only at HOK
          clear ey ep
          have hcc := spanCells (HX.out.chg CW.out (by simp)) EY.out
          obtain ⟨p0, p1, p2⟩ := hcc
          have hk2 : ((k : Int) - 1) = ((k - 1 : Nat) : Int) := by omega
          have hk4 : ((k - 1 : Nat) : Int) < (xs.length : Int) := by omega
          have hk5 : (0 : Int) ≤ ((k - 1 : Nat) : Int) := by omega
          have hk6 : IntKind.i64.wrap ((k - 1 : Nat) : Int) = ((k - 1 : Nat) : Int) := IntWalk.i64_in _ (by omega)
          have hk7 : decide (0 < k) = true := by simp; omega
          have hk8 : IntKind.i64.wrap (y.2.2 + 1) = y.2.2 + 1 := IntWalk.i64_in _ (by omega)
          clear hfy
          by_cases g1 : x.1 < y.1
          · skip
            have hA : decide (ApartS y.1 y.2.2 x.1 x.2.1) = false := decide_eq_false (by unfold ApartS; omega)
            rw [hA] at HOK
            clear hA
            go_quiet (fail)
            have hv2 : ¬ okFrom none xs = true := by rw [HOK.out]; simp
            have HV2 : V = 2 := HV.out.trans (if_neg hv2)
            subst HV2
            clear hv2
            have CE := Lib.hid (CW.out.drewN nq)
            go_wp2
            go_ret
            exact ⟨rfl, CE.out⟩
          by_cases g2 : x.1 = y.1
          rotate_left
          · skip
            have hA : decide (ApartS y.1 y.2.2 x.1 x.2.1) = true := decide_eq_true (by unfold ApartS; omega)
            rw [hA] at HOK
            clear hA
            go_quiet (fail)
            have e1 : prevS xs (k + 1) = some x := by unfold prevS; rw [if_neg (by omega)]; exact EX.out
            have CE := Lib.hid (CW.out.drewN nq)
            go_wp2
            go_round
            case rel =>
              refine ⟨k + 1, by omega, by go_num, CE.out, ?_, ?_⟩
              · rw [HOK.out]; simp [e1]
              · rw [e1]; rintro y ⟨⟩; exact HFN.out
            case measure => simp [RowKit.intOf]; omega
          by_cases g3 : x.2.1 ≤ y.2.2 + 1
          · skip
            have hA : decide (ApartS y.1 y.2.2 x.1 x.2.1) = false := decide_eq_false (by unfold ApartS; omega)
            rw [hA] at HOK
            clear hA
            go_quiet (fail)
            have hv2 : ¬ okFrom none xs = true := by rw [HOK.out]; simp
            have HV2 : V = 2 := HV.out.trans (if_neg hv2)
            subst HV2
            clear hv2
            have CE := Lib.hid (CW.out.drewN nq)
            go_wp2
            go_ret
            exact ⟨rfl, CE.out⟩
          · skip
            have hA : decide (ApartS y.1 y.2.2 x.1 x.2.1) = true := decide_eq_true (by unfold ApartS; omega)
            rw [hA] at HOK
            clear hA
            go_quiet (fail)
            have e1 : prevS xs (k + 1) = some x := by unfold prevS; rw [if_neg (by omega)]; exact EX.out
            have CE := Lib.hid (CW.out.drewN nq)
            go_wp2
            go_round
            case rel =>
              refine ⟨k + 1, by omega, by go_num, CE.out, ?_, ?_⟩
              · rw [HOK.out]; simp [e1]
              · rw [e1]; rintro y ⟨⟩; exact HFN.out
            case measure => simp [RowKit.intOf]; omega
      · obtain rfl : k = xs.length := by omega
        have hv := HI.out.2.1
        rw [List.drop_length] at hv
        have hv2 : okFrom none xs = true := by rw [hv]; cases prevS xs xs.length <;> rfl
        have HV2 : V = 0 := HV.out.trans (if_pos hv2)
        subst HV2
        clear hv hv2
        go_wp2
        go_ret
        exact ⟨rfl, HI.out.1⟩
end
section
open Go.RowKit Go.Lib
set_option linter.unusedSimpArgs false
set_option linter.unusedVariables false


/-- The document's: the greatest of a node's ends. -/
def lastM (node : Int) (xs : List Sp) : Int := xs.foldl (fun n x => if x.1 = node then max n x.2.2 else n) 0
theorem lastM_take {node : Int} {xs : List Sp} {k : Nat} {x : Sp} (hx : xs[k]? = some x) : lastM node (xs.take (k + 1)) = if x.1 = node then max (lastM node (xs.take k)) x.2.2 else lastM node (xs.take k) := by
  rw [List.take_add_one, hx]; simp [lastM]
theorem last_same (node : Int) : ∀ (k : Nat) (xs : List Sp), WfC xs → lastM node (xs.take k) = lastL node (xs.take k) ∧ (lastL node (xs.take k) = 0 ∨ ∃ y ∈ xs.take k, y.1 = node ∧ y.2.2 = lastL node (xs.take k))
  | 0, xs, _ => by simp [lastM, lastL]
  | k + 1, xs, h => by
    obtain ⟨a, b⟩ := last_same node k xs h
    by_cases hk : k < xs.length
    · have hx := List.getElem?_eq_getElem hk
      have e1 : lastL node (xs.take (k + 1)) = if xs[k].1 = node then xs[k].2.2 else lastL node (xs.take k) := by rw [List.take_add_one, hx]; exact last_snoc _ _ _
      rw [lastM_take hx, e1, a]
      have mem : ∀ y ∈ xs.take k, y ∈ xs.take (k + 1) := fun y hy => by rw [List.take_add_one]; exact List.mem_append_left _ hy
      split
      · rename_i hn
        have bx := h.2 xs[k] (List.getElem_mem hk)
        have ox := h.1.1 xs[k] (List.getElem_mem hk)
        unfold SpOk at ox
        have le : lastL node (xs.take k) ≤ xs[k].2.2 := by
          rcases b with e | ⟨y, hy, hy1, hy2⟩
          · rw [e]; omega
          · obtain ⟨q, hq, rfl⟩ := List.getElem_of_mem hy
            rw [List.length_take] at hq
            rw [List.getElem_take] at hy1 hy2
            have hap := List.pairwise_iff_getElem.1 h.1.2 q k (by omega) hk (by omega)
            have oy := h.1.1 xs[q] (List.getElem_mem (by omega))
            rw [← hy2]
            unfold Ap SpOk at *
            omega
        exact ⟨by omega, .inr ⟨xs[k], List.mem_of_getElem? (i := k) (by rw [List.getElem?_take, if_pos (Nat.lt_succ_self k)]; exact hx), hn, rfl⟩⟩
      · refine ⟨rfl, ?_⟩
        rcases b with e | ⟨y, hy, hy1, hy2⟩
        · exact .inl e
        · exact .inr ⟨y, mem y hy, hy1, hy2⟩
    · rw [List.take_of_length_le (by omega : xs.length ≤ k + 1), ← List.take_of_length_le (by omega : xs.length ≤ k)]
      exact ⟨a, b⟩
theorem last_all (node : Int) {xs : List Sp} (h : WfC xs) : lastM node xs = lastL node xs := by
  have := (last_same node xs.length xs h).1
  rwa [List.take_length] at this
set_option maxRecDepth 100000 in
set_option maxHeartbeats 8000000 in
theorem qlast_any (w : World) (A : Option Addr) (c : Nat) (xs : List Sp) (node : Int) (h : RdK spanTy w A xs.length xs) (hn : xs.length ≤ 140737488351232) :
    Calls Tryz.prog 89 #[.slice A xs.length c, .int .i64 node] w fun e w' => e = .returned (.int .i64 (if chkS xs = 0 then lastL node xs else 0)) ∧ Chg [] w w' := by
  have HX := Lib.hid h
  have HN := Lib.hid hn
  clear h hn
  rcases chk_two xs with e1 | e1
  · rw [if_pos e1]
    have WF := Lib.hid (wf_of_chk e1)
    go_enter Tryz.func89, Tryz.ntmps89
    go_wp2_with fail
    refine (qacheck_any w A _ c xs HX.out HN.out).mono ?_
    rintro e w1 ⟨rfl, h1⟩
    rw [e1]
    have C1 := Lib.hid h1
    replace HX := Lib.hid (HX.out.chg h1 (by simp))
    clear h1 e1
    go_wp2
    go_loopw [5, 6] (fun v5 v6 wr => ∃ (k : Nat), k ≤ xs.length ∧ v5 = .int .i64 (lastM node (xs.take k)) ∧ v6 = .int .i64 k ∧ Hid (Chg [] w1 wr)) (fun _ v6 _ => xs.length - (RowKit.intOf v6).toNat)
    case atStart => exact ⟨0, Nat.zero_le _, rfl, rfl, Chg.refl _ _⟩
    case round =>
      obtain ⟨k, hk, rfl, rfl, HI⟩ := hrel
      have i0 : (0 : Int) ≤ (k : Int) := by omega
      by_cases hlt : k < xs.length
      · have i1 : (k : Int) < (xs.length : Int) := by omega
        have i3 : IntKind.i64.wrap ((k : Int) + 1) = (k : Int) + 1 := IntWalk.i64_in _ (by have := HN.out; omega)
        obtain ⟨x, hx⟩ : ∃ x, xs[k]? = some x := ⟨_, List.getElem?_eq_getElem hlt⟩
        obtain ⟨g, o, eA, _⟩ := HX.out.line (by omega)
        subst eA
        obtain ⟨q0, q1, q2⟩ := spanCells (HX.out.chg HI.out (by simp)) hx
        have E2 := Lib.hid (lastM_take (node := node) hx)
        generalize lastM node (xs.take k) = m at *
        clear hx
        by_cases hnode : x.1 = node
        · have EQ := Lib.hid (show lastM node (xs.take (k + 1)) = max m x.2.2 by rw [E2.out, if_pos hnode])
          have q : ((x.1 == node) : Bool) = true := by simpa using hnode
          clear hnode E2
          go_wp2
          all_goals
            go_round
            case rel => exact ⟨k + 1, by omega, by (rw [EQ.out]) <;> (congr 1) <;> omega, by go_num, HI.out⟩
            case measure => simp [RowKit.intOf]; omega
        · have EQ := Lib.hid (show lastM node (xs.take (k + 1)) = m by rw [E2.out, if_neg hnode])
          have q : ((x.1 == node) : Bool) = false := by simpa using hnode
          clear hnode E2
          go_wp2
          go_round
          case rel => exact ⟨k + 1, by omega, by rw [EQ.out], by go_num, HI.out⟩
          case measure => simp [RowKit.intOf]; omega
      · obtain rfl : k = xs.length := by omega
        rw [show xs.take xs.length = xs from List.take_length, last_all node WF.out.1]
        have i1 : ¬ (xs.length : Int) < (xs.length : Int) := by omega
        go_wp2
        go_ret
        exact ⟨rfl, C1.out.trans HI.out⟩
  · rw [if_neg (by omega)]
    go_enter Tryz.func89, Tryz.ntmps89
    go_wp2_with fail
    refine (qacheck_any w A _ c xs HX.out HN.out).mono ?_
    rintro e w1 ⟨rfl, h1⟩
    rw [e1]
    have C1 := Lib.hid h1
    clear h1
    go_wp2
    go_ret
    exact ⟨rfl, C1.out⟩
set_option maxRecDepth 100000 in
set_option maxHeartbeats 8000000 in
theorem qhas_any (w : World) (A : Option Addr) (c : Nat) (xs : List Sp) (n s : Int) (h : RdK spanTy w A xs.length xs) (hn : xs.length ≤ 140737488351232) :
    Calls Tryz.prog 90 #[.slice A xs.length c, .agg #[.int .i64 n, .int .i64 s]] w fun e w' => e = .returned (.bool (hasE xs n s)) ∧ Chg [] w w' := by
  have HX := Lib.hid h
  have HN := Lib.hid hn
  clear h hn
  obtain ⟨w0, hw0, c0, b0⟩ := news1 w (.cells #[.int .i64 n, .int .i64 s] 23)
  have W0 := Lib.hid hw0
  have C0 := Lib.hid c0
  have B0 := Lib.hid b0
  replace HX := Lib.hid (HX.out.chg c0 (by simp))
  clear hw0 c0 b0
  rcases chk_two xs with e1 | e1
  · have eH : hasE xs n s = decide (Mem xs n s) := by unfold hasE; rw [decide_eq_true e1]; rfl
    rw [eH]
    clear eH
    go_enter Tryz.func90, Tryz.ntmps90
    go_wp2_with fail
    rw [← W0.out]
    generalize w.heap.size = g0 at *
    refine (qacheck_any w0 A _ c xs HX.out HN.out).mono ?_
    rintro e w1 ⟨rfl, h1⟩
    rw [e1]
    have C1 := Lib.hid h1
    replace HX := Lib.hid (HX.out.chg h1 (by simp))
    replace B0 := Lib.hid (h1.at_ B0.out (by simp))
    clear h1 e1
    go_wp2
    go_loopw [5] (fun v5 wr => ∃ (k : Nat), k ≤ xs.length ∧ v5 = .int .i64 k ∧ Hid (¬ Mem (xs.take k) n s) ∧ Hid (Chg [] w1 wr)) (fun v5 _ => xs.length - (RowKit.intOf v5).toNat)
    case atStart => exact ⟨0, Nat.zero_le _, rfl, Lib.hid (by simpa using mem_nil), Chg.refl _ _⟩
    case round =>
      obtain ⟨k, hk, rfl, NM, HI⟩ := hrel
      have i0 : (0 : Int) ≤ (k : Int) := by omega
      by_cases hlt : k < xs.length
      · have i1 : (k : Int) < (xs.length : Int) := by omega
        have i3 : IntKind.i64.wrap ((k : Int) + 1) = (k : Int) + 1 := IntWalk.i64_in _ (by have := HN.out; omega)
        obtain ⟨x, hx⟩ : ∃ x, xs[k]? = some x := ⟨_, List.getElem?_eq_getElem hlt⟩
        obtain ⟨g, o, eA, _⟩ := HX.out.line (by omega)
        subst eA
        obtain ⟨q0, q1, q2⟩ := spanCells (HX.out.chg HI.out (by simp)) hx
        have b2 := HI.out.at_ B0.out (by simp)
        have d0 := cell_of b2 0
        have d1 := cell_of b2 1
        simp only [List.getElem?_toArray, List.getElem?_cons_succ, List.getElem?_cons_zero] at d0 d1
        have NX : Hid (¬ InS x n s → ¬ Mem (xs.take (k + 1)) n s) := Lib.hid (fun hni hm => by
          rw [List.take_add_one, hx] at hm
          rcases mem_append.1 hm with q | q
          · exact NM.out q
          · exact hni (mem_one.1 q))
        have YX : Hid (InS x n s → decide (Mem xs n s) = true) := Lib.hid (fun hi => decide_eq_true ⟨x, List.mem_of_getElem? hx, hi⟩)
        clear hx b2
        by_cases p1 : x.1 = n
        rotate_left
        · have NO := Lib.hid (NX.out (fun hi => p1 hi.1))
          have q : ((x.1 == n) : Bool) = false := by simpa using p1
          clear p1 NX YX
          go_upto_region 6 with fail
          go_quiet (fail)
          have hq := (Chg.refl [] wr).drewN nq
          generalize wr.drewN nq = w2 at *
          have C2 := Lib.hid (HI.out.trans hq)
          clear q0 q1 q2 d0 d1 hq
          go_wp2
          go_round
          case rel => exact ⟨k + 1, by omega, by go_num, NO, C2.out⟩
          case measure => simp [RowKit.intOf]; omega
        by_cases p2 : x.2.1 ≤ s
        rotate_left
        · have NO := Lib.hid (NX.out (fun hi => p2 hi.2.1))
          have q : ((x.1 == n) : Bool) = true := by simpa using p1
          clear p1 NX YX
          go_upto_region 6 with fail
          go_quiet (fail)
          have hq := (Chg.refl [] wr).drewN nq
          generalize wr.drewN nq = w2 at *
          have C2 := Lib.hid (HI.out.trans hq)
          clear q0 q1 q2 d0 d1 hq
          go_wp2
          go_round
          case rel => exact ⟨k + 1, by omega, by go_num, NO, C2.out⟩
          case measure => simp [RowKit.intOf]; omega
        by_cases p3 : s ≤ x.2.2
        rotate_left
        · have NO := Lib.hid (NX.out (fun hi => p3 hi.2.2))
          have q : ((x.1 == n) : Bool) = true := by simpa using p1
          clear p1 NX YX
          go_upto_region 6 with fail
          go_quiet (fail)
          have hq := (Chg.refl [] wr).drewN nq
          generalize wr.drewN nq = w2 at *
          have C2 := Lib.hid (HI.out.trans hq)
          clear q0 q1 q2 d0 d1 hq
          go_wp2
          go_round
          case rel => exact ⟨k + 1, by omega, by go_num, NO, C2.out⟩
          case measure => simp [RowKit.intOf]; omega
        have YES := Lib.hid (YX.out ⟨p1, p2, p3⟩)
        have q : ((x.1 == n) : Bool) = true := by simpa using p1
        clear p1 NX YX
        go_upto_region 6 with fail
        go_quiet (fail)
        have hq := (Chg.refl [] wr).drewN nq
        generalize wr.drewN nq = w2 at *
        have C2 := Lib.hid (HI.out.trans hq)
        clear q0 q1 q2 d0 d1 hq
        go_wp2
        go_ret
        exact ⟨(by first | exact of_decide_eq_true YES.out | exact (of_decide_eq_true YES.out : Mem xs n s) | (rw [YES.out]; rfl)), C0.out.trans (C1.out.trans C2.out)⟩
      · obtain rfl : k = xs.length := by omega
        have NO : Hid (decide (Mem xs n s) = false) := Lib.hid (by have := NM.out; rw [List.take_length] at this; exact decide_eq_false this)
        have i1 : ¬ (xs.length : Int) < (xs.length : Int) := by omega
        go_wp2
        go_ret
        exact ⟨(by first | exact of_decide_eq_false NO.out | (rw [NO.out]; rfl)), C0.out.trans (C1.out.trans HI.out)⟩
  · have eH : hasE xs n s = false := by unfold hasE; rw [decide_eq_false (by omega)]; rfl
    rw [eH]
    clear eH
    go_enter Tryz.func90, Tryz.ntmps90
    go_wp2_with fail
    rw [← W0.out]
    generalize w.heap.size = g0 at *
    refine (qacheck_any w0 A _ c xs HX.out HN.out).mono ?_
    rintro e w1 ⟨rfl, h1⟩
    rw [e1]
    have C1 := Lib.hid h1
    clear h1
    go_wp2
    go_ret
    exact ⟨rfl, C0.out.trans C1.out⟩
end
section
open Go.RowKit Go.Lib
set_option linter.unusedSimpArgs false
set_option linter.unusedVariables false
end
section
open Go.RowKit Go.Lib
set_option linter.unusedSimpArgs false
set_option linter.unusedVariables false


def FineQ (n s : Int) : Prop := 1 ≤ n ∧ n ≤ 200 ∧ 1 ≤ s ∧ s ≤ 2147483647
instance (n s : Int) : Decidable (FineQ n s) := by unfold FineQ; exact inferInstance
theorem chk_dot (n s : Int) : chkS [(n, s, s)] = if FineQ n s then 0 else 2 := by
  by_cases h : FineQ n s
  · rw [if_pos h]
    unfold FineQ at h
    refine chk_of_wf ⟨⟨fun x hx => ?_, List.pairwise_singleton _ _⟩, fun x hx => ?_⟩ (by simp)
    · cases List.mem_singleton.1 hx; unfold SpOk; simp
    · cases List.mem_singleton.1 hx; simp only; omega
  · rw [if_neg h]
    rcases chk_two [(n, s, s)] with e | e
    · have w := (wf_of_chk e).1.2 (n, s, s) (by simp)
      simp only at w
      exact absurd (by unfold FineQ; omega) h
    · exact e
set_option maxRecDepth 100000 in
set_option maxHeartbeats 4000000 in
theorem hcheck_dot (w : World) (n s : Int) : Calls Tryz.prog 85 #[.agg #[.int .i64 n, .int .i64 s]] w fun e w' => e = .returned (.int .i64 (chkS [(n, s, s)])) ∧ Chg [] w w' := by
  have go : ∀ v, chkS [(n, s, s)] = v → Calls Tryz.prog 85 #[.agg #[.int .i64 n, .int .i64 s]] w (fun e w' => e = .returned (.int .i64 v) ∧ Chg [] w w') → Calls Tryz.prog 85 #[.agg #[.int .i64 n, .int .i64 s]] w fun e w' => e = .returned (.int .i64 (chkS [(n, s, s)])) ∧ Chg [] w w' := fun v e h => by rw [e]; exact h
  have CD := chk_dot n s
  obtain ⟨w1, hw1, c1, b0⟩ := news1 w (.cells #[.int .i64 n, .int .i64 s] 23)
  have W1 := Lib.hid hw1
  have C1 := Lib.hid c1
  have z0 := cell_of b0 0
  have z1 := cell_of b0 1
  simp only [List.getElem?_toArray, List.getElem?_cons_succ, List.getElem?_cons_zero] at z0 z1
  clear hw1 c1 b0
  by_cases h1 : n < 1
  · skip
    refine go 2 (by rw [CD, if_neg (by unfold FineQ; omega)]) ?_
    clear go CD
    go_enter Tryz.func85, Tryz.ntmps85
    go_upto_region 1 with fail
    rw [← W1.out]
    generalize w.heap.size = g0 at *
    go_wp2
    go_ret
    exact ⟨rfl, C1.out⟩
  by_cases h2 : 200 < n
  · skip
    refine go 2 (by rw [CD, if_neg (by unfold FineQ; omega)]) ?_
    clear go CD
    go_enter Tryz.func85, Tryz.ntmps85
    go_upto_region 1 with fail
    rw [← W1.out]
    generalize w.heap.size = g0 at *
    go_wp2
    go_ret
    exact ⟨rfl, C1.out⟩
  by_cases h3 : s < 1
  · skip
    refine go 2 (by rw [CD, if_neg (by unfold FineQ; omega)]) ?_
    clear go CD
    go_enter Tryz.func85, Tryz.ntmps85
    go_upto_region 1 with fail
    rw [← W1.out]
    generalize w.heap.size = g0 at *
    go_wp2
    go_ret
    exact ⟨rfl, C1.out⟩
  by_cases h4 : 2147483647 < s
  · skip
    refine go 2 (by rw [CD, if_neg (by unfold FineQ; omega)]) ?_
    clear go CD
    go_enter Tryz.func85, Tryz.ntmps85
    go_upto_region 1 with fail
    rw [← W1.out]
    generalize w.heap.size = g0 at *
    go_wp2
    go_ret
    exact ⟨rfl, C1.out⟩
  refine go 0 (by rw [CD, if_pos (by unfold FineQ; omega)]) ?_
  clear go CD
  go_enter Tryz.func85, Tryz.ntmps85
  go_upto_region 1 with fail
  rw [← W1.out]
  generalize w.heap.size = g0 at *
  go_wp2
  go_ret
  exact ⟨rfl, C1.out⟩
end
section
open Go.RowKit Go.Lib
set_option linter.unusedSimpArgs false
set_option linter.unusedVariables false


set_option maxHeartbeats 4000000 in
theorem set3_2 {w w0 : World} {z : Nat} {s0 s1 : Nat} {a0 a1 a2 : Value} {T : TypeId} {o : Obj} (v2 : Value) (q0 : w.heap[s0]? = some (.cells #[a0, a1, a2] T (0, 0))) (q1 : w.heap[s1]? = some o) (h : s0 ≠ s1) (hz : z ≤ s0) (C : Chg [] w0 w) (hw0 : w0.heap.size = z) :
    (w.setCell ⟨s0, 2, none⟩ v2).heap[s0]? = some (.cells #[a0, a1, v2] T (0, 0)) ∧ (w.setCell ⟨s0, 2, none⟩ v2).heap[s1]? = some o ∧ Chg [] w0 (w.setCell ⟨s0, 2, none⟩ v2) := by
  have p0 := heap_setCell_same _ s0 2 _ _ v2 q0
  refine ⟨p0, ?_, ?_⟩
  · rw [Below.heap_setCell _ _ _ _ (by simp; exact fun e => h e.symm)]
    exact q1
  · exact (C.put (by omega) 2 v2)
set_option maxHeartbeats 4000000 in
theorem set3_all {w w0 : World} {z : Nat} {s0 s1 : Nat} {a0 a1 a2 : Value} {T : TypeId} {o : Obj} (v0 v1 v2 : Value) (q0 : w.heap[s0]? = some (.cells #[a0, a1, a2] T (0, 0))) (q1 : w.heap[s1]? = some o) (h : s0 ≠ s1) (hz : z ≤ s0) (C : Chg [] w0 w) (hw0 : w0.heap.size = z) :
    (((w.setCell ⟨s0, 0, none⟩ v0).setCell ⟨s0, 1, none⟩ v1).setCell ⟨s0, 2, none⟩ v2).heap[s0]? = some (.cells #[v0, v1, v2] T (0, 0)) ∧ (((w.setCell ⟨s0, 0, none⟩ v0).setCell ⟨s0, 1, none⟩ v1).setCell ⟨s0, 2, none⟩ v2).heap[s1]? = some o ∧ Chg [] w0 (((w.setCell ⟨s0, 0, none⟩ v0).setCell ⟨s0, 1, none⟩ v1).setCell ⟨s0, 2, none⟩ v2) := by
  have p0 := heap_setCell_same _ s0 0 _ _ v0 q0
  have p1 := heap_setCell_same _ s0 1 _ _ v1 p0
  have p2 := heap_setCell_same _ s0 2 _ _ v2 p1
  refine ⟨p2, ?_, ?_⟩
  · rw [Below.heap_setCell _ _ _ _ (by simp; exact fun e => h e.symm), Below.heap_setCell _ _ _ _ (by simp; exact fun e => h e.symm), Below.heap_setCell _ _ _ _ (by simp; exact fun e => h e.symm)]
    exact q1
  · exact (((C.put (by omega) 0 v0).put (by omega) 1 v1).put (by omega) 2 v2)
set_option maxHeartbeats 4000000 in
theorem set7_3 {w w0 : World} {z : Nat} {s0 s1 : Nat} {a0 a1 a2 a3 a4 a5 a6 : Value} {T : TypeId} {o : Obj} (v3 v4 v5 : Value) (q0 : w.heap[s0]? = some (.cells #[a0, a1, a2, a3, a4, a5, a6] T (0, 0))) (q1 : w.heap[s1]? = some o) (h : s0 ≠ s1) (hz : z ≤ s0) (C : Chg [] w0 w) (hw0 : w0.heap.size = z) :
    (((w.setCell ⟨s0, 3, none⟩ v3).setCell ⟨s0, 4, none⟩ v4).setCell ⟨s0, 5, none⟩ v5).heap[s0]? = some (.cells #[a0, a1, a2, v3, v4, v5, a6] T (0, 0)) ∧ (((w.setCell ⟨s0, 3, none⟩ v3).setCell ⟨s0, 4, none⟩ v4).setCell ⟨s0, 5, none⟩ v5).heap[s1]? = some o ∧ Chg [] w0 (((w.setCell ⟨s0, 3, none⟩ v3).setCell ⟨s0, 4, none⟩ v4).setCell ⟨s0, 5, none⟩ v5) := by
  have p0 := heap_setCell_same _ s0 3 _ _ v3 q0
  have p1 := heap_setCell_same _ s0 4 _ _ v4 p0
  have p2 := heap_setCell_same _ s0 5 _ _ v5 p1
  refine ⟨p2, ?_, ?_⟩
  · rw [Below.heap_setCell _ _ _ _ (by simp; exact fun e => h e.symm), Below.heap_setCell _ _ _ _ (by simp; exact fun e => h e.symm), Below.heap_setCell _ _ _ _ (by simp; exact fun e => h e.symm)]
    exact q1
  · exact (((C.put (by omega) 3 v3).put (by omega) 4 v4).put (by omega) 5 v5)
set_option maxHeartbeats 4000000 in
theorem set7_1 {w w0 : World} {z : Nat} {s0 s1 : Nat} {a0 a1 a2 a3 a4 a5 a6 : Value} {T : TypeId} {o : Obj} (v6 : Value) (q0 : w.heap[s0]? = some (.cells #[a0, a1, a2, a3, a4, a5, a6] T (0, 0))) (q1 : w.heap[s1]? = some o) (h : s0 ≠ s1) (hz : z ≤ s0) (C : Chg [] w0 w) (hw0 : w0.heap.size = z) :
    (w.setCell ⟨s0, 6, none⟩ v6).heap[s0]? = some (.cells #[a0, a1, a2, a3, a4, a5, v6] T (0, 0)) ∧ (w.setCell ⟨s0, 6, none⟩ v6).heap[s1]? = some o ∧ Chg [] w0 (w.setCell ⟨s0, 6, none⟩ v6) := by
  have p0 := heap_setCell_same _ s0 6 _ _ v6 q0
  refine ⟨p0, ?_, ?_⟩
  · rw [Below.heap_setCell _ _ _ _ (by simp; exact fun e => h e.symm)]
    exact q1
  · exact (C.put (by omega) 6 v6)
set_option maxHeartbeats 4000000 in
theorem set7_all {w w0 : World} {z : Nat} {s0 s1 : Nat} {a0 a1 a2 a3 a4 a5 a6 : Value} {T : TypeId} {o : Obj} (v0 v1 v2 v3 v4 v5 v6 : Value) (q0 : w.heap[s0]? = some (.cells #[a0, a1, a2, a3, a4, a5, a6] T (0, 0))) (q1 : w.heap[s1]? = some o) (h : s0 ≠ s1) (hz : z ≤ s0) (C : Chg [] w0 w) (hw0 : w0.heap.size = z) :
    (((((((w.setCell ⟨s0, 0, none⟩ v0).setCell ⟨s0, 1, none⟩ v1).setCell ⟨s0, 2, none⟩ v2).setCell ⟨s0, 3, none⟩ v3).setCell ⟨s0, 4, none⟩ v4).setCell ⟨s0, 5, none⟩ v5).setCell ⟨s0, 6, none⟩ v6).heap[s0]? = some (.cells #[v0, v1, v2, v3, v4, v5, v6] T (0, 0)) ∧ (((((((w.setCell ⟨s0, 0, none⟩ v0).setCell ⟨s0, 1, none⟩ v1).setCell ⟨s0, 2, none⟩ v2).setCell ⟨s0, 3, none⟩ v3).setCell ⟨s0, 4, none⟩ v4).setCell ⟨s0, 5, none⟩ v5).setCell ⟨s0, 6, none⟩ v6).heap[s1]? = some o ∧ Chg [] w0 (((((((w.setCell ⟨s0, 0, none⟩ v0).setCell ⟨s0, 1, none⟩ v1).setCell ⟨s0, 2, none⟩ v2).setCell ⟨s0, 3, none⟩ v3).setCell ⟨s0, 4, none⟩ v4).setCell ⟨s0, 5, none⟩ v5).setCell ⟨s0, 6, none⟩ v6) := by
  have p0 := heap_setCell_same _ s0 0 _ _ v0 q0
  have p1 := heap_setCell_same _ s0 1 _ _ v1 p0
  have p2 := heap_setCell_same _ s0 2 _ _ v2 p1
  have p3 := heap_setCell_same _ s0 3 _ _ v3 p2
  have p4 := heap_setCell_same _ s0 4 _ _ v4 p3
  have p5 := heap_setCell_same _ s0 5 _ _ v5 p4
  have p6 := heap_setCell_same _ s0 6 _ _ v6 p5
  refine ⟨p6, ?_, ?_⟩
  · rw [Below.heap_setCell _ _ _ _ (by simp; exact fun e => h e.symm), Below.heap_setCell _ _ _ _ (by simp; exact fun e => h e.symm), Below.heap_setCell _ _ _ _ (by simp; exact fun e => h e.symm), Below.heap_setCell _ _ _ _ (by simp; exact fun e => h e.symm), Below.heap_setCell _ _ _ _ (by simp; exact fun e => h e.symm), Below.heap_setCell _ _ _ _ (by simp; exact fun e => h e.symm), Below.heap_setCell _ _ _ _ (by simp; exact fun e => h e.symm)]
    exact q1
  · exact (((((((C.put (by omega) 0 v0).put (by omega) 1 v1).put (by omega) 2 v2).put (by omega) 3 v3).put (by omega) 4 v4).put (by omega) 5 v5).put (by omega) 6 v6)

set_option maxRecDepth 100000 in
set_option maxHeartbeats 4000000 in
theorem copyeff_any (w : World) (k m : Int) (A : Option Addr) (n c : Nat) (ys : List UInt8) (h : Bs w A n ys) (hn : n ≤ 140737488351232) :
    Calls Tryz.prog 43 #[.agg #[.int .i64 k, .int .i64 m, .slice A n c]] w fun r w' => ∃ A' c', r = .returned (.agg #[.int .i64 k, .int .i64 m, .slice A' n c']) ∧ Fresh w w' A' c' ys := by
  obtain ⟨w2, hw, hc, b0, b1⟩ := news2 w (.cells #[.int .i64 k, .int .i64 m, .slice A n c] 26) (.cells #[.int .i64 0, .int .i64 0, .slice none 0 0] 26)
  have W2 := Lib.hid hw
  have H := Lib.hid (h.chg hc (by simp))
  have C := Lib.hid hc
  have HN := Lib.hid hn
  obtain ⟨g0, hg0⟩ : ∃ g, w.heap.size = g := ⟨_, rfl⟩
  obtain ⟨g1, hg1⟩ : ∃ g, w.heap.size + 1 = g := ⟨_, rfl⟩
  have SZ := Lib.hid hg0
  have S1 := Lib.hid hg1
  rw [hg0] at b0
  rw [hg1] at b1
  have B0 := Lib.hid b0
  have B1 := Lib.hid b1
  have NEg0 : Hid (g0 ≠ g1) := Lib.hid (by omega)
  have NEg1 : Hid (g1 ≠ g0) := Lib.hid (by omega)
  have LZg0 : Hid (g0 ≤ g0) := Lib.hid (Nat.le_refl _)
  have LZg1 : Hid (g0 ≤ g1) := Lib.hid (by omega)
  have L0 := Lib.hid (lt_of_heap b0)
  have L1 := Lib.hid (lt_of_heap b1)
  clear hw hc b0 b1 h hn hg0 hg1
  go_enter Tryz.func43, Tryz.ntmps43
  go_upto_region 1 with fail
  rw [← W2.out, S1.out, SZ.out]
  have z0 := cell_of B0.out 0
  have fz0 := free_of B0.out 0
  have z1 := cell_of B0.out 1
  have fz1 := free_of B0.out 1
  have z2 := cell_of B0.out 2
  have fz2 := free_of B0.out 2
  simp only [List.getElem?_toArray, List.getElem?_cons_succ, List.getElem?_cons_zero] at z0 z1 z2
  go_wp2_with fail
  refine (copy_any w2 A n c ys H.out HN.out).mono ?_
  rintro r w3 ⟨A3, c3, rfl, h3⟩
  clear z0 z1 z2 fz0 fz1 fz2
  replace B0 := Lib.hid (h3.2.2.at_ B0.out (by simp))
  replace B1 := Lib.hid (h3.2.2.at_ B1.out (by simp))
  have O3 := Lib.hid h3.1
  have N3 := Lib.hid h3.2.1
  have S2 := Lib.hid C.out.size
  replace C := Lib.hid (C.out.trans h3.2.2)
  have LT3 : Hid (∀ a, A3 = some a → a.block ≠ g0 ∧ a.block ≠ g1) := Lib.hid (fun a ha => by
    have q := N3.out a ha
    have r0 := L0.out
    have r1 := L1.out
    omega)
  clear h3
  have z0 := cell_of B0.out 0
  have fz0 := free_of B0.out 0
  have z1 := cell_of B0.out 1
  have fz1 := free_of B0.out 1
  have z2 := cell_of B0.out 2
  have fz2 := free_of B0.out 2
  simp only [List.getElem?_toArray, List.getElem?_cons_succ, List.getElem?_cons_zero] at z0 z1 z2
  go_upto_region 2 with fail
  clear z0 z1 z2 fz0 fz1 fz2
  obtain ⟨p0, p1, p2⟩ := set3_2 (.slice A3 n c3) B0.out B1.out NEg0.out LZg0.out C.out SZ.out
  generalize hW : (w3.setCell ⟨g0, 2, none⟩ (.slice A3 n c3)) = w4 at *
  replace B0 := Lib.hid p0
  replace B1 := Lib.hid p1
  have O4 := Lib.hid (O3.out.chg (S := [g0]) (hW ▸ (Chg.refl [g0] w3).put' 2 _) (fun a ha => by simp; exact (LT3.out a ha).1))
  replace C := Lib.hid p2
  clear p0 p1 p2 hW O3
  have z0 := cell_of B0.out 0
  have fz0 := free_of B0.out 0
  have z1 := cell_of B0.out 1
  have fz1 := free_of B0.out 1
  have z2 := cell_of B0.out 2
  have fz2 := free_of B0.out 2
  simp only [List.getElem?_toArray, List.getElem?_cons_succ, List.getElem?_cons_zero] at z0 z1 z2
  have y0 := cell_of B1.out 0
  have fy0 := free_of B1.out 0
  have y1 := cell_of B1.out 1
  have fy1 := free_of B1.out 1
  have y2 := cell_of B1.out 2
  have fy2 := free_of B1.out 2
  simp only [List.getElem?_toArray, List.getElem?_cons_succ, List.getElem?_cons_zero] at y0 y1 y2
  go_wp2
  clear z0 z1 z2 fz0 fz1 fz2
  clear y0 y1 y2 fy0 fy1 fy2
  obtain ⟨p0, p1, p2⟩ := set3_all (.int .i64 k) (.int .i64 m) (.slice A3 n c3) B1.out B0.out NEg1.out LZg1.out C.out SZ.out
  generalize hW : (((w4.setCell ⟨g1, 0, none⟩ (.int .i64 k)).setCell ⟨g1, 1, none⟩ (.int .i64 m)).setCell ⟨g1, 2, none⟩ (.slice A3 n c3)) = w5 at *
  have O5 := Lib.hid (O4.out.chg (S := [g1]) (hW ▸ (((Chg.refl [g1] w4).put' 0 _).put' 1 _).put' 2 _) (fun a ha => by simp; exact (LT3.out a ha).2))
  replace B1 := Lib.hid p0
  replace C := Lib.hid p2
  clear p0 p1 p2 hW O4
  have y0 := cell_of B1.out 0
  have y1 := cell_of B1.out 1
  have y2 := cell_of B1.out 2
  simp only [List.getElem?_toArray, List.getElem?_cons_succ, List.getElem?_cons_zero] at y0 y1 y2
  refine bodyPost_ret (v := .agg #[.int .i64 k, .int .i64 m, .slice A3 n c3]) (by simp [results, Tryz.results43, go_sem, y0, y1, y2]) rfl ?_
  exact ⟨A3, c3, rfl, O5.out, fun a ha => Nat.le_trans S2.out (N3.out a ha), C.out⟩
end
section
open Go.RowKit Go.Lib
set_option linter.unusedSimpArgs false
set_option linter.unusedVariables false


set_option maxRecDepth 100000 in
set_option maxHeartbeats 8000000 in
/-- A copy of an event, in memory of its own. -/
theorem copyev_any (w : World) (x : EvT) (e : EvP) (h : EvR w x e) (hs : e.b.length ≤ 140737488351232 ∧ e.q.length ≤ 100000) :
    Calls Tryz.prog 9 #[.agg #[.int .i64 x.n, .int .i64 x.s, .string x.p, .int .i64 x.k, .int .i64 x.m, .slice x.A x.l x.c, .slice x.B x.bl x.bc]] w fun r w' => ∃ A' c' B' d', r = .returned (.agg #[.int .i64 x.n, .int .i64 x.s, .string x.p, .int .i64 x.k, .int .i64 x.m, .slice A' x.l c', .slice B' x.bl d']) ∧ EvR w' ⟨x.n, x.s, x.p, x.k, x.m, A', x.l, c', B', x.bl, d'⟩ e ∧ OwnB w' A' c' e.b ∧ OwnK spanTy w' B' d' e.q ∧ (∀ a, A' = some a → w.heap.size ≤ a.block) ∧ (∀ a, B' = some a → w.heap.size ≤ a.block) ∧ (∀ a b, A' = some a → B' = some b → a.block ≠ b.block) ∧ Chg [] w w' := by
  obtain ⟨w2, hw, hc, b0, b1⟩ := news2 w (.cells #[.int .i64 x.n, .int .i64 x.s, .string x.p, .int .i64 x.k, .int .i64 x.m, .slice x.A x.l x.c, .slice x.B x.bl x.bc] 29) (.cells #[.int .i64 0, .int .i64 0, .string ⟨#[]⟩, .int .i64 0, .int .i64 0, .slice none 0 0, .slice none 0 0] 29)
  have W2 := Lib.hid hw
  have HR := Lib.hid (h.chg hc)
  have HR0 := Lib.hid h
  have C := Lib.hid hc
  have HS := Lib.hid hs
  obtain ⟨g0, hg0⟩ : ∃ g, w.heap.size = g := ⟨_, rfl⟩
  obtain ⟨g1, hg1⟩ : ∃ g, w.heap.size + 1 = g := ⟨_, rfl⟩
  have SZ := Lib.hid hg0
  have S1 := Lib.hid hg1
  rw [hg0] at b0
  rw [hg1] at b1
  have B0 := Lib.hid b0
  have B1 := Lib.hid b1
  have L0 := Lib.hid (lt_of_heap b0)
  have L1 := Lib.hid (lt_of_heap b1)
  have NEg0 : Hid (g0 ≠ g1) := Lib.hid (by omega)
  have NEg1 : Hid (g1 ≠ g0) := Lib.hid (by omega)
  have LZg0 : Hid (g0 ≤ g0) := Lib.hid (Nat.le_refl _)
  have LZg1 : Hid (g0 ≤ g1) := Lib.hid (by omega)
  clear hw hc b0 b1 h hs hg0 hg1
  go_enter Tryz.func9, Tryz.ntmps9
  go_upto_region 1 with fail
  rw [← W2.out, S1.out, SZ.out]
  have z0 := cell_of B0.out 0
  have fz0 := free_of B0.out 0
  have z1 := cell_of B0.out 1
  have fz1 := free_of B0.out 1
  have z2 := cell_of B0.out 2
  have fz2 := free_of B0.out 2
  have z3 := cell_of B0.out 3
  have fz3 := free_of B0.out 3
  have z4 := cell_of B0.out 4
  have fz4 := free_of B0.out 4
  have z5 := cell_of B0.out 5
  have fz5 := free_of B0.out 5
  have z6 := cell_of B0.out 6
  have fz6 := free_of B0.out 6
  simp only [List.getElem?_toArray, List.getElem?_cons_succ, List.getElem?_cons_zero] at z0 z1 z2 z3 z4 z5 z6
  go_wp2_with fail
  refine (copyeff_any w2 x.k x.m x.A x.l x.c e.b HR.out.A (by rw [HR.out.l]; exact HS.out.1)).mono ?_
  rintro r w3 ⟨A3, c3, rfl, h3⟩
  clear z0 z1 z2 z3 z4 z5 z6 fz0 fz1 fz2 fz3 fz4 fz5 fz6
  replace B0 := Lib.hid (h3.2.2.at_ B0.out (by simp))
  replace B1 := Lib.hid (h3.2.2.at_ B1.out (by simp))
  have O3 := Lib.hid h3.1
  have N3 := Lib.hid h3.2.1
  have S2 := Lib.hid C.out.size
  have LB : Hid (w2.heap.size ≤ w3.heap.size) := Lib.hid h3.2.2.size
  replace C := Lib.hid (C.out.trans h3.2.2)
  have LT3 : Hid (∀ a, A3 = some a → a.block ≠ g0 ∧ a.block ≠ g1) := Lib.hid (fun a ha => by
    have q := N3.out a ha
    have r0 := L0.out
    have r1 := L1.out
    omega)
  have LX3 : Hid (∀ a, A3 = some a → a.block < w3.heap.size) := Lib.hid (fun a ha => by
    obtain ⟨g, hg⟩ : ∃ g, a.block = g := ⟨_, rfl⟩
    rcases O3.out with ⟨q, _⟩ | ⟨g, full, q, hh, _⟩
    · rw [q] at ha; cases ha
    · rw [q] at ha; cases ha; exact lt_of_heap hh)
  clear h3
  have z0 := cell_of B0.out 0
  have fz0 := free_of B0.out 0
  have z1 := cell_of B0.out 1
  have fz1 := free_of B0.out 1
  have z2 := cell_of B0.out 2
  have fz2 := free_of B0.out 2
  have z3 := cell_of B0.out 3
  have fz3 := free_of B0.out 3
  have z4 := cell_of B0.out 4
  have fz4 := free_of B0.out 4
  have z5 := cell_of B0.out 5
  have fz5 := free_of B0.out 5
  have z6 := cell_of B0.out 6
  have fz6 := free_of B0.out 6
  simp only [List.getElem?_toArray, List.getElem?_cons_succ, List.getElem?_cons_zero] at z0 z1 z2 z3 z4 z5 z6
  go_upto_region 2 with fail
  clear z0 z1 z2 z3 z4 z5 z6 fz0 fz1 fz2 fz3 fz4 fz5 fz6
  obtain ⟨p0, p1, p2⟩ := set7_3 (.int .i64 x.k) (.int .i64 x.m) (.slice A3 x.l c3) B0.out B1.out NEg0.out LZg0.out C.out SZ.out
  generalize hW : (((w3.setCell ⟨g0, 3, none⟩ (.int .i64 x.k)).setCell ⟨g0, 4, none⟩ (.int .i64 x.m)).setCell ⟨g0, 5, none⟩ (.slice A3 x.l c3)) = w4 at *
  have O4 := Lib.hid (O3.out.chg (S := [g0]) (hW ▸ (((Chg.refl [g0] w3).put' 3 _).put' 4 _).put' 5 _) (fun a ha => by simp; exact (LT3.out a ha).1))
  replace B0 := Lib.hid p0
  replace B1 := Lib.hid p1
  have LW : Hid (w3.heap.size ≤ w4.heap.size) := Lib.hid (by rw [← hW]; simp [World.setCell])
  replace C := Lib.hid p2
  have RBp := Lib.hid (HR0.out.B.chg C.out (by simp))
  clear p0 p1 p2 hW O3
  have z0 := cell_of B0.out 0
  have fz0 := free_of B0.out 0
  have z1 := cell_of B0.out 1
  have fz1 := free_of B0.out 1
  have z2 := cell_of B0.out 2
  have fz2 := free_of B0.out 2
  have z3 := cell_of B0.out 3
  have fz3 := free_of B0.out 3
  have z4 := cell_of B0.out 4
  have fz4 := free_of B0.out 4
  have z5 := cell_of B0.out 5
  have fz5 := free_of B0.out 5
  have z6 := cell_of B0.out 6
  have fz6 := free_of B0.out 6
  simp only [List.getElem?_toArray, List.getElem?_cons_succ, List.getElem?_cons_zero] at z0 z1 z2 z3 z4 z5 z6
  go_wp2_with fail
  refine (copyspan_any w4 x.B x.bl x.bc e.q RBp.out (by have := HS.out.2; rw [HR.out.bl]; omega)).mono ?_
  rintro r w5 ⟨A5, c5, rfl, h5, hN5, hc5⟩
  clear z0 z1 z2 z3 z4 z5 z6 fz0 fz1 fz2 fz3 fz4 fz5 fz6
  replace B0 := Lib.hid (hc5.at_ B0.out (by simp))
  replace B1 := Lib.hid (hc5.at_ B1.out (by simp))
  replace O4 := Lib.hid (O4.out.chg hc5 (by simp))
  have P5 := Lib.hid h5
  have N5 : Hid (∀ a, A5 = some a → w3.heap.size ≤ a.block) := Lib.hid (fun a ha => Nat.le_trans LW.out (hN5 a ha))
  replace C := Lib.hid (C.out.trans hc5)
  have LT5 : Hid (∀ a, A5 = some a → a.block ≠ g0 ∧ a.block ≠ g1) := Lib.hid (fun a ha => by
    have q := N5.out a ha
    have r0 := L0.out
    have r1 := L1.out
    have r2 := LB.out
    omega)
  clear h5 hN5 hc5 RBp
  have z0 := cell_of B0.out 0
  have fz0 := free_of B0.out 0
  have z1 := cell_of B0.out 1
  have fz1 := free_of B0.out 1
  have z2 := cell_of B0.out 2
  have fz2 := free_of B0.out 2
  have z3 := cell_of B0.out 3
  have fz3 := free_of B0.out 3
  have z4 := cell_of B0.out 4
  have fz4 := free_of B0.out 4
  have z5 := cell_of B0.out 5
  have fz5 := free_of B0.out 5
  have z6 := cell_of B0.out 6
  have fz6 := free_of B0.out 6
  simp only [List.getElem?_toArray, List.getElem?_cons_succ, List.getElem?_cons_zero] at z0 z1 z2 z3 z4 z5 z6
  go_upto_region 3 with fail
  clear z0 z1 z2 z3 z4 z5 z6 fz0 fz1 fz2 fz3 fz4 fz5 fz6
  obtain ⟨p0, p1, p2⟩ := set7_1 (.slice A5 x.bl c5) B0.out B1.out NEg0.out LZg0.out C.out SZ.out
  generalize hW : (w5.setCell ⟨g0, 6, none⟩ (.slice A5 x.bl c5)) = w6 at *
  have O6 := Lib.hid (O4.out.chg (S := [g0]) (hW ▸ (Chg.refl [g0] w5).put' 6 _) (fun a ha => by simp; exact (LT3.out a ha).1))
  have P6 := Lib.hid (P5.out.chg (S := [g0]) (hW ▸ (Chg.refl [g0] w5).put' 6 _) (fun a ha => by simp; exact (LT5.out a ha).1))
  replace B0 := Lib.hid p0
  replace B1 := Lib.hid p1
  replace C := Lib.hid p2
  clear p0 p1 p2 hW O4 P5
  have z0 := cell_of B0.out 0
  have fz0 := free_of B0.out 0
  have z1 := cell_of B0.out 1
  have fz1 := free_of B0.out 1
  have z2 := cell_of B0.out 2
  have fz2 := free_of B0.out 2
  have z3 := cell_of B0.out 3
  have fz3 := free_of B0.out 3
  have z4 := cell_of B0.out 4
  have fz4 := free_of B0.out 4
  have z5 := cell_of B0.out 5
  have fz5 := free_of B0.out 5
  have z6 := cell_of B0.out 6
  have fz6 := free_of B0.out 6
  simp only [List.getElem?_toArray, List.getElem?_cons_succ, List.getElem?_cons_zero] at z0 z1 z2 z3 z4 z5 z6
  have y0 := cell_of B1.out 0
  have fy0 := free_of B1.out 0
  have y1 := cell_of B1.out 1
  have fy1 := free_of B1.out 1
  have y2 := cell_of B1.out 2
  have fy2 := free_of B1.out 2
  have y3 := cell_of B1.out 3
  have fy3 := free_of B1.out 3
  have y4 := cell_of B1.out 4
  have fy4 := free_of B1.out 4
  have y5 := cell_of B1.out 5
  have fy5 := free_of B1.out 5
  have y6 := cell_of B1.out 6
  have fy6 := free_of B1.out 6
  simp only [List.getElem?_toArray, List.getElem?_cons_succ, List.getElem?_cons_zero] at y0 y1 y2 y3 y4 y5 y6
  go_wp2
  clear z0 z1 z2 z3 z4 z5 z6 fz0 fz1 fz2 fz3 fz4 fz5 fz6
  clear y0 y1 y2 y3 y4 y5 y6 fy0 fy1 fy2 fy3 fy4 fy5 fy6
  obtain ⟨p0, p1, p2⟩ := set7_all (.int .i64 x.n) (.int .i64 x.s) (.string x.p) (.int .i64 x.k) (.int .i64 x.m) (.slice A3 x.l c3) (.slice A5 x.bl c5) B1.out B0.out NEg1.out LZg1.out C.out SZ.out
  generalize hW : (((((((w6.setCell ⟨g1, 0, none⟩ (.int .i64 x.n)).setCell ⟨g1, 1, none⟩ (.int .i64 x.s)).setCell ⟨g1, 2, none⟩ (.string x.p)).setCell ⟨g1, 3, none⟩ (.int .i64 x.k)).setCell ⟨g1, 4, none⟩ (.int .i64 x.m)).setCell ⟨g1, 5, none⟩ (.slice A3 x.l c3)).setCell ⟨g1, 6, none⟩ (.slice A5 x.bl c5)) = w7 at *
  have O7 := Lib.hid (O6.out.chg (S := [g1]) (hW ▸ (((((((Chg.refl [g1] w6).put' 0 _).put' 1 _).put' 2 _).put' 3 _).put' 4 _).put' 5 _).put' 6 _) (fun a ha => by simp; exact (LT3.out a ha).2))
  have P7 := Lib.hid (P6.out.chg (S := [g1]) (hW ▸ (((((((Chg.refl [g1] w6).put' 0 _).put' 1 _).put' 2 _).put' 3 _).put' 4 _).put' 5 _).put' 6 _) (fun a ha => by simp; exact (LT5.out a ha).2))
  replace B1 := Lib.hid p0
  replace C := Lib.hid p2
  clear p0 p1 p2 hW O6 P6
  have y0 := cell_of B1.out 0
  have y1 := cell_of B1.out 1
  have y2 := cell_of B1.out 2
  have y3 := cell_of B1.out 3
  have y4 := cell_of B1.out 4
  have y5 := cell_of B1.out 5
  have y6 := cell_of B1.out 6
  simp only [List.getElem?_toArray, List.getElem?_cons_succ, List.getElem?_cons_zero] at y0 y1 y2 y3 y4 y5 y6
  refine bodyPost_ret (v := .agg #[.int .i64 x.n, .int .i64 x.s, .string x.p, .int .i64 x.k, .int .i64 x.m, .slice A3 x.l c3, .slice A5 x.bl c5]) (by simp [results, Tryz.results9, go_sem, y0, y1, y2, y3, y4, y5, y6]) rfl ?_
  refine ⟨A3, c3, A5, c5, rfl, ⟨HR.out.n, HR.out.s, HR.out.p, HR.out.k, HR.out.m, HR.out.l, HR.out.bl, ?_, ?_⟩, O7.out, P7.out, fun a ha => Nat.le_trans S2.out (N3.out a ha), fun a ha => Nat.le_trans S2.out (Nat.le_trans LB.out (N5.out a ha)), fun a b ha hb => by have := LX3.out a ha; have := N5.out b hb; omega, C.out⟩
  · have := O7.out.reads
    rw [← HR.out.l] at this
    exact this
  · have := P7.out.reads
    rw [← HR.out.bl] at this
    exact this
end
section
open Go.RowKit Go.Lib
set_option linter.unusedSimpArgs false
set_option linter.unusedVariables false


/-- A list of events reads so. -/
def EvsR (w : World) (xs : List EvT) (es : List EvP) : Prop := xs.length = es.length ∧ ∀ (i : Nat) (x : EvT) (e : EvP), xs[i]? = some x → es[i]? = some e → EvR w x e
theorem EvsR.chg {w w' : World} {xs : List EvT} {es : List EvP} (h : EvsR w xs es) (hc : Chg [] w w') : EvsR w' xs es := ⟨h.1, fun i x e hx he => (h.2 i x e hx he).chg hc⟩
theorem EvsR.at_ {w : World} {xs : List EvT} {es : List EvP} (h : EvsR w xs es) {i : Nat} (hi : i < xs.length) : ∃ x e, xs[i]? = some x ∧ es[i]? = some e ∧ EvR w x e :=
  ⟨_, _, List.getElem?_eq_getElem hi, List.getElem?_eq_getElem (by rw [← h.1]; exact hi), h.2 i _ _ (List.getElem?_eq_getElem hi) (List.getElem?_eq_getElem (by rw [← h.1]; exact hi))⟩
theorem EvsR.nil (w : World) : EvsR w [] [] := ⟨rfl, fun i x e hx _ => by simp at hx⟩
end
end Go.Proofs.YtfdaclifapfmdaaGreatDoor
