/- The document's Check of a past. The document's Has, Count, Last. The document's ahead. The document's Check of a dot, as the past sees it. What is joined, and left: plain functions. No function of the program is named here. past.bounded, past.alone. past.push. past.push behind a span. past.push onto the last span. -/
import Derived.Test.YtehmchdhlhchjaaGreatDoorZepc
import Derived.Deep.Cut
import Derived.Deep.QuietTactic
import Derived.BigQuiet
import Derived.Test.YtehmchdhlhchjaaGreatDoorZepj
import Derived.Test.YtehmchdhlhchjaaGreatDoorZepd
import Derived.RegionTactic
import Derived.Deep.RegionHeld3
set_option linter.unusedSimpArgs false
set_option linter.unusedVariables false
set_option maxHeartbeats 32000000
namespace Go.Proofs.YtehmchdhlhchjaaGreatDoor
section
open Go.RowKit Go.Lib



set_option maxRecDepth 100000 in
theorem qacheck_any (w : World) (A : Option Addr) (n c : Nat) (xs : List (Int × Int × Int)) (h : RdK spanTy w A n xs) (hn : n ≤ 140737488351232) : Calls Tryz.prog 79 #[.slice A n c] w fun e w' => e = .returned (.int .i64 (chkS xs)) ∧ Chg [] w w' := by
 have go : ∀ v, chkS xs = v → Calls Tryz.prog 79 #[.slice A n c] w (fun e w' => e = .returned (.int .i64 v) ∧ Chg [] w w') → Calls Tryz.prog 79 #[.slice A n c] w fun e w' => e = .returned (.int .i64 (chkS xs)) ∧ Chg [] w w' := fun v hv h => hv ▸ h
 have hl := h.len
 subst hl
 by_cases hbig : 4000 < xs.length
 ·
  refine go 2 (if_neg (by omega)) ?_
  clear go h
  go_enter Tryz.func79, Tryz.ntmps79
  go_wp2; go_ret
  exact ⟨rfl, Chg.refl _ _⟩
 ·
  skip
  have HX := h_ h
  have hV : chkS xs = if okFrom none xs = true then 0 else 2 := by unfold chkS; by_cases ho : okFrom none xs = true <;> simp [ho] <;> omega
  have HV := h_ hV
  clear h go
  generalize chkS xs = V at *
  clear hV
  go_enter Tryz.func79, Tryz.ntmps79
  go_wp2
  go_loopw [3] (fun i wr => ∃ (k : Nat), k ≤ xs.length ∧ i = .int .i64 k ∧ Hid (Chg [] w wr ∧ okFrom none xs = okFrom (prevS xs k) (xs.drop k) ∧ ∀ y, prevS xs k = some y → FineS y.1 y.2.1 y.2.2)) (fun i _ => xs.length - (RowKit.intOf i).toNat)
  case atStart => exact ⟨0, Nat.zero_le _, rfl, Chg.refl _ _, rfl, by unfold prevS; simp⟩
  case round =>
   obtain ⟨k, hk, rfl, HI⟩ := hrel
   generalize wr = w1 at *
   clear wr
   by_cases hlt : k < xs.length
   ·
    skip
    obtain ⟨g, o, eA, _⟩ := HX.out.line (by omega)
    subst eA
    have ex := List.getElem?_eq_getElem hlt
    generalize xs[k] = x at *
    have EX := h_ ex
    have hok := okFrom_next xs k x ex
    have HOK := h_ (HI.out.2.1.trans hok)
    clear ex hok
    have i0 : (0 : Int) ≤ (k : Int) := by omega
    have i1 : (k : Int) < (xs.length : Int) := by omega
    have hcc := spanCells (HX.out.chg HI.out.1 (by simp)) EX.out
    obtain ⟨p0, p1, p2⟩ := hcc
    have CW := h_ HI.out.1
    obtain ⟨w2, hw2, cw2, b_B0⟩ := news1 w1 (.cells #[.int .i64 x.1, .int .i64 x.2.1, .int .i64 x.2.2] 81)
    have Ww2 := h_ hw2
    have l_B0 := lt_of_heap b_B0
    replace CW := h_ (CW.out.trans cw2)
    have B0 := h_ (b_B0)
    clear hw2 cw2 b_B0
    go_upto_region 7 with fail
    rw [← Ww2.out]
    generalize w1.heap.size = b at *
    clear Ww2; clear p0 p1 p2
    obtain ⟨z_B0_0, z_B0_1, z_B0_2⟩ := ce3 B0.out
    by_cases f1 : x.1 < 1
    ·
     have hd : decide (FineS x.1 x.2.1 x.2.2) = false := decide_eq_false (by unfold FineS; omega)
     have hv2 : ¬ okFrom none xs = true := by rw [HOK.out, hd]; simp
     have HV2 : V = 2 := HV.out.trans (if_neg hv2)
     subst HV2; clear hv2 hd; go_wp2; go_ret
     exact ⟨rfl, CW.out⟩
    by_cases f2 : 200 < x.1
    ·
     have hd : decide (FineS x.1 x.2.1 x.2.2) = false := decide_eq_false (by unfold FineS; omega)
     have hv2 : ¬ okFrom none xs = true := by rw [HOK.out, hd]; simp
     have HV2 : V = 2 := HV.out.trans (if_neg hv2)
     subst HV2; clear hv2 hd; go_wp2; go_ret
     exact ⟨rfl, CW.out⟩
    by_cases f3 : x.2.1 < 1
    ·
     have hd : decide (FineS x.1 x.2.1 x.2.2) = false := decide_eq_false (by unfold FineS; omega)
     have hv2 : ¬ okFrom none xs = true := by rw [HOK.out, hd]; simp
     have HV2 : V = 2 := HV.out.trans (if_neg hv2)
     subst HV2; clear hv2 hd; go_wp2; go_ret
     exact ⟨rfl, CW.out⟩
    by_cases f4 : x.2.2 < x.2.1
    ·
     have hd : decide (FineS x.1 x.2.1 x.2.2) = false := decide_eq_false (by unfold FineS; omega)
     have hv2 : ¬ okFrom none xs = true := by rw [HOK.out, hd]; simp
     have HV2 : V = 2 := HV.out.trans (if_neg hv2)
     subst HV2; clear hv2 hd; go_wp2; go_ret
     exact ⟨rfl, CW.out⟩
    by_cases f5 : 2147483647 < x.2.2
    ·
     have hd : decide (FineS x.1 x.2.1 x.2.2) = false := decide_eq_false (by unfold FineS; omega)
     have hv2 : ¬ okFrom none xs = true := by rw [HOK.out, hd]; simp
     have HV2 : V = 2 := HV.out.trans (if_neg hv2)
     subst HV2; clear hv2 hd; go_wp2; go_ret
     exact ⟨rfl, CW.out⟩
    have hf : FineS x.1 x.2.1 x.2.2 := by unfold FineS; omega
    have HFN := h_ hf
    have hd := decide_eq_true hf
    rw [hd] at HOK
    clear hd hf
    go_upto_region 9 with fail
    by_cases h0 : k = 0
    ·
     subst h0
     go_quiet (fail)
     have e1 : prevS xs (0 + 1) = some x := by unfold prevS; rw [if_neg (by omega)]; exact EX.out
     have CE := h_ (CW.out.drewN nq)
     go_wp2; go_round
     case rel =>
      refine ⟨0 + 1, by omega, by go_num, CE.out, ?_, ?_⟩
      ·
       rw [HOK.out]; simp [prevS]
      ·
       rw [e1]; rintro y ⟨⟩; exact HFN.out
     case measure => simp [RowKit.intOf]; omega
    ·
     have hk1 : k - 1 < xs.length := by omega
     have ey := List.getElem?_eq_getElem hk1
     generalize xs[k - 1] = y at *
     have ep : prevS xs k = some y := by unfold prevS; rw [if_neg h0]; exact ey
     have EY := h_ ey
     have hfy := HI.out.2.2 y ep
     unfold FineS at hfy
     rw [ep] at HOK
     dsimp only at HOK
     clear ey ep
     have hcc := spanCells (HX.out.chg CW.out (by simp)) EY.out
     obtain ⟨p0, p1, p2⟩ := hcc
     have hk2 : ((k : Int) - 1) = ((k - 1 : Nat) : Int) := by omega
     have hk4 : ((k - 1 : Nat) : Int) < (xs.length : Int) := by omega
     have hk5 : (0 : Int) ≤ ((k - 1 : Nat) : Int) := by omega
     have hk6 : IntKind.i64.wrap ((k - 1 : Nat) : Int) = ((k - 1 : Nat) : Int) := IntWalk.i64_in _ (by omega)
     have hk7 : decide (0 < k) = true := by simp; omega
     have hk8 : IntKind.i64.wrap (y.2.2 + 1) = y.2.2 + 1 := IntWalk.i64_in _ (by omega)
     clear hfy
     by_cases g1 : x.1 < y.1
     ·
      skip
      have hA : decide (ApartS y.1 y.2.2 x.1 x.2.1) = false := decide_eq_false (by unfold ApartS; omega)
      rw [hA] at HOK
      clear hA
      go_quiet (fail)
      have hv2 : ¬ okFrom none xs = true := by rw [HOK.out]; simp
      have HV2 : V = 2 := HV.out.trans (if_neg hv2)
      subst HV2; clear hv2
      have CE := h_ (CW.out.drewN nq)
      go_wp2; go_ret
      exact ⟨rfl, CE.out⟩
     by_cases g2 : x.1 = y.1
     rotate_left
     ·
      skip
      have hA : decide (ApartS y.1 y.2.2 x.1 x.2.1) = true := decide_eq_true (by unfold ApartS; omega)
      rw [hA] at HOK
      clear hA
      go_quiet (fail)
      have e1 : prevS xs (k + 1) = some x := by unfold prevS; rw [if_neg (by omega)]; exact EX.out
      have CE := h_ (CW.out.drewN nq)
      go_wp2; go_round
      case rel =>
       refine ⟨k + 1, by omega, by go_num, CE.out, ?_, ?_⟩
       ·
        rw [HOK.out]; simp [e1]
       ·
        rw [e1]; rintro y ⟨⟩; exact HFN.out
      case measure => simp [RowKit.intOf]; omega
     by_cases g3 : x.2.1 ≤ y.2.2 + 1
     ·
      skip
      have hA : decide (ApartS y.1 y.2.2 x.1 x.2.1) = false := decide_eq_false (by unfold ApartS; omega)
      rw [hA] at HOK
      clear hA
      go_quiet (fail)
      have hv2 : ¬ okFrom none xs = true := by rw [HOK.out]; simp
      have HV2 : V = 2 := HV.out.trans (if_neg hv2)
      subst HV2; clear hv2
      have CE := h_ (CW.out.drewN nq)
      go_wp2; go_ret
      exact ⟨rfl, CE.out⟩
     ·
      skip
      have hA : decide (ApartS y.1 y.2.2 x.1 x.2.1) = true := decide_eq_true (by unfold ApartS; omega)
      rw [hA] at HOK
      clear hA
      go_quiet (fail)
      have e1 : prevS xs (k + 1) = some x := by unfold prevS; rw [if_neg (by omega)]; exact EX.out
      have CE := h_ (CW.out.drewN nq)
      go_wp2; go_round
      case rel =>
       refine ⟨k + 1, by omega, by go_num, CE.out, ?_, ?_⟩
       ·
        rw [HOK.out]; simp [e1]
       ·
        rw [e1]; rintro y ⟨⟩; exact HFN.out
      case measure => simp [RowKit.intOf]; omega
   ·
    obtain rfl : k = xs.length := by omega
    have hv := HI.out.2.1
    rw [List.drop_length] at hv
    have hv2 : okFrom none xs = true := by rw [hv]; cases prevS xs xs.length <;> rfl
    have HV2 : V = 0 := HV.out.trans (if_pos hv2)
    subst HV2; clear hv hv2; go_wp2; go_ret
    exact ⟨rfl, HI.out.1⟩
end
section
open Go.RowKit Go.Lib


def lastM (node : Int) (xs : List Sp) : Int := xs.foldl (fun n x => if x.1 = node then max n x.2.2 else n) 0
theorem lastM_take {node : Int} {xs : List Sp} {k : Nat} {x : Sp} (hx : xs[k]? = some x) : lastM node (xs.take (k + 1)) = if x.1 = node then max (lastM node (xs.take k)) x.2.2 else lastM node (xs.take k) := by
 rw [List.take_add_one, hx]; simp [lastM]
theorem last_same (node : Int) : ∀ (k : Nat) (xs : List Sp), WfC xs → lastM node (xs.take k) = lastL node (xs.take k) ∧ (lastL node (xs.take k) = 0 ∨ ∃ y ∈ xs.take k, y.1 = node ∧ y.2.2 = lastL node (xs.take k))
 | 0, xs, _ => by simp [lastM, lastL]
 | k + 1, xs, h => by
  obtain ⟨a, b⟩ := last_same node k xs h
  by_cases hk : k < xs.length
  ·
   have hx := List.getElem?_eq_getElem hk
   have e1 : lastL node (xs.take (k + 1)) = if xs[k].1 = node then xs[k].2.2 else lastL node (xs.take k) := by rw [List.take_add_one, hx]; exact last_snoc _ _ _
   rw [lastM_take hx, e1, a]
   have mem : ∀ y ∈ xs.take k, y ∈ xs.take (k + 1) := fun y hy => by rw [List.take_add_one]; exact List.mem_append_left _ hy
   split
   ·
    rename_i hn
    have bx := h.2 xs[k] (List.getElem_mem hk)
    have ox := h.1.1 xs[k] (List.getElem_mem hk)
    unfold SpOk at ox
    have le : lastL node (xs.take k) ≤ xs[k].2.2 := by
     rcases b with e | ⟨y, hy, hy1, hy2⟩
     ·
      rw [e]; omega
     ·
      obtain ⟨q, hq, rfl⟩ := List.getElem_of_mem hy
      rw [List.length_take] at hq
      rw [List.getElem_take] at hy1 hy2
      have hap := List.pairwise_iff_getElem.1 h.1.2 q k (by omega) hk (by omega)
      have oy := h.1.1 xs[q] (List.getElem_mem (by omega))
      rw [← hy2]
      unfold Ap SpOk at *
      omega
    exact ⟨by omega, .inr ⟨xs[k], List.mem_of_getElem? (i := k) (by rw [List.getElem?_take, if_pos (Nat.lt_succ_self k)]; exact hx), hn, rfl⟩⟩
   ·
    refine ⟨rfl, ?_⟩
    rcases b with e | ⟨y, hy, hy1, hy2⟩
    ·
     exact .inl e
    ·
     exact .inr ⟨y, mem y hy, hy1, hy2⟩
  ·
   rw [List.take_of_length_le (by omega : xs.length ≤ k + 1), ← List.take_of_length_le (by omega : xs.length ≤ k)]
   exact ⟨a, b⟩
theorem last_all (node : Int) {xs : List Sp} (h : WfC xs) : lastM node xs = lastL node xs := by
 have := (last_same node xs.length xs h).1
 rwa [List.take_length] at this
set_option maxRecDepth 100000 in
theorem qlast_any (w : World) (A : Option Addr) (c : Nat) (xs : List Sp) (node : Int) (h : RdK spanTy w A xs.length xs) (hn : xs.length ≤ 140737488351232) :
  Calls Tryz.prog 177 #[.slice A xs.length c, .int .i64 node] w fun e w' => e = .returned (.int .i64 (if chkS xs = 0 then lastL node xs else 0)) ∧ Chg [] w w' := by
 have HX := h_ h
 have HN := h_ hn
 clear h hn
 rcases chk_two xs with e1 | e1
 ·
  rw [if_pos e1]
  have WF := h_ (wf_of_chk e1)
  go_enter Tryz.func177, Tryz.ntmps177
  go_wp2_with fail
  refine (qacheck_any w A _ c xs HX.out HN.out).mono ?_
  rintro e w1 ⟨rfl, h1⟩
  rw [e1]
  have C1 := h_ h1
  replace HX := h_ (HX.out.chg h1 (by simp))
  clear h1 e1; go_wp2
  go_loopw [5, 6] (fun v5 v6 wr => ∃ (k : Nat), k ≤ xs.length ∧ v5 = .int .i64 (lastM node (xs.take k)) ∧ v6 = .int .i64 k ∧ Hid (Chg [] w1 wr)) (fun _ v6 _ => xs.length - (RowKit.intOf v6).toNat)
  case atStart => exact ⟨0, Nat.zero_le _, rfl, rfl, Chg.refl _ _⟩
  case round =>
   obtain ⟨k, hk, rfl, rfl, HI⟩ := hrel
   have i0 : (0 : Int) ≤ (k : Int) := by omega
   by_cases hlt : k < xs.length
   ·
    have i1 : (k : Int) < (xs.length : Int) := by omega
    have i3 : IntKind.i64.wrap ((k : Int) + 1) = (k : Int) + 1 := IntWalk.i64_in _ (by have := HN.out; omega)
    obtain ⟨x, hx⟩ : ∃ x, xs[k]? = some x := ⟨_, List.getElem?_eq_getElem hlt⟩
    obtain ⟨g, o, eA, _⟩ := HX.out.line (by omega)
    subst eA
    obtain ⟨q0, q1, q2⟩ := spanCells (HX.out.chg HI.out (by simp)) hx
    have E2 := h_ (lastM_take (node := node) hx)
    generalize lastM node (xs.take k) = m at *
    clear hx
    by_cases hnode : x.1 = node
    ·
     have EQ := h_ (show lastM node (xs.take (k + 1)) = max m x.2.2 by rw [E2.out, if_pos hnode])
     have q : ((x.1 == node) : Bool) = true := by simpa using hnode
     clear hnode E2; go_wp2
     all_goals
      go_round
      case rel => exact ⟨k + 1, by omega, by (rw [EQ.out]) <;> (congr 1) <;> omega, by go_num, HI.out⟩
      case measure => simp [RowKit.intOf]; omega
    ·
     have EQ := h_ (show lastM node (xs.take (k + 1)) = m by rw [E2.out, if_neg hnode])
     have q : ((x.1 == node) : Bool) = false := by simpa using hnode
     clear hnode E2; go_wp2; go_round
     case rel => exact ⟨k + 1, by omega, by rw [EQ.out], by go_num, HI.out⟩
     case measure => simp [RowKit.intOf]; omega
   ·
    obtain rfl : k = xs.length := by omega
    rw [show xs.take xs.length = xs from List.take_length, last_all node WF.out.1]
    have i1 : ¬ (xs.length : Int) < (xs.length : Int) := by omega
    go_wp2; go_ret
    exact ⟨rfl, C1.out.trans HI.out⟩
 ·
  rw [if_neg (by omega)]
  go_enter Tryz.func177, Tryz.ntmps177
  go_wp2_with fail
  refine (qacheck_any w A _ c xs HX.out HN.out).mono ?_
  rintro e w1 ⟨rfl, h1⟩
  rw [e1]
  have C1 := h_ h1
  clear h1; go_wp2; go_ret
  exact ⟨rfl, C1.out⟩
set_option maxRecDepth 100000 in
theorem qhas_any (w : World) (A : Option Addr) (c : Nat) (xs : List Sp) (n s : Int) (h : RdK spanTy w A xs.length xs) (hn : xs.length ≤ 140737488351232) :
  Calls Tryz.prog 80 #[.slice A xs.length c, .agg #[.int .i64 n, .int .i64 s]] w fun e w' => e = .returned (.bool (hasE xs n s)) ∧ Chg [] w w' := by
 have HX := h_ h
 have HN := h_ hn
 clear h hn
 obtain ⟨w0, hw0, c0, b0⟩ := news1 w (.cells #[.int .i64 n, .int .i64 s] 35)
 have W0 := h_ hw0
 have C0 := h_ c0
 have B0 := h_ b0
 replace HX := h_ (HX.out.chg c0 (by simp))
 clear hw0 c0 b0
 rcases chk_two xs with e1 | e1
 ·
  have eH : hasE xs n s = decide (Mem xs n s) := by unfold hasE; rw [decide_eq_true e1]; rfl
  rw [eH]
  clear eH
  go_enter Tryz.func80, Tryz.ntmps80
  go_wp2_with fail
  rw [← W0.out]
  generalize w.heap.size = g0 at *
  refine (qacheck_any w0 A _ c xs HX.out HN.out).mono ?_
  rintro e w1 ⟨rfl, h1⟩
  rw [e1]
  have C1 := h_ h1
  replace HX := h_ (HX.out.chg h1 (by simp))
  replace B0 := h_ (h1.at_ B0.out (by simp))
  clear h1 e1; go_wp2
  go_loopw [5] (fun v5 wr => ∃ (k : Nat), k ≤ xs.length ∧ v5 = .int .i64 k ∧ Hid (¬ Mem (xs.take k) n s) ∧ Hid (Chg [] w1 wr)) (fun v5 _ => xs.length - (RowKit.intOf v5).toNat)
  case atStart => exact ⟨0, Nat.zero_le _, rfl, h_ (by simpa using mem_nil), Chg.refl _ _⟩
  case round =>
   obtain ⟨k, hk, rfl, NM, HI⟩ := hrel
   have i0 : (0 : Int) ≤ (k : Int) := by omega
   by_cases hlt : k < xs.length
   ·
    have i1 : (k : Int) < (xs.length : Int) := by omega
    have i3 : IntKind.i64.wrap ((k : Int) + 1) = (k : Int) + 1 := IntWalk.i64_in _ (by have := HN.out; omega)
    obtain ⟨x, hx⟩ : ∃ x, xs[k]? = some x := ⟨_, List.getElem?_eq_getElem hlt⟩
    obtain ⟨g, o, eA, _⟩ := HX.out.line (by omega)
    subst eA
    obtain ⟨q0, q1, q2⟩ := spanCells (HX.out.chg HI.out (by simp)) hx
    have b2 := HI.out.at_ B0.out (by simp)
    obtain ⟨d0, d1⟩ := ce2 b2
    have NX : Hid (¬ InS x n s → ¬ Mem (xs.take (k + 1)) n s) := h_ (fun hni hm => by
     rw [List.take_add_one, hx] at hm
     rcases mem_append.1 hm with q | q
     ·
      exact NM.out q
     ·
      exact hni (mem_one.1 q))
    have YX : Hid (InS x n s → decide (Mem xs n s) = true) := h_ (fun hi => decide_eq_true ⟨x, List.mem_of_getElem? hx, hi⟩)
    clear hx b2
    by_cases p1 : x.1 = n
    rotate_left
    ·
     have NO := h_ (NX.out (fun hi => p1 hi.1))
     have q : ((x.1 == n) : Bool) = false := by simpa using p1
     clear p1 NX YX
     go_upto_region 6 with fail
     go_quiet (fail)
     have hq := (Chg.refl [] wr).drewN nq
     generalize wr.drewN nq = w2 at *
     have C2 := h_ (HI.out.trans hq)
     clear q0 q1 q2 d0 d1 hq; go_wp2; go_round
     case rel => exact ⟨k + 1, by omega, by go_num, NO, C2.out⟩
     case measure => simp [RowKit.intOf]; omega
    by_cases p2 : x.2.1 ≤ s
    rotate_left
    ·
     have NO := h_ (NX.out (fun hi => p2 hi.2.1))
     have q : ((x.1 == n) : Bool) = true := by simpa using p1
     clear p1 NX YX
     go_upto_region 6 with fail
     go_quiet (fail)
     have hq := (Chg.refl [] wr).drewN nq
     generalize wr.drewN nq = w2 at *
     have C2 := h_ (HI.out.trans hq)
     clear q0 q1 q2 d0 d1 hq; go_wp2; go_round
     case rel => exact ⟨k + 1, by omega, by go_num, NO, C2.out⟩
     case measure => simp [RowKit.intOf]; omega
    by_cases p3 : s ≤ x.2.2
    rotate_left
    ·
     have NO := h_ (NX.out (fun hi => p3 hi.2.2))
     have q : ((x.1 == n) : Bool) = true := by simpa using p1
     clear p1 NX YX
     go_upto_region 6 with fail
     go_quiet (fail)
     have hq := (Chg.refl [] wr).drewN nq
     generalize wr.drewN nq = w2 at *
     have C2 := h_ (HI.out.trans hq)
     clear q0 q1 q2 d0 d1 hq; go_wp2; go_round
     case rel => exact ⟨k + 1, by omega, by go_num, NO, C2.out⟩
     case measure => simp [RowKit.intOf]; omega
    have YES := h_ (YX.out ⟨p1, p2, p3⟩)
    have q : ((x.1 == n) : Bool) = true := by simpa using p1
    clear p1 NX YX
    go_upto_region 6 with fail
    go_quiet (fail)
    have hq := (Chg.refl [] wr).drewN nq
    generalize wr.drewN nq = w2 at *
    have C2 := h_ (HI.out.trans hq)
    clear q0 q1 q2 d0 d1 hq; go_wp2; go_ret
    exact ⟨(by first | exact of_decide_eq_true YES.out | exact (of_decide_eq_true YES.out : Mem xs n s) | (rw [YES.out]; rfl)), C0.out.trans (C1.out.trans C2.out)⟩
   ·
    obtain rfl : k = xs.length := by omega
    have NO : Hid (decide (Mem xs n s) = false) := h_ (by have := NM.out; rw [List.take_length] at this; exact decide_eq_false this)
    have i1 : ¬ (xs.length : Int) < (xs.length : Int) := by omega
    go_wp2; go_ret
    exact ⟨(by first | exact of_decide_eq_false NO.out | (rw [NO.out]; rfl)), C0.out.trans (C1.out.trans HI.out)⟩
 ·
  have eH : hasE xs n s = false := by unfold hasE; rw [decide_eq_false (by omega)]; rfl
  rw [eH]
  clear eH
  go_enter Tryz.func80, Tryz.ntmps80
  go_wp2_with fail
  rw [← W0.out]
  generalize w.heap.size = g0 at *
  refine (qacheck_any w0 A _ c xs HX.out HN.out).mono ?_
  rintro e w1 ⟨rfl, h1⟩
  rw [e1]
  have C1 := h_ h1
  clear h1; go_wp2; go_ret
  exact ⟨rfl, C0.out.trans C1.out⟩
end
section
open Go.RowKit Go.Lib


def FineQ (n s : Int) : Prop := 1 ≤ n ∧ n ≤ 200 ∧ 1 ≤ s ∧ s ≤ 2147483647
instance (n s : Int) : Decidable (FineQ n s) := by unfold FineQ; exact inferInstance
theorem chk_dot (n s : Int) : chkS [(n, s, s)] = if FineQ n s then 0 else 2 := by
 by_cases h : FineQ n s
 ·
  rw [if_pos h]
  unfold FineQ at h
  refine chk_of_wf ⟨⟨fun x hx => ?_, List.pairwise_singleton _ _⟩, fun x hx => ?_⟩ (by simp)
  ·
   cases List.mem_singleton.1 hx; unfold SpOk; simp
  ·
   cases List.mem_singleton.1 hx; simp only; omega
 ·
  rw [if_neg h]
  rcases chk_two [(n, s, s)] with e | e
  ·
   have w := (wf_of_chk e).1.2 (n, s, s) (by simp)
   simp only at w
   exact absurd (by unfold FineQ; omega) h
  ·
   exact e
set_option maxRecDepth 100000 in
theorem hcheck_dot (w : World) (n s : Int) : Calls Tryz.prog 174 #[.agg #[.int .i64 n, .int .i64 s]] w fun e w' => e = .returned (.int .i64 (chkS [(n, s, s)])) ∧ Chg [] w w' := by
 have go : ∀ v, chkS [(n, s, s)] = v → Calls Tryz.prog 174 #[.agg #[.int .i64 n, .int .i64 s]] w (fun e w' => e = .returned (.int .i64 v) ∧ Chg [] w w') → Calls Tryz.prog 174 #[.agg #[.int .i64 n, .int .i64 s]] w fun e w' => e = .returned (.int .i64 (chkS [(n, s, s)])) ∧ Chg [] w w' := fun v e h => by rw [e]; exact h
 have CD := chk_dot n s
 obtain ⟨w1, hw1, c1, b0⟩ := news1 w (.cells #[.int .i64 n, .int .i64 s] 35)
 have W1 := h_ hw1
 have C1 := h_ c1
 obtain ⟨z0, z1⟩ := ce2 b0
 clear hw1 c1 b0
 by_cases h1 : n < 1
 ·
  skip
  refine go 2 (by rw [CD, if_neg (by unfold FineQ; omega)]) ?_
  clear go CD
  go_enter Tryz.func174, Tryz.ntmps174
  go_upto_region 1 with fail
  rw [← W1.out]
  generalize w.heap.size = g0 at *
  go_wp2; go_ret
  exact ⟨rfl, C1.out⟩
 by_cases h2 : 200 < n
 ·
  skip
  refine go 2 (by rw [CD, if_neg (by unfold FineQ; omega)]) ?_
  clear go CD
  go_enter Tryz.func174, Tryz.ntmps174
  go_upto_region 1 with fail
  rw [← W1.out]
  generalize w.heap.size = g0 at *
  go_wp2; go_ret
  exact ⟨rfl, C1.out⟩
 by_cases h3 : s < 1
 ·
  skip
  refine go 2 (by rw [CD, if_neg (by unfold FineQ; omega)]) ?_
  clear go CD
  go_enter Tryz.func174, Tryz.ntmps174
  go_upto_region 1 with fail
  rw [← W1.out]
  generalize w.heap.size = g0 at *
  go_wp2; go_ret
  exact ⟨rfl, C1.out⟩
 by_cases h4 : 2147483647 < s
 ·
  skip
  refine go 2 (by rw [CD, if_neg (by unfold FineQ; omega)]) ?_
  clear go CD
  go_enter Tryz.func174, Tryz.ntmps174
  go_upto_region 1 with fail
  rw [← W1.out]
  generalize w.heap.size = g0 at *
  go_wp2; go_ret
  exact ⟨rfl, C1.out⟩
 refine go 0 (by rw [CD, if_pos (by unfold FineQ; omega)]) ?_
 clear go CD
 go_enter Tryz.func174, Tryz.ntmps174
 go_upto_region 1 with fail
 rw [← W1.out]
 generalize w.heap.size = g0 at *
 go_wp2; go_ret
 exact ⟨rfl, C1.out⟩
end
section
def kE (x y : Bool) : Bool := x || y
def boundP (l : List Sp) : Int × List Sp := if 4000 < l.length then (8, []) else (0, l)
def joinE (a b : List Sp) : Int × List Sp := if chkS a = 0 ∧ chkS b = 0 then boundP (tidyS (a ++ b)) else (2, [])
theorem memb_iff {l : List Sp} {n s : Int} : memb l n s = true ↔ Mem l n s := by unfold memb; simp
theorem join_eq {a b pre : List Sp} (ha : WfC a) (hb : WfC b) (h : SwInv kE a b [] [] pre) : pre.foldl pushP [] = tidyS (a ++ b) := by
 obtain ⟨c, d⟩ := h.done (by rfl)
 obtain ⟨e, f⟩ := tidy_norm (l := a ++ b) (fun x hx => (List.mem_append.1 hx).elim (fun q => ha.1.1 x q) (fun q => hb.1.1 x q))
 refine norm_ext c e (fun n s => ?_)
 rw [d n s, f n s, mem_append]
 unfold kE
 rw [Bool.or_eq_true, memb_iff, memb_iff]
end
section
open Go.RowKit Go.Lib

theorem bounded_few (w : World) (A : Option Addr) (n c : Nat) (h : n ≤ 4000) :
  Calls Tryz.prog 213 #[.slice A n c] w fun e w' => e = .returned (.tuple #[.slice A n c, .int .i64 0]) ∧ Chg [] w w' := by
 go_enter Tryz.func213, Tryz.ntmps213
 go_wp2; go_ret2
 exact ⟨rfl, Chg.refl _ _⟩
theorem bounded_many (w : World) (A : Option Addr) (n c : Nat) (h : 4000 < n) :
  Calls Tryz.prog 213 #[.slice A n c] w fun e w' => e = .returned (.tuple #[.slice none 0 0, .int .i64 8]) ∧ Chg [] w w' := by
 go_enter Tryz.func213, Tryz.ntmps213
 go_wp2; go_ret2
 exact ⟨rfl, Chg.refl _ _⟩
theorem alone_any (w : World) (n s : Int) : Calls Tryz.prog 167 #[.agg #[.int .i64 n, .int .i64 s]] w fun e w' => e = .returned (.agg #[.int .i64 n, .int .i64 s, .int .i64 s]) ∧ Chg [] w w' := by
 go_enter Tryz.func167, Tryz.ntmps167
 go_wp2
 refine bodyPost_ret (v := .agg #[.int .i64 n, .int .i64 s, .int .i64 s]) (by simp [results, Tryz.results167, go_sem]) rfl ?_
 exact ⟨rfl, ((Chg.refl [] w).alloc _).alloc _⟩
end
section
open Go.RowKit Go.Lib


theorem rd_oneS {w : World} {g : Nat} {x : Int × Int × Int} (h : w.heap[g]? = some (.cells #[.int .i64 x.1, .int .i64 x.2.1, .int .i64 x.2.2] 81)) : RdK spanTy w (some ⟨g, 0, none⟩) 1 [x] :=
 ⟨rfl, fun j v hj => ⟨_, rfl, by rw [add_zero_lit, cell_of h j]; simpa [RowTy.flat, spanTy] using hj⟩⟩

set_option maxRecDepth 100000 in
theorem push_first (w : World) (c : Nat) (n f t : Int) (A : Option Addr) (h : OwnK spanTy w A c []) : Calls Tryz.prog 212 #[.slice A 0 c, .agg #[.int .i64 n, .int .i64 f, .int .i64 t]] w fun e w' => ∃ A' c', e = .returned (.slice A' 1 c') ∧ OwnK spanTy w' A' c' [(n, f, t)] ∧ (A' = A ∨ ∀ a, A' = some a → w.heap.size ≤ a.block) ∧ ∀ S : List Nat, (∀ a, A = some a → a.block ∈ S) → Chg S w w' := by
 have HO := h_ h
 clear h
 have C := h_ (Chg.refl [] w)
 obtain ⟨w1, hw1, cw1, b_B0⟩ := news1 w (.cells #[.int .i64 n, .int .i64 f, .int .i64 t] 81)
 have Ww1 := h_ hw1
 have l_B0 := lt_of_heap b_B0
 replace C := h_ (C.out.trans cw1)
 replace HO := h_ (HO.out.chg cw1 (by simp))
 have B0 := h_ (b_B0)
 clear hw1 cw1 b_B0
 go_enter Tryz.func212, Tryz.ntmps212
 go_upto_region 6 with fail
 rw [← Ww1.out]
 generalize w.heap.size = b0 at *
 clear Ww1
 obtain ⟨w2, hw2, c2, b1⟩ := news1 w1 (.cells #[.int .i64 n, .int .i64 f, .int .i64 t] 81)
 have W2 := h_ hw2
 have HR := h_ (rd_oneS (x := (n, f, t)) b1)
 have HO2 := h_ (HO.out.chg c2 (by simp))
 have C2 := h_ (C.out.trans c2)
 clear hw2 c2 b1
 obtain ⟨z_B0_0, z_B0_1, z_B0_2⟩ := ce3 B0.out
 go_wp2_with (at_builtin; rw [← W2.out]; refine wpList_appK rfl _ _ rfl rfl HO2.out rfl rfl HR.out (by decide) ?_; intro A3 c3 w3 u3 d3 e3)
 go_ret
 refine ⟨A3, c3, rfl, by simpa using u3, ?_, fun S hS => ?_⟩
 ·
  rcases e3 with e | e
  ·
   exact .inl e
  ·
   right; intro a ha; rw [e] at ha; cases ha; exact C2.out.size
 ·
  refine (C2.out.mono (by simp)).grown d3 ?_
  intro k hk
  cases A with
  | none => simp at hk
  | some a => simp at hk; subst hk; exact .inl (hS a rfl)
end
section
open Go.RowKit Go.Lib



set_option maxRecDepth 100000 in
theorem push_apart (w : World) (c : Nat) (n f t : Int) (A : Option Addr) (xs : List (Int × Int × Int)) (y : Int × Int × Int) (h : OwnK spanTy w A c xs) (hx : 0 < xs.length) (hn : xs.length ≤ 100000) (hy : xs[xs.length - 1]? = some y) (y1 : -2147483648 ≤ y.2.2) (y2 : y.2.2 ≤ 2147483647) (ha : ApartS y.1 y.2.2 n f) : Calls Tryz.prog 212 #[.slice A xs.length c, .agg #[.int .i64 n, .int .i64 f, .int .i64 t]] w fun e w' => ∃ A' c', e = .returned (.slice A' (xs.length + 1) c') ∧ OwnK spanTy w' A' c' (xs ++ [(n, f, t)]) ∧ (A' = A ∨ ∀ a, A' = some a → w.heap.size ≤ a.block) ∧ ∀ S : List Nat, (∀ a, A = some a → a.block ∈ S) → Chg S w w' := by
 have HO := h_ h
 obtain ⟨g, o, eA, _⟩ := h.reads.line hx
 have eo : o = 0 := by
  rcases h.shape with ⟨h1, _⟩ | ⟨g', h1, _⟩
  ·
   rw [h1] at eA; cases eA
  ·
   rw [h1] at eA; cases eA; rfl
 subst eo; subst eA
 have EY := h_ hy
 clear h hy
 have C := h_ (Chg.refl [] w)
 have hA : decide (ApartS y.1 y.2.2 n f) = true := decide_eq_true ha
 have LA := h_ (fun w => apart_any w y.1 y.2.1 y.2.2 n f t y1 y2)
 rw [hA] at LA
 clear hA ha
 have k1 : (0 : Int) < (xs.length : Int) := by omega
 have k2 : ((xs.length : Int) - 1) = ((xs.length - 1 : Nat) : Int) := by omega
 have k3 : ((xs.length - 1 : Nat) : Int) < (xs.length : Int) := by omega
 have k4 : (0 : Int) ≤ ((xs.length - 1 : Nat) : Int) := by omega
 have k5 : IntKind.i64.wrap ((xs.length - 1 : Nat) : Int) = ((xs.length - 1 : Nat) : Int) := IntWalk.i64_in _ (by omega)
 have k6 : decide (0 < xs.length) = true := by simp; omega
 have k7 : decide ((0 : Int) < (xs.length : Int)) = true := by simp; omega
 have N4 := h_ (show (xs.length + 1) * 400 ≤ 140737488355327 by omega)
 obtain ⟨w1, hw1, cw1, b_B0⟩ := news1 w (.cells #[.int .i64 n, .int .i64 f, .int .i64 t] 81)
 have Ww1 := h_ hw1
 have l_B0 := lt_of_heap b_B0
 replace C := h_ (C.out.trans cw1)
 replace HO := h_ (HO.out.chg cw1 (by simp))
 have B0 := h_ (b_B0)
 clear hw1 cw1 b_B0
 go_enter Tryz.func212, Tryz.ntmps212
 go_upto_region 3 with fail
 rw [← Ww1.out]
 generalize w.heap.size = b0 at *
 clear Ww1
 have HY0 := h_ (fun (w' : World) (hc : Chg [] w1 w') => spanCells (HO.out.reads.chg hc (by simp)) EY.out)
 have hc0 : ∀ w', Chg [] w1 w' → w'.cell? ⟨b0, 0, none⟩ = some (.int .i64 n) ∧ w'.cell? ⟨b0, 1, none⟩ = some (.int .i64 f) ∧ w'.cell? ⟨b0, 2, none⟩ = some (.int .i64 t) := by
  intro w' hc
  have b1 := hc.at_ B0.out (by simp)
  exact ⟨cell_of b1 0, cell_of b1 1, cell_of b1 2⟩
 have HC0 := h_ hc0
 clear hc0
 refine wp_region_held_drew (S := fun w' => Chg [] w1 w') (by kernel_rfl) (Chg.refl [] w1).drew (fun hHeld => ?_)
 refine step_yes 0 14 ?_ (by assumption) rfl rfl (by kernel_rfl) (by kernel_rfl) (by kernel_rfl) (fun _ _ _ h => h) (by rfl) ?_ ?_
 rotate_left
 ·
  (intro w hSw; (try dsimp only at hSw); go_simp; try with_reducible rfl)
 try simp only [Act.put, sA, s0, s1]
 refine step_yes 1 15 ?_ (by assumption) rfl rfl (by kernel_rfl) (by kernel_rfl) (by kernel_rfl) (fun _ _ _ h => h) (by rfl) ?_ ?_
 rotate_left
 ·
  (intro w hSw; (try dsimp only at hSw); go_simp; try with_reducible rfl)
 try simp only [Act.put, sA, s0, s1]
 refine step_yes 2 16 ?_ (by assumption) rfl rfl (by kernel_rfl) (by kernel_rfl) (by kernel_rfl) (fun _ _ _ h => h) (by rfl) ?_ ?_
 rotate_left
 ·
  (intro w hSw; (try dsimp only at hSw); have hq := HY0.out _ hSw; obtain ⟨q0, q1, q2⟩ := hq; simp only [Nat.zero_add] at q0 q1 q2; go_simp; try with_reducible rfl)
 try simp only [Act.put, sA, s0, s1]
 refine step_yes 3 17 ?_ (by assumption) rfl rfl (by kernel_rfl) (by kernel_rfl) (by kernel_rfl) (fun _ _ _ h => h) (by rfl) ?_ ?_
 rotate_left
 ·
  (intro w hSw; (try dsimp only at hSw); have hq := HC0.out _ hSw; obtain ⟨q0, q1, q2⟩ := hq; go_simp; try with_reducible rfl)
 try simp only [Act.put, sA, s0, s1]
 refine on1 4 rfl (fun K hK => ?_)
 go_simp
 refine (LA.out _).mono ?_
 rintro e w9 ⟨rfl, hc⟩
 have C9 := h_ (hHeld.trans hc)
 clear hc hHeld
 refine hK.out _ _ C9.out (fun hHeld => ?_)
 clear hK K; try simp only [Act.put, sA, s0, s1]
 refine step_yes 5 19 ?_ (by assumption) rfl rfl (by kernel_rfl) (by kernel_rfl) (by kernel_rfl) (fun _ _ _ h => h) (by rfl) ?_ ?_
 rotate_left
 ·
  (intro w hSw; (try dsimp only at hSw); go_simp; try with_reducible rfl)
 try simp only [Act.put, sA, s0, s1]
 refine wpAnyH_done (by kernel_rfl) ?_ _
 replace B0 := h_ (C9.out.at_ B0.out (by simp))
 replace HO := h_ (HO.out.chg C9.out (by simp))
 replace C := h_ (C.out.trans C9.out)
 clear HY0 HC0 C9 hHeld
 go_upto_region 6 with fail
 obtain ⟨w2, hw2, c2, b1⟩ := news1 w9 (.cells #[.int .i64 n, .int .i64 f, .int .i64 t] 81)
 have W2 := h_ hw2
 have HR := h_ (rd_oneS (x := (n, f, t)) b1)
 have HO2 := h_ (HO.out.chg c2 (by simp))
 have C2 := h_ (C.out.trans c2)
 clear hw2 c2 b1
 obtain ⟨z_B0_0, z_B0_1, z_B0_2⟩ := ce3 B0.out
 go_wp2_with (at_builtin; rw [← W2.out]; refine wpList_appK rfl _ _ rfl rfl HO2.out rfl rfl HR.out N4.out ?_; intro A3 c3 w3 u3 d3 e3)
 go_ret
 refine ⟨A3, c3, rfl, u3, ?_, fun S hS => ?_⟩
 ·
  rcases e3 with e | e
  ·
   exact .inl e
  ·
   right; intro a ha; rw [e] at ha; cases ha; exact C2.out.size
 ·
  refine (C2.out.mono (by simp)).grown d3 ?_
  intro k hk
  simp at hk; subst hk; exact .inl (hS _ rfl)
end
section
open Go.RowKit Go.Lib


theorem spanSetTo (y : Int × Int × Int) (v : Int) : ∀ q, q < spanTy.k → (spanTy.enc (y.1, y.2.1, v))[q]? = if q = 2 then some (.int .i64 v) else (spanTy.enc y)[q]?
 | 0, _ => rfl
 | 1, _ => rfl
 | 2, _ => rfl
 | q + 3, h => absurd h (by have : spanTy.k = 3 := rfl; omega)
theorem own_free {w : World} {g c : Nat} {xs : List (Int × Int × Int)} (h : OwnK spanTy w (some ⟨g, 0, none⟩) c xs) (j : Nat) : w.frozen? ⟨g, j, none⟩ = false := by
 rcases h with ⟨h, _⟩ | ⟨g', full, e, hg, _⟩
 ·
  cases h
 ·
  cases e; exact free_of hg j
set_option maxRecDepth 100000 in
theorem push_touches (w : World) (c : Nat) (n f t : Int) (A : Option Addr) (xs : List (Int × Int × Int)) (y : Int × Int × Int) (h : OwnK spanTy w A c xs) (hx : 0 < xs.length) (hn : xs.length ≤ 100000) (hy : xs[xs.length - 1]? = some y) (y1 : -2147483648 ≤ y.2.2) (y2 : y.2.2 ≤ 2147483647) (ha : ¬ ApartS y.1 y.2.2 n f) : Calls Tryz.prog 212 #[.slice A xs.length c, .agg #[.int .i64 n, .int .i64 f, .int .i64 t]] w fun e w' => e = .returned (.slice A xs.length c) ∧ OwnK spanTy w' A c (xs.set (xs.length - 1) (y.1, y.2.1, max y.2.2 t)) ∧ ∀ S : List Nat, (∀ a, A = some a → a.block ∈ S) → Chg S w w' := by

 have HO := h_ h
 obtain ⟨g, o, eA, _⟩ := h.reads.line hx
 have eo : o = 0 := by
  rcases h.shape with ⟨h1, _⟩ | ⟨g', h1, _⟩
  ·
   rw [h1] at eA; cases eA
  ·
   rw [h1] at eA; cases eA; rfl
 subst eo; subst eA
 have EY := h_ hy
 have HG := h_ (h.lt ⟨g, 0, none⟩ rfl)
 clear h hy
 have C := h_ (Chg.refl [] w)
 have hA : decide (ApartS y.1 y.2.2 n f) = false := decide_eq_false ha
 have LA := h_ (fun w => apart_any w y.1 y.2.1 y.2.2 n f t y1 y2)
 rw [hA] at LA
 clear hA ha
 have k1 : (0 : Int) < (xs.length : Int) := by omega
 have k2 : ((xs.length : Int) - 1) = ((xs.length - 1 : Nat) : Int) := by omega
 have k3 : ((xs.length - 1 : Nat) : Int) < (xs.length : Int) := by omega
 have k4 : (0 : Int) ≤ ((xs.length - 1 : Nat) : Int) := by omega
 have k5 : IntKind.i64.wrap ((xs.length - 1 : Nat) : Int) = ((xs.length - 1 : Nat) : Int) := IntWalk.i64_in _ (by omega)
 have k6 : decide (0 < xs.length) = true := by simp; omega
 have k7 : decide ((0 : Int) < (xs.length : Int)) = true := by simp; omega
 obtain ⟨w1, hw1, cw1, b_B0⟩ := news1 w (.cells #[.int .i64 n, .int .i64 f, .int .i64 t] 81)
 have Ww1 := h_ hw1
 have l_B0 := lt_of_heap b_B0
 replace C := h_ (C.out.trans cw1)
 replace HO := h_ (HO.out.chg cw1 (by simp))
 have B0 := h_ (b_B0)
 clear hw1 cw1 b_B0
 go_enter Tryz.func212, Tryz.ntmps212
 go_upto_region 3 with fail
 rw [← Ww1.out]
 generalize w.heap.size = b0 at *
 clear Ww1
 have HY0 := h_ (fun (w' : World) (hc : Chg [] w1 w') => spanCells (HO.out.reads.chg hc (by simp)) EY.out)
 have hc0 : ∀ w', Chg [] w1 w' → w'.cell? ⟨b0, 0, none⟩ = some (.int .i64 n) ∧ w'.cell? ⟨b0, 1, none⟩ = some (.int .i64 f) ∧ w'.cell? ⟨b0, 2, none⟩ = some (.int .i64 t) := by
  intro w' hc
  have b1 := hc.at_ B0.out (by simp)
  exact ⟨cell_of b1 0, cell_of b1 1, cell_of b1 2⟩
 have HC0 := h_ hc0
 clear hc0
 refine wp_region_held_drew (S := fun w' => Chg [] w1 w') (by kernel_rfl) (Chg.refl [] w1).drew (fun hHeld => ?_)
 refine sy 0 14 rfl rfl ?_; try simp only [Act.put, sA, s0, s1]
 refine sy 1 15 rfl rfl ?_; try simp only [Act.put, sA, s0, s1]
 refine sy 2 16 rfl rfl ?_ (hy := by (intro w hSw; (try dsimp only at hSw); have hq := HY0.out _ hSw; obtain ⟨q0, q1, q2⟩ := hq; simp only [Nat.zero_add] at q0 q1 q2; go_simp; try with_reducible rfl))
 try simp only [Act.put, sA, s0, s1]
 refine sy 3 17 rfl rfl ?_ (hy := by (intro w hSw; (try dsimp only at hSw); have hq := HC0.out _ hSw; obtain ⟨q0, q1, q2⟩ := hq; go_simp; try with_reducible rfl))
 try simp only [Act.put, sA, s0, s1]
 refine on1 4 rfl (fun K hK => ?_)
 go_simp
 refine (LA.out _).mono ?_
 rintro e w9 ⟨rfl, hc⟩
 have C9 := h_ (hHeld.trans hc)
 clear hc hHeld
 refine hK.out _ _ C9.out (fun hHeld => ?_)
 clear hK K; try simp only [Act.put, sA, s0, s1]
 refine sy 5 19 rfl rfl ?_; try simp only [Act.put, sA, s0, s1]
 refine wpAnyH_done (by kernel_rfl) ?_ _
 replace B0 := h_ (C9.out.at_ B0.out (by simp))
 replace HO := h_ (HO.out.chg C9.out (by simp))
 replace C := h_ (C.out.trans C9.out)
 clear HY0 HC0 C9 hHeld
 go_upto_region 4 with fail
 have zt := cell_of B0.out 2
 simp only [gA, gY, gZ] at zt
 refine wp_region_held_drew (S := fun w' => w'.cell? ⟨b0, 2, none⟩ = some (.int .i64 t)) (by kernel_rfl) zt (fun hHeld => ?_)
 have CD := h_ (Chg.refl [] w9).drew
 have ZT : w9.drew.cell? ⟨b0, 2, none⟩ = some (.int .i64 t) := CD.out.cell zt (by simp)
 replace HO := h_ (HO.out.chg CD.out (by simp))
 replace C := h_ (C.out.trans CD.out)
 have BG : Hid (b0 ≠ g) := h_ (by have := HG.out; simp only at this; omega)
 have SPC := h_ (spanCells HO.out.reads EY.out)
 have FR := h_ (own_free HO.out ((xs.length - 1) * 3 + 2))
 clear CD zt B0
 generalize w9.drew = wd at *
 refine sy 0 20 rfl rfl ?_; try simp only [Act.put, sA, s0, s1]
 refine sy 1 21 rfl rfl ?_; try simp only [Act.put, sA, s0, s1]
 refine sy 2 22 rfl rfl ?_; try simp only [Act.put, sA, s0, s1]
 refine sy 3 23 rfl rfl ?_; try simp only [Act.put, sA, s0, s1]
 refine sy 5 25 rfl rfl ?_; try simp only [Act.put, sA, s0, s1]
 refine sy 6 26 rfl rfl ?_ (hy := by (intro w hSw; (try dsimp only at hSw); have q := hSw; go_simp; try with_reducible rfl))
 try simp only [Act.put, sA, s0, s1]
 refine on1 4 rfl (fun K hK => ?_)
 have z := SPC.out.2.2
 rw [Nat.zero_add] at z
 go_simp; clear z hHeld
 refine hK.out _ _ ZT (fun hHeld => ?_)
 clear hK K; try simp only [Act.put, sA, s0, s1]
 refine sy 7 27 rfl rfl ?_; try simp only [Act.put, sA, s0, s1]
 refine sy 8 28 rfl rfl ?_; try simp only [Act.put, sA, s0, s1]
 refine sy 9 29 rfl rfl ?_; try simp only [Act.put, sA, s0, s1]
 refine on1 10 rfl (fun K hK => ?_)
 have z := SPC.out.2.2
 rw [Nat.zero_add] at z
 have fz := FR.out
 skip; go_simp; clear z fz hHeld
 refine hK.out _ _ (((Chg.refl [g] wd).setCell (p := ⟨g, (xs.length - 1) * 3 + 2, none⟩) (.inl (by simp)) _).cell ZT (by simp; exact BG.out)) (fun hHeld => ?_)
 clear hK K; try simp only [Act.put, sA, s0, s1]
 refine wpAnyH_done (by kernel_rfl) ?_ _
 have HX : Hid (∀ v : Int, v = max y.2.2 t → OwnK spanTy (wd.setCell ⟨g, (xs.length - 1) * 3 + 2, none⟩ (.int .i64 v)) (some ⟨g, 0, none⟩) c (xs.set (xs.length - 1) (y.1, y.2.1, max y.2.2 t)) ∧ ∀ S : List Nat, g ∈ S → Chg S w (wd.setCell ⟨g, (xs.length - 1) * 3 + 2, none⟩ (.int .i64 v))) := h_ (fun v hv => by
  subst hv
  exact ⟨HO.out.setc (xs.length - 1) 2 y (y.1, y.2.1, max y.2.2 t) (.int .i64 (max y.2.2 t)) EY.out (by decide) (spanSetTo y _), fun S hS => (C.out.mono (by simp)).trans ((Chg.refl [g] wd).setCell (p := ⟨g, (xs.length - 1) * 3 + 2, none⟩) (.inl (by simp)) (.int .i64 (max y.2.2 t)) |>.mono (fun i hi => by simp at hi; subst hi; exact .inl hS))⟩)
 clear hHeld; go_wp2
 all_goals
  go_ret
  exact ⟨rfl, (HX.out _ (by omega)).1, fun S hS => (HX.out _ (by omega)).2 S (by simpa using hS)⟩
end
end Go.Proofs.YtehmchdhlhchjaaGreatDoor
