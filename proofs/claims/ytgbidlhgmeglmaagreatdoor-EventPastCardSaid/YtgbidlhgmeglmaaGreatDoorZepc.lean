/- past.Has: how a span lies to a dot. past.Has: a dot is looked for. past.Has. past: Count, Last. The document's Check of a past. The document's Has, Count, Last. The document's ahead. The document's Check of a dot, as the past sees it. What is joined, and left: plain functions. No function of the program is named here. past.bounded, past.alone. past.push. past.push behind a span. A row of structs: one cell of one of them is stored. No program here. past.push onto the last span. -/
import Derived.Test.YtgbidlhgmeglmaaGreatDoorZepb
import Derived.Deep.Cut
import Derived.Deep.QuietTactic
import Derived.BigQuiet
import Derived.RegionTactic
import Derived.Deep.RegionHeld3
import Derived.Test.YtgbidlhgmeglmaaGreatDoorZepa
namespace Go.Proofs.YtgbidlhgmeglmaaGreatDoor
section
open Go.RowKit Go.Lib
set_option linter.unusedSimpArgs false
set_option linter.unusedVariables false
end
section
open Go.RowKit Go.Lib
set_option linter.unusedSimpArgs false
set_option linter.unusedVariables false
end
section
open Go.RowKit Go.Lib
set_option linter.unusedSimpArgs false
set_option linter.unusedVariables false


def hasE (xs : List Sp) (n s : Int) : Bool := decide (chkS xs = 0) && decide (Mem xs n s)
end
section
open Go.RowKit Go.Lib
set_option linter.unusedSimpArgs false
set_option linter.unusedVariables false


def lastL (node : Int) (xs : List Sp) : Int := xs.foldl (fun n x => if x.1 = node then x.2.2 else n) 0
theorem last_snoc (node : Int) (xs : List Sp) (x : Sp) : lastL node (xs ++ [x]) = if x.1 = node then x.2.2 else lastL node xs := by simp [lastL]
def Fin (xs : List Sp) : Prop := ∀ x ∈ xs, B3 x
theorem fin_of {xs : List Sp} (h : WfC xs) : Fin xs := fun x hx => by
 have := h.2 x hx
 have o := h.1.1 x hx
 unfold B3 SpOk at *
 omega
set_option maxRecDepth 100000 in
theorem laststep_any (w : World) (n : Int) (x : Sp) (b : Nat) (node : Int) (hb : w.heap[b]? = some (.cells #[.int .i64 node] 3 (0, 0))) : Calls Tryz.prog 102 #[.int .i64 n, .agg #[.int .i64 x.1, .int .i64 x.2.1, .int .i64 x.2.2], .pointer (some ⟨b, 0, none⟩)] w fun e w' => e = .returned (.int .i64 (if x.1 = node then x.2.2 else n)) ∧ Chg [] w w' := by
 obtain ⟨w1, hw1, c1, b1⟩ := news1 w (.cells #[.int .i64 x.1, .int .i64 x.2.1, .int .i64 x.2.2] 62)
 have z := cell_of (c1.at_ hb (by simp)) 0
 simp only [List.getElem?_toArray, List.getElem?_cons_zero] at z
 have W1 := Lib.hid hw1
 have C1 := Lib.hid c1
 have y0 := cell_of b1 0
 have y2 := cell_of b1 2
 simp only [List.getElem?_toArray, List.getElem?_cons_succ, List.getElem?_cons_zero] at y0 y2
 clear hw1 c1 b1 hb
 by_cases h : x.1 = node
 ·
  rw [if_pos h]
  have q : ((x.1 == node) : Bool) = true := by simpa using h
  clear h
  go_enter Tryz.func102, Tryz.ntmps102
  go_upto_region 1 with fail
  rw [← W1.out]
  generalize w.heap.size = g0 at *
  go_wp2
  go_ret
  exact ⟨rfl, C1.out⟩
 ·
  rw [if_neg h]
  have q : ((x.1 == node) : Bool) = false := by simpa using h
  clear h
  go_enter Tryz.func102, Tryz.ntmps102
  go_upto_region 1 with fail
  rw [← W1.out]
  generalize w.heap.size = g0 at *
  go_wp2
  go_ret
  exact ⟨rfl, C1.out⟩
set_option maxRecDepth 100000 in
set_option maxHeartbeats 4000000 in
theorem foldlast_any (w : World) (A : Option Addr) (c : Nat) (xs : List Sp) (b : Nat) (node : Int) (h : RdK spanTy w A xs.length xs) (hn : xs.length ≤ 4000) (hb : w.heap[b]? = some (.cells #[.int .i64 node] 3 (0, 0))) :
  Calls Tryz.prog 101 #[.slice A xs.length c, .int .i64 0, .func (.func 102) #[] #[.pointer (some ⟨b, 0, none⟩)]] w fun e w' => e = .returned (.int .i64 (lastL node xs)) ∧ Chg [] w w' := by
 have HX := Lib.hid h
 have HY := Lib.hid (hb)
 clear h hb
 go_enter Tryz.func101, Tryz.ntmps101
 go_wp2
 go_loopw [1, 11] (fun v1 v11 wr => ∃ (k : Nat), k ≤ xs.length ∧ v1 = .int .i64 (lastL node (xs.take k)) ∧ v11 = .int .i64 k ∧ Hid (Chg [] w wr)) (fun _ v11 _ => xs.length - (RowKit.intOf v11).toNat)
 case atStart => exact ⟨0, Nat.zero_le _, rfl, rfl, Chg.refl _ _⟩
 case round =>
  obtain ⟨k, hk, rfl, rfl, HI⟩ := hrel
  generalize wr = w4 at *
  clear wr
  by_cases hlt : k < xs.length
  ·
   have ex := List.getElem?_eq_getElem hlt
   obtain ⟨g, o, eA, _⟩ := HX.out.line (by omega)
   subst eA
   have R4 := HX.out.chg HI.out (by simp)
   generalize hxx : xs[k] = x at *
   obtain ⟨q0, q1, q2⟩ := spanCells R4 ex
   have i0 : (0 : Int) ≤ (k : Int) := by omega
   have i1 : (k : Int) < (xs.length : Int) := by omega
   have e2 : lastL node (xs.take (k + 1)) = if x.1 = node then x.2.2 else lastL node (xs.take k) := by rw [List.take_add_one, ex]; exact last_snoc _ _ _
   have E2 := Lib.hid e2
   have EX := Lib.hid ex
   have LK := Lib.hid (show (xs.take k).length ≤ 4000 by rw [List.length_take]; omega)
   have SUB := Lib.hid (fun y (hy : y ∈ xs.take k) => List.mem_of_mem_take hy)
   clear R4 ex e2 hxx
   generalize hm : lastL node (xs.take k) = m at *
   have HM := Lib.hid hm
   clear hm
   obtain ⟨w5, hw5, c5, b5⟩ := news1 w4 (.cells #[.int .i64 x.1, .int .i64 x.2.1, .int .i64 x.2.2] 62)
   have W5 := Lib.hid hw5
   have B5 := Lib.hid b5
   have C5 := Lib.hid (HI.out.trans c5)
   clear hw5 c5
   go_upto_region 4 with fail
   rw [← W5.out]
   generalize w4.heap.size = g4 at *
   have y0 := cell_of B5.out 0
   have y1 := cell_of B5.out 1
   have y2 := cell_of B5.out 2
   simp only [List.getElem?_toArray, List.getElem?_cons_succ, List.getElem?_cons_zero] at y0 y1 y2
   go_wp2_with fail
   refine (laststep_any w5 m x b node (C5.out.at_ HY.out (by simp))).mono ?_
   rintro e w6 ⟨rfl, hcc⟩
   have CE := Lib.hid (C5.out.trans hcc)
   clear hcc q0 q1 q2 y0 y1 y2
   go_wp2
   go_round
   case rel => exact ⟨k + 1, by omega, by rw [E2.out], by go_num, CE.out⟩
   case measure => simp [RowKit.intOf]; omega
  ·
   obtain rfl : k = xs.length := by omega
   rw [show xs.take xs.length = xs from List.take_length]
   go_wp2
   go_ret
   exact ⟨rfl, HI.out⟩
set_option maxHeartbeats 2000000 in
theorem last_any (w : World) (A : Option Addr) (c : Nat) (xs : List Sp) (node : Int) (h : RdK spanTy w A xs.length xs) (hn : xs.length ≤ 140737488351232) :
  Calls Tryz.prog 39 #[.slice A xs.length c, .int .i64 node] w fun e w' => e = .returned (.int .i64 (if chkS xs = 0 then lastL node xs else 0)) ∧ Chg [] w w' := by
 have H := Lib.hid h
 have HN := Lib.hid hn
 clear h hn
 rcases chk_two xs with e1 | e1
 ·
  rw [if_pos e1]
  have WF := Lib.hid (wf_of_chk e1)
  obtain ⟨w0, hw0, c0, b0⟩ := news1 w (.cells #[.int .i64 node] 3)
  have W0 := Lib.hid hw0
  have C0 := Lib.hid c0
  have B0 := Lib.hid b0
  replace H := Lib.hid (H.out.chg c0 (by simp))
  clear hw0 c0 b0
  go_enter Tryz.func39, Tryz.ntmps39
  go_wp2_with fail
  rw [← W0.out]
  generalize w.heap.size = g0 at *
  refine (pacheck_any w0 A _ c xs H.out HN.out).mono ?_
  rintro e w1 ⟨rfl, h1⟩
  rw [e1]
  have C1 := Lib.hid h1
  clear h1
  go_wp2_with fail
  refine (foldlast_any w1 A c xs g0 node (H.out.chg C1.out (by simp)) WF.out.2 (C1.out.at_ B0.out (by simp))).mono ?_
  rintro e w2 ⟨rfl, h2⟩
  have C2 := Lib.hid (C1.out.trans h2)
  clear h2
  go_wp2
  go_ret
  exact ⟨rfl, C0.out.trans C2.out⟩
 ·
  rw [if_neg (by omega)]
  obtain ⟨w0, hw0, c0, b0⟩ := news1 w (.cells #[.int .i64 node] 3)
  have W0 := Lib.hid hw0
  have C0 := Lib.hid c0
  have B0 := Lib.hid b0
  replace H := Lib.hid (H.out.chg c0 (by simp))
  clear hw0 c0 b0
  go_enter Tryz.func39, Tryz.ntmps39
  go_wp2_with fail
  rw [← W0.out]
  generalize w.heap.size = g0 at *
  refine (pacheck_any w0 A _ c xs H.out HN.out).mono ?_
  rintro e w1 ⟨rfl, h1⟩
  rw [e1]
  have C1 := Lib.hid h1
  clear h1
  go_wp2
  go_ret
  exact ⟨rfl, C0.out.trans C1.out⟩
end
section
open Go.RowKit Go.Lib
set_option linter.unusedSimpArgs false
set_option linter.unusedVariables false



set_option maxHeartbeats 8000000 in
set_option maxRecDepth 100000 in
theorem qacheck_any (w : World) (A : Option Addr) (n c : Nat) (xs : List (Int × Int × Int)) (h : RdK spanTy w A n xs) (hn : n ≤ 140737488351232) : Calls Tryz.prog 66 #[.slice A n c] w fun e w' => e = .returned (.int .i64 (chkS xs)) ∧ Chg [] w w' := by
 have go : ∀ v, chkS xs = v → Calls Tryz.prog 66 #[.slice A n c] w (fun e w' => e = .returned (.int .i64 v) ∧ Chg [] w w') → Calls Tryz.prog 66 #[.slice A n c] w fun e w' => e = .returned (.int .i64 (chkS xs)) ∧ Chg [] w w' := fun v hv h => hv ▸ h
 have hl := h.len
 subst hl
 by_cases hbig : 4000 < xs.length
 ·
  refine go 2 (if_neg (by omega)) ?_
  clear go h
  go_enter Tryz.func66, Tryz.ntmps66
  go_wp2
  go_ret
  exact ⟨rfl, Chg.refl _ _⟩
 ·
  skip
  have HX := Lib.hid h
  have hV : chkS xs = if okFrom none xs = true then 0 else 2 := by unfold chkS; by_cases ho : okFrom none xs = true <;> simp [ho] <;> omega
  have HV := Lib.hid hV
  clear h go
  generalize chkS xs = V at *
  clear hV
  go_enter Tryz.func66, Tryz.ntmps66
  go_wp2
  go_loopw [3] (fun i wr => ∃ (k : Nat), k ≤ xs.length ∧ i = .int .i64 k ∧ Hid (Chg [] w wr ∧ okFrom none xs = okFrom (prevS xs k) (xs.drop k) ∧ ∀ y, prevS xs k = some y → FineS y.1 y.2.1 y.2.2)) (fun i _ => xs.length - (RowKit.intOf i).toNat)
  case atStart => exact ⟨0, Nat.zero_le _, rfl, Chg.refl _ _, rfl, by unfold prevS; simp⟩
  case round =>
   obtain ⟨k, hk, rfl, HI⟩ := hrel
   generalize wr = w1 at *
   clear wr
   by_cases hlt : k < xs.length
   ·
    skip
    obtain ⟨g, o, eA, _⟩ := HX.out.line (by omega)
    subst eA
    have ex := List.getElem?_eq_getElem hlt
    generalize xs[k] = x at *
    have EX := Lib.hid ex
    have hok := okFrom_next xs k x ex
    have HOK := Lib.hid (HI.out.2.1.trans hok)
    clear ex hok
    have i0 : (0 : Int) ≤ (k : Int) := by omega
    have i1 : (k : Int) < (xs.length : Int) := by omega
    have hcc := spanCells (HX.out.chg HI.out.1 (by simp)) EX.out
    obtain ⟨p0, p1, p2⟩ := hcc
    have CW := Lib.hid HI.out.1
    obtain ⟨w2, hw2, cw2, b_B0⟩ := news1 w1 (.cells #[.int .i64 x.1, .int .i64 x.2.1, .int .i64 x.2.2] 62)
    have Ww2 := Lib.hid hw2
    have l_B0 := lt_of_heap b_B0
    replace CW := Lib.hid (CW.out.trans cw2)
    have B0 := Lib.hid (b_B0)
    clear hw2 cw2 b_B0
    go_upto_region 7 with fail
    rw [← Ww2.out]
    generalize w1.heap.size = b at *
    clear Ww2
    clear p0 p1 p2
    have z_B0_0 := cell_of B0.out 0
    have z_B0_1 := cell_of B0.out 1
    have z_B0_2 := cell_of B0.out 2
    simp only [List.getElem?_toArray, List.getElem?_cons_succ, List.getElem?_cons_zero] at z_B0_0 z_B0_1 z_B0_2
    by_cases f1 : x.1 < 1
    ·
     have hd : decide (FineS x.1 x.2.1 x.2.2) = false := decide_eq_false (by unfold FineS; omega)
     have hv2 : ¬ okFrom none xs = true := by rw [HOK.out, hd]; simp
     have HV2 : V = 2 := HV.out.trans (if_neg hv2)
     subst HV2
     clear hv2 hd
     go_wp2
     go_ret
     exact ⟨rfl, CW.out⟩
    by_cases f2 : 200 < x.1
    ·
     have hd : decide (FineS x.1 x.2.1 x.2.2) = false := decide_eq_false (by unfold FineS; omega)
     have hv2 : ¬ okFrom none xs = true := by rw [HOK.out, hd]; simp
     have HV2 : V = 2 := HV.out.trans (if_neg hv2)
     subst HV2
     clear hv2 hd
     go_wp2
     go_ret
     exact ⟨rfl, CW.out⟩
    by_cases f3 : x.2.1 < 1
    ·
     have hd : decide (FineS x.1 x.2.1 x.2.2) = false := decide_eq_false (by unfold FineS; omega)
     have hv2 : ¬ okFrom none xs = true := by rw [HOK.out, hd]; simp
     have HV2 : V = 2 := HV.out.trans (if_neg hv2)
     subst HV2
     clear hv2 hd
     go_wp2
     go_ret
     exact ⟨rfl, CW.out⟩
    by_cases f4 : x.2.2 < x.2.1
    ·
     have hd : decide (FineS x.1 x.2.1 x.2.2) = false := decide_eq_false (by unfold FineS; omega)
     have hv2 : ¬ okFrom none xs = true := by rw [HOK.out, hd]; simp
     have HV2 : V = 2 := HV.out.trans (if_neg hv2)
     subst HV2
     clear hv2 hd
     go_wp2
     go_ret
     exact ⟨rfl, CW.out⟩
    by_cases f5 : 2147483647 < x.2.2
    ·
     have hd : decide (FineS x.1 x.2.1 x.2.2) = false := decide_eq_false (by unfold FineS; omega)
     have hv2 : ¬ okFrom none xs = true := by rw [HOK.out, hd]; simp
     have HV2 : V = 2 := HV.out.trans (if_neg hv2)
     subst HV2
     clear hv2 hd
     go_wp2
     go_ret
     exact ⟨rfl, CW.out⟩
    have hf : FineS x.1 x.2.1 x.2.2 := by unfold FineS; omega
    have HFN := Lib.hid hf
    have hd := decide_eq_true hf
    rw [hd] at HOK
    clear hd hf
    go_upto_region 9 with fail
    by_cases h0 : k = 0
    ·
     subst h0
     go_quiet (fail)
     have e1 : prevS xs (0 + 1) = some x := by unfold prevS; rw [if_neg (by omega)]; exact EX.out
     have CE := Lib.hid (CW.out.drewN nq)
     go_wp2
     go_round
     case rel =>
      refine ⟨0 + 1, by omega, by go_num, CE.out, ?_, ?_⟩
      ·
       rw [HOK.out]; simp [prevS]
      ·
       rw [e1]; rintro y ⟨⟩; exact HFN.out
     case measure => simp [RowKit.intOf]; omega
    ·
     have hk1 : k - 1 < xs.length := by omega
     have ey := List.getElem?_eq_getElem hk1
     generalize xs[k - 1] = y at *
     have ep : prevS xs k = some y := by unfold prevS; rw [if_neg h0]; exact ey
     have EY := Lib.hid ey
     have hfy := HI.out.2.2 y ep
     unfold FineS at hfy
     rw [ep] at HOK
     dsimp only at HOK
     clear ey ep
     have hcc := spanCells (HX.out.chg CW.out (by simp)) EY.out
     obtain ⟨p0, p1, p2⟩ := hcc
     have hk2 : ((k : Int) - 1) = ((k - 1 : Nat) : Int) := by omega
     have hk4 : ((k - 1 : Nat) : Int) < (xs.length : Int) := by omega
     have hk5 : (0 : Int) ≤ ((k - 1 : Nat) : Int) := by omega
     have hk6 : IntKind.i64.wrap ((k - 1 : Nat) : Int) = ((k - 1 : Nat) : Int) := IntWalk.i64_in _ (by omega)
     have hk7 : decide (0 < k) = true := by simp; omega
     have hk8 : IntKind.i64.wrap (y.2.2 + 1) = y.2.2 + 1 := IntWalk.i64_in _ (by omega)
     clear hfy
     by_cases g1 : x.1 < y.1
     ·
      skip
      have hA : decide (ApartS y.1 y.2.2 x.1 x.2.1) = false := decide_eq_false (by unfold ApartS; omega)
      rw [hA] at HOK
      clear hA
      go_quiet (fail)
      have hv2 : ¬ okFrom none xs = true := by rw [HOK.out]; simp
      have HV2 : V = 2 := HV.out.trans (if_neg hv2)
      subst HV2
      clear hv2
      have CE := Lib.hid (CW.out.drewN nq)
      go_wp2
      go_ret
      exact ⟨rfl, CE.out⟩
     by_cases g2 : x.1 = y.1
     rotate_left
     ·
      skip
      have hA : decide (ApartS y.1 y.2.2 x.1 x.2.1) = true := decide_eq_true (by unfold ApartS; omega)
      rw [hA] at HOK
      clear hA
      go_quiet (fail)
      have e1 : prevS xs (k + 1) = some x := by unfold prevS; rw [if_neg (by omega)]; exact EX.out
      have CE := Lib.hid (CW.out.drewN nq)
      go_wp2
      go_round
      case rel =>
       refine ⟨k + 1, by omega, by go_num, CE.out, ?_, ?_⟩
       ·
        rw [HOK.out]; simp [e1]
       ·
        rw [e1]; rintro y ⟨⟩; exact HFN.out
      case measure => simp [RowKit.intOf]; omega
     by_cases g3 : x.2.1 ≤ y.2.2 + 1
     ·
      skip
      have hA : decide (ApartS y.1 y.2.2 x.1 x.2.1) = false := decide_eq_false (by unfold ApartS; omega)
      rw [hA] at HOK
      clear hA
      go_quiet (fail)
      have hv2 : ¬ okFrom none xs = true := by rw [HOK.out]; simp
      have HV2 : V = 2 := HV.out.trans (if_neg hv2)
      subst HV2
      clear hv2
      have CE := Lib.hid (CW.out.drewN nq)
      go_wp2
      go_ret
      exact ⟨rfl, CE.out⟩
     ·
      skip
      have hA : decide (ApartS y.1 y.2.2 x.1 x.2.1) = true := decide_eq_true (by unfold ApartS; omega)
      rw [hA] at HOK
      clear hA
      go_quiet (fail)
      have e1 : prevS xs (k + 1) = some x := by unfold prevS; rw [if_neg (by omega)]; exact EX.out
      have CE := Lib.hid (CW.out.drewN nq)
      go_wp2
      go_round
      case rel =>
       refine ⟨k + 1, by omega, by go_num, CE.out, ?_, ?_⟩
       ·
        rw [HOK.out]; simp [e1]
       ·
        rw [e1]; rintro y ⟨⟩; exact HFN.out
      case measure => simp [RowKit.intOf]; omega
   ·
    obtain rfl : k = xs.length := by omega
    have hv := HI.out.2.1
    rw [List.drop_length] at hv
    have hv2 : okFrom none xs = true := by rw [hv]; cases prevS xs xs.length <;> rfl
    have HV2 : V = 0 := HV.out.trans (if_pos hv2)
    subst HV2
    clear hv hv2
    go_wp2
    go_ret
    exact ⟨rfl, HI.out.1⟩
end
section
open Go.RowKit Go.Lib
set_option linter.unusedSimpArgs false
set_option linter.unusedVariables false


def lastM (node : Int) (xs : List Sp) : Int := xs.foldl (fun n x => if x.1 = node then max n x.2.2 else n) 0
theorem lastM_take {node : Int} {xs : List Sp} {k : Nat} {x : Sp} (hx : xs[k]? = some x) : lastM node (xs.take (k + 1)) = if x.1 = node then max (lastM node (xs.take k)) x.2.2 else lastM node (xs.take k) := by
 rw [List.take_add_one, hx]; simp [lastM]
theorem last_same (node : Int) : ∀ (k : Nat) (xs : List Sp), WfC xs → lastM node (xs.take k) = lastL node (xs.take k) ∧ (lastL node (xs.take k) = 0 ∨ ∃ y ∈ xs.take k, y.1 = node ∧ y.2.2 = lastL node (xs.take k))
 | 0, xs, _ => by simp [lastM, lastL]
 | k + 1, xs, h => by
  obtain ⟨a, b⟩ := last_same node k xs h
  by_cases hk : k < xs.length
  ·
   have hx := List.getElem?_eq_getElem hk
   have e1 : lastL node (xs.take (k + 1)) = if xs[k].1 = node then xs[k].2.2 else lastL node (xs.take k) := by rw [List.take_add_one, hx]; exact last_snoc _ _ _
   rw [lastM_take hx, e1, a]
   have mem : ∀ y ∈ xs.take k, y ∈ xs.take (k + 1) := fun y hy => by rw [List.take_add_one]; exact List.mem_append_left _ hy
   split
   ·
    rename_i hn
    have bx := h.2 xs[k] (List.getElem_mem hk)
    have ox := h.1.1 xs[k] (List.getElem_mem hk)
    unfold SpOk at ox
    have le : lastL node (xs.take k) ≤ xs[k].2.2 := by
     rcases b with e | ⟨y, hy, hy1, hy2⟩
     ·
      rw [e]; omega
     ·
      obtain ⟨q, hq, rfl⟩ := List.getElem_of_mem hy
      rw [List.length_take] at hq
      rw [List.getElem_take] at hy1 hy2
      have hap := List.pairwise_iff_getElem.1 h.1.2 q k (by omega) hk (by omega)
      have oy := h.1.1 xs[q] (List.getElem_mem (by omega))
      rw [← hy2]
      unfold Ap SpOk at *
      omega
    exact ⟨by omega, .inr ⟨xs[k], List.mem_of_getElem? (i := k) (by rw [List.getElem?_take, if_pos (Nat.lt_succ_self k)]; exact hx), hn, rfl⟩⟩
   ·
    refine ⟨rfl, ?_⟩
    rcases b with e | ⟨y, hy, hy1, hy2⟩
    ·
     exact .inl e
    ·
     exact .inr ⟨y, mem y hy, hy1, hy2⟩
  ·
   rw [List.take_of_length_le (by omega : xs.length ≤ k + 1), ← List.take_of_length_le (by omega : xs.length ≤ k)]
   exact ⟨a, b⟩
theorem last_all (node : Int) {xs : List Sp} (h : WfC xs) : lastM node xs = lastL node xs := by
 have := (last_same node xs.length xs h).1
 rwa [List.take_length] at this
set_option maxRecDepth 100000 in
set_option maxHeartbeats 8000000 in
theorem qlast_any (w : World) (A : Option Addr) (c : Nat) (xs : List Sp) (node : Int) (h : RdK spanTy w A xs.length xs) (hn : xs.length ≤ 140737488351232) :
  Calls Tryz.prog 67 #[.slice A xs.length c, .int .i64 node] w fun e w' => e = .returned (.int .i64 (if chkS xs = 0 then lastL node xs else 0)) ∧ Chg [] w w' := by
 have HX := Lib.hid h
 have HN := Lib.hid hn
 clear h hn
 rcases chk_two xs with e1 | e1
 ·
  rw [if_pos e1]
  have WF := Lib.hid (wf_of_chk e1)
  go_enter Tryz.func67, Tryz.ntmps67
  go_wp2_with fail
  refine (qacheck_any w A _ c xs HX.out HN.out).mono ?_
  rintro e w1 ⟨rfl, h1⟩
  rw [e1]
  have C1 := Lib.hid h1
  replace HX := Lib.hid (HX.out.chg h1 (by simp))
  clear h1 e1
  go_wp2
  go_loopw [5, 6] (fun v5 v6 wr => ∃ (k : Nat), k ≤ xs.length ∧ v5 = .int .i64 (lastM node (xs.take k)) ∧ v6 = .int .i64 k ∧ Hid (Chg [] w1 wr)) (fun _ v6 _ => xs.length - (RowKit.intOf v6).toNat)
  case atStart => exact ⟨0, Nat.zero_le _, rfl, rfl, Chg.refl _ _⟩
  case round =>
   obtain ⟨k, hk, rfl, rfl, HI⟩ := hrel
   have i0 : (0 : Int) ≤ (k : Int) := by omega
   by_cases hlt : k < xs.length
   ·
    have i1 : (k : Int) < (xs.length : Int) := by omega
    have i3 : IntKind.i64.wrap ((k : Int) + 1) = (k : Int) + 1 := IntWalk.i64_in _ (by have := HN.out; omega)
    obtain ⟨x, hx⟩ : ∃ x, xs[k]? = some x := ⟨_, List.getElem?_eq_getElem hlt⟩
    obtain ⟨g, o, eA, _⟩ := HX.out.line (by omega)
    subst eA
    obtain ⟨q0, q1, q2⟩ := spanCells (HX.out.chg HI.out (by simp)) hx
    have E2 := Lib.hid (lastM_take (node := node) hx)
    generalize lastM node (xs.take k) = m at *
    clear hx
    by_cases hnode : x.1 = node
    ·
     have EQ := Lib.hid (show lastM node (xs.take (k + 1)) = max m x.2.2 by rw [E2.out, if_pos hnode])
     have q : ((x.1 == node) : Bool) = true := by simpa using hnode
     clear hnode E2
     go_wp2
     all_goals
      go_round
      case rel => exact ⟨k + 1, by omega, by (rw [EQ.out]) <;> (congr 1) <;> omega, by go_num, HI.out⟩
      case measure => simp [RowKit.intOf]; omega
    ·
     have EQ := Lib.hid (show lastM node (xs.take (k + 1)) = m by rw [E2.out, if_neg hnode])
     have q : ((x.1 == node) : Bool) = false := by simpa using hnode
     clear hnode E2
     go_wp2
     go_round
     case rel => exact ⟨k + 1, by omega, by rw [EQ.out], by go_num, HI.out⟩
     case measure => simp [RowKit.intOf]; omega
   ·
    obtain rfl : k = xs.length := by omega
    rw [show xs.take xs.length = xs from List.take_length, last_all node WF.out.1]
    have i1 : ¬ (xs.length : Int) < (xs.length : Int) := by omega
    go_wp2
    go_ret
    exact ⟨rfl, C1.out.trans HI.out⟩
 ·
  rw [if_neg (by omega)]
  go_enter Tryz.func67, Tryz.ntmps67
  go_wp2_with fail
  refine (qacheck_any w A _ c xs HX.out HN.out).mono ?_
  rintro e w1 ⟨rfl, h1⟩
  rw [e1]
  have C1 := Lib.hid h1
  clear h1
  go_wp2
  go_ret
  exact ⟨rfl, C1.out⟩
set_option maxRecDepth 100000 in
set_option maxHeartbeats 8000000 in
theorem qhas_any (w : World) (A : Option Addr) (c : Nat) (xs : List Sp) (n s : Int) (h : RdK spanTy w A xs.length xs) (hn : xs.length ≤ 140737488351232) :
  Calls Tryz.prog 69 #[.slice A xs.length c, .agg #[.int .i64 n, .int .i64 s]] w fun e w' => e = .returned (.bool (hasE xs n s)) ∧ Chg [] w w' := by
 have HX := Lib.hid h
 have HN := Lib.hid hn
 clear h hn
 obtain ⟨w0, hw0, c0, b0⟩ := news1 w (.cells #[.int .i64 n, .int .i64 s] 23)
 have W0 := Lib.hid hw0
 have C0 := Lib.hid c0
 have B0 := Lib.hid b0
 replace HX := Lib.hid (HX.out.chg c0 (by simp))
 clear hw0 c0 b0
 rcases chk_two xs with e1 | e1
 ·
  have eH : hasE xs n s = decide (Mem xs n s) := by unfold hasE; rw [decide_eq_true e1]; rfl
  rw [eH]
  clear eH
  go_enter Tryz.func69, Tryz.ntmps69
  go_wp2_with fail
  rw [← W0.out]
  generalize w.heap.size = g0 at *
  refine (qacheck_any w0 A _ c xs HX.out HN.out).mono ?_
  rintro e w1 ⟨rfl, h1⟩
  rw [e1]
  have C1 := Lib.hid h1
  replace HX := Lib.hid (HX.out.chg h1 (by simp))
  replace B0 := Lib.hid (h1.at_ B0.out (by simp))
  clear h1 e1
  go_wp2
  go_loopw [5] (fun v5 wr => ∃ (k : Nat), k ≤ xs.length ∧ v5 = .int .i64 k ∧ Hid (¬ Mem (xs.take k) n s) ∧ Hid (Chg [] w1 wr)) (fun v5 _ => xs.length - (RowKit.intOf v5).toNat)
  case atStart => exact ⟨0, Nat.zero_le _, rfl, Lib.hid (by simpa using mem_nil), Chg.refl _ _⟩
  case round =>
   obtain ⟨k, hk, rfl, NM, HI⟩ := hrel
   have i0 : (0 : Int) ≤ (k : Int) := by omega
   by_cases hlt : k < xs.length
   ·
    have i1 : (k : Int) < (xs.length : Int) := by omega
    have i3 : IntKind.i64.wrap ((k : Int) + 1) = (k : Int) + 1 := IntWalk.i64_in _ (by have := HN.out; omega)
    obtain ⟨x, hx⟩ : ∃ x, xs[k]? = some x := ⟨_, List.getElem?_eq_getElem hlt⟩
    obtain ⟨g, o, eA, _⟩ := HX.out.line (by omega)
    subst eA
    obtain ⟨q0, q1, q2⟩ := spanCells (HX.out.chg HI.out (by simp)) hx
    have b2 := HI.out.at_ B0.out (by simp)
    have d0 := cell_of b2 0
    have d1 := cell_of b2 1
    simp only [List.getElem?_toArray, List.getElem?_cons_succ, List.getElem?_cons_zero] at d0 d1
    have NX : Hid (¬ InS x n s → ¬ Mem (xs.take (k + 1)) n s) := Lib.hid (fun hni hm => by
     rw [List.take_add_one, hx] at hm
     rcases mem_append.1 hm with q | q
     ·
      exact NM.out q
     ·
      exact hni (mem_one.1 q))
    have YX : Hid (InS x n s → decide (Mem xs n s) = true) := Lib.hid (fun hi => decide_eq_true ⟨x, List.mem_of_getElem? hx, hi⟩)
    clear hx b2
    by_cases p1 : x.1 = n
    rotate_left
    ·
     have NO := Lib.hid (NX.out (fun hi => p1 hi.1))
     have q : ((x.1 == n) : Bool) = false := by simpa using p1
     clear p1 NX YX
     go_upto_region 6 with fail
     go_quiet (fail)
     have hq := (Chg.refl [] wr).drewN nq
     generalize wr.drewN nq = w2 at *
     have C2 := Lib.hid (HI.out.trans hq)
     clear q0 q1 q2 d0 d1 hq
     go_wp2
     go_round
     case rel => exact ⟨k + 1, by omega, by go_num, NO, C2.out⟩
     case measure => simp [RowKit.intOf]; omega
    by_cases p2 : x.2.1 ≤ s
    rotate_left
    ·
     have NO := Lib.hid (NX.out (fun hi => p2 hi.2.1))
     have q : ((x.1 == n) : Bool) = true := by simpa using p1
     clear p1 NX YX
     go_upto_region 6 with fail
     go_quiet (fail)
     have hq := (Chg.refl [] wr).drewN nq
     generalize wr.drewN nq = w2 at *
     have C2 := Lib.hid (HI.out.trans hq)
     clear q0 q1 q2 d0 d1 hq
     go_wp2
     go_round
     case rel => exact ⟨k + 1, by omega, by go_num, NO, C2.out⟩
     case measure => simp [RowKit.intOf]; omega
    by_cases p3 : s ≤ x.2.2
    rotate_left
    ·
     have NO := Lib.hid (NX.out (fun hi => p3 hi.2.2))
     have q : ((x.1 == n) : Bool) = true := by simpa using p1
     clear p1 NX YX
     go_upto_region 6 with fail
     go_quiet (fail)
     have hq := (Chg.refl [] wr).drewN nq
     generalize wr.drewN nq = w2 at *
     have C2 := Lib.hid (HI.out.trans hq)
     clear q0 q1 q2 d0 d1 hq
     go_wp2
     go_round
     case rel => exact ⟨k + 1, by omega, by go_num, NO, C2.out⟩
     case measure => simp [RowKit.intOf]; omega
    have YES := Lib.hid (YX.out ⟨p1, p2, p3⟩)
    have q : ((x.1 == n) : Bool) = true := by simpa using p1
    clear p1 NX YX
    go_upto_region 6 with fail
    go_quiet (fail)
    have hq := (Chg.refl [] wr).drewN nq
    generalize wr.drewN nq = w2 at *
    have C2 := Lib.hid (HI.out.trans hq)
    clear q0 q1 q2 d0 d1 hq
    go_wp2
    go_ret
    exact ⟨(by first | exact of_decide_eq_true YES.out | exact (of_decide_eq_true YES.out : Mem xs n s) | (rw [YES.out]; rfl)), C0.out.trans (C1.out.trans C2.out)⟩
   ·
    obtain rfl : k = xs.length := by omega
    have NO : Hid (decide (Mem xs n s) = false) := Lib.hid (by have := NM.out; rw [List.take_length] at this; exact decide_eq_false this)
    have i1 : ¬ (xs.length : Int) < (xs.length : Int) := by omega
    go_wp2
    go_ret
    exact ⟨(by first | exact of_decide_eq_false NO.out | (rw [NO.out]; rfl)), C0.out.trans (C1.out.trans HI.out)⟩
 ·
  have eH : hasE xs n s = false := by unfold hasE; rw [decide_eq_false (by omega)]; rfl
  rw [eH]
  clear eH
  go_enter Tryz.func69, Tryz.ntmps69
  go_wp2_with fail
  rw [← W0.out]
  generalize w.heap.size = g0 at *
  refine (qacheck_any w0 A _ c xs HX.out HN.out).mono ?_
  rintro e w1 ⟨rfl, h1⟩
  rw [e1]
  have C1 := Lib.hid h1
  clear h1
  go_wp2
  go_ret
  exact ⟨rfl, C0.out.trans C1.out⟩
end
section
open Go.RowKit Go.Lib
set_option linter.unusedSimpArgs false
set_option linter.unusedVariables false


set_option maxRecDepth 100000 in
set_option maxHeartbeats 8000000 in
theorem ahead_any (w : World) (x y : Sp) : Calls Tryz.prog 154 #[.agg #[.int .i64 x.1, .int .i64 x.2.1, .int .i64 x.2.2], .agg #[.int .i64 y.1, .int .i64 y.2.1, .int .i64 y.2.2]] w fun e w' => e = .returned (.bool (decide (Lt3 x y))) ∧ Chg [] w w' := by
 obtain ⟨w1, hw1, c1, b0, b1⟩ := news2 w (.cells #[.int .i64 x.1, .int .i64 x.2.1, .int .i64 x.2.2] 62) (.cells #[.int .i64 y.1, .int .i64 y.2.1, .int .i64 y.2.2] 62)
 have W1 := Lib.hid hw1
 have C1 := Lib.hid c1
 have y0 := cell_of b0 0
 have y1 := cell_of b0 1
 have y2 := cell_of b0 2
 have z0 := cell_of b1 0
 have z1 := cell_of b1 1
 have z2 := cell_of b1 2
 simp only [List.getElem?_toArray, List.getElem?_cons_succ, List.getElem?_cons_zero] at y0 y1 y2 z0 z1 z2
 clear hw1 c1 b0 b1
 have fin : ∀ v, decide (Lt3 x y) = v → Calls Tryz.prog 154 #[.agg #[.int .i64 x.1, .int .i64 x.2.1, .int .i64 x.2.2], .agg #[.int .i64 y.1, .int .i64 y.2.1, .int .i64 y.2.2]] w (fun e w' => e = .returned (.bool v) ∧ Chg [] w w') → Calls Tryz.prog 154 #[.agg #[.int .i64 x.1, .int .i64 x.2.1, .int .i64 x.2.2], .agg #[.int .i64 y.1, .int .i64 y.2.1, .int .i64 y.2.2]] w fun e w' => e = .returned (.bool (decide (Lt3 x y))) ∧ Chg [] w w' := fun v hv h => hv ▸ h
 obtain ⟨x1, x2, x3⟩ := x
 obtain ⟨u1, u2, u3⟩ := y
 dsimp only at *
 rcases Int.lt_trichotomy x1 u1 with h | h | h
 ·
  have f1 : x1 < u1 := h
  refine fin true (decide_eq_true (.inl h)) ?_
  clear fin
  go_enter Tryz.func154, Tryz.ntmps154
  go_upto_region 1 with fail
  rw [← W1.out]
  generalize w.heap.size = g0 at *
  go_wp2
  go_ret
  exact ⟨rfl, C1.out⟩
 ·
  subst h
  have f0 : ¬ x1 < x1 := by omega
  have f3 : ((x1 == x1) : Bool) = true := by simp
  rcases Int.lt_trichotomy x2 u2 with h2 | h2 | h2
  ·
   have f1 : x2 < u2 := h2
   refine fin true (decide_eq_true (.inr ⟨rfl, .inl h2⟩)) ?_
   clear fin
   go_enter Tryz.func154, Tryz.ntmps154
   go_upto_region 1 with fail
   rw [← W1.out]
   generalize w.heap.size = g0 at *
   go_wp2
   go_ret
   exact ⟨rfl, C1.out⟩
  ·
   subst h2
   have f4 : ¬ x2 < x2 := by omega
   have f5 : ((x2 == x2) : Bool) = true := by simp
   by_cases h3 : x3 < u3
   ·
    skip
    refine fin true (decide_eq_true (.inr ⟨rfl, .inr ⟨rfl, h3⟩⟩)) ?_
    clear fin
    go_enter Tryz.func154, Tryz.ntmps154
    go_upto_region 1 with fail
    rw [← W1.out]
    generalize w.heap.size = g0 at *
    go_wp2
    go_ret
    exact ⟨rfl, C1.out⟩
   refine fin false (decide_eq_false (by unfold Lt3; simp only; omega)) ?_
   clear fin
   go_enter Tryz.func154, Tryz.ntmps154
   go_upto_region 1 with fail
   rw [← W1.out]
   generalize w.heap.size = g0 at *
   go_wp2
   go_ret
   exact ⟨rfl, C1.out⟩
  ·
   have f4 : ¬ x2 < u2 := by omega
   have f5 : ((x2 == u2) : Bool) = false := by simp; omega
   refine fin false (decide_eq_false (by unfold Lt3; simp only; omega)) ?_
   clear fin
   go_enter Tryz.func154, Tryz.ntmps154
   go_upto_region 1 with fail
   rw [← W1.out]
   generalize w.heap.size = g0 at *
   go_wp2
   go_ret
   exact ⟨rfl, C1.out⟩
 ·
  have f1 : ¬ x1 < u1 := by omega
  have f3 : ((x1 == u1) : Bool) = false := by simp; omega
  refine fin false (decide_eq_false (by unfold Lt3; simp only; omega)) ?_
  clear fin
  go_enter Tryz.func154, Tryz.ntmps154
  go_upto_region 1 with fail
  rw [← W1.out]
  generalize w.heap.size = g0 at *
  go_wp2
  go_ret
  exact ⟨rfl, C1.out⟩
end
section
open Go.RowKit Go.Lib
set_option linter.unusedSimpArgs false
set_option linter.unusedVariables false


def FineQ (n s : Int) : Prop := 1 ≤ n ∧ n ≤ 200 ∧ 1 ≤ s ∧ s ≤ 2147483647
instance (n s : Int) : Decidable (FineQ n s) := by unfold FineQ; exact inferInstance
theorem chk_dot (n s : Int) : chkS [(n, s, s)] = if FineQ n s then 0 else 2 := by
 by_cases h : FineQ n s
 ·
  rw [if_pos h]
  unfold FineQ at h
  refine chk_of_wf ⟨⟨fun x hx => ?_, List.pairwise_singleton _ _⟩, fun x hx => ?_⟩ (by simp)
  ·
   cases List.mem_singleton.1 hx; unfold SpOk; simp
  ·
   cases List.mem_singleton.1 hx; simp only; omega
 ·
  rw [if_neg h]
  rcases chk_two [(n, s, s)] with e | e
  ·
   have w := (wf_of_chk e).1.2 (n, s, s) (by simp)
   simp only at w
   exact absurd (by unfold FineQ; omega) h
  ·
   exact e
set_option maxRecDepth 100000 in
set_option maxHeartbeats 4000000 in
theorem hcheck_dot (w : World) (n s : Int) : Calls Tryz.prog 63 #[.agg #[.int .i64 n, .int .i64 s]] w fun e w' => e = .returned (.int .i64 (chkS [(n, s, s)])) ∧ Chg [] w w' := by
 have go : ∀ v, chkS [(n, s, s)] = v → Calls Tryz.prog 63 #[.agg #[.int .i64 n, .int .i64 s]] w (fun e w' => e = .returned (.int .i64 v) ∧ Chg [] w w') → Calls Tryz.prog 63 #[.agg #[.int .i64 n, .int .i64 s]] w fun e w' => e = .returned (.int .i64 (chkS [(n, s, s)])) ∧ Chg [] w w' := fun v e h => by rw [e]; exact h
 have CD := chk_dot n s
 obtain ⟨w1, hw1, c1, b0⟩ := news1 w (.cells #[.int .i64 n, .int .i64 s] 23)
 have W1 := Lib.hid hw1
 have C1 := Lib.hid c1
 have z0 := cell_of b0 0
 have z1 := cell_of b0 1
 simp only [List.getElem?_toArray, List.getElem?_cons_succ, List.getElem?_cons_zero] at z0 z1
 clear hw1 c1 b0
 by_cases h1 : n < 1
 ·
  skip
  refine go 2 (by rw [CD, if_neg (by unfold FineQ; omega)]) ?_
  clear go CD
  go_enter Tryz.func63, Tryz.ntmps63
  go_upto_region 1 with fail
  rw [← W1.out]
  generalize w.heap.size = g0 at *
  go_wp2
  go_ret
  exact ⟨rfl, C1.out⟩
 by_cases h2 : 200 < n
 ·
  skip
  refine go 2 (by rw [CD, if_neg (by unfold FineQ; omega)]) ?_
  clear go CD
  go_enter Tryz.func63, Tryz.ntmps63
  go_upto_region 1 with fail
  rw [← W1.out]
  generalize w.heap.size = g0 at *
  go_wp2
  go_ret
  exact ⟨rfl, C1.out⟩
 by_cases h3 : s < 1
 ·
  skip
  refine go 2 (by rw [CD, if_neg (by unfold FineQ; omega)]) ?_
  clear go CD
  go_enter Tryz.func63, Tryz.ntmps63
  go_upto_region 1 with fail
  rw [← W1.out]
  generalize w.heap.size = g0 at *
  go_wp2
  go_ret
  exact ⟨rfl, C1.out⟩
 by_cases h4 : 2147483647 < s
 ·
  skip
  refine go 2 (by rw [CD, if_neg (by unfold FineQ; omega)]) ?_
  clear go CD
  go_enter Tryz.func63, Tryz.ntmps63
  go_upto_region 1 with fail
  rw [← W1.out]
  generalize w.heap.size = g0 at *
  go_wp2
  go_ret
  exact ⟨rfl, C1.out⟩
 refine go 0 (by rw [CD, if_pos (by unfold FineQ; omega)]) ?_
 clear go CD
 go_enter Tryz.func63, Tryz.ntmps63
 go_upto_region 1 with fail
 rw [← W1.out]
 generalize w.heap.size = g0 at *
 go_wp2
 go_ret
 exact ⟨rfl, C1.out⟩
end
section
set_option linter.unusedSimpArgs false
set_option linter.unusedVariables false
def kF (x y : Bool) : Bool := x && !y
def boundP (l : List Sp) : Int × List Sp := if 4000 < l.length then (8, []) else (0, l)
def joinE (a b : List Sp) : Int × List Sp := if chkS a = 0 ∧ chkS b = 0 then boundP (tidyS (a ++ b)) else (2, [])
def withinE (a b : List Sp) : Bool := decide (chkS a = 0 ∧ chkS b = 0) && decide (b.foldl withoutP a = [])
theorem memb_iff {l : List Sp} {n s : Int} : memb l n s = true ↔ Mem l n s := by unfold memb; simp
theorem minus_eq {a b pre : List Sp} (ha : WfC a) (hb : WfC b) (h : SwInv kF a b [] [] pre) : pre.foldl pushP [] = b.foldl withoutP a := by
 obtain ⟨c, d⟩ := h.done (by rfl)
 obtain ⟨e, f⟩ := withouts_norm (b := b) hb.1.1 ha.1
 refine norm_ext c e (fun n s => ?_)
 rw [d n s, f n s]
 unfold kF
 rw [Bool.and_eq_true, memb_iff]
 simp [memb]
end
section
open Go.RowKit Go.Lib
set_option linter.unusedSimpArgs false
set_option linter.unusedVariables false
end
section
open Go.RowKit Go.Lib
set_option linter.unusedSimpArgs false
set_option linter.unusedVariables false


theorem rd_oneS {w : World} {g : Nat} {x : Int × Int × Int} (h : w.heap[g]? = some (.cells #[.int .i64 x.1, .int .i64 x.2.1, .int .i64 x.2.2] 62)) : RdK spanTy w (some ⟨g, 0, none⟩) 1 [x] :=
 ⟨rfl, fun j v hj => ⟨_, rfl, by rw [add_zero_lit, cell_of h j]; simpa [RowTy.flat, spanTy] using hj⟩⟩
end
section
open Go.RowKit Go.Lib
set_option linter.unusedSimpArgs false
set_option linter.unusedVariables false
end
section
set_option linter.unusedSimpArgs false
set_option linter.unusedVariables false
variable {α : Type} {R : RowTy α}
theorem flat_set (full : List α) (j i : Nat) (x x' : α) (v : Value) (hx : full[j]? = some x) (hi : i < R.k) (he : ∀ q, q < R.k → (R.enc x')[q]? = if q = i then some v else (R.enc x)[q]?) :
  (R.flat full).set (j * R.k + i) v = R.flat (full.set j x') := by
 have hj := (List.getElem?_eq_some_iff.1 hx).1
 have hb : j * R.k + i < full.length * R.k := by
  have : (j + 1) * R.k ≤ full.length * R.k := Nat.mul_le_mul_right _ hj
  rw [Nat.add_mul, Nat.one_mul] at this
  omega
 refine R.flat_ext _ _ (by rw [List.length_set, R.flat_len, List.length_set]) (fun q p y hy hp => ?_)
 rw [List.getElem?_set] at hy
 rw [List.getElem?_set, R.flat_len]
 by_cases e : j = q
 ·
  subst e
  rw [if_pos rfl, if_pos hj] at hy
  cases hy
  rw [he p hp]
  by_cases e2 : p = i
  ·
   subst e2
   rw [if_pos rfl, if_pos hb, if_pos rfl]
  ·
   rw [if_neg (by omega), if_neg e2, R.flat_at full j p x hx hp]
 ·
  rw [if_neg e] at hy
  rw [if_neg, R.flat_at full q p y hy hp]
  intro e3
  rcases Nat.lt_or_gt_of_ne e with h | h
  ·
   have : (j + 1) * R.k ≤ q * R.k := Nat.mul_le_mul_right _ h
   rw [Nat.add_mul, Nat.one_mul] at this
   omega
  ·
   have : (q + 1) * R.k ≤ j * R.k := Nat.mul_le_mul_right _ h
   rw [Nat.add_mul, Nat.one_mul] at this
   omega
theorem OwnK.setc {w : World} {g c : Nat} {xs : List α} (h : OwnK R w (some ⟨g, 0, none⟩) c xs) (j i : Nat) (x x' : α) (v : Value) (hx : xs[j]? = some x) (hi : i < R.k) (he : ∀ q, q < R.k → (R.enc x')[q]? = if q = i then some v else (R.enc x)[q]?) :
  OwnK R (w.setCell ⟨g, j * R.k + i, none⟩ v) (some ⟨g, 0, none⟩) c (xs.set j x') := by
 have hj := (List.getElem?_eq_some_iff.1 hx).1
 rcases h with ⟨h, _⟩ | ⟨g', full, e, hg, h1, h2, h3, h4⟩
 ·
  cases h
 ·
  cases e
  have hx' : full[j]? = some x := by
   rw [← h4, List.getElem?_take, if_pos hj] at hx
   exact hx
  refine OwnK.of (full := full.set j x') ?_ (by simpa using h3) h2 (by simpa using h1) ?_
  ·
   have := heap_setCell_same w g (j * R.k + i) _ _ v hg
   rw [this, List.setIfInBounds_toArray, flat_set full j i x x' v hx' hi he]
  ·
   rw [List.length_set, List.take_set, h4]
end
section
open Go.RowKit Go.Lib
set_option linter.unusedSimpArgs false
set_option linter.unusedVariables false


theorem spanSetTo (y : Int × Int × Int) (v : Int) : ∀ q, q < spanTy.k → (spanTy.enc (y.1, y.2.1, v))[q]? = if q = 2 then some (.int .i64 v) else (spanTy.enc y)[q]?
 | 0, _ => rfl
 | 1, _ => rfl
 | 2, _ => rfl
 | q + 3, h => absurd h (by have : spanTy.k = 3 := rfl; omega)
theorem own_free {w : World} {g c : Nat} {xs : List (Int × Int × Int)} (h : OwnK spanTy w (some ⟨g, 0, none⟩) c xs) (j : Nat) : w.frozen? ⟨g, j, none⟩ = false := by
 rcases h with ⟨h, _⟩ | ⟨g', full, e, hg, _⟩
 ·
  cases h
 ·
  cases e; exact free_of hg j
end
end Go.Proofs.YtgbidlhgmeglmaaGreatDoor
