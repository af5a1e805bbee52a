/- spans.Join. The program's Past. The law's events, lists and puts (layer 9). Effects without bytes: in order, copied. shelf.Effects and Alike of at most two events without bytes. The law's awake (layer 9), by contracts. Rows of events as arguments. Nothing is asked of the variables. -/
import Derived.Test.YtdfapiffalmjcaaGreatDoorZsam
import Derived.Test.YtdfapiffalmjcaaGreatDoorZsat
import Derived.Test.YtdfapiffalmjcaaGreatDoorZsab
import Derived.Test.YtdfapiffalmjcaaGreatDoorShelf3
import Derived.Test.YtdfapiffalmjcaaGreatDoorZsak
import Derived.Test.YtdfapiffalmjcaaGreatDoorZsal
import Derived.Deep.Cut
import Derived.Deep.RegionHeld3
import Derived.BigQuiet
import Derived.RegionTactic
import Derived.Test.YtdfapiffalmjcaaGreatDoorZsad
import Derived.Test.YtdfapiffalmjcaaGreatDoorZsan
import Derived.Test.YtdfapiffalmjcaaGreatDoorZsar
import Derived.Test.YtdfapiffalmjcaaGreatDoorZsaj
import Derived.Test.YtdfapiffalmjcaaGreatDoorShelf7
import Derived.Test.YtdfapiffalmjcaaGreatDoorZsaq
import Derived.Test.YtdfapiffalmjcaaGreatDoorZsai
import Derived.Test.YtdfapiffalmjcaaGreatDoorLaid0
namespace Go.Proofs.YtdfapiffalmjcaaGreatDoor
section
open Go.RowKit Go.Lib
set_option linter.unusedSimpArgs false
set_option linter.unusedVariables false


def cmpSS (x y : Sp) : Int := cmpD x.1 x.2.1 y.1 y.2.1
theorem ltSS (x y : Sp) : ltOf cmpSS x y = decide (LtD x.1 x.2.1 y.1 y.2.1) := by
  unfold ltOf cmpSS
  exact decide_eq_decide.2 cmpD_lt
theorem swoSS : Go.Sort.SWO (ltOf cmpSS) where
  irrefl x := by rw [ltSS]; simp [LtD]
  trans x y z h1 h2 := by
    rw [ltSS, decide_eq_true_eq] at *
    unfold LtD at *
    omega
  ntrans x y z h1 h2 := by
    rw [ltSS, decide_eq_false_iff_not] at *
    unfold LtD at *
    omega
set_option maxHeartbeats 1000000 in
theorem spcmp_says : CmpSays spanTy 152 cmpSS := fun w x y => by
  obtain ⟨n, f, t⟩ := x
  obtain ⟨m, g, u⟩ := y
  show Calls Tryz.prog 152 #[.agg #[.int .i64 n, .int .i64 f, .int .i64 t], .agg #[.int .i64 m, .int .i64 g, .int .i64 u]] w fun e w' => e = .returned (.int .i64 (cmpSS (n, f, t) (m, g, u))) ∧ Chg [] w w' ∧ w.drawn ≤ w'.drawn
  obtain ⟨w0, hw0, c0, b0, b1⟩ := news2 w (.cells #[.int .i64 n, .int .i64 f, .int .i64 t] 77) (.cells #[.int .i64 m, .int .i64 g, .int .i64 u] 77)
  have k0 := cell_of b0 0
  have k1 := cell_of b0 1
  have k3 := cell_of b1 0
  have k4 := cell_of b1 1
  simp only [List.getElem?_toArray, List.getElem?_cons_succ, List.getElem?_cons_zero] at k0 k1 k3 k4
  have g0 := lt_of_heap b0
  have g1 := lt_of_heap b1
  have W0 := Lib.hid hw0
  have GR : Hid (∀ o, Chg [] w (w0.alloc o).drew ∧ w.drawn ≤ (w0.alloc o).drew.drawn) := Lib.hid (fun o => ⟨(c0.alloc o).drew, by rw [hw0]; exact Nat.le_succ _⟩)
  clear hw0 c0 b0 b1
  unfold cmpSS cmpD
  generalize hr : or2 (cmpI n m) (cmpI f g) = R
  have HR := Lib.hid hr
  clear hr
  go_enter Tryz.func152, Tryz.ntmps152
  go_wp2
  rw [← W0.out]
  have n1 := World.new_ne w0 ⟨w.heap.size, 0, none⟩ k0
  have n2 := World.new_ne w0 ⟨w.heap.size + 1, 0, none⟩ k3
  generalize w.heap.size + 1 = s1 at *
  generalize w.heap.size = s0 at *
  go_region_held3 (fun w' => w'.cell? ⟨s0, 0, none⟩ = some (.int .i64 n) ∧ w'.cell? ⟨s0, 1, none⟩ = some (.int .i64 f) ∧ w'.cell? ⟨s1, 0, none⟩ = some (.int .i64 m) ∧ w'.cell? ⟨s1, 1, none⟩ = some (.int .i64 g)) (first | exact ⟨k0, k1, k3, k4⟩ | go_keep)
    ((first
      | (go_at_call 111; (with_reducible refine (cmpint_any _ _ _).mono ?_); rintro e w1 ⟨rfl, rfl⟩)
      | (go_at_call 110; refine (or2_any _ w0.heap.size (cmpI n m) (cmpI f g) (show (w0.alloc _).drew.heap[_]? = _ from heap_alloc_new w0 _)).mono ?_; rintro e w1 ⟨rfl, rfl⟩)))
  all_goals
    go_wp2
    go_ret
    exact ⟨by first | rfl | (rw [← HR.out]; rfl), GR.out _⟩
set_option maxRecDepth 100000 in
set_option maxHeartbeats 16000000 in
theorem spjoin_any (w : World) (A : Option Addr) (c : Nat) (xs : List Sp) (h : RdK spanTy w A xs.length xs) (hn : xs.length ≤ 1000000000) (hb : ∀ x ∈ xs, B3 x) :
    Calls Tryz.prog 117 #[.slice A xs.length c] w fun e w' => ∃ A' c', e = .returned (.slice A' (tidyS xs).length c') ∧ OwnK spanTy w' A' c' (tidyS xs) ∧ (∀ a, A' = some a → w.heap.size ≤ a.block) ∧ Chg [] w w' := by

  have HX := Lib.hid h
  have HN := Lib.hid hn
  have HB := Lib.hid hb
  clear h hn hb
  go_enter Tryz.func117, Tryz.ntmps117
  go_wp2_with fail
  refine (cloneSpan_any w A xs.length c xs HX.out (by have := HN.out; omega)).mono ?_
  rintro e w1 ⟨A1, c1, rfl, o1, n1, h1⟩
  have O1 := Lib.hid o1
  have N1 := Lib.hid n1
  have C1 := Lib.hid h1
  clear o1 n1 h1
  go_wp2_with fail
  refine (sortp_any (R := spanTy) Tryz.llLaysF06 Tryz.isAgg77 Tryz.sizeOf77 cmpSS swoSS 152 (enters_of Tryz.func152 (by kernel_rfl) rfl) spcmp_says w1 A1 c1 xs O1.out (by have := HN.out; omega)).mono ?_
  rintro e w2 ⟨rfl, ms, hp, hs, o2, h2⟩
  have RO := Lib.hid o2
  replace C1 := Lib.hid (C1.out.trans' h2 fun i hi => .inr (blkOf_new N1.out i hi))
  have ML : ms.length = xs.length := hp.length_eq
  have MS : Hid (ms.Pairwise Le) := Lib.hid (hs.imp (fun {x y} q => by
    rw [ltSS, decide_eq_false_iff_not] at q
    unfold LtD at q
    unfold Le
    omega))
  have MB : Hid (∀ x ∈ ms, B3 x) := Lib.hid (fun x hx => HB.out x (hp.mem_iff.1 hx))
  have TS : Hid (ms.foldl pushP [] = tidyS xs) := Lib.hid (join_sorted hp MS.out (fun x hx => (HB.out x hx).ok))
  have LF : Hid (∀ (k : Nat) (x : Sp), ms[k]? = some x → ∀ y, ((ms.take k).foldl pushP []).getLast? = some y → Le y x) := Lib.hid (fun k x hx => sorted_last MS.out (fun z hz => (MB.out z hz).ok) hx)
  have MLN : Hid (ms.length ≤ 1000000000) := Lib.hid (by rw [ML]; exact HN.out)
  rw [← ML]
  clear hp hs o2 h2 O1 MS HX HB HN ML
  go_wp2
  go_loopw [4, 14] (fun v4 v14 wr => ∃ (k : Nat) (A2 : Option Addr) (c2 : Nat), k ≤ ms.length ∧ v14 = .int .i64 k ∧ v4 = .slice A2 ((ms.take k).foldl pushP []).length c2 ∧ Hid (OwnK spanTy wr A2 c2 ((ms.take k).foldl pushP [])) ∧ Hid (∀ a, A2 = some a → w2.heap.size ≤ a.block) ∧ Hid (Chg [] w2 wr)) (fun _ v14 _ => ms.length - (RowKit.intOf v14).toNat)
  case atStart => exact ⟨0, none, 0, Nat.zero_le _, rfl, rfl, OwnK.none_ _, Lib.hid (by simp), Chg.refl _ _⟩
  case round =>
    obtain ⟨k, A2, c2, hk, rfl, rfl, PO, PN, PC⟩ := hrel
    have j0 : (0 : Int) ≤ (k : Int) := by omega
    by_cases hlt : k < ms.length
    · have j1 : (k : Int) < (ms.length : Int) := by omega
      have j3 : IntKind.i64.wrap ((k : Int) + 1) = (k : Int) + 1 := IntWalk.i64_in _ (by have := MLN.out; omega)
      obtain ⟨x, hx⟩ : ∃ x, ms[k]? = some x := ⟨_, List.getElem?_eq_getElem hlt⟩
      obtain ⟨g3, o3, eA, _⟩ := RO.out.reads.line (by omega)
      have eo : o3 = 0 := by
        rcases RO.out.shape with ⟨h, _⟩ | ⟨g', h, _⟩
        · rw [h] at eA; cases eA
        · rw [h] at eA; cases eA; rfl
      subst eo
      subst eA
      have XB := MB.out x (List.mem_of_getElem? hx)
      unfold B3 at XB
      have LX := Lib.hid (LF.out k x hx)
      have FS : Hid ((ms.take (k + 1)).foldl pushP [] = pushP ((ms.take k).foldl pushP []) x) := Lib.hid (by rw [List.take_add_one, hx]; simp)
      have OB : Hid (∀ y ∈ (ms.take k).foldl pushP [], B3 y) := Lib.hid ((fold_props (ms.take k) [] (by simp) (fun y hy => MB.out y (List.mem_of_mem_take hy))).1)
      have OL : ((ms.take k).foldl pushP []).length ≤ k := by have := (fold_props (ms.take k) [] (by simp) (fun y hy => MB.out y (List.mem_of_mem_take hy))).2; rw [List.length_take] at this; simp at this; omega
      obtain ⟨q0, q1, q2⟩ := spanCells (RO.out.reads.chg PC.out (by simp)) hx
      simp only [Nat.zero_add] at q0 q1 q2
      generalize (ms.take k).foldl pushP [] = out at *
      have POL : Hid (out.length ≤ 1000000000) := Lib.hid (by have := MLN.out; omega)
      have LO0 := Lib.hid (PO.out.lt_)
      obtain ⟨w5, hw5, c5, b5⟩ := news1 wr (.cells #[.int .i64 x.1, .int .i64 x.2.1, .int .i64 x.2.2] 77)
      have W5 := Lib.hid hw5
      have B5 := Lib.hid b5
      replace PO := Lib.hid (PO.out.chg c5 (by simp))
      have LO5 : Hid (∀ a, A2 = some a → a.block ≠ wr.heap.size) := Lib.hid (fun a ha q => by
        rcases PO.out.shape with ⟨h, _⟩ | ⟨g', h, _⟩
        · rw [h] at ha; cases ha
        · have := LO0.out a ha; omega)
      replace PC := Lib.hid (PC.out.trans c5)
      clear hw5 c5 b5 hx
      go_upto_region 8 with fail
      rw [← W5.out]
      generalize wr.heap.size = g6 at *
      clear W5 q0 q1 q2
      have y0 := cell_of B5.out 0
      have y1 := cell_of B5.out 1
      have y2 := cell_of B5.out 2
      simp only [List.getElem?_toArray, List.getElem?_cons_succ, List.getElem?_cons_zero] at y0 y1 y2
      by_cases h0 : out = []
      · have e2 : Hid (out = []) := Lib.hid h0
        have e0 : decide (0 < out.length) = false := by rw [h0]; rfl
        have e1 : decide ((0 : Int) < (out.length : Int)) = false := by rw [h0]; rfl
        clear h0
        go_quiet (fail)
        have hq := (Chg.refl [] w5).drewN nq
        generalize w5.drewN nq = w6 at *
        replace PC := Lib.hid (PC.out.trans hq)
        replace PO := Lib.hid (PO.out.chg hq (by simp))
        replace B5 := Lib.hid (hq.at_ B5.out (by simp))
        clear hq y0 y1 y2
        have HP : Hid ((ms.take (k + 1)).foldl pushP [] = out ++ [x]) := Lib.hid (by rw [FS.out, e2.out, push_none]; rfl)
        have y0 := cell_of B5.out 0
        have y1 := cell_of B5.out 1
        have y2 := cell_of B5.out 2
        simp only [List.getElem?_toArray, List.getElem?_cons_succ, List.getElem?_cons_zero] at y0 y1 y2
        obtain ⟨w7, hw, cn, bn⟩ := news1 w6 (.cells #[.int .i64 x.1, .int .i64 x.2.1, .int .i64 x.2.2] 77)
        have W7 := Lib.hid hw
        have XR := Lib.hid (rd_oneS (x := x) bn)
        replace PC := Lib.hid (PC.out.trans cn)
        replace PO := Lib.hid (PO.out.chg cn (by simp))
        have N4 : Hid ((out.length + 1) * 400 ≤ 140737488355327) := Lib.hid (by have := POL.out; omega)
        clear hw cn bn
        go_wp2_with (at_builtin; rw [← W7.out]; refine wpList_appK rfl _ _ rfl rfl PO.out rfl rfl XR.out N4.out ?_; intro A7 c7 wc o7 g7 e7)
        have O7 := Lib.hid o7
        have F7 := Lib.hid (fresh_appS PN.out PC.out g7 e7)
        replace PC := Lib.hid F7.out.2
        clear o7 g7 e7 y0 y1 y2
        go_wp2
        go_round
        case rel => exact ⟨k + 1, A7, c7, by omega, by go_num, by rw [HP.out, List.length_append]; rfl, by rw [HP.out]; exact O7, Lib.hid F7.out.1, PC⟩
        case measure => simp [RowKit.intOf]; omega
      · have hp : 0 < out.length := List.length_pos_iff.2 h0
        obtain ⟨y, hy⟩ : ∃ y, out[out.length - 1]? = some y := ⟨_, List.getElem?_eq_getElem (by omega)⟩
        have YB := OB.out y (List.mem_of_getElem? hy)
        unfold B3 at YB
        have LE := LX.out y (last_at hy)
        unfold Le at LE
        obtain ⟨g2, o2, eB, _⟩ := PO.out.reads.line hp
        have eo : o2 = 0 := by
          rcases PO.out.shape with ⟨h, _⟩ | ⟨g', h, _⟩
          · rw [h] at eB; cases eB
          · rw [h] at eB; cases eB; rfl
        subst eo
        subst eB
        have EY := Lib.hid hy
        obtain ⟨p0, p1, p2⟩ := spanCells PO.out.reads hy
        simp only [Nat.zero_add] at p0 p1 p2
        have e0 : decide (0 < out.length) = true := by simpa using hp
        have e9 : decide ((0 : Int) < (out.length : Int)) = true := by simp; omega
        have e1 : IntKind.i64.wrap ((out.length : Int) - 1) = ((out.length - 1 : Nat) : Int) := by rw [IntWalk.i64_in _ (by have := POL.out; omega)]; omega
        have e2 : (0 : Int) ≤ ((out.length - 1 : Nat) : Int) := by omega
        have e3 : ((out.length - 1 : Nat) : Int) < (out.length : Int) := by omega
        have e4 : IntKind.i64.wrap (x.2.1 - 1) = x.2.1 - 1 := IntWalk.i64_in _ (by omega)
        have e5 : out.length - 1 < out.length := by omega
        clear h0 hy
        by_cases f1 : y.1 = x.1
        rotate_left
        · have AP := Lib.hid (push_apart' EY.out (show Ap y x by unfold Ap; omega))
          have f2 : ((y.1 == x.1) : Bool) = false := by simpa using f1
          clear f1 LE XB YB
          go_quiet (fail)
          have hq := (Chg.refl [] w5).drewN nq
          generalize w5.drewN nq = w6 at *
          replace PC := Lib.hid (PC.out.trans hq)
          replace PO := Lib.hid (PO.out.chg hq (by simp))
          replace B5 := Lib.hid (hq.at_ B5.out (by simp))
          clear hq y0 y1 y2
          clear p0 p1 p2
          have HP : Hid ((ms.take (k + 1)).foldl pushP [] = out ++ [x]) := Lib.hid (by rw [FS.out, AP.out])
          have y0 := cell_of B5.out 0
          have y1 := cell_of B5.out 1
          have y2 := cell_of B5.out 2
          simp only [List.getElem?_toArray, List.getElem?_cons_succ, List.getElem?_cons_zero] at y0 y1 y2
          obtain ⟨w7, hw, cn, bn⟩ := news1 w6 (.cells #[.int .i64 x.1, .int .i64 x.2.1, .int .i64 x.2.2] 77)
          have W7 := Lib.hid hw
          have XR := Lib.hid (rd_oneS (x := x) bn)
          replace PC := Lib.hid (PC.out.trans cn)
          replace PO := Lib.hid (PO.out.chg cn (by simp))
          have N4 : Hid ((out.length + 1) * 400 ≤ 140737488355327) := Lib.hid (by have := POL.out; omega)
          clear hw cn bn
          go_wp2_with (at_builtin; rw [← W7.out]; refine wpList_appK rfl _ _ rfl rfl PO.out rfl rfl XR.out N4.out ?_; intro A7 c7 wc o7 g7 e7)
          have O7 := Lib.hid o7
          have F7 := Lib.hid (fresh_appS PN.out PC.out g7 e7)
          replace PC := Lib.hid F7.out.2
          clear o7 g7 e7 y0 y1 y2
          go_wp2
          go_round
          case rel => exact ⟨k + 1, A7, c7, by omega, by go_num, by rw [HP.out, List.length_append]; rfl, by rw [HP.out]; exact O7, Lib.hid F7.out.1, PC⟩
          case measure => simp [RowKit.intOf]; omega
        have f2 : ((y.1 == x.1) : Bool) = true := by simpa using f1
        by_cases f3 : x.2.1 - 1 ≤ y.2.2
        rotate_left
        · have AP := Lib.hid (push_apart' EY.out (show Ap y x by unfold Ap; omega))
          clear f1 LE XB YB
          go_quiet (fail)
          have hq := (Chg.refl [] w5).drewN nq
          generalize w5.drewN nq = w6 at *
          replace PC := Lib.hid (PC.out.trans hq)
          replace PO := Lib.hid (PO.out.chg hq (by simp))
          replace B5 := Lib.hid (hq.at_ B5.out (by simp))
          clear hq y0 y1 y2
          clear p0 p1 p2
          have HP : Hid ((ms.take (k + 1)).foldl pushP [] = out ++ [x]) := Lib.hid (by rw [FS.out, AP.out])
          have y0 := cell_of B5.out 0
          have y1 := cell_of B5.out 1
          have y2 := cell_of B5.out 2
          simp only [List.getElem?_toArray, List.getElem?_cons_succ, List.getElem?_cons_zero] at y0 y1 y2
          obtain ⟨w7, hw, cn, bn⟩ := news1 w6 (.cells #[.int .i64 x.1, .int .i64 x.2.1, .int .i64 x.2.2] 77)
          have W7 := Lib.hid hw
          have XR := Lib.hid (rd_oneS (x := x) bn)
          replace PC := Lib.hid (PC.out.trans cn)
          replace PO := Lib.hid (PO.out.chg cn (by simp))
          have N4 : Hid ((out.length + 1) * 400 ≤ 140737488355327) := Lib.hid (by have := POL.out; omega)
          clear hw cn bn
          go_wp2_with (at_builtin; rw [← W7.out]; refine wpList_appK rfl _ _ rfl rfl PO.out rfl rfl XR.out N4.out ?_; intro A7 c7 wc o7 g7 e7)
          have O7 := Lib.hid o7
          have F7 := Lib.hid (fresh_appS PN.out PC.out g7 e7)
          replace PC := Lib.hid F7.out.2
          clear o7 g7 e7 y0 y1 y2
          go_wp2
          go_round
          case rel => exact ⟨k + 1, A7, c7, by omega, by go_num, by rw [HP.out, List.length_append]; rfl, by rw [HP.out]; exact O7, Lib.hid F7.out.1, PC⟩
          case measure => simp [RowKit.intOf]; omega
        have AP := Lib.hid (push_touch EY.out (show ¬ Ap y x by unfold Ap; omega))
        have HP : Hid ((ms.take (k + 1)).foldl pushP [] = out.set (out.length - 1) (y.1, y.2.1, max y.2.2 x.2.2)) := Lib.hid (by rw [FS.out, AP.out])
        clear f1 LE XB YB
        go_quiet (fail)
        have hq := (Chg.refl [] w5).drewN nq
        generalize w5.drewN nq = w6 at *
        replace PC := Lib.hid (PC.out.trans hq)
        replace PO := Lib.hid (PO.out.chg hq (by simp))
        replace B5 := Lib.hid (hq.at_ B5.out (by simp))
        clear hq y0 y1 y2
        clear p0 p1 p2
        go_upto_region 9 with fail
        have zt := cell_of B5.out 2
        simp only [List.getElem?_toArray, List.getElem?_cons_succ, List.getElem?_cons_zero] at zt
        refine wp_region_held_drew (S := fun w' => w'.cell? ⟨g6, 2, none⟩ = some (.int .i64 x.2.2)) (by kernel_rfl) zt (fun hHeld => ?_)
        have CD := Lib.hid (Chg.refl [] w6).drew
        replace PC := Lib.hid (PC.out.trans CD.out)
        replace PO := Lib.hid (PO.out.chg CD.out (by simp))
        have ZT : w6.drew.cell? ⟨g6, 2, none⟩ = some (.int .i64 x.2.2) := CD.out.cell zt (by simp)
        have BG : Hid (g6 ≠ g2) := Lib.hid (fun q => LO5.out ⟨g2, 0, none⟩ rfl q.symm)
        have NB : Hid (w2.heap.size ≤ g2) := Lib.hid (PN.out _ rfl)
        have SPC := Lib.hid (spanCells PO.out.reads EY.out)
        have FR := Lib.hid (own_free PO.out ((out.length - 1) * 3 + 2))
        clear CD zt
        generalize w6.drew = wd at *
        refine sy 0 45 rfl rfl ?_
        try simp only [Act.put, sA, s0, s1]
        refine sy 1 46 rfl rfl ?_
        try simp only [Act.put, sA, s0, s1]
        refine sy 2 47 rfl rfl ?_
        try simp only [Act.put, sA, s0, s1]
        refine sy 3 48 rfl rfl ?_
        try simp only [Act.put, sA, s0, s1]
        refine sy 4 49 rfl rfl ?_
        try simp only [Act.put, sA, s0, s1]
        refine sy 5 50 rfl rfl ?_
        try simp only [Act.put, sA, s0, s1]
        refine sy 6 51 rfl rfl ?_
        try simp only [Act.put, sA, s0, s1]
        refine sy 7 52 rfl rfl ?_
        try simp only [Act.put, sA, s0, s1]
        refine sy 9 54 rfl rfl ?_
        try simp only [Act.put, sA, s0, s1]
        refine sy 10 55 rfl rfl ?_ (hy := by (intro w hSw; (try dsimp only at hSw); have q := hSw; go_simp; try with_reducible rfl))
        try simp only [Act.put, sA, s0, s1]
        refine wpAnyH_ready (rs := [8]) (by kernel_rfl) (by simp) ?_
        refine AllReadyH.cons rfl (fun K hK => ?_) AllReadyH.nil
        replace hK := Lib.hid hK
        have z := SPC.out.2.2
        rw [Nat.zero_add] at z
        go_simp
        clear z hHeld
        refine hK.out _ _ ZT (fun hHeld => ?_)
        clear hK K
        try simp only [Act.put, sA, s0, s1]
        refine sy 11 56 rfl rfl ?_
        try simp only [Act.put, sA, s0, s1]
        refine sy 12 57 rfl rfl ?_
        try simp only [Act.put, sA, s0, s1]
        refine sy 13 58 rfl rfl ?_
        try simp only [Act.put, sA, s0, s1]
        refine wpAnyH_ready (rs := [14]) (by kernel_rfl) (by simp) ?_
        refine AllReadyH.cons rfl (fun K hK => ?_) AllReadyH.nil
        replace hK := Lib.hid hK
        have z := SPC.out.2.2
        rw [Nat.zero_add] at z
        have fz := FR.out
        go_simp
        clear z fz hHeld
        refine hK.out _ _ (((Chg.refl [g2] wd).setCell (p := ⟨g2, (out.length - 1) * 3 + 2, none⟩) (.inl (by simp)) _).cell ZT (by simp; exact BG.out)) (fun hHeld => ?_)
        clear hK K
        try simp only [Act.put, sA, s0, s1]
        refine wpAnyH_done (by kernel_rfl) ?_ _
        have HX2 : Hid (∀ v : Int, v = max y.2.2 x.2.2 → OwnK spanTy (wd.setCell ⟨g2, (out.length - 1) * 3 + 2, none⟩ (.int .i64 v)) (some ⟨g2, 0, none⟩) c2 (out.set (out.length - 1) (y.1, y.2.1, max y.2.2 x.2.2)) ∧ Chg [] w2 (wd.setCell ⟨g2, (out.length - 1) * 3 + 2, none⟩ (.int .i64 v))) := Lib.hid (fun v hv => by
          subst hv
          exact ⟨PO.out.setc (out.length - 1) 2 y (y.1, y.2.1, max y.2.2 x.2.2) (.int .i64 (max y.2.2 x.2.2)) EY.out (by decide) (spanSetTo y _), PC.out.setCell (p := ⟨g2, (out.length - 1) * 3 + 2, none⟩) (.inr NB.out) _⟩)
        clear hHeld
        go_wp2
        all_goals
          go_round
          case rel => exact ⟨k + 1, some ⟨g2, 0, none⟩, c2, by omega, by go_num, by rw [HP.out, List.length_set], by rw [HP.out]; exact Lib.hid (HX2.out _ (by omega)).1, PN, Lib.hid (HX2.out _ (by omega)).2⟩
          case measure => simp [RowKit.intOf]; omega
    · obtain rfl : k = ms.length := by omega
      have j1 : ¬ (ms.length : Int) < (ms.length : Int) := by omega
      rw [List.take_length] at PO ⊢
      go_wp2
      go_ret
      rw [← TS.out]
      exact ⟨A2, c2, rfl, PO.out, fun a ha => Nat.le_trans C1.out.size (PN.out a ha), C1.out.trans PC.out⟩
end
section
open Go.RowKit Go.Lib
set_option linter.unusedSimpArgs false
set_option linter.unusedVariables false


set_option maxRecDepth 100000 in
set_option maxHeartbeats 16000000 in
theorem evpast_any (w : World) (A : Option Addr) (c : Nat) (xs : List EvT) (es : List EvP) (h : RdK evTy w A xs.length xs) (hx : EvsR w xs es) (hn : xs.length ≤ 100000) (hs : ∀ e ∈ es, EvSm e) :
    Calls Tryz.prog 94 #[.slice A xs.length c] w fun r w' => ∃ A' c', r = .returned (.tuple #[.slice A' (pastE es).2.length c', .int .i64 (pastE es).1]) ∧ OwnK spanTy w' A' c' (pastE es).2 ∧ (∀ a, A' = some a → w.heap.size ≤ a.block) ∧ Chg [] w w' := by

  have HA := Lib.hid h
  have HX := Lib.hid hx
  have HN := Lib.hid hn
  have HS := Lib.hid hs
  clear h hx hn hs
  go_enter Tryz.func94, Tryz.ntmps94
  go_wp2
  go_loopw [4, 10] (fun v4 v10 wr => ∃ (k : Nat) (A2 : Option Addr) (c2 : Nat), k ≤ xs.length ∧ v10 = .int .i64 k ∧ v4 = .slice A2 (allsE (es.take k)).length c2 ∧ Hid (OwnK spanTy wr A2 c2 (allsE (es.take k))) ∧ Hid (∀ a, A2 = some a → w.heap.size ≤ a.block) ∧ Hid (okAll (es.take k) = true ∧ (allsE (es.take k)).length ≤ k * 5000) ∧ Hid (Chg [] w wr)) (fun _ v10 _ => xs.length - (RowKit.intOf v10).toNat)
  case atStart => exact ⟨0, none, 0, Nat.zero_le _, rfl, rfl, OwnK.none_ _, Lib.hid (by simp), Lib.hid ⟨rfl, by simp [allsE]⟩, Chg.refl _ _⟩
  case round =>
    obtain ⟨k, A2, c2, hk, rfl, rfl, PO, PN, OKK, PC⟩ := hrel
    have j0 : (0 : Int) ≤ (k : Int) := by omega
    by_cases hlt : k < xs.length
    · have j1 : (k : Int) < (xs.length : Int) := by omega
      have j3 : IntKind.i64.wrap ((k : Int) + 1) = (k : Int) + 1 := IntWalk.i64_in _ (by have := HN.out; omega)
      obtain ⟨g3, o3, eA, _⟩ := HA.out.line (by omega)
      subst eA
      obtain ⟨x, e, ex, ee, rx⟩ := HX.out.at_ hlt
      obtain ⟨z0, z1, z2, z3, z4, z5, z6⟩ := evCells (HA.out.chg PC.out (by simp)) ex
      have RX := Lib.hid rx
      have LO0 := Lib.hid (PO.out.lt_)
      have ES := Lib.hid (HS.out e (List.mem_of_getElem? ee))
      have EE := Lib.hid ee
      clear ex ee rx
      obtain ⟨w5, hw5, c5, b5⟩ := news1 wr (.cells #[.int .i64 x.n, .int .i64 x.s, .string x.p, .int .i64 x.k, .int .i64 x.m, .slice x.A x.l x.c, .slice x.B x.bl x.bc] 30)
      have W5 := Lib.hid hw5
      have B5 := Lib.hid b5
      replace PO := Lib.hid (PO.out.chg c5 (by simp))
      replace PC := Lib.hid (PC.out.trans c5)
      clear hw5 c5 b5
      go_upto_region 5 with fail
      rw [← W5.out]
      have LO5 : Hid (∀ a, A2 = some a → a.block ≠ wr.heap.size) := Lib.hid (fun a ha => Nat.ne_of_lt (LO0.out a ha))
      generalize wr.heap.size = g6 at *
      clear W5 z0 z1 z2 z3 z4 z5 z6
      have y0 := cell_of B5.out 0
      have y1 := cell_of B5.out 1
      have y2 := cell_of B5.out 2
      have y3 := cell_of B5.out 3
      have y4 := cell_of B5.out 4
      have y5 := cell_of B5.out 5
      have y6 := cell_of B5.out 6
      simp only [List.getElem?_toArray, List.getElem?_cons_succ, List.getElem?_cons_zero] at y0 y1 y2 y3 y4 y5 y6
      go_wp2_with fail
      clear y0 y1 y2 y3 y4 y5 y6
      refine (evcheck_any w5 x e (RX.out.chg PC.out) ES.out).mono ?_
      rintro r w6 ⟨rfl, hc⟩
      replace PO := Lib.hid (PO.out.chg hc (by simp))
      replace B5 := Lib.hid (hc.at_ B5.out (by simp))
      replace PC := Lib.hid (PC.out.trans hc)
      clear hc
      rcases chkEv_two e with e1 | e1
      rotate_left
      · have NO : Hid (pastE es = (2, [])) := Lib.hid (by unfold pastE; rw [okAll_no EE.out (by omega)]; rfl)
        rw [e1]
        clear e1
        go_wp2
        go_ret2
        rw [NO.out]
        exact ⟨none, 0, rfl, OwnK.none_ _, by simp, PC.out⟩
      have AT : Hid (allsE (es.take (k + 1)) = allsE (es.take k) ++ [ownS e] ++ e.q) := Lib.hid (by rw [alls_take EE.out]; simp)
      have OT : Hid (okAll (es.take (k + 1)) = true) := Lib.hid (by rw [okAll_take EE.out, OKK.out.1, e1]; rfl)
      have QL : Hid (e.q.length ≤ 4000) := Lib.hid (chk_len e1)
      rw [e1]
      clear e1
      have LL := Lib.hid OKK.out.2
      generalize allsE (es.take k) = al at *
      obtain ⟨w7, hw, cn, bn⟩ := news1 w6 (.cells #[.int .i64 x.n, .int .i64 x.s, .int .i64 x.s] 77)
      have W7 := Lib.hid hw
      have XR : Hid (RdK spanTy w7 (some ⟨w6.heap.size, 0, none⟩) 1 [ownS e]) := Lib.hid (by
        have q := rd_oneS (x := (x.n, x.s, x.s)) bn
        rwa [RX.out.n, RX.out.s] at q)
      have XB : Hid (x.bl = e.q.length) := Lib.hid RX.out.bl
      replace PO := Lib.hid (PO.out.chg cn (by simp))
      replace PC := Lib.hid (PC.out.trans cn)
      have CB := Lib.hid (cn.at_ B5.out (by simp))
      have N4 : Hid ((al.length + 1) * 400 ≤ 140737488355327) := Lib.hid (by have := LL.out; have := HN.out; omega)
      have N5 : Hid ((al.length + 1 + x.bl) * 400 ≤ 140737488355327) := Lib.hid (by have := LL.out; have := HN.out; have := XB.out; have := QL.out; omega)
      have y0 := cell_of B5.out 0
      have y1 := cell_of B5.out 1
      have y2 := cell_of B5.out 2
      have y3 := cell_of B5.out 3
      have y4 := cell_of B5.out 4
      have y5 := cell_of B5.out 5
      have y6 := cell_of B5.out 6
      simp only [List.getElem?_toArray, List.getElem?_cons_succ, List.getElem?_cons_zero] at y0 y1 y2 y3 y4 y5 y6
      have Z8 : Hid (∀ (w8 : World), w7.grownBy w8 (A2.map (·.block)) → w8.cell? ⟨g6, 6, none⟩ = some (.slice x.B x.bl x.bc)) := Lib.hid (fun w8 g7 => by
        have CG : Chg (blkOf A2) w7 w8 := (Chg.refl (blkOf A2) w7).grown g7 (fun i hi => by
          cases A2 with
          | none => simp at hi
          | some a => simp at hi; subst hi; exact .inl (mem_blkOf rfl))
        exact cell_of (CG.at_ CB.out (fun q => by obtain ⟨b, hb, q2⟩ := of_blkOf q; exact LO5.out b hb q2)) 6)
      have AL : Hid ((al ++ [ownS e]).length = al.length + 1) := Lib.hid (by simp)
      have RQ : Hid (∀ w', Chg [] w w' → RdK spanTy w' x.B x.bl e.q) := Lib.hid (fun w' hc => (RX.out.chg hc).B)
      clear hw cn bn
      go_wp2_with (first | (at_builtin; rw [← W7.out]; refine wpList_appK (R := spanTy) rfl (.tmp 19) (.tmp 30) rfl rfl (A := A2) (n := al.length) (m := 1) (c := c2) (d := 1) (xs := al) (ys := [ownS e]) PO.out rfl rfl XR.out N4.out ?_; intro A7 c7 w8 o7 g7 e7; have y8 := Z8.out w8 g7; have O7 := Lib.hid o7; have F7 := Lib.hid (fresh_appS PN.out PC.out g7 e7); clear o7 g7 e7) | (at_builtin; refine wpList_appK (R := spanTy) rfl (.tmp 32) (.tmp 34) rfl rfl (A := A7) (n := al.length + 1) (m := x.bl) (c := c7) (d := x.bc) (xs := al ++ [ownS e]) (ys := e.q) O7.out AL.out rfl (RQ.out _ F7.out.2) N5.out ?_; intro A9 c9 w9 o9 g9 e9))
      have O9 := Lib.hid o9
      have F9 := Lib.hid (fresh_appS F7.out.1 F7.out.2 g9 e9)
      have NL : Hid (al.length + 1 + x.bl = (al ++ [ownS e] ++ e.q).length) := Lib.hid (by have := XB.out; simp; omega)
      clear o9 g9 e9 y0 y1 y2 y3 y4 y5 y6 y8 O7 F7
      rw [NL.out]
      go_wp2
      go_round
      case rel => exact ⟨k + 1, A9, c9, by omega, by go_num, by rw [AT.out], by rw [AT.out]; exact O9, Lib.hid F9.out.1, Lib.hid ⟨OT.out, by rw [AT.out]; have := LL.out; have := QL.out; simp; omega⟩, Lib.hid F9.out.2⟩
      case measure => simp [RowKit.intOf]; omega
    · obtain rfl : k = xs.length := by omega
      have j1 : ¬ (xs.length : Int) < (xs.length : Int) := by omega
      have ET : es.take xs.length = es := by rw [HX.out.1]; exact List.take_length
      rw [ET] at PO OKK ⊢
      clear ET
      have PE : Hid (pastE es = boundP (tidyS (allsE es))) := Lib.hid (by unfold pastE; rw [if_pos OKK.out.1])
      have AB := Lib.hid (alls_B3 OKK.out.1)
      have AL : Hid ((allsE es).length ≤ 1000000000) := Lib.hid (by have := OKK.out.2; have := HN.out; omega)
      generalize allsE es = al at *
      go_wp2_with fail
      refine (spjoin_any wr A2 c2 al PO.out.reads AL.out AB.out).mono ?_
      rintro r w2 ⟨A3, c3, rfl, o3, n3, hc⟩
      have O3 := Lib.hid o3
      have N3 := Lib.hid (fun a ha => Nat.le_trans PC.out.size (n3 a ha) : ∀ a, A3 = some a → w.heap.size ≤ a.block)
      replace PC := Lib.hid (PC.out.trans hc)
      clear o3 n3 hc PO PN
      by_cases hb : (tidyS al).length ≤ 4000
      · have BL : Hid (pastE es = (0, tidyS al)) := Lib.hid (by rw [PE.out, bound_le hb])
        have b1 : ¬ (4000 : Int) < ((tidyS al).length : Int) := by omega
        have b2 : ¬ 4000 < (tidyS al).length := by omega
        go_wp2
        go_ret2
        rw [BL.out]
        exact ⟨A3, c3, rfl, O3.out, N3.out, PC.out⟩
      · have BL : Hid (pastE es = (8, [])) := Lib.hid (by rw [PE.out]; unfold boundP; rw [if_pos (by omega)])
        have b1 : (4000 : Int) < ((tidyS al).length : Int) := by omega
        have b2 : 4000 < (tidyS al).length := by omega
        go_wp2
        go_ret2
        rw [BL.out]
        exact ⟨none, 0, rfl, OwnK.none_ _, by simp, PC.out⟩
end
section
open Go.RowKit Go.Lib
set_option linter.unusedSimpArgs false
set_option linter.unusedVariables false


def oneE : EvP := ⟨1, 1, [102], 1, 0, [], []⟩
def twoE : EvP := ⟨2, 1, [102], 3, 0, [], [(1, 1, 1)]⟩
def threeE : EvP := ⟨3, 1, [102], 2, 0, [], []⟩
theorem w_chk : chkEv oneE = 0 ∧ chkEv twoE = 0 ∧ chkEv threeE = 0 := by decide +kernel
theorem w_ahead : aheadP oneE twoE = true ∧ aheadP twoE oneE = false ∧ aheadP oneE threeE = false ∧ aheadP threeE oneE = false ∧ aheadP twoE threeE = false ∧ aheadP threeE twoE = false ∧ aheadP oneE oneE = false ∧ aheadP twoE twoE = false ∧ aheadP threeE threeE = false := by decide +kernel
theorem w_put0 (e : EvP) : putE [] e = [e] := by simp [putE, stayE, insE]
theorem w_put1 : putE [oneE] twoE = [twoE] := by
  have h := w_ahead
  simp [putE, stayE, insE, h.1, h.2.1, show ¬ (oneE.n = twoE.n ∧ oneE.s = twoE.s) by decide]
theorem w_put2 : putE [twoE] oneE = [twoE] := by
  have h := w_ahead
  simp [putE, stayE, h.1]
theorem w_put3 : putE [oneE] threeE = [oneE, threeE] := by
  have h := w_ahead
  simp [putE, stayE, insE, h, show ¬ (oneE.n = threeE.n ∧ oneE.s = threeE.s) by decide, show ¬ LtEv threeE oneE by decide]
theorem w_put4 : putE [oneE, threeE] twoE = [twoE, threeE] := by
  have h := w_ahead
  simp [putE, stayE, insE, h, show ¬ (oneE.n = twoE.n ∧ oneE.s = twoE.s) by decide, show ¬ (threeE.n = twoE.n ∧ threeE.s = twoE.s) by decide, show LtEv twoE threeE by decide]
theorem w_ok : ShOk [] ∧ ShOk [oneE] ∧ ShOk [twoE] ∧ ShOk [oneE, threeE] := by
  refine ⟨by simp [ShOk], shOk_one.2 w_chk.1, shOk_one.2 w_chk.2.1, ?_⟩
  rw [← w_put3]
  exact put_ok (shOk_one.2 w_chk.1) w_chk.2.2 (fun x hx => by rw [List.mem_singleton.1 hx]; rfl)
theorem w_no : shE [oneE, twoE] = 2 ∧ shE [threeE, oneE] = 2 := by decide +kernel
theorem w_j0 : shJoinE [] [oneE] = (0, [oneE]) := by rw [shPut_yes w_ok.1 w_chk.1 (fun x hx => by simp at hx), w_put0]
theorem w_j1 : shJoinE [oneE] [twoE] = (0, [twoE]) := by rw [shPut_yes w_ok.2.1 w_chk.2.1 (fun x hx => by simp at hx; rw [← hx]; rfl), w_put1]
theorem w_j2 : shJoinE [twoE] [oneE] = (0, [twoE]) := by rw [shPut_yes w_ok.2.2.1 w_chk.1 (fun x hx => by simp at hx; rw [← hx]; rfl), w_put2]
theorem w_j3 : shJoinE [oneE] [threeE] = (0, [oneE, threeE]) := by rw [shPut_yes w_ok.2.1 w_chk.2.2 (fun x hx => by simp at hx; rw [← hx]; rfl), w_put3]
theorem w_j4 : shJoinE [oneE, threeE] [twoE] = (0, [twoE, threeE]) := by rw [shPut_yes w_ok.2.2.2 w_chk.2.1 (fun x hx => by simp at hx; rw [← hx]; rfl), w_put4]
theorem w_past : pastE [twoE] = (0, [(1, 1, 1), (2, 1, 1)]) := by decide +kernel
theorem w_small : (EvSm oneE ∧ oneE.q.length ≤ 100000) ∧ (EvSm twoE ∧ twoE.q.length ≤ 100000) ∧ (EvSm threeE ∧ threeE.q.length ≤ 100000) := by
  refine ⟨⟨?_, ?_⟩, ⟨?_, ?_⟩, ⟨?_, ?_⟩⟩ <;> simp [EvSm, oneE, twoE, threeE]
/-- No bytes. -/
def ZN (X : EvT) : Prop := X.A = none ∧ X.l = 0 ∧ X.c = 0
theorem rd_twoE {w : World} {g : Nat} {x y : EvT} (h : w.heap[g]? = some (.cells #[.int .i64 x.n, .int .i64 x.s, .string x.p, .int .i64 x.k, .int .i64 x.m, .slice x.A x.l x.c, .slice x.B x.bl x.bc, .int .i64 y.n, .int .i64 y.s, .string y.p, .int .i64 y.k, .int .i64 y.m, .slice y.A y.l y.c, .slice y.B y.bl y.bc] 30)) : RdK evTy w (some ⟨g, 0, none⟩) 2 [x, y] :=
  ⟨rfl, fun j v hj => ⟨_, rfl, by rw [add_zero_lit, cell_of h j]; simpa [RowTy.flat, evTy] using hj⟩⟩
set_option maxRecDepth 100000 in
set_option maxHeartbeats 2000000 in
theorem l9one_any (w : World) : Calls Tryz.prog 28 #[] w fun r w' => ∃ X : EvT, r = .returned (.agg #[.int .i64 X.n, .int .i64 X.s, .string X.p, .int .i64 X.k, .int .i64 X.m, .slice X.A X.l X.c, .slice X.B X.bl X.bc]) ∧ EvR w' X oneE ∧ ZN X ∧ Chg [] w w' := by
  have C : Hid (Chg [] w (w.alloc (.cells #[.int .i64 1, .int .i64 1, .string ⟨#[102]⟩, .int .i64 1, .int .i64 0, .slice none 0 0, .slice none 0 0] 30))) := Lib.hid ((Chg.refl [] w).alloc _)
  have b := heap_alloc_new w (.cells #[.int .i64 1, .int .i64 1, .string ⟨#[102]⟩, .int .i64 1, .int .i64 0, .slice none 0 0, .slice none 0 0] 30)
  go_enter Tryz.func28, Tryz.ntmps28
  go_wp2
  have z0 := cell_of b 0
  have z1 := cell_of b 1
  have z2 := cell_of b 2
  have z3 := cell_of b 3
  have z4 := cell_of b 4
  have z5 := cell_of b 5
  have z6 := cell_of b 6
  simp only [List.getElem?_toArray, List.getElem?_cons_succ, List.getElem?_cons_zero] at z0 z1 z2 z3 z4 z5 z6
  refine bodyPost_ret (v := .agg #[.int .i64 1, .int .i64 1, .string ⟨#[102]⟩, .int .i64 1, .int .i64 0, .slice none 0 0, .slice none 0 0]) (by simp [results, Tryz.results28, go_sem, z0, z1, z2, z3, z4, z5, z6]) rfl ?_
  exact ⟨⟨1, 1, ⟨#[102]⟩, 1, 0, none, 0, 0, none, 0, 0⟩, rfl, ⟨rfl, rfl, rfl, rfl, rfl, rfl, rfl, Bs.nil _ _, RdK.nil _ _⟩, ⟨rfl, rfl, rfl⟩, C.out⟩
set_option maxRecDepth 100000 in
set_option maxHeartbeats 2000000 in
theorem l9three_any (w : World) : Calls Tryz.prog 31 #[] w fun r w' => ∃ X : EvT, r = .returned (.agg #[.int .i64 X.n, .int .i64 X.s, .string X.p, .int .i64 X.k, .int .i64 X.m, .slice X.A X.l X.c, .slice X.B X.bl X.bc]) ∧ EvR w' X threeE ∧ ZN X ∧ Chg [] w w' := by
  have C : Hid (Chg [] w (w.alloc (.cells #[.int .i64 3, .int .i64 1, .string ⟨#[102]⟩, .int .i64 2, .int .i64 0, .slice none 0 0, .slice none 0 0] 30))) := Lib.hid ((Chg.refl [] w).alloc _)
  have b := heap_alloc_new w (.cells #[.int .i64 3, .int .i64 1, .string ⟨#[102]⟩, .int .i64 2, .int .i64 0, .slice none 0 0, .slice none 0 0] 30)
  go_enter Tryz.func31, Tryz.ntmps31
  go_wp2
  have z0 := cell_of b 0
  have z1 := cell_of b 1
  have z2 := cell_of b 2
  have z3 := cell_of b 3
  have z4 := cell_of b 4
  have z5 := cell_of b 5
  have z6 := cell_of b 6
  simp only [List.getElem?_toArray, List.getElem?_cons_succ, List.getElem?_cons_zero] at z0 z1 z2 z3 z4 z5 z6
  refine bodyPost_ret (v := .agg #[.int .i64 3, .int .i64 1, .string ⟨#[102]⟩, .int .i64 2, .int .i64 0, .slice none 0 0, .slice none 0 0]) (by simp [results, Tryz.results31, go_sem, z0, z1, z2, z3, z4, z5, z6]) rfl ?_
  exact ⟨⟨3, 1, ⟨#[102]⟩, 2, 0, none, 0, 0, none, 0, 0⟩, rfl, ⟨rfl, rfl, rfl, rfl, rfl, rfl, rfl, Bs.nil _ _, RdK.nil _ _⟩, ⟨rfl, rfl, rfl⟩, C.out⟩
set_option maxRecDepth 100000 in
set_option maxHeartbeats 4000000 in
theorem l9of_any (w : World) (A : Option Addr) (n c : Nat) (xs : List EvT) (h : RdK evTy w A n xs) (hn : n ≤ 1000) : Calls Tryz.prog 29 #[.slice A n c] w fun r w' => ∃ (A' : Option Addr) (c' : Nat), r = .returned (.slice A' n c') ∧ OwnK evTy w' A' c' xs ∧ Chg [] w w' := by
  obtain ⟨w1, hw, hc, b⟩ := news1 w (.cells #[] 30)
  have W1 := Lib.hid hw
  have C1 := Lib.hid hc
  have H1 := Lib.hid (h.chg hc (by simp))
  have O1 : Hid (OwnK evTy w1 (some ⟨w.heap.size, 0, none⟩) 0 []) := Lib.hid (OwnK.of (full := []) b (Nat.le_refl _) (Nat.zero_le _) rfl rfl)
  have N1 : Hid ((0 + n) * 400 ≤ 140737488355327) := Lib.hid (by omega)
  have G1 : Hid (∀ a, (some ⟨w.heap.size, 0, none⟩ : Option Addr) = some a → w.heap.size ≤ a.block) := Lib.hid (fun a ha => by cases ha; exact Nat.le_refl _)
  clear hw hc b h hn
  go_enter Tryz.func29, Tryz.ntmps29
  go_wp2_with (at_builtin; rw [← W1.out]; refine wpList_appK (R := evTy) rfl (.tmp 3) (.tmp 4) rfl rfl (A := some ⟨w.heap.size, 0, none⟩) (n := 0) (m := n) (c := 0) (d := c) (xs := []) (ys := xs) O1.out rfl rfl H1.out N1.out ?_; intro A9 c9 w9 o9 g9 e9)
  have O9 := Lib.hid o9
  have F9 := Lib.hid (fresh_appE G1.out C1.out g9 e9)
  clear o9 g9 e9
  go_ret
  exact ⟨A9, c9, by simp, O9.out, F9.out.2⟩
set_option maxRecDepth 100000 in
set_option maxHeartbeats 4000000 in
theorem l9puts_yes (w : World) (A : Option Addr) (c : Nat) (xs : List EvT) (es : List EvP) (X : EvT) (e : EvP) (B : Option Addr) (d : Nat) (ys : List EvT) (fs : List EvP) (h : RdK evTy w A xs.length xs) (hx : EvsR w xs es) (hX : EvR w X e) (h' : RdK evTy w B ys.length ys) (hy : EvsR w ys fs) (hn : xs.length ≤ 900 ∧ ys.length ≤ 900) (hs : ∀ e ∈ es, EvSm e ∧ e.q.length ≤ 100000) (ht : EvSm e ∧ e.q.length ≤ 100000) (hu : ∀ e ∈ fs, EvSm e ∧ e.q.length ≤ 100000) (hj : shJoinE es [e] = (0, fs)) :
    Calls Tryz.prog 27 #[.slice A xs.length c, .agg #[.int .i64 X.n, .int .i64 X.s, .string X.p, .int .i64 X.k, .int .i64 X.m, .slice X.A X.l X.c, .slice X.B X.bl X.bc], .slice B ys.length d] w fun r w' => r = .returned (.bool true) ∧ Chg [] w w' := by
  obtain ⟨w1, hw, hc, b⟩ := news1 w (.cells #[.int .i64 X.n, .int .i64 X.s, .string X.p, .int .i64 X.k, .int .i64 X.m, .slice X.A X.l X.c, .slice X.B X.bl X.bc] 30)
  have W1 := Lib.hid hw
  have C1 := Lib.hid hc
  have P1 := Lib.hid (shput_any w1 A c xs es X e (h.chg hc (by simp)) (hx.chg hc) (by omega) hs (hX.chg hc) ht)
  have HB := Lib.hid (h'.chg hc (by simp))
  have HY := Lib.hid (hy.chg hc)
  have HJ := Lib.hid hj
  have HN := Lib.hid hn
  have HU : Hid (∀ e ∈ fs, e.q.length ≤ 140737488351232) := Lib.hid (fun e he => by have := (hu e he).2; omega)
  have z0 := cell_of b 0
  have z1 := cell_of b 1
  have z2 := cell_of b 2
  have z3 := cell_of b 3
  have z4 := cell_of b 4
  have z5 := cell_of b 5
  have z6 := cell_of b 6
  simp only [List.getElem?_toArray, List.getElem?_cons_succ, List.getElem?_cons_zero] at z0 z1 z2 z3 z4 z5 z6
  clear hw hc b h hx hX h' hy hn hs ht hu hj
  go_enter Tryz.func27, Tryz.ntmps27
  go_upto_region 1 with fail
  rw [← W1.out]
  generalize w.heap.size = g1 at *
  clear W1
  go_wp2_with fail
  clear z0 z1 z2 z3 z4 z5 z6
  refine P1.out.mono ?_
  rintro r w2 ⟨A2, c2, zs, rfl, he, hc⟩
  rw [HJ.out] at he ⊢
  have F2 : Hid (EsF w2 w1.heap.size w2.heap.size A2 c2 zs fs) := Lib.hid he
  have C2 := Lib.hid hc
  clear he hc P1
  go_wp2_with fail
  refine (sameevs_any w2 A2 B c2 d zs ys fs fs F2.out.row.reads (HB.out.chg C2.out (by simp)) F2.out.all.ev (HY.out.chg C2.out) ⟨by have a := F2.out.all.ev.1; have b := HY.out.1; have := HN.out.2; omega, by have := HN.out.2; omega⟩ ⟨HU.out, HU.out⟩).mono ?_
  rintro r w3 ⟨rfl, hc⟩
  rw [sameL_refl]
  have C3 := Lib.hid (C1.out.trans (C2.out.trans hc))
  clear hc
  go_wp2
  go_ret
  first | exact ⟨rfl, C3.out⟩ | exact C3.out
set_option maxRecDepth 100000 in
set_option maxHeartbeats 4000000 in
theorem l9two_any (w : World) : Calls Tryz.prog 30 #[] w fun r w' => ∃ X : EvT, r = .returned (.agg #[.int .i64 X.n, .int .i64 X.s, .string X.p, .int .i64 X.k, .int .i64 X.m, .slice X.A X.l X.c, .slice X.B X.bl X.bc]) ∧ EvR w' X twoE ∧ ZN X ∧ Chg [] w w' := by
  obtain ⟨w2, hw, hc, b0, b1⟩ := news2 w (.cells #[.int .i64 2, .int .i64 1, .string ⟨#[102]⟩, .int .i64 3, .int .i64 0, .slice none 0 0, .slice (some ⟨w.heap.size + 1, 0, none⟩) 1 1] 30) (.cells #[.int .i64 1, .int .i64 1, .int .i64 1] 77)
  have W2 := Lib.hid hw
  have C := Lib.hid hc
  have RS : RdK spanTy w2 (some ⟨w.heap.size + 1, 0, none⟩) 1 [(1, 1, 1)] := ⟨rfl, fun j v hj => ⟨_, rfl, by rw [add_zero_lit, cell_of b1 j]; simpa [RowTy.flat, spanTy] using hj⟩⟩
  have HRS := Lib.hid RS
  have B0 := Lib.hid b0
  clear hw hc b0 b1 RS
  go_enter Tryz.func30, Tryz.ntmps30
  go_wp2
  rw [← W2.out]
  have z0 := cell_of B0.out 0
  have z1 := cell_of B0.out 1
  have z2 := cell_of B0.out 2
  have z3 := cell_of B0.out 3
  have z4 := cell_of B0.out 4
  have z5 := cell_of B0.out 5
  have z6 := cell_of B0.out 6
  simp only [List.getElem?_toArray, List.getElem?_cons_succ, List.getElem?_cons_zero] at z0 z1 z2 z3 z4 z5 z6
  refine bodyPost_ret (v := .agg #[.int .i64 2, .int .i64 1, .string ⟨#[102]⟩, .int .i64 3, .int .i64 0, .slice none 0 0, .slice (some ⟨w.heap.size + 1, 0, none⟩) 1 1]) (by simp [results, Tryz.results30, go_sem, z0, z1, z2, z3, z4, z5, z6]) rfl ?_
  exact ⟨⟨2, 1, ⟨#[102]⟩, 3, 0, none, 0, 0, some ⟨w.heap.size + 1, 0, none⟩, 1, 1⟩, rfl, ⟨rfl, rfl, rfl, rfl, rfl, rfl, rfl, Bs.nil _ _, HRS.out⟩, ⟨rfl, rfl, rfl⟩, C.out⟩
end
section
open Go.RowKit Go.Lib
set_option linter.unusedSimpArgs false
set_option linter.unusedVariables false


/-- Effects without bytes, in rows. -/
def effZ : RowTy (Int × Int) where
  enc := fun x => [.int .i64 x.1, .int .i64 x.2, .slice none 0 0]
  k := 3
  T := 27
  TS := 72
  z := (0, 0)
  zv := .agg #[.int .i64 0, .int .i64 0, .slice none 0 0]
  bytes := 40
  klen := fun _ => rfl
  one := by intro x v hv; simp at hv; rcases hv with rfl | rfl | rfl <;> rfl
  zc := rfl
  kpos := by decide
  bpos := by decide
  under := by kernel_rfl
  info := by kernel_rfl
theorem cmpE_z (k m k' m' : Int) : cmpE k m [] k' m' [] = cmpD k m k' m' := by
  unfold cmpE cmpD or3 or2
  rw [show Lib.compareBytes [] [] = 0 from by decide]
  generalize cmpI k k' = a
  generalize cmpI m m' = b
  by_cases ha : a = 0 <;> by_cases hb : b = 0 <;> simp [ha, hb]
set_option maxHeartbeats 1000000 in
theorem ecmpz_gr (w : World) (k m k' m' : Int) :
    Calls Tryz.prog 116 #[.agg #[.int .i64 k, .int .i64 m, .slice none 0 0], .agg #[.int .i64 k', .int .i64 m', .slice none 0 0]] w fun e w' => e = .returned (.int .i64 (cmpD k m k' m')) ∧ Gr w w' := by
  obtain ⟨w0, hw0, c0, b0, b1⟩ := news2 w (.cells #[.int .i64 k, .int .i64 m, .slice none 0 0] 27) (.cells #[.int .i64 k', .int .i64 m', .slice none 0 0] 27)
  have k0 := cell_of b0 0
  have k1 := cell_of b0 1
  have k2 := cell_of b0 2
  have k3 := cell_of b1 0
  have k4 := cell_of b1 1
  have k5 := cell_of b1 2
  simp only [List.getElem?_toArray, List.getElem?_cons_succ, List.getElem?_cons_zero] at k0 k1 k2 k3 k4 k5
  have g0 := lt_of_heap b0
  have g1 := lt_of_heap b1
  have W0 := Lib.hid hw0
  have GR : Hid (∀ o, Gr w (w0.alloc o).drew) := Lib.hid (fun o => ⟨(c0.alloc o).drew, by rw [hw0]; exact Nat.le_succ _⟩)
  clear hw0 c0 b0 b1
  rw [← cmpE_z]
  unfold cmpE
  generalize hr : or3 (cmpI k k') (cmpI m m') (Lib.compareBytes [] []) = R
  have HR := Lib.hid hr
  clear hr
  go_enter Tryz.func116, Tryz.ntmps116
  go_wp2
  rw [← W0.out]
  have n1 := World.new_ne w0 ⟨w.heap.size, 0, none⟩ k0
  have n2 := World.new_ne w0 ⟨w.heap.size + 1, 0, none⟩ k3
  generalize w.heap.size + 1 = s1 at *
  generalize w.heap.size = s0 at *
  go_region_held3 (fun w' => w'.cell? ⟨s0, 0, none⟩ = some (.int .i64 k) ∧ w'.cell? ⟨s0, 1, none⟩ = some (.int .i64 m) ∧ w'.cell? ⟨s0, 2, none⟩ = some (.slice none 0 0) ∧ w'.cell? ⟨s1, 0, none⟩ = some (.int .i64 k') ∧ w'.cell? ⟨s1, 1, none⟩ = some (.int .i64 m') ∧ w'.cell? ⟨s1, 2, none⟩ = some (.slice none 0 0)) (first | exact ⟨k0, k1, k2, k3, k4, k5⟩ | go_keep)
    ((first
      | (go_at_call 111; refine (cmpint_any _ _ _).mono ?_; rintro e w1 ⟨rfl, rfl⟩)
      | (go_at_call 150; refine (bcmp_any _ none none 0 0 0 0 [] [] (Bs.nil _ _) (Bs.nil _ _)).mono ?_; rintro e w1 ⟨rfl, rfl⟩)))
  all_goals
    go_wp2_with fail
    refine (or3_any _ w0.heap.size (cmpI k k') (cmpI m m') (Lib.compareBytes [] []) (show (w0.alloc _).drew.heap[_]? = _ from heap_alloc_new w0 _)).mono ?_
    rintro e w1 ⟨rfl, rfl⟩
    go_wp2
    go_ret
    exact ⟨by rw [HR.out]; rfl, GR.out _⟩
set_option maxHeartbeats 1000000 in
theorem elessz_gr (w : World) (k m k' m' : Int) :
    Calls Tryz.prog 91 #[.agg #[.int .i64 k, .int .i64 m, .slice none 0 0], .agg #[.int .i64 k', .int .i64 m', .slice none 0 0]] w fun e w' => e = .returned (.bool (decide (LtD k m k' m'))) ∧ Gr w w' := by
  have h : decide (cmpD k m k' m' < 0) = decide (LtD k m k' m') := decide_eq_decide.2 cmpD_lt
  generalize decide (LtD k m k' m') = B at *
  go_enter Tryz.func91, Tryz.ntmps91
  go_wp2_with fail
  refine (ecmpz_gr _ _ _ _ _).mono ?_
  rintro e w1 ⟨rfl, c1⟩
  have C1 : Hid (Gr w w1) := Lib.hid (Gr.trans ⟨((Chg.refl [] w).alloc _).alloc _, Nat.le_refl _⟩ c1)
  clear c1
  go_wp2
  go_ret
  exact ⟨rfl, C1.out⟩

set_option maxRecDepth 100000 in
set_option maxHeartbeats 2000000 in
/-- order.Of of effects without bytes. -/
theorem orderofe_gr (w : World) (a s b t : Int) :
    Calls Tryz.prog 90 #[.agg #[.int .i64 a, .int .i64 s, .slice none 0 0], .agg #[.int .i64 b, .int .i64 t, .slice none 0 0], .func (.func 91) #[] #[]] w fun e w' => e = .returned (.int .i64 (cmpD a s b t)) ∧ Gr w w' := by
  obtain ⟨w0, hw0, c0, b0, b1⟩ := gr2 w (.cells #[.int .i64 a, .int .i64 s, .slice none 0 0] 27) (.cells #[.int .i64 b, .int .i64 t, .slice none 0 0] 27)
  have W0 := Lib.hid hw0
  have G := Lib.hid c0
  have B0 := Lib.hid b0
  have B1 := Lib.hid b1
  rw [cmpD_is]
  clear hw0 c0 b0 b1
  go_enter Tryz.func90, Tryz.ntmps90
  go_upto_region 1 with fail
  rw [← W0.out]
  generalize w.heap.size + 1 = s1 at *
  generalize w.heap.size = s0 at *
  have k0 := cell_of B0.out 0
  have k1 := cell_of B0.out 1
  have k2 := cell_of B0.out 2
  have k3 := cell_of B1.out 0
  have k4 := cell_of B1.out 1
  have k5 := cell_of B1.out 2
  simp only [List.getElem?_toArray, List.getElem?_cons_succ, List.getElem?_cons_zero] at k0 k1 k2 k3 k4 k5
  go_wp2_with fail
  clear k0 k1 k2 k3 k4 k5
  refine (elessz_gr _ _ _ _ _).mono ?_
  rintro e w1 ⟨rfl, c1⟩
  replace G := Lib.hid (G.out.trans c1)
  replace B0 := Lib.hid (c1.1.at_ B0.out (by simp))
  replace B1 := Lib.hid (c1.1.at_ B1.out (by simp))
  clear c1
  by_cases h1 : LtD a s b t
  · rw [decide_eq_true h1]
    have H1 := Lib.hid h1
    clear h1
    go_wp2
    go_ret
    exact ⟨by first | rfl | rw [if_pos H1.out], G.out⟩
  rw [decide_eq_false h1]
  have N1 := Lib.hid h1
  clear h1
  have k0 := cell_of B0.out 0
  have k1 := cell_of B0.out 1
  have k2 := cell_of B0.out 2
  have k3 := cell_of B1.out 0
  have k4 := cell_of B1.out 1
  have k5 := cell_of B1.out 2
  simp only [List.getElem?_toArray, List.getElem?_cons_succ, List.getElem?_cons_zero] at k0 k1 k2 k3 k4 k5
  go_wp2_with fail
  clear k0 k1 k2 k3 k4 k5
  refine (elessz_gr _ _ _ _ _).mono ?_
  rintro e w2 ⟨rfl, c1⟩
  replace G := Lib.hid (G.out.trans c1)
  clear c1
  by_cases h1 : LtD b t a s
  · rw [decide_eq_true h1]
    have H1 := Lib.hid h1
    clear h1
    go_wp2
    go_ret
    exact ⟨by first | rfl | rw [if_neg N1.out, if_pos H1.out], G.out⟩
  · rw [decide_eq_false h1]
    have H1 := Lib.hid h1
    clear h1
    go_wp2
    go_ret
    exact ⟨by first | rfl | rw [if_neg N1.out, if_neg H1.out], G.out⟩
def cmpZ (x y : Int × Int) : Int := cmpD x.1 x.2 y.1 y.2
theorem ltZ (x y : Int × Int) : ltOf cmpZ x y = decide (LtD x.1 x.2 y.1 y.2) := decide_eq_decide.2 cmpD_lt
theorem swoZ : Go.Sort.SWO (ltOf cmpZ) where
  irrefl x := by rw [ltZ]; simp [LtD]
  trans x y z h1 h2 := by
    rw [ltZ, decide_eq_true_eq] at *
    unfold LtD at *
    omega
  ntrans x y z h1 h2 := by
    rw [ltZ, decide_eq_false_iff_not] at *
    unfold LtD at *
    omega
set_option maxRecDepth 100000 in
set_option maxHeartbeats 2000000 in
theorem shcmp_says : CmpSays effZ 89 cmpZ := fun w x y => by
  show Calls Tryz.prog 89 #[.agg #[.int .i64 x.1, .int .i64 x.2, .slice none 0 0], .agg #[.int .i64 y.1, .int .i64 y.2, .slice none 0 0]] w fun e w' => e = .returned (.int .i64 (cmpD x.1 x.2 y.1 y.2)) ∧ Gr w w'
  obtain ⟨w0, hw0, c0, b0, b1⟩ := gr2 w (.cells #[.int .i64 x.1, .int .i64 x.2, .slice none 0 0] 27) (.cells #[.int .i64 y.1, .int .i64 y.2, .slice none 0 0] 27)
  have W0 := Lib.hid hw0
  have G := Lib.hid c0
  have k0 := cell_of b0 0
  have k1 := cell_of b0 1
  have k2 := cell_of b0 2
  have k3 := cell_of b1 0
  have k4 := cell_of b1 1
  have k5 := cell_of b1 2
  simp only [List.getElem?_toArray, List.getElem?_cons_succ, List.getElem?_cons_zero] at k0 k1 k2 k3 k4 k5
  clear hw0 c0 b0 b1
  go_enter Tryz.func89, Tryz.ntmps89
  go_upto_region 1 with fail
  rw [← W0.out]
  generalize w.heap.size + 1 = s1 at *
  generalize w.heap.size = s0 at *
  go_wp2_with fail
  clear k0 k1 k2 k3 k4 k5
  refine (orderofe_gr _ _ _ _ _).mono ?_
  rintro e w1 ⟨rfl, c1⟩
  replace G := Lib.hid (G.out.trans c1)
  clear c1
  go_wp2
  go_ret
  exact ⟨rfl, G.out⟩
set_option maxRecDepth 100000 in
theorem clone_nil (w : World) : Calls Tryz.prog 114 #[.slice none 0 0] w fun r w' => r = .returned (.slice none 0 0) ∧ w' = w := by
  have h0 := fun w => Lib.run_eql_slice_nil (P := Tryz.prog) w 25 5 none 0 0 0 0 Tryz.underlying25
  go_enter Tryz.func114, Tryz.ntmps114
  go_wp2
  go_ret
  exact ⟨rfl, rfl⟩

set_option maxRecDepth 100000 in
set_option maxHeartbeats 4000000 in
theorem frnil_any (w : World) (k m : Int) :
    Calls Tryz.prog 87 #[.agg #[.int .i64 k, .int .i64 m, .slice none 0 0]] w fun r w' => r = .returned (.agg #[.int .i64 k, .int .i64 m, .slice none 0 0]) ∧ Chg [] w w' := by
  obtain ⟨w2, hw, hc, b0, b1⟩ := news2 w (.cells #[.int .i64 k, .int .i64 m, .slice none 0 0] 27) (.cells #[.int .i64 0, .int .i64 0, .slice none 0 0] 27)
  have W2 := Lib.hid hw
  have C := Lib.hid hc
  obtain ⟨g0, hg0⟩ : ∃ g, w.heap.size = g := ⟨_, rfl⟩
  obtain ⟨g1, hg1⟩ : ∃ g, w.heap.size + 1 = g := ⟨_, rfl⟩
  have SZ := Lib.hid hg0
  have S1 := Lib.hid hg1
  rw [hg0] at b0
  rw [hg1] at b1
  have B0 := Lib.hid b0
  have B1 := Lib.hid b1
  have NEg0 : Hid (g0 ≠ g1) := Lib.hid (by omega)
  have NEg1 : Hid (g1 ≠ g0) := Lib.hid (by omega)
  have LZg0 : Hid (g0 ≤ g0) := Lib.hid (Nat.le_refl _)
  have LZg1 : Hid (g0 ≤ g1) := Lib.hid (by omega)
  have L0 := Lib.hid (lt_of_heap b0)
  have L1 := Lib.hid (lt_of_heap b1)
  clear hw hc b0 b1 hg0 hg1
  go_enter Tryz.func87, Tryz.ntmps87
  go_upto_region 1 with fail
  rw [← W2.out, S1.out, SZ.out]
  have z0 := cell_of B0.out 0
  have fz0 := free_of B0.out 0
  have z1 := cell_of B0.out 1
  have fz1 := free_of B0.out 1
  have z2 := cell_of B0.out 2
  have fz2 := free_of B0.out 2
  simp only [List.getElem?_toArray, List.getElem?_cons_succ, List.getElem?_cons_zero] at z0 z1 z2
  go_wp2_with fail
  refine (clone_nil w2).mono ?_
  rintro r w3 ⟨rfl, hw3⟩
  rw [hw3]
  clear hw3 w3
  clear z0 z1 z2 fz0 fz1 fz2
  have S2 := Lib.hid C.out.size
  have z0 := cell_of B0.out 0
  have fz0 := free_of B0.out 0
  have z1 := cell_of B0.out 1
  have fz1 := free_of B0.out 1
  have z2 := cell_of B0.out 2
  have fz2 := free_of B0.out 2
  simp only [List.getElem?_toArray, List.getElem?_cons_succ, List.getElem?_cons_zero] at z0 z1 z2
  go_upto_region 2 with fail
  clear z0 z1 z2 fz0 fz1 fz2
  obtain ⟨p0, p1, p2⟩ := set3_2 (.slice none 0 0) B0.out B1.out NEg0.out LZg0.out C.out SZ.out
  generalize hW : (w2.setCell ⟨g0, 2, none⟩ (.slice none 0 0)) = w4 at *
  replace B0 := Lib.hid p0
  replace B1 := Lib.hid p1
  replace C := Lib.hid p2
  clear p0 p1 p2 hW
  have z0 := cell_of B0.out 0
  have fz0 := free_of B0.out 0
  have z1 := cell_of B0.out 1
  have fz1 := free_of B0.out 1
  have z2 := cell_of B0.out 2
  have fz2 := free_of B0.out 2
  simp only [List.getElem?_toArray, List.getElem?_cons_succ, List.getElem?_cons_zero] at z0 z1 z2
  have y0 := cell_of B1.out 0
  have fy0 := free_of B1.out 0
  have y1 := cell_of B1.out 1
  have fy1 := free_of B1.out 1
  have y2 := cell_of B1.out 2
  have fy2 := free_of B1.out 2
  simp only [List.getElem?_toArray, List.getElem?_cons_succ, List.getElem?_cons_zero] at y0 y1 y2
  go_wp2
  clear z0 z1 z2 fz0 fz1 fz2
  clear y0 y1 y2 fy0 fy1 fy2
  obtain ⟨p0, p1, p2⟩ := set3_all (.int .i64 k) (.int .i64 m) (.slice none 0 0) B1.out B0.out NEg1.out LZg1.out C.out SZ.out
  generalize hW : (((w4.setCell ⟨g1, 0, none⟩ (.int .i64 k)).setCell ⟨g1, 1, none⟩ (.int .i64 m)).setCell ⟨g1, 2, none⟩ (.slice none 0 0)) = w5 at *
  replace B1 := Lib.hid p0
  replace C := Lib.hid p2
  clear p0 p1 p2 hW
  have y0 := cell_of B1.out 0
  have y1 := cell_of B1.out 1
  have y2 := cell_of B1.out 2
  simp only [List.getElem?_toArray, List.getElem?_cons_succ, List.getElem?_cons_zero] at y0 y1 y2
  refine bodyPost_ret (v := .agg #[.int .i64 k, .int .i64 m, .slice none 0 0]) (by simp [results, Tryz.results87, go_sem, y0, y1, y2]) rfl ?_
  exact ⟨rfl, C.out⟩
end
section
open Go.RowKit Go.Lib
set_option linter.unusedSimpArgs false
set_option linter.unusedVariables false


set_option maxRecDepth 100000 in
set_option maxHeartbeats 8000000 in
/-- Nothing is taken out of at most two effects that are unlike, in order. -/
theorem compz_any (w : World) (A : Option Addr) (c : Nat) (xs : List (Int × Int)) (h : OwnK effZ w A c xs) (hn : xs.length ≤ 2) (hs : ∀ a b, xs = [a, b] → LtD a.1 a.2 b.1 b.2) :
    Calls Tryz.prog 92 #[.slice A xs.length c, .func (.func 93) #[] #[]] w fun r w' => r = .returned (.slice A xs.length c) ∧ Chg [] w w' := by

  have O := Lib.hid h
  by_cases h2 : xs.length < 2
  · have l0 : (xs.length : Int) < 2 := by omega
    clear h hs h2 hn
    go_enter Tryz.func92, Tryz.ntmps92
    go_wp2
    go_ret
    exact ⟨rfl, Chg.refl _ _⟩
  obtain ⟨a, b, rfl⟩ : ∃ a b, xs = [a, b] := by
    match xs, hn, h2 with
    | [a, b], _, _ => exact ⟨a, b, rfl⟩
    | [], _, h2 => exact absurd (by simp) h2
    | [a], _, h2 => exact absurd (by simp) h2
    | a :: b :: c :: l, hn, _ => simp at hn
  have lt := hs a b rfl
  obtain ⟨g, rfl, _⟩ : ∃ g, A = some ⟨g, 0, none⟩ ∧ g < w.heap.size := by
    rcases h.shape with ⟨_, q, _⟩ | q
    · cases q
    · exact q
  have HB : Hid (∀ w', Chg [] w w' → (w'.cell? ⟨g, 0, none⟩ = some (.int .i64 a.1) ∧ w'.cell? ⟨g, 1, none⟩ = some (.int .i64 a.2) ∧ w'.cell? ⟨g, 2, none⟩ = some (.slice none 0 0)) ∧ (w'.cell? ⟨g, 3, none⟩ = some (.int .i64 b.1) ∧ w'.cell? ⟨g, 4, none⟩ = some (.int .i64 b.2) ∧ w'.cell? ⟨g, 5, none⟩ = some (.slice none 0 0))) := Lib.hid (fun w' hc => by
    have r := (h.chg hc (by simp)).reads
    have q := fun j i x v hx hi => r.at_ (g := g) (o := 0) j i x v hx hi
    exact ⟨⟨q 0 0 a _ rfl rfl, q 0 1 a _ rfl rfl, q 0 2 a _ rfl rfl⟩, ⟨q 1 0 b _ rfl rfl, q 1 1 b _ rfl rfl, q 1 2 b _ rfl rfl⟩⟩)
  have SE : Hid (∀ w', Calls Tryz.prog 93 #[.agg #[.int .i64 b.1, .int .i64 b.2, .slice none 0 0], .agg #[.int .i64 a.1, .int .i64 a.2, .slice none 0 0]] w' fun r w2 => r = .returned (.bool false) ∧ Chg [] w' w2) := Lib.hid (fun w' => (esame_any w' b.1 b.2 a.1 a.2 none none 0 0 0 0 [] [] (Bs.nil _ _) (Bs.nil _ _)).mono (fun r w2 hr => ⟨by
    rw [hr.1]
    have hne : (cmpE b.1 b.2 [] a.1 a.2 [] == 0) = false := by
      rw [cmpE_z]
      have q := @cmpD_lt a.1 a.2 b.1 b.2
      have q2 := cmpD_is b.1 b.2 a.1 a.2
      have n1 : ¬ LtD b.1 b.2 a.1 a.2 := by unfold LtD at *; omega
      rw [if_neg n1, if_pos lt] at q2
      rw [q2]
      rfl
    rw [hne], hr.2⟩))
  clear h hs h2 hn lt
  go_enter Tryz.func92, Tryz.ntmps92
  go_wp2
  go_loopw [5] (fun v5 wr => ∃ (k : Nat), 1 ≤ k ∧ k ≤ 2 ∧ v5 = .int .i64 (k : Int) ∧ Hid (Chg [] w wr)) (fun v5 _ => 2 - (RowKit.intOf v5).toNat)
  case atStart => exact ⟨1, by omega, by omega, rfl, Chg.refl _ _⟩
  case round =>
    obtain ⟨k, k1, k2, rfl, PC⟩ := hrel
    by_cases hk : k = 1
    · subst hk
      have w00 : IntKind.i64.wrap 0 = 0 := by decide
      go_upto_region 6 with fail
      refine wp_region_held_drew (S := fun w' => Chg [] w w') (by kernel_rfl) (PC.out.trans (Chg.refl [] wr).drew) (fun hHeld => ?_)
      refine sy 0 18 rfl rfl ?_
      try simp only [Act.put, sA, s0, s1]
      refine sy 1 19 rfl rfl ?_
      try simp only [Act.put, sA, s0, s1]
      refine sy 2 20 rfl rfl ?_
      try simp only [Act.put, sA, s0, s1]
      refine sy 3 21 rfl rfl ?_
      try simp only [Act.put, sA, s0, s1]
      refine sy 4 22 rfl rfl ?_ (hy := by (intro w hSw; (try dsimp only at hSw); have hq := HB.out _ hSw; obtain ⟨⟨q0, q1, q2⟩, q3, q4, q5⟩ := hq; go_simp; try with_reducible rfl))
      try simp only [Act.put, sA, s0, s1]
      refine sy 5 23 rfl rfl ?_
      try simp only [Act.put, sA, s0, s1]
      refine sy 6 24 rfl rfl ?_
      try simp only [Act.put, sA, s0, s1]
      refine sy 7 25 rfl rfl ?_
      try simp only [Act.put, sA, s0, s1]
      refine sy 8 26 rfl rfl ?_
      try simp only [Act.put, sA, s0, s1]
      refine sy 9 27 rfl rfl ?_ (hy := by (intro w hSw; (try dsimp only at hSw); have hq := HB.out _ hSw; obtain ⟨⟨q0, q1, q2⟩, q3, q4, q5⟩ := hq; go_simp; try with_reducible rfl))
      try simp only [Act.put, sA, s0, s1]
      refine wpAnyH_ready (rs := [10]) (by kernel_rfl) (by simp) ?_
      refine AllReadyH.cons rfl (fun K hK => ?_) AllReadyH.nil
      replace hK := Lib.hid hK
      go_simp
      refine (SE.out _).mono ?_
      rintro r w9 ⟨rfl, hc⟩
      have C9 := Lib.hid (hHeld.trans hc)
      clear hc hHeld
      refine hK.out _ _ C9.out (fun hHeld => ?_)
      clear hK K
      try simp only [Act.put, sA, s0, s1]
      refine wpAnyH_done (by kernel_rfl) ?_ _
      clear hHeld HB SE
      go_wp2
      go_round
      case rel => exact ⟨2, by omega, by omega, by go_num, C9⟩
      case measure => simp [RowKit.intOf]
    · obtain rfl : k = 2 := by omega
      go_wp2
      go_ret
      exact ⟨rfl, PC.out⟩

theorem sorted_two {us zs : List (Int × Int)} (h2 : zs.length ≤ 2) (hs : ∀ a b, zs = [a, b] → LtD a.1 a.2 b.1 b.2) (hp : us.Perm zs) (hq : us.Pairwise (fun x y => ltOf cmpZ y x = false)) : us = zs := by
  have hl := hp.length_eq
  match zs, us, h2, hl with
  | [], [], _, _ => rfl
  | [a], [b], _, _ => exact List.perm_singleton.1 hp
  | [a, b], [c, d], _, _ =>
    have lt := hs a b rfl
    have nq := (List.pairwise_cons.1 hq).1 d (by simp)
    rw [ltZ, decide_eq_false_iff_not] at nq
    have hc : c = a ∨ c = b := by have := hp.subset (List.mem_cons_self (a := c)); simpa using this
    rcases hc with rfl | rfl
    · have := List.perm_singleton.1 ((List.perm_cons c).1 hp)
      rw [this]
    · have h3 : d = a := by
        have q : [c, d].Perm [c, a] := hp.trans (List.Perm.swap c a [])
        simpa using List.perm_singleton.1 ((List.perm_cons c).1 q)
      subst h3
      exact absurd lt nq
set_option maxRecDepth 100000 in
set_option maxHeartbeats 8000000 in
/-- The effects of a shelf of at most two events without bytes, if they are in order and unlike. -/
theorem sheffects_two (w : World) (A : Option Addr) (c : Nat) (xs : List EvT) (es : List EvP) (h : RdK evTy w A xs.length xs) (hx : EvsR w xs es) (hz : ∀ x ∈ xs, x.A = none ∧ x.l = 0 ∧ x.c = 0) (hn : xs.length ≤ 2) (hs : ∀ e ∈ es, EvSm e) (ho : shE es = 0) (hl : ∀ a b, xs.map (fun x => (x.k, x.m)) = [a, b] → LtD a.1 a.2 b.1 b.2) :
    Calls Tryz.prog 52 #[.slice A xs.length c] w fun r w' => ∃ (A' : Option Addr) (c' : Nat) (zs : List (Int × Int)), r = .returned (.slice A' zs.length c') ∧ zs = xs.map (fun x => (x.k, x.m)) ∧ OwnK effZ w' A' c' zs ∧ Chg [] w w' := by

  have HA := Lib.hid h
  have HX := Lib.hid hx
  have HZ := Lib.hid hz
  have HN := Lib.hid hn
  have HO := Lib.hid ho
  have HL := Lib.hid hl
  have HS := Lib.hid hs
  clear h hx hz hn ho hl hs
  go_enter Tryz.func52, Tryz.ntmps52
  go_wp2_with fail
  refine (shcheck_any w A c xs es HA.out HX.out (by have := HN.out; omega) HS.out).mono ?_
  rintro r w1 ⟨rfl, hc⟩
  rw [HO.out]
  have PC := Lib.hid hc
  clear hc
  go_wp2
  go_loopw [3, 11] (fun v3 v11 wr => ∃ (k : Nat) (A1 : Option Addr) (d1 : Nat) (zs : List (Int × Int)), k ≤ xs.length ∧ v11 = .int .i64 (k : Int) ∧ v3 = .slice A1 zs.length d1 ∧ Hid (zs = (xs.take k).map (fun x => (x.k, x.m))) ∧ Hid (OwnK effZ wr A1 d1 zs) ∧ Hid (∀ a, A1 = some a → w.heap.size ≤ a.block) ∧ Hid (Chg [] w wr)) (fun _ v11 _ => xs.length - (RowKit.intOf v11).toNat)
  case atStart => exact ⟨0, none, 0, [], Nat.zero_le _, rfl, rfl, Lib.hid rfl, OwnK.none_ _, Lib.hid (by simp), PC⟩
  case round =>
    clear PC
    obtain ⟨k, A1, d1, zs, hk, rfl, rfl, ZS, RO, RN, PC⟩ := hrel
    have j0 : (0 : Int) ≤ (k : Int) := by omega
    by_cases hlt : k < xs.length
    · have j1 : (k : Int) < (xs.length : Int) := by omega
      have j3 : IntKind.i64.wrap ((k : Int) + 1) = (k : Int) + 1 := IntWalk.i64_in _ (by have := HN.out; omega)
      obtain ⟨g3, o3, eA, _⟩ := HA.out.line (by omega)
      subst eA
      obtain ⟨x, e, ex, ee, rx⟩ := HX.out.at_ hlt
      obtain ⟨z0, z1, z2, z3, z4, z5, z6⟩ := evCells (HA.out.chg PC.out (by simp)) ex
      have XZ := HZ.out x (List.mem_of_getElem? ex)
      rw [XZ.1, XZ.2.1, XZ.2.2] at z5
      have ZS1 : Hid (zs ++ [(x.k, x.m)] = (xs.take (k + 1)).map (fun x => (x.k, x.m))) := Lib.hid (by rw [List.take_add_one, ex, List.map_append, ← ZS.out]; rfl)
      have ZL : Hid ((zs.length + 1) * 400 ≤ 140737488355327) := Lib.hid (by rw [ZS.out, List.length_map, List.length_take]; have := HN.out; omega)
      clear XZ ex ee rx
      obtain ⟨w5, hw5, c5, b5⟩ := news1 wr (.cells #[.int .i64 x.n, .int .i64 x.s, .string x.p, .int .i64 x.k, .int .i64 x.m, .slice none 0 0, .slice x.B x.bl x.bc] 30)
      have W5 := Lib.hid hw5
      have FR := Lib.hid (frnil_any w5 x.k x.m)
      have RO5 := Lib.hid (RO.out.chg c5 (by simp))
      have PC5 := Lib.hid (PC.out.trans c5)
      have y3 := cell_of b5 3
      have y4 := cell_of b5 4
      have y5 := cell_of b5 5
      simp only [List.getElem?_toArray, List.getElem?_cons_succ, List.getElem?_cons_zero] at y3 y4 y5
      clear hw5 c5 b5 RO PC
      go_upto_region 7 with fail
      rw [← W5.out]
      generalize wr.heap.size = g6 at *
      clear W5 z0 z1 z2 z3 z4 z5 z6
      go_wp2_with fail
      clear y3 y4 y5
      refine FR.out.mono ?_
      rintro r w6 ⟨rfl, hc⟩
      obtain ⟨w7, hw, cn, bn⟩ := news1 w6 (.cells #[.int .i64 x.k, .int .i64 x.m, .slice none 0 0] 27)
      have W7 := Lib.hid hw
      have XR : Hid (RdK effZ w7 (some ⟨w6.heap.size, 0, none⟩) 1 [(x.k, x.m)]) := Lib.hid ⟨rfl, fun j v hj => ⟨_, rfl, by rw [add_zero_lit, cell_of bn j]; simpa [RowTy.flat, effZ] using hj⟩⟩
      have RO7 := Lib.hid ((RO5.out.chg hc (by simp)).chg cn (by simp))
      have PC7 := Lib.hid (PC5.out.trans (hc.trans cn))
      clear hw cn bn hc FR RO5 PC5
      go_wp2_with (at_builtin; rw [← W7.out]; refine wpList_appK (R := effZ) rfl (.tmp 15) (.tmp 19) rfl rfl (A := A1) (n := zs.length) (m := 1) (c := d1) (d := 1) (xs := zs) (ys := [(x.k, x.m)]) RO7.out rfl rfl XR.out ZL.out ?_; intro A9 c9 w9 o9 g9 e9)
      have O9 := Lib.hid o9
      have F9 := Lib.hid (fresh_appE RN.out PC7.out g9 e9)
      have NL : Hid (zs.length + 1 = (zs ++ [(x.k, x.m)]).length) := Lib.hid (by simp)
      clear o9 g9 e9
      rw [NL.out]
      go_wp2
      go_round
      case rel => exact ⟨k + 1, A9, c9, zs ++ [(x.k, x.m)], by omega, by go_num, by first | rfl | simp, ZS1, O9, Lib.hid F9.out.1, Lib.hid F9.out.2⟩
      case measure => simp [RowKit.intOf]; omega
    · obtain rfl : k = xs.length := by omega
      have j1 : ¬ (xs.length : Int) < (xs.length : Int) := by omega
      have ZF : Hid (zs = xs.map (fun x => (x.k, x.m))) := Lib.hid (by rw [ZS.out, List.take_length])
      have Z2 : Hid (zs.length ≤ 2) := Lib.hid (by rw [ZF.out, List.length_map]; exact HN.out)
      have ZO : Hid (∀ a b, zs = [a, b] → LtD a.1 a.2 b.1 b.2) := Lib.hid (fun a b e => by
        rw [ZF.out] at e
        exact HL.out a b e)
      clear ZS hk hlt
      go_wp2_with fail
      refine (sortp_any (R := effZ) Tryz.llLaysG06 Tryz.isAgg27 Tryz.sizeOf27 cmpZ swoZ 89 (enters_of Tryz.func89 (by kernel_rfl) rfl) shcmp_says wr A1 d1 zs RO.out (by have := Z2.out; omega)).mono ?_
      rintro r w3 ⟨rfl, us, hp, hq, ho, hc⟩
      have us_eq : us = zs := sorted_two Z2.out ZO.out hp hq
      subst us_eq
      have O3 := Lib.hid ho
      have PC3 : Hid (Chg [] w w3) := Lib.hid (PC.out.trans' hc (fun i hi => by
        obtain ⟨b, hb, e⟩ := of_blkOf hi
        rw [← e]
        exact .inr (RN.out b hb)))
      clear hp hq ho hc RO PC
      go_wp2_with fail
      refine (compz_any w3 A1 d1 us O3.out Z2.out ZO.out).mono ?_
      rintro r w4 ⟨rfl, hc⟩
      have O4 := Lib.hid (O3.out.chg hc (by simp))
      have PC4 := Lib.hid (PC3.out.trans hc)
      clear hc O3 PC3
      go_wp2
      go_ret
      exact ⟨A1, d1, us, rfl, ZF.out, O4.out, PC4.out⟩

set_option maxRecDepth 100000 in
set_option maxHeartbeats 2000000 in
theorem shalike_two (w : World) (A : Option Addr) (c : Nat) (xs : List EvT) (es : List EvP) (h : RdK evTy w A xs.length xs) (hx : EvsR w xs es) (hz : ∀ x ∈ xs, x.A = none ∧ x.l = 0 ∧ x.c = 0) (hn : xs.length ≤ 2) (hs : ∀ e ∈ es, EvSm e) (ho : shE es = 0) (hl : ∀ a b, xs.map (fun x => (x.k, x.m)) = [a, b] → LtD a.1 a.2 b.1 b.2) :
    Calls Tryz.prog 32 #[.slice A xs.length c] w fun r w' => r = .returned (.bool (decide (xs.length = 1))) ∧ Chg [] w w' := by
  have E := Lib.hid (sheffects_two w A c xs es h hx hz hn hs ho hl)
  have D : Hid (decide ((xs.length : Int) = 1) = decide (xs.length = 1)) := Lib.hid (decide_eq_decide.2 (by omega))
  have D2 : Hid (((xs.length : Int) == 1) = decide (xs.length = 1)) := Lib.hid (by rw [← D.out]; rfl)
  clear h hx hz hn hs ho hl
  go_enter Tryz.func32, Tryz.ntmps32
  go_wp2_with fail
  refine E.out.mono ?_
  rintro r w1 ⟨A', c', zs, rfl, hz, ho, hc⟩
  have ZL : zs.length = xs.length := by rw [hz, List.length_map]
  rw [ZL]
  have C := Lib.hid hc
  clear hz ho hc E ZL
  go_wp2
  go_ret
  first | exact ⟨rfl, C.out⟩ | exact ⟨by simp; exact D2.out, C.out⟩ | exact ⟨by show Ending.returned (Value.bool _) = _; congr 2, C.out⟩
end
section
open Go.RowKit Go.Lib
set_option linter.unusedSimpArgs false
set_option linter.unusedVariables false


theorem w_sm (e : EvP) (h : e ∈ [oneE, twoE, threeE]) : EvSm e ∧ e.q.length ≤ 100000 := by
  simp at h
  rcases h with rfl | rfl | rfl
  · exact w_small.1
  · exact w_small.2.1
  · exact w_small.2.2
theorem w_sms {l : List EvP} (h : ∀ e ∈ l, e ∈ [oneE, twoE, threeE] := by simp) : ∀ e ∈ l, EvSm e ∧ e.q.length ≤ 100000 := fun e he => w_sm e (h e he)
set_option maxRecDepth 100000 in
set_option maxHeartbeats 16000000 in
theorem l9awake_run (w : World) : Calls Tryz.prog 7 #[] w fun e w' => e = .returned (.bool true) ∧ Chg [] w w' := by

  have C := Lib.hid (Chg.refl [] w)
  go_enter Tryz.func7, Tryz.ntmps7
  go_wp2_with fail
  refine (l9one_any w).mono ?_
  rintro r v1 ⟨X1, rfl, he, hz, hc⟩
  have EX1 := Lib.hid he
  have ZX1 := Lib.hid hz
  replace C := Lib.hid (C.out.trans hc)
  clear hc he hz
  go_wp2_with fail
  refine (l9one_any v1).mono ?_
  rintro r v2 ⟨X2, rfl, he, hz, hc⟩
  have EX2 := Lib.hid he
  have ZX2 := Lib.hid hz
  replace C := Lib.hid (C.out.trans hc)
  replace EX1 := Lib.hid (EX1.out.chg hc)
  clear hc he hz
  obtain ⟨v3, hw, hc, hb⟩ := news1 v2 (.cells #[.int .i64 X2.n, .int .i64 X2.s, .string X2.p, .int .i64 X2.k, .int .i64 X2.m, .slice X2.A X2.l X2.c, .slice X2.B X2.bl X2.bc] 30)
  have Wv := Lib.hid hw
  have B3 := Lib.hid (rd_oneEc hb)
  have Q3 : Hid (EvsR v2 [X2] [oneE]) := Lib.hid (by simpa using (EvsR.nil v2).snoc EX2.out)
  replace C := Lib.hid (C.out.trans hc)
  replace EX1 := Lib.hid (EX1.out.chg hc)
  replace EX2 := Lib.hid (EX2.out.chg hc)
  replace Q3 := Lib.hid (Q3.out.chg hc)
  clear hw hc hb
  obtain ⟨g3, hg⟩ : ∃ g, v2.heap.size = g := ⟨_, rfl⟩
  go_wp2_with fail
  rw [← Wv.out]
  try rw [hg]
  rw [hg] at B3
  clear Wv hg
  have PU := l9puts_yes v3 none 0 [] [] X1 oneE _ 1 [X2] [oneE] (RdK.nil _ _) (EvsR.nil _) EX1.out B3.out Q3.out ⟨by simp, by simp⟩ w_sms (w_sm _ (by simp)) w_sms w_j0
  have PU2 := Lib.hid PU
  clear PU
  refine PU2.out.mono ?_
  rintro r v4 ⟨rfl, hc⟩
  clear PU2
  clear B3 Q3
  clear EX1 ZX1
  clear EX2 ZX2
  replace C := Lib.hid (C.out.trans hc)
  clear hc
  go_wp2_with fail
  refine (l9one_any v4).mono ?_
  rintro r v5 ⟨X5, rfl, he, hz, hc⟩
  have EX5 := Lib.hid he
  have ZX5 := Lib.hid hz
  replace C := Lib.hid (C.out.trans hc)
  clear hc he hz
  obtain ⟨v6, hw, hc, hb⟩ := news1 v5 (.cells #[.int .i64 X5.n, .int .i64 X5.s, .string X5.p, .int .i64 X5.k, .int .i64 X5.m, .slice X5.A X5.l X5.c, .slice X5.B X5.bl X5.bc] 30)
  have Wv := Lib.hid hw
  have B6 := Lib.hid (rd_oneEc hb)
  have Q6 : Hid (EvsR v5 [X5] [oneE]) := Lib.hid (by simpa using (EvsR.nil v5).snoc EX5.out)
  replace C := Lib.hid (C.out.trans hc)
  replace EX5 := Lib.hid (EX5.out.chg hc)
  replace Q6 := Lib.hid (Q6.out.chg hc)
  clear hw hc hb
  obtain ⟨g6, hg⟩ : ∃ g, v5.heap.size = g := ⟨_, rfl⟩
  go_wp2_with fail
  rw [← Wv.out]
  try rw [hg]
  rw [hg] at B6
  clear Wv hg
  refine (l9of_any v6 _ 1 1 [X5] B6.out (by omega)).mono ?_
  rintro r v7 ⟨A7, c7, rfl, ho, hc⟩
  have O7 := Lib.hid ho
  clear B6
  replace C := Lib.hid (C.out.trans hc)
  replace EX5 := Lib.hid (EX5.out.chg hc)
  replace Q6 := Lib.hid (Q6.out.chg hc)
  clear hc ho
  go_wp2_with fail
  refine (l9two_any v7).mono ?_
  rintro r v8 ⟨X8, rfl, he, hz, hc⟩
  have EX8 := Lib.hid he
  have ZX8 := Lib.hid hz
  replace C := Lib.hid (C.out.trans hc)
  replace EX5 := Lib.hid (EX5.out.chg hc)
  replace Q6 := Lib.hid (Q6.out.chg hc)
  replace O7 := Lib.hid (O7.out.chg hc (by simp))
  clear hc he hz
  go_wp2_with fail
  refine (l9two_any v8).mono ?_
  rintro r v9 ⟨X9, rfl, he, hz, hc⟩
  have EX9 := Lib.hid he
  have ZX9 := Lib.hid hz
  replace C := Lib.hid (C.out.trans hc)
  replace EX5 := Lib.hid (EX5.out.chg hc)
  replace Q6 := Lib.hid (Q6.out.chg hc)
  replace O7 := Lib.hid (O7.out.chg hc (by simp))
  replace EX8 := Lib.hid (EX8.out.chg hc)
  clear hc he hz
  obtain ⟨v10, hw, hc, hb⟩ := news1 v9 (.cells #[.int .i64 X9.n, .int .i64 X9.s, .string X9.p, .int .i64 X9.k, .int .i64 X9.m, .slice X9.A X9.l X9.c, .slice X9.B X9.bl X9.bc] 30)
  have Wv := Lib.hid hw
  have B10 := Lib.hid (rd_oneEc hb)
  have Q10 : Hid (EvsR v9 [X9] [twoE]) := Lib.hid (by simpa using (EvsR.nil v9).snoc EX9.out)
  replace C := Lib.hid (C.out.trans hc)
  replace EX5 := Lib.hid (EX5.out.chg hc)
  replace Q6 := Lib.hid (Q6.out.chg hc)
  replace O7 := Lib.hid (O7.out.chg hc (by simp))
  replace EX8 := Lib.hid (EX8.out.chg hc)
  replace EX9 := Lib.hid (EX9.out.chg hc)
  replace Q10 := Lib.hid (Q10.out.chg hc)
  clear hw hc hb
  obtain ⟨g10, hg⟩ : ∃ g, v9.heap.size = g := ⟨_, rfl⟩
  go_wp2_with fail
  rw [← Wv.out]
  try rw [hg]
  rw [hg] at B10
  clear Wv hg
  have PU := l9puts_yes v10 A7 c7 [X5] [oneE] X8 twoE _ 1 [X9] [twoE] O7.out.reads Q6.out EX8.out B10.out Q10.out ⟨by simp, by simp⟩ w_sms (w_sm _ (by simp)) w_sms w_j1
  have PU2 := Lib.hid PU
  clear PU
  refine PU2.out.mono ?_
  rintro r v11 ⟨rfl, hc⟩
  clear PU2
  clear O7 Q6
  clear EX5 ZX5
  clear B10 Q10
  clear EX8 ZX8
  clear EX9 ZX9
  replace C := Lib.hid (C.out.trans hc)
  clear hc
  go_wp2_with fail
  refine (l9two_any v11).mono ?_
  rintro r v12 ⟨X12, rfl, he, hz, hc⟩
  have EX12 := Lib.hid he
  have ZX12 := Lib.hid hz
  replace C := Lib.hid (C.out.trans hc)
  clear hc he hz
  obtain ⟨v13, hw, hc, hb⟩ := news1 v12 (.cells #[.int .i64 X12.n, .int .i64 X12.s, .string X12.p, .int .i64 X12.k, .int .i64 X12.m, .slice X12.A X12.l X12.c, .slice X12.B X12.bl X12.bc] 30)
  have Wv := Lib.hid hw
  have B13 := Lib.hid (rd_oneEc hb)
  have Q13 : Hid (EvsR v12 [X12] [twoE]) := Lib.hid (by simpa using (EvsR.nil v12).snoc EX12.out)
  replace C := Lib.hid (C.out.trans hc)
  replace EX12 := Lib.hid (EX12.out.chg hc)
  replace Q13 := Lib.hid (Q13.out.chg hc)
  clear hw hc hb
  obtain ⟨g13, hg⟩ : ∃ g, v12.heap.size = g := ⟨_, rfl⟩
  go_wp2_with fail
  rw [← Wv.out]
  try rw [hg]
  rw [hg] at B13
  clear Wv hg
  refine (l9of_any v13 _ 1 1 [X12] B13.out (by omega)).mono ?_
  rintro r v14 ⟨A14, c14, rfl, ho, hc⟩
  have O14 := Lib.hid ho
  clear B13
  replace C := Lib.hid (C.out.trans hc)
  replace EX12 := Lib.hid (EX12.out.chg hc)
  replace Q13 := Lib.hid (Q13.out.chg hc)
  clear hc ho
  go_wp2_with fail
  refine (l9one_any v14).mono ?_
  rintro r v15 ⟨X15, rfl, he, hz, hc⟩
  have EX15 := Lib.hid he
  have ZX15 := Lib.hid hz
  replace C := Lib.hid (C.out.trans hc)
  replace EX12 := Lib.hid (EX12.out.chg hc)
  replace Q13 := Lib.hid (Q13.out.chg hc)
  replace O14 := Lib.hid (O14.out.chg hc (by simp))
  clear hc he hz
  go_wp2_with fail
  refine (l9two_any v15).mono ?_
  rintro r v16 ⟨X16, rfl, he, hz, hc⟩
  have EX16 := Lib.hid he
  have ZX16 := Lib.hid hz
  replace C := Lib.hid (C.out.trans hc)
  replace EX12 := Lib.hid (EX12.out.chg hc)
  replace Q13 := Lib.hid (Q13.out.chg hc)
  replace O14 := Lib.hid (O14.out.chg hc (by simp))
  replace EX15 := Lib.hid (EX15.out.chg hc)
  clear hc he hz
  obtain ⟨v17, hw, hc, hb⟩ := news1 v16 (.cells #[.int .i64 X16.n, .int .i64 X16.s, .string X16.p, .int .i64 X16.k, .int .i64 X16.m, .slice X16.A X16.l X16.c, .slice X16.B X16.bl X16.bc] 30)
  have Wv := Lib.hid hw
  have B17 := Lib.hid (rd_oneEc hb)
  have Q17 : Hid (EvsR v16 [X16] [twoE]) := Lib.hid (by simpa using (EvsR.nil v16).snoc EX16.out)
  replace C := Lib.hid (C.out.trans hc)
  replace EX12 := Lib.hid (EX12.out.chg hc)
  replace Q13 := Lib.hid (Q13.out.chg hc)
  replace O14 := Lib.hid (O14.out.chg hc (by simp))
  replace EX15 := Lib.hid (EX15.out.chg hc)
  replace EX16 := Lib.hid (EX16.out.chg hc)
  replace Q17 := Lib.hid (Q17.out.chg hc)
  clear hw hc hb
  obtain ⟨g17, hg⟩ : ∃ g, v16.heap.size = g := ⟨_, rfl⟩
  go_wp2_with fail
  rw [← Wv.out]
  try rw [hg]
  rw [hg] at B17
  clear Wv hg
  have PU := l9puts_yes v17 A14 c14 [X12] [twoE] X15 oneE _ 1 [X16] [twoE] O14.out.reads Q13.out EX15.out B17.out Q17.out ⟨by simp, by simp⟩ w_sms (w_sm _ (by simp)) w_sms w_j2
  have PU2 := Lib.hid PU
  clear PU
  refine PU2.out.mono ?_
  rintro r v18 ⟨rfl, hc⟩
  clear PU2
  clear O14 Q13
  clear EX12 ZX12
  clear B17 Q17
  clear EX15 ZX15
  clear EX16 ZX16
  replace C := Lib.hid (C.out.trans hc)
  clear hc
  go_wp2_with fail
  refine (l9one_any v18).mono ?_
  rintro r v19 ⟨X19, rfl, he, hz, hc⟩
  have EX19 := Lib.hid he
  have ZX19 := Lib.hid hz
  replace C := Lib.hid (C.out.trans hc)
  clear hc he hz
  obtain ⟨v20, hw, hc, hb⟩ := news1 v19 (.cells #[.int .i64 X19.n, .int .i64 X19.s, .string X19.p, .int .i64 X19.k, .int .i64 X19.m, .slice X19.A X19.l X19.c, .slice X19.B X19.bl X19.bc] 30)
  have Wv := Lib.hid hw
  have B20 := Lib.hid (rd_oneEc hb)
  have Q20 : Hid (EvsR v19 [X19] [oneE]) := Lib.hid (by simpa using (EvsR.nil v19).snoc EX19.out)
  replace C := Lib.hid (C.out.trans hc)
  replace EX19 := Lib.hid (EX19.out.chg hc)
  replace Q20 := Lib.hid (Q20.out.chg hc)
  clear hw hc hb
  obtain ⟨g20, hg⟩ : ∃ g, v19.heap.size = g := ⟨_, rfl⟩
  go_wp2_with fail
  rw [← Wv.out]
  try rw [hg]
  rw [hg] at B20
  clear Wv hg
  refine (l9of_any v20 _ 1 1 [X19] B20.out (by omega)).mono ?_
  rintro r v21 ⟨A21, c21, rfl, ho, hc⟩
  have O21 := Lib.hid ho
  clear B20
  replace C := Lib.hid (C.out.trans hc)
  replace EX19 := Lib.hid (EX19.out.chg hc)
  replace Q20 := Lib.hid (Q20.out.chg hc)
  clear hc ho
  go_wp2_with fail
  refine (l9three_any v21).mono ?_
  rintro r v22 ⟨X22, rfl, he, hz, hc⟩
  have EX22 := Lib.hid he
  have ZX22 := Lib.hid hz
  replace C := Lib.hid (C.out.trans hc)
  replace EX19 := Lib.hid (EX19.out.chg hc)
  replace Q20 := Lib.hid (Q20.out.chg hc)
  replace O21 := Lib.hid (O21.out.chg hc (by simp))
  clear hc he hz
  go_wp2_with fail
  refine (l9one_any v22).mono ?_
  rintro r v23 ⟨X23, rfl, he, hz, hc⟩
  have EX23 := Lib.hid he
  have ZX23 := Lib.hid hz
  replace C := Lib.hid (C.out.trans hc)
  replace EX19 := Lib.hid (EX19.out.chg hc)
  replace Q20 := Lib.hid (Q20.out.chg hc)
  replace O21 := Lib.hid (O21.out.chg hc (by simp))
  replace EX22 := Lib.hid (EX22.out.chg hc)
  clear hc he hz
  go_wp2_with fail
  refine (l9three_any v23).mono ?_
  rintro r v24 ⟨X24, rfl, he, hz, hc⟩
  have EX24 := Lib.hid he
  have ZX24 := Lib.hid hz
  replace C := Lib.hid (C.out.trans hc)
  replace EX19 := Lib.hid (EX19.out.chg hc)
  replace Q20 := Lib.hid (Q20.out.chg hc)
  replace O21 := Lib.hid (O21.out.chg hc (by simp))
  replace EX22 := Lib.hid (EX22.out.chg hc)
  replace EX23 := Lib.hid (EX23.out.chg hc)
  clear hc he hz
  obtain ⟨v25, hw, hc, hb⟩ := news1 v24 (.cells #[.int .i64 X23.n, .int .i64 X23.s, .string X23.p, .int .i64 X23.k, .int .i64 X23.m, .slice X23.A X23.l X23.c, .slice X23.B X23.bl X23.bc, .int .i64 X24.n, .int .i64 X24.s, .string X24.p, .int .i64 X24.k, .int .i64 X24.m, .slice X24.A X24.l X24.c, .slice X24.B X24.bl X24.bc] 30)
  have Wv := Lib.hid hw
  have B25 := Lib.hid (rd_twoE hb)
  have Q25 : Hid (EvsR v24 [X23, X24] [oneE, threeE]) := Lib.hid (by simpa using ((EvsR.nil v24).snoc EX23.out).snoc EX24.out)
  replace C := Lib.hid (C.out.trans hc)
  replace EX19 := Lib.hid (EX19.out.chg hc)
  replace Q20 := Lib.hid (Q20.out.chg hc)
  replace O21 := Lib.hid (O21.out.chg hc (by simp))
  replace EX22 := Lib.hid (EX22.out.chg hc)
  replace EX23 := Lib.hid (EX23.out.chg hc)
  replace EX24 := Lib.hid (EX24.out.chg hc)
  replace Q25 := Lib.hid (Q25.out.chg hc)
  clear hw hc hb
  obtain ⟨g25, hg⟩ : ∃ g, v24.heap.size = g := ⟨_, rfl⟩
  go_wp2_with fail
  rw [← Wv.out]
  try rw [hg]
  rw [hg] at B25
  clear Wv hg
  have PU := l9puts_yes v25 A21 c21 [X19] [oneE] X22 threeE _ 2 [X23, X24] [oneE, threeE] O21.out.reads Q20.out EX22.out B25.out Q25.out ⟨by simp, by simp⟩ w_sms (w_sm _ (by simp)) w_sms w_j3
  have PU2 := Lib.hid PU
  clear PU
  refine PU2.out.mono ?_
  rintro r v26 ⟨rfl, hc⟩
  clear PU2
  clear O21 Q20
  clear EX19 ZX19
  clear B25 Q25
  clear EX22 ZX22
  clear EX23 ZX23
  clear EX24 ZX24
  replace C := Lib.hid (C.out.trans hc)
  clear hc
  go_wp2_with fail
  refine (l9one_any v26).mono ?_
  rintro r v27 ⟨X27, rfl, he, hz, hc⟩
  have EX27 := Lib.hid he
  have ZX27 := Lib.hid hz
  replace C := Lib.hid (C.out.trans hc)
  clear hc he hz
  obtain ⟨v28, hw, hc, hb⟩ := news1 v27 (.cells #[.int .i64 X27.n, .int .i64 X27.s, .string X27.p, .int .i64 X27.k, .int .i64 X27.m, .slice X27.A X27.l X27.c, .slice X27.B X27.bl X27.bc] 30)
  have Wv := Lib.hid hw
  have B28 := Lib.hid (rd_oneEc hb)
  have Q28 : Hid (EvsR v27 [X27] [oneE]) := Lib.hid (by simpa using (EvsR.nil v27).snoc EX27.out)
  replace C := Lib.hid (C.out.trans hc)
  replace EX27 := Lib.hid (EX27.out.chg hc)
  replace Q28 := Lib.hid (Q28.out.chg hc)
  clear hw hc hb
  obtain ⟨g28, hg⟩ : ∃ g, v27.heap.size = g := ⟨_, rfl⟩
  go_wp2_with fail
  rw [← Wv.out]
  try rw [hg]
  rw [hg] at B28
  clear Wv hg
  refine (l9of_any v28 _ 1 1 [X27] B28.out (by omega)).mono ?_
  rintro r v29 ⟨A29, c29, rfl, ho, hc⟩
  have O29 := Lib.hid ho
  clear B28
  replace C := Lib.hid (C.out.trans hc)
  replace EX27 := Lib.hid (EX27.out.chg hc)
  replace Q28 := Lib.hid (Q28.out.chg hc)
  clear hc ho
  go_wp2_with fail
  refine (shalike_two v29 A29 c29 [X27] [oneE] O29.out.reads Q28.out (fun x hx => by rw [List.mem_singleton.1 hx]; exact ZX27.out) (by simp) (fun e he => (w_sms (by simp) e he).1) (shE_zero.2 w_ok.2.1) (fun a b h => by simp at h)).mono ?_
  rintro r v30 ⟨rfl, hc⟩
  clear O29 Q28
  clear EX27 ZX27
  replace C := Lib.hid (C.out.trans hc)
  clear hc
  go_wp2_with fail
  refine (shalike_two v30 none 0 [] [] (RdK.nil _ _) (EvsR.nil _) (by simp) (by simp) (by simp) (shE_zero.2 w_ok.1) (fun a b h => by simp at h)).mono ?_
  rintro r v31 ⟨rfl, hc⟩
  replace C := Lib.hid (C.out.trans hc)
  clear hc
  go_wp2
  go_ret
  first | exact ⟨rfl, C.out⟩ | exact ⟨by simp, C.out⟩
end
section
open Go.RowKit Go.WideShapes Go.ChangeShapes Go.Deep
set_option linter.unusedSimpArgs false
set_option linter.unusedVariables false

section
variable {H : Type} {enc : TypeId × Value → H} {w : World} {base : Nat} {spare : Nat → Bool} {held : Bool}
set_option maxRecDepth 100000 in
set_option maxHeartbeats 1000000 in
theorem open_events {n : Nat} {cs : List Value} {y : DataW H × List MemPlace} (h : DataW.trod enc Tryz.prog w base spare held n 22 cs = some y) (hz : ∀ k ∈ y.1.weights Tryz.prog 22, k ≤ reachBytes) :
    ∃ A m d zs es, cs = [.slice A m d] ∧ RdK evTy w A m zs ∧ EvsR w zs es ∧ m * 96 ≤ 140737488351232 ∧ m ≤ d ∧ ∀ (i : Nat) (x : EvT) (e : EvP), zs[i]? = some x → es[i]? = some e → EvZ x e := by
  rcases open_slice Tryz.underlying22 h with ⟨rfl, _⟩ | ⟨a, len, cap, m, k, D, Pl, rfl, _, hl, hm, hmm, rfl, hi⟩
  · exact ⟨none, 0, 0, [], [], rfl, RdK.nil _ _, EvsR.nil _, by decide, by decide, by simp⟩
  · have hlm : len ≤ m := by rw [hmm]; split <;> omega
    obtain ⟨hw, hwd⟩ := weights_slice Tryz.underlying22 hz
    rw [show Tryz.prog.bytesOf 30 = 96 by kernel_rfl] at hw
    simp [reachBytes] at hw
    have hC : Tryz.prog.cellsOf 30 = 7 := by kernel_rfl
    obtain ⟨l, hll, hat⟩ := list_of (Q := fun i (x : EvT × EvP) => (w.cell? (a.add (i * 7)) = some (.int .i64 x.1.n) ∧ w.cell? (a.add (i * 7 + 1)) = some (.int .i64 x.1.s) ∧ w.cell? (a.add (i * 7 + 2)) = some (.string x.1.p) ∧ w.cell? (a.add (i * 7 + 3)) = some (.int .i64 x.1.k) ∧ w.cell? (a.add (i * 7 + 4)) = some (.int .i64 x.1.m) ∧ w.cell? (a.add (i * 7 + 5)) = some (.slice x.1.A x.1.l x.1.c) ∧ w.cell? (a.add (i * 7 + 6)) = some (.slice x.1.B x.1.bl x.1.bc)) ∧ EvR w x.1 x.2 ∧ EvZ x.1 x.2) len (fun i hilt => by
      obtain ⟨cs', hc, ht⟩ := hi i (by omega)
      rw [hC] at hc
      obtain ⟨_, hcl, hat⟩ := World.cells?_some hc
      obtain ⟨x, e, rfl, hr, hz2⟩ := open_event ht (fun k hk => hwd (D i) (List.mem_map.2 ⟨i, List.mem_range.2 hilt, rfl⟩) k hk)
      have g0 := hat 0 (by simp)
      have g1 := hat 1 (by simp)
      have g2 := hat 2 (by simp)
      have g3 := hat 3 (by simp)
      have g4 := hat 4 (by simp)
      have g5 := hat 5 (by simp)
      have g6 := hat 6 (by simp)
      rw [add_add] at g0 g1 g2 g3 g4 g5 g6
      exact ⟨(x, e), ⟨g0, g1, g2, g3, g4, g5, g6⟩, hr, hz2⟩)
    refine ⟨some a, len, cap, l.map (·.1), l.map (·.2), rfl, ⟨by rw [List.length_map]; exact hll, fun j v hj => ⟨a, rfl, ?_⟩⟩, ⟨by simp, fun i x e hx he => ?_⟩, by omega, hl, fun i x e hx he => ?_⟩
    rotate_left
    · rw [List.getElem?_map, Option.map_eq_some_iff] at hx he
      obtain ⟨p, hp, rfl⟩ := hx
      obtain ⟨q, hq, rfl⟩ := he
      rw [hp] at hq
      cases hq
      exact (hat i _ hp).2.1
    · rw [List.getElem?_map, Option.map_eq_some_iff] at hx he
      obtain ⟨p, hp, rfl⟩ := hx
      obtain ⟨q, hq, rfl⟩ := he
      rw [hp] at hq
      cases hq
      exact (hat i _ hp).2.2
    have hj2 := (List.getElem?_eq_some_iff.1 hj).1
    rw [evTy.flat_len, List.length_map] at hj2
    have hk : evTy.k = 7 := rfl
    rw [hk] at hj2
    have hq : j / 7 < l.length := by omega
    have e := evTy.flat_at (l.map (·.1)) (j / 7) (j % 7) _ (by rw [List.getElem?_map, List.getElem?_eq_getElem hq]; rfl) (Nat.mod_lt _ (by decide))
    rw [hk, Nat.div_add_mod', hj] at e
    obtain ⟨g0, g1, g2, g3, g4, g5, g6⟩ := (hat (j / 7) _ (List.getElem?_eq_getElem hq)).1
    rcases (show j % 7 = 0 ∨ j % 7 = 1 ∨ j % 7 = 2 ∨ j % 7 = 3 ∨ j % 7 = 4 ∨ j % 7 = 5 ∨ j % 7 = 6 by omega) with h0 | h0 | h0 | h0 | h0 | h0 | h0
    · rw [h0] at e
      rw [show j / 7 * 7 = j by omega] at g0
      rw [g0]
      exact e.symm
    · rw [h0] at e
      rw [show j / 7 * 7 + 1 = j by omega] at g1
      rw [g1]
      exact e.symm
    · rw [h0] at e
      rw [show j / 7 * 7 + 2 = j by omega] at g2
      rw [g2]
      exact e.symm
    · rw [h0] at e
      rw [show j / 7 * 7 + 3 = j by omega] at g3
      rw [g3]
      exact e.symm
    · rw [h0] at e
      rw [show j / 7 * 7 + 4 = j by omega] at g4
      rw [g4]
      exact e.symm
    · rw [h0] at e
      rw [show j / 7 * 7 + 5 = j by omega] at g5
      rw [g5]
      exact e.symm
    · rw [h0] at e
      rw [show j / 7 * 7 + 6 = j by omega] at g6
      rw [g6]
      exact e.symm
end
end
section
def TabN (_ : World) : Prop := True
theorem TabN.laid {W : World} (_h : laidMetH Tryz.prog tables W) : TabN W := trivial
end
end Go.Proofs.YtdfapiffalmjcaaGreatDoor
