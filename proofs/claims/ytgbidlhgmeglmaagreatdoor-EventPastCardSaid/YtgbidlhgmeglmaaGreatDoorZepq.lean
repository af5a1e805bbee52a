/- spans.Join. The program's Past. The document's parts. The document's cut. The document's Check. The document's writer (tributaryref01): form, put, Num, Raw, Text, Out. The document's writer, call by call. The document's writer: Raw, Text, Out. The document's reader: Open, fail, Left, End, and Num. The document's number, read. The document's number, read: where digits follow, or none. The document's reader: Raw and Text. -/
import Derived.Test.YtgbidlhgmeglmaaGreatDoorZepe
import Derived.Test.YtgbidlhgmeglmaaGreatDoorZepl
import Derived.Test.YtgbidlhgmeglmaaGreatDoorZepb
import Derived.Test.YtgbidlhgmeglmaaGreatDoorShelf3
import Derived.Test.YtgbidlhgmeglmaaGreatDoorZepc
import Derived.Test.YtgbidlhgmeglmaaGreatDoorZepd
import Derived.Deep.Cut
import Derived.Deep.RegionHeld3
import Derived.BigQuiet
import Derived.RegionTactic
import Derived.Test.YtgbidlhgmeglmaaGreatDoorZepf
import Derived.Test.YtgbidlhgmeglmaaGreatDoorZepg
import Derived.Deep.QuietTactic
import Derived.Deep.AppendLies
namespace Go.Proofs.YtgbidlhgmeglmaaGreatDoor
section
open Go.RowKit Go.Lib
set_option linter.unusedSimpArgs false
set_option linter.unusedVariables false


def cmpSS (x y : Sp) : Int := cmpD x.1 x.2.1 y.1 y.2.1
theorem ltSS (x y : Sp) : ltOf cmpSS x y = decide (LtD x.1 x.2.1 y.1 y.2.1) := by
 unfold ltOf cmpSS
 exact decide_eq_decide.2 cmpD_lt
theorem swoSS : Go.Sort.SWO (ltOf cmpSS) where
 irrefl x := by rw [ltSS]; simp [LtD]
 trans x y z h1 h2 := by
  rw [ltSS, decide_eq_true_eq] at *
  unfold LtD at *
  omega
 ntrans x y z h1 h2 := by
  rw [ltSS, decide_eq_false_iff_not] at *
  unfold LtD at *
  omega
set_option maxHeartbeats 1000000 in
theorem spcmp_says : CmpSays spanTy 130 cmpSS := fun w x y => by
  obtain ⟨n, f, t⟩ := x
  obtain ⟨m, g, u⟩ := y
  show Calls Tryz.prog 130 #[.agg #[.int .i64 n, .int .i64 f, .int .i64 t], .agg #[.int .i64 m, .int .i64 g, .int .i64 u]] w fun e w' => e = .returned (.int .i64 (cmpSS (n, f, t) (m, g, u))) ∧ Chg [] w w' ∧ w.drawn ≤ w'.drawn
  obtain ⟨w0, hw0, c0, b0, b1⟩ := news2 w (.cells #[.int .i64 n, .int .i64 f, .int .i64 t] 62) (.cells #[.int .i64 m, .int .i64 g, .int .i64 u] 62)
  have k0 := cell_of b0 0
  have k1 := cell_of b0 1
  have k3 := cell_of b1 0
  have k4 := cell_of b1 1
  simp only [List.getElem?_toArray, List.getElem?_cons_succ, List.getElem?_cons_zero] at k0 k1 k3 k4
  have g0 := lt_of_heap b0
  have g1 := lt_of_heap b1
  have W0 := Lib.hid hw0
  have GR : Hid (∀ o, Chg [] w (w0.alloc o).drew ∧ w.drawn ≤ (w0.alloc o).drew.drawn) := Lib.hid (fun o => ⟨(c0.alloc o).drew, by rw [hw0]; exact Nat.le_succ _⟩)
  clear hw0 c0 b0 b1
  unfold cmpSS cmpD
  generalize hr : or2 (cmpI n m) (cmpI f g) = R
  have HR := Lib.hid hr
  clear hr
  go_enter Tryz.func130, Tryz.ntmps130
  go_wp2
  rw [← W0.out]
  have n1 := World.new_ne w0 ⟨w.heap.size, 0, none⟩ k0
  have n2 := World.new_ne w0 ⟨w.heap.size + 1, 0, none⟩ k3
  generalize w.heap.size + 1 = s1 at *
  generalize w.heap.size = s0 at *
  go_region_held3 (fun w' => w'.cell? ⟨s0, 0, none⟩ = some (.int .i64 n) ∧ w'.cell? ⟨s0, 1, none⟩ = some (.int .i64 f) ∧ w'.cell? ⟨s1, 0, none⟩ = some (.int .i64 m) ∧ w'.cell? ⟨s1, 1, none⟩ = some (.int .i64 g)) (first | exact ⟨k0, k1, k3, k4⟩ | go_keep)
    ((first
      | (go_at_call 132; (with_reducible refine (cmpint_any _ _ _).mono ?_); rintro e w1 ⟨rfl, rfl⟩)
      | (go_at_call 131; refine (or2_any _ w0.heap.size (cmpI n m) (cmpI f g) (show (w0.alloc _).drew.heap[_]? = _ from heap_alloc_new w0 _)).mono ?_; rintro e w1 ⟨rfl, rfl⟩)))
  all_goals
    go_wp2
    go_ret
    exact ⟨by first | rfl | (rw [← HR.out]; rfl), GR.out _⟩
set_option maxRecDepth 100000 in
set_option maxHeartbeats 1000000 in
theorem cloneSpan_any (w : World) (A : Option Addr) (n c : Nat) (xs : List Sp) (h : RdK spanTy w A n xs) (hn : n * 400 ≤ 140737488355327) :
  Calls Tryz.prog 128 #[.slice A n c] w fun e w' => ∃ A' c', e = .returned (.slice A' n c') ∧ OwnK spanTy w' A' c' xs ∧ (∀ a, A' = some a → w.heap.size ≤ a.block) ∧ Chg [] w w' := by
 have heq := fun W => Lib.run_eql_slice_nil (P := Tryz.prog) W 27 62 A n c 0 0 Tryz.underlying27
 cases A with
 | none =>
  have hx := rdk_nil h
  subst hx
  have hl : n = 0 := h.len.symm
  subst hl
  clear h
  go_enter Tryz.func128, Tryz.ntmps128
  go_wp2
  go_ret
  exact ⟨none, 0, rfl, OwnK.none_ _, by simp, Chg.refl _ _⟩
 | some ad =>
  obtain ⟨w1, hw1, c1, b1⟩ := news1 w (.cells #[] 62)
  have W1 := Lib.hid hw1
  have HA := Lib.hid (h.chg c1 (by simp))
  have HO : Hid (OwnK spanTy w1 (some ⟨w.heap.size, 0, none⟩) 0 []) := Lib.hid (.of (full := []) b1 (Nat.le_refl _) (Nat.zero_le _) rfl rfl)
  have C1 := Lib.hid c1
  have HN : Hid ((0 + n) * 400 ≤ 140737488355327) := Lib.hid (by rw [Nat.zero_add]; exact hn)
  clear hw1 c1 b1 h hn
  go_enter Tryz.func128, Tryz.ntmps128
  go_wp2_with (at_builtin; rw [← W1.out]; refine wpList_appK rfl _ _ rfl rfl HO.out rfl rfl HA.out HN.out ?_; intro A2 c2 w2 u2 d2 e2)
  go_ret
  rw [Nat.zero_add] at *
  have hA2 : ∀ a, A2 = some a → w.heap.size ≤ a.block := by
   rintro a rfl
   rcases e2 with h | h
   ·
    cases h; exact Nat.le_refl _
   ·
    cases h; exact C1.out.size
  exact ⟨A2, c2, rfl, by simpa using u2, hA2, C1.out.grown d2 (fun k hk => by simp at hk; subst hk; exact .inr (Nat.le_refl _))⟩
set_option maxRecDepth 100000 in
set_option maxHeartbeats 16000000 in
theorem spjoin_any (w : World) (A : Option Addr) (c : Nat) (xs : List Sp) (h : RdK spanTy w A xs.length xs) (hn : xs.length ≤ 1000000000) (hb : ∀ x ∈ xs, B3 x) :
  Calls Tryz.prog 89 #[.slice A xs.length c] w fun e w' => ∃ A' c', e = .returned (.slice A' (tidyS xs).length c') ∧ OwnK spanTy w' A' c' (tidyS xs) ∧ (∀ a, A' = some a → w.heap.size ≤ a.block) ∧ Chg [] w w' := by

 have HX := Lib.hid h
 have HN := Lib.hid hn
 have HB := Lib.hid hb
 clear h hn hb
 go_enter Tryz.func89, Tryz.ntmps89
 go_wp2_with fail
 refine (cloneSpan_any w A xs.length c xs HX.out (by have := HN.out; omega)).mono ?_
 rintro e w1 ⟨A1, c1, rfl, o1, n1, h1⟩
 have O1 := Lib.hid o1
 have N1 := Lib.hid n1
 have C1 := Lib.hid h1
 clear o1 n1 h1
 go_wp2_with fail
 refine (sortp_any (R := spanTy) Tryz.llLaysF06 Tryz.isAgg62 Tryz.sizeOf62 cmpSS swoSS 130 (enters_of Tryz.func130 (by kernel_rfl) rfl) spcmp_says w1 A1 c1 xs O1.out (by have := HN.out; omega)).mono ?_
 rintro e w2 ⟨rfl, ms, hp, hs, o2, h2⟩
 have RO := Lib.hid o2
 replace C1 := Lib.hid (C1.out.trans' h2 fun i hi => .inr (blkOf_new N1.out i hi))
 have ML : ms.length = xs.length := hp.length_eq
 have MS : Hid (ms.Pairwise Le) := Lib.hid (hs.imp (fun {x y} q => by
  rw [ltSS, decide_eq_false_iff_not] at q
  unfold LtD at q
  unfold Le
  omega))
 have MB : Hid (∀ x ∈ ms, B3 x) := Lib.hid (fun x hx => HB.out x (hp.mem_iff.1 hx))
 have TS : Hid (ms.foldl pushP [] = tidyS xs) := Lib.hid (join_sorted hp MS.out (fun x hx => (HB.out x hx).ok))
 have LF : Hid (∀ (k : Nat) (x : Sp), ms[k]? = some x → ∀ y, ((ms.take k).foldl pushP []).getLast? = some y → Le y x) := Lib.hid (fun k x hx => sorted_last MS.out (fun z hz => (MB.out z hz).ok) hx)
 have MLN : Hid (ms.length ≤ 1000000000) := Lib.hid (by rw [ML]; exact HN.out)
 rw [← ML]
 clear hp hs o2 h2 O1 MS HX HB HN ML
 go_wp2
 go_loopw [4, 14] (fun v4 v14 wr => ∃ (k : Nat) (A2 : Option Addr) (c2 : Nat), k ≤ ms.length ∧ v14 = .int .i64 k ∧ v4 = .slice A2 ((ms.take k).foldl pushP []).length c2 ∧ Hid (OwnK spanTy wr A2 c2 ((ms.take k).foldl pushP [])) ∧ Hid (∀ a, A2 = some a → w2.heap.size ≤ a.block) ∧ Hid (Chg [] w2 wr)) (fun _ v14 _ => ms.length - (RowKit.intOf v14).toNat)
 case atStart => exact ⟨0, none, 0, Nat.zero_le _, rfl, rfl, OwnK.none_ _, Lib.hid (by simp), Chg.refl _ _⟩
 case round =>
  obtain ⟨k, A2, c2, hk, rfl, rfl, PO, PN, PC⟩ := hrel
  have j0 : (0 : Int) ≤ (k : Int) := by omega
  by_cases hlt : k < ms.length
  ·
   have j1 : (k : Int) < (ms.length : Int) := by omega
   have j3 : IntKind.i64.wrap ((k : Int) + 1) = (k : Int) + 1 := IntWalk.i64_in _ (by have := MLN.out; omega)
   obtain ⟨x, hx⟩ : ∃ x, ms[k]? = some x := ⟨_, List.getElem?_eq_getElem hlt⟩
   obtain ⟨g3, o3, eA, _⟩ := RO.out.reads.line (by omega)
   have eo : o3 = 0 := by
    rcases RO.out.shape with ⟨h, _⟩ | ⟨g', h, _⟩
    ·
     rw [h] at eA; cases eA
    ·
     rw [h] at eA; cases eA; rfl
   subst eo
   subst eA
   have XB := MB.out x (List.mem_of_getElem? hx)
   unfold B3 at XB
   have LX := Lib.hid (LF.out k x hx)
   have FS : Hid ((ms.take (k + 1)).foldl pushP [] = pushP ((ms.take k).foldl pushP []) x) := Lib.hid (by rw [List.take_add_one, hx]; simp)
   have OB : Hid (∀ y ∈ (ms.take k).foldl pushP [], B3 y) := Lib.hid ((fold_props (ms.take k) [] (by simp) (fun y hy => MB.out y (List.mem_of_mem_take hy))).1)
   have OL : ((ms.take k).foldl pushP []).length ≤ k := by have := (fold_props (ms.take k) [] (by simp) (fun y hy => MB.out y (List.mem_of_mem_take hy))).2; rw [List.length_take] at this; simp at this; omega
   obtain ⟨q0, q1, q2⟩ := spanCells (RO.out.reads.chg PC.out (by simp)) hx
   simp only [Nat.zero_add] at q0 q1 q2
   generalize (ms.take k).foldl pushP [] = out at *
   have POL : Hid (out.length ≤ 1000000000) := Lib.hid (by have := MLN.out; omega)
   have LO0 := Lib.hid (PO.out.lt_)
   obtain ⟨w5, hw5, c5, b5⟩ := news1 wr (.cells #[.int .i64 x.1, .int .i64 x.2.1, .int .i64 x.2.2] 62)
   have W5 := Lib.hid hw5
   have B5 := Lib.hid b5
   replace PO := Lib.hid (PO.out.chg c5 (by simp))
   have LO5 : Hid (∀ a, A2 = some a → a.block ≠ wr.heap.size) := Lib.hid (fun a ha q => by
    rcases PO.out.shape with ⟨h, _⟩ | ⟨g', h, _⟩
    ·
     rw [h] at ha; cases ha
    ·
     have := LO0.out a ha; omega)
   replace PC := Lib.hid (PC.out.trans c5)
   clear hw5 c5 b5 hx
   go_upto_region 8 with fail
   rw [← W5.out]
   generalize wr.heap.size = g6 at *
   clear W5 q0 q1 q2
   have y0 := cell_of B5.out 0
   have y1 := cell_of B5.out 1
   have y2 := cell_of B5.out 2
   simp only [List.getElem?_toArray, List.getElem?_cons_succ, List.getElem?_cons_zero] at y0 y1 y2
   by_cases h0 : out = []
   ·
    have e2 : Hid (out = []) := Lib.hid h0
    have e0 : decide (0 < out.length) = false := by rw [h0]; rfl
    have e1 : decide ((0 : Int) < (out.length : Int)) = false := by rw [h0]; rfl
    clear h0
    go_quiet (fail)
    have hq := (Chg.refl [] w5).drewN nq
    generalize w5.drewN nq = w6 at *
    replace PC := Lib.hid (PC.out.trans hq)
    replace PO := Lib.hid (PO.out.chg hq (by simp))
    replace B5 := Lib.hid (hq.at_ B5.out (by simp))
    clear hq y0 y1 y2
    have HP : Hid ((ms.take (k + 1)).foldl pushP [] = out ++ [x]) := Lib.hid (by rw [FS.out, e2.out, push_none]; rfl)
    have y0 := cell_of B5.out 0
    have y1 := cell_of B5.out 1
    have y2 := cell_of B5.out 2
    simp only [List.getElem?_toArray, List.getElem?_cons_succ, List.getElem?_cons_zero] at y0 y1 y2
    obtain ⟨w7, hw, cn, bn⟩ := news1 w6 (.cells #[.int .i64 x.1, .int .i64 x.2.1, .int .i64 x.2.2] 62)
    have W7 := Lib.hid hw
    have XR := Lib.hid (rd_oneS (x := x) bn)
    replace PC := Lib.hid (PC.out.trans cn)
    replace PO := Lib.hid (PO.out.chg cn (by simp))
    have N4 : Hid ((out.length + 1) * 400 ≤ 140737488355327) := Lib.hid (by have := POL.out; omega)
    clear hw cn bn
    go_wp2_with (at_builtin; rw [← W7.out]; refine wpList_appK rfl _ _ rfl rfl PO.out rfl rfl XR.out N4.out ?_; intro A7 c7 wc o7 g7 e7)
    have O7 := Lib.hid o7
    have F7 := Lib.hid (fresh_appS PN.out PC.out g7 e7)
    replace PC := Lib.hid F7.out.2
    clear o7 g7 e7 y0 y1 y2
    go_wp2
    go_round
    case rel => exact ⟨k + 1, A7, c7, by omega, by go_num, by rw [HP.out, List.length_append]; rfl, by rw [HP.out]; exact O7, Lib.hid F7.out.1, PC⟩
    case measure => simp [RowKit.intOf]; omega
   ·
    have hp : 0 < out.length := List.length_pos_iff.2 h0
    obtain ⟨y, hy⟩ : ∃ y, out[out.length - 1]? = some y := ⟨_, List.getElem?_eq_getElem (by omega)⟩
    have YB := OB.out y (List.mem_of_getElem? hy)
    unfold B3 at YB
    have LE := LX.out y (last_at hy)
    unfold Le at LE
    obtain ⟨g2, o2, eB, _⟩ := PO.out.reads.line hp
    have eo : o2 = 0 := by
     rcases PO.out.shape with ⟨h, _⟩ | ⟨g', h, _⟩
     ·
      rw [h] at eB; cases eB
     ·
      rw [h] at eB; cases eB; rfl
    subst eo
    subst eB
    have EY := Lib.hid hy
    obtain ⟨p0, p1, p2⟩ := spanCells PO.out.reads hy
    simp only [Nat.zero_add] at p0 p1 p2
    have e0 : decide (0 < out.length) = true := by simpa using hp
    have e9 : decide ((0 : Int) < (out.length : Int)) = true := by simp; omega
    have e1 : IntKind.i64.wrap ((out.length : Int) - 1) = ((out.length - 1 : Nat) : Int) := by rw [IntWalk.i64_in _ (by have := POL.out; omega)]; omega
    have e2 : (0 : Int) ≤ ((out.length - 1 : Nat) : Int) := by omega
    have e3 : ((out.length - 1 : Nat) : Int) < (out.length : Int) := by omega
    have e4 : IntKind.i64.wrap (x.2.1 - 1) = x.2.1 - 1 := IntWalk.i64_in _ (by omega)
    have e5 : out.length - 1 < out.length := by omega
    clear h0 hy
    by_cases f1 : y.1 = x.1
    rotate_left
    ·
     have AP := Lib.hid (push_apart' EY.out (show Ap y x by unfold Ap; omega))
     have f2 : ((y.1 == x.1) : Bool) = false := by simpa using f1
     clear f1 LE XB YB
     go_quiet (fail)
     have hq := (Chg.refl [] w5).drewN nq
     generalize w5.drewN nq = w6 at *
     replace PC := Lib.hid (PC.out.trans hq)
     replace PO := Lib.hid (PO.out.chg hq (by simp))
     replace B5 := Lib.hid (hq.at_ B5.out (by simp))
     clear hq y0 y1 y2
     clear p0 p1 p2
     have HP : Hid ((ms.take (k + 1)).foldl pushP [] = out ++ [x]) := Lib.hid (by rw [FS.out, AP.out])
     have y0 := cell_of B5.out 0
     have y1 := cell_of B5.out 1
     have y2 := cell_of B5.out 2
     simp only [List.getElem?_toArray, List.getElem?_cons_succ, List.getElem?_cons_zero] at y0 y1 y2
     obtain ⟨w7, hw, cn, bn⟩ := news1 w6 (.cells #[.int .i64 x.1, .int .i64 x.2.1, .int .i64 x.2.2] 62)
     have W7 := Lib.hid hw
     have XR := Lib.hid (rd_oneS (x := x) bn)
     replace PC := Lib.hid (PC.out.trans cn)
     replace PO := Lib.hid (PO.out.chg cn (by simp))
     have N4 : Hid ((out.length + 1) * 400 ≤ 140737488355327) := Lib.hid (by have := POL.out; omega)
     clear hw cn bn
     go_wp2_with (at_builtin; rw [← W7.out]; refine wpList_appK rfl _ _ rfl rfl PO.out rfl rfl XR.out N4.out ?_; intro A7 c7 wc o7 g7 e7)
     have O7 := Lib.hid o7
     have F7 := Lib.hid (fresh_appS PN.out PC.out g7 e7)
     replace PC := Lib.hid F7.out.2
     clear o7 g7 e7 y0 y1 y2
     go_wp2
     go_round
     case rel => exact ⟨k + 1, A7, c7, by omega, by go_num, by rw [HP.out, List.length_append]; rfl, by rw [HP.out]; exact O7, Lib.hid F7.out.1, PC⟩
     case measure => simp [RowKit.intOf]; omega
    have f2 : ((y.1 == x.1) : Bool) = true := by simpa using f1
    by_cases f3 : x.2.1 - 1 ≤ y.2.2
    rotate_left
    ·
     have AP := Lib.hid (push_apart' EY.out (show Ap y x by unfold Ap; omega))
     clear f1 LE XB YB
     go_quiet (fail)
     have hq := (Chg.refl [] w5).drewN nq
     generalize w5.drewN nq = w6 at *
     replace PC := Lib.hid (PC.out.trans hq)
     replace PO := Lib.hid (PO.out.chg hq (by simp))
     replace B5 := Lib.hid (hq.at_ B5.out (by simp))
     clear hq y0 y1 y2
     clear p0 p1 p2
     have HP : Hid ((ms.take (k + 1)).foldl pushP [] = out ++ [x]) := Lib.hid (by rw [FS.out, AP.out])
     have y0 := cell_of B5.out 0
     have y1 := cell_of B5.out 1
     have y2 := cell_of B5.out 2
     simp only [List.getElem?_toArray, List.getElem?_cons_succ, List.getElem?_cons_zero] at y0 y1 y2
     obtain ⟨w7, hw, cn, bn⟩ := news1 w6 (.cells #[.int .i64 x.1, .int .i64 x.2.1, .int .i64 x.2.2] 62)
     have W7 := Lib.hid hw
     have XR := Lib.hid (rd_oneS (x := x) bn)
     replace PC := Lib.hid (PC.out.trans cn)
     replace PO := Lib.hid (PO.out.chg cn (by simp))
     have N4 : Hid ((out.length + 1) * 400 ≤ 140737488355327) := Lib.hid (by have := POL.out; omega)
     clear hw cn bn
     go_wp2_with (at_builtin; rw [← W7.out]; refine wpList_appK rfl _ _ rfl rfl PO.out rfl rfl XR.out N4.out ?_; intro A7 c7 wc o7 g7 e7)
     have O7 := Lib.hid o7
     have F7 := Lib.hid (fresh_appS PN.out PC.out g7 e7)
     replace PC := Lib.hid F7.out.2
     clear o7 g7 e7 y0 y1 y2
     go_wp2
     go_round
     case rel => exact ⟨k + 1, A7, c7, by omega, by go_num, by rw [HP.out, List.length_append]; rfl, by rw [HP.out]; exact O7, Lib.hid F7.out.1, PC⟩
     case measure => simp [RowKit.intOf]; omega
    have AP := Lib.hid (push_touch EY.out (show ¬ Ap y x by unfold Ap; omega))
    have HP : Hid ((ms.take (k + 1)).foldl pushP [] = out.set (out.length - 1) (y.1, y.2.1, max y.2.2 x.2.2)) := Lib.hid (by rw [FS.out, AP.out])
    clear f1 LE XB YB
    go_quiet (fail)
    have hq := (Chg.refl [] w5).drewN nq
    generalize w5.drewN nq = w6 at *
    replace PC := Lib.hid (PC.out.trans hq)
    replace PO := Lib.hid (PO.out.chg hq (by simp))
    replace B5 := Lib.hid (hq.at_ B5.out (by simp))
    clear hq y0 y1 y2
    clear p0 p1 p2
    go_upto_region 9 with fail
    have zt := cell_of B5.out 2
    simp only [List.getElem?_toArray, List.getElem?_cons_succ, List.getElem?_cons_zero] at zt
    refine wp_region_held_drew (S := fun w' => w'.cell? ⟨g6, 2, none⟩ = some (.int .i64 x.2.2)) (by kernel_rfl) zt (fun hHeld => ?_)
    have CD := Lib.hid (Chg.refl [] w6).drew
    replace PC := Lib.hid (PC.out.trans CD.out)
    replace PO := Lib.hid (PO.out.chg CD.out (by simp))
    have ZT : w6.drew.cell? ⟨g6, 2, none⟩ = some (.int .i64 x.2.2) := CD.out.cell zt (by simp)
    have BG : Hid (g6 ≠ g2) := Lib.hid (fun q => LO5.out ⟨g2, 0, none⟩ rfl q.symm)
    have NB : Hid (w2.heap.size ≤ g2) := Lib.hid (PN.out _ rfl)
    have SPC := Lib.hid (spanCells PO.out.reads EY.out)
    have FR := Lib.hid (own_free PO.out ((out.length - 1) * 3 + 2))
    clear CD zt
    generalize w6.drew = wd at *
    refine sy 0 45 rfl rfl ?_
    try simp only [Act.put, sA, s0, s1]
    refine sy 1 46 rfl rfl ?_
    try simp only [Act.put, sA, s0, s1]
    refine sy 2 47 rfl rfl ?_
    try simp only [Act.put, sA, s0, s1]
    refine sy 3 48 rfl rfl ?_
    try simp only [Act.put, sA, s0, s1]
    refine sy 4 49 rfl rfl ?_
    try simp only [Act.put, sA, s0, s1]
    refine sy 5 50 rfl rfl ?_
    try simp only [Act.put, sA, s0, s1]
    refine sy 6 51 rfl rfl ?_
    try simp only [Act.put, sA, s0, s1]
    refine sy 7 52 rfl rfl ?_
    try simp only [Act.put, sA, s0, s1]
    refine sy 9 54 rfl rfl ?_
    try simp only [Act.put, sA, s0, s1]
    refine sy 10 55 rfl rfl ?_ (hy := by (intro w hSw; (try dsimp only at hSw); have q := hSw; go_simp; try with_reducible rfl))
    try simp only [Act.put, sA, s0, s1]
    refine wpAnyH_ready (rs := [8]) (by kernel_rfl) (by simp) ?_
    refine AllReadyH.cons rfl (fun K hK => ?_) AllReadyH.nil
    replace hK := Lib.hid hK
    have z := SPC.out.2.2
    rw [Nat.zero_add] at z
    go_simp
    clear z hHeld
    refine hK.out _ _ ZT (fun hHeld => ?_)
    clear hK K
    try simp only [Act.put, sA, s0, s1]
    refine sy 11 56 rfl rfl ?_
    try simp only [Act.put, sA, s0, s1]
    refine sy 12 57 rfl rfl ?_
    try simp only [Act.put, sA, s0, s1]
    refine sy 13 58 rfl rfl ?_
    try simp only [Act.put, sA, s0, s1]
    refine wpAnyH_ready (rs := [14]) (by kernel_rfl) (by simp) ?_
    refine AllReadyH.cons rfl (fun K hK => ?_) AllReadyH.nil
    replace hK := Lib.hid hK
    have z := SPC.out.2.2
    rw [Nat.zero_add] at z
    have fz := FR.out
    go_simp
    clear z fz hHeld
    refine hK.out _ _ (((Chg.refl [g2] wd).setCell (p := ⟨g2, (out.length - 1) * 3 + 2, none⟩) (.inl (by simp)) _).cell ZT (by simp; exact BG.out)) (fun hHeld => ?_)
    clear hK K
    try simp only [Act.put, sA, s0, s1]
    refine wpAnyH_done (by kernel_rfl) ?_ _
    have HX2 : Hid (∀ v : Int, v = max y.2.2 x.2.2 → OwnK spanTy (wd.setCell ⟨g2, (out.length - 1) * 3 + 2, none⟩ (.int .i64 v)) (some ⟨g2, 0, none⟩) c2 (out.set (out.length - 1) (y.1, y.2.1, max y.2.2 x.2.2)) ∧ Chg [] w2 (wd.setCell ⟨g2, (out.length - 1) * 3 + 2, none⟩ (.int .i64 v))) := Lib.hid (fun v hv => by
     subst hv
     exact ⟨PO.out.setc (out.length - 1) 2 y (y.1, y.2.1, max y.2.2 x.2.2) (.int .i64 (max y.2.2 x.2.2)) EY.out (by decide) (spanSetTo y _), PC.out.setCell (p := ⟨g2, (out.length - 1) * 3 + 2, none⟩) (.inr NB.out) _⟩)
    clear hHeld
    go_wp2
    all_goals
     go_round
     case rel => exact ⟨k + 1, some ⟨g2, 0, none⟩, c2, by omega, by go_num, by rw [HP.out, List.length_set], by rw [HP.out]; exact Lib.hid (HX2.out _ (by omega)).1, PN, Lib.hid (HX2.out _ (by omega)).2⟩
     case measure => simp [RowKit.intOf]; omega
  ·
   obtain rfl : k = ms.length := by omega
   have j1 : ¬ (ms.length : Int) < (ms.length : Int) := by omega
   rw [List.take_length] at PO ⊢
   go_wp2
   go_ret
   rw [← TS.out]
   exact ⟨A2, c2, rfl, PO.out, fun a ha => Nat.le_trans C1.out.size (PN.out a ha), C1.out.trans PC.out⟩
end
section
open Go.RowKit Go.Lib
set_option linter.unusedSimpArgs false
set_option linter.unusedVariables false


set_option maxRecDepth 100000 in
set_option maxHeartbeats 16000000 in
theorem evpast_any (w : World) (A : Option Addr) (c : Nat) (xs : List EvT) (es : List EvP) (h : RdK evTy w A xs.length xs) (hx : EvsR w xs es) (hn : xs.length ≤ 100000) (hs : ∀ e ∈ es, EvSm e) :
  Calls Tryz.prog 30 #[.slice A xs.length c] w fun r w' => ∃ A' c', r = .returned (.tuple #[.slice A' (pastE es).2.length c', .int .i64 (pastE es).1]) ∧ OwnK spanTy w' A' c' (pastE es).2 ∧ (∀ a, A' = some a → w.heap.size ≤ a.block) ∧ Chg [] w w' := by

 have HA := Lib.hid h
 have HX := Lib.hid hx
 have HN := Lib.hid hn
 have HS := Lib.hid hs
 clear h hx hn hs
 go_enter Tryz.func30, Tryz.ntmps30
 go_wp2
 go_loopw [4, 10] (fun v4 v10 wr => ∃ (k : Nat) (A2 : Option Addr) (c2 : Nat), k ≤ xs.length ∧ v10 = .int .i64 k ∧ v4 = .slice A2 (allsE (es.take k)).length c2 ∧ Hid (OwnK spanTy wr A2 c2 (allsE (es.take k))) ∧ Hid (∀ a, A2 = some a → w.heap.size ≤ a.block) ∧ Hid (okAll (es.take k) = true ∧ (allsE (es.take k)).length ≤ k * 5000) ∧ Hid (Chg [] w wr)) (fun _ v10 _ => xs.length - (RowKit.intOf v10).toNat)
 case atStart => exact ⟨0, none, 0, Nat.zero_le _, rfl, rfl, OwnK.none_ _, Lib.hid (by simp), Lib.hid ⟨rfl, by simp [allsE]⟩, Chg.refl _ _⟩
 case round =>
  obtain ⟨k, A2, c2, hk, rfl, rfl, PO, PN, OKK, PC⟩ := hrel
  have j0 : (0 : Int) ≤ (k : Int) := by omega
  by_cases hlt : k < xs.length
  ·
   have j1 : (k : Int) < (xs.length : Int) := by omega
   have j3 : IntKind.i64.wrap ((k : Int) + 1) = (k : Int) + 1 := IntWalk.i64_in _ (by have := HN.out; omega)
   obtain ⟨g3, o3, eA, _⟩ := HA.out.line (by omega)
   subst eA
   obtain ⟨x, e, ex, ee, rx⟩ := HX.out.at_ hlt
   obtain ⟨z0, z1, z2, z3, z4, z5, z6⟩ := evCells (HA.out.chg PC.out (by simp)) ex
   have RX := Lib.hid rx
   have LO0 := Lib.hid (PO.out.lt_)
   have ES := Lib.hid (HS.out e (List.mem_of_getElem? ee))
   have EE := Lib.hid ee
   clear ex ee rx
   obtain ⟨w5, hw5, c5, b5⟩ := news1 wr (.cells #[.int .i64 x.n, .int .i64 x.s, .string x.p, .int .i64 x.k, .int .i64 x.m, .slice x.A x.l x.c, .slice x.B x.bl x.bc] 29)
   have W5 := Lib.hid hw5
   have B5 := Lib.hid b5
   replace PO := Lib.hid (PO.out.chg c5 (by simp))
   replace PC := Lib.hid (PC.out.trans c5)
   clear hw5 c5 b5
   go_upto_region 5 with fail
   rw [← W5.out]
   have LO5 : Hid (∀ a, A2 = some a → a.block ≠ wr.heap.size) := Lib.hid (fun a ha => Nat.ne_of_lt (LO0.out a ha))
   generalize wr.heap.size = g6 at *
   clear W5 z0 z1 z2 z3 z4 z5 z6
   have y0 := cell_of B5.out 0
   have y1 := cell_of B5.out 1
   have y2 := cell_of B5.out 2
   have y3 := cell_of B5.out 3
   have y4 := cell_of B5.out 4
   have y5 := cell_of B5.out 5
   have y6 := cell_of B5.out 6
   simp only [List.getElem?_toArray, List.getElem?_cons_succ, List.getElem?_cons_zero] at y0 y1 y2 y3 y4 y5 y6
   go_wp2_with fail
   clear y0 y1 y2 y3 y4 y5 y6
   refine (evcheck_any w5 x e (RX.out.chg PC.out) ES.out).mono ?_
   rintro r w6 ⟨rfl, hc⟩
   replace PO := Lib.hid (PO.out.chg hc (by simp))
   replace B5 := Lib.hid (hc.at_ B5.out (by simp))
   replace PC := Lib.hid (PC.out.trans hc)
   clear hc
   rcases chkEv_two e with e1 | e1
   rotate_left
   ·
    have NO : Hid (pastE es = (2, [])) := Lib.hid (by unfold pastE; rw [okAll_no EE.out (by omega)]; rfl)
    rw [e1]
    clear e1
    go_wp2
    go_ret2
    rw [NO.out]
    exact ⟨none, 0, rfl, OwnK.none_ _, by simp, PC.out⟩
   have AT : Hid (allsE (es.take (k + 1)) = allsE (es.take k) ++ [ownS e] ++ e.q) := Lib.hid (by rw [alls_take EE.out]; simp)
   have OT : Hid (okAll (es.take (k + 1)) = true) := Lib.hid (by rw [okAll_take EE.out, OKK.out.1, e1]; rfl)
   have QL : Hid (e.q.length ≤ 4000) := Lib.hid (chk_len e1)
   rw [e1]
   clear e1
   have LL := Lib.hid OKK.out.2
   generalize allsE (es.take k) = al at *
   obtain ⟨w7, hw, cn, bn⟩ := news1 w6 (.cells #[.int .i64 x.n, .int .i64 x.s, .int .i64 x.s] 62)
   have W7 := Lib.hid hw
   have XR : Hid (RdK spanTy w7 (some ⟨w6.heap.size, 0, none⟩) 1 [ownS e]) := Lib.hid (by
    have q := rd_oneS (x := (x.n, x.s, x.s)) bn
    rwa [RX.out.n, RX.out.s] at q)
   have XB : Hid (x.bl = e.q.length) := Lib.hid RX.out.bl
   replace PO := Lib.hid (PO.out.chg cn (by simp))
   replace PC := Lib.hid (PC.out.trans cn)
   have CB := Lib.hid (cn.at_ B5.out (by simp))
   have N4 : Hid ((al.length + 1) * 400 ≤ 140737488355327) := Lib.hid (by have := LL.out; have := HN.out; omega)
   have N5 : Hid ((al.length + 1 + x.bl) * 400 ≤ 140737488355327) := Lib.hid (by have := LL.out; have := HN.out; have := XB.out; have := QL.out; omega)
   have y0 := cell_of B5.out 0
   have y1 := cell_of B5.out 1
   have y2 := cell_of B5.out 2
   have y3 := cell_of B5.out 3
   have y4 := cell_of B5.out 4
   have y5 := cell_of B5.out 5
   have y6 := cell_of B5.out 6
   simp only [List.getElem?_toArray, List.getElem?_cons_succ, List.getElem?_cons_zero] at y0 y1 y2 y3 y4 y5 y6
   have Z8 : Hid (∀ (w8 : World), w7.grownBy w8 (A2.map (·.block)) → w8.cell? ⟨g6, 6, none⟩ = some (.slice x.B x.bl x.bc)) := Lib.hid (fun w8 g7 => by
    have CG : Chg (blkOf A2) w7 w8 := (Chg.refl (blkOf A2) w7).grown g7 (fun i hi => by
     cases A2 with
     | none => simp at hi
     | some a => simp at hi; subst hi; exact .inl (mem_blkOf rfl))
    exact cell_of (CG.at_ CB.out (fun q => by obtain ⟨b, hb, q2⟩ := of_blkOf q; exact LO5.out b hb q2)) 6)
   have AL : Hid ((al ++ [ownS e]).length = al.length + 1) := Lib.hid (by simp)
   have RQ : Hid (∀ w', Chg [] w w' → RdK spanTy w' x.B x.bl e.q) := Lib.hid (fun w' hc => (RX.out.chg hc).B)
   clear hw cn bn
   go_wp2_with (first | (at_builtin; rw [← W7.out]; refine wpList_appK (R := spanTy) rfl (.tmp 19) (.tmp 30) rfl rfl (A := A2) (n := al.length) (m := 1) (c := c2) (d := 1) (xs := al) (ys := [ownS e]) PO.out rfl rfl XR.out N4.out ?_; intro A7 c7 w8 o7 g7 e7; have y8 := Z8.out w8 g7; have O7 := Lib.hid o7; have F7 := Lib.hid (fresh_appS PN.out PC.out g7 e7); clear o7 g7 e7) | (at_builtin; refine wpList_appK (R := spanTy) rfl (.tmp 32) (.tmp 34) rfl rfl (A := A7) (n := al.length + 1) (m := x.bl) (c := c7) (d := x.bc) (xs := al ++ [ownS e]) (ys := e.q) O7.out AL.out rfl (RQ.out _ F7.out.2) N5.out ?_; intro A9 c9 w9 o9 g9 e9))
   have O9 := Lib.hid o9
   have F9 := Lib.hid (fresh_appS F7.out.1 F7.out.2 g9 e9)
   have NL : Hid (al.length + 1 + x.bl = (al ++ [ownS e] ++ e.q).length) := Lib.hid (by have := XB.out; simp; omega)
   clear o9 g9 e9 y0 y1 y2 y3 y4 y5 y6 y8 O7 F7
   rw [NL.out]
   go_wp2
   go_round
   case rel => exact ⟨k + 1, A9, c9, by omega, by go_num, by rw [AT.out], by rw [AT.out]; exact O9, Lib.hid F9.out.1, Lib.hid ⟨OT.out, by rw [AT.out]; have := LL.out; have := QL.out; simp; omega⟩, Lib.hid F9.out.2⟩
   case measure => simp [RowKit.intOf]; omega
  ·
   obtain rfl : k = xs.length := by omega
   have j1 : ¬ (xs.length : Int) < (xs.length : Int) := by omega
   have ET : es.take xs.length = es := by rw [HX.out.1]; exact List.take_length
   rw [ET] at PO OKK ⊢
   clear ET
   have PE : Hid (pastE es = boundP (tidyS (allsE es))) := Lib.hid (by unfold pastE; rw [if_pos OKK.out.1])
   have AB := Lib.hid (alls_B3 OKK.out.1)
   have AL : Hid ((allsE es).length ≤ 1000000000) := Lib.hid (by have := OKK.out.2; have := HN.out; omega)
   generalize allsE es = al at *
   go_wp2_with fail
   refine (spjoin_any wr A2 c2 al PO.out.reads AL.out AB.out).mono ?_
   rintro r w2 ⟨A3, c3, rfl, o3, n3, hc⟩
   have O3 := Lib.hid o3
   have N3 := Lib.hid (fun a ha => Nat.le_trans PC.out.size (n3 a ha) : ∀ a, A3 = some a → w.heap.size ≤ a.block)
   replace PC := Lib.hid (PC.out.trans hc)
   clear o3 n3 hc PO PN
   by_cases hb : (tidyS al).length ≤ 4000
   ·
    have BL : Hid (pastE es = (0, tidyS al)) := Lib.hid (by rw [PE.out, bound_le hb])
    have b1 : ¬ (4000 : Int) < ((tidyS al).length : Int) := by omega
    have b2 : ¬ 4000 < (tidyS al).length := by omega
    go_wp2
    go_ret2
    rw [BL.out]
    exact ⟨A3, c3, rfl, O3.out, N3.out, PC.out⟩
   ·
    have BL : Hid (pastE es = (8, [])) := Lib.hid (by rw [PE.out]; unfold boundP; rw [if_pos (by omega)])
    have b1 : (4000 : Int) < ((tidyS al).length : Int) := by omega
    have b2 : 4000 < (tidyS al).length := by omega
    go_wp2
    go_ret2
    rw [BL.out]
    exact ⟨none, 0, rfl, OwnK.none_ _, by simp, PC.out⟩
end
section
open Go.RowKit
set_option linter.unusedSimpArgs false
set_option linter.unusedVariables false
theorem okB_iff (b : UInt8) : okB b = true ↔ (97 ≤ (b.toNat : Int) ∧ (b.toNat : Int) ≤ 122) ∨ (48 ≤ (b.toNat : Int) ∧ (b.toNat : Int) ≤ 57) ∨ (b.toNat : Int) = 46 ∨ (b.toNat : Int) = 95 ∨ (b.toNat : Int) = 45 := by
 have h := foreign_byte b
 have : okB b = !foreignR b.toNat := by rw [h]; simp
 rw [this]
 simp [foreignR]
 omega
theorem okB_not (b : UInt8) : okB b = false ↔ ¬ ((97 ≤ (b.toNat : Int) ∧ (b.toNat : Int) ≤ 122) ∨ (48 ≤ (b.toNat : Int) ∧ (b.toNat : Int) ≤ 57) ∨ (b.toNat : Int) = 46 ∨ (b.toNat : Int) = 95 ∨ (b.toNat : Int) = 45) := by
 rw [← okB_iff]
 simp
theorem part_bad {l : List UInt8} {k : Nat} (h : k < l.length) (hb : okB l[k] = false) : partL 12 l = false := by
 have : l.all okB = false := by
  rw [List.all_eq_false]
  exact ⟨l[k], List.getElem_mem h, by simp [hb]⟩
 simp [partL, this]
theorem strOf_get (l : List UInt8) (k : Nat) (h : k < (strOf l).size) (h' : k < l.length) : (strOf l)[k] = l[k] := by
 show (strOf l).data[k] = l[k]
 simp [strOf]
set_option maxHeartbeats 4000000 in
theorem qpart_any (w : World) (l : List UInt8) (hlen : l.length ≤ 140737488351232) :
    Calls Tryz.prog 116 #[.string (strOf l)] w fun e w' => e = .returned (.bool (partL 12 l)) ∧ w' = w := by
  have hs := strOf_size l
  go_enter Tryz.func116, Tryz.ntmps116
  go_wp2
  go_loopw [3, 4] (fun v3 v4 wr => ∃ k : Nat, k ≤ l.length ∧ v3 = .int .i64 (k : Int) ∧ (l.take k).all okB = true ∧ wr = w) (fun v3 _ _ => l.length - (RowKit.intOf v3).toNat)
  case atStart => exact ⟨0, Nat.zero_le _, rfl, rfl, rfl⟩
  case round =>
    obtain ⟨k, hk, rfl, hall, rfl⟩ := hrel
    by_cases hlt : k < l.length
    · have ex := List.getElem?_eq_getElem hlt
      have i0 : (0 : Int) ≤ (k : Int) := by omega
      have i1 : (k : Int) < ((strOf l).size : Int) := by omega
      have hb := strOf_get l k (by omega) hlt
      have HB := Lib.hid hb
      have HA := Lib.hid hall
      clear hb hall ex
      go_wp2
      all_goals (try simp only [bne_iff_ne, ne_eq, bne_eq_false_iff_eq] at *)
      all_goals first
        | (go_ret; exact ⟨by rw [part_bad hlt (by rw [← HB.out, okB_not]; omega)]; rfl, rfl⟩)
        | (refine ⟨⟨k + 1, by omega, by simp, ?_, trivial⟩, by simp [RowKit.intOf]; omega⟩
           have ho : okB l[k] = true := by rw [← HB.out, okB_iff]; omega
           rw [List.take_succ_eq_append_getElem hlt, List.all_append, HA.out]
           simp [ho])
    · obtain rfl : k = l.length := by omega
      rw [List.take_length] at hall
      have HA := Lib.hid hall
      clear hall
      go_wp2
      all_goals (try simp only [bne_iff_ne, ne_eq, bne_eq_false_iff_eq] at *)
      all_goals
        go_ret
        refine ⟨congrArg (fun b => Ending.returned (Value.bool b)) ?_, rfl⟩
        rw [Bool.eq_iff_iff]
        simp [partL, HA.out]
      all_goals first
        | (intros; omega)
        | (intro a b c; exact absurd (by assumption) c)
end
section
open Go.RowKit
set_option linter.unusedSimpArgs false
set_option linter.unusedVariables false
theorem own_app {w w6 w7 : World} {B A2 : Option Addr} (hB : ∀ a, B = some a → w.heap.size ≤ a.block) (hC : Chg [] w w6) (d2 : w6.grownBy w7 (B.map (·.block))) (e2 : A2 = B ∨ A2 = some ⟨w6.heap.size, 0, none⟩) : (∀ a, A2 = some a → w.heap.size ≤ a.block) ∧ Chg [] w w7 := by
 refine ⟨?_, hC.grown d2 (fun i hi => ?_)⟩
 ·
  rcases e2 with rfl | rfl
  ·
   exact hB
  ·
   rintro a ⟨⟩; exact hC.size
 ·
  cases B with
  | none => simp at hi
  | some a => simp at hi; subst hi; exact .inr (hB a rfl)
theorem cut_mid (l : List UInt8) (fr i : Nat) (hi : i < l.length) (hfi : fr ≤ i) :
  cutA ((l.drop fr).take (i - fr)) (l.drop i) = if l[i] = 47 then (l.drop fr).take (i - fr) :: cutA ((l.drop (i + 1)).take 0) (l.drop (i + 1)) else cutA ((l.drop fr).take (i + 1 - fr)) (l.drop (i + 1)) := by
 rw [List.drop_eq_getElem_cons hi, cutA]
 split
 ·
  simp
 ·
  congr 1
  rw [show i + 1 - fr = (i - fr) + 1 by omega, List.take_succ_eq_append_getElem (by simp; omega)]
  congr 2
  rw [List.getElem_drop]
  congr 1
  omega
set_option maxRecDepth 100000 in
set_option maxHeartbeats 4000000 in
theorem qcut_any (w : World) (l : List UInt8) (hlen : l.length ≤ 10000000) :
  Calls Tryz.prog 115 #[.string (strOf l)] w fun e w' => ∃ A c, e = .returned (.slice A (cutL l).length c) ∧ OwnK textTy w' A c (cutL l) ∧ (∀ a, A = some a → w.heap.size ≤ a.block) ∧ Chg [] w w' := by
 have hs := strOf_size l
 go_enter Tryz.func115, Tryz.ntmps115
 go_wp2
 go_loopw [3, 4, 5] (fun v3 v4 v5 wr => ∃ (i fr : Nat) (out : List (List UInt8)) (B : Option Addr) (c : Nat), i ≤ l.length ∧ fr ≤ i ∧ v3 = .slice B out.length c ∧ v4 = .int .i64 (fr : Int) ∧ v5 = .int .i64 (i : Int) ∧ Hid (out ++ cutA ((l.drop fr).take (i - fr)) (l.drop i) = cutL l ∧ out.length ≤ i) ∧ Hid (OwnK textTy wr B c out ∧ (∀ a, B = some a → w.heap.size ≤ a.block) ∧ Chg [] w wr)) (fun _ _ v5 _ => l.length - (RowKit.intOf v5).toNat)
 case atStart => exact ⟨0, 0, [], none, 0, Nat.zero_le _, Nat.le_refl _, rfl, rfl, rfl, ⟨rfl, Nat.le_refl _⟩, OwnK.none_ _, by simp, Chg.refl _ _⟩
 case round =>
  obtain ⟨i, fr, out, B, c, hi, hfi, rfl, rfl, rfl, HC, HI⟩ := hrel
  by_cases hlt : i < l.length
  ·
   have hm := cut_mid l fr i hlt hfi
   have hb := strOf_get l i (by omega) hlt
   have i0 : (0 : Int) ≤ (i : Int) := by omega
   have i1 : (i : Int) < ((strOf l).size : Int) := by omega
   have k1 : IntKind.i64.wrap ((i : Int) + 1) = (i : Int) + 1 := IntWalk.i64_in _ (by omega)
   by_cases h47 : l[i] = 47
   ·
    rw [if_pos h47] at hm
    have HM := Lib.hid hm
    have hb2 : (((strOf l)[i].toNat : Int) == 47) = true := by rw [hb, h47]; rfl
    clear hm h47 hb
    have i2 : (fr : Int) ≤ (i : Int) := by omega
    have i3 : (i : Int) ≤ ((strOf l).size : Int) := by omega
    have i4 : (0 : Int) ≤ (fr : Int) := by omega
    have i5 : i ≤ (strOf l).size := by omega
    have ee : (strOf l).extract fr i = strOf ((l.drop fr).take (i - fr)) := strOf_ext l fr i
    generalize (l.drop fr).take (i - fr) = p at *
    obtain ⟨w5, hw5, c5, b5⟩ := news1 wr (.cells #[.string (strOf p)] 9)
    have W5 := Lib.hid hw5
    have R5 := Lib.hid (OwnK.of (R := textTy) (c := 1) (full := [p]) (xs := [p]) b5 (Nat.le_refl _) (by decide) rfl rfl).reads
    have O5 := Lib.hid (HI.out.1.chg c5 (by simp))
    have BND := Lib.hid (show (out.length + 1) * 400 ≤ 140737488355327 by have := HC.out.2; omega)
    have C5 := Lib.hid (HI.out.2.2.trans c5)
    clear hw5 c5 b5
    go_wp2_with (at_builtin; rw [← W5.out]; refine wpList_appK (R := textTy) rfl _ _ rfl rfl O5.out rfl rfl R5.out BND.out ?_; intro A2 c2 w7 u2 d2 e2)
    have AO := own_app (w := w) HI.out.2.1 C5.out d2 e2
    refine ⟨⟨i + 1, i + 1, out ++ [p], A2, c2, by omega, Nat.le_refl _, by simp, by simp, by simp, ⟨?_, ?_⟩, ⟨u2, AO.1, AO.2⟩⟩, by simp [RowKit.intOf]; omega⟩
    ·
     rw [← HC.out.1, HM.out, Nat.sub_self]
     simp
    ·
     have := HC.out.2
     simp
     omega
   ·
    rw [if_neg h47] at hm
    have HM := Lib.hid hm
    have hb2 : (((strOf l)[i].toNat : Int) == 47) = false := by
     rw [hb, beq_eq_false_iff_ne]
     intro e
     have : l[i].toNat = (47 : UInt8).toNat := by rw [show (47 : UInt8).toNat = 47 from rfl]; omega
     exact h47 (UInt8.toNat_inj.1 this)
    clear hm h47 hb
    go_wp2
    exact ⟨⟨i + 1, fr, out, B, c, by omega, by omega, rfl, rfl, by simp, ⟨by rw [← HC.out.1, HM.out], by have := HC.out.2; omega⟩, HI⟩, by simp [RowKit.intOf]; omega⟩
  ·
   obtain rfl : i = l.length := by omega
   have hp : (l.drop fr).take (l.length - fr) = l.drop fr := List.take_of_length_le (by simp)
   have hc := HC.out.1
   rw [hp, List.drop_length, cutA] at hc
   have i2 : (fr : Int) ≤ ((strOf l).size : Int) := by omega
   have i4 : (0 : Int) ≤ (fr : Int) := by omega
   have i5 : fr ≤ (strOf l).size := by omega
   have ee : (strOf l).extract fr (strOf l).size = strOf (l.drop fr) := by rw [strOf_ext, hs, hp]
   rw [hs] at ee
   generalize l.drop fr = p at *
   obtain ⟨w5, hw5, c5, b5⟩ := news1 wr (.cells #[.string (strOf p)] 9)
   have W5 := Lib.hid hw5
   have R5 := Lib.hid (OwnK.of (R := textTy) (c := 1) (full := [p]) (xs := [p]) b5 (Nat.le_refl _) (by decide) rfl rfl).reads
   have O5 := Lib.hid (HI.out.1.chg c5 (by simp))
   have BND := Lib.hid (show (out.length + 1) * 400 ≤ 140737488355327 by have := HC.out.2; omega)
   have C5 := Lib.hid (HI.out.2.2.trans c5)
   have HC2 := Lib.hid hc
   clear hw5 c5 b5 hc hp HC
   go_wp2_with (at_builtin; rw [← W5.out]; refine wpList_appK (R := textTy) rfl _ _ rfl rfl O5.out rfl rfl R5.out BND.out ?_; intro A2 c2 w7 u2 d2 e2)
   go_ret
   have AO := own_app (w := w) HI.out.2.1 C5.out d2 e2
   exact ⟨A2, c2, by rw [← HC2.out]; simp, by rw [← HC2.out]; exact u2, AO.1, AO.2⟩
end
section
open Go.RowKit
set_option linter.unusedSimpArgs false
set_option linter.unusedVariables false
theorem cutA_short : ∀ (l acc x : List UInt8), x ∈ cutA acc l → x.length ≤ acc.length + l.length
 | [], acc, x, h => by simp [cutA] at h; subst h; simp
 | b :: l, acc, x, h => by
  unfold cutA at h
  split at h
  ·
   rcases List.mem_cons.1 h with rfl | h
   ·
    omega
   ·
    have := cutA_short l [] x h
    simp at this
    simp
    omega
  ·
   have := cutA_short l _ x h
   simp at this
   simp
   omega
theorem all_bad {xs : List (List UInt8)} {k : Nat} (h : k < xs.length) (hb : partL 12 xs[k] = false) : xs.all (partL 12) = false := by
 rw [List.all_eq_false]
 exact ⟨xs[k], List.getElem_mem h, by simp [hb]⟩
set_option maxRecDepth 100000 in
set_option maxHeartbeats 4000000 in
theorem qcheck_any (w : World) (l : List UInt8) (hlen : l.length ≤ 10000000) :
  Calls Tryz.prog 64 #[.string (strOf l)] w fun e w' => e = .returned (.int .i64 (if checkL 6 12 l then 0 else 2)) ∧ Chg [] w w' := by
 have hne := cutA_ne [] l
 have hxl : ∀ x ∈ cutL l, x.length ≤ 10000000 := fun x hx => by have := cutA_short l [] x hx; simp at this; omega
 have hxs := cutA_len l []
 have hck : checkL 6 12 l = (decide ((cutL l).length ≤ 6) && (cutL l).all (partL 12)) := rfl
 rw [hck]
 rw [show cutA [] l = cutL l from rfl] at hne hxs
 have QC := Lib.hid (fun w => qcut_any w l hlen)
 clear hck
 generalize cutL l = xs at *
 obtain ⟨v, hv⟩ : ∃ v : Int, v = if (decide (xs.length ≤ 6) && xs.all (partL 12)) = true then 0 else 2 := ⟨_, rfl⟩
 rw [← hv]
 have HV := Lib.hid hv
 have HX := Lib.hid hxl
 clear hv hxl
 go_enter Tryz.func64, Tryz.ntmps64
 go_wp2_with fail
 refine (QC.out _).mono ?_
 rintro e w1 ⟨A, c, rfl, own, hA, hc⟩
 have OW := Lib.hid own
 have HC := Lib.hid hc
 clear own hA hc
 by_cases h6 : 6 < xs.length
 ·
  have i6 : (6 : Int) < (xs.length : Int) := by omega
  have i7 : ¬ xs.length ≤ 6 := by omega
  go_wp2
  go_ret
  exact ⟨by rw [HV.out]; simp [i7], HC.out⟩
 ·
  have i6 : ¬ ((6 : Int) < (xs.length : Int)) := by omega
  have i7 : xs.length ≤ 6 := by omega
  go_wp2
  go_loopw [4] (fun v4 wr => ∃ k : Nat, k ≤ xs.length ∧ v4 = .int .i64 (k : Int) ∧ Hid ((xs.take k).all (partL 12) = true) ∧ Hid (Chg [] w1 wr)) (fun v4 _ => xs.length - (RowKit.intOf v4).toNat)
  case atStart => exact ⟨0, Nat.zero_le _, rfl, rfl, Chg.refl _ _⟩
  case round =>
   obtain ⟨k, hk, rfl, HA, HI⟩ := hrel
   by_cases hlt : k < xs.length
   ·
    obtain ⟨g, o, eA, _⟩ := OW.out.reads.line (by omega)
    subst eA
    have ex := List.getElem?_eq_getElem hlt
    have z := textCells (OW.out.reads.chg HI.out (by simp)) ex
    have HB := Lib.hid (fun h => all_bad (xs := xs) hlt h)
    have HL := Lib.hid (HX.out xs[k] (List.getElem_mem hlt))
    have HT := Lib.hid (List.take_succ_eq_append_getElem hlt)
    generalize xs[k] = x at *
    have i0 : (0 : Int) ≤ (k : Int) := by omega
    have i1 : (k : Int) < (xs.length : Int) := by omega
    have k1 : IntKind.i64.wrap ((k : Int) + 1) = (k : Int) + 1 := IntWalk.i64_in _ (by omega)
    clear ex
    cases hp : partL 12 x with
    | false =>
     have HP := Lib.hid (fun w => hp ▸ qpart_any w x (by have := HL.out; omega))
     have HF := Lib.hid (HB.out hp)
     clear hp
     go_wp2_with fail
     refine (HP.out _).mono ?_
     rintro e w3 ⟨rfl, rfl⟩
     go_wp2
     go_ret
     exact ⟨by rw [HV.out, HF.out]; simp, HC.out.trans HI.out⟩
    | true =>
     have HP := Lib.hid (fun w => hp ▸ qpart_any w x (by have := HL.out; omega))
     have HQ := Lib.hid hp
     clear hp
     go_wp2_with fail
     refine (HP.out _).mono ?_
     rintro e w3 ⟨rfl, rfl⟩
     go_wp2
     exact ⟨⟨k + 1, by omega, by simp, Lib.hid (by rw [HT.out, List.all_append, HA.out]; simp [HQ.out]), HI⟩, by simp [RowKit.intOf]; omega⟩
   ·
    obtain rfl : k = xs.length := by omega
    go_wp2
    go_ret
    exact ⟨by have := HA.out; rw [List.take_length] at this; rw [HV.out, this]; simp [i7], HC.out.trans HI.out⟩
end
section
open Go.RowKit

theorem OwnB.one (w : World) (c : UInt8) (x : Int) (hx : x = (c.toNat : Int)) : OwnB (w.alloc (.cells #[.int .u8 x] 5)) (some ⟨w.heap.size, 0, none⟩) 1 [c] := by
 subst hx
 exact .of (full := [c]) (heap_alloc_new w _) (by simp) (by simp [maxLen]) rfl (by simp)

def up (n k : Nat) : Nat := n / 256 ^ k
end
section
open Go.RowKit

def VWr (w : World) (b g : Nat) (xs : List UInt8) (e : Int) : Prop :=
 ∃ A c, w.heap[b]? = some (.cells #[.slice A xs.length c, .int .i64 e] 74 (0, 0)) ∧ OwnB w A c xs ∧ (A = none ∧ g = b ∨ A = some ⟨g, 0, none⟩)
theorem VWr.chg {S : List Nat} {w w' : World} {b g : Nat} {xs : List UInt8} {e : Int} (h : VWr w b g xs e) (hc : Chg S w w') (hb : b ∉ S) (hg : g ∉ S) : VWr w' b g xs e := by
 obtain ⟨A, c, h1, h2, h3⟩ := h
 refine ⟨A, c, hc.at_ h1 hb, h2.chg hc ?_, h3⟩
 rintro a rfl
 rcases h3 with ⟨h3, _⟩ | h3
 ·
  cases h3
 ·
  cases h3; exact hg
theorem VWr.lt {w : World} {b g : Nat} {xs : List UInt8} {e : Int} (h : VWr w b g xs e) : b < w.heap.size ∧ g < w.heap.size := by
 obtain ⟨A, c, h1, h2, h3⟩ := h
 have hb := lt_of_heap h1
 rcases h3 with ⟨_, rfl⟩ | rfl
 ·
  exact ⟨hb, hb⟩
 ·
  rcases h2.form with ⟨h, _⟩ | ⟨g', cur, h, h4, _⟩
  ·
   cases h
  ·
   cases h; exact ⟨hb, lt_of_heap h4⟩
def VBetween (w wr : World) (b g : Nat) (xs : List UInt8) (e : Int) : Prop := ∃ g', VWr wr b g' xs e ∧ Chg [b, g] w wr ∧ (g' = g ∨ w.heap.size ≤ g')
theorem VBetween.refl {w : World} {b g : Nat} {xs : List UInt8} {e : Int} (h : VWr w b g xs e) : VBetween w w b g xs e := ⟨g, h, Chg.refl _ _, .inl rfl⟩
theorem VBetween.later {w w1 w2 : World} {b g : Nat} {xs : List UInt8} {e : Int} (hc : Chg [] w w1) (h : VBetween w1 w2 b g xs e) : VBetween w w2 b g xs e := by
 obtain ⟨g', h1, h2, h3⟩ := h
 have := hc.size
 refine ⟨g', h1, (hc.mono (by simp)).trans h2, ?_⟩
 rcases h3 with h3 | h3
 ·
  exact .inl h3
 ·
  right; omega
end
section
open Go.RowKit
end
section
open Go.RowKit

def URdr (w : World) (v : Nat) (A : Option Addr) (c : Nat) (xs : List UInt8) (p : Nat) (fe fa : Int) : Prop :=
 w.heap[v]? = some (.cells #[.slice A xs.length c, .int .i64 p, .int .i64 fe, .int .i64 fa] 127 (0, 0)) ∧ Bs w A xs.length xs ∧ (xs = [] ∨ ∀ a, A = some a → a.block ≠ v) ∧ xs.length ≤ c ∧ c ≤ 9223372036854775807

theorem URdr.chg {S : List Nat} {w w' : World} {v : Nat} {A : Option Addr} {c : Nat} {xs : List UInt8} {p : Nat} {fe fa : Int} (h : URdr w v A c xs p fe fa) (hc : Chg S w w') (hv : v ∉ S) (hA : xs = [] ∨ ∀ a, A = some a → a.block ∉ S) : URdr w' v A c xs p fe fa := by
 obtain ⟨h1, h2, h3⟩ := h
 refine ⟨hc.at_ h1 hv, ?_, h3⟩
 rcases hA with rfl | hA
 ·
  exact Bs.nil _ _
 ·
  exact h2.chg hc hA
theorem URdr.cells {w : World} {v : Nat} {A : Option Addr} {c : Nat} {xs : List UInt8} {p : Nat} {fe fa : Int} (h : URdr w v A c xs p fe fa) :
  w.cell? ⟨v, 0, none⟩ = some (.slice A xs.length c) ∧ w.cell? ⟨v, 1, none⟩ = some (.int .i64 p) ∧ w.cell? ⟨v, 2, none⟩ = some (.int .i64 fe) ∧ w.cell? ⟨v, 3, none⟩ = some (.int .i64 fa) ∧ ∀ j, w.frozen? ⟨v, j, none⟩ = false :=
 ⟨cell_of h.1 0, cell_of h.1 1, cell_of h.1 2, cell_of h.1 3, fun j => free_of h.1 j⟩
theorem URdr.set {w : World} {v : Nat} {A : Option Addr} {c : Nat} {xs : List UInt8} {p : Nat} {fe fa : Int} (h : URdr w v A c xs p fe fa) (e q : Int) :
  URdr ((w.setCell ⟨v, 2, none⟩ (.int .i64 e)).setCell ⟨v, 3, none⟩ (.int .i64 q)) v A c xs p e q ∧ Chg [v] w ((w.setCell ⟨v, 2, none⟩ (.int .i64 e)).setCell ⟨v, 3, none⟩ (.int .i64 q)) := by
 have q1 := heap_setCell_same w v 2 _ _ (.int .i64 e) h.1
 have q2 := heap_setCell_same _ v 3 _ _ (.int .i64 q) q1
 have hc : Chg [v] w ((w.setCell ⟨v, 2, none⟩ (.int .i64 e)).setCell ⟨v, 3, none⟩ (.int .i64 q)) := ((Chg.refl _ _).setCell (by simp) _).setCell (by simp) _
 refine ⟨⟨by simpa using q2, ?_, h.2.2⟩, hc⟩
 rcases h.2.2.1 with h3 | h3
 ·
  subst h3; exact Bs.nil _ _
 ·
  exact h.2.1.chg hc (fun a e => by simpa using h3 a e)
theorem URdr.place {w : World} {v : Nat} {A : Option Addr} {c : Nat} {xs : List UInt8} {p : Nat} {fe fa : Int} (h : URdr w v A c xs p fe fa) (q : Nat) :
  URdr (w.setCell ⟨v, 1, none⟩ (.int .i64 q)) v A c xs q fe fa ∧ Chg [v] w (w.setCell ⟨v, 1, none⟩ (.int .i64 q)) := by
 have q1 := heap_setCell_same w v 1 _ _ (.int .i64 q) h.1
 have hc : Chg [v] w (w.setCell ⟨v, 1, none⟩ (.int .i64 q)) := (Chg.refl _ _).setCell (by simp) _
 refine ⟨⟨by simpa using q1, ?_, h.2.2⟩, hc⟩
 rcases h.2.2.1 with h3 | h3
 ·
  subst h3; exact Bs.nil _ _
 ·
  exact h.2.1.chg hc (fun a e => by simpa using h3 a e)
theorem URdr.drewN {w : World} {v : Nat} {A : Option Addr} {c : Nat} {xs : List UInt8} {p : Nat} {fe fa : Int} (h : URdr w v A c xs p fe fa) (n : Nat) : URdr (w.drewN n) v A c xs p fe fa := h.chg ((Chg.refl [] w).drewN n) (by simp) (.inr (by simp))
theorem Bs.from {w : World} {A : Option Addr} {n : Nat} {xs : List UInt8} (h : Bs w A n xs) (h0 : 0 < xs.length) : ∃ g o, A = some ⟨g, o, none⟩ ∧ ∀ j, j < xs.length → w.cell? ⟨g, o + j, none⟩ = some (.int .u8 ((xs.getD j 0).toNat : Int)) := by
 obtain ⟨a, rfl, hc⟩ := h.cells 0 _ (List.getElem?_eq_getElem h0)
 have hsp := World.cell?_spot hc
 obtain ⟨g, o, sp⟩ := a
 have hsp : sp = none := by simpa [Addr.add] using hsp
 subst hsp
 refine ⟨g, o, rfl, fun j hj => ?_⟩
 obtain ⟨a', e, hcj⟩ := h.cells j _ (List.getElem?_eq_getElem hj)
 cases e
 rw [add_lit] at hcj
 rw [hcj]
 simp [bv, List.getD, hj]
end
section
open Go.RowKit
end
section
open Go.RowKit

theorem URdr.step {w : World} {v : Nat} {A : Option Addr} {c : Nat} {xs : List UInt8} {p : Nat} {fe fa : Int} (h : URdr w v A c xs p fe fa) (n q : Nat) :
  URdr ((w.drewN n).setCell ⟨v, 1, none⟩ (.int .i64 q)) v A c xs q fe fa ∧ Chg [v] w ((w.drewN n).setCell ⟨v, 1, none⟩ (.int .i64 q)) :=
 ⟨((h.drewN n).place q).1, ((Chg.refl _ _).drewN n).trans ((h.drewN n).place q).2⟩
end
section
open Go.RowKit

theorem add_twice (a : Addr) (i j : Nat) : (a.add i).add j = a.add (i + j) := by
 unfold Addr.add
 by_cases hi : i = 0 <;> by_cases hj : j = 0 <;> simp [hi, hj, Nat.add_assoc]
theorem Bs.part {w : World} {A : Option Addr} {xs : List UInt8} (h : Bs w A xs.length xs) (q n : Nat) (hq : q + n ≤ xs.length) : Bs w (Option.map (fun x => x.add q) A) n ((xs.drop q).take n) := by
 refine ⟨by simp; omega, fun j u hj => ?_⟩
 rw [List.getElem?_take, List.getElem?_drop] at hj
 split at hj
 ·
  obtain ⟨a, rfl, hc⟩ := h.cells (q + j) u hj
  exact ⟨a.add q, rfl, by rw [add_twice]; exact hc⟩
 ·
  cases hj

def URawPost (w : World) (v : Nat) (A : Option Addr) (c : Nat) (xs : List UInt8) (r : List UInt8 × Nat × Int × Int) (e : Ending) (w' : World) : Prop :=
 ∃ A' c', e = .returned (.slice A' r.1.length c') ∧ OwnB w' A' c' r.1 ∧ (∀ a, A' = some a → w.heap.size ≤ a.block) ∧ URdr w' v A c xs r.2.1 r.2.2.1 r.2.2.2 ∧ Chg [v] w w'

theorem URdr.back {w : World} {v : Nat} {A : Option Addr} {c : Nat} {xs : List UInt8} {p q : Nat} {fe fa : Int} (h : URdr w v A c xs q fe fa) (n : Nat) :
  URawPost w v A c xs ([], p, fe, fa) (.returned (.slice none 0 0)) ((w.drewN n).setCell ⟨v, 1, none⟩ (.int .i64 p)) :=
 ⟨none, 0, rfl, OwnB.none_ _, by simp, h.step n p⟩
theorem URawPost.after {w w1 w' : World} {v : Nat} {A : Option Addr} {c : Nat} {xs : List UInt8} {r : List UInt8 × Nat × Int × Int} {e : Ending} (hc : Chg [v] w w1) (h : URawPost w1 v A c xs r e w') : URawPost w v A c xs r e w' := by
 obtain ⟨A', c', h1, h2, h3, h4, h5⟩ := h
 have := hc.size
 exact ⟨A', c', h1, h2, fun a e => by have := h3 a e; omega, h4, hc.trans h5⟩
end
end Go.Proofs.YtgbidlhgmeglmaaGreatDoor
