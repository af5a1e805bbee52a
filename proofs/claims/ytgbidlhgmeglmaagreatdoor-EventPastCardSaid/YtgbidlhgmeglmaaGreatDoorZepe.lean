/- The document's without. Sets of dots as lists of spans: how many dots they have, what is the last one, what is joined, left, within. Plain. What is joined of spans in order: purely. The reader of package wire: Open, and what tells without reading. The reader's number: what it tells, and what is wrong. The reader's number where no digit follows. The reader's number where digits follow. The reader's number, whatever stands there; Num, Text and Raw. The reader's piece; Raw and Text. The reader's Raw and Text, whatever stands there. Rows of events, and events handed in: what their cells are, and what their slices read as. Paths, purely: the parts of a text, which parts may be, which texts are paths. No program is named here. Rows of texts. A range over a function whose iterator hands over what it has laid itself; the body always goes on: no program here. -/
import Derived.Test.YtgbidlhgmeglmaaGreatDoorZepd
import Derived.Deep.Cut
import Derived.Test.YtgbidlhgmeglmaaGreatDoorZepc
import Derived.Test.YtgbidlhgmeglmaaGreatDoorZepb
import Derived.Deep.QuietTactic
import Derived.BigQuiet
import Derived.ScopeJumps
import Derived.Test.YtgbidlhgmeglmaaGreatDoorZepa
import Derived.Lib.DecodeN
import Derived.RangeFuncNested
import Derived.RangeFuncBound
import Derived.RangeFuncCalls
import Derived.RangeFuncLeaves
import Derived.Shelf.Abstract
import Derived.Shelf.RegionOpen
import Derived.WalkKit
import Derived.OwnWalkIn
import Derived.TacticsInMore
import Derived.LoopNIn
import Derived.LoopIn
namespace Go.Proofs.YtgbidlhgmeglmaaGreatDoor
section
open Go.RowKit Go.Lib
set_option linter.unusedSimpArgs false
set_option linter.unusedVariables false

theorem inblk {A : Option Addr} {k : Nat} (h : A.map (·.block) = some k) : k ∈ blkOf A := by
 cases A with
 | none => simp at h
 | some a => simp at h; subst h; exact mem_blkOf rfl
theorem wi_len (x y : Sp) : (wiP x y).length ≤ 2 := by
 unfold wiP
 split
 ·
  simp
 ·
  split <;> split <;> simp
theorem without_len {x : Sp} (hx : SpOk x) : ∀ {l : List Sp}, Norm l → (withoutP l x).length ≤ l.length + 1
 | [], _ => by simp [withoutP]
 | y :: l, h => by
  have hl : Norm l := ⟨fun z hz => h.1 z (by simp [hz]), (List.pairwise_cons.1 h.2).2⟩
  have ih := without_len hx hl
  have ap := (List.pairwise_cons.1 h.2).1
  have e : withoutP (y :: l) x = wiP x y ++ withoutP l x := by simp [withoutP]
  rw [e, List.length_append, List.length_cons]
  by_cases h2 : y.1 = x.1 ∧ y.2.1 < x.2.1 ∧ x.2.2 < y.2.2
  ·
   have same : ∀ m : List Sp, (∀ z ∈ m, Ap y z) → withoutP m x = m := by
    intro m
    induction m with
    | nil => intro _; rfl
    | cons z m ih2 =>
     intro hm
     have hz := hm z (by simp)
     have q : wiP x z = [z] := by unfold wiP; rw [if_pos]; unfold Ap at hz; unfold SpOk at hx; omega
     show wiP x z ++ withoutP m x = z :: m
     rw [q, ih2 (fun u hu => hm u (by simp [hu]))]; rfl
   rw [same l ap]
   have := wi_len x y
   omega
  ·
   have : (wiP x y).length ≤ 1 := by
    unfold wiP
    split
    ·
     simp
    ·
     split <;> split <;> simp <;> omega
   omega
theorem without_take {xs : List Sp} {k : Nat} {x y : Sp} (h : xs[k]? = some y) : withoutP (xs.take (k + 1)) x = withoutP (xs.take k) x ++ wiP x y := by
 rw [List.take_add_one, h]; simp [withoutP]
theorem without_len2 (x : Sp) : ∀ l : List Sp, (withoutP l x).length ≤ 2 * l.length
 | [] => by simp [withoutP]
 | y :: l => by
  have := without_len2 x l
  have := wi_len x y
  have e : withoutP (y :: l) x = wiP x y ++ withoutP l x := by simp [withoutP]
  rw [e, List.length_append, List.length_cons]; omega
set_option maxRecDepth 100000 in
set_option maxHeartbeats 8000000 in
theorem qwithout_any (w : World) (A : Option Addr) (c : Nat) (xs : List Sp) (x : Sp) (h : RdK spanTy w A xs.length xs) (hn : xs.length ≤ 100000) (hb : ∀ y ∈ xs, B3 y) (hx : B3 x) :
  Calls Tryz.prog 141 #[.slice A xs.length c, .agg #[.int .i64 x.1, .int .i64 x.2.1, .int .i64 x.2.2]] w fun e w' => ∃ A' c', e = .returned (.slice A' (withoutP xs x).length c') ∧ OwnK spanTy w' A' c' (withoutP xs x) ∧ (∀ a, A' = some a → w.heap.size ≤ a.block) ∧ Chg [] w w' := by
 obtain ⟨w0, hw0, c0, b0⟩ := news1 w (.cells #[.int .i64 x.1, .int .i64 x.2.1, .int .i64 x.2.2] 62)
 have W0 := Lib.hid hw0
 have C0 := Lib.hid c0
 have B0 := Lib.hid b0
 have HX := Lib.hid (h.chg c0 (by simp))
 have HN := Lib.hid hn
 have HB := Lib.hid hb
 have XB := Lib.hid hx
 clear hw0 c0 b0 h hn hb hx
 go_enter Tryz.func141, Tryz.ntmps141
 go_upto_region 1 with fail
 rw [← W0.out]
 generalize w.heap.size = g0 at *
 go_wp2
 go_loopw [5, 6] (fun o i wr => ∃ (k : Nat) (A' : Option Addr) (d : Nat), k ≤ xs.length ∧ i = .int .i64 k ∧ o = .slice A' (withoutP (xs.take k) x).length d ∧ Hid (OwnK spanTy wr A' d (withoutP (xs.take k) x)) ∧ Hid (∀ a, A' = some a → w0.heap.size ≤ a.block) ∧ Hid (Chg [] w0 wr)) (fun _ i _ => xs.length - (RowKit.intOf i).toNat)
 case atStart => exact ⟨0, none, 0, Nat.zero_le _, rfl, rfl, OwnK.none_ _, Lib.hid (by simp), Chg.refl _ _⟩
 case round =>
  obtain ⟨k, A1, d, hi, rfl, rfl, RO, RN, RC⟩ := hrel
  have i0 : (0 : Int) ≤ (k : Int) := by omega
  by_cases hlt : k < xs.length
  ·
   have i1 : (k : Int) < (xs.length : Int) := by omega
   have i3 : IntKind.i64.wrap ((k : Int) + 1) = (k : Int) + 1 := IntWalk.i64_in _ (by have := HN.out; omega)
   obtain ⟨y, hy⟩ : ∃ y, xs[k]? = some y := ⟨_, List.getElem?_eq_getElem hlt⟩
   obtain ⟨g, o, eA, _⟩ := HX.out.line (by omega)
   subst eA
   have FS := Lib.hid (without_take (x := x) hy)
   have LN : Hid ((withoutP (xs.take k) x).length ≤ 200000) := Lib.hid (by have := without_len2 x (xs.take k); rw [List.length_take] at this; have := HN.out; omega)
   have YB := Lib.hid (HB.out y (List.mem_of_getElem? hy))
   generalize withoutP (xs.take k) x = out at *
   obtain ⟨q0, q1, q2⟩ := spanCells (HX.out.chg RC.out (by simp)) hy
   obtain ⟨wy, hwy, cy, by_⟩ := news1 wr (.cells #[.int .i64 y.1, .int .i64 y.2.1, .int .i64 y.2.2] 62)
   have WY := Lib.hid hwy
   obtain ⟨gy0, hgy⟩ : ∃ g, wr.heap.size = g := ⟨_, rfl⟩
   have GY := Lib.hid hgy
   have RLT : Hid (∀ u, A1 = some u → u.block < gy0) := Lib.hid (fun u hu => by rw [← hgy]; exact RO.out.lt u hu)
   rw [hgy] at by_
   clear hgy
   have z0 := cell_of by_ 0
   have z1 := cell_of by_ 1
   have z2 := cell_of by_ 2
   have CY := Lib.hid (RC.out.trans cy)
   have bx := CY.out.at_ B0.out (by simp)
   have x0 := cell_of bx 0
   have x1 := cell_of bx 1
   have x2 := cell_of bx 2
   have YY := Lib.hid by_
   replace RO := Lib.hid (RO.out.chg cy (by simp))
   have yb := YB.out
   have xb := XB.out
   unfold B3 at yb xb
   have e4 : IntKind.i64.wrap (x.2.1 - 1) = x.2.1 - 1 := IntWalk.i64_in _ (by omega)
   have e5 : IntKind.i64.wrap (x.2.2 + 1) = x.2.2 + 1 := IntWalk.i64_in _ (by omega)
   simp only [List.getElem?_toArray, List.getElem?_cons_succ, List.getElem?_cons_zero] at z0 z1 z2 x0 x1 x2
   have N4 : Hid ((out.length + 1) * 400 ≤ 140737488355327) := Lib.hid (by have := LN.out; omega)
   have N5 : Hid ((out.length + 1 + 1) * 400 ≤ 140737488355327) := Lib.hid (by have := LN.out; omega)
   have BLK : Hid (∀ z ∈ blkOf A1, z ≠ gy0) := Lib.hid (fun z hz => by obtain ⟨u, hu, rfl⟩ := of_blkOf hz; exact Nat.ne_of_lt (RLT.out u hu))
   clear hwy by_ cy bx yb xb hy
   go_upto_region 6 with fail
   rw [← WY.out]
   rw [GY.out]
   clear WY q0 q1 q2
   by_cases p1 : y.1 = x.1
   rotate_left
   ·
    have p1b : ((y.1 == x.1) : Bool) = false := by simpa using p1
    have HW : Hid (wiP x y = [(y.1, y.2.1, y.2.2)]) := Lib.hid (by unfold wiP; rw [if_pos (by omega)])
    obtain ⟨n1, hw, cn, bn⟩ := news1 wy (.cells #[.int .i64 (y.1), .int .i64 (y.2.1), .int .i64 (y.2.2)] 62); have W_n1 := Lib.hid hw; have R_n1 := Lib.hid (rd_oneS (x := (y.1, y.2.1, y.2.2)) bn); have O_n1 := Lib.hid (RO.out.chg cn (by simp)); have C_n1 := Lib.hid (CY.out.trans cn); clear hw cn bn
    go_wp2_with (at_builtin; rw [← W_n1.out]; refine wpList_appK (R := spanTy) rfl (.tmp 37) (.tmp 39) rfl rfl (A := A1) O_n1.out rfl rfl R_n1.out N4.out ?_; intro A7 c7 w7 o_ g_ e_; have P7 := Lib.hid o_; have F7 := Lib.hid (fresh_appS RN.out C_n1.out g_ e_); clear o_ g_ e_)
    go_wp2
    go_round
    case rel => exact ⟨k + 1, A7, c7, by omega, by go_num, by (rw [FS.out, HW.out]) <;> first | rfl | (simp [List.length_append]; done) | (simp only [List.append_nil]; rfl), by (rw [FS.out, HW.out]); exact P7, Lib.hid F7.out.1, Lib.hid F7.out.2⟩
    case measure => simp [RowKit.intOf]; omega
   have p1b : ((y.1 == x.1) : Bool) = true := by simpa using p1
   have P1 := Lib.hid p1
   clear p1
   by_cases p2 : y.2.2 < x.2.1
   ·
    skip
    have HW : Hid (wiP x y = [(x.1, y.2.1, y.2.2)]) := Lib.hid (by unfold wiP; rw [if_pos (by omega)]; exact congrArg (fun q => [q]) (Prod.ext P1.out rfl))
    obtain ⟨n1, hw, cn, bn⟩ := news1 wy (.cells #[.int .i64 (x.1), .int .i64 (y.2.1), .int .i64 (y.2.2)] 62); have W_n1 := Lib.hid hw; have R_n1 := Lib.hid (rd_oneS (x := (x.1, y.2.1, y.2.2)) bn); have O_n1 := Lib.hid (RO.out.chg cn (by simp)); have C_n1 := Lib.hid (CY.out.trans cn); clear hw cn bn
    go_wp2_with (at_builtin; rw [← W_n1.out]; refine wpList_appK (R := spanTy) rfl (.tmp 37) (.tmp 39) rfl rfl (A := A1) O_n1.out rfl rfl R_n1.out N4.out ?_; intro A7 c7 w7 o_ g_ e_; have P7 := Lib.hid o_; have F7 := Lib.hid (fresh_appS RN.out C_n1.out g_ e_); clear o_ g_ e_)
    go_wp2
    go_round
    case rel => exact ⟨k + 1, A7, c7, by omega, by go_num, by (rw [FS.out, HW.out]) <;> first | rfl | (simp [List.length_append]; done) | (simp only [List.append_nil]; rfl), by (rw [FS.out, HW.out]); exact P7, Lib.hid F7.out.1, Lib.hid F7.out.2⟩
    case measure => simp [RowKit.intOf]; omega
   by_cases p3 : x.2.2 < y.2.1
   ·
    skip
    have HW : Hid (wiP x y = [(x.1, y.2.1, y.2.2)]) := Lib.hid (by unfold wiP; rw [if_pos (by omega)]; exact congrArg (fun q => [q]) (Prod.ext P1.out rfl))
    obtain ⟨n1, hw, cn, bn⟩ := news1 wy (.cells #[.int .i64 (x.1), .int .i64 (y.2.1), .int .i64 (y.2.2)] 62); have W_n1 := Lib.hid hw; have R_n1 := Lib.hid (rd_oneS (x := (x.1, y.2.1, y.2.2)) bn); have O_n1 := Lib.hid (RO.out.chg cn (by simp)); have C_n1 := Lib.hid (CY.out.trans cn); clear hw cn bn
    go_wp2_with (at_builtin; rw [← W_n1.out]; refine wpList_appK (R := spanTy) rfl (.tmp 37) (.tmp 39) rfl rfl (A := A1) O_n1.out rfl rfl R_n1.out N4.out ?_; intro A7 c7 w7 o_ g_ e_; have P7 := Lib.hid o_; have F7 := Lib.hid (fresh_appS RN.out C_n1.out g_ e_); clear o_ g_ e_)
    go_wp2
    go_round
    case rel => exact ⟨k + 1, A7, c7, by omega, by go_num, by (rw [FS.out, HW.out]) <;> first | rfl | (simp [List.length_append]; done) | (simp only [List.append_nil]; rfl), by (rw [FS.out, HW.out]); exact P7, Lib.hid F7.out.1, Lib.hid F7.out.2⟩
    case measure => simp [RowKit.intOf]; omega
   by_cases p4 : y.2.1 < x.2.1
   ·
    by_cases p5 : x.2.2 < y.2.2
    ·
     have HW : Hid (wiP x y = [(x.1, y.2.1, x.2.1 - 1)] ++ [(x.1, x.2.2 + 1, y.2.2)]) := Lib.hid (by unfold wiP; rw [if_neg (by have := P1.out; omega), if_pos p4, if_pos p5, P1.out])
     have Y1 := Lib.hid (fun w' (hc : Chg [] wy w') => hc.at_ YY.out (by simp))
     have X1 := Lib.hid (fun w' (hc : Chg [] w0 w') => hc.at_ B0.out (by simp))
     obtain ⟨n1, hw, cn, bn⟩ := news1 wy (.cells #[.int .i64 (x.1), .int .i64 (y.2.1), .int .i64 (x.2.1 - 1)] 62); have W_n1 := Lib.hid hw; have R_n1 := Lib.hid (rd_oneS (x := (x.1, y.2.1, x.2.1 - 1)) bn); have O_n1 := Lib.hid (RO.out.chg cn (by simp)); have C_n1 := Lib.hid (CY.out.trans cn); have C_q := Lib.hid cn; clear hw cn bn
     have D_n1 := Lib.hid (show Chg [] wy n1 from C_q.out)
     go_wp2_with (first | (at_builtin; rw [← W_n1.out]; refine wpList_appK (R := spanTy) rfl (.tmp 46) (.tmp 55) rfl rfl (A := A1) O_n1.out rfl rfl R_n1.out N4.out ?_; intro A7 c7 w7 o_ g_ e_; have P7 := Lib.hid o_; have F7 := Lib.hid (fresh_appS RN.out C_n1.out g_ e_); have D7 := Lib.hid ((D_n1.out.mono (S' := blkOf A1) (by simp)).trans ((Chg.refl (blkOf A1) n1).grown g_ (fun k hk => .inl (inblk hk)))); have yb := D7.out.at_ YY.out (fun hm => BLK.out _ hm rfl); have xb := F7.out.2.at_ B0.out (by simp); have z0 := cell_of yb 0; have z1 := cell_of yb 1; have z2 := cell_of yb 2; have x0 := cell_of xb 0; have x1 := cell_of xb 1; have x2 := cell_of xb 2; simp only [List.getElem?_toArray, List.getElem?_cons_succ, List.getElem?_cons_zero] at z0 z1 z2 x0 x1 x2; clear yb xb o_ g_ e_; obtain ⟨n2, hw, cn, bn⟩ := news1 w7 (.cells #[.int .i64 (x.1), .int .i64 (x.2.2 + 1), .int .i64 (y.2.2)] 62); have W_n2 := Lib.hid hw; have R_n2 := Lib.hid (rd_oneS (x := (x.1, x.2.2 + 1, y.2.2)) bn); have O_n2 := Lib.hid (P7.out.chg cn (by simp)); have C_n2 := Lib.hid (F7.out.2.trans cn); clear hw cn bn) | (at_builtin; rw [← W_n2.out]; refine wpList_appK (R := spanTy) rfl (.tmp 62) (.tmp 71) rfl rfl (A := A7) O_n2.out (show (out ++ [((x.1, y.2.1, x.2.1 - 1) : Sp)]).length = out.length + 1 from by simp) rfl R_n2.out N5.out ?_; intro A8 c8 w8 o_ g_ e_; have P8 := Lib.hid o_; have F8 := Lib.hid (fresh_appS F7.out.1 C_n2.out g_ e_); clear o_ g_ e_))
     go_wp2
     go_round
     case rel => exact ⟨k + 1, A8, c8, by omega, by go_num, by (rw [FS.out, HW.out, ← List.append_assoc]) <;> first | rfl | (simp [List.length_append]; done) | (simp only [List.append_nil]; rfl), by (rw [FS.out, HW.out, ← List.append_assoc]); exact P8, Lib.hid F8.out.1, Lib.hid F8.out.2⟩
     case measure => simp [RowKit.intOf]; omega
    ·
     have HW : Hid (wiP x y = [(x.1, y.2.1, x.2.1 - 1)]) := Lib.hid (by unfold wiP; rw [if_neg (by have := P1.out; omega), if_pos p4, if_neg p5, P1.out]; rfl)
     have Y1 := Lib.hid (fun w' (hc : Chg [] wy w') => hc.at_ YY.out (by simp))
     obtain ⟨n1, hw, cn, bn⟩ := news1 wy (.cells #[.int .i64 (x.1), .int .i64 (y.2.1), .int .i64 (x.2.1 - 1)] 62); have W_n1 := Lib.hid hw; have R_n1 := Lib.hid (rd_oneS (x := (x.1, y.2.1, x.2.1 - 1)) bn); have O_n1 := Lib.hid (RO.out.chg cn (by simp)); have C_n1 := Lib.hid (CY.out.trans cn); have C_q := Lib.hid cn; clear hw cn bn
     have D_n1 := Lib.hid (show Chg [] wy n1 from C_q.out)
     go_wp2_with (at_builtin; rw [← W_n1.out]; refine wpList_appK (R := spanTy) rfl (.tmp 46) (.tmp 55) rfl rfl (A := A1) O_n1.out rfl rfl R_n1.out N4.out ?_; intro A7 c7 w7 o_ g_ e_; have P7 := Lib.hid o_; have F7 := Lib.hid (fresh_appS RN.out C_n1.out g_ e_); have D7 := Lib.hid ((D_n1.out.mono (S' := blkOf A1) (by simp)).trans ((Chg.refl (blkOf A1) n1).grown g_ (fun k hk => .inl (inblk hk)))); have yb := D7.out.at_ YY.out (fun hm => BLK.out _ hm rfl); have xb := F7.out.2.at_ B0.out (by simp); have z0 := cell_of yb 0; have z1 := cell_of yb 1; have z2 := cell_of yb 2; have x0 := cell_of xb 0; have x1 := cell_of xb 1; have x2 := cell_of xb 2; simp only [List.getElem?_toArray, List.getElem?_cons_succ, List.getElem?_cons_zero] at z0 z1 z2 x0 x1 x2; clear yb xb o_ g_ e_)
     go_wp2
     go_round
     case rel => exact ⟨k + 1, A7, c7, by omega, by go_num, by (rw [FS.out, HW.out]) <;> first | rfl | (simp [List.length_append]; done) | (simp only [List.append_nil]; rfl), by (rw [FS.out, HW.out]); exact P7, Lib.hid F7.out.1, Lib.hid F7.out.2⟩
     case measure => simp [RowKit.intOf]; omega
   ·
    by_cases p5 : x.2.2 < y.2.2
    ·
     have HW : Hid (wiP x y = [(x.1, x.2.2 + 1, y.2.2)]) := Lib.hid (by unfold wiP; rw [if_neg (by have := P1.out; omega), if_neg p4, if_pos p5, P1.out]; rfl)
     obtain ⟨n1, hw, cn, bn⟩ := news1 wy (.cells #[.int .i64 (x.1), .int .i64 (x.2.2 + 1), .int .i64 (y.2.2)] 62); have W_n1 := Lib.hid hw; have R_n1 := Lib.hid (rd_oneS (x := (x.1, x.2.2 + 1, y.2.2)) bn); have O_n1 := Lib.hid (RO.out.chg cn (by simp)); have C_n1 := Lib.hid (CY.out.trans cn); clear hw cn bn
     go_wp2_with (at_builtin; rw [← W_n1.out]; refine wpList_appK (R := spanTy) rfl (.tmp 62) (.tmp 71) rfl rfl (A := A1) O_n1.out rfl rfl R_n1.out N4.out ?_; intro A7 c7 w7 o_ g_ e_; have P7 := Lib.hid o_; have F7 := Lib.hid (fresh_appS RN.out C_n1.out g_ e_); clear o_ g_ e_)
     go_wp2
     go_round
     case rel => exact ⟨k + 1, A7, c7, by omega, by go_num, by (rw [FS.out, HW.out]) <;> first | rfl | (simp [List.length_append]; done) | (simp only [List.append_nil]; rfl), by (rw [FS.out, HW.out]); exact P7, Lib.hid F7.out.1, Lib.hid F7.out.2⟩
     case measure => simp [RowKit.intOf]; omega
    ·
     have HW : Hid (wiP x y = []) := Lib.hid (by unfold wiP; rw [if_neg (by have := P1.out; omega), if_neg p4, if_neg p5]; rfl)
     go_wp2
     go_round
     case rel => exact ⟨k + 1, A1, d, by omega, by go_num, by (rw [FS.out, HW.out, List.append_nil]) <;> first | rfl | (simp [List.length_append]; done) | (simp only [List.append_nil]; rfl), by (rw [FS.out, HW.out, List.append_nil]); exact RO, RN, CY⟩
     case measure => simp [RowKit.intOf]; omega
  ·
   obtain rfl : k = xs.length := by omega
   have i1 : ¬ (xs.length : Int) < (xs.length : Int) := by omega
   rw [List.take_length] at RO ⊢
   go_wp2
   go_ret
   exact ⟨A1, d, rfl, RO.out, fun a ha => Nat.le_trans C0.out.size (RN.out a ha), C0.out.trans RC.out⟩
end
section
set_option linter.unusedSimpArgs false
set_option linter.unusedVariables false

theorem lastM_from (node : Int) : ∀ (xs : List Sp) (k : Int), k ≤ xs.foldl (fun n x => if x.1 = node then max n x.2.2 else n) k ∧ ∀ x ∈ xs, x.1 = node → x.2.2 ≤ xs.foldl (fun n x => if x.1 = node then max n x.2.2 else n) k
 | [], k => ⟨Int.le_refl _, by simp⟩
 | x :: xs, k => by
  obtain ⟨h1, h2⟩ := lastM_from node xs (if x.1 = node then max k x.2.2 else k)
  rw [List.foldl_cons]
  by_cases q : x.1 = node
  ·
   rw [if_pos q] at h1 h2 ⊢
   refine ⟨by omega, fun y hy e => ?_⟩
   rcases List.mem_cons.1 hy with rfl | hy
   ·
    omega
   ·
    exact h2 y hy e
  ·
   rw [if_neg q] at h1 h2 ⊢
   refine ⟨by omega, fun y hy e => ?_⟩
   rcases List.mem_cons.1 hy with rfl | hy
   ·
    exact absurd e q
   ·
    exact h2 y hy e
theorem last_ge {xs : List Sp} (h : WfC xs) {n s : Int} (hm : Mem xs n s) : s ≤ lastL n xs := by
 rw [← last_all n h]
 obtain ⟨x, hx, e, _, l⟩ := hm
 exact Int.le_trans l ((lastM_from n xs 0).2 x hx e)
theorem wf_mem {xs : List Sp} (h : WfC xs) {n s : Int} (hm : Mem xs n s) : 1 ≤ n ∧ n ≤ 200 ∧ 1 ≤ s ∧ s ≤ 2147483647 := by
 obtain ⟨x, hx, e, l, r⟩ := hm
 have := h.2 x hx
 omega
theorem wf_sub {m : List Sp} (h : Norm m) (hb : ∀ n s, Mem m n s → 1 ≤ n ∧ n ≤ 200 ∧ 1 ≤ s ∧ s ≤ 2147483647) : WfC m :=
 ⟨h, fun x hx => by
  have o := h.1 x hx
  unfold SpOk at o
  have a := hb x.1 x.2.1 ⟨x, hx, rfl, Int.le_refl _, o⟩
  have b := hb x.1 x.2.2 ⟨x, hx, rfl, o, Int.le_refl _⟩
  omega⟩
theorem push_len (out : List Sp) (z : Sp) : (pushP out z).length ≤ out.length + 1 := by
 unfold pushP
 split <;> (try split) <;> simp <;> omega
theorem fold_len : ∀ (zs out : List Sp), (zs.foldl pushP out).length ≤ out.length + zs.length
 | [], out => by simp
 | z :: zs, out => by
  have h1 := fold_len zs (pushP out z)
  have h2 := push_len out z
  rw [List.foldl_cons, List.length_cons]
  omega
theorem tidy_len (l : List Sp) : (tidyS l).length ≤ l.length := by
 have := fold_len (riseS l) []
 rw [(rise_props l).2.2] at this
 simpa [tidyS] using this
theorem withouts_len : ∀ (b a : List Sp), (∀ x ∈ b, SpOk x) → Norm a → (b.foldl withoutP a).length ≤ a.length + b.length
 | [], a, _, _ => by simp
 | x :: b, a, hb, ha => by
  have hx := hb x (by simp)
  have h1 := withouts_len b (withoutP a x) (fun y hy => hb y (by simp [hy])) (without_norm hx ha).1
  have h2 := without_len hx ha
  rw [List.foldl_cons, List.length_cons]
  omega
theorem bound_le {l : List Sp} (h : l.length ≤ 4000) : boundP l = (0, l) := by unfold boundP; rw [if_neg (by omega)]
theorem join_ok {a b : List Sp} (ha : chkS a = 0) (hb : chkS b = 0) (hl : a.length + b.length ≤ 4000) : joinE a b = (0, tidyS (a ++ b)) ∧ chkS (tidyS (a ++ b)) = 0 ∧ (tidyS (a ++ b)).length ≤ a.length + b.length ∧ ∀ n s, Mem (tidyS (a ++ b)) n s ↔ Mem a n s ∨ Mem b n s := by
 have wa := (wf_of_chk ha).1
 have wb := (wf_of_chk hb).1
 have t := tidy_norm (l := a ++ b) (fun x hx => by
  rcases List.mem_append.1 hx with q | q
  ·
   exact wa.1.1 x q
  ·
   exact wb.1.1 x q)
 have tl := tidy_len (a ++ b)
 rw [List.length_append] at tl
 have tm : ∀ n s, Mem (tidyS (a ++ b)) n s ↔ Mem a n s ∨ Mem b n s := fun n s => (t.2 n s).trans mem_append
 have wt : WfC (tidyS (a ++ b)) := wf_sub t.1 (fun n s h => by
  rcases (tm n s).1 h with q | q
  ·
   exact wf_mem wa q
  ·
   exact wf_mem wb q)
 refine ⟨?_, chk_of_wf wt (by omega), tl, tm⟩
 unfold joinE
 rw [if_pos ⟨ha, hb⟩, bound_le (by omega)]
theorem within_len {a b : List Sp} (ha : chkS a = 0) (hb : chkS b = 0) : withinE a b = decide ((b.foldl withoutP a).length = 0) := by
 unfold withinE
 rw [decide_eq_true (show chkS a = 0 ∧ chkS b = 0 from ⟨ha, hb⟩), Bool.true_and]
 exact decide_eq_decide.2 List.length_eq_zero_iff.symm
theorem has_iff {xs : List Sp} (h : chkS xs = 0) (n s : Int) : hasE xs n s = decide (Mem xs n s) := by
 unfold hasE
 rw [decide_eq_true h, Bool.true_and]
theorem wouts_ok {a b : List Sp} (ha : WfC a) (hb : WfC b) (k : Nat) : WfC ((b.take k).foldl withoutP a) ∧ ((b.take k).foldl withoutP a).length ≤ a.length + b.length := by
 have hs : ∀ x ∈ b.take k, SpOk x := fun x hx => hb.1.1 x (List.mem_of_mem_take hx)
 have t := withouts_norm (b := b.take k) (a := a) hs ha.1
 have tl := withouts_len (b.take k) a hs ha.1
 rw [List.length_take] at tl
 exact ⟨wf_sub t.1 (fun n s h => wf_mem ha ((t.2 n s).1 h).1), by omega⟩
theorem wouts_succ {a b : List Sp} {k : Nat} {x : Sp} (h : b[k]? = some x) : (b.take (k + 1)).foldl withoutP a = withoutP ((b.take k).foldl withoutP a) x := by
 rw [List.take_add_one, h]
 simp
theorem wf_B3 {xs : List Sp} (h : WfC xs) : ∀ x ∈ xs, B3 x := fin_of h
end
section
open Go.RowKit Go.Lib
set_option linter.unusedSimpArgs false
set_option linter.unusedVariables false

theorem B3.ok {x : Sp} (h : B3 x) : SpOk x := by unfold B3 at h; unfold SpOk; omega
theorem join_sorted {l m : List Sp} (hp : m.Perm l) (hs : m.Pairwise Le) (hb : ∀ x ∈ l, SpOk x) : m.foldl pushP [] = tidyS l := by
 have a := fold_norm (zs := m) norm_nil (fun x hx => hb x (hp.mem_iff.1 hx)) hs (by simp)
 have b := tidy_norm hb
 exact norm_ext a.1 b.1 (fun n s => by
  rw [a.2, b.2, mem_same (l := m) (m := l) (fun y => hp.mem_iff)]
  exact ⟨fun q => q.elim (fun q => absurd q mem_nil) id, .inr⟩)
theorem sorted_last {ms : List Sp} (hs : ms.Pairwise Le) (hb : ∀ x ∈ ms, SpOk x) {k : Nat} {x : Sp} (hx : ms[k]? = some x) : ∀ y, ((ms.take k).foldl pushP []).getLast? = some y → Le y x := by
 have hk := (List.getElem?_eq_some_iff.1 hx).1
 refine fold_last _ [] x norm_nil (fun z hz => hb z (List.mem_of_mem_take hz)) (hs.sublist (List.take_sublist _ _)) (fun z hz => ?_) (by simp) (by simp)
 obtain ⟨q, hq, rfl⟩ := List.getElem_of_mem hz
 rw [List.length_take] at hq
 rw [List.getElem_take]
 have h1 := List.pairwise_iff_getElem.1 hs q k (by omega) hk (by omega)
 rw [List.getElem?_eq_getElem hk] at hx
 cases hx
 exact h1
end
section
open Go.RowKit

def Rdr (w : World) (b g : Nat) (xs : List UInt8) (p : Nat) (fe fa : Int) : Prop :=
 ∃ A c, w.heap[b]? = some (.cells #[.pointer (some ⟨b, 0, none⟩), .slice A xs.length c, .int .i64 p, .int .i64 fe, .int .i64 fa] 122 (0, 0)) ∧ OwnB w A c xs ∧ (A = none ∧ g = b ∨ A = some ⟨g, 0, none⟩)

theorem Rdr.chg {S : List Nat} {w w' : World} {b g : Nat} {xs : List UInt8} {p : Nat} {fe fa : Int} (h : Rdr w b g xs p fe fa) (hc : Chg S w w') (hb : b ∉ S) (hg : g ∉ S) : Rdr w' b g xs p fe fa := by
 obtain ⟨A, c, h1, h2, h3⟩ := h
 refine ⟨A, c, hc.at_ h1 hb, h2.chg hc ?_, h3⟩
 rintro a rfl
 rcases h3 with ⟨h3, _⟩ | h3
 ·
  cases h3
 ·
  cases h3; exact hg
theorem Rdr.lt {w : World} {b g : Nat} {xs : List UInt8} {p : Nat} {fe fa : Int} (h : Rdr w b g xs p fe fa) : b < w.heap.size ∧ g < w.heap.size := by
 obtain ⟨A, c, h1, h2, h3⟩ := h
 have hb := lt_of_heap h1
 rcases h3 with ⟨_, rfl⟩ | rfl
 ·
  exact ⟨hb, hb⟩
 ·
  rcases h2.form with ⟨h, _⟩ | ⟨g', cur, h, h4, _⟩
  ·
   cases h
  ·
   cases h; exact ⟨hb, lt_of_heap h4⟩

theorem Rdr.drewN {w : World} {b g : Nat} {xs : List UInt8} {p : Nat} {fe fa : Int} (h : Rdr w b g xs p fe fa) (n : Nat) : Rdr (w.drewN n) b g xs p fe fa := h.chg ((Chg.refl [] w).drewN n) (by simp) (by simp)
end
section
open Go.RowKit

def val (l : List UInt8) : Nat := l.foldl (fun n x => n * 256 + x.toNat) 0

theorem OwnB.at_ {w : World} {A : Option Addr} {c g : Nat} {xs : List UInt8} (h : OwnB w A c xs) {b p : Nat} (h3 : A = none ∧ g = b ∨ A = some ⟨g, 0, none⟩) {x : UInt8} (hx : xs[p]? = some x) : A = some ⟨g, 0, none⟩ ∧ w.cell? ⟨g, p, none⟩ = some (.int .u8 (x.toNat : Int)) := by
 obtain ⟨a, e, hc⟩ := h.reads.cells p x hx
 rcases h3 with ⟨h3, _⟩ | h3
 ·
  rw [h3] at e; cases e
 ·
  rw [h3] at e; cases e
  rw [add_zero_lit] at hc
  exact ⟨h3, hc⟩
end
section
open Go.RowKit
end
section
open Go.RowKit
end
section
open Go.RowKit

theorem Rdr.place {w : World} {b g : Nat} {xs : List UInt8} {p q : Nat} {fe fa : Int} (h : Rdr w b g xs p fe fa) : Rdr (w.setCell ⟨b, 2, none⟩ (.int .i64 q)) b g xs q fe fa ∧ Chg [b] w (w.setCell ⟨b, 2, none⟩ (.int .i64 q)) := by
 obtain ⟨A, c, h1, h2, h3⟩ := h
 have hne := h2.ne h1 (by decide)
 have q1 := heap_setCell_same w b 2 _ _ (.int .i64 q) h1
 refine ⟨⟨A, c, by simpa using q1, h2.keep fun g o eA ho => ?_, h3⟩, (Chg.refl _ _).setCell (by simp) _⟩
 rw [Below.heap_setCell _ _ _ _ (hne _ eA)]; exact ho
end
section
open Go.RowKit
end
section
open Go.RowKit
end
section
open Go.RowKit Go.Lib
set_option linter.unusedSimpArgs false
set_option linter.unusedVariables false

structure EvT where
 n : Int
 s : Int
 p : ByteArray
 k : Int
 m : Int
 A : Option Addr
 l : Nat
 c : Nat
 B : Option Addr
 bl : Nat
 bc : Nat
def evTy : RowTy EvT where
 enc := fun x => [.int .i64 x.n, .int .i64 x.s, .string x.p, .int .i64 x.k, .int .i64 x.m, .slice x.A x.l x.c, .slice x.B x.bl x.bc]
 k := 7
 T := 29
 TS := 31
 z := ⟨0, 0, ⟨#[]⟩, 0, 0, none, 0, 0, none, 0, 0⟩
 zv := .agg #[.int .i64 0, .int .i64 0, .string ⟨#[]⟩, .int .i64 0, .int .i64 0, .slice none 0 0, .slice none 0 0]
 bytes := 96
 klen := fun _ => rfl
 one := by intro x v hv; simp at hv; rcases hv with rfl | rfl | rfl | rfl | rfl | rfl | rfl <;> rfl
 zc := rfl
 kpos := by decide
 bpos := by decide
 under := by kernel_rfl
 info := by kernel_rfl
structure EvP where
 n : Int
 s : Int
 p : List UInt8
 k : Int
 m : Int
 b : List UInt8
 q : List (Int × Int × Int)
structure EvR (w : World) (x : EvT) (e : EvP) : Prop where
 n : x.n = e.n
 s : x.s = e.s
 p : x.p = strOf e.p
 k : x.k = e.k
 m : x.m = e.m
 l : x.l = e.b.length
 bl : x.bl = e.q.length
 A : Bs w x.A x.l e.b
 B : RdK spanTy w x.B x.bl e.q
def FitS (w : World) (A : Option Addr) (n c : Nat) : Prop := n ≤ c ∧ c ≤ maxLen ∧ ∀ a, A = some a → a.block < w.heap.size
structure EvF (w : World) (x : EvT) : Prop where
 A : FitS w x.A x.l x.c
 B : FitS w x.B x.bl x.bc
theorem FitS.chg {S : List Nat} {w w' : World} {A : Option Addr} {n c : Nat} (h : FitS w A n c) (hc : Chg S w w') : FitS w' A n c := ⟨h.1, h.2.1, fun a ha => Nat.lt_of_lt_of_le (h.2.2 a ha) hc.size⟩
theorem EvF.chg {S : List Nat} {w w' : World} {x : EvT} (h : EvF w x) (hc : Chg S w w') : EvF w' x := ⟨h.A.chg hc, h.B.chg hc⟩
theorem EvR.chg {w w' : World} {x : EvT} {e : EvP} (h : EvR w x e) (hc : Chg [] w w') : EvR w' x e := ⟨h.n, h.s, h.p, h.k, h.m, h.l, h.bl, h.A.chg hc (by simp), h.B.chg hc (by simp)⟩
theorem evCells {w : World} {g o n j : Nat} {xs : List EvT} (h : RdK evTy w (some ⟨g, o, none⟩) n xs) {x : EvT} (hx : xs[j]? = some x) : w.cell? ⟨g, o + j * 7, none⟩ = some (.int .i64 x.n) ∧ w.cell? ⟨g, o + j * 7 + 1, none⟩ = some (.int .i64 x.s) ∧ w.cell? ⟨g, o + j * 7 + 2, none⟩ = some (.string x.p) ∧ w.cell? ⟨g, o + j * 7 + 3, none⟩ = some (.int .i64 x.k) ∧ w.cell? ⟨g, o + j * 7 + 4, none⟩ = some (.int .i64 x.m) ∧ w.cell? ⟨g, o + j * 7 + 5, none⟩ = some (.slice x.A x.l x.c) ∧ w.cell? ⟨g, o + j * 7 + 6, none⟩ = some (.slice x.B x.bl x.bc) :=
 ⟨h.at_ j 0 x _ hx rfl, h.at_ j 1 x _ hx rfl, h.at_ j 2 x _ hx rfl, h.at_ j 3 x _ hx rfl, h.at_ j 4 x _ hx rfl, h.at_ j 5 x _ hx rfl, h.at_ j 6 x _ hx rfl⟩
end
section
open Go.RowKit

def cutA : List UInt8 → List UInt8 → List (List UInt8)
 | acc, [] => [acc]
 | acc, b :: l => if b = 47 then acc :: cutA [] l else cutA (acc ++ [b]) l
def cutL (l : List UInt8) : List (List UInt8) := cutA [] l
theorem cutA_ne : ∀ acc l, cutA acc l ≠ []
 | acc, [] => by simp [cutA]
 | acc, b :: l => by
  unfold cutA
  split
  ·
   simp
  ·
   exact cutA_ne _ l
theorem cutA_no : ∀ (l acc : List UInt8), 47 ∉ l → cutA acc l = [acc ++ l]
 | [], acc, _ => by simp [cutA]
 | b :: l, acc, h => by
  simp only [List.mem_cons, not_or] at h
  rw [cutA, if_neg (fun e => h.1 e.symm), cutA_no l _ h.2, List.append_assoc]
  rfl
theorem cutA_at : ∀ (a acc b : List UInt8), 47 ∉ a → cutA acc (a ++ 47 :: b) = (acc ++ a) :: cutA [] b
 | [], acc, b, _ => by simp [cutA]
 | x :: a, acc, b, h => by
  simp only [List.mem_cons, not_or] at h
  rw [List.cons_append, cutA, if_neg (fun e => h.1 e.symm), cutA_at a _ b h.2, List.append_assoc]
  rfl
theorem cutA_len (l : List UInt8) : ∀ acc, (cutA acc l).length ≤ l.length + 1 := by
 induction l with
 | nil => intro acc; simp [cutA]
 | cons b l ih =>
  intro acc
  unfold cutA
  split
  ·
   have := ih []; simp; omega
  ·
   have := ih (acc ++ [b]); simp; omega

def okB (b : UInt8) : Bool := (97 ≤ b.toNat && b.toNat ≤ 122) || (48 ≤ b.toNat && b.toNat ≤ 57) || b == 46 || b == 95 || b == 45
def partL (most : Nat) (p : List UInt8) : Bool := p.all okB && decide (1 ≤ p.length) && decide (p.length ≤ most) && p != [46] && p != [46, 46]
def checkL (parts most : Nat) (l : List UInt8) : Bool := decide ((cutL l).length ≤ parts) && (cutL l).all (partL most)
def foreignR (c : Nat) : Bool := !((97 ≤ c && c ≤ 122) || (48 ≤ c && c ≤ 57) || c == 46 || c == 95 || c == 45)
theorem foreign_byte (b : UInt8) : foreignR b.toNat = !okB b := by
 have e : ∀ k : UInt8, (b.toNat == k.toNat) = (b == k) := fun k => by
  rw [Bool.eq_iff_iff, beq_iff_eq, beq_iff_eq]
  exact ⟨fun h => UInt8.toNat_inj.1 h, fun h => by rw [h]⟩
 unfold foreignR okB
 have e1 := e 46
 have e2 := e 95
 have e3 := e 45
 simp only [show (46 : UInt8).toNat = 46 from rfl, show (95 : UInt8).toNat = 95 from rfl, show (45 : UInt8).toNat = 45 from rfl] at e1 e2 e3
 rw [e1, e2, e3]
theorem foreign_ge {c : Nat} (h : 128 ≤ c) : foreignR c = true := by
 simp [foreignR]
 omega
theorem decodeN_ge (n b0 b1 b2 b3 : Nat) (h : 128 ≤ b0) : 128 ≤ (Lib.decodeN n b0 b1 b2 b3).1 := by
 unfold Lib.decodeN
 repeat' split
 all_goals first | omega | (simp only; omega)
theorem get_at (s : ByteArray) (i : Nat) (b : UInt8) (h : s.data.toList[i]? = some b) : s.get! i = b := by
 have hi : i < s.data.size := by
  have := (List.getElem?_eq_some_iff.1 h).1
  simpa using this
 have : s.data[i]? = some b := by rwa [Array.getElem?_toList] at h
 show s.data[i]! = b
 rw [getElem!_pos s.data i hi]
 exact (Array.getElem?_eq_some_iff.1 this).2
theorem foreign_at (s : ByteArray) (i : Nat) (b : UInt8) (h : s.data.toList[i]? = some b) : foreignR (Utf8.decode s i).1 = !okB b ∧ (okB b = true → (Utf8.decode s i).2 = 1) := by
 rw [Lib.decode_at, get_at s i b h]
 by_cases hb : b.toNat < 128
 ·
  have e : ∀ n x y z, Lib.decodeN n b.toNat x y z = (b.toNat, 1) := fun n x y z => by unfold Lib.decodeN; rw [if_pos hb]
  rw [e]
  exact ⟨foreign_byte b, fun _ => rfl⟩
 ·
  have hb : 128 ≤ b.toNat := by omega
  have ho : okB b = false := by
   have := foreign_byte b
   rw [foreign_ge hb] at this
   simpa using this.symm
  rw [ho]
  exact ⟨foreign_ge (decodeN_ge _ _ _ _ _ hb), fun h => by cases h⟩
end
section
open Go.RowKit
def textTy : RowTy (List UInt8) where
 enc := fun x => [.string (strOf x)]
 k := 1
 T := 9
 TS := 115
 z := []
 zv := .string ⟨#[]⟩
 bytes := 16
 klen := fun _ => rfl
 one := by intro x v hv; simp at hv; rcases hv with rfl <;> rfl
 zc := rfl
 kpos := by decide
 bpos := by decide
 under := by kernel_rfl
 info := by kernel_rfl
theorem textCells {w : World} {g o n j : Nat} {xs : List (List UInt8)} (h : RdK textTy w (some ⟨g, o, none⟩) n xs) {x : List UInt8} (hx : xs[j]? = some x) : w.cell? ⟨g, o + j, none⟩ = some (.string (strOf x)) := by
 have := h.at_ j 0 x _ hx rfl
 rwa [show textTy.k = 1 from rfl, Nat.mul_one, Nat.add_zero] at this
theorem strOf_of (s : ByteArray) : strOf s.data.toList = s := by
 unfold strOf
 rw [Array.toArray_toList]
theorem strOf_inj {a b : List UInt8} (h : strOf a = strOf b) : a = b := by
 have := congrArg (fun s : ByteArray => s.data.toList) h
 simpa [strOf] using this
theorem strOf_ext (l : List UInt8) (a b : Nat) : (strOf l).extract a b = strOf ((l.drop a).take (b - a)) := by
 apply ByteArray.ext
 apply Array.toList_inj.1
 rw [show ((strOf l).extract a b).data = (strOf l).data.extract a b from ByteArray.data_extract]
 simp [strOf, List.extract_eq_take_drop]
end
section
open Go.RowKit
end
end Go.Proofs.YtgbidlhgmeglmaaGreatDoor
