/- clash.With. An event made behind some: purely. A node of which a past has nothing. spans.Join. The program's Past. Closed's func, and the search by it. event.Closed. A message as an argument. Rows of messages; as arguments. Rows of bools; as arguments. -/
import Derived.Test.YtfdaclifapfmdaaGreatDoorZcaf
import Derived.Test.YtfdaclifapfmdaaGreatDoorZcbf
import Derived.Test.YtfdaclifapfmdaaGreatDoorZcam
import Derived.Test.YtfdaclifapfmdaaGreatDoorZcag
import Derived.Deep.Cut
import Derived.Test.YtfdaclifapfmdaaGreatDoorZcab
import Derived.Test.YtfdaclifapfmdaaGreatDoorZcbc
import Derived.Test.YtfdaclifapfmdaaGreatDoorZcaa
import Derived.Test.YtfdaclifapfmdaaGreatDoorShelf3
import Derived.Test.YtfdaclifapfmdaaGreatDoorZcba
import Derived.Test.YtfdaclifapfmdaaGreatDoorZcbb
import Derived.Deep.RegionHeld3
import Derived.BigQuiet
import Derived.RegionTactic
import Derived.Test.YtfdaclifapfmdaaGreatDoorShelf4
import Derived.Test.YtfdaclifapfmdaaGreatDoorZcad
namespace Go.Proofs.YtfdaclifapfmdaaGreatDoor
section
open Go.RowKit Go.Lib
set_option linter.unusedSimpArgs false
set_option linter.unusedVariables false


/-- The dots of those that clash with one. -/
def withL (es : List EvP) (f : EvP) : List (Int × Int) := (es.filter (fun x => clashP x f)).map (fun x => (x.n, x.s))
theorem withL_take {es : List EvP} {f e : EvP} {k : Nat} (h : es[k]? = some e) : withL (es.take (k + 1)) f = withL (es.take k) f ++ (if clashP e f = true then [(e.n, e.s)] else []) := by
  unfold withL
  rw [List.take_add_one, h]
  rw [List.filter_append, List.map_append]
  congr 1
  rcases q : clashP e f with _ | _ <;> simp [q]
theorem withL_len (es : List EvP) (f : EvP) : (withL es f).length ≤ es.length := by unfold withL; rw [List.length_map]; exact List.length_filter_le _ _
theorem rd_oneD {w : World} {g : Nat} {x : Int × Int} (h : w.heap[g]? = some (.cells #[.int .i64 x.1, .int .i64 x.2] 23)) : RdK dotTy w (some ⟨g, 0, none⟩) 1 [x] :=
  ⟨rfl, fun j v hj => ⟨_, rfl, by rw [add_zero_lit, cell_of h j]; simpa [RowTy.flat, dotTy] using hj⟩⟩

set_option maxRecDepth 100000 in
set_option maxHeartbeats 16000000 in
theorem clwith_any (w : World) (A : Option Addr) (c : Nat) (xs : List EvT) (es : List EvP) (y : EvT) (f : EvP) (h : RdK evTy w A xs.length xs) (hx : EvsR w xs es) (hy : EvR w y f) (hn : xs.length ≤ 1000) (hs : ∀ e ∈ es, EvSm e) (ht : EvSm f) :
    Calls Tryz.prog 17 #[.slice A xs.length c, .agg #[.int .i64 y.n, .int .i64 y.s, .string y.p, .int .i64 y.k, .int .i64 y.m, .slice y.A y.l y.c, .slice y.B y.bl y.bc]] w fun r w' => ∃ A' c', r = .returned (.slice A' (sortD (withL es f)).length c') ∧ OwnK dotTy w' A' c' (sortD (withL es f)) ∧ (∀ a, A' = some a → w.heap.size ≤ a.block) ∧ Chg [] w w' := by
  have HA := Lib.hid h
  have HX := Lib.hid hx
  have HN := Lib.hid hn
  have HS := Lib.hid hs
  have HT := Lib.hid ht
  obtain ⟨w0, hw0, c0, b0⟩ := news1 w (.cells #[.int .i64 y.n, .int .i64 y.s, .string y.p, .int .i64 y.k, .int .i64 y.m, .slice y.A y.l y.c, .slice y.B y.bl y.bc] 29)
  have W0 := Lib.hid hw0
  have C := Lib.hid c0
  have HY := Lib.hid (hy.chg c0)
  have B0 := Lib.hid b0
  clear hw0 c0 b0 hy h hx hn hs ht
  go_enter Tryz.func17, Tryz.ntmps17
  go_upto_region 1 with fail
  rw [← W0.out]
  generalize w.heap.size = g0 at *
  clear W0
  go_wp2
  go_loopw [5, 10] (fun o i wr => ∃ (k : Nat) (A2 : Option Addr) (c2 : Nat), k ≤ xs.length ∧ i = .int .i64 k ∧ o = .slice A2 (withL (es.take k) f).length c2 ∧ Hid (OwnK dotTy wr A2 c2 (withL (es.take k) f)) ∧ Hid (∀ a, A2 = some a → w0.heap.size ≤ a.block) ∧ Hid (Chg [] w0 wr)) (fun _ i _ => xs.length - (RowKit.intOf i).toNat)
  case atStart => exact ⟨0, none, 0, Nat.zero_le _, rfl, rfl, OwnK.none_ _, Lib.hid (by simp), Chg.refl _ _⟩
  case round =>
    obtain ⟨k, A2, c2, hk, rfl, rfl, PO, PN, PC⟩ := hrel
    have j0 : (0 : Int) ≤ (k : Int) := by omega
    by_cases hlt : k < xs.length
    · have j1 : (k : Int) < (xs.length : Int) := by omega
      have j3 : IntKind.i64.wrap ((k : Int) + 1) = (k : Int) + 1 := IntWalk.i64_in _ (by have := HN.out; omega)
      obtain ⟨g3, o3, eA, _⟩ := HA.out.line (by omega)
      have EA := Lib.hid eA
      rw [eA]
      obtain ⟨x, e, ex, ee, rx⟩ := HX.out.at_ hlt
      obtain ⟨z0, z1, z2, z3, z4, z5, z6⟩ := evCells ((eA ▸ HA.out).chg (C.out.trans PC.out) (by simp)) ex
      have RX := Lib.hid rx
      have ES := Lib.hid (HS.out e (List.mem_of_getElem? ee))
      have EX := Lib.hid ex
      have WT := Lib.hid (withL_take (f := f) ee)
      have WL := Lib.hid (Nat.le_trans (withL_len (es.take k) f) (List.length_take_le k es))
      clear eA ex ee rx
      generalize withL (es.take k) f = al at *
      obtain ⟨w5, hw5, c5, b5⟩ := news1 wr (.cells #[.int .i64 x.n, .int .i64 x.s, .string x.p, .int .i64 x.k, .int .i64 x.m, .slice x.A x.l x.c, .slice x.B x.bl x.bc] 29)
      have W5 := Lib.hid hw5
      have B5 := Lib.hid b5
      replace PO := Lib.hid (PO.out.chg c5 (by simp))
      replace PC := Lib.hid (PC.out.trans c5)
      clear hw5 c5 b5
      go_upto_region 5 with fail
      rw [← W5.out]
      generalize wr.heap.size = g6 at *
      clear W5 z0 z1 z2 z3 z4 z5 z6
      have BF := Lib.hid (PC.out.at_ B0.out (by simp))
      have z0 := cell_of B5.out 0
      have z1 := cell_of B5.out 1
      have z2 := cell_of B5.out 2
      have z3 := cell_of B5.out 3
      have z4 := cell_of B5.out 4
      have z5 := cell_of B5.out 5
      have z6 := cell_of B5.out 6
      have y0 := cell_of BF.out 0
      have y1 := cell_of BF.out 1
      have y2 := cell_of BF.out 2
      have y3 := cell_of BF.out 3
      have y4 := cell_of BF.out 4
      have y5 := cell_of BF.out 5
      have y6 := cell_of BF.out 6
      simp only [List.getElem?_toArray, List.getElem?_cons_succ, List.getElem?_cons_zero] at z0 z1 z2 z3 z4 z5 z6 y0 y1 y2 y3 y4 y5 y6
      go_wp2_with fail
      clear z0 z1 z2 z3 z4 z5 z6 y0 y1 y2 y3 y4 y5 y6
      refine (clClash_any w5 x y e f (RX.out.chg (C.out.trans PC.out)) (HY.out.chg PC.out) ES.out HT.out).mono ?_
      rintro r w6 ⟨rfl, hc⟩
      replace PO := Lib.hid (PO.out.chg hc (by simp))
      replace B5 := Lib.hid (hc.at_ B5.out (by simp))
      replace PC := Lib.hid (PC.out.trans hc)
      clear hc
      rcases hcl : clashP e f with _ | _
      · have WE : Hid (withL (es.take (k + 1)) f = al) := Lib.hid (by rw [WT.out, hcl]; simp)
        clear hcl
        go_wp2
        go_round
        case rel => exact ⟨k + 1, A2, c2, by omega, by go_num, by rw [WE.out], by rw [WE.out]; exact PO, PN, PC⟩
        case measure => simp [RowKit.intOf]; omega
      have WE : Hid (withL (es.take (k + 1)) f = al ++ [(x.n, x.s)]) := Lib.hid (by rw [WT.out, hcl, RX.out.n, RX.out.s]; simp)
      clear hcl
      obtain ⟨w7, hw, cn, bn⟩ := news1 w6 (.cells #[.int .i64 x.n, .int .i64 x.s] 23)
      have W7 := Lib.hid hw
      have XR : Hid (RdK dotTy w7 (some ⟨w6.heap.size, 0, none⟩) 1 [(x.n, x.s)]) := Lib.hid (rd_oneD (x := (x.n, x.s)) bn)
      replace PO := Lib.hid (PO.out.chg cn (by simp))
      have N4 : Hid ((al.length + 1) * 400 ≤ 140737488355327) := Lib.hid (by have := WL.out; have := HN.out; omega)
      have z0 := cell_of B5.out 0
      have z1 := cell_of B5.out 1
      have z2 := cell_of B5.out 2
      have z3 := cell_of B5.out 3
      have z4 := cell_of B5.out 4
      have z5 := cell_of B5.out 5
      have z6 := cell_of B5.out 6
      simp only [List.getElem?_toArray, List.getElem?_cons_succ, List.getElem?_cons_zero] at z0 z1 z2 z3 z4 z5 z6
      replace PC := Lib.hid (PC.out.trans cn)
      clear hw cn bn
      go_wp2_with (first | (at_builtin; rw [← W7.out]; refine wpList_appK (R := dotTy) rfl (.tmp 17) (.tmp 20) rfl rfl (A := A2) (n := al.length) (m := 1) (c := c2) (d := 1) (xs := al) (ys := [(x.n, x.s)]) PO.out rfl rfl XR.out N4.out ?_; intro A9 c9 w9 o9 g9 e9))
      have O9 := Lib.hid o9
      have F9 := Lib.hid (fresh_appE PN.out PC.out g9 e9)
      have NL : Hid (al.length + 1 = (al ++ [(x.n, x.s)]).length) := Lib.hid (by simp)
      clear o9 g9 e9 z0 z1 z2 z3 z4 z5 z6
      rw [NL.out]
      go_wp2
      go_round
      case rel => exact ⟨k + 1, A9, c9, by omega, by go_num, by rw [WE.out], by rw [WE.out]; exact O9, Lib.hid F9.out.1, Lib.hid F9.out.2⟩
      case measure => simp [RowKit.intOf]; omega
    · obtain rfl : k = xs.length := by omega
      have j1 : ¬ (xs.length : Int) < (xs.length : Int) := by omega
      have ET : es.take xs.length = es := by rw [HX.out.1]; exact List.take_length
      rw [ET] at PO ⊢
      clear ET
      have WL := Lib.hid (Nat.le_trans (withL_len es f) (Nat.le_of_eq HX.out.1.symm))
      generalize hal : withL es f = al at *
      have AE := Lib.hid hal
      clear hal
      go_wp2_with fail
      refine (dsort_any wr A2 al.length c2 al PO.out.reads (by have := WL.out; have := HN.out; omega)).mono ?_
      rintro r w2 ⟨A3, c3, rfl, o3, n3, hc⟩
      have O3 := Lib.hid o3
      have D := Lib.hid ((C.out.trans PC.out).trans hc)
      clear o3 hc PO PN
      go_wp2
      go_ret
      rw [AE.out]
      exact ⟨A3, c3, rfl, O3.out, (fun a ha => Nat.le_trans (C.out.trans PC.out).size (n3 a ha)), D.out⟩
end
section
open Go.RowKit Go.Lib
set_option linter.unusedSimpArgs false
set_option linter.unusedVariables false


theorem cut_sum : ∀ (l acc : List UInt8), ((cutA acc l).map (fun x => x.length + 1)).sum = acc.length + l.length + 1
  | [], acc => by simp [cutA]
  | b :: l, acc => by
    unfold cutA
    split
    · rw [List.map_cons, List.sum_cons, cut_sum l []]
      simp only [List.length_cons, List.length_nil]
      omega
    · rw [cut_sum l (acc ++ [b])]
      simp only [List.length_append, List.length_cons, List.length_nil]
      omega
theorem parts_sum : ∀ (xs : List (List UInt8)), xs.all (partL 12) = true → (xs.map (fun x => x.length + 1)).sum ≤ 13 * xs.length
  | [], _ => by simp
  | x :: xs, h => by
    rw [List.all_cons, Bool.and_eq_true] at h
    have := parts_sum xs h.2
    have q := h.1
    unfold partL at q
    simp only [Bool.and_eq_true, decide_eq_true_eq] at q
    rw [List.map_cons, List.sum_cons, List.length_cons]
    have := q.1.1.2
    omega
theorem path_small {l : List UInt8} (h : checkL 6 12 l = true) : l.length ≤ 100 := by
  unfold checkL at h
  rw [Bool.and_eq_true, decide_eq_true_iff] at h
  have a := cut_sum l []
  have b := parts_sum _ h.2
  have c := h.1
  unfold cutL at b c
  simp only [List.length_nil] at a
  omega
theorem alls_mem {es fs : List EvP} (hs : ∀ x ∈ fs, x ∈ es) {n s : Int} (h : Mem (allsE fs) n s) : Mem (allsE es) n s := by
  obtain ⟨x, hx, hi⟩ := h
  refine ⟨x, ?_, hi⟩
  unfold allsE at hx ⊢
  rw [List.mem_flatMap] at hx ⊢
  obtain ⟨e, he, hx⟩ := hx
  exact ⟨e, hs e he, hx⟩
theorem okAll_sub {es fs : List EvP} (h : okAll es = true) (hs : ∀ x ∈ fs, x ∈ es) : okAll fs = true := okAll_iff.2 (fun e he => okAll_iff.1 h e (hs e he))
theorem past_sub {es fs : List EvP} (h : okAll es = true) (hs : ∀ x ∈ fs, x ∈ es) {node : Int} (hn : ∀ x ∈ tidyS (allsE es), x.1 ≠ node) : ∀ x ∈ tidyS (allsE fs), x.1 ≠ node := fun x hx e => by
  have hf := okAll_sub h hs
  have ok := (tidy_norm (fun x hx => (alls_B3 hf x hx).ok)).1.1 x hx
  have m : Mem (tidyS (allsE fs)) x.1 x.2.1 := ⟨x, hx, rfl, Int.le_refl _, ok⟩
  obtain ⟨y, hy, hi⟩ := (past_mem h _ _).2 (alls_mem hs ((past_mem hf _ _).1 m))
  exact hn y hy (hi.1.trans e)
theorem alls_short {fs : List EvP} (h : ∀ e ∈ fs, e.q.length ≤ 100) (hl : fs.length ≤ 15) : (allsE fs).length ≤ 4000 := by
  have a := alls_bound 100 fs h
  omega
theorem kind_ok (k : Int) : chkE (1 + k % 3) 0 0 = 0 := by
  have a := Int.emod_nonneg k (show (3 : Int) ≠ 0 by decide)
  have b := Int.emod_lt_of_pos k (show (0 : Int) < 3 by decide)
  have c : k % 3 = 0 ∨ k % 3 = 1 ∨ k % 3 = 2 := by omega
  rcases c with c | c | c <;> rw [c] <;> decide
end
section
open Go.RowKit Go.Lib
set_option linter.unusedSimpArgs false
set_option linter.unusedVariables false


set_option maxRecDepth 100000 in
set_option maxHeartbeats 8000000 in
theorem l11free_any (w : World) (A : Option Addr) (c : Nat) (xs : List (Int × Int × Int)) (h : RdK spanTy w A xs.length xs) (hn : xs.length ≤ 100000) :
    Calls Tryz.prog 36 #[.slice A xs.length c] w fun r w' => ∃ m : Int, r = .returned (.int .i64 m) ∧ (m = 0 ∨ 1 ≤ m ∧ m ≤ 200 ∧ ∀ x ∈ xs, x.1 ≠ m) ∧ Chg [] w w' := by
  have HA := Lib.hid h
  have HN := Lib.hid hn
  clear h hn
  go_enter Tryz.func36, Tryz.ntmps36
  go_wp2
  go_loopw [3] (fun v wr => ∃ (k : Nat), 1 ≤ k ∧ k ≤ 201 ∧ v = .int .i64 k ∧ Hid (Chg [] w wr)) (fun v _ => 201 - (RowKit.intOf v).toNat)
  case atStart => exact ⟨1, Nat.le_refl _, by omega, rfl, Chg.refl _ _⟩
  case round =>
    obtain ⟨k, hk1, hk2, rfl, PC⟩ := hrel
    have k0 : (0 : Int) ≤ (k : Int) := by omega
    have k3 : IntKind.i64.wrap ((k : Int) + 1) = (k : Int) + 1 := IntWalk.i64_in _ (by omega)
    by_cases hkl : k ≤ 200
    rotate_left
    · have k1 : ¬ (k : Int) ≤ 200 := by omega
      go_wp2
      go_ret
      exact ⟨0, rfl, .inl rfl, PC.out⟩
    have k1 : (k : Int) ≤ 200 := by omega
    go_wp2
    go_loopw [4, 5] (fun u i wr => ∃ (j : Nat) (b : Bool), j ≤ xs.length ∧ i = .int .i64 j ∧ u = .bool b ∧ Hid (b = false → ∀ (p : Nat) (x : Int × Int × Int), p < j → xs[p]? = some x → x.1 ≠ (k : Int)) ∧ Hid (Chg [] w wr)) (fun _ i _ => xs.length - (RowKit.intOf i).toNat)
    case atStart => exact ⟨0, false, Nat.zero_le _, rfl, rfl, Lib.hid (fun _ p x hp => absurd hp (Nat.not_lt_zero _)), PC⟩
    case round =>
      clear PC
      obtain ⟨j, b, hj, rfl, rfl, PB, PC⟩ := hrel
      have j0 : (0 : Int) ≤ (j : Int) := by omega
      by_cases hjl : j < xs.length
      rotate_left
      · obtain rfl : j = xs.length := by omega
        have j1 : ¬ (xs.length : Int) < (xs.length : Int) := by omega
        rcases b with _ | _
        · have PF : Hid (∀ x ∈ xs, x.1 ≠ (k : Int)) := Lib.hid (fun x hx => by
            obtain ⟨p, hp⟩ := List.getElem?_of_mem hx
            exact PB.out rfl p x (List.getElem?_eq_some_iff.1 hp).1 hp)
          go_wp2
          go_ret
          exact ⟨k, rfl, .inr ⟨by omega, by omega, (by simpa using PF.out)⟩, PC.out⟩
        · go_wp2
          go_round
          case rel => exact ⟨k + 1, by omega, by omega, by go_num, PC⟩
          case measure => simp [RowKit.intOf]; omega
      have j1 : (j : Int) < (xs.length : Int) := by omega
      have j3 : IntKind.i64.wrap ((j : Int) + 1) = (j : Int) + 1 := IntWalk.i64_in _ (by have := HN.out; omega)
      rcases b with _ | _
      rotate_left
      · go_wp2
        go_round
        case rel => exact ⟨j + 1, true, by omega, by go_num, rfl, Lib.hid (fun h => by cases h), PC⟩
        case measure => simp [RowKit.intOf]; omega
      obtain ⟨g, o, eA, _⟩ := HA.out.line (by omega)
      have EA := Lib.hid eA
      rw [eA]
      have hx : xs[j]? = some xs[j] := List.getElem?_eq_getElem hjl
      obtain ⟨x, hxe⟩ : ∃ x, xs[j] = x := ⟨_, rfl⟩
      rw [hxe] at hx
      have z0 : wr.cell? ⟨g, o + j * 3, none⟩ = some (.int .i64 x.1) := ((eA ▸ HA.out).chg PC.out (by simp)).at_ j 0 x _ hx rfl
      have HX := Lib.hid hx
      clear eA hx hxe
      by_cases hq : x.1 = (k : Int)
      · have q1 : ((x.1 == (k : Int)) : Bool) = true := by rw [hq]; exact beq_self_eq_true _
        clear hq
        go_wp2
        go_round
        case rel => exact ⟨j + 1, true, by omega, by go_num, rfl, Lib.hid (fun h => by cases h), PC⟩
        case measure => simp [RowKit.intOf]; omega
      · have q1 : ((x.1 == (k : Int)) : Bool) = false := beq_eq_false_iff_ne.2 hq
        have PD : Hid (∀ (p : Nat) (y : Int × Int × Int), p < j + 1 → xs[p]? = some y → y.1 ≠ (k : Int)) := Lib.hid (fun p y hp hy => by
          by_cases e : p = j
          · subst e
            rw [HX.out] at hy
            cases hy
            exact hq
          · exact PB.out rfl p y (by omega) hy)
        go_wp2
        go_round
        case rel => exact ⟨j + 1, false, by omega, by go_num, rfl, Lib.hid (fun _ => PD.out), PC⟩
        case measure => simp [RowKit.intOf]; omega
end
section
open Go.RowKit Go.Lib
set_option linter.unusedSimpArgs false
set_option linter.unusedVariables false


def cmpSS (x y : Sp) : Int := cmpD x.1 x.2.1 y.1 y.2.1
theorem ltSS (x y : Sp) : ltOf cmpSS x y = decide (LtD x.1 x.2.1 y.1 y.2.1) := by
  unfold ltOf cmpSS
  exact decide_eq_decide.2 cmpD_lt
theorem swoSS : Go.Sort.SWO (ltOf cmpSS) where
  irrefl x := by rw [ltSS]; simp [LtD]
  trans x y z h1 h2 := by
    rw [ltSS, decide_eq_true_eq] at *
    unfold LtD at *
    omega
  ntrans x y z h1 h2 := by
    rw [ltSS, decide_eq_false_iff_not] at *
    unfold LtD at *
    omega
set_option maxHeartbeats 1000000 in
theorem spcmp_says : CmpSays spanTy 116 cmpSS := fun w x y => by
  obtain ⟨n, f, t⟩ := x
  obtain ⟨m, g, u⟩ := y
  show Calls Tryz.prog 116 #[.agg #[.int .i64 n, .int .i64 f, .int .i64 t], .agg #[.int .i64 m, .int .i64 g, .int .i64 u]] w fun e w' => e = .returned (.int .i64 (cmpSS (n, f, t) (m, g, u))) ∧ Chg [] w w' ∧ w.drawn ≤ w'.drawn
  obtain ⟨w0, hw0, c0, b0, b1⟩ := news2 w (.cells #[.int .i64 n, .int .i64 f, .int .i64 t] 95) (.cells #[.int .i64 m, .int .i64 g, .int .i64 u] 95)
  have k0 := cell_of b0 0
  have k1 := cell_of b0 1
  have k3 := cell_of b1 0
  have k4 := cell_of b1 1
  simp only [List.getElem?_toArray, List.getElem?_cons_succ, List.getElem?_cons_zero] at k0 k1 k3 k4
  have g0 := lt_of_heap b0
  have g1 := lt_of_heap b1
  have W0 := Lib.hid hw0
  have GR : Hid (∀ o, Chg [] w (w0.alloc o).drew ∧ w.drawn ≤ (w0.alloc o).drew.drawn) := Lib.hid (fun o => ⟨(c0.alloc o).drew, by rw [hw0]; exact Nat.le_succ _⟩)
  clear hw0 c0 b0 b1
  unfold cmpSS cmpD
  generalize hr : or2 (cmpI n m) (cmpI f g) = R
  have HR := Lib.hid hr
  clear hr
  go_enter Tryz.func116, Tryz.ntmps116
  go_wp2
  rw [← W0.out]
  have n1 := World.new_ne w0 ⟨w.heap.size, 0, none⟩ k0
  have n2 := World.new_ne w0 ⟨w.heap.size + 1, 0, none⟩ k3
  generalize w.heap.size + 1 = s1 at *
  generalize w.heap.size = s0 at *
  go_region_held3 (fun w' => w'.cell? ⟨s0, 0, none⟩ = some (.int .i64 n) ∧ w'.cell? ⟨s0, 1, none⟩ = some (.int .i64 f) ∧ w'.cell? ⟨s1, 0, none⟩ = some (.int .i64 m) ∧ w'.cell? ⟨s1, 1, none⟩ = some (.int .i64 g)) (first | exact ⟨k0, k1, k3, k4⟩ | go_keep)
    ((first
      | (go_at_call 106; (with_reducible refine (cmpint_any _ _ _).mono ?_); rintro e w1 ⟨rfl, rfl⟩)
      | (go_at_call 57; refine (or2_any _ w0.heap.size (cmpI n m) (cmpI f g) (show (w0.alloc _).drew.heap[_]? = _ from heap_alloc_new w0 _)).mono ?_; rintro e w1 ⟨rfl, rfl⟩)))
  all_goals
    go_wp2
    go_ret
    exact ⟨by first | rfl | (rw [← HR.out]; rfl), GR.out _⟩
set_option maxRecDepth 100000 in
set_option maxHeartbeats 1000000 in
theorem cloneSpan_any (w : World) (A : Option Addr) (n c : Nat) (xs : List Sp) (h : RdK spanTy w A n xs) (hn : n * 400 ≤ 140737488355327) :
    Calls Tryz.prog 114 #[.slice A n c] w fun e w' => ∃ A' c', e = .returned (.slice A' n c') ∧ OwnK spanTy w' A' c' xs ∧ (∀ a, A' = some a → w.heap.size ≤ a.block) ∧ Chg [] w w' := by
  have heq := fun W => Lib.run_eql_slice_nil (P := Tryz.prog) W 27 95 A n c 0 0 Tryz.underlying27
  cases A with
  | none =>
    have hx := rdk_nil h
    subst hx
    have hl : n = 0 := h.len.symm
    subst hl
    clear h
    go_enter Tryz.func114, Tryz.ntmps114
    go_wp2
    go_ret
    exact ⟨none, 0, rfl, OwnK.none_ _, by simp, Chg.refl _ _⟩
  | some ad =>
    obtain ⟨w1, hw1, c1, b1⟩ := news1 w (.cells #[] 95)
    have W1 := Lib.hid hw1
    have HA := Lib.hid (h.chg c1 (by simp))
    have HO : Hid (OwnK spanTy w1 (some ⟨w.heap.size, 0, none⟩) 0 []) := Lib.hid (.of (full := []) b1 (Nat.le_refl _) (Nat.zero_le _) rfl rfl)
    have C1 := Lib.hid c1
    have HN : Hid ((0 + n) * 400 ≤ 140737488355327) := Lib.hid (by rw [Nat.zero_add]; exact hn)
    clear hw1 c1 b1 h hn
    go_enter Tryz.func114, Tryz.ntmps114
    go_wp2_with (at_builtin; rw [← W1.out]; refine wpList_appK rfl _ _ rfl rfl HO.out rfl rfl HA.out HN.out ?_; intro A2 c2 w2 u2 d2 e2)
    go_ret
    rw [Nat.zero_add] at *
    have hA2 : ∀ a, A2 = some a → w.heap.size ≤ a.block := by
      rintro a rfl
      rcases e2 with h | h
      · cases h; exact Nat.le_refl _
      · cases h; exact C1.out.size
    exact ⟨A2, c2, rfl, by simpa using u2, hA2, C1.out.grown d2 (fun k hk => by simp at hk; subst hk; exact .inr (Nat.le_refl _))⟩
set_option maxRecDepth 100000 in
set_option maxHeartbeats 16000000 in
theorem spjoin_any (w : World) (A : Option Addr) (c : Nat) (xs : List Sp) (h : RdK spanTy w A xs.length xs) (hn : xs.length ≤ 1000000000) (hb : ∀ x ∈ xs, B3 x) :
    Calls Tryz.prog 76 #[.slice A xs.length c] w fun e w' => ∃ A' c', e = .returned (.slice A' (tidyS xs).length c') ∧ OwnK spanTy w' A' c' (tidyS xs) ∧ (∀ a, A' = some a → w.heap.size ≤ a.block) ∧ Chg [] w w' := by

  have HX := Lib.hid h
  have HN := Lib.hid hn
  have HB := Lib.hid hb
  clear h hn hb
  go_enter Tryz.func76, Tryz.ntmps76
  go_wp2_with fail
  refine (cloneSpan_any w A xs.length c xs HX.out (by have := HN.out; omega)).mono ?_
  rintro e w1 ⟨A1, c1, rfl, o1, n1, h1⟩
  have O1 := Lib.hid o1
  have N1 := Lib.hid n1
  have C1 := Lib.hid h1
  clear o1 n1 h1
  go_wp2_with fail
  refine (sortp_any (R := spanTy) Tryz.llLaysF06 Tryz.isAgg95 Tryz.sizeOf95 cmpSS swoSS 116 (enters_of Tryz.func116 (by kernel_rfl) rfl) spcmp_says w1 A1 c1 xs O1.out (by have := HN.out; omega)).mono ?_
  rintro e w2 ⟨rfl, ms, hp, hs, o2, h2⟩
  have RO := Lib.hid o2
  replace C1 := Lib.hid (C1.out.trans' h2 fun i hi => .inr (blkOf_new N1.out i hi))
  have ML : ms.length = xs.length := hp.length_eq
  have MS : Hid (ms.Pairwise Le) := Lib.hid (hs.imp (fun {x y} q => by
    rw [ltSS, decide_eq_false_iff_not] at q
    unfold LtD at q
    unfold Le
    omega))
  have MB : Hid (∀ x ∈ ms, B3 x) := Lib.hid (fun x hx => HB.out x (hp.mem_iff.1 hx))
  have TS : Hid (ms.foldl pushP [] = tidyS xs) := Lib.hid (join_sorted hp MS.out (fun x hx => (HB.out x hx).ok))
  have LF : Hid (∀ (k : Nat) (x : Sp), ms[k]? = some x → ∀ y, ((ms.take k).foldl pushP []).getLast? = some y → Le y x) := Lib.hid (fun k x hx => sorted_last MS.out (fun z hz => (MB.out z hz).ok) hx)
  have MLN : Hid (ms.length ≤ 1000000000) := Lib.hid (by rw [ML]; exact HN.out)
  rw [← ML]
  clear hp hs o2 h2 O1 MS HX HB HN ML
  go_wp2
  go_loopw [4, 14] (fun v4 v14 wr => ∃ (k : Nat) (A2 : Option Addr) (c2 : Nat), k ≤ ms.length ∧ v14 = .int .i64 k ∧ v4 = .slice A2 ((ms.take k).foldl pushP []).length c2 ∧ Hid (OwnK spanTy wr A2 c2 ((ms.take k).foldl pushP [])) ∧ Hid (∀ a, A2 = some a → w2.heap.size ≤ a.block) ∧ Hid (Chg [] w2 wr)) (fun _ v14 _ => ms.length - (RowKit.intOf v14).toNat)
  case atStart => exact ⟨0, none, 0, Nat.zero_le _, rfl, rfl, OwnK.none_ _, Lib.hid (by simp), Chg.refl _ _⟩
  case round =>
    obtain ⟨k, A2, c2, hk, rfl, rfl, PO, PN, PC⟩ := hrel
    have j0 : (0 : Int) ≤ (k : Int) := by omega
    by_cases hlt : k < ms.length
    · have j1 : (k : Int) < (ms.length : Int) := by omega
      have j3 : IntKind.i64.wrap ((k : Int) + 1) = (k : Int) + 1 := IntWalk.i64_in _ (by have := MLN.out; omega)
      obtain ⟨x, hx⟩ : ∃ x, ms[k]? = some x := ⟨_, List.getElem?_eq_getElem hlt⟩
      obtain ⟨g3, o3, eA, _⟩ := RO.out.reads.line (by omega)
      have eo : o3 = 0 := by
        rcases RO.out.shape with ⟨h, _⟩ | ⟨g', h, _⟩
        · rw [h] at eA; cases eA
        · rw [h] at eA; cases eA; rfl
      subst eo
      subst eA
      have XB := MB.out x (List.mem_of_getElem? hx)
      unfold B3 at XB
      have LX := Lib.hid (LF.out k x hx)
      have FS : Hid ((ms.take (k + 1)).foldl pushP [] = pushP ((ms.take k).foldl pushP []) x) := Lib.hid (by rw [List.take_add_one, hx]; simp)
      have OB : Hid (∀ y ∈ (ms.take k).foldl pushP [], B3 y) := Lib.hid ((fold_props (ms.take k) [] (by simp) (fun y hy => MB.out y (List.mem_of_mem_take hy))).1)
      have OL : ((ms.take k).foldl pushP []).length ≤ k := by have := (fold_props (ms.take k) [] (by simp) (fun y hy => MB.out y (List.mem_of_mem_take hy))).2; rw [List.length_take] at this; simp at this; omega
      obtain ⟨q0, q1, q2⟩ := spanCells (RO.out.reads.chg PC.out (by simp)) hx
      simp only [Nat.zero_add] at q0 q1 q2
      generalize (ms.take k).foldl pushP [] = out at *
      have POL : Hid (out.length ≤ 1000000000) := Lib.hid (by have := MLN.out; omega)
      have LO0 := Lib.hid (PO.out.lt_)
      obtain ⟨w5, hw5, c5, b5⟩ := news1 wr (.cells #[.int .i64 x.1, .int .i64 x.2.1, .int .i64 x.2.2] 95)
      have W5 := Lib.hid hw5
      have B5 := Lib.hid b5
      replace PO := Lib.hid (PO.out.chg c5 (by simp))
      have LO5 : Hid (∀ a, A2 = some a → a.block ≠ wr.heap.size) := Lib.hid (fun a ha q => by
        rcases PO.out.shape with ⟨h, _⟩ | ⟨g', h, _⟩
        · rw [h] at ha; cases ha
        · have := LO0.out a ha; omega)
      replace PC := Lib.hid (PC.out.trans c5)
      clear hw5 c5 b5 hx
      go_upto_region 8 with fail
      rw [← W5.out]
      generalize wr.heap.size = g6 at *
      clear W5 q0 q1 q2
      have y0 := cell_of B5.out 0
      have y1 := cell_of B5.out 1
      have y2 := cell_of B5.out 2
      simp only [List.getElem?_toArray, List.getElem?_cons_succ, List.getElem?_cons_zero] at y0 y1 y2
      by_cases h0 : out = []
      · have e2 : Hid (out = []) := Lib.hid h0
        have e0 : decide (0 < out.length) = false := by rw [h0]; rfl
        have e1 : decide ((0 : Int) < (out.length : Int)) = false := by rw [h0]; rfl
        clear h0
        go_quiet (fail)
        have hq := (Chg.refl [] w5).drewN nq
        generalize w5.drewN nq = w6 at *
        replace PC := Lib.hid (PC.out.trans hq)
        replace PO := Lib.hid (PO.out.chg hq (by simp))
        replace B5 := Lib.hid (hq.at_ B5.out (by simp))
        clear hq y0 y1 y2
        have HP : Hid ((ms.take (k + 1)).foldl pushP [] = out ++ [x]) := Lib.hid (by rw [FS.out, e2.out, push_none]; rfl)
        have y0 := cell_of B5.out 0
        have y1 := cell_of B5.out 1
        have y2 := cell_of B5.out 2
        simp only [List.getElem?_toArray, List.getElem?_cons_succ, List.getElem?_cons_zero] at y0 y1 y2
        obtain ⟨w7, hw, cn, bn⟩ := news1 w6 (.cells #[.int .i64 x.1, .int .i64 x.2.1, .int .i64 x.2.2] 95)
        have W7 := Lib.hid hw
        have XR := Lib.hid (rd_oneS (x := x) bn)
        replace PC := Lib.hid (PC.out.trans cn)
        replace PO := Lib.hid (PO.out.chg cn (by simp))
        have N4 : Hid ((out.length + 1) * 400 ≤ 140737488355327) := Lib.hid (by have := POL.out; omega)
        clear hw cn bn
        go_wp2_with (at_builtin; rw [← W7.out]; refine wpList_appK rfl _ _ rfl rfl PO.out rfl rfl XR.out N4.out ?_; intro A7 c7 wc o7 g7 e7)
        have O7 := Lib.hid o7
        have F7 := Lib.hid (fresh_appS PN.out PC.out g7 e7)
        replace PC := Lib.hid F7.out.2
        clear o7 g7 e7 y0 y1 y2
        go_wp2
        go_round
        case rel => exact ⟨k + 1, A7, c7, by omega, by go_num, by rw [HP.out, List.length_append]; rfl, by rw [HP.out]; exact O7, Lib.hid F7.out.1, PC⟩
        case measure => simp [RowKit.intOf]; omega
      · have hp : 0 < out.length := List.length_pos_iff.2 h0
        obtain ⟨y, hy⟩ : ∃ y, out[out.length - 1]? = some y := ⟨_, List.getElem?_eq_getElem (by omega)⟩
        have YB := OB.out y (List.mem_of_getElem? hy)
        unfold B3 at YB
        have LE := LX.out y (last_at hy)
        unfold Le at LE
        obtain ⟨g2, o2, eB, _⟩ := PO.out.reads.line hp
        have eo : o2 = 0 := by
          rcases PO.out.shape with ⟨h, _⟩ | ⟨g', h, _⟩
          · rw [h] at eB; cases eB
          · rw [h] at eB; cases eB; rfl
        subst eo
        subst eB
        have EY := Lib.hid hy
        obtain ⟨p0, p1, p2⟩ := spanCells PO.out.reads hy
        simp only [Nat.zero_add] at p0 p1 p2
        have e0 : decide (0 < out.length) = true := by simpa using hp
        have e9 : decide ((0 : Int) < (out.length : Int)) = true := by simp; omega
        have e1 : IntKind.i64.wrap ((out.length : Int) - 1) = ((out.length - 1 : Nat) : Int) := by rw [IntWalk.i64_in _ (by have := POL.out; omega)]; omega
        have e2 : (0 : Int) ≤ ((out.length - 1 : Nat) : Int) := by omega
        have e3 : ((out.length - 1 : Nat) : Int) < (out.length : Int) := by omega
        have e4 : IntKind.i64.wrap (x.2.1 - 1) = x.2.1 - 1 := IntWalk.i64_in _ (by omega)
        have e5 : out.length - 1 < out.length := by omega
        clear h0 hy
        by_cases f1 : y.1 = x.1
        rotate_left
        · have AP := Lib.hid (push_apart' EY.out (show Ap y x by unfold Ap; omega))
          have f2 : ((y.1 == x.1) : Bool) = false := by simpa using f1
          clear f1 LE XB YB
          go_quiet (fail)
          have hq := (Chg.refl [] w5).drewN nq
          generalize w5.drewN nq = w6 at *
          replace PC := Lib.hid (PC.out.trans hq)
          replace PO := Lib.hid (PO.out.chg hq (by simp))
          replace B5 := Lib.hid (hq.at_ B5.out (by simp))
          clear hq y0 y1 y2
          clear p0 p1 p2
          have HP : Hid ((ms.take (k + 1)).foldl pushP [] = out ++ [x]) := Lib.hid (by rw [FS.out, AP.out])
          have y0 := cell_of B5.out 0
          have y1 := cell_of B5.out 1
          have y2 := cell_of B5.out 2
          simp only [List.getElem?_toArray, List.getElem?_cons_succ, List.getElem?_cons_zero] at y0 y1 y2
          obtain ⟨w7, hw, cn, bn⟩ := news1 w6 (.cells #[.int .i64 x.1, .int .i64 x.2.1, .int .i64 x.2.2] 95)
          have W7 := Lib.hid hw
          have XR := Lib.hid (rd_oneS (x := x) bn)
          replace PC := Lib.hid (PC.out.trans cn)
          replace PO := Lib.hid (PO.out.chg cn (by simp))
          have N4 : Hid ((out.length + 1) * 400 ≤ 140737488355327) := Lib.hid (by have := POL.out; omega)
          clear hw cn bn
          go_wp2_with (at_builtin; rw [← W7.out]; refine wpList_appK rfl _ _ rfl rfl PO.out rfl rfl XR.out N4.out ?_; intro A7 c7 wc o7 g7 e7)
          have O7 := Lib.hid o7
          have F7 := Lib.hid (fresh_appS PN.out PC.out g7 e7)
          replace PC := Lib.hid F7.out.2
          clear o7 g7 e7 y0 y1 y2
          go_wp2
          go_round
          case rel => exact ⟨k + 1, A7, c7, by omega, by go_num, by rw [HP.out, List.length_append]; rfl, by rw [HP.out]; exact O7, Lib.hid F7.out.1, PC⟩
          case measure => simp [RowKit.intOf]; omega
        have f2 : ((y.1 == x.1) : Bool) = true := by simpa using f1
        by_cases f3 : x.2.1 - 1 ≤ y.2.2
        rotate_left
        · have AP := Lib.hid (push_apart' EY.out (show Ap y x by unfold Ap; omega))
          clear f1 LE XB YB
          go_quiet (fail)
          have hq := (Chg.refl [] w5).drewN nq
          generalize w5.drewN nq = w6 at *
          replace PC := Lib.hid (PC.out.trans hq)
          replace PO := Lib.hid (PO.out.chg hq (by simp))
          replace B5 := Lib.hid (hq.at_ B5.out (by simp))
          clear hq y0 y1 y2
          clear p0 p1 p2
          have HP : Hid ((ms.take (k + 1)).foldl pushP [] = out ++ [x]) := Lib.hid (by rw [FS.out, AP.out])
          have y0 := cell_of B5.out 0
          have y1 := cell_of B5.out 1
          have y2 := cell_of B5.out 2
          simp only [List.getElem?_toArray, List.getElem?_cons_succ, List.getElem?_cons_zero] at y0 y1 y2
          obtain ⟨w7, hw, cn, bn⟩ := news1 w6 (.cells #[.int .i64 x.1, .int .i64 x.2.1, .int .i64 x.2.2] 95)
          have W7 := Lib.hid hw
          have XR := Lib.hid (rd_oneS (x := x) bn)
          replace PC := Lib.hid (PC.out.trans cn)
          replace PO := Lib.hid (PO.out.chg cn (by simp))
          have N4 : Hid ((out.length + 1) * 400 ≤ 140737488355327) := Lib.hid (by have := POL.out; omega)
          clear hw cn bn
          go_wp2_with (at_builtin; rw [← W7.out]; refine wpList_appK rfl _ _ rfl rfl PO.out rfl rfl XR.out N4.out ?_; intro A7 c7 wc o7 g7 e7)
          have O7 := Lib.hid o7
          have F7 := Lib.hid (fresh_appS PN.out PC.out g7 e7)
          replace PC := Lib.hid F7.out.2
          clear o7 g7 e7 y0 y1 y2
          go_wp2
          go_round
          case rel => exact ⟨k + 1, A7, c7, by omega, by go_num, by rw [HP.out, List.length_append]; rfl, by rw [HP.out]; exact O7, Lib.hid F7.out.1, PC⟩
          case measure => simp [RowKit.intOf]; omega
        have AP := Lib.hid (push_touch EY.out (show ¬ Ap y x by unfold Ap; omega))
        have HP : Hid ((ms.take (k + 1)).foldl pushP [] = out.set (out.length - 1) (y.1, y.2.1, max y.2.2 x.2.2)) := Lib.hid (by rw [FS.out, AP.out])
        clear f1 LE XB YB
        go_quiet (fail)
        have hq := (Chg.refl [] w5).drewN nq
        generalize w5.drewN nq = w6 at *
        replace PC := Lib.hid (PC.out.trans hq)
        replace PO := Lib.hid (PO.out.chg hq (by simp))
        replace B5 := Lib.hid (hq.at_ B5.out (by simp))
        clear hq y0 y1 y2
        clear p0 p1 p2
        go_upto_region 9 with fail
        have zt := cell_of B5.out 2
        simp only [List.getElem?_toArray, List.getElem?_cons_succ, List.getElem?_cons_zero] at zt
        refine wp_region_held_drew (S := fun w' => w'.cell? ⟨g6, 2, none⟩ = some (.int .i64 x.2.2)) (by kernel_rfl) zt (fun hHeld => ?_)
        have CD := Lib.hid (Chg.refl [] w6).drew
        replace PC := Lib.hid (PC.out.trans CD.out)
        replace PO := Lib.hid (PO.out.chg CD.out (by simp))
        have ZT : w6.drew.cell? ⟨g6, 2, none⟩ = some (.int .i64 x.2.2) := CD.out.cell zt (by simp)
        have BG : Hid (g6 ≠ g2) := Lib.hid (fun q => LO5.out ⟨g2, 0, none⟩ rfl q.symm)
        have NB : Hid (w2.heap.size ≤ g2) := Lib.hid (PN.out _ rfl)
        have SPC := Lib.hid (spanCells PO.out.reads EY.out)
        have FR := Lib.hid (own_free PO.out ((out.length - 1) * 3 + 2))
        clear CD zt
        generalize w6.drew = wd at *
        refine sy 0 45 rfl rfl ?_
        try simp only [Act.put, sA, s0, s1]
        refine sy 1 46 rfl rfl ?_
        try simp only [Act.put, sA, s0, s1]
        refine sy 2 47 rfl rfl ?_
        try simp only [Act.put, sA, s0, s1]
        refine sy 3 48 rfl rfl ?_
        try simp only [Act.put, sA, s0, s1]
        refine sy 4 49 rfl rfl ?_
        try simp only [Act.put, sA, s0, s1]
        refine sy 5 50 rfl rfl ?_
        try simp only [Act.put, sA, s0, s1]
        refine sy 6 51 rfl rfl ?_
        try simp only [Act.put, sA, s0, s1]
        refine sy 7 52 rfl rfl ?_
        try simp only [Act.put, sA, s0, s1]
        refine sy 9 54 rfl rfl ?_
        try simp only [Act.put, sA, s0, s1]
        refine sy 10 55 rfl rfl ?_ (hy := by (intro w hSw; (try dsimp only at hSw); have q := hSw; go_simp; try with_reducible rfl))
        try simp only [Act.put, sA, s0, s1]
        refine wpAnyH_ready (rs := [8]) (by kernel_rfl) (by simp) ?_
        refine AllReadyH.cons rfl (fun K hK => ?_) AllReadyH.nil
        replace hK := Lib.hid hK
        have z := SPC.out.2.2
        rw [Nat.zero_add] at z
        go_simp
        clear z hHeld
        refine hK.out _ _ ZT (fun hHeld => ?_)
        clear hK K
        try simp only [Act.put, sA, s0, s1]
        refine sy 11 56 rfl rfl ?_
        try simp only [Act.put, sA, s0, s1]
        refine sy 12 57 rfl rfl ?_
        try simp only [Act.put, sA, s0, s1]
        refine sy 13 58 rfl rfl ?_
        try simp only [Act.put, sA, s0, s1]
        refine wpAnyH_ready (rs := [14]) (by kernel_rfl) (by simp) ?_
        refine AllReadyH.cons rfl (fun K hK => ?_) AllReadyH.nil
        replace hK := Lib.hid hK
        have z := SPC.out.2.2
        rw [Nat.zero_add] at z
        have fz := FR.out
        go_simp
        clear z fz hHeld
        refine hK.out _ _ (((Chg.refl [g2] wd).setCell (p := ⟨g2, (out.length - 1) * 3 + 2, none⟩) (.inl (by simp)) _).cell ZT (by simp; exact BG.out)) (fun hHeld => ?_)
        clear hK K
        try simp only [Act.put, sA, s0, s1]
        refine wpAnyH_done (by kernel_rfl) ?_ _
        have HX2 : Hid (∀ v : Int, v = max y.2.2 x.2.2 → OwnK spanTy (wd.setCell ⟨g2, (out.length - 1) * 3 + 2, none⟩ (.int .i64 v)) (some ⟨g2, 0, none⟩) c2 (out.set (out.length - 1) (y.1, y.2.1, max y.2.2 x.2.2)) ∧ Chg [] w2 (wd.setCell ⟨g2, (out.length - 1) * 3 + 2, none⟩ (.int .i64 v))) := Lib.hid (fun v hv => by
          subst hv
          exact ⟨PO.out.setc (out.length - 1) 2 y (y.1, y.2.1, max y.2.2 x.2.2) (.int .i64 (max y.2.2 x.2.2)) EY.out (by decide) (spanSetTo y _), PC.out.setCell (p := ⟨g2, (out.length - 1) * 3 + 2, none⟩) (.inr NB.out) _⟩)
        clear hHeld
        go_wp2
        all_goals
          go_round
          case rel => exact ⟨k + 1, some ⟨g2, 0, none⟩, c2, by omega, by go_num, by rw [HP.out, List.length_set], by rw [HP.out]; exact Lib.hid (HX2.out _ (by omega)).1, PN, Lib.hid (HX2.out _ (by omega)).2⟩
          case measure => simp [RowKit.intOf]; omega
    · obtain rfl : k = ms.length := by omega
      have j1 : ¬ (ms.length : Int) < (ms.length : Int) := by omega
      rw [List.take_length] at PO ⊢
      go_wp2
      go_ret
      rw [← TS.out]
      exact ⟨A2, c2, rfl, PO.out, fun a ha => Nat.le_trans C1.out.size (PN.out a ha), C1.out.trans PC.out⟩
end
section
open Go.RowKit Go.Lib
set_option linter.unusedSimpArgs false
set_option linter.unusedVariables false


set_option maxRecDepth 100000 in
set_option maxHeartbeats 16000000 in
theorem evpast_any (w : World) (A : Option Addr) (c : Nat) (xs : List EvT) (es : List EvP) (h : RdK evTy w A xs.length xs) (hx : EvsR w xs es) (hn : xs.length ≤ 100000) (hs : ∀ e ∈ es, EvSm e) :
    Calls Tryz.prog 35 #[.slice A xs.length c] w fun r w' => ∃ A' c', r = .returned (.tuple #[.slice A' (pastE es).2.length c', .int .i64 (pastE es).1]) ∧ OwnK spanTy w' A' c' (pastE es).2 ∧ (∀ a, A' = some a → w.heap.size ≤ a.block) ∧ Chg [] w w' := by

  have HA := Lib.hid h
  have HX := Lib.hid hx
  have HN := Lib.hid hn
  have HS := Lib.hid hs
  clear h hx hn hs
  go_enter Tryz.func35, Tryz.ntmps35
  go_wp2
  go_loopw [4, 10] (fun v4 v10 wr => ∃ (k : Nat) (A2 : Option Addr) (c2 : Nat), k ≤ xs.length ∧ v10 = .int .i64 k ∧ v4 = .slice A2 (allsE (es.take k)).length c2 ∧ Hid (OwnK spanTy wr A2 c2 (allsE (es.take k))) ∧ Hid (∀ a, A2 = some a → w.heap.size ≤ a.block) ∧ Hid (okAll (es.take k) = true ∧ (allsE (es.take k)).length ≤ k * 5000) ∧ Hid (Chg [] w wr)) (fun _ v10 _ => xs.length - (RowKit.intOf v10).toNat)
  case atStart => exact ⟨0, none, 0, Nat.zero_le _, rfl, rfl, OwnK.none_ _, Lib.hid (by simp), Lib.hid ⟨rfl, by simp [allsE]⟩, Chg.refl _ _⟩
  case round =>
    obtain ⟨k, A2, c2, hk, rfl, rfl, PO, PN, OKK, PC⟩ := hrel
    have j0 : (0 : Int) ≤ (k : Int) := by omega
    by_cases hlt : k < xs.length
    · have j1 : (k : Int) < (xs.length : Int) := by omega
      have j3 : IntKind.i64.wrap ((k : Int) + 1) = (k : Int) + 1 := IntWalk.i64_in _ (by have := HN.out; omega)
      obtain ⟨g3, o3, eA, _⟩ := HA.out.line (by omega)
      subst eA
      obtain ⟨x, e, ex, ee, rx⟩ := HX.out.at_ hlt
      obtain ⟨z0, z1, z2, z3, z4, z5, z6⟩ := evCells (HA.out.chg PC.out (by simp)) ex
      have RX := Lib.hid rx
      have LO0 := Lib.hid (PO.out.lt_)
      have ES := Lib.hid (HS.out e (List.mem_of_getElem? ee))
      have EE := Lib.hid ee
      clear ex ee rx
      obtain ⟨w5, hw5, c5, b5⟩ := news1 wr (.cells #[.int .i64 x.n, .int .i64 x.s, .string x.p, .int .i64 x.k, .int .i64 x.m, .slice x.A x.l x.c, .slice x.B x.bl x.bc] 29)
      have W5 := Lib.hid hw5
      have B5 := Lib.hid b5
      replace PO := Lib.hid (PO.out.chg c5 (by simp))
      replace PC := Lib.hid (PC.out.trans c5)
      clear hw5 c5 b5
      go_upto_region 5 with fail
      rw [← W5.out]
      have LO5 : Hid (∀ a, A2 = some a → a.block ≠ wr.heap.size) := Lib.hid (fun a ha => Nat.ne_of_lt (LO0.out a ha))
      generalize wr.heap.size = g6 at *
      clear W5 z0 z1 z2 z3 z4 z5 z6
      have y0 := cell_of B5.out 0
      have y1 := cell_of B5.out 1
      have y2 := cell_of B5.out 2
      have y3 := cell_of B5.out 3
      have y4 := cell_of B5.out 4
      have y5 := cell_of B5.out 5
      have y6 := cell_of B5.out 6
      simp only [List.getElem?_toArray, List.getElem?_cons_succ, List.getElem?_cons_zero] at y0 y1 y2 y3 y4 y5 y6
      go_wp2_with fail
      clear y0 y1 y2 y3 y4 y5 y6
      refine (evcheck_any w5 x e (RX.out.chg PC.out) ES.out).mono ?_
      rintro r w6 ⟨rfl, hc⟩
      replace PO := Lib.hid (PO.out.chg hc (by simp))
      replace B5 := Lib.hid (hc.at_ B5.out (by simp))
      replace PC := Lib.hid (PC.out.trans hc)
      clear hc
      rcases chkEv_two e with e1 | e1
      rotate_left
      · have NO : Hid (pastE es = (2, [])) := Lib.hid (by unfold pastE; rw [okAll_no EE.out (by omega)]; rfl)
        rw [e1]
        clear e1
        go_wp2
        go_ret2
        rw [NO.out]
        exact ⟨none, 0, rfl, OwnK.none_ _, by simp, PC.out⟩
      have AT : Hid (allsE (es.take (k + 1)) = allsE (es.take k) ++ [ownS e] ++ e.q) := Lib.hid (by rw [alls_take EE.out]; simp)
      have OT : Hid (okAll (es.take (k + 1)) = true) := Lib.hid (by rw [okAll_take EE.out, OKK.out.1, e1]; rfl)
      have QL : Hid (e.q.length ≤ 4000) := Lib.hid (chk_len e1)
      rw [e1]
      clear e1
      have LL := Lib.hid OKK.out.2
      generalize allsE (es.take k) = al at *
      obtain ⟨w7, hw, cn, bn⟩ := news1 w6 (.cells #[.int .i64 x.n, .int .i64 x.s, .int .i64 x.s] 95)
      have W7 := Lib.hid hw
      have XR : Hid (RdK spanTy w7 (some ⟨w6.heap.size, 0, none⟩) 1 [ownS e]) := Lib.hid (by
        have q := rd_oneS (x := (x.n, x.s, x.s)) bn
        rwa [RX.out.n, RX.out.s] at q)
      have XB : Hid (x.bl = e.q.length) := Lib.hid RX.out.bl
      replace PO := Lib.hid (PO.out.chg cn (by simp))
      replace PC := Lib.hid (PC.out.trans cn)
      have CB := Lib.hid (cn.at_ B5.out (by simp))
      have N4 : Hid ((al.length + 1) * 400 ≤ 140737488355327) := Lib.hid (by have := LL.out; have := HN.out; omega)
      have N5 : Hid ((al.length + 1 + x.bl) * 400 ≤ 140737488355327) := Lib.hid (by have := LL.out; have := HN.out; have := XB.out; have := QL.out; omega)
      have y0 := cell_of B5.out 0
      have y1 := cell_of B5.out 1
      have y2 := cell_of B5.out 2
      have y3 := cell_of B5.out 3
      have y4 := cell_of B5.out 4
      have y5 := cell_of B5.out 5
      have y6 := cell_of B5.out 6
      simp only [List.getElem?_toArray, List.getElem?_cons_succ, List.getElem?_cons_zero] at y0 y1 y2 y3 y4 y5 y6
      have Z8 : Hid (∀ (w8 : World), w7.grownBy w8 (A2.map (·.block)) → w8.cell? ⟨g6, 6, none⟩ = some (.slice x.B x.bl x.bc)) := Lib.hid (fun w8 g7 => by
        have CG : Chg (blkOf A2) w7 w8 := (Chg.refl (blkOf A2) w7).grown g7 (fun i hi => by
          cases A2 with
          | none => simp at hi
          | some a => simp at hi; subst hi; exact .inl (mem_blkOf rfl))
        exact cell_of (CG.at_ CB.out (fun q => by obtain ⟨b, hb, q2⟩ := of_blkOf q; exact LO5.out b hb q2)) 6)
      have AL : Hid ((al ++ [ownS e]).length = al.length + 1) := Lib.hid (by simp)
      have RQ : Hid (∀ w', Chg [] w w' → RdK spanTy w' x.B x.bl e.q) := Lib.hid (fun w' hc => (RX.out.chg hc).B)
      clear hw cn bn
      go_wp2_with (first | (at_builtin; rw [← W7.out]; refine wpList_appK (R := spanTy) rfl (.tmp 19) (.tmp 30) rfl rfl (A := A2) (n := al.length) (m := 1) (c := c2) (d := 1) (xs := al) (ys := [ownS e]) PO.out rfl rfl XR.out N4.out ?_; intro A7 c7 w8 o7 g7 e7; have y8 := Z8.out w8 g7; have O7 := Lib.hid o7; have F7 := Lib.hid (fresh_appS PN.out PC.out g7 e7); clear o7 g7 e7) | (at_builtin; refine wpList_appK (R := spanTy) rfl (.tmp 32) (.tmp 34) rfl rfl (A := A7) (n := al.length + 1) (m := x.bl) (c := c7) (d := x.bc) (xs := al ++ [ownS e]) (ys := e.q) O7.out AL.out rfl (RQ.out _ F7.out.2) N5.out ?_; intro A9 c9 w9 o9 g9 e9))
      have O9 := Lib.hid o9
      have F9 := Lib.hid (fresh_appS F7.out.1 F7.out.2 g9 e9)
      have NL : Hid (al.length + 1 + x.bl = (al ++ [ownS e] ++ e.q).length) := Lib.hid (by have := XB.out; simp; omega)
      clear o9 g9 e9 y0 y1 y2 y3 y4 y5 y6 y8 O7 F7
      rw [NL.out]
      go_wp2
      go_round
      case rel => exact ⟨k + 1, A9, c9, by omega, by go_num, by rw [AT.out], by rw [AT.out]; exact O9, Lib.hid F9.out.1, Lib.hid ⟨OT.out, by rw [AT.out]; have := LL.out; have := QL.out; simp; omega⟩, Lib.hid F9.out.2⟩
      case measure => simp [RowKit.intOf]; omega
    · obtain rfl : k = xs.length := by omega
      have j1 : ¬ (xs.length : Int) < (xs.length : Int) := by omega
      have ET : es.take xs.length = es := by rw [HX.out.1]; exact List.take_length
      rw [ET] at PO OKK ⊢
      clear ET
      have PE : Hid (pastE es = boundP (tidyS (allsE es))) := Lib.hid (by unfold pastE; rw [if_pos OKK.out.1])
      have AB := Lib.hid (alls_B3 OKK.out.1)
      have AL : Hid ((allsE es).length ≤ 1000000000) := Lib.hid (by have := OKK.out.2; have := HN.out; omega)
      generalize allsE es = al at *
      go_wp2_with fail
      refine (spjoin_any wr A2 c2 al PO.out.reads AL.out AB.out).mono ?_
      rintro r w2 ⟨A3, c3, rfl, o3, n3, hc⟩
      have O3 := Lib.hid o3
      have N3 := Lib.hid (fun a ha => Nat.le_trans PC.out.size (n3 a ha) : ∀ a, A3 = some a → w.heap.size ≤ a.block)
      replace PC := Lib.hid (PC.out.trans hc)
      clear o3 n3 hc PO PN
      by_cases hb : (tidyS al).length ≤ 4000
      · have BL : Hid (pastE es = (0, tidyS al)) := Lib.hid (by rw [PE.out, bound_le hb])
        have b1 : ¬ (4000 : Int) < ((tidyS al).length : Int) := by omega
        have b2 : ¬ 4000 < (tidyS al).length := by omega
        go_wp2
        go_ret2
        rw [BL.out]
        exact ⟨A3, c3, rfl, O3.out, N3.out, PC.out⟩
      · have BL : Hid (pastE es = (8, [])) := Lib.hid (by rw [PE.out]; unfold boundP; rw [if_pos (by omega)])
        have b1 : (4000 : Int) < ((tidyS al).length : Int) := by omega
        have b2 : 4000 < (tidyS al).length := by omega
        go_wp2
        go_ret2
        rw [BL.out]
        exact ⟨none, 0, rfl, OwnK.none_ _, by simp, PC.out⟩
end
section
open Go.RowKit Go.Lib
set_option linter.unusedSimpArgs false
set_option linter.unusedVariables false


set_option maxRecDepth 100000 in
set_option maxHeartbeats 4000000 in
theorem evclosed2_any (w : World) (gp : Nat) (A : Option Addr) (c : Nat) (xs : List EvT) (es : List EvP) (y : EvT) (f : EvP) (hp : w.heap[gp]? = some (.cells #[.slice A xs.length c] 31 (0, 0))) (h : RdK evTy w A xs.length xs) (hx : EvsR w xs es) (hu : UpE xs) (hf : FitE w xs) (hn : xs.length ≤ 100000) (hs : ∀ e ∈ es, e.q.length ≤ 140737488351232) (hy : EvR w y f) (fy : FitW w y.B y.bl y.bc) (hl : f.q.length ≤ 140737488351232) :
    Calls Tryz.prog 72 #[.agg #[.int .i64 y.n, .int .i64 y.s, .string y.p, .int .i64 y.k, .int .i64 y.m, .slice y.A y.l y.c, .slice y.B y.bl y.bc], .pointer (some ⟨gp, 0, none⟩)] w fun r w' => r = .returned (.bool (!bringsE es f)) ∧ Chg [] w w' := by
  obtain ⟨w1, hw1, c1, b1⟩ := news1 w (.cells #[.int .i64 y.n, .int .i64 y.s, .string y.p, .int .i64 y.k, .int .i64 y.m, .slice y.A y.l y.c, .slice y.B y.bl y.bc] 29)
  have W1 := Lib.hid hw1
  have C1 := Lib.hid c1
  have BR := Lib.hid (evbrings_any w1 A c xs es y f (h.chg c1 (by simp)) (hx.chg c1) hu (hf.chg c1) (hy.chg c1) (fy.chg c1) hn ⟨hs, hl⟩)
  have p0 := cell_of (c1.at_ hp (by simp)) 0
  have y0 := cell_of b1 0
  have y1 := cell_of b1 1
  have y2 := cell_of b1 2
  have y3 := cell_of b1 3
  have y4 := cell_of b1 4
  have y5 := cell_of b1 5
  have y6 := cell_of b1 6
  simp only [List.getElem?_toArray, List.getElem?_cons_succ, List.getElem?_cons_zero] at p0 y0 y1 y2 y3 y4 y5 y6
  clear hw1 c1 b1 hp h hx hu hf hn hs hy fy hl
  generalize hv : bringsE es f = v at *
  have HV := Lib.hid hv
  clear hv
  go_enter Tryz.func72, Tryz.ntmps72
  go_upto_region 1 with fail
  rw [← W1.out]
  generalize w.heap.size = g1 at *
  clear W1
  go_wp2_with fail
  refine BR.out.mono ?_
  rintro r w2 ⟨rfl, hc⟩
  replace C1 := Lib.hid (C1.out.trans hc)
  clear hc BR p0 y0 y1 y2 y3 y4 y5 y6
  go_wp2
  go_ret
  exact ⟨rfl, C1.out⟩
theorem all_at_no {α : Type} {p : α → Bool} {l : List α} {k : Nat} {x : α} (h : l[k]? = some x) (hp : p x = false) : l.all p = false := by
  rcases q : l.all p with _ | _
  · rfl
  · have := List.all_eq_true.1 q x (List.mem_of_getElem? h)
    rw [hp] at this
    exact absurd this (by decide)
set_option maxRecDepth 100000 in
set_option maxHeartbeats 4000000 in
theorem evindex_any (w : World) (gp : Nat) (A : Option Addr) (c : Nat) (xs : List EvT) (es : List EvP) (hp : w.heap[gp]? = some (.cells #[.slice A xs.length c] 31 (0, 0))) (h : RdK evTy w A xs.length xs) (hx : EvsR w xs es) (hu : UpE xs) (hf : FitE w xs) (hn : xs.length ≤ 100000) (hs : ∀ e ∈ es, e.q.length ≤ 140737488351232) :
    Calls Tryz.prog 108 #[.slice A xs.length c, .func (.func 72) #[] #[.pointer (some ⟨gp, 0, none⟩)]] w fun r w' => (∃ v : Int, r = .returned (.int .i64 v) ∧ es.all (bringsE es) = decide (v < 0)) ∧ Chg [] w w' := by
  have HP := Lib.hid hp
  have HA := Lib.hid h
  have HX := Lib.hid hx
  have HU := Lib.hid hu
  have HF := Lib.hid hf
  have HN := Lib.hid hn
  have HS := Lib.hid hs
  clear hp h hx hu hf hn hs
  go_enter Tryz.func108, Tryz.ntmps108
  go_wp2
  go_loopw [5, 8] (fun v5 v8 wr => ∃ (k : Nat), k ≤ xs.length ∧ v8 = .int .i64 k ∧ Hid ((es.take k).all (bringsE es) = true) ∧ Hid (Chg [] w wr)) (fun _ v8 _ => xs.length - (RowKit.intOf v8).toNat)
  case atStart => exact ⟨0, Nat.zero_le _, rfl, Lib.hid rfl, Chg.refl _ _⟩
  case round =>
    obtain ⟨k, hk, rfl, FN, RC⟩ := hrel
    have i0 : (0 : Int) ≤ (k : Int) := by omega
    by_cases hlt : k < xs.length
    · have i1 : (k : Int) < (xs.length : Int) := by omega
      have i3 : IntKind.i64.wrap ((k : Int) + 1) = (k : Int) + 1 := IntWalk.i64_in _ (by have := HN.out; omega)
      obtain ⟨x, e, ex, ee, rx⟩ := HX.out.at_ hlt
      obtain ⟨g, o, eA, _⟩ := HA.out.line (by omega)
      subst eA
      obtain ⟨z0, z1, z2, z3, z4, z5, z6⟩ := evCells (HA.out.chg RC.out (by simp)) ex
      have EE := Lib.hid ee
      have CL := Lib.hid (evclosed2_any wr gp _ c xs es x e (RC.out.at_ HP.out (by simp)) (HA.out.chg RC.out (by simp)) (HX.out.chg RC.out) HU.out (HF.out.chg RC.out) HN.out HS.out (rx.chg RC.out) ((HF.out x (List.mem_of_getElem? ex)).chg RC.out) (HS.out e (List.mem_of_getElem? ee)))
      clear ex ee rx
      go_wp2_with fail
      refine CL.out.mono ?_
      rintro r w2 ⟨rfl, hc⟩
      have C2 := Lib.hid (RC.out.trans hc)
      clear hc CL z0 z1 z2 z3 z4 z5 z6
      rcases hb : bringsE es e with _ | _
      · have NO : Hid (es.all (bringsE es) = false) := Lib.hid (all_at_no EE.out hb)
        clear hb
        go_wp2
        go_ret
        exact ⟨by rw [NO.out]; simp, C2.out⟩
      · have FN1 : Hid ((es.take (k + 1)).all (bringsE es) = true) := Lib.hid (by rw [all_take_succ EE.out, FN.out, hb]; rfl)
        clear hb FN
        go_wp2
        go_round
        case rel => exact ⟨k + 1, by omega, by go_num, FN1, C2⟩
        case measure => simp [RowKit.intOf]; omega
    · obtain rfl : k = xs.length := by omega
      have ET : es.take xs.length = es := by rw [HX.out.1]; exact List.take_length
      rw [ET] at FN
      clear ET
      have i1 : ¬ (xs.length : Int) < (xs.length : Int) := by omega
      go_wp2
      go_ret
      exact ⟨by rw [FN.out]; simp, RC.out⟩
set_option maxRecDepth 100000 in
set_option maxHeartbeats 4000000 in
theorem evcontains_any (w : World) (gp : Nat) (A : Option Addr) (c : Nat) (xs : List EvT) (es : List EvP) (hp : w.heap[gp]? = some (.cells #[.slice A xs.length c] 31 (0, 0))) (h : RdK evTy w A xs.length xs) (hx : EvsR w xs es) (hu : UpE xs) (hf : FitE w xs) (hn : xs.length ≤ 100000) (hs : ∀ e ∈ es, e.q.length ≤ 140737488351232) :
    Calls Tryz.prog 71 #[.slice A xs.length c, .func (.func 72) #[] #[.pointer (some ⟨gp, 0, none⟩)]] w fun r w' => r = .returned (.bool (!es.all (bringsE es))) ∧ Chg [] w w' := by
  have IX := Lib.hid (evindex_any w gp A c xs es hp h hx hu hf hn hs)
  clear hp h hx hu hf hn hs
  have go : ∀ v, (!es.all (bringsE es)) = v → Calls Tryz.prog 71 #[.slice A xs.length c, .func (.func 72) #[] #[.pointer (some ⟨gp, 0, none⟩)]] w (fun e w' => e = .returned (.bool v) ∧ Chg [] w w') → Calls Tryz.prog 71 #[.slice A xs.length c, .func (.func 72) #[] #[.pointer (some ⟨gp, 0, none⟩)]] w fun e w' => e = .returned (.bool (!es.all (bringsE es))) ∧ Chg [] w w' := fun v hv h => hv ▸ h
  rcases hf : es.all (bringsE es) with _ | _
  · rw [hf] at go
    refine go true rfl ?_
    clear go
    go_enter Tryz.func71, Tryz.ntmps71
    go_wp2_with fail
    refine IX.out.mono ?_
    rintro e w2 ⟨⟨v, rfl, hv⟩, hc⟩
    have C := Lib.hid hc
    have hv2 : decide ((0 : Int) ≤ v) = true := decide_eq_true (by rw [hf] at hv; have := of_decide_eq_false hv.symm; omega)
    clear hv hc hf
    go_wp2
    go_ret
    exact ⟨rfl, C.out⟩
  · rw [hf] at go
    refine go false rfl ?_
    clear go
    go_enter Tryz.func71, Tryz.ntmps71
    go_wp2_with fail
    refine IX.out.mono ?_
    rintro e w2 ⟨⟨v, rfl, hv⟩, hc⟩
    have C := Lib.hid hc
    have hv2 : decide ((0 : Int) ≤ v) = false := decide_eq_false (by rw [hf] at hv; have := of_decide_eq_true hv.symm; omega)
    clear hv hc hf
    go_wp2
    go_ret
    exact ⟨rfl, C.out⟩
end
section
open Go.RowKit Go.Lib
set_option linter.unusedSimpArgs false
set_option linter.unusedVariables false


theorem EvsR.perm {w : World} {xs ms : List EvT} {es : List EvP} (h : EvsR w xs es) (hp : ms.Perm xs) : ∃ fs, fs.Perm es ∧ EvsR w ms fs := by
  obtain ⟨fs, hl, hz⟩ := perm_zip hp es h.1.symm
  have hm : ms.length = xs.length := hp.length_eq
  refine ⟨fs, ?_, hl.symm, fun i x e hx he => ?_⟩
  · have := hz.map Prod.snd
    rwa [List.map_snd_zip (by omega), List.map_snd_zip (by rw [h.1]; exact Nat.le_refl _)] at this
  · have hi : (x, e) ∈ ms.zip fs := List.mem_of_getElem? (i := i) (by rw [List.getElem?_zip_eq_some]; exact ⟨hx, he⟩)
    obtain ⟨j, hj⟩ := List.getElem?_of_mem (hz.mem_iff.1 hi)
    rw [List.getElem?_zip_eq_some] at hj
    exact h.2 j x e hj.1 hj.2
/-- In order, and none beside one of its dot: no two of one dot. -/
theorem up_apart {w : World} {ms : List EvT} {fs : List EvP} (h : EvsR w ms fs) (hu : UpE ms) (ha : ∀ (p : Nat) (a b : EvT), ms[p]? = some a → ms[p + 1]? = some b → ¬ (a.n = b.n ∧ a.s = b.s)) : fs.Pairwise (fun a b => ¬ (a.n = b.n ∧ a.s = b.s)) := by
  rw [List.pairwise_iff_getElem]
  intro i j hi hj hij
  have hl := h.1
  have ei := List.getElem?_eq_getElem (show i < ms.length by omega)
  have ej := List.getElem?_eq_getElem (show j < ms.length by omega)
  have ek := List.getElem?_eq_getElem (show i + 1 < ms.length by omega)
  have r1 := h.2 i _ _ ei (List.getElem?_eq_getElem hi)
  have r2 := h.2 j _ _ ej (List.getElem?_eq_getElem hj)
  rw [← r1.n, ← r1.s, ← r2.n, ← r2.s]
  have a := ha i _ _ ei ek
  have b := up_at hu ei ek (by omega)
  by_cases q : i + 1 = j
  · subst q
    exact a
  · have d := up_at hu ek ej (by omega)
    unfold LtD at b d
    omega
set_option maxRecDepth 100000 in
set_option maxHeartbeats 16000000 in
theorem evclosed_any (w : World) (A : Option Addr) (c : Nat) (xs : List EvT) (es : List EvP) (h : RdK evTy w A xs.length xs) (hx : EvsR w xs es) (hf : FitE w xs) (hn : xs.length ≤ 100000) (hs : ∀ e ∈ es, EvSm e) :
    Calls Tryz.prog 33 #[.slice A xs.length c] w fun r w' => r = .returned (.bool (closedE es)) ∧ Chg [] w w' := by

  have HA := Lib.hid h
  have HX := Lib.hid hx
  have HF := Lib.hid hf
  have HN := Lib.hid hn
  have HS := Lib.hid hs
  clear h hx hf hn hs
  go_enter Tryz.func33, Tryz.ntmps33
  go_wp2_with fail
  refine (cloneEv_any w A xs.length c xs HA.out (by have := HN.out; omega)).mono ?_
  rintro r w1 ⟨A1, c1, rfl, o1, n1, h1⟩
  have O1 := Lib.hid o1
  have N1 := Lib.hid n1
  have C1 := Lib.hid h1
  have L1 := Lib.hid (o1.lt_)
  clear o1 n1 h1
  obtain ⟨w2, hw, hc, b2⟩ := news1 w1 (.cells #[.slice A1 xs.length c1] 31)
  have W2 := Lib.hid hw
  have B2 := Lib.hid b2
  have NE : Hid (w1.heap.size ∉ blkOf A1) := Lib.hid (notin_hi L1.out (Nat.le_refl _))
  replace O1 := Lib.hid (O1.out.chg hc (by simp))
  replace C1 := Lib.hid (C1.out.trans hc)
  clear hw hc b2
  go_upto_region 2 with fail
  rw [← W2.out]
  generalize w1.heap.size = gp at *
  clear W2
  have p0 := cell_of B2.out 0
  simp only [List.getElem?_toArray, List.getElem?_cons_succ, List.getElem?_cons_zero] at p0
  go_wp2_with fail
  refine (sortp_any (R := evTy) Tryz.llLaysE06 Tryz.isAgg29 Tryz.sizeOf29 cmpEv swoEv 69 (enters_of Tryz.func69 (by kernel_rfl) rfl) evcmp_says w2 A1 c1 xs O1.out (by have := HN.out; omega)).mono ?_
  rintro r w3 ⟨rfl, ms, hp, hs, o2, h2⟩
  have RO := Lib.hid o2
  replace B2 := Lib.hid (h2.at_ B2.out NE.out)
  replace C1 := Lib.hid (C1.out.trans' h2 fun i hi => .inr (blkOf_new N1.out i hi))
  have ML : ms.length = xs.length := hp.length_eq
  have UP : Hid (UpE ms) := Lib.hid (hs.imp (fun {x y} q => by
    rw [ltEv, decide_eq_false_iff_not] at q
    exact q))
  obtain ⟨fs, hfp, hr⟩ := HX.out.perm hp
  have RX := Lib.hid (hr.chg C1.out)
  have RF : Hid (FitE w3 ms) := Lib.hid (fun x hx => (HF.out x (hp.mem_iff.1 hx)).chg C1.out)
  have CE : Hid (closedE es = closedE fs) := Lib.hid (closed_perm hfp.symm)
  have ES : Hid (∀ e ∈ fs, EvSm e) := Lib.hid (fun e he => HS.out e (hfp.mem_iff.1 he))
  have MN : Hid (ms.length ≤ 100000) := Lib.hid (by rw [ML]; exact HN.out)
  rw [← ML] at B2 ⊢
  clear hp hs o2 h2 O1 hfp hr p0 HX HF HS HN ML HA N1 L1 NE
  have p0 := cell_of B2.out 0
  simp only [List.getElem?_toArray, List.getElem?_cons_succ, List.getElem?_cons_zero] at p0
  go_wp2
  clear p0
  go_loopw [4, 12] (fun v4 v12 wr => ∃ (k : Nat), k ≤ ms.length ∧ v12 = .int .i64 k ∧ Hid (okAll (fs.take k) = true) ∧ Hid (∀ (p : Nat) (a b : EvT), p + 1 < k → ms[p]? = some a → ms[p + 1]? = some b → ¬ (a.n = b.n ∧ a.s = b.s)) ∧ Hid (Chg [] w3 wr)) (fun _ v12 _ => ms.length - (RowKit.intOf v12).toNat)
  case atStart => exact ⟨0, Nat.zero_le _, rfl, Lib.hid rfl, Lib.hid (fun p a b h => absurd h (by omega)), Chg.refl _ _⟩
  case round =>
    obtain ⟨k, hk, rfl, OKK, AP, PC⟩ := hrel
    have j0 : (0 : Int) ≤ (k : Int) := by omega
    by_cases hlt : k < ms.length
    · have j1 : (k : Int) < (ms.length : Int) := by omega
      have j3 : IntKind.i64.wrap ((k : Int) + 1) = (k : Int) + 1 := IntWalk.i64_in _ (by have := MN.out; omega)
      obtain ⟨g3, o3, eA, _⟩ := RO.out.reads.line (by omega)
      have eo : o3 = 0 := by
        rcases RO.out.shape with ⟨h, _⟩ | ⟨g', h, _⟩
        · rw [h] at eA; cases eA
        · rw [h] at eA; cases eA; rfl
      subst eo
      subst eA
      obtain ⟨x, e, ex, ee, rx⟩ := RX.out.at_ hlt
      obtain ⟨z0, z1, z2, z3, z4, z5, z6⟩ := evCells (RO.out.reads.chg PC.out (by simp)) ex
      simp only [Nat.zero_add] at z0 z1 z2 z3 z4 z5 z6
      have EX := Lib.hid ex
      have EE := Lib.hid ee
      have RX1 := Lib.hid rx
      have ES1 := Lib.hid (ES.out e (List.mem_of_getElem? ee))
      clear ex ee rx
      obtain ⟨w5, hw5, c5, b5⟩ := news1 wr (.cells #[.int .i64 x.n, .int .i64 x.s, .string x.p, .int .i64 x.k, .int .i64 x.m, .slice x.A x.l x.c, .slice x.B x.bl x.bc] 29)
      have W5 := Lib.hid hw5
      have B5 := Lib.hid b5
      replace PC := Lib.hid (PC.out.trans c5)
      clear hw5 c5 b5
      go_upto_region 6 with fail
      rw [← W5.out]
      generalize wr.heap.size = g6 at *
      clear W5 z0 z1 z2 z3 z4 z5 z6
      have P5 := Lib.hid (PC.out.at_ B2.out (by simp))
      have HB : Hid (∀ w', Chg [] w5 w' → (w'.cell? ⟨g6, 0, none⟩ = some (.int .i64 x.n) ∧ w'.cell? ⟨g6, 1, none⟩ = some (.int .i64 x.s) ∧ w'.cell? ⟨g6, 2, none⟩ = some (.string x.p) ∧ w'.cell? ⟨g6, 3, none⟩ = some (.int .i64 x.k) ∧ w'.cell? ⟨g6, 4, none⟩ = some (.int .i64 x.m) ∧ w'.cell? ⟨g6, 5, none⟩ = some (.slice x.A x.l x.c) ∧ w'.cell? ⟨g6, 6, none⟩ = some (.slice x.B x.bl x.bc)) ∧ w'.cell? ⟨gp, 0, none⟩ = some (.slice (some ⟨g3, 0, none⟩) ms.length c1)) := Lib.hid (fun w' hc => by
        have b := hc.at_ B5.out (by simp)
        exact ⟨⟨cell_of b 0, cell_of b 1, cell_of b 2, cell_of b 3, cell_of b 4, cell_of b 5, cell_of b 6⟩, cell_of (hc.at_ P5.out (by simp)) 0⟩)
      have HR : Hid (∀ w', Chg [] w5 w' → ∀ y, ms[k - 1]? = some y → w'.cell? ⟨g3, (k - 1) * 7, none⟩ = some (.int .i64 y.n) ∧ w'.cell? ⟨g3, (k - 1) * 7 + 1, none⟩ = some (.int .i64 y.s)) := Lib.hid (fun w' hc y hy => by
        have q := evCells (RO.out.reads.chg (PC.out.trans hc) (by simp)) hy
        simp only [Nat.zero_add] at q
        exact ⟨q.1, q.2.1⟩)
      have CHK : Hid (∀ w', Chg [] w5 w' → Calls Tryz.prog 38 #[.agg #[.int .i64 x.n, .int .i64 x.s, .string x.p, .int .i64 x.k, .int .i64 x.m, .slice x.A x.l x.c, .slice x.B x.bl x.bc]] w' fun r w2 => r = .returned (.int .i64 (chkEv e)) ∧ Chg [] w' w2) := Lib.hid (fun w' hc => evcheck_any w' x e (RX1.out.chg (PC.out.trans hc)) ES1.out)
      rcases chkEv_two e with e1 | e1
      rotate_left
      · have NO : Hid (closedE fs = false) := Lib.hid (closed_no_chk EE.out (by omega))
        refine wp_region_held_drew (S := fun w' => Chg [] w5 w') (by kernel_rfl) (Chg.refl [] w5).drew (fun hHeld => ?_)
        refine sy 0 17 rfl rfl ?_ (hy := by (intro w hSw; (try dsimp only at hSw); have hq := HB.out _ hSw; obtain ⟨⟨q0, q1, q2, q3, q4, q5, q6⟩, q7⟩ := hq; go_simp; try with_reducible rfl))
        try simp only [Act.put, sA, s0, s1]
        refine wpAnyH_ready (rs := [1]) (by kernel_rfl) (by simp) ?_
        refine AllReadyH.cons rfl (fun K hK => ?_) AllReadyH.nil
        replace hK := Lib.hid hK
        go_simp
        refine (CHK.out _ hHeld).mono ?_
        rintro r w9 ⟨rfl, hc⟩
        rw [e1]
        have C9 := Lib.hid (hHeld.trans hc)
        clear hc hHeld
        refine hK.out _ _ C9.out (fun hHeld => ?_)
        clear hK K
        try simp only [Act.put, sA, s0, s1]
        refine sy 2 19 rfl rfl ?_
        try simp only [Act.put, sA, s0, s1]
        refine sy 3 20 rfl rfl ?_
        try simp only [Act.put, sA, s0, s1]
        refine sn 4 21 rfl rfl ?_
        try simp only [Act.put, sA, s0, s1]
        refine sn 5 22 rfl rfl ?_
        try simp only [Act.put, sA, s0, s1]
        refine sn 6 23 rfl rfl ?_
        try simp only [Act.put, sA, s0, s1]
        refine sn 7 24 rfl rfl ?_
        try simp only [Act.put, sA, s0, s1]
        refine sn 8 25 rfl rfl ?_
        try simp only [Act.put, sA, s0, s1]
        refine sn 9 26 rfl rfl ?_
        try simp only [Act.put, sA, s0, s1]
        refine sn 10 27 rfl rfl ?_
        try simp only [Act.put, sA, s0, s1]
        refine sn 11 28 rfl rfl ?_
        try simp only [Act.put, sA, s0, s1]
        refine sn 12 29 rfl rfl ?_
        try simp only [Act.put, sA, s0, s1]
        refine sn 13 30 rfl rfl ?_
        try simp only [Act.put, sA, s0, s1]
        refine sn 14 31 rfl rfl ?_
        try simp only [Act.put, sA, s0, s1]
        refine sn 15 32 rfl rfl ?_
        try simp only [Act.put, sA, s0, s1]
        refine sn 16 33 rfl rfl ?_
        try simp only [Act.put, sA, s0, s1]
        refine sy 17 34 rfl rfl ?_
        try simp only [Act.put, sA, s0, s1]
        refine wpAnyH_done (by kernel_rfl) ?_ _
        clear hHeld HB HR CHK
        go_wp2
        go_ret
        rw [CE.out, NO.out]
        exact ⟨rfl, C1.out.trans (PC.out.trans C9.out)⟩
      have OT : Hid (okAll (fs.take (k + 1)) = true) := Lib.hid (by rw [okAll_take EE.out, OKK.out, e1]; rfl)
      by_cases k0 : k = 0
      · subst k0
        have AT : Hid (∀ (p : Nat) (a b : EvT), p + 1 < 0 + 1 → ms[p]? = some a → ms[p + 1]? = some b → ¬ (a.n = b.n ∧ a.s = b.s)) := Lib.hid (fun p a b h => absurd h (by omega))
        refine wp_region_held_drew (S := fun w' => Chg [] w5 w') (by kernel_rfl) (Chg.refl [] w5).drew (fun hHeld => ?_)
        refine sy 0 17 rfl rfl ?_ (hy := by (intro w hSw; (try dsimp only at hSw); have hq := HB.out _ hSw; obtain ⟨⟨q0, q1, q2, q3, q4, q5, q6⟩, q7⟩ := hq; go_simp; try with_reducible rfl))
        try simp only [Act.put, sA, s0, s1]
        refine wpAnyH_ready (rs := [1]) (by kernel_rfl) (by simp) ?_
        refine AllReadyH.cons rfl (fun K hK => ?_) AllReadyH.nil
        replace hK := Lib.hid hK
        go_simp
        refine (CHK.out _ hHeld).mono ?_
        rintro r w9 ⟨rfl, hc⟩
        rw [e1]
        have C9 := Lib.hid (hHeld.trans hc)
        clear hc hHeld
        refine hK.out _ _ C9.out (fun hHeld => ?_)
        clear hK K
        try simp only [Act.put, sA, s0, s1]
        refine sy 2 19 rfl rfl ?_
        try simp only [Act.put, sA, s0, s1]
        refine sy 3 20 rfl rfl ?_
        try simp only [Act.put, sA, s0, s1]
        refine sy 4 21 rfl rfl ?_
        try simp only [Act.put, sA, s0, s1]
        refine sy 5 22 rfl rfl ?_
        try simp only [Act.put, sA, s0, s1]
        refine sy 6 23 rfl rfl ?_
        try simp only [Act.put, sA, s0, s1]
        refine sn 7 24 rfl rfl ?_
        try simp only [Act.put, sA, s0, s1]
        refine sn 8 25 rfl rfl ?_
        try simp only [Act.put, sA, s0, s1]
        refine sn 9 26 rfl rfl ?_
        try simp only [Act.put, sA, s0, s1]
        refine sn 10 27 rfl rfl ?_
        try simp only [Act.put, sA, s0, s1]
        refine sn 11 28 rfl rfl ?_
        try simp only [Act.put, sA, s0, s1]
        refine sn 12 29 rfl rfl ?_
        try simp only [Act.put, sA, s0, s1]
        refine sn 13 30 rfl rfl ?_
        try simp only [Act.put, sA, s0, s1]
        refine sn 14 31 rfl rfl ?_
        try simp only [Act.put, sA, s0, s1]
        refine sn 15 32 rfl rfl ?_
        try simp only [Act.put, sA, s0, s1]
        refine sy 16 33 rfl rfl ?_
        try simp only [Act.put, sA, s0, s1]
        refine sy 17 34 rfl rfl ?_
        try simp only [Act.put, sA, s0, s1]
        refine wpAnyH_done (by kernel_rfl) ?_ _
        clear hHeld HB HR CHK
        have RC9 := Lib.hid (PC.out.trans C9.out)
        go_wp2
        go_round
        case rel => exact ⟨0 + 1, by omega, by go_num, OT, AT, RC9⟩
        case measure => simp [RowKit.intOf]; omega
      obtain ⟨y, hy⟩ : ∃ y, ms[k - 1]? = some y := ⟨_, List.getElem?_eq_getElem (by omega)⟩
      have EY := Lib.hid hy
      clear hy
      have g1 : (0 : Int) < (k : Int) := by omega
      have g2 : 0 < k := by omega
      have g3' : decide ((0 : Int) < (k : Int)) = true := by simp; omega
      have g4 : decide (0 < k) = true := by simp; omega
      have w1' : IntKind.i64.wrap ((k : Int) - 1) = ((k - 1 : Nat) : Int) := by rw [IntWalk.i64_in _ (by have := MN.out; omega)]; omega
      have g5 : (0 : Int) ≤ ((k - 1 : Nat) : Int) := by omega
      have g6' : ((k - 1 : Nat) : Int) < (ms.length : Int) := by omega
      have g7 : k - 1 < ms.length := by omega
      by_cases d1 : y.n = x.n ∧ y.s = x.s
      · have NO : Hid (closedE fs = false) := Lib.hid (by
          obtain ⟨y2, f, ey, ef, ry⟩ := RX.out.at_ g7
          rw [EY.out] at ey
          cases ey
          exact closed_no_two ef EE.out (by omega) (fun q => q.1 (by rw [← ry.n, ← ry.s, ← RX1.out.n, ← RX1.out.s]; exact d1)))
        have dq : ((y.n == x.n) : Bool) = true := by simpa using d1.1
        have dr : ((y.s == x.s) : Bool) = true := by simpa using d1.2
        refine wp_region_held_drew (S := fun w' => Chg [] w5 w') (by kernel_rfl) (Chg.refl [] w5).drew (fun hHeld => ?_)
        refine sy 0 17 rfl rfl ?_ (hy := by (intro w hSw; (try dsimp only at hSw); have hq := HB.out _ hSw; obtain ⟨⟨q0, q1, q2, q3, q4, q5, q6⟩, q7⟩ := hq; go_simp; try with_reducible rfl))
        try simp only [Act.put, sA, s0, s1]
        refine wpAnyH_ready (rs := [1]) (by kernel_rfl) (by simp) ?_
        refine AllReadyH.cons rfl (fun K hK => ?_) AllReadyH.nil
        replace hK := Lib.hid hK
        go_simp
        refine (CHK.out _ hHeld).mono ?_
        rintro r w9 ⟨rfl, hc⟩
        rw [e1]
        have C9 := Lib.hid (hHeld.trans hc)
        clear hc hHeld
        refine hK.out _ _ C9.out (fun hHeld => ?_)
        clear hK K
        try simp only [Act.put, sA, s0, s1]
        refine sy 2 19 rfl rfl ?_
        try simp only [Act.put, sA, s0, s1]
        refine sy 3 20 rfl rfl ?_
        try simp only [Act.put, sA, s0, s1]
        refine sy 4 21 rfl rfl ?_
        try simp only [Act.put, sA, s0, s1]
        refine sy 5 22 rfl rfl ?_
        try simp only [Act.put, sA, s0, s1]
        refine sy 6 23 rfl rfl ?_
        try simp only [Act.put, sA, s0, s1]
        refine sy 7 24 rfl rfl ?_ (hy := by (intro w hSw; (try dsimp only at hSw); have hq := HB.out _ hSw; obtain ⟨⟨q0, q1, q2, q3, q4, q5, q6⟩, q7⟩ := hq; go_simp; try with_reducible rfl))
        try simp only [Act.put, sA, s0, s1]
        refine sy 8 25 rfl rfl ?_
        try simp only [Act.put, sA, s0, s1]
        refine sy 9 26 rfl rfl ?_
        try simp only [Act.put, sA, s0, s1]
        refine sy 10 27 rfl rfl ?_
        try simp only [Act.put, sA, s0, s1]
        refine sy 11 28 rfl rfl ?_
        try simp only [Act.put, sA, s0, s1]
        refine sy 12 29 rfl rfl ?_ (hy := by (intro w hSw; (try dsimp only at hSw); have hq := HR.out _ hSw y EY.out; obtain ⟨p0, p1⟩ := hq; go_simp; try with_reducible rfl))
        try simp only [Act.put, sA, s0, s1]
        refine sy 13 30 rfl rfl ?_
        try simp only [Act.put, sA, s0, s1]
        refine sy 14 31 rfl rfl ?_ (hy := by (intro w hSw; (try dsimp only at hSw); have hq := HB.out _ hSw; obtain ⟨⟨q0, q1, q2, q3, q4, q5, q6⟩, q7⟩ := hq; go_simp; try with_reducible rfl))
        try simp only [Act.put, sA, s0, s1]
        refine sy 15 32 rfl rfl ?_
        try simp only [Act.put, sA, s0, s1]
        refine sy 16 33 rfl rfl ?_
        try simp only [Act.put, sA, s0, s1]
        refine sy 17 34 rfl rfl ?_
        try simp only [Act.put, sA, s0, s1]
        refine wpAnyH_done (by kernel_rfl) ?_ _
        clear hHeld HB HR CHK
        go_wp2
        go_ret
        rw [CE.out, NO.out]
        exact ⟨rfl, C1.out.trans (PC.out.trans C9.out)⟩
      have AT : Hid (∀ (p : Nat) (a b : EvT), p + 1 < k + 1 → ms[p]? = some a → ms[p + 1]? = some b → ¬ (a.n = b.n ∧ a.s = b.s)) := Lib.hid (fun p a b h ha hb => by
        by_cases q : p + 1 = k
        · obtain rfl : p = k - 1 := by omega
          rw [EY.out] at ha
          cases ha
          rw [show k - 1 + 1 = k by omega, EX.out] at hb
          cases hb
          exact d1
        · exact AP.out p a b (by omega) ha hb)
      by_cases d2 : y.n = x.n
      · have dq : ((y.n == x.n) : Bool) = true := by simpa using d2
        have dr : ((y.s == x.s) : Bool) = false := by simpa using (fun q => d1 ⟨d2, q⟩)
        refine wp_region_held_drew (S := fun w' => Chg [] w5 w') (by kernel_rfl) (Chg.refl [] w5).drew (fun hHeld => ?_)
        refine sy 0 17 rfl rfl ?_ (hy := by (intro w hSw; (try dsimp only at hSw); have hq := HB.out _ hSw; obtain ⟨⟨q0, q1, q2, q3, q4, q5, q6⟩, q7⟩ := hq; go_simp; try with_reducible rfl))
        try simp only [Act.put, sA, s0, s1]
        refine wpAnyH_ready (rs := [1]) (by kernel_rfl) (by simp) ?_
        refine AllReadyH.cons rfl (fun K hK => ?_) AllReadyH.nil
        replace hK := Lib.hid hK
        go_simp
        refine (CHK.out _ hHeld).mono ?_
        rintro r w9 ⟨rfl, hc⟩
        rw [e1]
        have C9 := Lib.hid (hHeld.trans hc)
        clear hc hHeld
        refine hK.out _ _ C9.out (fun hHeld => ?_)
        clear hK K
        try simp only [Act.put, sA, s0, s1]
        refine sy 2 19 rfl rfl ?_
        try simp only [Act.put, sA, s0, s1]
        refine sy 3 20 rfl rfl ?_
        try simp only [Act.put, sA, s0, s1]
        refine sy 4 21 rfl rfl ?_
        try simp only [Act.put, sA, s0, s1]
        refine sy 5 22 rfl rfl ?_
        try simp only [Act.put, sA, s0, s1]
        refine sy 6 23 rfl rfl ?_
        try simp only [Act.put, sA, s0, s1]
        refine sy 7 24 rfl rfl ?_ (hy := by (intro w hSw; (try dsimp only at hSw); have hq := HB.out _ hSw; obtain ⟨⟨q0, q1, q2, q3, q4, q5, q6⟩, q7⟩ := hq; go_simp; try with_reducible rfl))
        try simp only [Act.put, sA, s0, s1]
        refine sy 8 25 rfl rfl ?_
        try simp only [Act.put, sA, s0, s1]
        refine sy 9 26 rfl rfl ?_
        try simp only [Act.put, sA, s0, s1]
        refine sy 10 27 rfl rfl ?_
        try simp only [Act.put, sA, s0, s1]
        refine sy 11 28 rfl rfl ?_
        try simp only [Act.put, sA, s0, s1]
        refine sy 12 29 rfl rfl ?_ (hy := by (intro w hSw; (try dsimp only at hSw); have hq := HR.out _ hSw y EY.out; obtain ⟨p0, p1⟩ := hq; go_simp; try with_reducible rfl))
        try simp only [Act.put, sA, s0, s1]
        refine sy 13 30 rfl rfl ?_
        try simp only [Act.put, sA, s0, s1]
        refine sy 14 31 rfl rfl ?_ (hy := by (intro w hSw; (try dsimp only at hSw); have hq := HB.out _ hSw; obtain ⟨⟨q0, q1, q2, q3, q4, q5, q6⟩, q7⟩ := hq; go_simp; try with_reducible rfl))
        try simp only [Act.put, sA, s0, s1]
        refine sy 15 32 rfl rfl ?_
        try simp only [Act.put, sA, s0, s1]
        refine sy 16 33 rfl rfl ?_
        try simp only [Act.put, sA, s0, s1]
        refine sy 17 34 rfl rfl ?_
        try simp only [Act.put, sA, s0, s1]
        refine wpAnyH_done (by kernel_rfl) ?_ _
        clear hHeld HB HR CHK
        have RC9 := Lib.hid (PC.out.trans C9.out)
        go_wp2
        go_round
        case rel => exact ⟨k + 1, by omega, by go_num, OT, AT, RC9⟩
        case measure => simp [RowKit.intOf]; omega
      have dq : ((y.n == x.n) : Bool) = false := by simpa using d2
      refine wp_region_held_drew (S := fun w' => Chg [] w5 w') (by kernel_rfl) (Chg.refl [] w5).drew (fun hHeld => ?_)
      refine sy 0 17 rfl rfl ?_ (hy := by (intro w hSw; (try dsimp only at hSw); have hq := HB.out _ hSw; obtain ⟨⟨q0, q1, q2, q3, q4, q5, q6⟩, q7⟩ := hq; go_simp; try with_reducible rfl))
      try simp only [Act.put, sA, s0, s1]
      refine wpAnyH_ready (rs := [1]) (by kernel_rfl) (by simp) ?_
      refine AllReadyH.cons rfl (fun K hK => ?_) AllReadyH.nil
      replace hK := Lib.hid hK
      go_simp
      refine (CHK.out _ hHeld).mono ?_
      rintro r w9 ⟨rfl, hc⟩
      rw [e1]
      have C9 := Lib.hid (hHeld.trans hc)
      clear hc hHeld
      refine hK.out _ _ C9.out (fun hHeld => ?_)
      clear hK K
      try simp only [Act.put, sA, s0, s1]
      refine sy 2 19 rfl rfl ?_
      try simp only [Act.put, sA, s0, s1]
      refine sy 3 20 rfl rfl ?_
      try simp only [Act.put, sA, s0, s1]
      refine sy 4 21 rfl rfl ?_
      try simp only [Act.put, sA, s0, s1]
      refine sy 5 22 rfl rfl ?_
      try simp only [Act.put, sA, s0, s1]
      refine sy 6 23 rfl rfl ?_
      try simp only [Act.put, sA, s0, s1]
      refine sy 7 24 rfl rfl ?_ (hy := by (intro w hSw; (try dsimp only at hSw); have hq := HB.out _ hSw; obtain ⟨⟨q0, q1, q2, q3, q4, q5, q6⟩, q7⟩ := hq; go_simp; try with_reducible rfl))
      try simp only [Act.put, sA, s0, s1]
      refine sy 8 25 rfl rfl ?_
      try simp only [Act.put, sA, s0, s1]
      refine sy 9 26 rfl rfl ?_
      try simp only [Act.put, sA, s0, s1]
      refine sy 10 27 rfl rfl ?_
      try simp only [Act.put, sA, s0, s1]
      refine sy 11 28 rfl rfl ?_
      try simp only [Act.put, sA, s0, s1]
      refine sy 12 29 rfl rfl ?_ (hy := by (intro w hSw; (try dsimp only at hSw); have hq := HR.out _ hSw y EY.out; obtain ⟨p0, p1⟩ := hq; go_simp; try with_reducible rfl))
      try simp only [Act.put, sA, s0, s1]
      refine sy 13 30 rfl rfl ?_
      try simp only [Act.put, sA, s0, s1]
      refine sy 14 31 rfl rfl ?_ (hy := by (intro w hSw; (try dsimp only at hSw); have hq := HB.out _ hSw; obtain ⟨⟨q0, q1, q2, q3, q4, q5, q6⟩, q7⟩ := hq; go_simp; try with_reducible rfl))
      try simp only [Act.put, sA, s0, s1]
      refine sy 15 32 rfl rfl ?_
      try simp only [Act.put, sA, s0, s1]
      refine sy 16 33 rfl rfl ?_
      try simp only [Act.put, sA, s0, s1]
      refine sy 17 34 rfl rfl ?_
      try simp only [Act.put, sA, s0, s1]
      refine wpAnyH_done (by kernel_rfl) ?_ _
      clear hHeld HB HR CHK
      have RC9 := Lib.hid (PC.out.trans C9.out)
      go_wp2
      go_round
      case rel => exact ⟨k + 1, by omega, by go_num, OT, AT, RC9⟩
      case measure => simp [RowKit.intOf]; omega
    · obtain rfl : k = ms.length := by omega
      have j1 : ¬ (ms.length : Int) < (ms.length : Int) := by omega
      have ET : fs.take ms.length = fs := by rw [RX.out.1]; exact List.take_length
      rw [ET] at OKK
      clear ET
      have AN : Hid (closedE fs = fs.all (bringsE fs)) := Lib.hid (closed_brings OKK.out (up_apart RX.out UP.out (fun p a b ha hb => AP.out p a b ((List.getElem?_eq_some_iff.1 hb).1) ha hb)))
      have P5 := Lib.hid (PC.out.at_ B2.out (by simp))
      have p0 := cell_of P5.out 0
      simp only [List.getElem?_toArray, List.getElem?_cons_succ, List.getElem?_cons_zero] at p0
      have SQ : Hid (∀ e ∈ fs, e.q.length ≤ 140737488351232) := Lib.hid (fun e he => (ES.out e he).2.2)
      go_wp2_with fail
      refine (evcontains_any wr gp A1 c1 ms fs P5.out (RO.out.reads.chg PC.out (by simp)) (RX.out.chg PC.out) UP.out (RF.out.chg PC.out) MN.out SQ.out).mono ?_
      rintro r w4 ⟨rfl, hc⟩
      rw [← AN.out]
      have C4 := Lib.hid ((C1.out.trans PC.out).trans hc)
      clear hc p0 AN
      go_wp2
      go_ret
      rw [CE.out]
      exact ⟨by simp, C4.out⟩
end
section
open Go.RowKit Go.WideShapes Go.ChangeShapes Go.Deep
section
variable {H : Type} {enc : TypeId × Value → H} {P : Program} {w : World} {base : Nat} {spare : Nat → Bool} {held : Bool}
end
end
section
open Go.RowKit Go.WideShapes Go.ChangeShapes Go.Deep
set_option linter.unusedSimpArgs false
set_option linter.unusedVariables false

section
variable {H : Type} {enc : TypeId × Value → H} {w : World} {base : Nat} {spare : Nat → Bool} {held : Bool}
end
end
section
open Go.RowKit Go.WideShapes Go.ChangeShapes Go.Deep
set_option linter.unusedSimpArgs false
set_option linter.unusedVariables false

def boolTy : RowTy Bool where
  enc := fun x => [.bool x]
  k := 1
  T := 4
  TS := 56
  z := false
  zv := .bool false
  bytes := 1
  klen := fun _ => rfl
  one := by intro x v hv; simp at hv; rcases hv with rfl <;> rfl
  zc := rfl
  kpos := by decide
  bpos := by decide
  under := by kernel_rfl
  info := by kernel_rfl
theorem boolCells {w : World} {g o n j : Nat} {xs : List Bool} (h : RdK boolTy w (some ⟨g, o, none⟩) n xs) {x : Bool} (hx : xs[j]? = some x) : w.cell? ⟨g, o + j, none⟩ = some (.bool x) := by
  have := h.at_ j 0 x _ hx rfl
  rwa [show boolTy.k = 1 from rfl, Nat.mul_one, Nat.add_zero] at this

section
variable {H : Type} {enc : TypeId × Value → H} {w : World} {base : Nat} {spare : Nat → Bool} {held : Bool}
theorem open_bools {n : Nat} {cs : List Value} {y : DataW H × List MemPlace} (h : DataW.trod enc Tryz.prog w base spare held n 56 cs = some y) (hz : ∀ k ∈ y.1.weights Tryz.prog 56, k ≤ reachBytes) :
    ∃ A m d zs, cs = [.slice A m d] ∧ RdK boolTy w A m zs ∧ m * 1 ≤ 140737488351232 ∧ m ≤ d := by
  rcases open_slice Tryz.underlying56 h with ⟨rfl, _⟩ | ⟨a, len, cap, m, k, D, Pl, rfl, _, hl, hm, hmm, rfl, hi⟩
  · exact ⟨none, 0, 0, [], rfl, RdK.nil _ _, by decide, by decide⟩
  · have hlm : len ≤ m := by rw [hmm]; split <;> omega
    obtain ⟨hw, _⟩ := weights_slice Tryz.underlying56 hz
    rw [show Tryz.prog.bytesOf 4 = 1 by kernel_rfl] at hw
    simp [reachBytes] at hw
    have hC : Tryz.prog.cellsOf 4 = 1 := by kernel_rfl
    obtain ⟨l, hll, hat⟩ := list_of (Q := fun i (x : Bool) => w.cell? (a.add i) = some (.bool x)) len (fun i hilt => by
      obtain ⟨cs', hc, ht⟩ := hi i (by omega)
      rw [hC] at hc
      obtain ⟨_, hcl, hat⟩ := World.cells?_some hc
      have hcs : ∃ v, cs' = [v] := by
        match cs', hcl with
        | [v], _ => exact ⟨v, rfl⟩
      obtain ⟨v, rfl⟩ := hcs
      obtain ⟨s, e, _⟩ := DataW.trod_bool Tryz.underlying4 ht
      have g0 := hat 0 (by omega)
      have e := List.singleton_inj.1 e
      subst e
      rw [add_add, Nat.mul_one, Nat.add_zero] at g0
      exact ⟨s, g0⟩)
    refine ⟨some a, len, cap, l, rfl, ⟨hll, fun j v hj => ⟨a, rfl, ?_⟩⟩, by omega, hl⟩
    have hj2 := (List.getElem?_eq_some_iff.1 hj).1
    rw [boolTy.flat_len] at hj2
    have hk : boolTy.k = 1 := rfl
    rw [hk, Nat.mul_one] at hj2
    have e := boolTy.flat_at l j 0 _ (List.getElem?_eq_getElem hj2) (by decide)
    rw [hk, Nat.mul_one, Nat.add_zero, hj] at e
    rw [hat j _ (List.getElem?_eq_getElem hj2)]
    exact e.symm
end
end
end Go.Proofs.YtfdaclifapfmdaaGreatDoor
