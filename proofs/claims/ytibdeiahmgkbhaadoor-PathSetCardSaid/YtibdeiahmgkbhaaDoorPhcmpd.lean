/- path.compare: what it draws only grows. -/
import Derived.Test.YtibdeiahmgkbhaaDoorPhcmp
import Derived.Test.YtibdeiahmgkbhaaDoorRowSort
namespace Go.Proofs.YtibdeiahmgkbhaaDoor
open Go.RowKit
set_option linter.unusedSimpArgs false
set_option linter.unusedVariables false



set_option maxRecDepth 100000 in
set_option maxHeartbeats 4000000 in
theorem genSplit_d (w : World) (l : List UInt8) (hlen : l.length ≤ 10000000) :
    Calls Tryd.prog 50 #[.string (strOf l), .string ⟨#[47]⟩, .int .i64 0, .int .i64 (-1)] w fun e w' => e = .returned (.slice (some ⟨w.heap.size, 0, none⟩) (cutL l).length (cutL l).length) ∧ w'.heap[w.heap.size]? = some (.cells ((cutL l).map tv).toArray 9 (0, 0)) ∧ (Chg [] w w' ∧ w.drawn ≤ w'.drawn) := by
  obtain ⟨N, hN⟩ : ∃ N, (cutL l).length = N := ⟨_, rfl⟩
  have hcn : l.count 47 + 1 = N := by rw [← hN]; exact (cutA_count l []).symm
  have hNl : N ≤ l.length + 1 := by rw [← hN]; exact cutA_len l []
  have hs := strOf_size l
  have HN := Lib.hid hN
  have HCN := Lib.hid hcn
  rw [hN]
  have hN1 : ((l.count 47 : Nat) : Int) + 1 = (N : Int) := by omega
  have k1 : IntKind.i64.wrap ((N : Int)) = (N : Int) := IntWalk.i64_in _ (by omega)
  have k2 : IntKind.i64.wrap ((N : Int) - 1) = (N : Int) - 1 := IntWalk.i64_in _ (by omega)
  have hmk := fun W => run_mkT N (by omega) W
  have C1 := Lib.hid (fun w => count_any w l)
  generalize hcc : ((l.count 47 : Nat) : Int) = cc at *
  have hmin : min (N : Int) ((l.length : Int) + 1) = (N : Int) := by omega
  have hN0 : 1 ≤ N := by have := HCN.out; omega
  obtain ⟨w5, hw5, c5, b5⟩ := news1 w (.cells (Array.replicate N (tv [])) 9)
  have W5 := Lib.hid hw5
  have B5 := Lib.hid (show w5.heap[w.heap.size]? = some (.cells ((List.replicate N []).map tv).toArray 9 (0, 0)) by rw [List.map_replicate, List.toArray_replicate]; exact b5)
  have C5 := Lib.hid (show Chg [] w w5 ∧ w.drawn ≤ w5.drawn from ⟨c5, by rw [hw5]; exact Nat.le_refl _⟩)
  clear hN hcn hw5 c5 b5
  go_enter Tryd.func50, Tryd.ntmps50
  go_wp2_with fail
  refine (C1.out _).mono ?_
  rintro e w1 ⟨rfl, rfl⟩
  go_wp2
  rw [← W5.out]
  go_loopw [0, 10, 11] (fun v0 v10 v11 wr => ∃ (pre : List (List UInt8)) (rest : List UInt8), v0 = .string (strOf rest) ∧ v10 = .int .i64 (pre.length : Int) ∧ Hid (pre ++ cutA [] rest = cutL l ∧ rest.length ≤ l.length ∧ pre.length + rest.count 47 + 1 = N) ∧
      Hid (wr.heap[w1.heap.size]? = some (.cells ((pre ++ List.replicate (N - pre.length) []).map tv).toArray 9 (0, 0)) ∧ (Chg [] w1 wr ∧ w1.drawn ≤ wr.drawn))) (fun _ v10 _ _ => N - (RowKit.intOf v10).toNat)
  case atStart => exact ⟨[], l, rfl, rfl, ⟨rfl, Nat.le_refl _, by have := HCN.out; simp; omega⟩, by simpa using B5.out, C5.out⟩
  case round =>
    obtain ⟨pre, rest, rfl, rfl, HP, HI⟩ := hrel
    rcases at47 rest with hno | ⟨a, b, rfl, hno⟩
    · have hc0 : rest.count 47 = 0 := List.count_eq_zero.2 hno
      have hpl : pre.length + 1 = N := by have := HP.out.2.2; omega
      have i1 : ¬ ((pre.length : Int) < (N : Int) - 1) := by omega
      have i2 : (pre.length : Int) < (N : Int) := by omega
      have i3 : (0 : Int) ≤ (pre.length : Int) := by omega
      have i4 : (pre.length : Int) + 1 ≤ (N : Int) := by omega
      have k3 : IntKind.i64.wrap ((pre.length : Int) + 1) = (pre.length : Int) + 1 := IntWalk.i64_in _ (by omega)
      have hcut := HP.out.1
      rw [cutA_no _ _ hno, List.nil_append] at hcut
      have hq := HI.out.1
      rw [show N - pre.length = 0 + 1 by omega] at hq
      have f0 := free_of hq pre.length
      have q1 := heap_setCell_same wr w1.heap.size pre.length _ _ (.string (strOf rest)) hq
      rw [row_set, List.replicate_zero, List.append_nil, hcut] at q1
      have Q1 := Lib.hid q1
      have CW := Lib.hid (show Chg [] w1 (wr.setCell ⟨w1.heap.size, pre.length, none⟩ (.string (strOf rest))) ∧ w1.drawn ≤ (wr.setCell ⟨w1.heap.size, pre.length, none⟩ (.string (strOf rest))).drawn from ⟨HI.out.2.1.setCell (p := ⟨w1.heap.size, pre.length, none⟩) (.inr (Nat.le_refl _)) (.string (strOf rest)), HI.out.2.2⟩)
      have z : ∃ u, wr.cell? ⟨w1.heap.size, pre.length, none⟩ = some u := ⟨.string (strOf []), by rw [cell_of hq]; simp [tv]⟩
      obtain ⟨u, z⟩ := z
      clear hq q1 hcut hno hc0
      go_wp2
      go_ret
      exact ⟨rfl, Q1.out, CW.out⟩
    · have hcb : (a ++ 47 :: b).count 47 = b.count 47 + 1 := by
        rw [List.count_append, List.count_eq_zero.2 hno]
        simp
      have hpl : pre.length + b.count 47 + 2 = N := by have := HP.out.2.2; omega
      have ez : (strOf (a ++ 47 :: b)).size = a.length + 1 + b.length := by rw [strOf_size]; simp; omega
      have hrl' : a.length + 1 + b.length ≤ l.length := by have := HP.out.2.1; rw [← strOf_size, ez] at this; exact this
      have i0 : (0 : Int) ≤ (a.length : Int) := by omega
      have i1 : (pre.length : Int) < (N : Int) - 1 := by omega
      have i2 : (pre.length : Int) < (N : Int) := by omega
      have i3 : (0 : Int) ≤ (pre.length : Int) := by omega
      have i5 : ¬ ((a.length : Int) < 0) := by omega
      have i6 : (a.length : Int) ≤ ((strOf (a ++ 47 :: b)).size : Int) := by rw [ez]; omega
      have i7 : (a.length : Int) + 1 ≤ ((strOf (a ++ 47 :: b)).size : Int) := by rw [ez]; omega
      have i8 : a.length + 1 ≤ 140737488351232 := by omega
      have k3 : IntKind.i64.wrap ((pre.length : Int) + 1) = (pre.length : Int) + 1 := IntWalk.i64_in _ (by omega)
      have e1 : (strOf (a ++ 47 :: b)).extract 0 a.length = strOf a := by rw [strOf_ext]; simp
      have e2 : (strOf (a ++ 47 :: b)).extract (a.length + 1) (a.length + 1 + b.length) = strOf b := by
        rw [strOf_ext]
        congr 1
        rw [show (a ++ 47 :: b).drop (a.length + 1) = b by rw [show a ++ 47 :: b = (a ++ [47]) ++ b by simp]; exact List.drop_left' (by simp)]
        exact List.take_of_length_le (by omega)
      have hcut := HP.out.1
      rw [cutA_at _ _ _ hno, List.nil_append] at hcut
      have hq := HI.out.1
      rw [show N - pre.length = (N - (pre.length + 1)) + 1 by omega] at hq
      have f0 := free_of hq pre.length
      have q1 := heap_setCell_same wr w1.heap.size pre.length _ _ (.string (strOf a)) hq
      rw [row_set] at q1
      have Q1 := Lib.hid q1
      have CW := Lib.hid (show Chg [] w1 (wr.setCell ⟨w1.heap.size, pre.length, none⟩ (.string (strOf a))) ∧ w1.drawn ≤ (wr.setCell ⟨w1.heap.size, pre.length, none⟩ (.string (strOf a))).drawn from ⟨HI.out.2.1.setCell (p := ⟨w1.heap.size, pre.length, none⟩) (.inr (Nat.le_refl _)) (.string (strOf a)), HI.out.2.2⟩)
      have z : ∃ u, wr.cell? ⟨w1.heap.size, pre.length, none⟩ = some u := ⟨.string (strOf []), by rw [cell_of hq]; simp [tv, List.replicate_succ]⟩
      obtain ⟨u, z⟩ := z
      have CI := Lib.hid (fun w => index_at w a b hno)
      have HQ := Lib.hid hcut
      have HPL := Lib.hid hpl
      clear hq q1 hcut hno hcb hpl
      go_wp2_with fail
      refine (CI.out _).mono ?_
      rintro e w2 ⟨rfl, rfl⟩
      go_wp2
      refine ⟨⟨pre ++ [a], b, ?_, by simp, ⟨by rw [← HQ.out]; simp, by omega, by have := HPL.out; simp; omega⟩, ⟨by have := Q1.out; simpa using this, CW.out⟩⟩, by simp [RowKit.intOf]; omega⟩
      first | rfl | (rw [e2]) | (simp only [ez, e2])

theorem split_d (w : World) (l : List UInt8) (hlen : l.length ≤ 10000000) :
    Calls Tryd.prog 35 #[.string (strOf l), .string ⟨#[47]⟩] w fun e w' => e = .returned (.slice (some ⟨w.heap.size, 0, none⟩) (cutL l).length (cutL l).length) ∧ w'.heap[w.heap.size]? = some (.cells ((cutL l).map tv).toArray 9 (0, 0)) ∧ (Chg [] w w' ∧ w.drawn ≤ w'.drawn) := by
  have CG := Lib.hid (fun w => genSplit_d w l hlen)
  generalize cutL l = xs at *
  go_enter Tryd.func35, Tryd.ntmps35
  go_wp2_with fail
  refine (CG.out _).mono ?_
  rintro e w1 ⟨rfl, hq, hc⟩
  have HQ := Lib.hid hq
  clear hq
  go_wp2
  go_ret
  exact ⟨rfl, HQ.out, hc⟩

set_option maxHeartbeats 2000000 in
theorem phcompare_d (w : World) (a b : List UInt8) (ha : a.length ≤ 10000000) (hb : b.length ≤ 10000000) :
    Calls Tryd.prog 46 #[.string (strOf a), .string (strOf b)] w fun e w' => e = .returned (.int .i64 (cmpT (cutL a) (cutL b))) ∧ (Chg [] w w' ∧ w.drawn ≤ w'.drawn) := by
  by_cases hab : a = b
  · subst hab
    rw [cmpT_self]
    have h1 : (a == a) = true := by simp
    go_enter Tryd.func46, Tryd.ntmps46
    go_wp2
    go_ret
    exact ⟨rfl, Chg.refl _ _, Nat.le_refl _⟩
  · have h1 : (a == b) = false := by simpa using hab
    have h2 := str_ne hab
    have S1 := Lib.hid (fun w => split_d w a ha)
    have S2 := Lib.hid (fun w => split_d w b hb)
    have L1 := Lib.hid (show (cutL a).length ≤ 100000000 by have := cutA_len a []; show (cutA [] a).length ≤ _; omega)
    have L2 := Lib.hid (show (cutL b).length ≤ 100000000 by have := cutA_len b []; show (cutA [] b).length ≤ _; omega)
    generalize cutL a = xs at *
    generalize cutL b = ys at *
    go_enter Tryd.func46, Tryd.ntmps46
    go_wp2_with fail
    refine (S1.out _).mono ?_
    rintro e w1 ⟨rfl, hq1, hc1⟩
    have Q1 := Lib.hid hq1
    have C1 := Lib.hid hc1
    have hg := lt_of_heap hq1
    clear hq1 hc1
    go_wp2_with fail
    refine (S2.out _).mono ?_
    rintro e w2 ⟨rfl, hq2, hc2⟩
    have RA := Lib.hid (rd_text (hc2.1.at_ Q1.out (by simp)) (by have := L1.out; unfold maxLen; omega))
    have RB := Lib.hid (rd_text hq2 (by have := L2.out; unfold maxLen; omega))
    have C2 := Lib.hid (show Chg [] w w2 ∧ w.drawn ≤ w2.drawn from ⟨C1.out.1.trans hc2.1, Nat.le_trans C1.out.2 hc2.2⟩)
    clear hq2 hc2
    go_wp2_with fail
    refine (compareFunc_any _ _ _ _ _ xs ys RA.out RB.out L1.out L2.out).mono ?_
    rintro e w3 ⟨rfl, rfl⟩
    go_wp2
    go_ret
    exact ⟨rfl, C2.out⟩

theorem grow_of {w w' : World} (h : Chg [] w w') (hd : w.drawn ≤ w'.drawn) : ∃ q os, w' = Sort.grow (w.drewN q) os := by
  refine ⟨w'.drawn - w.drawn, w'.heap.extract w.heap.size w'.heap.size, ?_⟩
  obtain ⟨h1, h2, h3, h4, h5⟩ := h
  obtain ⟨hp, tp, dr, os, ou⟩ := w'
  obtain ⟨hp0, tp0, dr0, os0, ou0⟩ := w
  simp only at h1 h2 h3 h4 h5 hd ⊢
  subst h1 h2 h3
  simp only [Sort.grow, World.drewN, World.mk.injEq, true_and, and_true]
  refine ⟨?_, by omega⟩
  apply Array.ext_getElem?
  intro i
  by_cases hi : i < hp0.size
  · rw [Array.getElem?_append_left hi]
    exact h5 i hi (by simp)
  · rw [Array.getElem?_append_right (by omega), Array.getElem?_extract]
    by_cases hj : i < hp.size
    · rw [if_pos (by omega)]
      congr 1
      omega
    · rw [if_neg (by omega), Array.getElem?_eq_none (by omega)]
end Go.Proofs.YtibdeiahmgkbhaaDoor
