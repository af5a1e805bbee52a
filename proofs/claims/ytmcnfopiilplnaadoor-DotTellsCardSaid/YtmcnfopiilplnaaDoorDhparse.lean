/- The document's Parse. -/
import Derived.Test.YtmcnfopiilplnaaDoorDnumber
import Derived.Deep.RegionHeld3
namespace Go.Proofs.YtmcnfopiilplnaaDoor
open Go.RowKit Go.Lib
set_option linter.unusedSimpArgs false
set_option linter.unusedVariables false


theorem cut_at {l : List UInt8} {k : Nat} (hk : k < l.length) (hn : 46 ∉ l.take k) (h : l[k] = 46) : cutDot l = some (l.take k, l.drop (k + 1)) := by
  have e : l = l.take k ++ 46 :: l.drop (k + 1) := by rw [← h, ← List.drop_eq_getElem_cons hk, List.take_append_drop]
  conv => lhs; rw [e]
  exact cutDot_app _ _ hn
theorem parseD_at {l a b : List UInt8} (h : cutDot l = some (a, b)) : parseD l = if FineD (refN a) (refN b) then (((refN a : Int), (refN b : Int)), (0 : Int)) else ((0, 0), 2) := by
  unfold parseD
  rw [h]

set_option maxHeartbeats 4000000 in
theorem hparse_any (w : World) (s : ByteArray) (hs : s.size ≤ 140737488351232) :
    Calls Tryd.prog 32 #[.string s] w fun e w' => e = .returned (.tuple #[.agg #[.int .i64 (parseD s.data.toList).1.1, .int .i64 (parseD s.data.toList).1.2], .int .i64 (parseD s.data.toList).2]) ∧ Chg [] w w' := by
  have hl : s.data.toList.length = s.size := by rw [Array.length_toList]; rfl
  have HP := Lib.hid (fun (w' : World) (j : Nat) (v : Value) (h : Chg [] w w') => h.put (s := w.heap.size) (Nat.le_refl _) j v)
  have C := Lib.hid (Chg.refl [] w)
  have HL := Lib.hid hl
  clear hl
  generalize hR : parseD s.data.toList = R
  have HR := Lib.hid hR
  clear hR
  obtain ⟨w1, hw1, cw1, b_B0⟩ := news1 w (.cells #[.int .i64 0, .int .i64 0] 23)
  have Ww1 := Lib.hid hw1
  have l_B0 := lt_of_heap b_B0
  replace C := Lib.hid (C.out.trans cw1)
  have B0 := Lib.hid (b_B0)
  clear hw1 cw1 b_B0
  go_enter Tryd.func32, Tryd.ntmps32
  go_wp2_with fail
  rw [← Ww1.out]
  generalize w.heap.size = s0 at *
  clear Ww1
  go_loop [4] (fun i => ∃ k : Nat, k ≤ s.size ∧ i = .int .i64 k ∧ Hid (46 ∉ s.data.toList.take k)) (fun i => s.size - (RowKit.intOf i).toNat)
  case atStart => exact ⟨0, Nat.zero_le _, rfl, by unfold Hid; simp⟩
  case round =>
    obtain ⟨k, hk, rfl, HA⟩ := hrel
    by_cases hlt : k < s.size
    · have hb := s[k].toNat_lt
      have hts := take_snoc_ s k hlt
      have HTS := Lib.hid hts
      clear hts
      by_cases hd : ((s[k].toNat : Int) == 46) = true
      · have hd2 : (s[k].toNat : Int) = 46 := by simpa using hd
        have h46 : s.data.toList[k]'(by have := HL.out; omega) = 46 := UInt8.toNat_inj.1 (show s[k].toNat = 46 by omega)
        have hc := cut_at (by have := HL.out; omega) HA.out h46
        obtain ⟨hz, e1, e2⟩ := str_split (cutDot_some hc).1
        have hpd := parseD_at hc
        rw [HR.out] at hpd
        have hlk : (s.data.toList.take k).length = k := by rw [List.length_take]; have := HL.out; omega
        rw [hlk] at e1 e2 hz
        have n1 := fun w => hnumber_any w (s.extract 0 k) (by rw [e1, strOf_size]; omega)
        rw [e1, strOf_data, ← e1] at n1
        have n2 := fun w => hnumber_any w (s.extract (k + 1) s.size) (by rw [e2, strOf_size]; omega)
        rw [e2, strOf_data, ← e2] at n2
        have i1 : (0 : Int) ≤ (k : Int) := by omega
        have i2 : (k : Int) ≤ (s.size : Int) := by omega
        have i3 : (k : Int) + 1 ≤ (s.size : Int) := by omega
        have i4 : (0 : Int) ≤ (k : Int) + 1 := by omega
        have i5 : IntKind.i64.wrap ((k : Int) + 1) = (k : Int) + 1 := IntWalk.i64_in _ (by omega)
        have i6 : k + 1 ≤ s.size := by omega
        generalize refN (s.data.toList.take k) = x at *
        generalize refN (s.data.toList.drop (k + 1)) = y at *
        have N1 := Lib.hid n1
        have N2 := Lib.hid n2
        have HPD := Lib.hid hpd
        have hk := fun w => hcheck_any w x y
        have HK := Lib.hid hk
        clear n1 n2 hpd hk hc e1 e2 hz hlk h46 hd2 HTS
        go_wp2
        go_region_held3 (fun w' => Chg [] w1 w') (first | exact (Chg.refl [] w1).drew | exact ((Chg.refl [] w1).alloc _).drew | (have hC := ‹Chg [] w1 _›; first | exact hC.alloc _ | exact hC))
          (((first | (go_at_call 43; (first | (with_reducible refine (N1.out _).mono ?_) | (with_reducible refine (N2.out _).mono ?_)); rintro e w9 ⟨rfl, rfl⟩))))
        all_goals
          rename_i hH
          clear hH N1 N2 HL
          obtain ⟨wa, hwa, c2, b2⟩ : ∃ wa : World, wa = (w1.alloc (.cells #[.int .i64 x, .int .i64 y] 23)).drew ∧ Chg [] w1 wa ∧ wa.heap[w1.heap.size]? = some (.cells #[.int .i64 x, .int .i64 y] 23 (0, 0)) := ⟨_, rfl, ((Chg.refl [] w1).alloc _).drew, heap_alloc_new w1 _⟩
          rw [← hwa]
          clear hwa
          generalize w1.heap.size = s2 at *
          have B2 := Lib.hid (b2)
          replace B0 := Lib.hid (c2.at_ B0.out (by simp))
          replace C := Lib.hid (C.out.trans c2)
          clear c2 b2
          have z_B2_0 := cell_of B2.out 0
          have z_B2_1 := cell_of B2.out 1
          simp only [List.getElem?_toArray, List.getElem?_cons_succ, List.getElem?_cons_zero] at z_B2_0 z_B2_1
          go_wp2_with fail
          refine (HK.out wa).mono ?_
          rintro e wb ⟨rfl, c3⟩
          clear z_B2_0 z_B2_1
          replace B0 := Lib.hid (c3.at_ B0.out (by simp))
          replace B2 := Lib.hid (c3.at_ B2.out (by simp))
          replace C := Lib.hid (C.out.trans c3)
          clear c3 HK
          by_cases hf : FineD x y
          · have hpd := HPD.out
            rw [if_pos hf] at hpd
            replace HPD := Lib.hid hpd
            rw [chkD_fine hf]
            clear hf hpd
            have z_B2_0 := cell_of B2.out 0
            have z_B2_1 := cell_of B2.out 1
            simp only [List.getElem?_toArray, List.getElem?_cons_succ, List.getElem?_cons_zero] at z_B2_0 z_B2_1
            have z_B0_0 := cell_of B0.out 0
            have f_B0_0 := free_of B0.out 0
            have z_B0_1 := cell_of B0.out 1
            have f_B0_1 := free_of B0.out 1
            simp only [List.getElem?_toArray, List.getElem?_cons_succ, List.getElem?_cons_zero] at z_B0_0 z_B0_1
            have HPP := Lib.hid (put2_0 (.int .i64 x) (.int .i64 y) B0.out)
            have CW := Lib.hid ((HP.out _ 1 (.int .i64 y) (HP.out _ 0 (.int .i64 x) C.out)))
            go_wp2_with fail
            clear z_B2_0 z_B2_1 z_B0_0 f_B0_0 z_B0_1 f_B0_1
            generalize ((wb.setCell ⟨s0, 0, none⟩ (.int .i64 x)).setCell ⟨s0, 1, none⟩ (.int .i64 y)) = W at *
            have z0 := cell_of HPP.out 0
            have z1 := cell_of HPP.out 1
            simp only [List.getElem?_toArray, List.getElem?_cons_succ, List.getElem?_cons_zero] at z0 z1
            exact bodyPost_ret (v := .tuple #[.agg #[.int .i64 x, .int .i64 y], .int .i64 0]) (by simp [results, Tryd.results32, go_sem, z0, z1]) rfl ⟨by rw [HPD.out], CW.out⟩
          · have hpd := HPD.out
            rw [if_neg hf] at hpd
            replace HPD := Lib.hid hpd
            rw [chkD_odd hf]
            clear hf hpd
            have z_B2_0 := cell_of B2.out 0
            have z_B2_1 := cell_of B2.out 1
            simp only [List.getElem?_toArray, List.getElem?_cons_succ, List.getElem?_cons_zero] at z_B2_0 z_B2_1
            have z_B0_0 := cell_of B0.out 0
            have f_B0_0 := free_of B0.out 0
            have z_B0_1 := cell_of B0.out 1
            have f_B0_1 := free_of B0.out 1
            simp only [List.getElem?_toArray, List.getElem?_cons_succ, List.getElem?_cons_zero] at z_B0_0 z_B0_1
            have HPP := Lib.hid (put2_0 (.int .i64 0) (.int .i64 0) B0.out)
            have CW := Lib.hid ((HP.out _ 1 (.int .i64 0) (HP.out _ 0 (.int .i64 0) C.out)))
            go_wp2_with fail
            clear z_B2_0 z_B2_1 z_B0_0 f_B0_0 z_B0_1 f_B0_1
            generalize ((wb.setCell ⟨s0, 0, none⟩ (.int .i64 0)).setCell ⟨s0, 1, none⟩ (.int .i64 0)) = W at *
            have z0 := cell_of HPP.out 0
            have z1 := cell_of HPP.out 1
            simp only [List.getElem?_toArray, List.getElem?_cons_succ, List.getElem?_cons_zero] at z0 z1
            exact bodyPost_ret (v := .tuple #[.agg #[.int .i64 0, .int .i64 0], .int .i64 2]) (by simp [results, Tryd.results32, go_sem, z0, z1]) rfl ⟨by rw [HPD.out], CW.out⟩
      · have hd2 : ((s[k].toNat : Int) == 46) = false := by simpa using hd
        have hn : 46 ∉ s.data.toList.take (k + 1) := by
          rw [HTS.out, List.mem_append, not_or]
          refine ⟨HA.out, fun h => ?_⟩
          rw [List.mem_singleton] at h
          rw [← h] at hd2
          exact absurd hd2 (by decide)
        have HN := Lib.hid hn
        clear hn hd HTS
        go_wp2
        go_round
        case rel => exact ⟨k + 1, by omega, by go_num, HN⟩
        case measure => simp [RowKit.intOf]; omega
    · obtain rfl : k = s.size := by omega
      have hc : cutDot s.data.toList = none := by
        have := HA.out
        rw [List.take_of_length_le (by have := HL.out; omega)] at this
        exact cutDot_none.2 this
      have hpd : R = ((0, 0), 2) := by rw [← HR.out]; unfold parseD; rw [hc]
      have HPD := Lib.hid hpd
      clear hc hpd hlt HL
      have z_B0_0 := cell_of B0.out 0
      have f_B0_0 := free_of B0.out 0
      have z_B0_1 := cell_of B0.out 1
      have f_B0_1 := free_of B0.out 1
      simp only [List.getElem?_toArray, List.getElem?_cons_succ, List.getElem?_cons_zero] at z_B0_0 z_B0_1
      have HPP := Lib.hid (put2_0 (.int .i64 0) (.int .i64 0) B0.out)
      have CW := Lib.hid ((HP.out _ 1 (.int .i64 0) (HP.out _ 0 (.int .i64 0) C.out)))
      go_wp2_with fail
      clear z_B0_0 f_B0_0 z_B0_1 f_B0_1
      generalize ((w1.setCell ⟨s0, 0, none⟩ (.int .i64 0)).setCell ⟨s0, 1, none⟩ (.int .i64 0)) = W at *
      have z0 := cell_of HPP.out 0
      have z1 := cell_of HPP.out 1
      simp only [List.getElem?_toArray, List.getElem?_cons_succ, List.getElem?_cons_zero] at z0 z1
      exact bodyPost_ret (v := .tuple #[.agg #[.int .i64 0, .int .i64 0], .int .i64 2]) (by simp [results, Tryd.results32, go_sem, z0, z1]) rfl ⟨by rw [HPD.out], CW.out⟩
end Go.Proofs.YtmcnfopiilplnaaDoor
