/- The document's Less. -/
import Derived.Test.YtibdeiahmgkbhaaDoorPhcmp
namespace Go.Proofs.YtibdeiahmgkbhaaDoor
open Go.RowKit
set_option linter.unusedSimpArgs false
set_option linter.unusedVariables false
set_option maxRecDepth 100000 in
set_option maxHeartbeats 4000000 in
theorem qhless_any (w : World) (a b : List UInt8) (ha : a.length ≤ 10000000) (hb : b.length ≤ 10000000) :
    Calls Tryd.prog 31 #[.string (strOf a), .string (strOf b)] w fun e w' => e = .returned (.bool (lessL a b)) ∧ Chg [] w w' := by
  have S1 := Lib.hid (fun w => qcut_any w a ha)
  have S2 := Lib.hid (fun w => qcut_any w b hb)
  have L1 := Lib.hid (show (cutL a).length ≤ 100000000 by have := cutA_len a []; show (cutA [] a).length ≤ _; omega)
  have L2 := Lib.hid (show (cutL b).length ≤ 100000000 by have := cutA_len b []; show (cutA [] b).length ≤ _; omega)
  unfold lessL
  generalize cutL a = xs at *
  generalize cutL b = ys at *
  obtain ⟨R, hR⟩ : ∃ R, cmpT xs ys = R := ⟨_, rfl⟩
  rw [hR]
  have HR := Lib.hid hR
  clear hR
  go_enter Tryd.func31, Tryd.ntmps31
  go_wp2_with fail
  refine (S1.out _).mono ?_
  rintro e w1 ⟨A, c, rfl, o1, _, hc1⟩
  have O1 := Lib.hid o1
  have C1 := Lib.hid hc1
  clear o1 hc1
  go_wp2_with fail
  refine (S2.out _).mono ?_
  rintro e w2 ⟨B, d, rfl, o2, _, hc2⟩
  have HA := Lib.hid (O1.out.chg hc2 (by simp)).reads
  have HB := Lib.hid o2.reads
  have C2 := Lib.hid (C1.out.trans hc2)
  clear o2 hc2
  have hx := L1.out
  have hy := L2.out
  go_wp2
  go_loopw [7] (fun v7 wr => ∃ k : Nat, k ≤ xs.length ∧ k ≤ ys.length ∧ v7 = .int .i64 (k : Int) ∧ Hid (cmpT (xs.drop k) (ys.drop k) = R) ∧ Hid (Chg [] w2 wr)) (fun v7 _ => xs.length - (RowKit.intOf v7).toNat)
  case atStart => exact ⟨0, Nat.zero_le _, Nat.zero_le _, rfl, HR, Chg.refl _ _⟩
  case round =>
    obtain ⟨k, hk, hk2, rfl, HC, HI⟩ := hrel
    have k1 : IntKind.i64.wrap ((k : Int) + 1) = (k : Int) + 1 := IntWalk.i64_in _ (by omega)
    have i0 : (0 : Int) ≤ (k : Int) := by omega
    by_cases hlt : k < xs.length
    · have i1 : (k : Int) < (xs.length : Int) := by omega
      by_cases hlt2 : k < ys.length
      · have i2 : (k : Int) < (ys.length : Int) := by omega
        obtain ⟨g, o, eA, _⟩ := HA.out.line (by omega)
        subst eA
        obtain ⟨g2, o2, eB, _⟩ := HB.out.line (by omega)
        subst eB
        have ex := List.getElem?_eq_getElem hlt
        have z := textCells (HA.out.chg HI.out (by simp)) ex
        have ey := List.getElem?_eq_getElem hlt2
        have z2 := textCells (HB.out.chg HI.out (by simp)) ey
        have HT := Lib.hid (cmpT_at xs ys k hlt hlt2)
        generalize xs[k] = x at *
        generalize ys[k] = y at *
        clear ex ey
        by_cases hxy : x = y
        · subst hxy
          have HQ := Lib.hid (HC.out.symm.trans (HT.out.trans (if_pos (cb_self x))))
          have h1 : (x == x) = true := by simp
          go_wp2
          go_quiet (fail)
          go_wp2
          exact ⟨⟨k + 1, by omega, by omega, by simp, Lib.hid HQ.out.symm, Lib.hid (HI.out.drewN _)⟩, by simp [RowKit.intOf]; omega⟩
        · have hcb : ¬ Lib.compareBytes x y = 0 := fun e => hxy (cb_zero x y e)
          have HQ := Lib.hid (HC.out.symm.trans (HT.out.trans (if_neg hcb)))
          have h1 : (x == y) = false := by simpa using hxy
          have h2 := str_ne hxy
          have HL := Lib.hid (cb_less x y)
          clear hcb
          go_wp2
          go_quiet (fail)
          go_wp2
          go_quiet (fail)
          go_wp2
          go_ret
          exact ⟨congrArg (fun v => Ending.returned (Value.bool v)) (by rw [HL.out, HQ.out]), ((C2.out.trans HI.out).drewN _).drewN _⟩
      · have i2 : ¬ ((k : Int) < (ys.length : Int)) := by omega
        have i4 : ¬ ((xs.length : Int) < (ys.length : Int)) := by omega
        have HQ := Lib.hid (HC.out.symm.trans (cmpT_end1 xs ys k hlt (by omega)))
        go_wp2
        go_ret
        exact ⟨by rw [HQ.out]; rfl, C2.out.trans HI.out⟩
    · have i1 : ¬ ((k : Int) < (xs.length : Int)) := by omega
      by_cases hl2 : xs.length < ys.length
      · have i4 : (xs.length : Int) < (ys.length : Int) := by omega
        have HQ := Lib.hid (HC.out.symm.trans (cmpT_endm xs ys k (by omega) (by omega)))
        go_wp2
        go_ret
        exact ⟨by rw [HQ.out]; rfl, C2.out.trans HI.out⟩
      · have i4 : ¬ ((xs.length : Int) < (ys.length : Int)) := by omega
        have HQ := Lib.hid (HC.out.symm.trans (cmpT_end0 xs ys k (by omega) (by omega)))
        go_wp2
        go_ret
        exact ⟨by rw [HQ.out]; rfl, C2.out.trans HI.out⟩
end Go.Proofs.YtibdeiahmgkbhaaDoor
