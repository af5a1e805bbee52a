/- PrintTexts. -/
import Derived.Test.YtphchggabcbfkaaDoorPref
namespace Go.Proofs.YtphchggabcbfkaaDoor
open Go.RowKit
set_option linter.unusedSimpArgs false
set_option linter.unusedVariables false
set_option maxRecDepth 100000 in
set_option maxHeartbeats 2000000 in
theorem texts_true (w : World) (hT : Tab w) (n : Int) (h0 : 0 ≤ n) (h1 : n ≤ 18446744073709551615) (s : ByteArray) (hs : s.size ≤ 140737488351232) :
    Calls Tryd.prog 4 #[.int .u64 n, .string s] w fun r w' => r = .returned (.bool true) ∧ Chg [] w w' := by
  have HT := Lib.hid hT
  clear hT
  obtain ⟨u, rfl⟩ : ∃ u : Nat, n = (u : Int) := ⟨n.toNat, by omega⟩
  have hu : u < 18446744073709551616 := by omega
  have HU := Lib.hid hu
  clear hu h0 h1
  go_enter Tryd.func4, Tryd.ntmps4
  refine (Decidable.em (100 < s.size)).elim (fun hp => ?big) (fun hp => ?small)
  case big =>
    go_wp2_with fail
    refine (awake2 _ HT.out).mono ?_
    rintro r w1 ⟨rfl, c1⟩
    go_wp2
    go_ret
    exact ⟨rfl, c1⟩
  case small =>
    go_wp2_with fail
    refine (parse_any _ s hs).mono ?_
    rintro r w1 ⟨rfl, c1⟩
    obtain ⟨v, e, a, hr⟩ : ∃ v e a, parseR s.data.toList = (v, e, a) := ⟨_, _, _, rfl⟩
    rw [hr]
    have HR := Lib.hid hr
    clear hr
    simp only [faultV]
    have C1 := Lib.hid (c1.alloc (.cells #[.int .i64 e, .int .i64 a] 35))
    have B1 := Lib.hid (heap_alloc_new w1 (.cells #[.int .i64 e, .int .i64 a] 35))
    clear c1
    go_wp2_with fail
    refine (pref_any _ s hs).mono ?_
    rintro r w2 ⟨rfl, c2⟩
    rw [HR.out]
    simp only [faultV]
    have C2 := Lib.hid ((C1.out.trans c2).alloc (.cells #[.int .i64 e, .int .i64 a] 35))
    have A2 := (c2.alloc (.cells #[.int .i64 e, .int .i64 a] 35)).at_ B1.out (by simp)
    have B2 := heap_alloc_new w2 (.cells #[.int .i64 e, .int .i64 a] 35)
    have k1 := cell_of A2 0
    have k2 := cell_of A2 1
    have k3 := cell_of B2 0
    have k4 := cell_of B2 1
    simp at k1 k2 k3 k4
    clear c2 B1 C1 A2 B2
    have ev : (v == v) = true := by simp
    have ee : (e == e) = true := by simp
    have ea : (a == a) = true := by simp
    go_wp2_with fail
    refine (text_ok _ u HU.out (HT.out.chg C2.out)).mono ?_
    rintro r w3 ⟨rfl, c3⟩
    have C3 := Lib.hid (C2.out.trans c3)
    clear c3 C2 k1 k2 k3 k4
    go_wp2_with fail
    refine (ptext_any _ u HU.out).mono ?_
    rintro r w4 ⟨rfl, c4⟩
    have C4 := Lib.hid (C3.out.trans c4)
    clear c4 C3
    go_wp2_with fail
    refine (awake2 _ (HT.out.chg C4.out)).mono ?_
    rintro r w5 ⟨rfl, c5⟩
    go_wp2
    go_ret
    exact ⟨rfl, C4.out.trans c5⟩
end Go.Proofs.YtphchggabcbfkaaDoor
