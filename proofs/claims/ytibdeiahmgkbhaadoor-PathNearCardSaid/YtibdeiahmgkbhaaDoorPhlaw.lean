/- PathNear, walked. -/
import Derived.Test.YtibdeiahmgkbhaaDoorQhless
import Derived.Test.YtibdeiahmgkbhaaDoorPhlong
import Derived.Test.YtibdeiahmgkbhaaDoorPathAwake
import Derived.Test.YtibdeiahmgkbhaaDoorLaid0
namespace Go.Proofs.YtibdeiahmgkbhaaDoor
open Go.RowKit
set_option linter.unusedSimpArgs false
set_option linter.unusedVariables false
/-- Nothing is asked of the variables. -/
def TabN (_ : World) : Prop := True
theorem TabN.laid {W : World} (_h : laidMetH Tryd.prog tables W) : TabN W := trivial
theorem below_chg {w w' : World} (h : Below w.heap.size w w') : Chg [] w w' := ⟨h.os, h.tape, h.output, h.size, fun k hk _ => h.block k hk⟩
set_option maxRecDepth 100000 in
set_option maxHeartbeats 4000000 in
theorem pathnear_walk (w : World) (a b : List UInt8) (ha : a.length ≤ 140737488351232) (hb : b.length ≤ 140737488351232) :
    Calls Tryd.prog 4 #[.string (strOf a), .string (strOf b)] w fun e w' => e = .returned (.bool true) ∧ Chg [] w w' := by
  obtain ⟨w1, hw1, c1, b1⟩ := news1 w (.cells #[.string (strOf a), .string (strOf b)] 9)
  have W1 := Lib.hid hw1
  have R1 := Lib.hid (OwnK.of (R := textTy) (c := 2) (full := [a, b]) (xs := [a, b]) b1 (Nat.le_refl _) (by decide) rfl rfl).reads
  have K1 := Lib.hid c1
  have LG := Lib.hid (fun W h => long_any W (some ⟨w.heap.size, 0, none⟩) 2 [a, b] h (by simp))
  have AW := Lib.hid (fun W => pathAwake_run W)
  have hlt : longT [a, b] = (decide (200 < a.length) || decide (200 < b.length)) := by simp [longT]
  rw [hlt] at LG
  obtain ⟨p, hp⟩ : ∃ p, (decide (200 < a.length) || decide (200 < b.length)) = p := ⟨_, rfl⟩
  rw [hp] at LG
  clear hw1 c1 b1 hlt
  cases p with
  | true =>
    clear hp
    go_enter Tryd.func4, Tryd.ntmps4
    go_wp2_with fail
    rw [← W1.out]
    refine (LG.out _ R1.out).mono ?_
    rintro e w2 ⟨rfl, rfl⟩
    go_wp2_with fail
    refine (AW.out _).mono ?_
    rintro e w3 ⟨rfl, hc⟩
    go_wp2
    go_ret
    exact ⟨rfl, K1.out.trans hc⟩
  | false =>
    have ha2 : a.length ≤ 200 := by simp at hp; omega
    have hb2 : b.length ≤ 200 := by simp at hp; omega
    have C1 := Lib.hid (fun w => phunder_any w a b ha hb)
    have C2 := Lib.hid (fun w => qhunder_any w a b (by omega) (by omega))
    have C3 := Lib.hid (fun w => phnear_any w a b ha hb)
    have C4 := Lib.hid (fun w => qhnear_any w a b (by omega) (by omega))
    have C5 := Lib.hid (fun w => phless_any w a b (by omega) (by omega))
    have C6 := Lib.hid (fun w => qhless_any w a b (by omega) (by omega))
    clear hp ha hb ha2 hb2
    generalize underL a b = p1 at *
    generalize nearL a b = p2 at *
    generalize lessL a b = p3 at *
    have e1 : (p1 == p1) = true := by simp
    have e2 : (p2 == p2) = true := by simp
    have e3 : (p3 == p3) = true := by simp
    go_enter Tryd.func4, Tryd.ntmps4
    go_wp2_with fail
    rw [← W1.out]
    refine (LG.out _ R1.out).mono ?_
    rintro e w2 ⟨rfl, rfl⟩
    go_wp2_with fail
    refine (C1.out _).mono ?_
    rintro e w3 ⟨rfl, h3⟩
    have K3 := Lib.hid (K1.out.trans (below_chg h3))
    clear h3
    go_wp2_with fail
    refine (C2.out _).mono ?_
    rintro e w4 ⟨rfl, h4⟩
    have K4 := Lib.hid (K3.out.trans h4)
    clear h4
    go_wp2_with fail
    refine (C3.out _).mono ?_
    rintro e w5 ⟨rfl, h5⟩
    have K5 := Lib.hid (K4.out.trans (below_chg h5))
    clear h5
    go_wp2_with fail
    refine (C4.out _).mono ?_
    rintro e w6 ⟨rfl, h6⟩
    have K6 := Lib.hid (K5.out.trans h6)
    clear h6
    go_wp2_with fail
    refine (C5.out _).mono ?_
    rintro e w7 ⟨rfl, h7⟩
    have K7 := Lib.hid (K6.out.trans h7)
    clear h7
    go_wp2_with fail
    refine (C6.out _).mono ?_
    rintro e w8 ⟨rfl, h8⟩
    have K8 := Lib.hid (K7.out.trans h8)
    clear h8
    go_wp2_with fail
    refine (AW.out _).mono ?_
    rintro e w9 ⟨rfl, h9⟩
    have K9 := Lib.hid (K8.out.trans h9)
    clear h9
    go_wp2
    go_ret
    exact ⟨rfl, K9.out⟩
theorem pathnear_yes (w : World) (s t : ByteArray) (hs : s.size ≤ 140737488351232) (ht : t.size ≤ 140737488351232) :
    Calls Tryd.prog 4 #[.string s, .string t] w fun e w' => e = .returned (.bool true) ∧ Chg [] w w' := by
  have := pathnear_walk w s.data.toList t.data.toList (by simpa using hs) (by simpa using ht)
  rwa [strOf_of, strOf_of] at this
end Go.Proofs.YtibdeiahmgkbhaaDoor
