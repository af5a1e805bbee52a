/- The walk of EffectBack. -/
import Derived.Test.YtbihcoidbfoaoaaEknown
import Derived.Test.YtbihcoidbfoaoaaEmath
import Derived.Test.YtbihcoidbfoaoaaEfv
namespace Go.Proofs.Ytbihcoidbfoaoaa
open Go.RowKit
set_option linter.unusedSimpArgs false

theorem effO_fine {k m : Int} {ys : List UInt8} (h : Fine k m ys.length) : effO k m ys = effB k m ys := if_pos h
theorem effO_odd {k m : Int} {ys : List UInt8} (h : ¬ Fine k m ys.length) : effO k m ys = [] := if_neg h

/-- What stands behind the first half: the effect's box, and ok. -/
def Half (w w' : World) (s : Nat) (k m : Int) (A : Option Addr) (n c : Nat) : Prop := w'.heap[s]? = some (.cells #[.int .i64 k, .int .i64 m, .slice A n c] 24 (0, 0)) ∧ Chg [] w w'

set_option maxHeartbeats 8000000 in
theorem eback_yes (w : World) (k m : Int) (A B : Option Addr) (n c n' d : Nat) (ys xs : List UInt8) (h : Bs w A n ys) (hn : n ≤ 140737488351232) (h' : Bs w B n' xs) (hn' : n' ≤ 140737488351232) :
    Calls Try.prog 6 #[.agg #[.int .i64 k, .int .i64 m, .slice A n c], .slice B n' d] w fun r w' => r = .returned (.bool true) ∧ Chg [] w w' := by
  have hl := h.len
  have hl' := h'.len
  subst hl hl'
  have HA := Lib.hid h
  have HB := Lib.hid h'
  clear h h'
  have b0 := heap_alloc_new w (.cells #[.int .i64 k, .int .i64 m, .slice A ys.length c] 24)
  have c0 := (Chg.refl [] w).alloc (.cells #[.int .i64 k, .int .i64 m, .slice A ys.length c] 24)
  obtain ⟨w0, hw0⟩ : ∃ w0 : World, w0 = w.alloc (.cells #[.int .i64 k, .int .i64 m, .slice A ys.length c] 24) := ⟨_, rfl⟩
  rw [← hw0] at b0 c0
  have B0 := Lib.hid b0
  have C0 := Lib.hid c0
  have W0 := Lib.hid hw0
  clear hw0 b0 c0
  go_enter Try.func6, Try.ntmps6
  go_wp2_with fail
  rw [← W0.out]
  generalize w.heap.size = s at *
  refine (eknown_yes w0).mono ?_
  rintro r w1 ⟨rfl, c1⟩
  have B1 := Lib.hid (c1.at_ B0.out (by simp))
  have C1 := Lib.hid (C0.out.trans c1)
  clear c1 B0 C0 W0
  have z0 := cell_of B1.out 0
  have z1 := cell_of B1.out 1
  have z2 := cell_of B1.out 2
  simp only [List.getElem?_toArray, List.getElem?_cons_succ, List.getElem?_cons_zero] at z0 z1 z2
  go_wp2_with fail
  by_cases hbig : 1200 < ys.length
  · refine (longeff_yes w1 k m A _ c hn hbig).mono ?_
    rintro r w2 ⟨rfl, c2⟩
    have C2 := Lib.hid (C1.out.trans c2)
    clear c2 z0 z1 z2
    go_wp2
    go_ret
    exact ⟨rfl, C2.out⟩
  refine (longeff_no w1 k m A _ c (by omega)).mono ?_
  rintro r w2 ⟨rfl, c2⟩
  have B2 := Lib.hid (c2.at_ B1.out (by simp))
  have C2 := Lib.hid (C1.out.trans c2)
  clear c2 z0 z1 z2 B1 C1
  have z0 := cell_of B2.out 0
  have z1 := cell_of B2.out 1
  have z2 := cell_of B2.out 2
  simp only [List.getElem?_toArray, List.getElem?_cons_succ, List.getElem?_cons_zero] at z0 z1 z2
  by_cases hbig2 : 2000 < xs.length
  · go_wp2
    go_ret
    exact ⟨rfl, C2.out⟩
  go_wp2_with fail
  have HA2 := Lib.hid (HA.out.chg C2.out (by simp))
  have r1 := ebytes_any w2 k m A ys.length c ys HA2.out hn
  by_cases hf : Fine k m ys.length
  case' pos =>
    rw [effO_fine hf, chkE_fine hf] at r1
    refine r1.mono ?_
    rintro r w3 ⟨A3, c3, rfl, f3⟩
    have B3 := Lib.hid (f3.2.2.at_ B2.out (by simp))
    have F3 := Lib.hid f3
    have C3 := Lib.hid (C2.out.trans f3.2.2)
    clear f3 z0 z1 z2 B2 C2 r1
    have z0 := cell_of B3.out 0
    have z1 := cell_of B3.out 1
    have z2 := cell_of B3.out 2
    simp only [List.getElem?_toArray, List.getElem?_cons_succ, List.getElem?_cons_zero] at z0 z1 z2
    go_wp2_with fail
    have r1 := check_any w3 k m A ys.length c hn
    rw [chkE_fine hf] at r1
    refine r1.mono ?_
    rintro r w4 ⟨rfl, c4⟩
    have B4 := Lib.hid (c4.at_ B3.out (by simp))
    have F4 := Lib.hid (F3.out.past c4)
    have C4 := Lib.hid (C3.out.trans c4)
    clear c4 z0 z1 z2 B3 C3 F3 r1
    go_wp2_with fail
    have r1 := eread_any w4 A3 (effB k m ys).length c3 (effB k m ys) F4.out.1.reads (by have := (eff_writes hf).2.2.2.2.2; omega)
    rw [readE_back hf] at r1
    refine r1.mono ?_
    rintro r w5 ⟨A5, c5, rfl, f5⟩
    have B5 := Lib.hid (f5.2.2.at_ B4.out (by simp))
    have F5 := Lib.hid f5
    have C5 := Lib.hid (C4.out.trans f5.2.2)
    clear f5 B4 C4 F4 r1
    go_upto_region 9 with fail
    obtain ⟨w6, hw6, c6, b0, b1⟩ := two_at w5 (.cells #[.int .i64 k, .int .i64 m, .slice A5 ys.length c5] 24) (.cells #[.int .i64 0, .int .i64 0] 37)
    rw [← hw6]
    have q0 := cell_of b0 0
    have q1 := cell_of b0 1
    have q2 := cell_of b0 2
    have q3 := cell_of b1 0
    have q4 := cell_of b1 1
    have b5 := c6.at_ B5.out (by simp)
    have z0 := cell_of b5 0
    have z1 := cell_of b5 1
    have z2 := cell_of b5 2
    simp only [List.getElem?_toArray, List.getElem?_cons_succ, List.getElem?_cons_zero] at z0 z1 z2 q0 q1 q2 q3 q4
    have F6 := Lib.hid (F5.out.past c6)
    have C6 := Lib.hid (C5.out.trans c6)
    have HA6 := Lib.hid (HA.out.chg C6.out (by simp))
    clear hw6 c6 b0 b1 b5 B5 C5 F5
    generalize w5.heap.size + 1 = s1 at *
    generalize w5.heap.size = s0 at *
    go_wp2_with fail
    refine (sameeff_yes w6 k m A5 A _ _ _ _ ys F6.out.1.reads HA6.out).mono ?_
    rintro r w7 ⟨rfl, c7⟩
    have z0 := c7.c0 z0
    have z1 := c7.c0 z1
    have z2 := c7.c0 z2
    have q0 := c7.c0 q0
    have q1 := c7.c0 q1
    have q2 := c7.c0 q2
    have F7 := Lib.hid (F6.out.past c7)
    have C7 := Lib.hid (C6.out.trans c7)
    have HA7 := Lib.hid (HA.out.chg C7.out (by simp))
    clear c7 q3 q4 C6 F6 HA6
    go_wp2_with fail
    refine (esame_yes w7 k m k m A5 A _ _ _ _ ys ys F7.out.1.reads HA7.out (cmpE_zero.2 ⟨rfl, rfl, rfl⟩)).mono ?_
    rintro r w8 ⟨rfl, c8⟩
    have CZ := Lib.hid (C7.out.trans c8)
    clear c8 z0 z1 z2 q0 q1 q2 F7 C7 HA7 HA2 hf hbig
    go_upto_region 11 with fail
    generalize w8 = wz at *
  case' neg =>
    rw [effO_odd hf, chkE_odd hf] at r1
    refine r1.mono ?_
    rintro r w3 ⟨A3, c3, rfl, f3⟩
    have B3 := Lib.hid (f3.2.2.at_ B2.out (by simp))
    have C3 := Lib.hid (C2.out.trans f3.2.2)
    clear f3 z0 z1 z2 B2 C2 r1
    have z0 := cell_of B3.out 0
    have z1 := cell_of B3.out 1
    have z2 := cell_of B3.out 2
    simp only [List.getElem?_toArray, List.getElem?_cons_succ, List.getElem?_cons_zero] at z0 z1 z2
    go_wp2_with fail
    have r1 := check_any w3 k m A ys.length c hn
    rw [chkE_odd hf] at r1
    refine r1.mono ?_
    rintro r w4 ⟨rfl, c4⟩
    have CZ := Lib.hid (C3.out.trans c4)
    clear c4 z0 z1 z2 B3 C3 r1 HA2 hf hbig
    go_upto_region 11 with fail
    generalize w4 = wz at *
  all_goals
    have HBz := Lib.hid (HB.out.chg CZ.out (by simp))
    have r1 := eread_any wz B xs.length d xs HBz.out hn'
    have m1 := @readE_fault xs
    have m2 := @readE_again xs
    generalize readE xs = R at r1 m1 m2
    obtain ⟨⟨k', m', zs⟩, fe, fa⟩ := R
    have M1 := Lib.hid m1
    have M2 := Lib.hid m2
    clear m1 m2
    go_wp2_with fail
    refine r1.mono ?_
    clear r1
    rintro r w9 ⟨A9, c9, rfl, f9⟩
    have F9 := Lib.hid f9
    have C9 := Lib.hid (CZ.out.trans f9.2.2)
    clear f9 CZ HBz
    go_upto_region 12 with fail
    obtain ⟨wa, hwa, ca, b0, b1⟩ := two_at w9 (.cells #[.int .i64 k', .int .i64 m', .slice A9 zs.length c9] 24) (.cells #[.int .i64 fe, .int .i64 fa] 37)
    rw [← hwa]
    have q0 := cell_of b0 0
    have q1 := cell_of b0 1
    have q2 := cell_of b0 2
    have q3 := cell_of b1 0
    have q4 := cell_of b1 1
    simp only [List.getElem?_toArray, List.getElem?_cons_succ, List.getElem?_cons_zero] at q0 q1 q2 q3 q4
    have Fa := Lib.hid (F9.out.past ca)
    have Ca := Lib.hid (C9.out.trans ca)
    clear hwa ca b0 b1 C9 F9
    generalize w9.heap.size + 1 = s3 at *
    generalize w9.heap.size = s2 at *
    by_cases hfe : fe = 0
    · subst hfe
      obtain ⟨g1, g2⟩ := M2.out rfl
      have G2 := Lib.hid g2
      have r1 := ebytes_any wa k' m' A9 zs.length c9 zs Fa.out.1.reads (by have := (fine_len g1).2.2.2.2; omega)
      rw [effO_fine g1, chkE_fine g1] at r1
      clear g1 g2 M1 M2
      go_wp2_with fail
      refine r1.mono ?_
      clear r1
      rintro r wb ⟨Ab, cb, rfl, fb⟩
      have Fb := Lib.hid fb
      have Cb := Lib.hid (Ca.out.trans fb.2.2)
      clear fb Ca Fa q0 q1 q2 q3 q4
      go_wp2_with fail
      refine (same_yes wb Ab B _ _ _ _ _ xs Fb.out.1.reads (HB.out.chg Cb.out (by simp)) G2.out).mono ?_
      rintro r wc ⟨rfl, rfl⟩
      go_wp2
      go_ret
      exact ⟨rfl, Cb.out⟩
    · obtain ⟨g1, g2, g3⟩ := M1.out hfe
      obtain ⟨rfl, rfl, rfl⟩ : k' = 0 ∧ m' = 0 ∧ zs = [] := by simpa using g1
      have hfe' : (fe != 0) = true := by simpa using hfe
      have g4 : 0 ≤ fa := g2
      have g5 : fa ≤ xs.length := g3
      clear g1 g2 g3 hfe M1 M2
      go_wp2_with fail
      refine (sameeff_yes wa 0 0 A9 none _ _ _ _ [] (Bs.nil _ _) (Bs.nil _ _)).mono ?_
      rintro r wb ⟨rfl, cb⟩
      have q3 := cb.c0 q3
      have q4 := cb.c0 q4
      have Cb := Lib.hid (Ca.out.trans cb)
      clear cb Ca Fa q0 q1 q2
      go_wp2
      go_ret
      exact ⟨rfl, Cb.out⟩
end Go.Proofs.Ytbihcoidbfoaoaa
