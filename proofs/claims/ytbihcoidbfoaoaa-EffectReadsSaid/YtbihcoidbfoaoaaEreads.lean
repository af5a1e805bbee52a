/- The walk of EffectReads. -/
import Derived.Test.YtbihcoidbfoaoaaElaw
import Derived.Test.YtbihcoidbfoaoaaFrd
namespace Go.Proofs.Ytbihcoidbfoaoaa
open Go.RowKit
set_option linter.unusedSimpArgs false

set_option maxHeartbeats 4000000 in
theorem ereads_yes (w : World) (A : Option Addr) (n c : Nat) (xs : List UInt8) (h : Bs w A n xs) (hn : n ≤ c) (hc : c ≤ 9223372036854775807) (hn2 : n ≤ 140737488351232) :
    Calls Try.prog 4 #[.slice A n c] w fun r w' => r = .returned (.bool true) ∧ Chg [] w w' := by
  have hl := h.len
  subst hl
  have HB := Lib.hid h
  clear h
  by_cases hbig : 2000 < xs.length
  · go_enter Try.func4, Try.ntmps4
    go_wp2_with fail
    refine (eawake_yes _).mono ?_
    rintro r w1 ⟨rfl, c1⟩
    go_wp2
    go_ret
    exact ⟨rfl, c1⟩
  go_enter Try.func4, Try.ntmps4
  go_wp2_with fail
  refine (lent_any w A _ c xs HB.out hn2).mono ?_
  rintro r w1 ⟨g, rfl, hL, hg, c1⟩
  have hgl := hL.lt
  have hw1 := c1.size
  have HL := Lib.hid hL
  have C1 := Lib.hid c1
  clear hL c1
  go_wp2_with fail
  have r2 := eread_any w1 (some ⟨g, 0, none⟩) xs.length (xs.length + 3) xs HL.out.reads hn2
  have r3 := fun w2 (hh : Chg [] w w2) => fread_any w2 A xs.length c xs (HB.out.chg hh (by simp)) hn2 hn hc
  generalize readE xs = R at r2 r3
  obtain ⟨⟨k, m, ys⟩, fe, fa⟩ := R
  have R3 := Lib.hid r3
  clear r3
  refine r2.mono ?_
  clear r2
  rintro r w2 ⟨A2, c2, rfl, f2⟩
  have F2 := Lib.hid f2
  have C2 := Lib.hid (C1.out.trans f2.2.2)
  have HL2 := Lib.hid (HL.out.chg f2.2.2 (by simp))
  clear f2 HL C1
  go_wp2_with fail
  obtain ⟨w3, hw3, c3, b0, b1⟩ := two_at w2 (.cells #[.int .i64 k, .int .i64 m, .slice A2 ys.length c2] 24) (.cells #[.int .i64 fe, .int .i64 fa] 37)
  rw [← hw3]
  have F3 := Lib.hid (F2.out.past c3)
  have C3 := Lib.hid (C2.out.trans c3)
  have HL3 := Lib.hid (HL2.out.chg c3 (by simp))
  have B0 := Lib.hid b0
  have B1 := Lib.hid b1
  clear hw3 c3 b0 b1 F2 C2 HL2
  generalize w2.heap.size + 1 = s1 at *
  generalize w2.heap.size = s0 at *
  refine (R3.out w3 C3.out).mono ?_
  rintro r w4 ⟨A4, c4, rfl, f4⟩
  have F4 := Lib.hid f4
  have C4 := Lib.hid (C3.out.trans f4.2.2)
  have HL4 := Lib.hid (HL3.out.chg f4.2.2 (by simp))
  have F2 := Lib.hid (F3.out.past f4.2.2)
  have D0 := Lib.hid (f4.2.2.at_ B0.out (by simp))
  have D1 := Lib.hid (f4.2.2.at_ B1.out (by simp))
  clear f4 F3 C3 HL3 B0 B1 R3
  go_upto_region 6 with fail
  obtain ⟨w5, hw5, c5, b0, b1⟩ := two_at w4 (.cells #[.int .i64 k, .int .i64 m, .slice A4 ys.length c4] 24) (.cells #[.int .i64 fe, .int .i64 fa] 37)
  rw [← hw5]
  have q0 := c5.at_ D0.out (by simp)
  have q1 := c5.at_ D1.out (by simp)
  have z0 := cell_of q0 0
  have z1 := cell_of q0 1
  have z2 := cell_of q0 2
  have z3 := cell_of q1 0
  have z4 := cell_of q1 1
  have z5 := cell_of b0 0
  have z6 := cell_of b0 1
  have z7 := cell_of b0 2
  have z8 := cell_of b1 0
  have z9 := cell_of b1 1
  simp only [List.getElem?_toArray, List.getElem?_cons_succ, List.getElem?_cons_zero] at z0 z1 z2 z3 z4 z5 z6 z7 z8 z9
  have F5 := Lib.hid (F4.out.past c5)
  have G5 := Lib.hid (F2.out.past c5)
  have C5 := Lib.hid (C4.out.trans c5)
  have HL5 := Lib.hid (HL4.out.chg c5 (by simp))
  clear hw5 c5 b0 b1 q0 q1 F4 F2 C4 HL4 D0 D1
  generalize w4.heap.size + 1 = s3 at *
  generalize w4.heap.size = s2 at *
  go_wp2_with fail
  refine (sameeff_yes w5 k m A2 A4 _ _ _ _ ys G5.out.1.reads F5.out.1.reads).mono ?_
  rintro r w6 ⟨rfl, c6⟩
  have z2 := c6.c0 z2
  have z3 := c6.c0 z3
  have z4 := c6.c0 z4
  have z8 := c6.c0 z8
  have z9 := c6.c0 z9
  have G6 := Lib.hid (G5.out.past c6)
  have C6 := Lib.hid (C5.out.trans c6)
  have HL6 := Lib.hid (HL5.out.chg c6 (by simp))
  clear c6 z0 z1 z5 z6 z7 G5 C5 HL5 F5
  go_wp2_with fail
  refine (over_own w6 A2 c2 _ ys G6.out.1 rfl).mono ?_
  rintro r w7 ⟨rfl, h7⟩
  obtain ⟨S, hS, c7⟩ := over_since G6.out.2.1 h7
  have C7 := Lib.hid (C6.out.trans' c7 (fun i hi => .inr (by have := hS i hi; omega)))
  have HL7 := Lib.hid (HL6.out.chg c7 (fun hm => by have := hS g hm; omega))
  clear h7 c7 hS z2 z3 z4 z8 z9 G6 C6 HL6
  go_wp2_with fail
  refine (kept_any w7 g A _ c xs HL7.out (HB.out.chg C7.out (by simp)) hn2).mono ?_
  rintro r w8 ⟨rfl, c8⟩
  have C8 := Lib.hid (C7.out.trans c8)
  clear c8 C7 HL7
  go_wp2_with fail
  refine (eawake_yes w8).mono ?_
  rintro r w9 ⟨rfl, c9⟩
  have C9 := Lib.hid (C8.out.trans c9)
  clear c9 C8
  go_wp2
  go_ret
  exact ⟨rfl, C9.out⟩
end Go.Proofs.Ytbihcoidbfoaoaa
