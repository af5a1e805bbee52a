/- The document's over, Clash. The pair of two events that clash: purely. clash.pairOf, PairOf. The document's PairOf. -/
import Derived.Test.YtfdaclifapfmdaaGreatDoorZcaf
import Derived.Test.YtfdaclifapfmdaaGreatDoorZcca
import Derived.Deep.Cut
import Derived.Test.YtfdaclifapfmdaaGreatDoorZcab
namespace Go.Proofs.YtfdaclifapfmdaaGreatDoor
section
open Go.RowKit Go.Lib
set_option linter.unusedSimpArgs false
set_option linter.unusedVariables false


set_option maxRecDepth 100000 in
set_option maxHeartbeats 16000000 in
theorem klover_any (w : World) (x y : EvT) (e f : EvP) (hx : EvR w x e) (hy : EvR w y f) (hs : EvSm e) (ht : EvSm f) :
    Calls Tryz.prog 51 #[.agg #[.int .i64 x.n, .int .i64 x.s, .string x.p, .int .i64 x.k, .int .i64 x.m, .slice x.A x.l x.c, .slice x.B x.bl x.bc], .agg #[.int .i64 y.n, .int .i64 y.s, .string y.p, .int .i64 y.k, .int .i64 y.m, .slice y.A y.l y.c, .slice y.B y.bl y.bc]] w fun r w' => r = .returned (.bool (hidesP e f)) ∧ Chg [] w w' := by
  obtain ⟨w2, hw, hc, b0, b1⟩ := news2 w (.cells #[.int .i64 x.n, .int .i64 x.s, .string x.p, .int .i64 x.k, .int .i64 x.m, .slice x.A x.l x.c, .slice x.B x.bl x.bc] 29) (.cells #[.int .i64 y.n, .int .i64 y.s, .string y.p, .int .i64 y.k, .int .i64 y.m, .slice y.A y.l y.c, .slice y.B y.bl y.bc] 29)
  have W2 := Lib.hid hw
  have C := Lib.hid hc
  have HX := Lib.hid (hx.chg hc)
  have HY := Lib.hid (hy.chg hc)
  have HS := Lib.hid hs
  have HT := Lib.hid ht
  have B0 := Lib.hid b0
  have B1 := Lib.hid b1
  generalize hv : hidesP e f = v
  have HV := Lib.hid hv
  clear hv hw hc hx hy hs ht b0 b1
  go_enter Tryz.func51, Tryz.ntmps51
  go_upto_region 1 with fail
  rw [← W2.out]
  generalize w.heap.size + 1 = g1 at *
  generalize w.heap.size = g0 at *
  clear W2
  have KX : Hid (x.k = e.k ∧ y.k = f.k) := Lib.hid ⟨HX.out.k, HY.out.k⟩
  have UX : Hid (∀ W, Calls Tryz.prog 91 #[.string x.p, .string y.p] W fun r w' => r = .returned (.bool (underL e.p f.p)) ∧ Chg [] W w') := Lib.hid (fun W => by
    rw [HX.out.p, HY.out.p]
    have a := HS.out.1
    have b := HT.out.1
    exact (qhunder_any W e.p f.p (by omega) (by omega)).mono fun r w' h => ⟨h.1, h.2⟩)
  have z0 := cell_of B0.out 0
  have z1 := cell_of B0.out 1
  have z2 := cell_of B0.out 2
  have z3 := cell_of B0.out 3
  have z4 := cell_of B0.out 4
  have z5 := cell_of B0.out 5
  have z6 := cell_of B0.out 6
  have y0 := cell_of B1.out 0
  have y1 := cell_of B1.out 1
  have y2 := cell_of B1.out 2
  have y3 := cell_of B1.out 3
  have y4 := cell_of B1.out 4
  have y5 := cell_of B1.out 5
  have y6 := cell_of B1.out 6
  simp only [List.getElem?_toArray, List.getElem?_cons_succ, List.getElem?_cons_zero] at z0 y0 z1 y1 z2 y2 z3 y3 z4 y4 z5 y5 z6 y6
  go_wp2_with fail
  refine (UX.out w2).mono ?_
  rintro r w3 ⟨rfl, hc⟩
  clear z0 y0 z1 y1 z2 y2 z3 y3 z4 y4 z5 y5 z6 y6
  replace C := Lib.hid (C.out.trans hc)
  replace HX := Lib.hid (HX.out.chg hc)
  replace HY := Lib.hid (HY.out.chg hc)
  replace B0 := Lib.hid (hc.at_ B0.out (by simp))
  replace B1 := Lib.hid (hc.at_ B1.out (by simp))
  clear hc
  rcases hu : underL e.p f.p with _ | _
  · skip
    replace hu := Lib.hid hu
    obtain rfl : v = false := by rw [← HV.out]; unfold hidesP; simp [hu.out]
    have z0 := cell_of B0.out 0
    have z1 := cell_of B0.out 1
    have z2 := cell_of B0.out 2
    have z3 := cell_of B0.out 3
    have z4 := cell_of B0.out 4
    have z5 := cell_of B0.out 5
    have z6 := cell_of B0.out 6
    have y0 := cell_of B1.out 0
    have y1 := cell_of B1.out 1
    have y2 := cell_of B1.out 2
    have y3 := cell_of B1.out 3
    have y4 := cell_of B1.out 4
    have y5 := cell_of B1.out 5
    have y6 := cell_of B1.out 6
    simp only [List.getElem?_toArray, List.getElem?_cons_succ, List.getElem?_cons_zero] at z0 y0 z1 y1 z2 y2 z3 y3 z4 y4 z5 y5 z6 y6
    go_wp2
    go_ret
    exact ⟨rfl, C.out⟩
  · skip
    replace hu := Lib.hid hu
    by_cases k1 : e.k = 2
    · skip
      have d1 : ((x.k == 2) : Bool) = true := by rw [KX.out.1, k1]; rfl
      have d3 : ((x.k != 2) : Bool) = false := by rw [KX.out.1, k1]; rfl
      replace k1 := Lib.hid k1
      obtain rfl : v = false := by rw [← HV.out]; unfold hidesP; simp [hu.out, k1.out]
      have z0 := cell_of B0.out 0
      have z1 := cell_of B0.out 1
      have z2 := cell_of B0.out 2
      have z3 := cell_of B0.out 3
      have z4 := cell_of B0.out 4
      have z5 := cell_of B0.out 5
      have z6 := cell_of B0.out 6
      have y0 := cell_of B1.out 0
      have y1 := cell_of B1.out 1
      have y2 := cell_of B1.out 2
      have y3 := cell_of B1.out 3
      have y4 := cell_of B1.out 4
      have y5 := cell_of B1.out 5
      have y6 := cell_of B1.out 6
      simp only [List.getElem?_toArray, List.getElem?_cons_succ, List.getElem?_cons_zero] at z0 y0 z1 y1 z2 y2 z3 y3 z4 y4 z5 y5 z6 y6
      go_wp2
      go_ret
      exact ⟨rfl, C.out⟩
    · skip
      have d1 : ((x.k == 2) : Bool) = false := by rw [KX.out.1]; exact beq_eq_false_iff_ne.2 k1
      have d3 : ((x.k != 2) : Bool) = true := by rw [KX.out.1]; exact bne_iff_ne.2 k1
      have d5 : ¬ x.k = 2 := by rw [KX.out.1]; exact k1
      replace k1 := Lib.hid k1
      by_cases k2 : f.k = 3
      · skip
        have d2 : ((y.k == 3) : Bool) = true := by rw [KX.out.2, k2]; rfl
        have d4 : ((y.k != 3) : Bool) = false := by rw [KX.out.2, k2]; rfl
        replace k2 := Lib.hid k2
        obtain rfl : v = false := by rw [← HV.out]; unfold hidesP; simp [hu.out, k1.out, k2.out]
        have z0 := cell_of B0.out 0
        have z1 := cell_of B0.out 1
        have z2 := cell_of B0.out 2
        have z3 := cell_of B0.out 3
        have z4 := cell_of B0.out 4
        have z5 := cell_of B0.out 5
        have z6 := cell_of B0.out 6
        have y0 := cell_of B1.out 0
        have y1 := cell_of B1.out 1
        have y2 := cell_of B1.out 2
        have y3 := cell_of B1.out 3
        have y4 := cell_of B1.out 4
        have y5 := cell_of B1.out 5
        have y6 := cell_of B1.out 6
        simp only [List.getElem?_toArray, List.getElem?_cons_succ, List.getElem?_cons_zero] at z0 y0 z1 y1 z2 y2 z3 y3 z4 y4 z5 y5 z6 y6
        go_wp2
        go_ret
        exact ⟨rfl, C.out⟩
      · skip
        have d2 : ((y.k == 3) : Bool) = false := by rw [KX.out.2]; exact beq_eq_false_iff_ne.2 k2
        have d4 : ((y.k != 3) : Bool) = true := by rw [KX.out.2]; exact bne_iff_ne.2 k2
        have d6 : ¬ y.k = 3 := by rw [KX.out.2]; exact k2
        replace k2 := Lib.hid k2
        obtain rfl : v = true := by rw [← HV.out]; unfold hidesP; simp [hu.out, k1.out, k2.out]
        have z0 := cell_of B0.out 0
        have z1 := cell_of B0.out 1
        have z2 := cell_of B0.out 2
        have z3 := cell_of B0.out 3
        have z4 := cell_of B0.out 4
        have z5 := cell_of B0.out 5
        have z6 := cell_of B0.out 6
        have y0 := cell_of B1.out 0
        have y1 := cell_of B1.out 1
        have y2 := cell_of B1.out 2
        have y3 := cell_of B1.out 3
        have y4 := cell_of B1.out 4
        have y5 := cell_of B1.out 5
        have y6 := cell_of B1.out 6
        simp only [List.getElem?_toArray, List.getElem?_cons_succ, List.getElem?_cons_zero] at z0 y0 z1 y1 z2 y2 z3 y3 z4 y4 z5 y5 z6 y6
        go_wp2
        go_ret
        exact ⟨rfl, C.out⟩

set_option maxRecDepth 100000 in
set_option maxHeartbeats 16000000 in
theorem klClash_any (w : World) (x y : EvT) (e f : EvP) (hx : EvR w x e) (hy : EvR w y f) (hs : EvSm e) (ht : EvSm f) :
    Calls Tryz.prog 13 #[.agg #[.int .i64 x.n, .int .i64 x.s, .string x.p, .int .i64 x.k, .int .i64 x.m, .slice x.A x.l x.c, .slice x.B x.bl x.bc], .agg #[.int .i64 y.n, .int .i64 y.s, .string y.p, .int .i64 y.k, .int .i64 y.m, .slice y.A y.l y.c, .slice y.B y.bl y.bc]] w fun r w' => r = .returned (.bool (clashP e f)) ∧ Chg [] w w' := by
  obtain ⟨w2, hw, hc, b0, b1⟩ := news2 w (.cells #[.int .i64 x.n, .int .i64 x.s, .string x.p, .int .i64 x.k, .int .i64 x.m, .slice x.A x.l x.c, .slice x.B x.bl x.bc] 29) (.cells #[.int .i64 y.n, .int .i64 y.s, .string y.p, .int .i64 y.k, .int .i64 y.m, .slice y.A y.l y.c, .slice y.B y.bl y.bc] 29)
  have W2 := Lib.hid hw
  have C := Lib.hid hc
  have HX := Lib.hid (hx.chg hc)
  have HY := Lib.hid (hy.chg hc)
  have HS := Lib.hid hs
  have HT := Lib.hid ht
  have B0 := Lib.hid b0
  have B1 := Lib.hid b1
  generalize hv : clashP e f = v
  have HV := Lib.hid hv
  clear hv hw hc hx hy hs ht b0 b1
  go_enter Tryz.func13, Tryz.ntmps13
  go_upto_region 1 with fail
  rw [← W2.out]
  generalize w.heap.size + 1 = g1 at *
  generalize w.heap.size = g0 at *
  clear W2
  have z0 := cell_of B0.out 0
  have z1 := cell_of B0.out 1
  have z2 := cell_of B0.out 2
  have z3 := cell_of B0.out 3
  have z4 := cell_of B0.out 4
  have z5 := cell_of B0.out 5
  have z6 := cell_of B0.out 6
  have y0 := cell_of B1.out 0
  have y1 := cell_of B1.out 1
  have y2 := cell_of B1.out 2
  have y3 := cell_of B1.out 3
  have y4 := cell_of B1.out 4
  have y5 := cell_of B1.out 5
  have y6 := cell_of B1.out 6
  simp only [List.getElem?_toArray, List.getElem?_cons_succ, List.getElem?_cons_zero] at z0 y0 z1 y1 z2 y2 z3 y3 z4 y4 z5 y5 z6 y6
  go_wp2_with fail
  refine (vecheck_any w2 x e HX.out HS.out).mono ?_
  rintro r w3 ⟨rfl, hc⟩
  clear z0 y0 z1 y1 z2 y2 z3 y3 z4 y4 z5 y5 z6 y6
  replace C := Lib.hid (C.out.trans hc)
  replace HX := Lib.hid (HX.out.chg hc)
  replace HY := Lib.hid (HY.out.chg hc)
  replace B0 := Lib.hid (hc.at_ B0.out (by simp))
  replace B1 := Lib.hid (hc.at_ B1.out (by simp))
  clear hc
  rcases chkEv_two e with hk1 | hk1
  · skip
    rw [hk1]
    replace hk1 := Lib.hid hk1
    have z0 := cell_of B0.out 0
    have z1 := cell_of B0.out 1
    have z2 := cell_of B0.out 2
    have z3 := cell_of B0.out 3
    have z4 := cell_of B0.out 4
    have z5 := cell_of B0.out 5
    have z6 := cell_of B0.out 6
    have y0 := cell_of B1.out 0
    have y1 := cell_of B1.out 1
    have y2 := cell_of B1.out 2
    have y3 := cell_of B1.out 3
    have y4 := cell_of B1.out 4
    have y5 := cell_of B1.out 5
    have y6 := cell_of B1.out 6
    simp only [List.getElem?_toArray, List.getElem?_cons_succ, List.getElem?_cons_zero] at z0 y0 z1 y1 z2 y2 z3 y3 z4 y4 z5 y5 z6 y6
    go_wp2_with fail
    refine (vecheck_any w3 y f HY.out HT.out).mono ?_
    rintro r w4 ⟨rfl, hc⟩
    clear z0 y0 z1 y1 z2 y2 z3 y3 z4 y4 z5 y5 z6 y6
    replace C := Lib.hid (C.out.trans hc)
    replace HX := Lib.hid (HX.out.chg hc)
    replace HY := Lib.hid (HY.out.chg hc)
    replace B0 := Lib.hid (hc.at_ B0.out (by simp))
    replace B1 := Lib.hid (hc.at_ B1.out (by simp))
    clear hc
    rcases chkEv_two f with hk2 | hk2
    · skip
      rw [hk2]
      replace hk2 := Lib.hid hk2
      rcases hd : dotP e f with _ | _
      · skip
        have q : ¬ (e.n = f.n ∧ e.s = f.s) := of_decide_eq_false hd
        replace hd := Lib.hid hd
        by_cases q1 : e.n = f.n
        · skip
          have q2 : ¬ e.s = f.s := fun h => q ⟨q1, h⟩
          have d1 : ((x.n == y.n) : Bool) = true := by rw [HX.out.n, HY.out.n, q1]; exact beq_self_eq_true _
          have d2 : ((x.s == y.s) : Bool) = false := by rw [HX.out.s, HY.out.s]; exact beq_eq_false_iff_ne.2 q2
          have d3 : ¬ x.s = y.s := by rw [HX.out.s, HY.out.s]; exact q2
          clear q q1 q2
          have z0 := cell_of B0.out 0
          have z1 := cell_of B0.out 1
          have z2 := cell_of B0.out 2
          have z3 := cell_of B0.out 3
          have z4 := cell_of B0.out 4
          have z5 := cell_of B0.out 5
          have z6 := cell_of B0.out 6
          have y0 := cell_of B1.out 0
          have y1 := cell_of B1.out 1
          have y2 := cell_of B1.out 2
          have y3 := cell_of B1.out 3
          have y4 := cell_of B1.out 4
          have y5 := cell_of B1.out 5
          have y6 := cell_of B1.out 6
          simp only [List.getElem?_toArray, List.getElem?_cons_succ, List.getElem?_cons_zero] at z0 y0 z1 y1 z2 y2 z3 y3 z4 y4 z5 y5 z6 y6
          go_wp2_with fail
          refine (veahead_any w4 x y e f HX.out HY.out HS.out HT.out).mono ?_
          rintro r w5 ⟨rfl, hc⟩
          clear z0 y0 z1 y1 z2 y2 z3 y3 z4 y4 z5 y5 z6 y6
          replace C := Lib.hid (C.out.trans hc)
          replace HX := Lib.hid (HX.out.chg hc)
          replace HY := Lib.hid (HY.out.chg hc)
          replace B0 := Lib.hid (hc.at_ B0.out (by simp))
          replace B1 := Lib.hid (hc.at_ B1.out (by simp))
          clear hc
          rcases ha1 : aheadP e f with _ | _
          · skip
            replace ha1 := Lib.hid ha1
            have z0 := cell_of B0.out 0
            have z1 := cell_of B0.out 1
            have z2 := cell_of B0.out 2
            have z3 := cell_of B0.out 3
            have z4 := cell_of B0.out 4
            have z5 := cell_of B0.out 5
            have z6 := cell_of B0.out 6
            have y0 := cell_of B1.out 0
            have y1 := cell_of B1.out 1
            have y2 := cell_of B1.out 2
            have y3 := cell_of B1.out 3
            have y4 := cell_of B1.out 4
            have y5 := cell_of B1.out 5
            have y6 := cell_of B1.out 6
            simp only [List.getElem?_toArray, List.getElem?_cons_succ, List.getElem?_cons_zero] at z0 y0 z1 y1 z2 y2 z3 y3 z4 y4 z5 y5 z6 y6
            go_wp2_with fail
            refine (veahead_any w5 y x f e HY.out HX.out HT.out HS.out).mono ?_
            rintro r w6 ⟨rfl, hc⟩
            clear z0 y0 z1 y1 z2 y2 z3 y3 z4 y4 z5 y5 z6 y6
            replace C := Lib.hid (C.out.trans hc)
            replace HX := Lib.hid (HX.out.chg hc)
            replace HY := Lib.hid (HY.out.chg hc)
            replace B0 := Lib.hid (hc.at_ B0.out (by simp))
            replace B1 := Lib.hid (hc.at_ B1.out (by simp))
            clear hc
            rcases ha2 : aheadP f e with _ | _
            · skip
              replace ha2 := Lib.hid ha2
              have XP : Hid (x.p = strOf e.p ∧ y.p = strOf f.p) := Lib.hid ⟨HX.out.p, HY.out.p⟩
              have KX : Hid (sameX x.k x.m e.b y.k y.m f.b = sameX e.k e.m e.b f.k f.m f.b) := Lib.hid (by rw [HX.out.k, HX.out.m, HY.out.k, HY.out.m])
              by_cases hp : e.p = f.p
              · skip
                have e1 : ((x.p == y.p) : Bool) = true := by rw [XP.out.1, XP.out.2, hp]; show ((f.p.toArray == f.p.toArray) : Bool) = true; simp
                have e3 : x.p.toList = y.p.toList := by rw [XP.out.1, XP.out.2, hp]
                replace hp := Lib.hid hp
                have z0 := cell_of B0.out 0
                have z1 := cell_of B0.out 1
                have z2 := cell_of B0.out 2
                have z3 := cell_of B0.out 3
                have z4 := cell_of B0.out 4
                have z5 := cell_of B0.out 5
                have z6 := cell_of B0.out 6
                have y0 := cell_of B1.out 0
                have y1 := cell_of B1.out 1
                have y2 := cell_of B1.out 2
                have y3 := cell_of B1.out 3
                have y4 := cell_of B1.out 4
                have y5 := cell_of B1.out 5
                have y6 := cell_of B1.out 6
                simp only [List.getElem?_toArray, List.getElem?_cons_succ, List.getElem?_cons_zero] at z0 y0 z1 y1 z2 y2 z3 y3 z4 y4 z5 y5 z6 y6
                go_wp2_with fail
                refine ((fsamex_any w6 x.k x.m y.k y.m x.A y.A x.l x.c y.l y.c e.b f.b HX.out.A HY.out.A).mono (fun r w' h => (show r = .returned (.bool (sameX e.k e.m e.b f.k f.m f.b)) ∧ Chg [] _ w' from ⟨by rw [h.1, KX.out], h.2⟩))).mono ?_
                rintro r w7 ⟨rfl, hc⟩
                clear z0 y0 z1 y1 z2 y2 z3 y3 z4 y4 z5 y5 z6 y6
                replace C := Lib.hid (C.out.trans hc)
                replace HX := Lib.hid (HX.out.chg hc)
                replace HY := Lib.hid (HY.out.chg hc)
                replace B0 := Lib.hid (hc.at_ B0.out (by simp))
                replace B1 := Lib.hid (hc.at_ B1.out (by simp))
                clear hc
                rcases hsame : sameX e.k e.m e.b f.k f.m f.b with _ | _
                · skip
                  replace hsame := Lib.hid hsame
                  obtain rfl : v = true := by rw [← HV.out, ← clash_doc]; simp [unlikeP, hk1.out, hk2.out, ha1.out, ha2.out, hd.out, hsame.out, hp.out]
                  have z0 := cell_of B0.out 0
                  have z1 := cell_of B0.out 1
                  have z2 := cell_of B0.out 2
                  have z3 := cell_of B0.out 3
                  have z4 := cell_of B0.out 4
                  have z5 := cell_of B0.out 5
                  have z6 := cell_of B0.out 6
                  have y0 := cell_of B1.out 0
                  have y1 := cell_of B1.out 1
                  have y2 := cell_of B1.out 2
                  have y3 := cell_of B1.out 3
                  have y4 := cell_of B1.out 4
                  have y5 := cell_of B1.out 5
                  have y6 := cell_of B1.out 6
                  simp only [List.getElem?_toArray, List.getElem?_cons_succ, List.getElem?_cons_zero] at z0 y0 z1 y1 z2 y2 z3 y3 z4 y4 z5 y5 z6 y6
                  go_wp2
                  go_ret
                  exact ⟨rfl, C.out⟩
                · skip
                  replace hsame := Lib.hid hsame
                  have z0 := cell_of B0.out 0
                  have z1 := cell_of B0.out 1
                  have z2 := cell_of B0.out 2
                  have z3 := cell_of B0.out 3
                  have z4 := cell_of B0.out 4
                  have z5 := cell_of B0.out 5
                  have z6 := cell_of B0.out 6
                  have y0 := cell_of B1.out 0
                  have y1 := cell_of B1.out 1
                  have y2 := cell_of B1.out 2
                  have y3 := cell_of B1.out 3
                  have y4 := cell_of B1.out 4
                  have y5 := cell_of B1.out 5
                  have y6 := cell_of B1.out 6
                  simp only [List.getElem?_toArray, List.getElem?_cons_succ, List.getElem?_cons_zero] at z0 y0 z1 y1 z2 y2 z3 y3 z4 y4 z5 y5 z6 y6
                  go_wp2_with fail
                  refine (klover_any w7 x y e f HX.out HY.out HS.out HT.out).mono ?_
                  rintro r w8 ⟨rfl, hc⟩
                  clear z0 y0 z1 y1 z2 y2 z3 y3 z4 y4 z5 y5 z6 y6
                  replace C := Lib.hid (C.out.trans hc)
                  replace HX := Lib.hid (HX.out.chg hc)
                  replace HY := Lib.hid (HY.out.chg hc)
                  replace B0 := Lib.hid (hc.at_ B0.out (by simp))
                  replace B1 := Lib.hid (hc.at_ B1.out (by simp))
                  clear hc
                  rcases hh1 : hidesP e f with _ | _
                  · skip
                    replace hh1 := Lib.hid hh1
                    have z0 := cell_of B0.out 0
                    have z1 := cell_of B0.out 1
                    have z2 := cell_of B0.out 2
                    have z3 := cell_of B0.out 3
                    have z4 := cell_of B0.out 4
                    have z5 := cell_of B0.out 5
                    have z6 := cell_of B0.out 6
                    have y0 := cell_of B1.out 0
                    have y1 := cell_of B1.out 1
                    have y2 := cell_of B1.out 2
                    have y3 := cell_of B1.out 3
                    have y4 := cell_of B1.out 4
                    have y5 := cell_of B1.out 5
                    have y6 := cell_of B1.out 6
                    simp only [List.getElem?_toArray, List.getElem?_cons_succ, List.getElem?_cons_zero] at z0 y0 z1 y1 z2 y2 z3 y3 z4 y4 z5 y5 z6 y6
                    go_wp2_with fail
                    refine (klover_any w8 y x f e HY.out HX.out HT.out HS.out).mono ?_
                    rintro r w9 ⟨rfl, hc⟩
                    clear z0 y0 z1 y1 z2 y2 z3 y3 z4 y4 z5 y5 z6 y6
                    replace C := Lib.hid (C.out.trans hc)
                    replace HX := Lib.hid (HX.out.chg hc)
                    replace HY := Lib.hid (HY.out.chg hc)
                    replace B0 := Lib.hid (hc.at_ B0.out (by simp))
                    replace B1 := Lib.hid (hc.at_ B1.out (by simp))
                    clear hc
                    rcases hh2 : hidesP f e with _ | _
                    · skip
                      replace hh2 := Lib.hid hh2
                      obtain rfl : v = false := by rw [← HV.out, ← clash_doc]; simp [unlikeP, hk1.out, hk2.out, ha1.out, ha2.out, hd.out, hsame.out, hh1.out, hh2.out, hp.out]
                      have z0 := cell_of B0.out 0
                      have z1 := cell_of B0.out 1
                      have z2 := cell_of B0.out 2
                      have z3 := cell_of B0.out 3
                      have z4 := cell_of B0.out 4
                      have z5 := cell_of B0.out 5
                      have z6 := cell_of B0.out 6
                      have y0 := cell_of B1.out 0
                      have y1 := cell_of B1.out 1
                      have y2 := cell_of B1.out 2
                      have y3 := cell_of B1.out 3
                      have y4 := cell_of B1.out 4
                      have y5 := cell_of B1.out 5
                      have y6 := cell_of B1.out 6
                      simp only [List.getElem?_toArray, List.getElem?_cons_succ, List.getElem?_cons_zero] at z0 y0 z1 y1 z2 y2 z3 y3 z4 y4 z5 y5 z6 y6
                      go_wp2
                      go_ret
                      exact ⟨rfl, C.out⟩
                    · skip
                      replace hh2 := Lib.hid hh2
                      obtain rfl : v = true := by rw [← HV.out, ← clash_doc]; simp [unlikeP, hk1.out, hk2.out, ha1.out, ha2.out, hd.out, hsame.out, hh1.out, hh2.out, hp.out]
                      have z0 := cell_of B0.out 0
                      have z1 := cell_of B0.out 1
                      have z2 := cell_of B0.out 2
                      have z3 := cell_of B0.out 3
                      have z4 := cell_of B0.out 4
                      have z5 := cell_of B0.out 5
                      have z6 := cell_of B0.out 6
                      have y0 := cell_of B1.out 0
                      have y1 := cell_of B1.out 1
                      have y2 := cell_of B1.out 2
                      have y3 := cell_of B1.out 3
                      have y4 := cell_of B1.out 4
                      have y5 := cell_of B1.out 5
                      have y6 := cell_of B1.out 6
                      simp only [List.getElem?_toArray, List.getElem?_cons_succ, List.getElem?_cons_zero] at z0 y0 z1 y1 z2 y2 z3 y3 z4 y4 z5 y5 z6 y6
                      go_wp2
                      go_ret
                      exact ⟨rfl, C.out⟩
                  · skip
                    replace hh1 := Lib.hid hh1
                    obtain rfl : v = true := by rw [← HV.out, ← clash_doc]; simp [unlikeP, hk1.out, hk2.out, ha1.out, ha2.out, hd.out, hsame.out, hh1.out, hp.out]
                    have z0 := cell_of B0.out 0
                    have z1 := cell_of B0.out 1
                    have z2 := cell_of B0.out 2
                    have z3 := cell_of B0.out 3
                    have z4 := cell_of B0.out 4
                    have z5 := cell_of B0.out 5
                    have z6 := cell_of B0.out 6
                    have y0 := cell_of B1.out 0
                    have y1 := cell_of B1.out 1
                    have y2 := cell_of B1.out 2
                    have y3 := cell_of B1.out 3
                    have y4 := cell_of B1.out 4
                    have y5 := cell_of B1.out 5
                    have y6 := cell_of B1.out 6
                    simp only [List.getElem?_toArray, List.getElem?_cons_succ, List.getElem?_cons_zero] at z0 y0 z1 y1 z2 y2 z3 y3 z4 y4 z5 y5 z6 y6
                    go_wp2
                    go_ret
                    exact ⟨rfl, C.out⟩
              · skip
                have e1 : ((x.p == y.p) : Bool) = false := by rw [XP.out.1, XP.out.2]; exact strOf_ne hp
                have e2 : ¬ x.p = y.p := by rw [XP.out.1, XP.out.2]; exact strOf_ne2 hp
                have e3 : ¬ x.p.toList = y.p.toList := by rw [XP.out.1, XP.out.2]; exact strOf_ne3 hp
                replace hp := Lib.hid hp
                have z0 := cell_of B0.out 0
                have z1 := cell_of B0.out 1
                have z2 := cell_of B0.out 2
                have z3 := cell_of B0.out 3
                have z4 := cell_of B0.out 4
                have z5 := cell_of B0.out 5
                have z6 := cell_of B0.out 6
                have y0 := cell_of B1.out 0
                have y1 := cell_of B1.out 1
                have y2 := cell_of B1.out 2
                have y3 := cell_of B1.out 3
                have y4 := cell_of B1.out 4
                have y5 := cell_of B1.out 5
                have y6 := cell_of B1.out 6
                simp only [List.getElem?_toArray, List.getElem?_cons_succ, List.getElem?_cons_zero] at z0 y0 z1 y1 z2 y2 z3 y3 z4 y4 z5 y5 z6 y6
                go_wp2_with fail
                refine (klover_any w6 x y e f HX.out HY.out HS.out HT.out).mono ?_
                rintro r w10 ⟨rfl, hc⟩
                clear z0 y0 z1 y1 z2 y2 z3 y3 z4 y4 z5 y5 z6 y6
                replace C := Lib.hid (C.out.trans hc)
                replace HX := Lib.hid (HX.out.chg hc)
                replace HY := Lib.hid (HY.out.chg hc)
                replace B0 := Lib.hid (hc.at_ B0.out (by simp))
                replace B1 := Lib.hid (hc.at_ B1.out (by simp))
                clear hc
                rcases hh1 : hidesP e f with _ | _
                · skip
                  replace hh1 := Lib.hid hh1
                  have z0 := cell_of B0.out 0
                  have z1 := cell_of B0.out 1
                  have z2 := cell_of B0.out 2
                  have z3 := cell_of B0.out 3
                  have z4 := cell_of B0.out 4
                  have z5 := cell_of B0.out 5
                  have z6 := cell_of B0.out 6
                  have y0 := cell_of B1.out 0
                  have y1 := cell_of B1.out 1
                  have y2 := cell_of B1.out 2
                  have y3 := cell_of B1.out 3
                  have y4 := cell_of B1.out 4
                  have y5 := cell_of B1.out 5
                  have y6 := cell_of B1.out 6
                  simp only [List.getElem?_toArray, List.getElem?_cons_succ, List.getElem?_cons_zero] at z0 y0 z1 y1 z2 y2 z3 y3 z4 y4 z5 y5 z6 y6
                  go_wp2_with fail
                  refine (klover_any w10 y x f e HY.out HX.out HT.out HS.out).mono ?_
                  rintro r w11 ⟨rfl, hc⟩
                  clear z0 y0 z1 y1 z2 y2 z3 y3 z4 y4 z5 y5 z6 y6
                  replace C := Lib.hid (C.out.trans hc)
                  replace HX := Lib.hid (HX.out.chg hc)
                  replace HY := Lib.hid (HY.out.chg hc)
                  replace B0 := Lib.hid (hc.at_ B0.out (by simp))
                  replace B1 := Lib.hid (hc.at_ B1.out (by simp))
                  clear hc
                  rcases hh2 : hidesP f e with _ | _
                  · skip
                    replace hh2 := Lib.hid hh2
                    obtain rfl : v = false := by rw [← HV.out, ← clash_doc]; simp [unlikeP, hk1.out, hk2.out, ha1.out, ha2.out, hd.out, hh1.out, hh2.out, hp.out]
                    have z0 := cell_of B0.out 0
                    have z1 := cell_of B0.out 1
                    have z2 := cell_of B0.out 2
                    have z3 := cell_of B0.out 3
                    have z4 := cell_of B0.out 4
                    have z5 := cell_of B0.out 5
                    have z6 := cell_of B0.out 6
                    have y0 := cell_of B1.out 0
                    have y1 := cell_of B1.out 1
                    have y2 := cell_of B1.out 2
                    have y3 := cell_of B1.out 3
                    have y4 := cell_of B1.out 4
                    have y5 := cell_of B1.out 5
                    have y6 := cell_of B1.out 6
                    simp only [List.getElem?_toArray, List.getElem?_cons_succ, List.getElem?_cons_zero] at z0 y0 z1 y1 z2 y2 z3 y3 z4 y4 z5 y5 z6 y6
                    go_wp2
                    go_ret
                    exact ⟨rfl, C.out⟩
                  · skip
                    replace hh2 := Lib.hid hh2
                    obtain rfl : v = true := by rw [← HV.out, ← clash_doc]; simp [unlikeP, hk1.out, hk2.out, ha1.out, ha2.out, hd.out, hh1.out, hh2.out, hp.out]
                    have z0 := cell_of B0.out 0
                    have z1 := cell_of B0.out 1
                    have z2 := cell_of B0.out 2
                    have z3 := cell_of B0.out 3
                    have z4 := cell_of B0.out 4
                    have z5 := cell_of B0.out 5
                    have z6 := cell_of B0.out 6
                    have y0 := cell_of B1.out 0
                    have y1 := cell_of B1.out 1
                    have y2 := cell_of B1.out 2
                    have y3 := cell_of B1.out 3
                    have y4 := cell_of B1.out 4
                    have y5 := cell_of B1.out 5
                    have y6 := cell_of B1.out 6
                    simp only [List.getElem?_toArray, List.getElem?_cons_succ, List.getElem?_cons_zero] at z0 y0 z1 y1 z2 y2 z3 y3 z4 y4 z5 y5 z6 y6
                    go_wp2
                    go_ret
                    exact ⟨rfl, C.out⟩
                · skip
                  replace hh1 := Lib.hid hh1
                  obtain rfl : v = true := by rw [← HV.out, ← clash_doc]; simp [unlikeP, hk1.out, hk2.out, ha1.out, ha2.out, hd.out, hh1.out, hp.out]
                  have z0 := cell_of B0.out 0
                  have z1 := cell_of B0.out 1
                  have z2 := cell_of B0.out 2
                  have z3 := cell_of B0.out 3
                  have z4 := cell_of B0.out 4
                  have z5 := cell_of B0.out 5
                  have z6 := cell_of B0.out 6
                  have y0 := cell_of B1.out 0
                  have y1 := cell_of B1.out 1
                  have y2 := cell_of B1.out 2
                  have y3 := cell_of B1.out 3
                  have y4 := cell_of B1.out 4
                  have y5 := cell_of B1.out 5
                  have y6 := cell_of B1.out 6
                  simp only [List.getElem?_toArray, List.getElem?_cons_succ, List.getElem?_cons_zero] at z0 y0 z1 y1 z2 y2 z3 y3 z4 y4 z5 y5 z6 y6
                  go_wp2
                  go_ret
                  exact ⟨rfl, C.out⟩
            · skip
              replace ha2 := Lib.hid ha2
              obtain rfl : v = false := by rw [← HV.out, ← clash_doc]; simp [unlikeP, hk1.out, hk2.out, ha1.out, ha2.out, hd.out]
              have z0 := cell_of B0.out 0
              have z1 := cell_of B0.out 1
              have z2 := cell_of B0.out 2
              have z3 := cell_of B0.out 3
              have z4 := cell_of B0.out 4
              have z5 := cell_of B0.out 5
              have z6 := cell_of B0.out 6
              have y0 := cell_of B1.out 0
              have y1 := cell_of B1.out 1
              have y2 := cell_of B1.out 2
              have y3 := cell_of B1.out 3
              have y4 := cell_of B1.out 4
              have y5 := cell_of B1.out 5
              have y6 := cell_of B1.out 6
              simp only [List.getElem?_toArray, List.getElem?_cons_succ, List.getElem?_cons_zero] at z0 y0 z1 y1 z2 y2 z3 y3 z4 y4 z5 y5 z6 y6
              go_wp2
              go_ret
              exact ⟨rfl, C.out⟩
          · skip
            replace ha1 := Lib.hid ha1
            obtain rfl : v = false := by rw [← HV.out, ← clash_doc]; simp [unlikeP, hk1.out, hk2.out, ha1.out, hd.out]
            have z0 := cell_of B0.out 0
            have z1 := cell_of B0.out 1
            have z2 := cell_of B0.out 2
            have z3 := cell_of B0.out 3
            have z4 := cell_of B0.out 4
            have z5 := cell_of B0.out 5
            have z6 := cell_of B0.out 6
            have y0 := cell_of B1.out 0
            have y1 := cell_of B1.out 1
            have y2 := cell_of B1.out 2
            have y3 := cell_of B1.out 3
            have y4 := cell_of B1.out 4
            have y5 := cell_of B1.out 5
            have y6 := cell_of B1.out 6
            simp only [List.getElem?_toArray, List.getElem?_cons_succ, List.getElem?_cons_zero] at z0 y0 z1 y1 z2 y2 z3 y3 z4 y4 z5 y5 z6 y6
            go_wp2
            go_ret
            exact ⟨rfl, C.out⟩
        · skip
          have d1 : ((x.n == y.n) : Bool) = false := by rw [HX.out.n, HY.out.n]; exact beq_eq_false_iff_ne.2 q1
          have d3 : ¬ x.n = y.n := by rw [HX.out.n, HY.out.n]; exact q1
          clear q q1
          have z0 := cell_of B0.out 0
          have z1 := cell_of B0.out 1
          have z2 := cell_of B0.out 2
          have z3 := cell_of B0.out 3
          have z4 := cell_of B0.out 4
          have z5 := cell_of B0.out 5
          have z6 := cell_of B0.out 6
          have y0 := cell_of B1.out 0
          have y1 := cell_of B1.out 1
          have y2 := cell_of B1.out 2
          have y3 := cell_of B1.out 3
          have y4 := cell_of B1.out 4
          have y5 := cell_of B1.out 5
          have y6 := cell_of B1.out 6
          simp only [List.getElem?_toArray, List.getElem?_cons_succ, List.getElem?_cons_zero] at z0 y0 z1 y1 z2 y2 z3 y3 z4 y4 z5 y5 z6 y6
          go_wp2_with fail
          refine (veahead_any w4 x y e f HX.out HY.out HS.out HT.out).mono ?_
          rintro r w12 ⟨rfl, hc⟩
          clear z0 y0 z1 y1 z2 y2 z3 y3 z4 y4 z5 y5 z6 y6
          replace C := Lib.hid (C.out.trans hc)
          replace HX := Lib.hid (HX.out.chg hc)
          replace HY := Lib.hid (HY.out.chg hc)
          replace B0 := Lib.hid (hc.at_ B0.out (by simp))
          replace B1 := Lib.hid (hc.at_ B1.out (by simp))
          clear hc
          rcases ha1 : aheadP e f with _ | _
          · skip
            replace ha1 := Lib.hid ha1
            have z0 := cell_of B0.out 0
            have z1 := cell_of B0.out 1
            have z2 := cell_of B0.out 2
            have z3 := cell_of B0.out 3
            have z4 := cell_of B0.out 4
            have z5 := cell_of B0.out 5
            have z6 := cell_of B0.out 6
            have y0 := cell_of B1.out 0
            have y1 := cell_of B1.out 1
            have y2 := cell_of B1.out 2
            have y3 := cell_of B1.out 3
            have y4 := cell_of B1.out 4
            have y5 := cell_of B1.out 5
            have y6 := cell_of B1.out 6
            simp only [List.getElem?_toArray, List.getElem?_cons_succ, List.getElem?_cons_zero] at z0 y0 z1 y1 z2 y2 z3 y3 z4 y4 z5 y5 z6 y6
            go_wp2_with fail
            refine (veahead_any w12 y x f e HY.out HX.out HT.out HS.out).mono ?_
            rintro r w13 ⟨rfl, hc⟩
            clear z0 y0 z1 y1 z2 y2 z3 y3 z4 y4 z5 y5 z6 y6
            replace C := Lib.hid (C.out.trans hc)
            replace HX := Lib.hid (HX.out.chg hc)
            replace HY := Lib.hid (HY.out.chg hc)
            replace B0 := Lib.hid (hc.at_ B0.out (by simp))
            replace B1 := Lib.hid (hc.at_ B1.out (by simp))
            clear hc
            rcases ha2 : aheadP f e with _ | _
            · skip
              replace ha2 := Lib.hid ha2
              have XP : Hid (x.p = strOf e.p ∧ y.p = strOf f.p) := Lib.hid ⟨HX.out.p, HY.out.p⟩
              have KX : Hid (sameX x.k x.m e.b y.k y.m f.b = sameX e.k e.m e.b f.k f.m f.b) := Lib.hid (by rw [HX.out.k, HX.out.m, HY.out.k, HY.out.m])
              by_cases hp : e.p = f.p
              · skip
                have e1 : ((x.p == y.p) : Bool) = true := by rw [XP.out.1, XP.out.2, hp]; show ((f.p.toArray == f.p.toArray) : Bool) = true; simp
                have e3 : x.p.toList = y.p.toList := by rw [XP.out.1, XP.out.2, hp]
                replace hp := Lib.hid hp
                have z0 := cell_of B0.out 0
                have z1 := cell_of B0.out 1
                have z2 := cell_of B0.out 2
                have z3 := cell_of B0.out 3
                have z4 := cell_of B0.out 4
                have z5 := cell_of B0.out 5
                have z6 := cell_of B0.out 6
                have y0 := cell_of B1.out 0
                have y1 := cell_of B1.out 1
                have y2 := cell_of B1.out 2
                have y3 := cell_of B1.out 3
                have y4 := cell_of B1.out 4
                have y5 := cell_of B1.out 5
                have y6 := cell_of B1.out 6
                simp only [List.getElem?_toArray, List.getElem?_cons_succ, List.getElem?_cons_zero] at z0 y0 z1 y1 z2 y2 z3 y3 z4 y4 z5 y5 z6 y6
                go_wp2_with fail
                refine ((fsamex_any w13 x.k x.m y.k y.m x.A y.A x.l x.c y.l y.c e.b f.b HX.out.A HY.out.A).mono (fun r w' h => (show r = .returned (.bool (sameX e.k e.m e.b f.k f.m f.b)) ∧ Chg [] _ w' from ⟨by rw [h.1, KX.out], h.2⟩))).mono ?_
                rintro r w14 ⟨rfl, hc⟩
                clear z0 y0 z1 y1 z2 y2 z3 y3 z4 y4 z5 y5 z6 y6
                replace C := Lib.hid (C.out.trans hc)
                replace HX := Lib.hid (HX.out.chg hc)
                replace HY := Lib.hid (HY.out.chg hc)
                replace B0 := Lib.hid (hc.at_ B0.out (by simp))
                replace B1 := Lib.hid (hc.at_ B1.out (by simp))
                clear hc
                rcases hsame : sameX e.k e.m e.b f.k f.m f.b with _ | _
                · skip
                  replace hsame := Lib.hid hsame
                  obtain rfl : v = true := by rw [← HV.out, ← clash_doc]; simp [unlikeP, hk1.out, hk2.out, ha1.out, ha2.out, hd.out, hsame.out, hp.out]
                  have z0 := cell_of B0.out 0
                  have z1 := cell_of B0.out 1
                  have z2 := cell_of B0.out 2
                  have z3 := cell_of B0.out 3
                  have z4 := cell_of B0.out 4
                  have z5 := cell_of B0.out 5
                  have z6 := cell_of B0.out 6
                  have y0 := cell_of B1.out 0
                  have y1 := cell_of B1.out 1
                  have y2 := cell_of B1.out 2
                  have y3 := cell_of B1.out 3
                  have y4 := cell_of B1.out 4
                  have y5 := cell_of B1.out 5
                  have y6 := cell_of B1.out 6
                  simp only [List.getElem?_toArray, List.getElem?_cons_succ, List.getElem?_cons_zero] at z0 y0 z1 y1 z2 y2 z3 y3 z4 y4 z5 y5 z6 y6
                  go_wp2
                  go_ret
                  exact ⟨rfl, C.out⟩
                · skip
                  replace hsame := Lib.hid hsame
                  have z0 := cell_of B0.out 0
                  have z1 := cell_of B0.out 1
                  have z2 := cell_of B0.out 2
                  have z3 := cell_of B0.out 3
                  have z4 := cell_of B0.out 4
                  have z5 := cell_of B0.out 5
                  have z6 := cell_of B0.out 6
                  have y0 := cell_of B1.out 0
                  have y1 := cell_of B1.out 1
                  have y2 := cell_of B1.out 2
                  have y3 := cell_of B1.out 3
                  have y4 := cell_of B1.out 4
                  have y5 := cell_of B1.out 5
                  have y6 := cell_of B1.out 6
                  simp only [List.getElem?_toArray, List.getElem?_cons_succ, List.getElem?_cons_zero] at z0 y0 z1 y1 z2 y2 z3 y3 z4 y4 z5 y5 z6 y6
                  go_wp2_with fail
                  refine (klover_any w14 x y e f HX.out HY.out HS.out HT.out).mono ?_
                  rintro r w15 ⟨rfl, hc⟩
                  clear z0 y0 z1 y1 z2 y2 z3 y3 z4 y4 z5 y5 z6 y6
                  replace C := Lib.hid (C.out.trans hc)
                  replace HX := Lib.hid (HX.out.chg hc)
                  replace HY := Lib.hid (HY.out.chg hc)
                  replace B0 := Lib.hid (hc.at_ B0.out (by simp))
                  replace B1 := Lib.hid (hc.at_ B1.out (by simp))
                  clear hc
                  rcases hh1 : hidesP e f with _ | _
                  · skip
                    replace hh1 := Lib.hid hh1
                    have z0 := cell_of B0.out 0
                    have z1 := cell_of B0.out 1
                    have z2 := cell_of B0.out 2
                    have z3 := cell_of B0.out 3
                    have z4 := cell_of B0.out 4
                    have z5 := cell_of B0.out 5
                    have z6 := cell_of B0.out 6
                    have y0 := cell_of B1.out 0
                    have y1 := cell_of B1.out 1
                    have y2 := cell_of B1.out 2
                    have y3 := cell_of B1.out 3
                    have y4 := cell_of B1.out 4
                    have y5 := cell_of B1.out 5
                    have y6 := cell_of B1.out 6
                    simp only [List.getElem?_toArray, List.getElem?_cons_succ, List.getElem?_cons_zero] at z0 y0 z1 y1 z2 y2 z3 y3 z4 y4 z5 y5 z6 y6
                    go_wp2_with fail
                    refine (klover_any w15 y x f e HY.out HX.out HT.out HS.out).mono ?_
                    rintro r w16 ⟨rfl, hc⟩
                    clear z0 y0 z1 y1 z2 y2 z3 y3 z4 y4 z5 y5 z6 y6
                    replace C := Lib.hid (C.out.trans hc)
                    replace HX := Lib.hid (HX.out.chg hc)
                    replace HY := Lib.hid (HY.out.chg hc)
                    replace B0 := Lib.hid (hc.at_ B0.out (by simp))
                    replace B1 := Lib.hid (hc.at_ B1.out (by simp))
                    clear hc
                    rcases hh2 : hidesP f e with _ | _
                    · skip
                      replace hh2 := Lib.hid hh2
                      obtain rfl : v = false := by rw [← HV.out, ← clash_doc]; simp [unlikeP, hk1.out, hk2.out, ha1.out, ha2.out, hd.out, hsame.out, hh1.out, hh2.out, hp.out]
                      have z0 := cell_of B0.out 0
                      have z1 := cell_of B0.out 1
                      have z2 := cell_of B0.out 2
                      have z3 := cell_of B0.out 3
                      have z4 := cell_of B0.out 4
                      have z5 := cell_of B0.out 5
                      have z6 := cell_of B0.out 6
                      have y0 := cell_of B1.out 0
                      have y1 := cell_of B1.out 1
                      have y2 := cell_of B1.out 2
                      have y3 := cell_of B1.out 3
                      have y4 := cell_of B1.out 4
                      have y5 := cell_of B1.out 5
                      have y6 := cell_of B1.out 6
                      simp only [List.getElem?_toArray, List.getElem?_cons_succ, List.getElem?_cons_zero] at z0 y0 z1 y1 z2 y2 z3 y3 z4 y4 z5 y5 z6 y6
                      go_wp2
                      go_ret
                      exact ⟨rfl, C.out⟩
                    · skip
                      replace hh2 := Lib.hid hh2
                      obtain rfl : v = true := by rw [← HV.out, ← clash_doc]; simp [unlikeP, hk1.out, hk2.out, ha1.out, ha2.out, hd.out, hsame.out, hh1.out, hh2.out, hp.out]
                      have z0 := cell_of B0.out 0
                      have z1 := cell_of B0.out 1
                      have z2 := cell_of B0.out 2
                      have z3 := cell_of B0.out 3
                      have z4 := cell_of B0.out 4
                      have z5 := cell_of B0.out 5
                      have z6 := cell_of B0.out 6
                      have y0 := cell_of B1.out 0
                      have y1 := cell_of B1.out 1
                      have y2 := cell_of B1.out 2
                      have y3 := cell_of B1.out 3
                      have y4 := cell_of B1.out 4
                      have y5 := cell_of B1.out 5
                      have y6 := cell_of B1.out 6
                      simp only [List.getElem?_toArray, List.getElem?_cons_succ, List.getElem?_cons_zero] at z0 y0 z1 y1 z2 y2 z3 y3 z4 y4 z5 y5 z6 y6
                      go_wp2
                      go_ret
                      exact ⟨rfl, C.out⟩
                  · skip
                    replace hh1 := Lib.hid hh1
                    obtain rfl : v = true := by rw [← HV.out, ← clash_doc]; simp [unlikeP, hk1.out, hk2.out, ha1.out, ha2.out, hd.out, hsame.out, hh1.out, hp.out]
                    have z0 := cell_of B0.out 0
                    have z1 := cell_of B0.out 1
                    have z2 := cell_of B0.out 2
                    have z3 := cell_of B0.out 3
                    have z4 := cell_of B0.out 4
                    have z5 := cell_of B0.out 5
                    have z6 := cell_of B0.out 6
                    have y0 := cell_of B1.out 0
                    have y1 := cell_of B1.out 1
                    have y2 := cell_of B1.out 2
                    have y3 := cell_of B1.out 3
                    have y4 := cell_of B1.out 4
                    have y5 := cell_of B1.out 5
                    have y6 := cell_of B1.out 6
                    simp only [List.getElem?_toArray, List.getElem?_cons_succ, List.getElem?_cons_zero] at z0 y0 z1 y1 z2 y2 z3 y3 z4 y4 z5 y5 z6 y6
                    go_wp2
                    go_ret
                    exact ⟨rfl, C.out⟩
              · skip
                have e1 : ((x.p == y.p) : Bool) = false := by rw [XP.out.1, XP.out.2]; exact strOf_ne hp
                have e2 : ¬ x.p = y.p := by rw [XP.out.1, XP.out.2]; exact strOf_ne2 hp
                have e3 : ¬ x.p.toList = y.p.toList := by rw [XP.out.1, XP.out.2]; exact strOf_ne3 hp
                replace hp := Lib.hid hp
                have z0 := cell_of B0.out 0
                have z1 := cell_of B0.out 1
                have z2 := cell_of B0.out 2
                have z3 := cell_of B0.out 3
                have z4 := cell_of B0.out 4
                have z5 := cell_of B0.out 5
                have z6 := cell_of B0.out 6
                have y0 := cell_of B1.out 0
                have y1 := cell_of B1.out 1
                have y2 := cell_of B1.out 2
                have y3 := cell_of B1.out 3
                have y4 := cell_of B1.out 4
                have y5 := cell_of B1.out 5
                have y6 := cell_of B1.out 6
                simp only [List.getElem?_toArray, List.getElem?_cons_succ, List.getElem?_cons_zero] at z0 y0 z1 y1 z2 y2 z3 y3 z4 y4 z5 y5 z6 y6
                go_wp2_with fail
                refine (klover_any w13 x y e f HX.out HY.out HS.out HT.out).mono ?_
                rintro r w17 ⟨rfl, hc⟩
                clear z0 y0 z1 y1 z2 y2 z3 y3 z4 y4 z5 y5 z6 y6
                replace C := Lib.hid (C.out.trans hc)
                replace HX := Lib.hid (HX.out.chg hc)
                replace HY := Lib.hid (HY.out.chg hc)
                replace B0 := Lib.hid (hc.at_ B0.out (by simp))
                replace B1 := Lib.hid (hc.at_ B1.out (by simp))
                clear hc
                rcases hh1 : hidesP e f with _ | _
                · skip
                  replace hh1 := Lib.hid hh1
                  have z0 := cell_of B0.out 0
                  have z1 := cell_of B0.out 1
                  have z2 := cell_of B0.out 2
                  have z3 := cell_of B0.out 3
                  have z4 := cell_of B0.out 4
                  have z5 := cell_of B0.out 5
                  have z6 := cell_of B0.out 6
                  have y0 := cell_of B1.out 0
                  have y1 := cell_of B1.out 1
                  have y2 := cell_of B1.out 2
                  have y3 := cell_of B1.out 3
                  have y4 := cell_of B1.out 4
                  have y5 := cell_of B1.out 5
                  have y6 := cell_of B1.out 6
                  simp only [List.getElem?_toArray, List.getElem?_cons_succ, List.getElem?_cons_zero] at z0 y0 z1 y1 z2 y2 z3 y3 z4 y4 z5 y5 z6 y6
                  go_wp2_with fail
                  refine (klover_any w17 y x f e HY.out HX.out HT.out HS.out).mono ?_
                  rintro r w18 ⟨rfl, hc⟩
                  clear z0 y0 z1 y1 z2 y2 z3 y3 z4 y4 z5 y5 z6 y6
                  replace C := Lib.hid (C.out.trans hc)
                  replace HX := Lib.hid (HX.out.chg hc)
                  replace HY := Lib.hid (HY.out.chg hc)
                  replace B0 := Lib.hid (hc.at_ B0.out (by simp))
                  replace B1 := Lib.hid (hc.at_ B1.out (by simp))
                  clear hc
                  rcases hh2 : hidesP f e with _ | _
                  · skip
                    replace hh2 := Lib.hid hh2
                    obtain rfl : v = false := by rw [← HV.out, ← clash_doc]; simp [unlikeP, hk1.out, hk2.out, ha1.out, ha2.out, hd.out, hh1.out, hh2.out, hp.out]
                    have z0 := cell_of B0.out 0
                    have z1 := cell_of B0.out 1
                    have z2 := cell_of B0.out 2
                    have z3 := cell_of B0.out 3
                    have z4 := cell_of B0.out 4
                    have z5 := cell_of B0.out 5
                    have z6 := cell_of B0.out 6
                    have y0 := cell_of B1.out 0
                    have y1 := cell_of B1.out 1
                    have y2 := cell_of B1.out 2
                    have y3 := cell_of B1.out 3
                    have y4 := cell_of B1.out 4
                    have y5 := cell_of B1.out 5
                    have y6 := cell_of B1.out 6
                    simp only [List.getElem?_toArray, List.getElem?_cons_succ, List.getElem?_cons_zero] at z0 y0 z1 y1 z2 y2 z3 y3 z4 y4 z5 y5 z6 y6
                    go_wp2
                    go_ret
                    exact ⟨rfl, C.out⟩
                  · skip
                    replace hh2 := Lib.hid hh2
                    obtain rfl : v = true := by rw [← HV.out, ← clash_doc]; simp [unlikeP, hk1.out, hk2.out, ha1.out, ha2.out, hd.out, hh1.out, hh2.out, hp.out]
                    have z0 := cell_of B0.out 0
                    have z1 := cell_of B0.out 1
                    have z2 := cell_of B0.out 2
                    have z3 := cell_of B0.out 3
                    have z4 := cell_of B0.out 4
                    have z5 := cell_of B0.out 5
                    have z6 := cell_of B0.out 6
                    have y0 := cell_of B1.out 0
                    have y1 := cell_of B1.out 1
                    have y2 := cell_of B1.out 2
                    have y3 := cell_of B1.out 3
                    have y4 := cell_of B1.out 4
                    have y5 := cell_of B1.out 5
                    have y6 := cell_of B1.out 6
                    simp only [List.getElem?_toArray, List.getElem?_cons_succ, List.getElem?_cons_zero] at z0 y0 z1 y1 z2 y2 z3 y3 z4 y4 z5 y5 z6 y6
                    go_wp2
                    go_ret
                    exact ⟨rfl, C.out⟩
                · skip
                  replace hh1 := Lib.hid hh1
                  obtain rfl : v = true := by rw [← HV.out, ← clash_doc]; simp [unlikeP, hk1.out, hk2.out, ha1.out, ha2.out, hd.out, hh1.out, hp.out]
                  have z0 := cell_of B0.out 0
                  have z1 := cell_of B0.out 1
                  have z2 := cell_of B0.out 2
                  have z3 := cell_of B0.out 3
                  have z4 := cell_of B0.out 4
                  have z5 := cell_of B0.out 5
                  have z6 := cell_of B0.out 6
                  have y0 := cell_of B1.out 0
                  have y1 := cell_of B1.out 1
                  have y2 := cell_of B1.out 2
                  have y3 := cell_of B1.out 3
                  have y4 := cell_of B1.out 4
                  have y5 := cell_of B1.out 5
                  have y6 := cell_of B1.out 6
                  simp only [List.getElem?_toArray, List.getElem?_cons_succ, List.getElem?_cons_zero] at z0 y0 z1 y1 z2 y2 z3 y3 z4 y4 z5 y5 z6 y6
                  go_wp2
                  go_ret
                  exact ⟨rfl, C.out⟩
            · skip
              replace ha2 := Lib.hid ha2
              obtain rfl : v = false := by rw [← HV.out, ← clash_doc]; simp [unlikeP, hk1.out, hk2.out, ha1.out, ha2.out, hd.out]
              have z0 := cell_of B0.out 0
              have z1 := cell_of B0.out 1
              have z2 := cell_of B0.out 2
              have z3 := cell_of B0.out 3
              have z4 := cell_of B0.out 4
              have z5 := cell_of B0.out 5
              have z6 := cell_of B0.out 6
              have y0 := cell_of B1.out 0
              have y1 := cell_of B1.out 1
              have y2 := cell_of B1.out 2
              have y3 := cell_of B1.out 3
              have y4 := cell_of B1.out 4
              have y5 := cell_of B1.out 5
              have y6 := cell_of B1.out 6
              simp only [List.getElem?_toArray, List.getElem?_cons_succ, List.getElem?_cons_zero] at z0 y0 z1 y1 z2 y2 z3 y3 z4 y4 z5 y5 z6 y6
              go_wp2
              go_ret
              exact ⟨rfl, C.out⟩
          · skip
            replace ha1 := Lib.hid ha1
            obtain rfl : v = false := by rw [← HV.out, ← clash_doc]; simp [unlikeP, hk1.out, hk2.out, ha1.out, hd.out]
            have z0 := cell_of B0.out 0
            have z1 := cell_of B0.out 1
            have z2 := cell_of B0.out 2
            have z3 := cell_of B0.out 3
            have z4 := cell_of B0.out 4
            have z5 := cell_of B0.out 5
            have z6 := cell_of B0.out 6
            have y0 := cell_of B1.out 0
            have y1 := cell_of B1.out 1
            have y2 := cell_of B1.out 2
            have y3 := cell_of B1.out 3
            have y4 := cell_of B1.out 4
            have y5 := cell_of B1.out 5
            have y6 := cell_of B1.out 6
            simp only [List.getElem?_toArray, List.getElem?_cons_succ, List.getElem?_cons_zero] at z0 y0 z1 y1 z2 y2 z3 y3 z4 y4 z5 y5 z6 y6
            go_wp2
            go_ret
            exact ⟨rfl, C.out⟩
      · skip
        have q : e.n = f.n ∧ e.s = f.s := of_decide_eq_true hd
        have d1 : ((x.n == y.n) : Bool) = true := by rw [HX.out.n, HY.out.n, q.1]; exact beq_self_eq_true _
        have d2 : ((x.s == y.s) : Bool) = true := by rw [HX.out.s, HY.out.s, q.2]; exact beq_self_eq_true _
        replace hd := Lib.hid hd
        clear q
        obtain rfl : v = false := by rw [← HV.out, ← clash_doc]; simp [unlikeP, hk1.out, hk2.out, hd.out]
        have z0 := cell_of B0.out 0
        have z1 := cell_of B0.out 1
        have z2 := cell_of B0.out 2
        have z3 := cell_of B0.out 3
        have z4 := cell_of B0.out 4
        have z5 := cell_of B0.out 5
        have z6 := cell_of B0.out 6
        have y0 := cell_of B1.out 0
        have y1 := cell_of B1.out 1
        have y2 := cell_of B1.out 2
        have y3 := cell_of B1.out 3
        have y4 := cell_of B1.out 4
        have y5 := cell_of B1.out 5
        have y6 := cell_of B1.out 6
        simp only [List.getElem?_toArray, List.getElem?_cons_succ, List.getElem?_cons_zero] at z0 y0 z1 y1 z2 y2 z3 y3 z4 y4 z5 y5 z6 y6
        go_wp2
        go_ret
        exact ⟨rfl, C.out⟩
    · skip
      rw [hk2]
      replace hk2 := Lib.hid hk2
      obtain rfl : v = false := by rw [← HV.out, ← clash_doc]; simp [unlikeP, hk1.out, hk2.out]
      have z0 := cell_of B0.out 0
      have z1 := cell_of B0.out 1
      have z2 := cell_of B0.out 2
      have z3 := cell_of B0.out 3
      have z4 := cell_of B0.out 4
      have z5 := cell_of B0.out 5
      have z6 := cell_of B0.out 6
      have y0 := cell_of B1.out 0
      have y1 := cell_of B1.out 1
      have y2 := cell_of B1.out 2
      have y3 := cell_of B1.out 3
      have y4 := cell_of B1.out 4
      have y5 := cell_of B1.out 5
      have y6 := cell_of B1.out 6
      simp only [List.getElem?_toArray, List.getElem?_cons_succ, List.getElem?_cons_zero] at z0 y0 z1 y1 z2 y2 z3 y3 z4 y4 z5 y5 z6 y6
      go_wp2
      go_ret
      exact ⟨rfl, C.out⟩
  · skip
    rw [hk1]
    replace hk1 := Lib.hid hk1
    obtain rfl : v = false := by rw [← HV.out, ← clash_doc]; simp [unlikeP, hk1.out]
    have z0 := cell_of B0.out 0
    have z1 := cell_of B0.out 1
    have z2 := cell_of B0.out 2
    have z3 := cell_of B0.out 3
    have z4 := cell_of B0.out 4
    have z5 := cell_of B0.out 5
    have z6 := cell_of B0.out 6
    have y0 := cell_of B1.out 0
    have y1 := cell_of B1.out 1
    have y2 := cell_of B1.out 2
    have y3 := cell_of B1.out 3
    have y4 := cell_of B1.out 4
    have y5 := cell_of B1.out 5
    have y6 := cell_of B1.out 6
    simp only [List.getElem?_toArray, List.getElem?_cons_succ, List.getElem?_cons_zero] at z0 y0 z1 y1 z2 y2 z3 y3 z4 y4 z5 y5 z6 y6
    go_wp2
    go_ret
    exact ⟨rfl, C.out⟩
end
section
open Go.RowKit Go.Lib
set_option linter.unusedSimpArgs false
set_option linter.unusedVariables false


/-- The pair of two that clash: the lesser dot first. -/
def pairP (a b : EvP) : Int × Int × Int × Int := if clashP a b = true then (if LtD b.n b.s a.n a.s then (b.n, b.s, a.n, a.s) else (a.n, a.s, b.n, b.s)) else (0, 0, 0, 0)
def pairX (a b : EvP) : Int := if clashP a b = true then 0 else 2
theorem clash_dots {a b : EvP} (h : clashP a b = true) : ¬ (a.n = b.n ∧ a.s = b.s) := by
  intro q
  have : dotP a b = true := decide_eq_true q
  unfold clashP clash0 at h
  rw [this] at h
  simp at h
theorem pair_no {a b : EvP} (h : clashP a b = false) : pairP a b = (0, 0, 0, 0) ∧ pairX a b = 2 := by unfold pairP pairX; rw [h]; exact ⟨rfl, rfl⟩
theorem pair_up {a b : EvP} (h : clashP a b = true) (k : LtD a.n a.s b.n b.s) : pairP a b = (a.n, a.s, b.n, b.s) := by
  unfold pairP
  rw [h, if_pos rfl, if_neg]
  unfold LtD at *
  omega
theorem pair_down {a b : EvP} (h : clashP a b = true) (k : ¬ LtD a.n a.s b.n b.s) : pairP a b = (b.n, b.s, a.n, a.s) := by
  unfold pairP
  rw [h, if_pos rfl, if_pos]
  have := clash_dots h
  unfold LtD at *
  omega
theorem pair_ok {a b : EvP} (h : clashP a b = true) : pairX a b = 0 := by unfold pairX; rw [h]; rfl
end
section
open Go.RowKit Go.Lib
set_option linter.unusedSimpArgs false
set_option linter.unusedVariables false


theorem Chg.trans_ {a b : Nat} {w w1 w2 : World} (h : Chg [a] w w1) (k : Chg [b] w1 w2) : Chg [a, b] w w2 := (h.mono (fun i hi => .inl (by simp at hi; simp [hi]))).trans (k.mono (fun i hi => .inl (by simp at hi; simp [hi])))
theorem Chg.more_ {a b c : Nat} {w w1 w2 : World} (h : Chg [a, b] w w1) (k : Chg [c] w1 w2) : Chg [a, b, c] w w2 := (h.mono (fun i hi => .inl (by simp at hi; rcases hi with rfl | rfl <;> simp))).trans (k.mono (fun i hi => .inl (by simp at hi; simp [hi])))

set_option maxHeartbeats 4000000 in
theorem setC7 {w : World} {s0 : Nat} {a0 a1 a2 a3 a4 a5 a6 : Value} {T : TypeId} (v0 v1 v2 v3 v4 v5 v6 : Value) (q0 : w.heap[s0]? = some (.cells #[a0, a1, a2, a3, a4, a5, a6] T (0, 0))) :
    (((((((w.setCell ⟨s0, 0, none⟩ v0).setCell ⟨s0, 1, none⟩ v1).setCell ⟨s0, 2, none⟩ v2).setCell ⟨s0, 3, none⟩ v3).setCell ⟨s0, 4, none⟩ v4).setCell ⟨s0, 5, none⟩ v5).setCell ⟨s0, 6, none⟩ v6).heap[s0]? = some (.cells #[v0, v1, v2, v3, v4, v5, v6] T (0, 0)) ∧ (∀ (s1 : Nat) (o : Obj), s0 ≠ s1 → w.heap[s1]? = some o → (((((((w.setCell ⟨s0, 0, none⟩ v0).setCell ⟨s0, 1, none⟩ v1).setCell ⟨s0, 2, none⟩ v2).setCell ⟨s0, 3, none⟩ v3).setCell ⟨s0, 4, none⟩ v4).setCell ⟨s0, 5, none⟩ v5).setCell ⟨s0, 6, none⟩ v6).heap[s1]? = some o) ∧ Chg [s0] w (((((((w.setCell ⟨s0, 0, none⟩ v0).setCell ⟨s0, 1, none⟩ v1).setCell ⟨s0, 2, none⟩ v2).setCell ⟨s0, 3, none⟩ v3).setCell ⟨s0, 4, none⟩ v4).setCell ⟨s0, 5, none⟩ v5).setCell ⟨s0, 6, none⟩ v6) := by
  have p0 := heap_setCell_same _ s0 0 _ _ v0 q0
  have p1 := heap_setCell_same _ s0 1 _ _ v1 p0
  have p2 := heap_setCell_same _ s0 2 _ _ v2 p1
  have p3 := heap_setCell_same _ s0 3 _ _ v3 p2
  have p4 := heap_setCell_same _ s0 4 _ _ v4 p3
  have p5 := heap_setCell_same _ s0 5 _ _ v5 p4
  have p6 := heap_setCell_same _ s0 6 _ _ v6 p5
  refine ⟨p6, fun s1 o h q1 => ?_, ?_⟩
  · rw [Below.heap_setCell _ _ _ _ (by simp; exact fun e => h e.symm), Below.heap_setCell _ _ _ _ (by simp; exact fun e => h e.symm), Below.heap_setCell _ _ _ _ (by simp; exact fun e => h e.symm), Below.heap_setCell _ _ _ _ (by simp; exact fun e => h e.symm), Below.heap_setCell _ _ _ _ (by simp; exact fun e => h e.symm), Below.heap_setCell _ _ _ _ (by simp; exact fun e => h e.symm), Below.heap_setCell _ _ _ _ (by simp; exact fun e => h e.symm)]
    exact q1
  · exact ((((((((Chg.refl [s0] w).put' 0 v0).put' 1 v1).put' 2 v2).put' 3 v3).put' 4 v4).put' 5 v5).put' 6 v6)

set_option maxRecDepth 100000 in
set_option maxHeartbeats 16000000 in
theorem clpairof_any (w : World) (x y : EvT) (e f : EvP) (hx : EvR w x e) (hy : EvR w y f) (hs : EvSm e) (ht : EvSm f) :
    Calls Tryz.prog 45 #[.agg #[.int .i64 x.n, .int .i64 x.s, .string x.p, .int .i64 x.k, .int .i64 x.m, .slice x.A x.l x.c, .slice x.B x.bl x.bc], .agg #[.int .i64 y.n, .int .i64 y.s, .string y.p, .int .i64 y.k, .int .i64 y.m, .slice y.A y.l y.c, .slice y.B y.bl y.bc]] w fun r w' => r = .returned (.agg #[.int .i64 (if LtD f.n f.s e.n e.s then (f.n, f.s, e.n, e.s) else (e.n, e.s, f.n, f.s)).1, .int .i64 (if LtD f.n f.s e.n e.s then (f.n, f.s, e.n, e.s) else (e.n, e.s, f.n, f.s)).2.1, .int .i64 (if LtD f.n f.s e.n e.s then (f.n, f.s, e.n, e.s) else (e.n, e.s, f.n, f.s)).2.2.1, .int .i64 (if LtD f.n f.s e.n e.s then (f.n, f.s, e.n, e.s) else (e.n, e.s, f.n, f.s)).2.2.2]) ∧ Chg [] w w' := by
  obtain ⟨w2, hw, hc, b0, b1, b2⟩ := news3 w (.cells #[.int .i64 x.n, .int .i64 x.s, .string x.p, .int .i64 x.k, .int .i64 x.m, .slice x.A x.l x.c, .slice x.B x.bl x.bc] 29) (.cells #[.int .i64 y.n, .int .i64 y.s, .string y.p, .int .i64 y.k, .int .i64 y.m, .slice y.A y.l y.c, .slice y.B y.bl y.bc] 29) (.cells #[.int .i64 0, .int .i64 0, .int .i64 0, .int .i64 0] 35)
  have W2 := Lib.hid hw
  have C := Lib.hid hc
  have HX := Lib.hid (hx.chg hc)
  have HY := Lib.hid (hy.chg hc)
  have HS := Lib.hid hs
  have HT := Lib.hid ht
  have B0 := Lib.hid b0
  have B1 := Lib.hid b1
  have B2 := Lib.hid b2
  clear hw hc hx hy hs ht b0 b1 b2
  generalize hP : (if LtD f.n f.s e.n e.s then (f.n, f.s, e.n, e.s) else (e.n, e.s, f.n, f.s)) = P
  have HP_ := Lib.hid hP
  clear hP
  go_enter Tryz.func45, Tryz.ntmps45
  go_upto_region 1 with fail
  rw [← W2.out]
  generalize hz2 : w.heap.size + 2 = g2 at *
  generalize hz1 : w.heap.size + 1 = g1 at *
  generalize hz0 : w.heap.size = g0 at *
  have Z := Lib.hid (And.intro hz0 (And.intro hz1 hz2))
  have n01 : ¬ g0 = g1 := by omega
  have n10 : ¬ g1 = g0 := by omega
  have n02 : ¬ g0 = g2 := by omega
  have n20 : ¬ g2 = g0 := by omega
  have n12 : ¬ g1 = g2 := by omega
  have n21 : ¬ g2 = g1 := by omega
  clear W2 hz0 hz1 hz2
  have ND : Hid (x.n = e.n ∧ x.s = e.s ∧ y.n = f.n ∧ y.s = f.s) := Lib.hid ⟨HX.out.n, HX.out.s, HY.out.n, HY.out.s⟩
  have z0 := cell_of B0.out 0
  have z1 := cell_of B0.out 1
  have z2 := cell_of B0.out 2
  have z3 := cell_of B0.out 3
  have z4 := cell_of B0.out 4
  have z5 := cell_of B0.out 5
  have z6 := cell_of B0.out 6
  have y0 := cell_of B1.out 0
  have y1 := cell_of B1.out 1
  have y2 := cell_of B1.out 2
  have y3 := cell_of B1.out 3
  have y4 := cell_of B1.out 4
  have y5 := cell_of B1.out 5
  have y6 := cell_of B1.out 6
  simp only [List.getElem?_toArray, List.getElem?_cons_succ, List.getElem?_cons_zero] at z0 y0 z1 y1 z2 y2 z3 y3 z4 y4 z5 y5 z6 y6
  go_wp2_with fail
  refine ((dless_any w2 y.n y.s x.n x.s).mono (fun r w' h => (show r = .returned (.bool (decide (LtD f.n f.s e.n e.s))) ∧ Chg [] w2 w' from ⟨by rw [h.1, ND.out.1, ND.out.2.1, ND.out.2.2.1, ND.out.2.2.2], h.2⟩))).mono ?_
  rintro r w3 ⟨rfl, hc⟩
  clear z0 y0 z1 y1 z2 y2 z3 y3 z4 y4 z5 y5 z6 y6
  replace C := Lib.hid (C.out.trans hc)
  replace HX := Lib.hid (HX.out.chg hc)
  replace HY := Lib.hid (HY.out.chg hc)
  replace B0 := Lib.hid (hc.at_ B0.out (by simp))
  replace B1 := Lib.hid (hc.at_ B1.out (by simp))
  replace B2 := Lib.hid (hc.at_ B2.out (by simp))
  clear hc
  by_cases hl : LtD f.n f.s e.n e.s
  · skip
    rw [decide_eq_true hl]
    replace hl := Lib.hid hl
    have z0 := cell_of B0.out 0
    have z1 := cell_of B0.out 1
    have z2 := cell_of B0.out 2
    have z3 := cell_of B0.out 3
    have z4 := cell_of B0.out 4
    have z5 := cell_of B0.out 5
    have z6 := cell_of B0.out 6
    have y0 := cell_of B1.out 0
    have y1 := cell_of B1.out 1
    have y2 := cell_of B1.out 2
    have y3 := cell_of B1.out 3
    have y4 := cell_of B1.out 4
    have y5 := cell_of B1.out 5
    have y6 := cell_of B1.out 6
    simp only [List.getElem?_toArray, List.getElem?_cons_succ, List.getElem?_cons_zero] at z0 y0 z1 y1 z2 y2 z3 y3 z4 y4 z5 y5 z6 y6
    have fz0 := free_of B0.out 0
    have fz1 := free_of B0.out 1
    have fz2 := free_of B0.out 2
    have fz3 := free_of B0.out 3
    have fz4 := free_of B0.out 4
    have fz5 := free_of B0.out 5
    have fz6 := free_of B0.out 6
    have fy0 := free_of B1.out 0
    have fy1 := free_of B1.out 1
    have fy2 := free_of B1.out 2
    have fy3 := free_of B1.out 3
    have fy4 := free_of B1.out 4
    have fy5 := free_of B1.out 5
    have fy6 := free_of B1.out 6
    go_upto_region 3 with fail
    clear z0 y0 z1 y1 z2 y2 z3 y3 z4 y4 z5 y5 z6 y6
    clear fz0 fz1 fz2 fz3 fz4 fz5 fz6 fy0 fy1 fy2 fy3 fy4 fy5 fy6
    obtain ⟨p0, o0, k0⟩ := setC7 (.int .i64 y.n) (.int .i64 y.s) (.string y.p) (.int .i64 y.k) (.int .i64 y.m) (.slice y.A y.l y.c) (.slice y.B y.bl y.bc) B0.out
    have p1 := o0 g1 _ n01 B1.out
    have p2 := o0 g2 _ n02 B2.out
    obtain ⟨q1, o1, k1⟩ := setC7 (.int .i64 x.n) (.int .i64 x.s) (.string x.p) (.int .i64 x.k) (.int .i64 x.m) (.slice x.A x.l x.c) (.slice x.B x.bl x.bc) p1
    have q0 := o1 g0 _ n10 p0
    have q2 := o1 g2 _ n12 p2
    have k2 : Chg [g0, g1] w3 ((((((((((((((w3.setCell ⟨g0, 0, none⟩ (.int .i64 y.n)).setCell ⟨g0, 1, none⟩ (.int .i64 y.s)).setCell ⟨g0, 2, none⟩ (.string y.p)).setCell ⟨g0, 3, none⟩ (.int .i64 y.k)).setCell ⟨g0, 4, none⟩ (.int .i64 y.m)).setCell ⟨g0, 5, none⟩ (.slice y.A y.l y.c)).setCell ⟨g0, 6, none⟩ (.slice y.B y.bl y.bc)).setCell ⟨g1, 0, none⟩ (.int .i64 x.n)).setCell ⟨g1, 1, none⟩ (.int .i64 x.s)).setCell ⟨g1, 2, none⟩ (.string x.p)).setCell ⟨g1, 3, none⟩ (.int .i64 x.k)).setCell ⟨g1, 4, none⟩ (.int .i64 x.m)).setCell ⟨g1, 5, none⟩ (.slice x.A x.l x.c)).setCell ⟨g1, 6, none⟩ (.slice x.B x.bl x.bc)) := Chg.trans_ k0 k1
    generalize ((((((((((((((w3.setCell ⟨g0, 0, none⟩ (.int .i64 y.n)).setCell ⟨g0, 1, none⟩ (.int .i64 y.s)).setCell ⟨g0, 2, none⟩ (.string y.p)).setCell ⟨g0, 3, none⟩ (.int .i64 y.k)).setCell ⟨g0, 4, none⟩ (.int .i64 y.m)).setCell ⟨g0, 5, none⟩ (.slice y.A y.l y.c)).setCell ⟨g0, 6, none⟩ (.slice y.B y.bl y.bc)).setCell ⟨g1, 0, none⟩ (.int .i64 x.n)).setCell ⟨g1, 1, none⟩ (.int .i64 x.s)).setCell ⟨g1, 2, none⟩ (.string x.p)).setCell ⟨g1, 3, none⟩ (.int .i64 x.k)).setCell ⟨g1, 4, none⟩ (.int .i64 x.m)).setCell ⟨g1, 5, none⟩ (.slice x.A x.l x.c)).setCell ⟨g1, 6, none⟩ (.slice x.B x.bl x.bc)) = w4 at *
    have B0 := Lib.hid q0
    have B1 := Lib.hid q1
    have B2 := Lib.hid q2
    have K2 := Lib.hid k2
    clear p0 o0 k0 p1 p2 q1 o1 k1 q0 q2 k2
    have z0 := cell_of B0.out 0
    have z1 := cell_of B0.out 1
    have z2 := cell_of B0.out 2
    have z3 := cell_of B0.out 3
    have z4 := cell_of B0.out 4
    have z5 := cell_of B0.out 5
    have z6 := cell_of B0.out 6
    have y0 := cell_of B1.out 0
    have y1 := cell_of B1.out 1
    have y2 := cell_of B1.out 2
    have y3 := cell_of B1.out 3
    have y4 := cell_of B1.out 4
    have y5 := cell_of B1.out 5
    have y6 := cell_of B1.out 6
    simp only [List.getElem?_toArray, List.getElem?_cons_succ, List.getElem?_cons_zero] at z0 y0 z1 y1 z2 y2 z3 y3 z4 y4 z5 y5 z6 y6
    have ft0 := free_of B2.out 0
    have ft1 := free_of B2.out 1
    have ft2 := free_of B2.out 2
    have ft3 := free_of B2.out 3
    have t0 := cell_of B2.out 0
    have t1 := cell_of B2.out 1
    have t2 := cell_of B2.out 2
    have t3 := cell_of B2.out 3
    simp only [List.getElem?_toArray, List.getElem?_cons_succ, List.getElem?_cons_zero] at t0 t1 t2 t3
    go_wp2
    refine bodyPost_ret (v := .agg #[.int .i64 y.n, .int .i64 y.s, .int .i64 x.n, .int .i64 x.s]) (by simp [results, Tryz.results45, go_sem, n01, n10, n02, n20, n12, n21, t0, t1, t2, t3]) rfl ?_
    obtain rfl : P = (f.n, f.s, e.n, e.s) := by rw [← HP_.out, if_pos hl.out]
    exact ⟨by simp [ND.out.1, ND.out.2.1, ND.out.2.2.1, ND.out.2.2.2], C.out.trans' ((K2.out.more_ (((((Chg.refl [g2] w4).put' 0 _).put' 1 _).put' 2 _).put' 3 _))) (fun i hi => .inr (by have := Z.out; simp at hi; omega))⟩
  · skip
    rw [decide_eq_false hl]
    replace hl := Lib.hid hl
    have z0 := cell_of B0.out 0
    have z1 := cell_of B0.out 1
    have z2 := cell_of B0.out 2
    have z3 := cell_of B0.out 3
    have z4 := cell_of B0.out 4
    have z5 := cell_of B0.out 5
    have z6 := cell_of B0.out 6
    have y0 := cell_of B1.out 0
    have y1 := cell_of B1.out 1
    have y2 := cell_of B1.out 2
    have y3 := cell_of B1.out 3
    have y4 := cell_of B1.out 4
    have y5 := cell_of B1.out 5
    have y6 := cell_of B1.out 6
    simp only [List.getElem?_toArray, List.getElem?_cons_succ, List.getElem?_cons_zero] at z0 y0 z1 y1 z2 y2 z3 y3 z4 y4 z5 y5 z6 y6
    have ft0 := free_of B2.out 0
    have ft1 := free_of B2.out 1
    have ft2 := free_of B2.out 2
    have ft3 := free_of B2.out 3
    have t0 := cell_of B2.out 0
    have t1 := cell_of B2.out 1
    have t2 := cell_of B2.out 2
    have t3 := cell_of B2.out 3
    simp only [List.getElem?_toArray, List.getElem?_cons_succ, List.getElem?_cons_zero] at t0 t1 t2 t3
    go_wp2
    refine bodyPost_ret (v := .agg #[.int .i64 x.n, .int .i64 x.s, .int .i64 y.n, .int .i64 y.s]) (by simp [results, Tryz.results45, go_sem, n01, n10, n02, n20, n12, n21, t0, t1, t2, t3]) rfl ?_
    obtain rfl : P = (e.n, e.s, f.n, f.s) := by rw [← HP_.out, if_neg hl.out]
    exact ⟨by simp [ND.out.1, ND.out.2.1, ND.out.2.2.1, ND.out.2.2.2], C.out.trans' ((((((Chg.refl [g2] w3).put' 0 _).put' 1 _).put' 2 _).put' 3 _)) (fun i hi => .inr (by have := Z.out; simp at hi; omega))⟩

set_option maxRecDepth 100000 in
set_option maxHeartbeats 16000000 in
theorem clPairOf_any (w : World) (x y : EvT) (e f : EvP) (hx : EvR w x e) (hy : EvR w y f) (hs : EvSm e) (ht : EvSm f) :
    Calls Tryz.prog 10 #[.agg #[.int .i64 x.n, .int .i64 x.s, .string x.p, .int .i64 x.k, .int .i64 x.m, .slice x.A x.l x.c, .slice x.B x.bl x.bc], .agg #[.int .i64 y.n, .int .i64 y.s, .string y.p, .int .i64 y.k, .int .i64 y.m, .slice y.A y.l y.c, .slice y.B y.bl y.bc]] w fun r w' => r = .returned (.tuple #[.agg #[.int .i64 (pairP e f).1, .int .i64 (pairP e f).2.1, .int .i64 (pairP e f).2.2.1, .int .i64 (pairP e f).2.2.2], .int .i64 (pairX e f)]) ∧ Chg [] w w' := by
  obtain ⟨w2, hw, hc, b0, b1, b2⟩ := news3 w (.cells #[.int .i64 x.n, .int .i64 x.s, .string x.p, .int .i64 x.k, .int .i64 x.m, .slice x.A x.l x.c, .slice x.B x.bl x.bc] 29) (.cells #[.int .i64 y.n, .int .i64 y.s, .string y.p, .int .i64 y.k, .int .i64 y.m, .slice y.A y.l y.c, .slice y.B y.bl y.bc] 29) (.cells #[.int .i64 0, .int .i64 0, .int .i64 0, .int .i64 0] 35)
  have W2 := Lib.hid hw
  have C := Lib.hid hc
  have HX := Lib.hid (hx.chg hc)
  have HY := Lib.hid (hy.chg hc)
  have HS := Lib.hid hs
  have HT := Lib.hid ht
  have B0 := Lib.hid b0
  have B1 := Lib.hid b1
  have B2 := Lib.hid b2
  clear hw hc hx hy hs ht b0 b1 b2
  generalize hP : pairP e f = P
  have HP_ := Lib.hid hP
  clear hP
  generalize hX : pairX e f = X
  have HX_ := Lib.hid hX
  clear hX
  go_enter Tryz.func10, Tryz.ntmps10
  go_upto_region 1 with fail
  rw [← W2.out]
  generalize hz2 : w.heap.size + 2 = g2 at *
  generalize hz1 : w.heap.size + 1 = g1 at *
  generalize hz0 : w.heap.size = g0 at *
  have Z := Lib.hid (And.intro hz0 (And.intro hz1 hz2))
  have n01 : ¬ g0 = g1 := by omega
  have n10 : ¬ g1 = g0 := by omega
  have n02 : ¬ g0 = g2 := by omega
  have n20 : ¬ g2 = g0 := by omega
  have n12 : ¬ g1 = g2 := by omega
  have n21 : ¬ g2 = g1 := by omega
  clear W2 hz0 hz1 hz2
  have z0 := cell_of B0.out 0
  have z1 := cell_of B0.out 1
  have z2 := cell_of B0.out 2
  have z3 := cell_of B0.out 3
  have z4 := cell_of B0.out 4
  have z5 := cell_of B0.out 5
  have z6 := cell_of B0.out 6
  have y0 := cell_of B1.out 0
  have y1 := cell_of B1.out 1
  have y2 := cell_of B1.out 2
  have y3 := cell_of B1.out 3
  have y4 := cell_of B1.out 4
  have y5 := cell_of B1.out 5
  have y6 := cell_of B1.out 6
  simp only [List.getElem?_toArray, List.getElem?_cons_succ, List.getElem?_cons_zero] at z0 y0 z1 y1 z2 y2 z3 y3 z4 y4 z5 y5 z6 y6
  go_wp2_with fail
  refine (clClash_any w2 x y e f HX.out HY.out HS.out HT.out).mono ?_
  rintro r w3 ⟨rfl, hc⟩
  clear z0 y0 z1 y1 z2 y2 z3 y3 z4 y4 z5 y5 z6 y6
  replace C := Lib.hid (C.out.trans hc)
  replace HX := Lib.hid (HX.out.chg hc)
  replace HY := Lib.hid (HY.out.chg hc)
  replace B0 := Lib.hid (hc.at_ B0.out (by simp))
  replace B1 := Lib.hid (hc.at_ B1.out (by simp))
  replace B2 := Lib.hid (hc.at_ B2.out (by simp))
  clear hc
  rcases hk : clashP e f with _ | _
  · skip
    obtain rfl : P = (0, 0, 0, 0) := by rw [← HP_.out]; exact (pair_no hk).1
    obtain rfl : X = 2 := by rw [← HX_.out]; exact (pair_no hk).2
    replace hk := Lib.hid hk
    have z0 := cell_of B0.out 0
    have z1 := cell_of B0.out 1
    have z2 := cell_of B0.out 2
    have z3 := cell_of B0.out 3
    have z4 := cell_of B0.out 4
    have z5 := cell_of B0.out 5
    have z6 := cell_of B0.out 6
    have y0 := cell_of B1.out 0
    have y1 := cell_of B1.out 1
    have y2 := cell_of B1.out 2
    have y3 := cell_of B1.out 3
    have y4 := cell_of B1.out 4
    have y5 := cell_of B1.out 5
    have y6 := cell_of B1.out 6
    simp only [List.getElem?_toArray, List.getElem?_cons_succ, List.getElem?_cons_zero] at z0 y0 z1 y1 z2 y2 z3 y3 z4 y4 z5 y5 z6 y6
    have ft0 := free_of B2.out 0
    have ft1 := free_of B2.out 1
    have ft2 := free_of B2.out 2
    have ft3 := free_of B2.out 3
    have t0 := cell_of B2.out 0
    have t1 := cell_of B2.out 1
    have t2 := cell_of B2.out 2
    have t3 := cell_of B2.out 3
    simp only [List.getElem?_toArray, List.getElem?_cons_succ, List.getElem?_cons_zero] at t0 t1 t2 t3
    go_wp2
    refine bodyPost_ret (v := .tuple #[.agg #[.int .i64 0, .int .i64 0, .int .i64 0, .int .i64 0], .int .i64 2]) (by simp [results, Tryz.results10, go_sem, n01, n10, n02, n20, n12, n21, t0, t1, t2, t3]) rfl ?_
    exact ⟨rfl, C.out.trans' ((((((Chg.refl [g2] w3).put' 0 _).put' 1 _).put' 2 _).put' 3 _)) (fun i hi => .inr (by have := Z.out; simp at hi; omega))⟩
  · skip
    obtain rfl : X = 0 := by rw [← HX_.out]; exact pair_ok hk
    have PP : Hid ((if LtD f.n f.s e.n e.s then (f.n, f.s, e.n, e.s) else (e.n, e.s, f.n, f.s)) = pairP e f) := Lib.hid (by unfold pairP; rw [hk, if_pos rfl])
    replace hk := Lib.hid hk
    have z0 := cell_of B0.out 0
    have z1 := cell_of B0.out 1
    have z2 := cell_of B0.out 2
    have z3 := cell_of B0.out 3
    have z4 := cell_of B0.out 4
    have z5 := cell_of B0.out 5
    have z6 := cell_of B0.out 6
    have y0 := cell_of B1.out 0
    have y1 := cell_of B1.out 1
    have y2 := cell_of B1.out 2
    have y3 := cell_of B1.out 3
    have y4 := cell_of B1.out 4
    have y5 := cell_of B1.out 5
    have y6 := cell_of B1.out 6
    simp only [List.getElem?_toArray, List.getElem?_cons_succ, List.getElem?_cons_zero] at z0 y0 z1 y1 z2 y2 z3 y3 z4 y4 z5 y5 z6 y6
    go_wp2_with fail
    refine (clpairof_any w3 x y e f HX.out HY.out HS.out HT.out).mono ?_
    rintro r w4 ⟨rfl, hc⟩
    clear z0 y0 z1 y1 z2 y2 z3 y3 z4 y4 z5 y5 z6 y6
    rw [PP.out, HP_.out]
    obtain ⟨P0, P1, P2, P3⟩ := P
    replace C := Lib.hid (C.out.trans hc)
    replace HX := Lib.hid (HX.out.chg hc)
    replace HY := Lib.hid (HY.out.chg hc)
    replace B0 := Lib.hid (hc.at_ B0.out (by simp))
    replace B1 := Lib.hid (hc.at_ B1.out (by simp))
    replace B2 := Lib.hid (hc.at_ B2.out (by simp))
    clear hc
    have z0 := cell_of B0.out 0
    have z1 := cell_of B0.out 1
    have z2 := cell_of B0.out 2
    have z3 := cell_of B0.out 3
    have z4 := cell_of B0.out 4
    have z5 := cell_of B0.out 5
    have z6 := cell_of B0.out 6
    have y0 := cell_of B1.out 0
    have y1 := cell_of B1.out 1
    have y2 := cell_of B1.out 2
    have y3 := cell_of B1.out 3
    have y4 := cell_of B1.out 4
    have y5 := cell_of B1.out 5
    have y6 := cell_of B1.out 6
    simp only [List.getElem?_toArray, List.getElem?_cons_succ, List.getElem?_cons_zero] at z0 y0 z1 y1 z2 y2 z3 y3 z4 y4 z5 y5 z6 y6
    have ft0 := free_of B2.out 0
    have ft1 := free_of B2.out 1
    have ft2 := free_of B2.out 2
    have ft3 := free_of B2.out 3
    have t0 := cell_of B2.out 0
    have t1 := cell_of B2.out 1
    have t2 := cell_of B2.out 2
    have t3 := cell_of B2.out 3
    simp only [List.getElem?_toArray, List.getElem?_cons_succ, List.getElem?_cons_zero] at t0 t1 t2 t3
    go_wp2
    refine bodyPost_ret (v := .tuple #[.agg #[.int .i64 P0, .int .i64 P1, .int .i64 P2, .int .i64 P3], .int .i64 0]) (by simp [results, Tryz.results10, go_sem, n01, n10, n02, n20, n12, n21, t0, t1, t2, t3]) rfl ?_
    exact ⟨rfl, C.out.trans' ((((((Chg.refl [g2] w4).put' 0 _).put' 1 _).put' 2 _).put' 3 _)) (fun i hi => .inr (by have := Z.out; simp at hi; omega))⟩
end
section
open Go.RowKit Go.Lib
set_option linter.unusedSimpArgs false
set_option linter.unusedVariables false


set_option maxRecDepth 100000 in
set_option maxHeartbeats 16000000 in
theorem klPairOf_any (w : World) (x y : EvT) (e f : EvP) (hx : EvR w x e) (hy : EvR w y f) (hs : EvSm e) (ht : EvSm f) :
    Calls Tryz.prog 11 #[.agg #[.int .i64 x.n, .int .i64 x.s, .string x.p, .int .i64 x.k, .int .i64 x.m, .slice x.A x.l x.c, .slice x.B x.bl x.bc], .agg #[.int .i64 y.n, .int .i64 y.s, .string y.p, .int .i64 y.k, .int .i64 y.m, .slice y.A y.l y.c, .slice y.B y.bl y.bc]] w fun r w' => r = .returned (.tuple #[.agg #[.int .i64 (pairP e f).1, .int .i64 (pairP e f).2.1, .int .i64 (pairP e f).2.2.1, .int .i64 (pairP e f).2.2.2], .int .i64 (pairX e f)]) ∧ Chg [] w w' := by
  obtain ⟨w2, hw, hc, b0, b1, b2⟩ := news3 w (.cells #[.int .i64 x.n, .int .i64 x.s, .string x.p, .int .i64 x.k, .int .i64 x.m, .slice x.A x.l x.c, .slice x.B x.bl x.bc] 29) (.cells #[.int .i64 y.n, .int .i64 y.s, .string y.p, .int .i64 y.k, .int .i64 y.m, .slice y.A y.l y.c, .slice y.B y.bl y.bc] 29) (.cells #[.int .i64 0, .int .i64 0, .int .i64 0, .int .i64 0] 35)
  have W2 := Lib.hid hw
  have C := Lib.hid hc
  have HX := Lib.hid (hx.chg hc)
  have HY := Lib.hid (hy.chg hc)
  have HS := Lib.hid hs
  have HT := Lib.hid ht
  have B0 := Lib.hid b0
  have B1 := Lib.hid b1
  have B2 := Lib.hid b2
  clear hw hc hx hy hs ht b0 b1 b2
  generalize hP : pairP e f = P
  have HP_ := Lib.hid hP
  clear hP
  generalize hX : pairX e f = X
  have HX_ := Lib.hid hX
  clear hX
  go_enter Tryz.func11, Tryz.ntmps11
  go_upto_region 1 with fail
  rw [← W2.out]
  generalize hz2 : w.heap.size + 2 = g2 at *
  generalize hz1 : w.heap.size + 1 = g1 at *
  generalize hz0 : w.heap.size = g0 at *
  have Z := Lib.hid (And.intro hz0 (And.intro hz1 hz2))
  have n01 : ¬ g0 = g1 := by omega
  have n10 : ¬ g1 = g0 := by omega
  have n02 : ¬ g0 = g2 := by omega
  have n20 : ¬ g2 = g0 := by omega
  have n12 : ¬ g1 = g2 := by omega
  have n21 : ¬ g2 = g1 := by omega
  clear W2 hz0 hz1 hz2
  have z0 := cell_of B0.out 0
  have z1 := cell_of B0.out 1
  have z2 := cell_of B0.out 2
  have z3 := cell_of B0.out 3
  have z4 := cell_of B0.out 4
  have z5 := cell_of B0.out 5
  have z6 := cell_of B0.out 6
  have y0 := cell_of B1.out 0
  have y1 := cell_of B1.out 1
  have y2 := cell_of B1.out 2
  have y3 := cell_of B1.out 3
  have y4 := cell_of B1.out 4
  have y5 := cell_of B1.out 5
  have y6 := cell_of B1.out 6
  simp only [List.getElem?_toArray, List.getElem?_cons_succ, List.getElem?_cons_zero] at z0 y0 z1 y1 z2 y2 z3 y3 z4 y4 z5 y5 z6 y6
  go_wp2_with fail
  refine (klClash_any w2 x y e f HX.out HY.out HS.out HT.out).mono ?_
  rintro r w3 ⟨rfl, hc⟩
  clear z0 y0 z1 y1 z2 y2 z3 y3 z4 y4 z5 y5 z6 y6
  replace C := Lib.hid (C.out.trans hc)
  replace HX := Lib.hid (HX.out.chg hc)
  replace HY := Lib.hid (HY.out.chg hc)
  replace B0 := Lib.hid (hc.at_ B0.out (by simp))
  replace B1 := Lib.hid (hc.at_ B1.out (by simp))
  replace B2 := Lib.hid (hc.at_ B2.out (by simp))
  clear hc
  rcases hk : clashP e f with _ | _
  · skip
    obtain rfl : P = (0, 0, 0, 0) := by rw [← HP_.out]; exact (pair_no hk).1
    obtain rfl : X = 2 := by rw [← HX_.out]; exact (pair_no hk).2
    replace hk := Lib.hid hk
    have z0 := cell_of B0.out 0
    have z1 := cell_of B0.out 1
    have z2 := cell_of B0.out 2
    have z3 := cell_of B0.out 3
    have z4 := cell_of B0.out 4
    have z5 := cell_of B0.out 5
    have z6 := cell_of B0.out 6
    have y0 := cell_of B1.out 0
    have y1 := cell_of B1.out 1
    have y2 := cell_of B1.out 2
    have y3 := cell_of B1.out 3
    have y4 := cell_of B1.out 4
    have y5 := cell_of B1.out 5
    have y6 := cell_of B1.out 6
    simp only [List.getElem?_toArray, List.getElem?_cons_succ, List.getElem?_cons_zero] at z0 y0 z1 y1 z2 y2 z3 y3 z4 y4 z5 y5 z6 y6
    have ft0 := free_of B2.out 0
    have ft1 := free_of B2.out 1
    have ft2 := free_of B2.out 2
    have ft3 := free_of B2.out 3
    have t0 := cell_of B2.out 0
    have t1 := cell_of B2.out 1
    have t2 := cell_of B2.out 2
    have t3 := cell_of B2.out 3
    simp only [List.getElem?_toArray, List.getElem?_cons_succ, List.getElem?_cons_zero] at t0 t1 t2 t3
    go_wp2
    refine bodyPost_ret (v := .tuple #[.agg #[.int .i64 0, .int .i64 0, .int .i64 0, .int .i64 0], .int .i64 2]) (by simp [results, Tryz.results11, go_sem, n01, n10, n02, n20, n12, n21, t0, t1, t2, t3]) rfl ?_
    exact ⟨rfl, C.out.trans' ((((((Chg.refl [g2] w3).put' 0 _).put' 1 _).put' 2 _).put' 3 _)) (fun i hi => .inr (by have := Z.out; simp at hi; omega))⟩
  · skip
    obtain rfl : X = 0 := by rw [← HX_.out]; exact pair_ok hk
    replace hk := Lib.hid hk
    have ND : Hid (x.n = e.n ∧ x.s = e.s ∧ y.n = f.n ∧ y.s = f.s) := Lib.hid ⟨HX.out.n, HX.out.s, HY.out.n, HY.out.s⟩
    have z0 := cell_of B0.out 0
    have z1 := cell_of B0.out 1
    have z2 := cell_of B0.out 2
    have z3 := cell_of B0.out 3
    have z4 := cell_of B0.out 4
    have z5 := cell_of B0.out 5
    have z6 := cell_of B0.out 6
    have y0 := cell_of B1.out 0
    have y1 := cell_of B1.out 1
    have y2 := cell_of B1.out 2
    have y3 := cell_of B1.out 3
    have y4 := cell_of B1.out 4
    have y5 := cell_of B1.out 5
    have y6 := cell_of B1.out 6
    simp only [List.getElem?_toArray, List.getElem?_cons_succ, List.getElem?_cons_zero] at z0 y0 z1 y1 z2 y2 z3 y3 z4 y4 z5 y5 z6 y6
    go_wp2_with fail
    refine ((hless_any w3 x.n x.s y.n y.s).mono (fun r w' h => (show r = .returned (.bool (decide (LtD e.n e.s f.n f.s))) ∧ Chg [] w3 w' from ⟨by rw [h.1, ND.out.1, ND.out.2.1, ND.out.2.2.1, ND.out.2.2.2], h.2⟩))).mono ?_
    rintro r w4 ⟨rfl, hc⟩
    clear z0 y0 z1 y1 z2 y2 z3 y3 z4 y4 z5 y5 z6 y6
    replace C := Lib.hid (C.out.trans hc)
    replace HX := Lib.hid (HX.out.chg hc)
    replace HY := Lib.hid (HY.out.chg hc)
    replace B0 := Lib.hid (hc.at_ B0.out (by simp))
    replace B1 := Lib.hid (hc.at_ B1.out (by simp))
    replace B2 := Lib.hid (hc.at_ B2.out (by simp))
    clear hc
    by_cases hl : LtD e.n e.s f.n f.s
    · skip
      rw [decide_eq_true hl]
      obtain rfl : P = (e.n, e.s, f.n, f.s) := by rw [← HP_.out]; exact pair_up hk.out hl
      clear hl
      have z0 := cell_of B0.out 0
      have z1 := cell_of B0.out 1
      have z2 := cell_of B0.out 2
      have z3 := cell_of B0.out 3
      have z4 := cell_of B0.out 4
      have z5 := cell_of B0.out 5
      have z6 := cell_of B0.out 6
      have y0 := cell_of B1.out 0
      have y1 := cell_of B1.out 1
      have y2 := cell_of B1.out 2
      have y3 := cell_of B1.out 3
      have y4 := cell_of B1.out 4
      have y5 := cell_of B1.out 5
      have y6 := cell_of B1.out 6
      simp only [List.getElem?_toArray, List.getElem?_cons_succ, List.getElem?_cons_zero] at z0 y0 z1 y1 z2 y2 z3 y3 z4 y4 z5 y5 z6 y6
      have ft0 := free_of B2.out 0
      have ft1 := free_of B2.out 1
      have ft2 := free_of B2.out 2
      have ft3 := free_of B2.out 3
      have t0 := cell_of B2.out 0
      have t1 := cell_of B2.out 1
      have t2 := cell_of B2.out 2
      have t3 := cell_of B2.out 3
      simp only [List.getElem?_toArray, List.getElem?_cons_succ, List.getElem?_cons_zero] at t0 t1 t2 t3
      go_wp2
      refine bodyPost_ret (v := .tuple #[.agg #[.int .i64 x.n, .int .i64 x.s, .int .i64 y.n, .int .i64 y.s], .int .i64 0]) (by simp [results, Tryz.results11, go_sem, n01, n10, n02, n20, n12, n21, t0, t1, t2, t3]) rfl ?_
      exact ⟨by simp [ND.out.1, ND.out.2.1, ND.out.2.2.1, ND.out.2.2.2], C.out.trans' ((((((Chg.refl [g2] w4).put' 0 _).put' 1 _).put' 2 _).put' 3 _)) (fun i hi => .inr (by have := Z.out; simp at hi; omega))⟩
    · skip
      rw [decide_eq_false hl]
      obtain rfl : P = (f.n, f.s, e.n, e.s) := by rw [← HP_.out]; exact pair_down hk.out hl
      clear hl
      have z0 := cell_of B0.out 0
      have z1 := cell_of B0.out 1
      have z2 := cell_of B0.out 2
      have z3 := cell_of B0.out 3
      have z4 := cell_of B0.out 4
      have z5 := cell_of B0.out 5
      have z6 := cell_of B0.out 6
      have y0 := cell_of B1.out 0
      have y1 := cell_of B1.out 1
      have y2 := cell_of B1.out 2
      have y3 := cell_of B1.out 3
      have y4 := cell_of B1.out 4
      have y5 := cell_of B1.out 5
      have y6 := cell_of B1.out 6
      simp only [List.getElem?_toArray, List.getElem?_cons_succ, List.getElem?_cons_zero] at z0 y0 z1 y1 z2 y2 z3 y3 z4 y4 z5 y5 z6 y6
      have ft0 := free_of B2.out 0
      have ft1 := free_of B2.out 1
      have ft2 := free_of B2.out 2
      have ft3 := free_of B2.out 3
      have t0 := cell_of B2.out 0
      have t1 := cell_of B2.out 1
      have t2 := cell_of B2.out 2
      have t3 := cell_of B2.out 3
      simp only [List.getElem?_toArray, List.getElem?_cons_succ, List.getElem?_cons_zero] at t0 t1 t2 t3
      go_wp2
      refine bodyPost_ret (v := .tuple #[.agg #[.int .i64 y.n, .int .i64 y.s, .int .i64 x.n, .int .i64 x.s], .int .i64 0]) (by simp [results, Tryz.results11, go_sem, n01, n10, n02, n20, n12, n21, t0, t1, t2, t3]) rfl ?_
      exact ⟨by simp [ND.out.1, ND.out.2.1, ND.out.2.2.1, ND.out.2.2.2], C.out.trans' ((((((Chg.refl [g2] w4).put' 0 _).put' 1 _).put' 2 _).put' 3 _)) (fun i hi => .inr (by have := Z.out; simp at hi; omega))⟩
end
end Go.Proofs.YtfdaclifapfmdaaGreatDoor
