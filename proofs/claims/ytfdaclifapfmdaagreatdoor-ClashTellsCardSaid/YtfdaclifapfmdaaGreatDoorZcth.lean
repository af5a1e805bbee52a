/- The document's over, Clash. The pair of two events that clash: purely. clash.pairOf, PairOf. The document's PairOf. The kit's CopyEffect. The kit's CopyEvent. -/
import Derived.Test.YtfdaclifapfmdaaGreatDoorZctf
import Derived.Test.YtfdaclifapfmdaaGreatDoorZctg
import Derived.Deep.Cut
import Derived.Test.YtfdaclifapfmdaaGreatDoorZctb
import Derived.Test.YtfdaclifapfmdaaGreatDoorZctd
import Derived.Test.YtfdaclifapfmdaaGreatDoorZcta
namespace Go.Proofs.YtfdaclifapfmdaaGreatDoor
section
open Go.RowKit Go.Lib
set_option linter.unusedSimpArgs false
set_option linter.unusedVariables false


set_option maxRecDepth 100000 in
set_option maxHeartbeats 16000000 in
theorem klover_any (w : World) (x y : EvT) (e f : EvP) (hx : EvR w x e) (hy : EvR w y f) (hs : EvSm e) (ht : EvSm f) :
    Calls Tryz.prog 51 #[.agg #[.int .i64 x.n, .int .i64 x.s, .string x.p, .int .i64 x.k, .int .i64 x.m, .slice x.A x.l x.c, .slice x.B x.bl x.bc], .agg #[.int .i64 y.n, .int .i64 y.s, .string y.p, .int .i64 y.k, .int .i64 y.m, .slice y.A y.l y.c, .slice y.B y.bl y.bc]] w fun r w' => r = .returned (.bool (hidesP e f)) ∧ Chg [] w w' := by
  obtain ⟨w2, hw, hc, b0, b1⟩ := news2 w (.cells #[.int .i64 x.n, .int .i64 x.s, .string x.p, .int .i64 x.k, .int .i64 x.m, .slice x.A x.l x.c, .slice x.B x.bl x.bc] 29) (.cells #[.int .i64 y.n, .int .i64 y.s, .string y.p, .int .i64 y.k, .int .i64 y.m, .slice y.A y.l y.c, .slice y.B y.bl y.bc] 29)
  have W2 := Lib.hid hw
  have C := Lib.hid hc
  have HX := Lib.hid (hx.chg hc)
  have HY := Lib.hid (hy.chg hc)
  have HS := Lib.hid hs
  have HT := Lib.hid ht
  have B0 := Lib.hid b0
  have B1 := Lib.hid b1
  generalize hv : hidesP e f = v
  have HV := Lib.hid hv
  clear hv hw hc hx hy hs ht b0 b1
  go_enter Tryz.func51, Tryz.ntmps51
  go_upto_region 1 with fail
  rw [← W2.out]
  generalize w.heap.size + 1 = g1 at *
  generalize w.heap.size = g0 at *
  clear W2
  have KX : Hid (x.k = e.k ∧ y.k = f.k) := Lib.hid ⟨HX.out.k, HY.out.k⟩
  have UX : Hid (∀ W, Calls Tryz.prog 91 #[.string x.p, .string y.p] W fun r w' => r = .returned (.bool (underL e.p f.p)) ∧ Chg [] W w') := Lib.hid (fun W => by
    rw [HX.out.p, HY.out.p]
    have a := HS.out.1
    have b := HT.out.1
    exact (qhunder_any W e.p f.p (by omega) (by omega)).mono fun r w' h => ⟨h.1, h.2⟩)
  have z0 := cell_of B0.out 0
  have z1 := cell_of B0.out 1
  have z2 := cell_of B0.out 2
  have z3 := cell_of B0.out 3
  have z4 := cell_of B0.out 4
  have z5 := cell_of B0.out 5
  have z6 := cell_of B0.out 6
  have y0 := cell_of B1.out 0
  have y1 := cell_of B1.out 1
  have y2 := cell_of B1.out 2
  have y3 := cell_of B1.out 3
  have y4 := cell_of B1.out 4
  have y5 := cell_of B1.out 5
  have y6 := cell_of B1.out 6
  simp only [List.getElem?_toArray, List.getElem?_cons_succ, List.getElem?_cons_zero] at z0 y0 z1 y1 z2 y2 z3 y3 z4 y4 z5 y5 z6 y6
  go_wp2_with fail
  refine (UX.out w2).mono ?_
  rintro r w3 ⟨rfl, hc⟩
  clear z0 y0 z1 y1 z2 y2 z3 y3 z4 y4 z5 y5 z6 y6
  replace C := Lib.hid (C.out.trans hc)
  replace HX := Lib.hid (HX.out.chg hc)
  replace HY := Lib.hid (HY.out.chg hc)
  replace B0 := Lib.hid (hc.at_ B0.out (by simp))
  replace B1 := Lib.hid (hc.at_ B1.out (by simp))
  clear hc
  rcases hu : underL e.p f.p with _ | _
  · skip
    replace hu := Lib.hid hu
    obtain rfl : v = false := by rw [← HV.out]; unfold hidesP; simp [hu.out]
    have z0 := cell_of B0.out 0
    have z1 := cell_of B0.out 1
    have z2 := cell_of B0.out 2
    have z3 := cell_of B0.out 3
    have z4 := cell_of B0.out 4
    have z5 := cell_of B0.out 5
    have z6 := cell_of B0.out 6
    have y0 := cell_of B1.out 0
    have y1 := cell_of B1.out 1
    have y2 := cell_of B1.out 2
    have y3 := cell_of B1.out 3
    have y4 := cell_of B1.out 4
    have y5 := cell_of B1.out 5
    have y6 := cell_of B1.out 6
    simp only [List.getElem?_toArray, List.getElem?_cons_succ, List.getElem?_cons_zero] at z0 y0 z1 y1 z2 y2 z3 y3 z4 y4 z5 y5 z6 y6
    go_wp2
    go_ret
    exact ⟨rfl, C.out⟩
  · skip
    replace hu := Lib.hid hu
    by_cases k1 : e.k = 2
    · skip
      have d1 : ((x.k == 2) : Bool) = true := by rw [KX.out.1, k1]; rfl
      have d3 : ((x.k != 2) : Bool) = false := by rw [KX.out.1, k1]; rfl
      replace k1 := Lib.hid k1
      obtain rfl : v = false := by rw [← HV.out]; unfold hidesP; simp [hu.out, k1.out]
      have z0 := cell_of B0.out 0
      have z1 := cell_of B0.out 1
      have z2 := cell_of B0.out 2
      have z3 := cell_of B0.out 3
      have z4 := cell_of B0.out 4
      have z5 := cell_of B0.out 5
      have z6 := cell_of B0.out 6
      have y0 := cell_of B1.out 0
      have y1 := cell_of B1.out 1
      have y2 := cell_of B1.out 2
      have y3 := cell_of B1.out 3
      have y4 := cell_of B1.out 4
      have y5 := cell_of B1.out 5
      have y6 := cell_of B1.out 6
      simp only [List.getElem?_toArray, List.getElem?_cons_succ, List.getElem?_cons_zero] at z0 y0 z1 y1 z2 y2 z3 y3 z4 y4 z5 y5 z6 y6
      go_wp2
      go_ret
      exact ⟨rfl, C.out⟩
    · skip
      have d1 : ((x.k == 2) : Bool) = false := by rw [KX.out.1]; exact beq_eq_false_iff_ne.2 k1
      have d3 : ((x.k != 2) : Bool) = true := by rw [KX.out.1]; exact bne_iff_ne.2 k1
      have d5 : ¬ x.k = 2 := by rw [KX.out.1]; exact k1
      replace k1 := Lib.hid k1
      by_cases k2 : f.k = 3
      · skip
        have d2 : ((y.k == 3) : Bool) = true := by rw [KX.out.2, k2]; rfl
        have d4 : ((y.k != 3) : Bool) = false := by rw [KX.out.2, k2]; rfl
        replace k2 := Lib.hid k2
        obtain rfl : v = false := by rw [← HV.out]; unfold hidesP; simp [hu.out, k1.out, k2.out]
        have z0 := cell_of B0.out 0
        have z1 := cell_of B0.out 1
        have z2 := cell_of B0.out 2
        have z3 := cell_of B0.out 3
        have z4 := cell_of B0.out 4
        have z5 := cell_of B0.out 5
        have z6 := cell_of B0.out 6
        have y0 := cell_of B1.out 0
        have y1 := cell_of B1.out 1
        have y2 := cell_of B1.out 2
        have y3 := cell_of B1.out 3
        have y4 := cell_of B1.out 4
        have y5 := cell_of B1.out 5
        have y6 := cell_of B1.out 6
        simp only [List.getElem?_toArray, List.getElem?_cons_succ, List.getElem?_cons_zero] at z0 y0 z1 y1 z2 y2 z3 y3 z4 y4 z5 y5 z6 y6
        go_wp2
        go_ret
        exact ⟨rfl, C.out⟩
      · skip
        have d2 : ((y.k == 3) : Bool) = false := by rw [KX.out.2]; exact beq_eq_false_iff_ne.2 k2
        have d4 : ((y.k != 3) : Bool) = true := by rw [KX.out.2]; exact bne_iff_ne.2 k2
        have d6 : ¬ y.k = 3 := by rw [KX.out.2]; exact k2
        replace k2 := Lib.hid k2
        obtain rfl : v = true := by rw [← HV.out]; unfold hidesP; simp [hu.out, k1.out, k2.out]
        have z0 := cell_of B0.out 0
        have z1 := cell_of B0.out 1
        have z2 := cell_of B0.out 2
        have z3 := cell_of B0.out 3
        have z4 := cell_of B0.out 4
        have z5 := cell_of B0.out 5
        have z6 := cell_of B0.out 6
        have y0 := cell_of B1.out 0
        have y1 := cell_of B1.out 1
        have y2 := cell_of B1.out 2
        have y3 := cell_of B1.out 3
        have y4 := cell_of B1.out 4
        have y5 := cell_of B1.out 5
        have y6 := cell_of B1.out 6
        simp only [List.getElem?_toArray, List.getElem?_cons_succ, List.getElem?_cons_zero] at z0 y0 z1 y1 z2 y2 z3 y3 z4 y4 z5 y5 z6 y6
        go_wp2
        go_ret
        exact ⟨rfl, C.out⟩

set_option maxRecDepth 100000 in
set_option maxHeartbeats 16000000 in
theorem klClash_any (w : World) (x y : EvT) (e f : EvP) (hx : EvR w x e) (hy : EvR w y f) (hs : EvSm e) (ht : EvSm f) :
    Calls Tryz.prog 13 #[.agg #[.int .i64 x.n, .int .i64 x.s, .string x.p, .int .i64 x.k, .int .i64 x.m, .slice x.A x.l x.c, .slice x.B x.bl x.bc], .agg #[.int .i64 y.n, .int .i64 y.s, .string y.p, .int .i64 y.k, .int .i64 y.m, .slice y.A y.l y.c, .slice y.B y.bl y.bc]] w fun r w' => r = .returned (.bool (clashP e f)) ∧ Chg [] w w' := by
  obtain ⟨w2, hw, hc, b0, b1⟩ := news2 w (.cells #[.int .i64 x.n, .int .i64 x.s, .string x.p, .int .i64 x.k, .int .i64 x.m, .slice x.A x.l x.c, .slice x.B x.bl x.bc] 29) (.cells #[.int .i64 y.n, .int .i64 y.s, .string y.p, .int .i64 y.k, .int .i64 y.m, .slice y.A y.l y.c, .slice y.B y.bl y.bc] 29)
  have W2 := Lib.hid hw
  have C := Lib.hid hc
  have HX := Lib.hid (hx.chg hc)
  have HY := Lib.hid (hy.chg hc)
  have HS := Lib.hid hs
  have HT := Lib.hid ht
  have B0 := Lib.hid b0
  have B1 := Lib.hid b1
  generalize hv : clashP e f = v
  have HV := Lib.hid hv
  clear hv hw hc hx hy hs ht b0 b1
  go_enter Tryz.func13, Tryz.ntmps13
  go_upto_region 1 with fail
  rw [← W2.out]
  generalize w.heap.size + 1 = g1 at *
  generalize w.heap.size = g0 at *
  clear W2
  have z0 := cell_of B0.out 0
  have z1 := cell_of B0.out 1
  have z2 := cell_of B0.out 2
  have z3 := cell_of B0.out 3
  have z4 := cell_of B0.out 4
  have z5 := cell_of B0.out 5
  have z6 := cell_of B0.out 6
  have y0 := cell_of B1.out 0
  have y1 := cell_of B1.out 1
  have y2 := cell_of B1.out 2
  have y3 := cell_of B1.out 3
  have y4 := cell_of B1.out 4
  have y5 := cell_of B1.out 5
  have y6 := cell_of B1.out 6
  simp only [List.getElem?_toArray, List.getElem?_cons_succ, List.getElem?_cons_zero] at z0 y0 z1 y1 z2 y2 z3 y3 z4 y4 z5 y5 z6 y6
  go_wp2_with fail
  refine (vecheck_any w2 x e HX.out HS.out).mono ?_
  rintro r w3 ⟨rfl, hc⟩
  clear z0 y0 z1 y1 z2 y2 z3 y3 z4 y4 z5 y5 z6 y6
  replace C := Lib.hid (C.out.trans hc)
  replace HX := Lib.hid (HX.out.chg hc)
  replace HY := Lib.hid (HY.out.chg hc)
  replace B0 := Lib.hid (hc.at_ B0.out (by simp))
  replace B1 := Lib.hid (hc.at_ B1.out (by simp))
  clear hc
  rcases chkEv_two e with hk1 | hk1
  · skip
    rw [hk1]
    replace hk1 := Lib.hid hk1
    have z0 := cell_of B0.out 0
    have z1 := cell_of B0.out 1
    have z2 := cell_of B0.out 2
    have z3 := cell_of B0.out 3
    have z4 := cell_of B0.out 4
    have z5 := cell_of B0.out 5
    have z6 := cell_of B0.out 6
    have y0 := cell_of B1.out 0
    have y1 := cell_of B1.out 1
    have y2 := cell_of B1.out 2
    have y3 := cell_of B1.out 3
    have y4 := cell_of B1.out 4
    have y5 := cell_of B1.out 5
    have y6 := cell_of B1.out 6
    simp only [List.getElem?_toArray, List.getElem?_cons_succ, List.getElem?_cons_zero] at z0 y0 z1 y1 z2 y2 z3 y3 z4 y4 z5 y5 z6 y6
    go_wp2_with fail
    refine (vecheck_any w3 y f HY.out HT.out).mono ?_
    rintro r w4 ⟨rfl, hc⟩
    clear z0 y0 z1 y1 z2 y2 z3 y3 z4 y4 z5 y5 z6 y6
    replace C := Lib.hid (C.out.trans hc)
    replace HX := Lib.hid (HX.out.chg hc)
    replace HY := Lib.hid (HY.out.chg hc)
    replace B0 := Lib.hid (hc.at_ B0.out (by simp))
    replace B1 := Lib.hid (hc.at_ B1.out (by simp))
    clear hc
    rcases chkEv_two f with hk2 | hk2
    · skip
      rw [hk2]
      replace hk2 := Lib.hid hk2
      rcases hd : dotP e f with _ | _
      · skip
        have q : ¬ (e.n = f.n ∧ e.s = f.s) := of_decide_eq_false hd
        replace hd := Lib.hid hd
        by_cases q1 : e.n = f.n
        · skip
          have q2 : ¬ e.s = f.s := fun h => q ⟨q1, h⟩
          have d1 : ((x.n == y.n) : Bool) = true := by rw [HX.out.n, HY.out.n, q1]; exact beq_self_eq_true _
          have d2 : ((x.s == y.s) : Bool) = false := by rw [HX.out.s, HY.out.s]; exact beq_eq_false_iff_ne.2 q2
          have d3 : ¬ x.s = y.s := by rw [HX.out.s, HY.out.s]; exact q2
          clear q q1 q2
          have z0 := cell_of B0.out 0
          have z1 := cell_of B0.out 1
          have z2 := cell_of B0.out 2
          have z3 := cell_of B0.out 3
          have z4 := cell_of B0.out 4
          have z5 := cell_of B0.out 5
          have z6 := cell_of B0.out 6
          have y0 := cell_of B1.out 0
          have y1 := cell_of B1.out 1
          have y2 := cell_of B1.out 2
          have y3 := cell_of B1.out 3
          have y4 := cell_of B1.out 4
          have y5 := cell_of B1.out 5
          have y6 := cell_of B1.out 6
          simp only [List.getElem?_toArray, List.getElem?_cons_succ, List.getElem?_cons_zero] at z0 y0 z1 y1 z2 y2 z3 y3 z4 y4 z5 y5 z6 y6
          go_wp2_with fail
          refine (veahead_any w4 x y e f HX.out HY.out HS.out HT.out).mono ?_
          rintro r w5 ⟨rfl, hc⟩
          clear z0 y0 z1 y1 z2 y2 z3 y3 z4 y4 z5 y5 z6 y6
          replace C := Lib.hid (C.out.trans hc)
          replace HX := Lib.hid (HX.out.chg hc)
          replace HY := Lib.hid (HY.out.chg hc)
          replace B0 := Lib.hid (hc.at_ B0.out (by simp))
          replace B1 := Lib.hid (hc.at_ B1.out (by simp))
          clear hc
          rcases ha1 : aheadP e f with _ | _
          · skip
            replace ha1 := Lib.hid ha1
            have z0 := cell_of B0.out 0
            have z1 := cell_of B0.out 1
            have z2 := cell_of B0.out 2
            have z3 := cell_of B0.out 3
            have z4 := cell_of B0.out 4
            have z5 := cell_of B0.out 5
            have z6 := cell_of B0.out 6
            have y0 := cell_of B1.out 0
            have y1 := cell_of B1.out 1
            have y2 := cell_of B1.out 2
            have y3 := cell_of B1.out 3
            have y4 := cell_of B1.out 4
            have y5 := cell_of B1.out 5
            have y6 := cell_of B1.out 6
            simp only [List.getElem?_toArray, List.getElem?_cons_succ, List.getElem?_cons_zero] at z0 y0 z1 y1 z2 y2 z3 y3 z4 y4 z5 y5 z6 y6
            go_wp2_with fail
            refine (veahead_any w5 y x f e HY.out HX.out HT.out HS.out).mono ?_
            rintro r w6 ⟨rfl, hc⟩
            clear z0 y0 z1 y1 z2 y2 z3 y3 z4 y4 z5 y5 z6 y6
            replace C := Lib.hid (C.out.trans hc)
            replace HX := Lib.hid (HX.out.chg hc)
            replace HY := Lib.hid (HY.out.chg hc)
            replace B0 := Lib.hid (hc.at_ B0.out (by simp))
            replace B1 := Lib.hid (hc.at_ B1.out (by simp))
            clear hc
            rcases ha2 : aheadP f e with _ | _
            · skip
              replace ha2 := Lib.hid ha2
              have XP : Hid (x.p = strOf e.p ∧ y.p = strOf f.p) := Lib.hid ⟨HX.out.p, HY.out.p⟩
              have KX : Hid (sameX x.k x.m e.b y.k y.m f.b = sameX e.k e.m e.b f.k f.m f.b) := Lib.hid (by rw [HX.out.k, HX.out.m, HY.out.k, HY.out.m])
              by_cases hp : e.p = f.p
              · skip
                have e1 : ((x.p == y.p) : Bool) = true := by rw [XP.out.1, XP.out.2, hp]; show ((f.p.toArray == f.p.toArray) : Bool) = true; simp
                have e3 : x.p.toList = y.p.toList := by rw [XP.out.1, XP.out.2, hp]
                replace hp := Lib.hid hp
                have z0 := cell_of B0.out 0
                have z1 := cell_of B0.out 1
                have z2 := cell_of B0.out 2
                have z3 := cell_of B0.out 3
                have z4 := cell_of B0.out 4
                have z5 := cell_of B0.out 5
                have z6 := cell_of B0.out 6
                have y0 := cell_of B1.out 0
                have y1 := cell_of B1.out 1
                have y2 := cell_of B1.out 2
                have y3 := cell_of B1.out 3
                have y4 := cell_of B1.out 4
                have y5 := cell_of B1.out 5
                have y6 := cell_of B1.out 6
                simp only [List.getElem?_toArray, List.getElem?_cons_succ, List.getElem?_cons_zero] at z0 y0 z1 y1 z2 y2 z3 y3 z4 y4 z5 y5 z6 y6
                go_wp2_with fail
                refine ((fsamex_any w6 x.k x.m y.k y.m x.A y.A x.l x.c y.l y.c e.b f.b HX.out.A HY.out.A).mono (fun r w' h => (show r = .returned (.bool (sameX e.k e.m e.b f.k f.m f.b)) ∧ Chg [] _ w' from ⟨by rw [h.1, KX.out], h.2⟩))).mono ?_
                rintro r w7 ⟨rfl, hc⟩
                clear z0 y0 z1 y1 z2 y2 z3 y3 z4 y4 z5 y5 z6 y6
                replace C := Lib.hid (C.out.trans hc)
                replace HX := Lib.hid (HX.out.chg hc)
                replace HY := Lib.hid (HY.out.chg hc)
                replace B0 := Lib.hid (hc.at_ B0.out (by simp))
                replace B1 := Lib.hid (hc.at_ B1.out (by simp))
                clear hc
                rcases hsame : sameX e.k e.m e.b f.k f.m f.b with _ | _
                · skip
                  replace hsame := Lib.hid hsame
                  obtain rfl : v = true := by rw [← HV.out, ← clash_doc]; simp [unlikeP, hk1.out, hk2.out, ha1.out, ha2.out, hd.out, hsame.out, hp.out]
                  have z0 := cell_of B0.out 0
                  have z1 := cell_of B0.out 1
                  have z2 := cell_of B0.out 2
                  have z3 := cell_of B0.out 3
                  have z4 := cell_of B0.out 4
                  have z5 := cell_of B0.out 5
                  have z6 := cell_of B0.out 6
                  have y0 := cell_of B1.out 0
                  have y1 := cell_of B1.out 1
                  have y2 := cell_of B1.out 2
                  have y3 := cell_of B1.out 3
                  have y4 := cell_of B1.out 4
                  have y5 := cell_of B1.out 5
                  have y6 := cell_of B1.out 6
                  simp only [List.getElem?_toArray, List.getElem?_cons_succ, List.getElem?_cons_zero] at z0 y0 z1 y1 z2 y2 z3 y3 z4 y4 z5 y5 z6 y6
                  go_wp2
                  go_ret
                  exact ⟨rfl, C.out⟩
                · skip
                  replace hsame := Lib.hid hsame
                  have z0 := cell_of B0.out 0
                  have z1 := cell_of B0.out 1
                  have z2 := cell_of B0.out 2
                  have z3 := cell_of B0.out 3
                  have z4 := cell_of B0.out 4
                  have z5 := cell_of B0.out 5
                  have z6 := cell_of B0.out 6
                  have y0 := cell_of B1.out 0
                  have y1 := cell_of B1.out 1
                  have y2 := cell_of B1.out 2
                  have y3 := cell_of B1.out 3
                  have y4 := cell_of B1.out 4
                  have y5 := cell_of B1.out 5
                  have y6 := cell_of B1.out 6
                  simp only [List.getElem?_toArray, List.getElem?_cons_succ, List.getElem?_cons_zero] at z0 y0 z1 y1 z2 y2 z3 y3 z4 y4 z5 y5 z6 y6
                  go_wp2_with fail
                  refine (klover_any w7 x y e f HX.out HY.out HS.out HT.out).mono ?_
                  rintro r w8 ⟨rfl, hc⟩
                  clear z0 y0 z1 y1 z2 y2 z3 y3 z4 y4 z5 y5 z6 y6
                  replace C := Lib.hid (C.out.trans hc)
                  replace HX := Lib.hid (HX.out.chg hc)
                  replace HY := Lib.hid (HY.out.chg hc)
                  replace B0 := Lib.hid (hc.at_ B0.out (by simp))
                  replace B1 := Lib.hid (hc.at_ B1.out (by simp))
                  clear hc
                  rcases hh1 : hidesP e f with _ | _
                  · skip
                    replace hh1 := Lib.hid hh1
                    have z0 := cell_of B0.out 0
                    have z1 := cell_of B0.out 1
                    have z2 := cell_of B0.out 2
                    have z3 := cell_of B0.out 3
                    have z4 := cell_of B0.out 4
                    have z5 := cell_of B0.out 5
                    have z6 := cell_of B0.out 6
                    have y0 := cell_of B1.out 0
                    have y1 := cell_of B1.out 1
                    have y2 := cell_of B1.out 2
                    have y3 := cell_of B1.out 3
                    have y4 := cell_of B1.out 4
                    have y5 := cell_of B1.out 5
                    have y6 := cell_of B1.out 6
                    simp only [List.getElem?_toArray, List.getElem?_cons_succ, List.getElem?_cons_zero] at z0 y0 z1 y1 z2 y2 z3 y3 z4 y4 z5 y5 z6 y6
                    go_wp2_with fail
                    refine (klover_any w8 y x f e HY.out HX.out HT.out HS.out).mono ?_
                    rintro r w9 ⟨rfl, hc⟩
                    clear z0 y0 z1 y1 z2 y2 z3 y3 z4 y4 z5 y5 z6 y6
                    replace C := Lib.hid (C.out.trans hc)
                    replace HX := Lib.hid (HX.out.chg hc)
                    replace HY := Lib.hid (HY.out.chg hc)
                    replace B0 := Lib.hid (hc.at_ B0.out (by simp))
                    replace B1 := Lib.hid (hc.at_ B1.out (by simp))
                    clear hc
                    rcases hh2 : hidesP f e with _ | _
                    · skip
                      replace hh2 := Lib.hid hh2
                      obtain rfl : v = false := by rw [← HV.out, ← clash_doc]; simp [unlikeP, hk1.out, hk2.out, ha1.out, ha2.out, hd.out, hsame.out, hh1.out, hh2.out, hp.out]
                      have z0 := cell_of B0.out 0
                      have z1 := cell_of B0.out 1
                      have z2 := cell_of B0.out 2
                      have z3 := cell_of B0.out 3
                      have z4 := cell_of B0.out 4
                      have z5 := cell_of B0.out 5
                      have z6 := cell_of B0.out 6
                      have y0 := cell_of B1.out 0
                      have y1 := cell_of B1.out 1
                      have y2 := cell_of B1.out 2
                      have y3 := cell_of B1.out 3
                      have y4 := cell_of B1.out 4
                      have y5 := cell_of B1.out 5
                      have y6 := cell_of B1.out 6
                      simp only [List.getElem?_toArray, List.getElem?_cons_succ, List.getElem?_cons_zero] at z0 y0 z1 y1 z2 y2 z3 y3 z4 y4 z5 y5 z6 y6
                      go_wp2
                      go_ret
                      exact ⟨rfl, C.out⟩
                    · skip
                      replace hh2 := Lib.hid hh2
                      obtain rfl : v = true := by rw [← HV.out, ← clash_doc]; simp [unlikeP, hk1.out, hk2.out, ha1.out, ha2.out, hd.out, hsame.out, hh1.out, hh2.out, hp.out]
                      have z0 := cell_of B0.out 0
                      have z1 := cell_of B0.out 1
                      have z2 := cell_of B0.out 2
                      have z3 := cell_of B0.out 3
                      have z4 := cell_of B0.out 4
                      have z5 := cell_of B0.out 5
                      have z6 := cell_of B0.out 6
                      have y0 := cell_of B1.out 0
                      have y1 := cell_of B1.out 1
                      have y2 := cell_of B1.out 2
                      have y3 := cell_of B1.out 3
                      have y4 := cell_of B1.out 4
                      have y5 := cell_of B1.out 5
                      have y6 := cell_of B1.out 6
                      simp only [List.getElem?_toArray, List.getElem?_cons_succ, List.getElem?_cons_zero] at z0 y0 z1 y1 z2 y2 z3 y3 z4 y4 z5 y5 z6 y6
                      go_wp2
                      go_ret
                      exact ⟨rfl, C.out⟩
                  · skip
                    replace hh1 := Lib.hid hh1
                    obtain rfl : v = true := by rw [← HV.out, ← clash_doc]; simp [unlikeP, hk1.out, hk2.out, ha1.out, ha2.out, hd.out, hsame.out, hh1.out, hp.out]
                    have z0 := cell_of B0.out 0
                    have z1 := cell_of B0.out 1
                    have z2 := cell_of B0.out 2
                    have z3 := cell_of B0.out 3
                    have z4 := cell_of B0.out 4
                    have z5 := cell_of B0.out 5
                    have z6 := cell_of B0.out 6
                    have y0 := cell_of B1.out 0
                    have y1 := cell_of B1.out 1
                    have y2 := cell_of B1.out 2
                    have y3 := cell_of B1.out 3
                    have y4 := cell_of B1.out 4
                    have y5 := cell_of B1.out 5
                    have y6 := cell_of B1.out 6
                    simp only [List.getElem?_toArray, List.getElem?_cons_succ, List.getElem?_cons_zero] at z0 y0 z1 y1 z2 y2 z3 y3 z4 y4 z5 y5 z6 y6
                    go_wp2
                    go_ret
                    exact ⟨rfl, C.out⟩
              · skip
                have e1 : ((x.p == y.p) : Bool) = false := by rw [XP.out.1, XP.out.2]; exact strOf_ne hp
                have e2 : ¬ x.p = y.p := by rw [XP.out.1, XP.out.2]; exact strOf_ne2 hp
                have e3 : ¬ x.p.toList = y.p.toList := by rw [XP.out.1, XP.out.2]; exact strOf_ne3 hp
                replace hp := Lib.hid hp
                have z0 := cell_of B0.out 0
                have z1 := cell_of B0.out 1
                have z2 := cell_of B0.out 2
                have z3 := cell_of B0.out 3
                have z4 := cell_of B0.out 4
                have z5 := cell_of B0.out 5
                have z6 := cell_of B0.out 6
                have y0 := cell_of B1.out 0
                have y1 := cell_of B1.out 1
                have y2 := cell_of B1.out 2
                have y3 := cell_of B1.out 3
                have y4 := cell_of B1.out 4
                have y5 := cell_of B1.out 5
                have y6 := cell_of B1.out 6
                simp only [List.getElem?_toArray, List.getElem?_cons_succ, List.getElem?_cons_zero] at z0 y0 z1 y1 z2 y2 z3 y3 z4 y4 z5 y5 z6 y6
                go_wp2_with fail
                refine (klover_any w6 x y e f HX.out HY.out HS.out HT.out).mono ?_
                rintro r w10 ⟨rfl, hc⟩
                clear z0 y0 z1 y1 z2 y2 z3 y3 z4 y4 z5 y5 z6 y6
                replace C := Lib.hid (C.out.trans hc)
                replace HX := Lib.hid (HX.out.chg hc)
                replace HY := Lib.hid (HY.out.chg hc)
                replace B0 := Lib.hid (hc.at_ B0.out (by simp))
                replace B1 := Lib.hid (hc.at_ B1.out (by simp))
                clear hc
                rcases hh1 : hidesP e f with _ | _
                · skip
                  replace hh1 := Lib.hid hh1
                  have z0 := cell_of B0.out 0
                  have z1 := cell_of B0.out 1
                  have z2 := cell_of B0.out 2
                  have z3 := cell_of B0.out 3
                  have z4 := cell_of B0.out 4
                  have z5 := cell_of B0.out 5
                  have z6 := cell_of B0.out 6
                  have y0 := cell_of B1.out 0
                  have y1 := cell_of B1.out 1
                  have y2 := cell_of B1.out 2
                  have y3 := cell_of B1.out 3
                  have y4 := cell_of B1.out 4
                  have y5 := cell_of B1.out 5
                  have y6 := cell_of B1.out 6
                  simp only [List.getElem?_toArray, List.getElem?_cons_succ, List.getElem?_cons_zero] at z0 y0 z1 y1 z2 y2 z3 y3 z4 y4 z5 y5 z6 y6
                  go_wp2_with fail
                  refine (klover_any w10 y x f e HY.out HX.out HT.out HS.out).mono ?_
                  rintro r w11 ⟨rfl, hc⟩
                  clear z0 y0 z1 y1 z2 y2 z3 y3 z4 y4 z5 y5 z6 y6
                  replace C := Lib.hid (C.out.trans hc)
                  replace HX := Lib.hid (HX.out.chg hc)
                  replace HY := Lib.hid (HY.out.chg hc)
                  replace B0 := Lib.hid (hc.at_ B0.out (by simp))
                  replace B1 := Lib.hid (hc.at_ B1.out (by simp))
                  clear hc
                  rcases hh2 : hidesP f e with _ | _
                  · skip
                    replace hh2 := Lib.hid hh2
                    obtain rfl : v = false := by rw [← HV.out, ← clash_doc]; simp [unlikeP, hk1.out, hk2.out, ha1.out, ha2.out, hd.out, hh1.out, hh2.out, hp.out]
                    have z0 := cell_of B0.out 0
                    have z1 := cell_of B0.out 1
                    have z2 := cell_of B0.out 2
                    have z3 := cell_of B0.out 3
                    have z4 := cell_of B0.out 4
                    have z5 := cell_of B0.out 5
                    have z6 := cell_of B0.out 6
                    have y0 := cell_of B1.out 0
                    have y1 := cell_of B1.out 1
                    have y2 := cell_of B1.out 2
                    have y3 := cell_of B1.out 3
                    have y4 := cell_of B1.out 4
                    have y5 := cell_of B1.out 5
                    have y6 := cell_of B1.out 6
                    simp only [List.getElem?_toArray, List.getElem?_cons_succ, List.getElem?_cons_zero] at z0 y0 z1 y1 z2 y2 z3 y3 z4 y4 z5 y5 z6 y6
                    go_wp2
                    go_ret
                    exact ⟨rfl, C.out⟩
                  · skip
                    replace hh2 := Lib.hid hh2
                    obtain rfl : v = true := by rw [← HV.out, ← clash_doc]; simp [unlikeP, hk1.out, hk2.out, ha1.out, ha2.out, hd.out, hh1.out, hh2.out, hp.out]
                    have z0 := cell_of B0.out 0
                    have z1 := cell_of B0.out 1
                    have z2 := cell_of B0.out 2
                    have z3 := cell_of B0.out 3
                    have z4 := cell_of B0.out 4
                    have z5 := cell_of B0.out 5
                    have z6 := cell_of B0.out 6
                    have y0 := cell_of B1.out 0
                    have y1 := cell_of B1.out 1
                    have y2 := cell_of B1.out 2
                    have y3 := cell_of B1.out 3
                    have y4 := cell_of B1.out 4
                    have y5 := cell_of B1.out 5
                    have y6 := cell_of B1.out 6
                    simp only [List.getElem?_toArray, List.getElem?_cons_succ, List.getElem?_cons_zero] at z0 y0 z1 y1 z2 y2 z3 y3 z4 y4 z5 y5 z6 y6
                    go_wp2
                    go_ret
                    exact ⟨rfl, C.out⟩
                · skip
                  replace hh1 := Lib.hid hh1
                  obtain rfl : v = true := by rw [← HV.out, ← clash_doc]; simp [unlikeP, hk1.out, hk2.out, ha1.out, ha2.out, hd.out, hh1.out, hp.out]
                  have z0 := cell_of B0.out 0
                  have z1 := cell_of B0.out 1
                  have z2 := cell_of B0.out 2
                  have z3 := cell_of B0.out 3
                  have z4 := cell_of B0.out 4
                  have z5 := cell_of B0.out 5
                  have z6 := cell_of B0.out 6
                  have y0 := cell_of B1.out 0
                  have y1 := cell_of B1.out 1
                  have y2 := cell_of B1.out 2
                  have y3 := cell_of B1.out 3
                  have y4 := cell_of B1.out 4
                  have y5 := cell_of B1.out 5
                  have y6 := cell_of B1.out 6
                  simp only [List.getElem?_toArray, List.getElem?_cons_succ, List.getElem?_cons_zero] at z0 y0 z1 y1 z2 y2 z3 y3 z4 y4 z5 y5 z6 y6
                  go_wp2
                  go_ret
                  exact ⟨rfl, C.out⟩
            · skip
              replace ha2 := Lib.hid ha2
              obtain rfl : v = false := by rw [← HV.out, ← clash_doc]; simp [unlikeP, hk1.out, hk2.out, ha1.out, ha2.out, hd.out]
              have z0 := cell_of B0.out 0
              have z1 := cell_of B0.out 1
              have z2 := cell_of B0.out 2
              have z3 := cell_of B0.out 3
              have z4 := cell_of B0.out 4
              have z5 := cell_of B0.out 5
              have z6 := cell_of B0.out 6
              have y0 := cell_of B1.out 0
              have y1 := cell_of B1.out 1
              have y2 := cell_of B1.out 2
              have y3 := cell_of B1.out 3
              have y4 := cell_of B1.out 4
              have y5 := cell_of B1.out 5
              have y6 := cell_of B1.out 6
              simp only [List.getElem?_toArray, List.getElem?_cons_succ, List.getElem?_cons_zero] at z0 y0 z1 y1 z2 y2 z3 y3 z4 y4 z5 y5 z6 y6
              go_wp2
              go_ret
              exact ⟨rfl, C.out⟩
          · skip
            replace ha1 := Lib.hid ha1
            obtain rfl : v = false := by rw [← HV.out, ← clash_doc]; simp [unlikeP, hk1.out, hk2.out, ha1.out, hd.out]
            have z0 := cell_of B0.out 0
            have z1 := cell_of B0.out 1
            have z2 := cell_of B0.out 2
            have z3 := cell_of B0.out 3
            have z4 := cell_of B0.out 4
            have z5 := cell_of B0.out 5
            have z6 := cell_of B0.out 6
            have y0 := cell_of B1.out 0
            have y1 := cell_of B1.out 1
            have y2 := cell_of B1.out 2
            have y3 := cell_of B1.out 3
            have y4 := cell_of B1.out 4
            have y5 := cell_of B1.out 5
            have y6 := cell_of B1.out 6
            simp only [List.getElem?_toArray, List.getElem?_cons_succ, List.getElem?_cons_zero] at z0 y0 z1 y1 z2 y2 z3 y3 z4 y4 z5 y5 z6 y6
            go_wp2
            go_ret
            exact ⟨rfl, C.out⟩
        · skip
          have d1 : ((x.n == y.n) : Bool) = false := by rw [HX.out.n, HY.out.n]; exact beq_eq_false_iff_ne.2 q1
          have d3 : ¬ x.n = y.n := by rw [HX.out.n, HY.out.n]; exact q1
          clear q q1
          have z0 := cell_of B0.out 0
          have z1 := cell_of B0.out 1
          have z2 := cell_of B0.out 2
          have z3 := cell_of B0.out 3
          have z4 := cell_of B0.out 4
          have z5 := cell_of B0.out 5
          have z6 := cell_of B0.out 6
          have y0 := cell_of B1.out 0
          have y1 := cell_of B1.out 1
          have y2 := cell_of B1.out 2
          have y3 := cell_of B1.out 3
          have y4 := cell_of B1.out 4
          have y5 := cell_of B1.out 5
          have y6 := cell_of B1.out 6
          simp only [List.getElem?_toArray, List.getElem?_cons_succ, List.getElem?_cons_zero] at z0 y0 z1 y1 z2 y2 z3 y3 z4 y4 z5 y5 z6 y6
          go_wp2_with fail
          refine (veahead_any w4 x y e f HX.out HY.out HS.out HT.out).mono ?_
          rintro r w12 ⟨rfl, hc⟩
          clear z0 y0 z1 y1 z2 y2 z3 y3 z4 y4 z5 y5 z6 y6
          replace C := Lib.hid (C.out.trans hc)
          replace HX := Lib.hid (HX.out.chg hc)
          replace HY := Lib.hid (HY.out.chg hc)
          replace B0 := Lib.hid (hc.at_ B0.out (by simp))
          replace B1 := Lib.hid (hc.at_ B1.out (by simp))
          clear hc
          rcases ha1 : aheadP e f with _ | _
          · skip
            replace ha1 := Lib.hid ha1
            have z0 := cell_of B0.out 0
            have z1 := cell_of B0.out 1
            have z2 := cell_of B0.out 2
            have z3 := cell_of B0.out 3
            have z4 := cell_of B0.out 4
            have z5 := cell_of B0.out 5
            have z6 := cell_of B0.out 6
            have y0 := cell_of B1.out 0
            have y1 := cell_of B1.out 1
            have y2 := cell_of B1.out 2
            have y3 := cell_of B1.out 3
            have y4 := cell_of B1.out 4
            have y5 := cell_of B1.out 5
            have y6 := cell_of B1.out 6
            simp only [List.getElem?_toArray, List.getElem?_cons_succ, List.getElem?_cons_zero] at z0 y0 z1 y1 z2 y2 z3 y3 z4 y4 z5 y5 z6 y6
            go_wp2_with fail
            refine (veahead_any w12 y x f e HY.out HX.out HT.out HS.out).mono ?_
            rintro r w13 ⟨rfl, hc⟩
            clear z0 y0 z1 y1 z2 y2 z3 y3 z4 y4 z5 y5 z6 y6
            replace C := Lib.hid (C.out.trans hc)
            replace HX := Lib.hid (HX.out.chg hc)
            replace HY := Lib.hid (HY.out.chg hc)
            replace B0 := Lib.hid (hc.at_ B0.out (by simp))
            replace B1 := Lib.hid (hc.at_ B1.out (by simp))
            clear hc
            rcases ha2 : aheadP f e with _ | _
            · skip
              replace ha2 := Lib.hid ha2
              have XP : Hid (x.p = strOf e.p ∧ y.p = strOf f.p) := Lib.hid ⟨HX.out.p, HY.out.p⟩
              have KX : Hid (sameX x.k x.m e.b y.k y.m f.b = sameX e.k e.m e.b f.k f.m f.b) := Lib.hid (by rw [HX.out.k, HX.out.m, HY.out.k, HY.out.m])
              by_cases hp : e.p = f.p
              · skip
                have e1 : ((x.p == y.p) : Bool) = true := by rw [XP.out.1, XP.out.2, hp]; show ((f.p.toArray == f.p.toArray) : Bool) = true; simp
                have e3 : x.p.toList = y.p.toList := by rw [XP.out.1, XP.out.2, hp]
                replace hp := Lib.hid hp
                have z0 := cell_of B0.out 0
                have z1 := cell_of B0.out 1
                have z2 := cell_of B0.out 2
                have z3 := cell_of B0.out 3
                have z4 := cell_of B0.out 4
                have z5 := cell_of B0.out 5
                have z6 := cell_of B0.out 6
                have y0 := cell_of B1.out 0
                have y1 := cell_of B1.out 1
                have y2 := cell_of B1.out 2
                have y3 := cell_of B1.out 3
                have y4 := cell_of B1.out 4
                have y5 := cell_of B1.out 5
                have y6 := cell_of B1.out 6
                simp only [List.getElem?_toArray, List.getElem?_cons_succ, List.getElem?_cons_zero] at z0 y0 z1 y1 z2 y2 z3 y3 z4 y4 z5 y5 z6 y6
                go_wp2_with fail
                refine ((fsamex_any w13 x.k x.m y.k y.m x.A y.A x.l x.c y.l y.c e.b f.b HX.out.A HY.out.A).mono (fun r w' h => (show r = .returned (.bool (sameX e.k e.m e.b f.k f.m f.b)) ∧ Chg [] _ w' from ⟨by rw [h.1, KX.out], h.2⟩))).mono ?_
                rintro r w14 ⟨rfl, hc⟩
                clear z0 y0 z1 y1 z2 y2 z3 y3 z4 y4 z5 y5 z6 y6
                replace C := Lib.hid (C.out.trans hc)
                replace HX := Lib.hid (HX.out.chg hc)
                replace HY := Lib.hid (HY.out.chg hc)
                replace B0 := Lib.hid (hc.at_ B0.out (by simp))
                replace B1 := Lib.hid (hc.at_ B1.out (by simp))
                clear hc
                rcases hsame : sameX e.k e.m e.b f.k f.m f.b with _ | _
                · skip
                  replace hsame := Lib.hid hsame
                  obtain rfl : v = true := by rw [← HV.out, ← clash_doc]; simp [unlikeP, hk1.out, hk2.out, ha1.out, ha2.out, hd.out, hsame.out, hp.out]
                  have z0 := cell_of B0.out 0
                  have z1 := cell_of B0.out 1
                  have z2 := cell_of B0.out 2
                  have z3 := cell_of B0.out 3
                  have z4 := cell_of B0.out 4
                  have z5 := cell_of B0.out 5
                  have z6 := cell_of B0.out 6
                  have y0 := cell_of B1.out 0
                  have y1 := cell_of B1.out 1
                  have y2 := cell_of B1.out 2
                  have y3 := cell_of B1.out 3
                  have y4 := cell_of B1.out 4
                  have y5 := cell_of B1.out 5
                  have y6 := cell_of B1.out 6
                  simp only [List.getElem?_toArray, List.getElem?_cons_succ, List.getElem?_cons_zero] at z0 y0 z1 y1 z2 y2 z3 y3 z4 y4 z5 y5 z6 y6
                  go_wp2
                  go_ret
                  exact ⟨rfl, C.out⟩
                · skip
                  replace hsame := Lib.hid hsame
                  have z0 := cell_of B0.out 0
                  have z1 := cell_of B0.out 1
                  have z2 := cell_of B0.out 2
                  have z3 := cell_of B0.out 3
                  have z4 := cell_of B0.out 4
                  have z5 := cell_of B0.out 5
                  have z6 := cell_of B0.out 6
                  have y0 := cell_of B1.out 0
                  have y1 := cell_of B1.out 1
                  have y2 := cell_of B1.out 2
                  have y3 := cell_of B1.out 3
                  have y4 := cell_of B1.out 4
                  have y5 := cell_of B1.out 5
                  have y6 := cell_of B1.out 6
                  simp only [List.getElem?_toArray, List.getElem?_cons_succ, List.getElem?_cons_zero] at z0 y0 z1 y1 z2 y2 z3 y3 z4 y4 z5 y5 z6 y6
                  go_wp2_with fail
                  refine (klover_any w14 x y e f HX.out HY.out HS.out HT.out).mono ?_
                  rintro r w15 ⟨rfl, hc⟩
                  clear z0 y0 z1 y1 z2 y2 z3 y3 z4 y4 z5 y5 z6 y6
                  replace C := Lib.hid (C.out.trans hc)
                  replace HX := Lib.hid (HX.out.chg hc)
                  replace HY := Lib.hid (HY.out.chg hc)
                  replace B0 := Lib.hid (hc.at_ B0.out (by simp))
                  replace B1 := Lib.hid (hc.at_ B1.out (by simp))
                  clear hc
                  rcases hh1 : hidesP e f with _ | _
                  · skip
                    replace hh1 := Lib.hid hh1
                    have z0 := cell_of B0.out 0
                    have z1 := cell_of B0.out 1
                    have z2 := cell_of B0.out 2
                    have z3 := cell_of B0.out 3
                    have z4 := cell_of B0.out 4
                    have z5 := cell_of B0.out 5
                    have z6 := cell_of B0.out 6
                    have y0 := cell_of B1.out 0
                    have y1 := cell_of B1.out 1
                    have y2 := cell_of B1.out 2
                    have y3 := cell_of B1.out 3
                    have y4 := cell_of B1.out 4
                    have y5 := cell_of B1.out 5
                    have y6 := cell_of B1.out 6
                    simp only [List.getElem?_toArray, List.getElem?_cons_succ, List.getElem?_cons_zero] at z0 y0 z1 y1 z2 y2 z3 y3 z4 y4 z5 y5 z6 y6
                    go_wp2_with fail
                    refine (klover_any w15 y x f e HY.out HX.out HT.out HS.out).mono ?_
                    rintro r w16 ⟨rfl, hc⟩
                    clear z0 y0 z1 y1 z2 y2 z3 y3 z4 y4 z5 y5 z6 y6
                    replace C := Lib.hid (C.out.trans hc)
                    replace HX := Lib.hid (HX.out.chg hc)
                    replace HY := Lib.hid (HY.out.chg hc)
                    replace B0 := Lib.hid (hc.at_ B0.out (by simp))
                    replace B1 := Lib.hid (hc.at_ B1.out (by simp))
                    clear hc
                    rcases hh2 : hidesP f e with _ | _
                    · skip
                      replace hh2 := Lib.hid hh2
                      obtain rfl : v = false := by rw [← HV.out, ← clash_doc]; simp [unlikeP, hk1.out, hk2.out, ha1.out, ha2.out, hd.out, hsame.out, hh1.out, hh2.out, hp.out]
                      have z0 := cell_of B0.out 0
                      have z1 := cell_of B0.out 1
                      have z2 := cell_of B0.out 2
                      have z3 := cell_of B0.out 3
                      have z4 := cell_of B0.out 4
                      have z5 := cell_of B0.out 5
                      have z6 := cell_of B0.out 6
                      have y0 := cell_of B1.out 0
                      have y1 := cell_of B1.out 1
                      have y2 := cell_of B1.out 2
                      have y3 := cell_of B1.out 3
                      have y4 := cell_of B1.out 4
                      have y5 := cell_of B1.out 5
                      have y6 := cell_of B1.out 6
                      simp only [List.getElem?_toArray, List.getElem?_cons_succ, List.getElem?_cons_zero] at z0 y0 z1 y1 z2 y2 z3 y3 z4 y4 z5 y5 z6 y6
                      go_wp2
                      go_ret
                      exact ⟨rfl, C.out⟩
                    · skip
                      replace hh2 := Lib.hid hh2
                      obtain rfl : v = true := by rw [← HV.out, ← clash_doc]; simp [unlikeP, hk1.out, hk2.out, ha1.out, ha2.out, hd.out, hsame.out, hh1.out, hh2.out, hp.out]
                      have z0 := cell_of B0.out 0
                      have z1 := cell_of B0.out 1
                      have z2 := cell_of B0.out 2
                      have z3 := cell_of B0.out 3
                      have z4 := cell_of B0.out 4
                      have z5 := cell_of B0.out 5
                      have z6 := cell_of B0.out 6
                      have y0 := cell_of B1.out 0
                      have y1 := cell_of B1.out 1
                      have y2 := cell_of B1.out 2
                      have y3 := cell_of B1.out 3
                      have y4 := cell_of B1.out 4
                      have y5 := cell_of B1.out 5
                      have y6 := cell_of B1.out 6
                      simp only [List.getElem?_toArray, List.getElem?_cons_succ, List.getElem?_cons_zero] at z0 y0 z1 y1 z2 y2 z3 y3 z4 y4 z5 y5 z6 y6
                      go_wp2
                      go_ret
                      exact ⟨rfl, C.out⟩
                  · skip
                    replace hh1 := Lib.hid hh1
                    obtain rfl : v = true := by rw [← HV.out, ← clash_doc]; simp [unlikeP, hk1.out, hk2.out, ha1.out, ha2.out, hd.out, hsame.out, hh1.out, hp.out]
                    have z0 := cell_of B0.out 0
                    have z1 := cell_of B0.out 1
                    have z2 := cell_of B0.out 2
                    have z3 := cell_of B0.out 3
                    have z4 := cell_of B0.out 4
                    have z5 := cell_of B0.out 5
                    have z6 := cell_of B0.out 6
                    have y0 := cell_of B1.out 0
                    have y1 := cell_of B1.out 1
                    have y2 := cell_of B1.out 2
                    have y3 := cell_of B1.out 3
                    have y4 := cell_of B1.out 4
                    have y5 := cell_of B1.out 5
                    have y6 := cell_of B1.out 6
                    simp only [List.getElem?_toArray, List.getElem?_cons_succ, List.getElem?_cons_zero] at z0 y0 z1 y1 z2 y2 z3 y3 z4 y4 z5 y5 z6 y6
                    go_wp2
                    go_ret
                    exact ⟨rfl, C.out⟩
              · skip
                have e1 : ((x.p == y.p) : Bool) = false := by rw [XP.out.1, XP.out.2]; exact strOf_ne hp
                have e2 : ¬ x.p = y.p := by rw [XP.out.1, XP.out.2]; exact strOf_ne2 hp
                have e3 : ¬ x.p.toList = y.p.toList := by rw [XP.out.1, XP.out.2]; exact strOf_ne3 hp
                replace hp := Lib.hid hp
                have z0 := cell_of B0.out 0
                have z1 := cell_of B0.out 1
                have z2 := cell_of B0.out 2
                have z3 := cell_of B0.out 3
                have z4 := cell_of B0.out 4
                have z5 := cell_of B0.out 5
                have z6 := cell_of B0.out 6
                have y0 := cell_of B1.out 0
                have y1 := cell_of B1.out 1
                have y2 := cell_of B1.out 2
                have y3 := cell_of B1.out 3
                have y4 := cell_of B1.out 4
                have y5 := cell_of B1.out 5
                have y6 := cell_of B1.out 6
                simp only [List.getElem?_toArray, List.getElem?_cons_succ, List.getElem?_cons_zero] at z0 y0 z1 y1 z2 y2 z3 y3 z4 y4 z5 y5 z6 y6
                go_wp2_with fail
                refine (klover_any w13 x y e f HX.out HY.out HS.out HT.out).mono ?_
                rintro r w17 ⟨rfl, hc⟩
                clear z0 y0 z1 y1 z2 y2 z3 y3 z4 y4 z5 y5 z6 y6
                replace C := Lib.hid (C.out.trans hc)
                replace HX := Lib.hid (HX.out.chg hc)
                replace HY := Lib.hid (HY.out.chg hc)
                replace B0 := Lib.hid (hc.at_ B0.out (by simp))
                replace B1 := Lib.hid (hc.at_ B1.out (by simp))
                clear hc
                rcases hh1 : hidesP e f with _ | _
                · skip
                  replace hh1 := Lib.hid hh1
                  have z0 := cell_of B0.out 0
                  have z1 := cell_of B0.out 1
                  have z2 := cell_of B0.out 2
                  have z3 := cell_of B0.out 3
                  have z4 := cell_of B0.out 4
                  have z5 := cell_of B0.out 5
                  have z6 := cell_of B0.out 6
                  have y0 := cell_of B1.out 0
                  have y1 := cell_of B1.out 1
                  have y2 := cell_of B1.out 2
                  have y3 := cell_of B1.out 3
                  have y4 := cell_of B1.out 4
                  have y5 := cell_of B1.out 5
                  have y6 := cell_of B1.out 6
                  simp only [List.getElem?_toArray, List.getElem?_cons_succ, List.getElem?_cons_zero] at z0 y0 z1 y1 z2 y2 z3 y3 z4 y4 z5 y5 z6 y6
                  go_wp2_with fail
                  refine (klover_any w17 y x f e HY.out HX.out HT.out HS.out).mono ?_
                  rintro r w18 ⟨rfl, hc⟩
                  clear z0 y0 z1 y1 z2 y2 z3 y3 z4 y4 z5 y5 z6 y6
                  replace C := Lib.hid (C.out.trans hc)
                  replace HX := Lib.hid (HX.out.chg hc)
                  replace HY := Lib.hid (HY.out.chg hc)
                  replace B0 := Lib.hid (hc.at_ B0.out (by simp))
                  replace B1 := Lib.hid (hc.at_ B1.out (by simp))
                  clear hc
                  rcases hh2 : hidesP f e with _ | _
                  · skip
                    replace hh2 := Lib.hid hh2
                    obtain rfl : v = false := by rw [← HV.out, ← clash_doc]; simp [unlikeP, hk1.out, hk2.out, ha1.out, ha2.out, hd.out, hh1.out, hh2.out, hp.out]
                    have z0 := cell_of B0.out 0
                    have z1 := cell_of B0.out 1
                    have z2 := cell_of B0.out 2
                    have z3 := cell_of B0.out 3
                    have z4 := cell_of B0.out 4
                    have z5 := cell_of B0.out 5
                    have z6 := cell_of B0.out 6
                    have y0 := cell_of B1.out 0
                    have y1 := cell_of B1.out 1
                    have y2 := cell_of B1.out 2
                    have y3 := cell_of B1.out 3
                    have y4 := cell_of B1.out 4
                    have y5 := cell_of B1.out 5
                    have y6 := cell_of B1.out 6
                    simp only [List.getElem?_toArray, List.getElem?_cons_succ, List.getElem?_cons_zero] at z0 y0 z1 y1 z2 y2 z3 y3 z4 y4 z5 y5 z6 y6
                    go_wp2
                    go_ret
                    exact ⟨rfl, C.out⟩
                  · skip
                    replace hh2 := Lib.hid hh2
                    obtain rfl : v = true := by rw [← HV.out, ← clash_doc]; simp [unlikeP, hk1.out, hk2.out, ha1.out, ha2.out, hd.out, hh1.out, hh2.out, hp.out]
                    have z0 := cell_of B0.out 0
                    have z1 := cell_of B0.out 1
                    have z2 := cell_of B0.out 2
                    have z3 := cell_of B0.out 3
                    have z4 := cell_of B0.out 4
                    have z5 := cell_of B0.out 5
                    have z6 := cell_of B0.out 6
                    have y0 := cell_of B1.out 0
                    have y1 := cell_of B1.out 1
                    have y2 := cell_of B1.out 2
                    have y3 := cell_of B1.out 3
                    have y4 := cell_of B1.out 4
                    have y5 := cell_of B1.out 5
                    have y6 := cell_of B1.out 6
                    simp only [List.getElem?_toArray, List.getElem?_cons_succ, List.getElem?_cons_zero] at z0 y0 z1 y1 z2 y2 z3 y3 z4 y4 z5 y5 z6 y6
                    go_wp2
                    go_ret
                    exact ⟨rfl, C.out⟩
                · skip
                  replace hh1 := Lib.hid hh1
                  obtain rfl : v = true := by rw [← HV.out, ← clash_doc]; simp [unlikeP, hk1.out, hk2.out, ha1.out, ha2.out, hd.out, hh1.out, hp.out]
                  have z0 := cell_of B0.out 0
                  have z1 := cell_of B0.out 1
                  have z2 := cell_of B0.out 2
                  have z3 := cell_of B0.out 3
                  have z4 := cell_of B0.out 4
                  have z5 := cell_of B0.out 5
                  have z6 := cell_of B0.out 6
                  have y0 := cell_of B1.out 0
                  have y1 := cell_of B1.out 1
                  have y2 := cell_of B1.out 2
                  have y3 := cell_of B1.out 3
                  have y4 := cell_of B1.out 4
                  have y5 := cell_of B1.out 5
                  have y6 := cell_of B1.out 6
                  simp only [List.getElem?_toArray, List.getElem?_cons_succ, List.getElem?_cons_zero] at z0 y0 z1 y1 z2 y2 z3 y3 z4 y4 z5 y5 z6 y6
                  go_wp2
                  go_ret
                  exact ⟨rfl, C.out⟩
            · skip
              replace ha2 := Lib.hid ha2
              obtain rfl : v = false := by rw [← HV.out, ← clash_doc]; simp [unlikeP, hk1.out, hk2.out, ha1.out, ha2.out, hd.out]
              have z0 := cell_of B0.out 0
              have z1 := cell_of B0.out 1
              have z2 := cell_of B0.out 2
              have z3 := cell_of B0.out 3
              have z4 := cell_of B0.out 4
              have z5 := cell_of B0.out 5
              have z6 := cell_of B0.out 6
              have y0 := cell_of B1.out 0
              have y1 := cell_of B1.out 1
              have y2 := cell_of B1.out 2
              have y3 := cell_of B1.out 3
              have y4 := cell_of B1.out 4
              have y5 := cell_of B1.out 5
              have y6 := cell_of B1.out 6
              simp only [List.getElem?_toArray, List.getElem?_cons_succ, List.getElem?_cons_zero] at z0 y0 z1 y1 z2 y2 z3 y3 z4 y4 z5 y5 z6 y6
              go_wp2
              go_ret
              exact ⟨rfl, C.out⟩
          · skip
            replace ha1 := Lib.hid ha1
            obtain rfl : v = false := by rw [← HV.out, ← clash_doc]; simp [unlikeP, hk1.out, hk2.out, ha1.out, hd.out]
            have z0 := cell_of B0.out 0
            have z1 := cell_of B0.out 1
            have z2 := cell_of B0.out 2
            have z3 := cell_of B0.out 3
            have z4 := cell_of B0.out 4
            have z5 := cell_of B0.out 5
            have z6 := cell_of B0.out 6
            have y0 := cell_of B1.out 0
            have y1 := cell_of B1.out 1
            have y2 := cell_of B1.out 2
            have y3 := cell_of B1.out 3
            have y4 := cell_of B1.out 4
            have y5 := cell_of B1.out 5
            have y6 := cell_of B1.out 6
            simp only [List.getElem?_toArray, List.getElem?_cons_succ, List.getElem?_cons_zero] at z0 y0 z1 y1 z2 y2 z3 y3 z4 y4 z5 y5 z6 y6
            go_wp2
            go_ret
            exact ⟨rfl, C.out⟩
      · skip
        have q : e.n = f.n ∧ e.s = f.s := of_decide_eq_true hd
        have d1 : ((x.n == y.n) : Bool) = true := by rw [HX.out.n, HY.out.n, q.1]; exact beq_self_eq_true _
        have d2 : ((x.s == y.s) : Bool) = true := by rw [HX.out.s, HY.out.s, q.2]; exact beq_self_eq_true _
        replace hd := Lib.hid hd
        clear q
        obtain rfl : v = false := by rw [← HV.out, ← clash_doc]; simp [unlikeP, hk1.out, hk2.out, hd.out]
        have z0 := cell_of B0.out 0
        have z1 := cell_of B0.out 1
        have z2 := cell_of B0.out 2
        have z3 := cell_of B0.out 3
        have z4 := cell_of B0.out 4
        have z5 := cell_of B0.out 5
        have z6 := cell_of B0.out 6
        have y0 := cell_of B1.out 0
        have y1 := cell_of B1.out 1
        have y2 := cell_of B1.out 2
        have y3 := cell_of B1.out 3
        have y4 := cell_of B1.out 4
        have y5 := cell_of B1.out 5
        have y6 := cell_of B1.out 6
        simp only [List.getElem?_toArray, List.getElem?_cons_succ, List.getElem?_cons_zero] at z0 y0 z1 y1 z2 y2 z3 y3 z4 y4 z5 y5 z6 y6
        go_wp2
        go_ret
        exact ⟨rfl, C.out⟩
    · skip
      rw [hk2]
      replace hk2 := Lib.hid hk2
      obtain rfl : v = false := by rw [← HV.out, ← clash_doc]; simp [unlikeP, hk1.out, hk2.out]
      have z0 := cell_of B0.out 0
      have z1 := cell_of B0.out 1
      have z2 := cell_of B0.out 2
      have z3 := cell_of B0.out 3
      have z4 := cell_of B0.out 4
      have z5 := cell_of B0.out 5
      have z6 := cell_of B0.out 6
      have y0 := cell_of B1.out 0
      have y1 := cell_of B1.out 1
      have y2 := cell_of B1.out 2
      have y3 := cell_of B1.out 3
      have y4 := cell_of B1.out 4
      have y5 := cell_of B1.out 5
      have y6 := cell_of B1.out 6
      simp only [List.getElem?_toArray, List.getElem?_cons_succ, List.getElem?_cons_zero] at z0 y0 z1 y1 z2 y2 z3 y3 z4 y4 z5 y5 z6 y6
      go_wp2
      go_ret
      exact ⟨rfl, C.out⟩
  · skip
    rw [hk1]
    replace hk1 := Lib.hid hk1
    obtain rfl : v = false := by rw [← HV.out, ← clash_doc]; simp [unlikeP, hk1.out]
    have z0 := cell_of B0.out 0
    have z1 := cell_of B0.out 1
    have z2 := cell_of B0.out 2
    have z3 := cell_of B0.out 3
    have z4 := cell_of B0.out 4
    have z5 := cell_of B0.out 5
    have z6 := cell_of B0.out 6
    have y0 := cell_of B1.out 0
    have y1 := cell_of B1.out 1
    have y2 := cell_of B1.out 2
    have y3 := cell_of B1.out 3
    have y4 := cell_of B1.out 4
    have y5 := cell_of B1.out 5
    have y6 := cell_of B1.out 6
    simp only [List.getElem?_toArray, List.getElem?_cons_succ, List.getElem?_cons_zero] at z0 y0 z1 y1 z2 y2 z3 y3 z4 y4 z5 y5 z6 y6
    go_wp2
    go_ret
    exact ⟨rfl, C.out⟩
end
section
open Go.RowKit Go.Lib
set_option linter.unusedSimpArgs false
set_option linter.unusedVariables false


/-- The pair of two that clash: the lesser dot first. -/
def pairP (a b : EvP) : Int × Int × Int × Int := if clashP a b = true then (if LtD b.n b.s a.n a.s then (b.n, b.s, a.n, a.s) else (a.n, a.s, b.n, b.s)) else (0, 0, 0, 0)
def pairX (a b : EvP) : Int := if clashP a b = true then 0 else 2
theorem clash_dots {a b : EvP} (h : clashP a b = true) : ¬ (a.n = b.n ∧ a.s = b.s) := by
  intro q
  have : dotP a b = true := decide_eq_true q
  unfold clashP clash0 at h
  rw [this] at h
  simp at h
theorem pair_no {a b : EvP} (h : clashP a b = false) : pairP a b = (0, 0, 0, 0) ∧ pairX a b = 2 := by unfold pairP pairX; rw [h]; exact ⟨rfl, rfl⟩
theorem pair_up {a b : EvP} (h : clashP a b = true) (k : LtD a.n a.s b.n b.s) : pairP a b = (a.n, a.s, b.n, b.s) := by
  unfold pairP
  rw [h, if_pos rfl, if_neg]
  unfold LtD at *
  omega
theorem pair_down {a b : EvP} (h : clashP a b = true) (k : ¬ LtD a.n a.s b.n b.s) : pairP a b = (b.n, b.s, a.n, a.s) := by
  unfold pairP
  rw [h, if_pos rfl, if_pos]
  have := clash_dots h
  unfold LtD at *
  omega
theorem pair_ok {a b : EvP} (h : clashP a b = true) : pairX a b = 0 := by unfold pairX; rw [h]; rfl
end
section
open Go.RowKit Go.Lib
set_option linter.unusedSimpArgs false
set_option linter.unusedVariables false


theorem Chg.trans_ {a b : Nat} {w w1 w2 : World} (h : Chg [a] w w1) (k : Chg [b] w1 w2) : Chg [a, b] w w2 := (h.mono (fun i hi => .inl (by simp at hi; simp [hi]))).trans (k.mono (fun i hi => .inl (by simp at hi; simp [hi])))
theorem Chg.more_ {a b c : Nat} {w w1 w2 : World} (h : Chg [a, b] w w1) (k : Chg [c] w1 w2) : Chg [a, b, c] w w2 := (h.mono (fun i hi => .inl (by simp at hi; rcases hi with rfl | rfl <;> simp))).trans (k.mono (fun i hi => .inl (by simp at hi; simp [hi])))

set_option maxHeartbeats 4000000 in
theorem setC7 {w : World} {s0 : Nat} {a0 a1 a2 a3 a4 a5 a6 : Value} {T : TypeId} (v0 v1 v2 v3 v4 v5 v6 : Value) (q0 : w.heap[s0]? = some (.cells #[a0, a1, a2, a3, a4, a5, a6] T (0, 0))) :
    (((((((w.setCell ⟨s0, 0, none⟩ v0).setCell ⟨s0, 1, none⟩ v1).setCell ⟨s0, 2, none⟩ v2).setCell ⟨s0, 3, none⟩ v3).setCell ⟨s0, 4, none⟩ v4).setCell ⟨s0, 5, none⟩ v5).setCell ⟨s0, 6, none⟩ v6).heap[s0]? = some (.cells #[v0, v1, v2, v3, v4, v5, v6] T (0, 0)) ∧ (∀ (s1 : Nat) (o : Obj), s0 ≠ s1 → w.heap[s1]? = some o → (((((((w.setCell ⟨s0, 0, none⟩ v0).setCell ⟨s0, 1, none⟩ v1).setCell ⟨s0, 2, none⟩ v2).setCell ⟨s0, 3, none⟩ v3).setCell ⟨s0, 4, none⟩ v4).setCell ⟨s0, 5, none⟩ v5).setCell ⟨s0, 6, none⟩ v6).heap[s1]? = some o) ∧ Chg [s0] w (((((((w.setCell ⟨s0, 0, none⟩ v0).setCell ⟨s0, 1, none⟩ v1).setCell ⟨s0, 2, none⟩ v2).setCell ⟨s0, 3, none⟩ v3).setCell ⟨s0, 4, none⟩ v4).setCell ⟨s0, 5, none⟩ v5).setCell ⟨s0, 6, none⟩ v6) := by
  have p0 := heap_setCell_same _ s0 0 _ _ v0 q0
  have p1 := heap_setCell_same _ s0 1 _ _ v1 p0
  have p2 := heap_setCell_same _ s0 2 _ _ v2 p1
  have p3 := heap_setCell_same _ s0 3 _ _ v3 p2
  have p4 := heap_setCell_same _ s0 4 _ _ v4 p3
  have p5 := heap_setCell_same _ s0 5 _ _ v5 p4
  have p6 := heap_setCell_same _ s0 6 _ _ v6 p5
  refine ⟨p6, fun s1 o h q1 => ?_, ?_⟩
  · rw [Below.heap_setCell _ _ _ _ (by simp; exact fun e => h e.symm), Below.heap_setCell _ _ _ _ (by simp; exact fun e => h e.symm), Below.heap_setCell _ _ _ _ (by simp; exact fun e => h e.symm), Below.heap_setCell _ _ _ _ (by simp; exact fun e => h e.symm), Below.heap_setCell _ _ _ _ (by simp; exact fun e => h e.symm), Below.heap_setCell _ _ _ _ (by simp; exact fun e => h e.symm), Below.heap_setCell _ _ _ _ (by simp; exact fun e => h e.symm)]
    exact q1
  · exact ((((((((Chg.refl [s0] w).put' 0 v0).put' 1 v1).put' 2 v2).put' 3 v3).put' 4 v4).put' 5 v5).put' 6 v6)

set_option maxRecDepth 100000 in
set_option maxHeartbeats 16000000 in
theorem clpairof_any (w : World) (x y : EvT) (e f : EvP) (hx : EvR w x e) (hy : EvR w y f) (hs : EvSm e) (ht : EvSm f) :
    Calls Tryz.prog 45 #[.agg #[.int .i64 x.n, .int .i64 x.s, .string x.p, .int .i64 x.k, .int .i64 x.m, .slice x.A x.l x.c, .slice x.B x.bl x.bc], .agg #[.int .i64 y.n, .int .i64 y.s, .string y.p, .int .i64 y.k, .int .i64 y.m, .slice y.A y.l y.c, .slice y.B y.bl y.bc]] w fun r w' => r = .returned (.agg #[.int .i64 (if LtD f.n f.s e.n e.s then (f.n, f.s, e.n, e.s) else (e.n, e.s, f.n, f.s)).1, .int .i64 (if LtD f.n f.s e.n e.s then (f.n, f.s, e.n, e.s) else (e.n, e.s, f.n, f.s)).2.1, .int .i64 (if LtD f.n f.s e.n e.s then (f.n, f.s, e.n, e.s) else (e.n, e.s, f.n, f.s)).2.2.1, .int .i64 (if LtD f.n f.s e.n e.s then (f.n, f.s, e.n, e.s) else (e.n, e.s, f.n, f.s)).2.2.2]) ∧ Chg [] w w' := by
  obtain ⟨w2, hw, hc, b0, b1, b2⟩ := news3 w (.cells #[.int .i64 x.n, .int .i64 x.s, .string x.p, .int .i64 x.k, .int .i64 x.m, .slice x.A x.l x.c, .slice x.B x.bl x.bc] 29) (.cells #[.int .i64 y.n, .int .i64 y.s, .string y.p, .int .i64 y.k, .int .i64 y.m, .slice y.A y.l y.c, .slice y.B y.bl y.bc] 29) (.cells #[.int .i64 0, .int .i64 0, .int .i64 0, .int .i64 0] 35)
  have W2 := Lib.hid hw
  have C := Lib.hid hc
  have HX := Lib.hid (hx.chg hc)
  have HY := Lib.hid (hy.chg hc)
  have HS := Lib.hid hs
  have HT := Lib.hid ht
  have B0 := Lib.hid b0
  have B1 := Lib.hid b1
  have B2 := Lib.hid b2
  clear hw hc hx hy hs ht b0 b1 b2
  generalize hP : (if LtD f.n f.s e.n e.s then (f.n, f.s, e.n, e.s) else (e.n, e.s, f.n, f.s)) = P
  have HP_ := Lib.hid hP
  clear hP
  go_enter Tryz.func45, Tryz.ntmps45
  go_upto_region 1 with fail
  rw [← W2.out]
  generalize hz2 : w.heap.size + 2 = g2 at *
  generalize hz1 : w.heap.size + 1 = g1 at *
  generalize hz0 : w.heap.size = g0 at *
  have Z := Lib.hid (And.intro hz0 (And.intro hz1 hz2))
  have n01 : ¬ g0 = g1 := by omega
  have n10 : ¬ g1 = g0 := by omega
  have n02 : ¬ g0 = g2 := by omega
  have n20 : ¬ g2 = g0 := by omega
  have n12 : ¬ g1 = g2 := by omega
  have n21 : ¬ g2 = g1 := by omega
  clear W2 hz0 hz1 hz2
  have ND : Hid (x.n = e.n ∧ x.s = e.s ∧ y.n = f.n ∧ y.s = f.s) := Lib.hid ⟨HX.out.n, HX.out.s, HY.out.n, HY.out.s⟩
  have z0 := cell_of B0.out 0
  have z1 := cell_of B0.out 1
  have z2 := cell_of B0.out 2
  have z3 := cell_of B0.out 3
  have z4 := cell_of B0.out 4
  have z5 := cell_of B0.out 5
  have z6 := cell_of B0.out 6
  have y0 := cell_of B1.out 0
  have y1 := cell_of B1.out 1
  have y2 := cell_of B1.out 2
  have y3 := cell_of B1.out 3
  have y4 := cell_of B1.out 4
  have y5 := cell_of B1.out 5
  have y6 := cell_of B1.out 6
  simp only [List.getElem?_toArray, List.getElem?_cons_succ, List.getElem?_cons_zero] at z0 y0 z1 y1 z2 y2 z3 y3 z4 y4 z5 y5 z6 y6
  go_wp2_with fail
  refine ((dless_any w2 y.n y.s x.n x.s).mono (fun r w' h => (show r = .returned (.bool (decide (LtD f.n f.s e.n e.s))) ∧ Chg [] w2 w' from ⟨by rw [h.1, ND.out.1, ND.out.2.1, ND.out.2.2.1, ND.out.2.2.2], h.2⟩))).mono ?_
  rintro r w3 ⟨rfl, hc⟩
  clear z0 y0 z1 y1 z2 y2 z3 y3 z4 y4 z5 y5 z6 y6
  replace C := Lib.hid (C.out.trans hc)
  replace HX := Lib.hid (HX.out.chg hc)
  replace HY := Lib.hid (HY.out.chg hc)
  replace B0 := Lib.hid (hc.at_ B0.out (by simp))
  replace B1 := Lib.hid (hc.at_ B1.out (by simp))
  replace B2 := Lib.hid (hc.at_ B2.out (by simp))
  clear hc
  by_cases hl : LtD f.n f.s e.n e.s
  · skip
    rw [decide_eq_true hl]
    replace hl := Lib.hid hl
    have z0 := cell_of B0.out 0
    have z1 := cell_of B0.out 1
    have z2 := cell_of B0.out 2
    have z3 := cell_of B0.out 3
    have z4 := cell_of B0.out 4
    have z5 := cell_of B0.out 5
    have z6 := cell_of B0.out 6
    have y0 := cell_of B1.out 0
    have y1 := cell_of B1.out 1
    have y2 := cell_of B1.out 2
    have y3 := cell_of B1.out 3
    have y4 := cell_of B1.out 4
    have y5 := cell_of B1.out 5
    have y6 := cell_of B1.out 6
    simp only [List.getElem?_toArray, List.getElem?_cons_succ, List.getElem?_cons_zero] at z0 y0 z1 y1 z2 y2 z3 y3 z4 y4 z5 y5 z6 y6
    have fz0 := free_of B0.out 0
    have fz1 := free_of B0.out 1
    have fz2 := free_of B0.out 2
    have fz3 := free_of B0.out 3
    have fz4 := free_of B0.out 4
    have fz5 := free_of B0.out 5
    have fz6 := free_of B0.out 6
    have fy0 := free_of B1.out 0
    have fy1 := free_of B1.out 1
    have fy2 := free_of B1.out 2
    have fy3 := free_of B1.out 3
    have fy4 := free_of B1.out 4
    have fy5 := free_of B1.out 5
    have fy6 := free_of B1.out 6
    go_upto_region 3 with fail
    clear z0 y0 z1 y1 z2 y2 z3 y3 z4 y4 z5 y5 z6 y6
    clear fz0 fz1 fz2 fz3 fz4 fz5 fz6 fy0 fy1 fy2 fy3 fy4 fy5 fy6
    obtain ⟨p0, o0, k0⟩ := setC7 (.int .i64 y.n) (.int .i64 y.s) (.string y.p) (.int .i64 y.k) (.int .i64 y.m) (.slice y.A y.l y.c) (.slice y.B y.bl y.bc) B0.out
    have p1 := o0 g1 _ n01 B1.out
    have p2 := o0 g2 _ n02 B2.out
    obtain ⟨q1, o1, k1⟩ := setC7 (.int .i64 x.n) (.int .i64 x.s) (.string x.p) (.int .i64 x.k) (.int .i64 x.m) (.slice x.A x.l x.c) (.slice x.B x.bl x.bc) p1
    have q0 := o1 g0 _ n10 p0
    have q2 := o1 g2 _ n12 p2
    have k2 : Chg [g0, g1] w3 ((((((((((((((w3.setCell ⟨g0, 0, none⟩ (.int .i64 y.n)).setCell ⟨g0, 1, none⟩ (.int .i64 y.s)).setCell ⟨g0, 2, none⟩ (.string y.p)).setCell ⟨g0, 3, none⟩ (.int .i64 y.k)).setCell ⟨g0, 4, none⟩ (.int .i64 y.m)).setCell ⟨g0, 5, none⟩ (.slice y.A y.l y.c)).setCell ⟨g0, 6, none⟩ (.slice y.B y.bl y.bc)).setCell ⟨g1, 0, none⟩ (.int .i64 x.n)).setCell ⟨g1, 1, none⟩ (.int .i64 x.s)).setCell ⟨g1, 2, none⟩ (.string x.p)).setCell ⟨g1, 3, none⟩ (.int .i64 x.k)).setCell ⟨g1, 4, none⟩ (.int .i64 x.m)).setCell ⟨g1, 5, none⟩ (.slice x.A x.l x.c)).setCell ⟨g1, 6, none⟩ (.slice x.B x.bl x.bc)) := Chg.trans_ k0 k1
    generalize ((((((((((((((w3.setCell ⟨g0, 0, none⟩ (.int .i64 y.n)).setCell ⟨g0, 1, none⟩ (.int .i64 y.s)).setCell ⟨g0, 2, none⟩ (.string y.p)).setCell ⟨g0, 3, none⟩ (.int .i64 y.k)).setCell ⟨g0, 4, none⟩ (.int .i64 y.m)).setCell ⟨g0, 5, none⟩ (.slice y.A y.l y.c)).setCell ⟨g0, 6, none⟩ (.slice y.B y.bl y.bc)).setCell ⟨g1, 0, none⟩ (.int .i64 x.n)).setCell ⟨g1, 1, none⟩ (.int .i64 x.s)).setCell ⟨g1, 2, none⟩ (.string x.p)).setCell ⟨g1, 3, none⟩ (.int .i64 x.k)).setCell ⟨g1, 4, none⟩ (.int .i64 x.m)).setCell ⟨g1, 5, none⟩ (.slice x.A x.l x.c)).setCell ⟨g1, 6, none⟩ (.slice x.B x.bl x.bc)) = w4 at *
    have B0 := Lib.hid q0
    have B1 := Lib.hid q1
    have B2 := Lib.hid q2
    have K2 := Lib.hid k2
    clear p0 o0 k0 p1 p2 q1 o1 k1 q0 q2 k2
    have z0 := cell_of B0.out 0
    have z1 := cell_of B0.out 1
    have z2 := cell_of B0.out 2
    have z3 := cell_of B0.out 3
    have z4 := cell_of B0.out 4
    have z5 := cell_of B0.out 5
    have z6 := cell_of B0.out 6
    have y0 := cell_of B1.out 0
    have y1 := cell_of B1.out 1
    have y2 := cell_of B1.out 2
    have y3 := cell_of B1.out 3
    have y4 := cell_of B1.out 4
    have y5 := cell_of B1.out 5
    have y6 := cell_of B1.out 6
    simp only [List.getElem?_toArray, List.getElem?_cons_succ, List.getElem?_cons_zero] at z0 y0 z1 y1 z2 y2 z3 y3 z4 y4 z5 y5 z6 y6
    have ft0 := free_of B2.out 0
    have ft1 := free_of B2.out 1
    have ft2 := free_of B2.out 2
    have ft3 := free_of B2.out 3
    have t0 := cell_of B2.out 0
    have t1 := cell_of B2.out 1
    have t2 := cell_of B2.out 2
    have t3 := cell_of B2.out 3
    simp only [List.getElem?_toArray, List.getElem?_cons_succ, List.getElem?_cons_zero] at t0 t1 t2 t3
    go_wp2
    refine bodyPost_ret (v := .agg #[.int .i64 y.n, .int .i64 y.s, .int .i64 x.n, .int .i64 x.s]) (by simp [results, Tryz.results45, go_sem, n01, n10, n02, n20, n12, n21, t0, t1, t2, t3]) rfl ?_
    obtain rfl : P = (f.n, f.s, e.n, e.s) := by rw [← HP_.out, if_pos hl.out]
    exact ⟨by simp [ND.out.1, ND.out.2.1, ND.out.2.2.1, ND.out.2.2.2], C.out.trans' ((K2.out.more_ (((((Chg.refl [g2] w4).put' 0 _).put' 1 _).put' 2 _).put' 3 _))) (fun i hi => .inr (by have := Z.out; simp at hi; omega))⟩
  · skip
    rw [decide_eq_false hl]
    replace hl := Lib.hid hl
    have z0 := cell_of B0.out 0
    have z1 := cell_of B0.out 1
    have z2 := cell_of B0.out 2
    have z3 := cell_of B0.out 3
    have z4 := cell_of B0.out 4
    have z5 := cell_of B0.out 5
    have z6 := cell_of B0.out 6
    have y0 := cell_of B1.out 0
    have y1 := cell_of B1.out 1
    have y2 := cell_of B1.out 2
    have y3 := cell_of B1.out 3
    have y4 := cell_of B1.out 4
    have y5 := cell_of B1.out 5
    have y6 := cell_of B1.out 6
    simp only [List.getElem?_toArray, List.getElem?_cons_succ, List.getElem?_cons_zero] at z0 y0 z1 y1 z2 y2 z3 y3 z4 y4 z5 y5 z6 y6
    have ft0 := free_of B2.out 0
    have ft1 := free_of B2.out 1
    have ft2 := free_of B2.out 2
    have ft3 := free_of B2.out 3
    have t0 := cell_of B2.out 0
    have t1 := cell_of B2.out 1
    have t2 := cell_of B2.out 2
    have t3 := cell_of B2.out 3
    simp only [List.getElem?_toArray, List.getElem?_cons_succ, List.getElem?_cons_zero] at t0 t1 t2 t3
    go_wp2
    refine bodyPost_ret (v := .agg #[.int .i64 x.n, .int .i64 x.s, .int .i64 y.n, .int .i64 y.s]) (by simp [results, Tryz.results45, go_sem, n01, n10, n02, n20, n12, n21, t0, t1, t2, t3]) rfl ?_
    obtain rfl : P = (e.n, e.s, f.n, f.s) := by rw [← HP_.out, if_neg hl.out]
    exact ⟨by simp [ND.out.1, ND.out.2.1, ND.out.2.2.1, ND.out.2.2.2], C.out.trans' ((((((Chg.refl [g2] w3).put' 0 _).put' 1 _).put' 2 _).put' 3 _)) (fun i hi => .inr (by have := Z.out; simp at hi; omega))⟩

set_option maxRecDepth 100000 in
set_option maxHeartbeats 16000000 in
theorem clPairOf_any (w : World) (x y : EvT) (e f : EvP) (hx : EvR w x e) (hy : EvR w y f) (hs : EvSm e) (ht : EvSm f) :
    Calls Tryz.prog 10 #[.agg #[.int .i64 x.n, .int .i64 x.s, .string x.p, .int .i64 x.k, .int .i64 x.m, .slice x.A x.l x.c, .slice x.B x.bl x.bc], .agg #[.int .i64 y.n, .int .i64 y.s, .string y.p, .int .i64 y.k, .int .i64 y.m, .slice y.A y.l y.c, .slice y.B y.bl y.bc]] w fun r w' => r = .returned (.tuple #[.agg #[.int .i64 (pairP e f).1, .int .i64 (pairP e f).2.1, .int .i64 (pairP e f).2.2.1, .int .i64 (pairP e f).2.2.2], .int .i64 (pairX e f)]) ∧ Chg [] w w' := by
  obtain ⟨w2, hw, hc, b0, b1, b2⟩ := news3 w (.cells #[.int .i64 x.n, .int .i64 x.s, .string x.p, .int .i64 x.k, .int .i64 x.m, .slice x.A x.l x.c, .slice x.B x.bl x.bc] 29) (.cells #[.int .i64 y.n, .int .i64 y.s, .string y.p, .int .i64 y.k, .int .i64 y.m, .slice y.A y.l y.c, .slice y.B y.bl y.bc] 29) (.cells #[.int .i64 0, .int .i64 0, .int .i64 0, .int .i64 0] 35)
  have W2 := Lib.hid hw
  have C := Lib.hid hc
  have HX := Lib.hid (hx.chg hc)
  have HY := Lib.hid (hy.chg hc)
  have HS := Lib.hid hs
  have HT := Lib.hid ht
  have B0 := Lib.hid b0
  have B1 := Lib.hid b1
  have B2 := Lib.hid b2
  clear hw hc hx hy hs ht b0 b1 b2
  generalize hP : pairP e f = P
  have HP_ := Lib.hid hP
  clear hP
  generalize hX : pairX e f = X
  have HX_ := Lib.hid hX
  clear hX
  go_enter Tryz.func10, Tryz.ntmps10
  go_upto_region 1 with fail
  rw [← W2.out]
  generalize hz2 : w.heap.size + 2 = g2 at *
  generalize hz1 : w.heap.size + 1 = g1 at *
  generalize hz0 : w.heap.size = g0 at *
  have Z := Lib.hid (And.intro hz0 (And.intro hz1 hz2))
  have n01 : ¬ g0 = g1 := by omega
  have n10 : ¬ g1 = g0 := by omega
  have n02 : ¬ g0 = g2 := by omega
  have n20 : ¬ g2 = g0 := by omega
  have n12 : ¬ g1 = g2 := by omega
  have n21 : ¬ g2 = g1 := by omega
  clear W2 hz0 hz1 hz2
  have z0 := cell_of B0.out 0
  have z1 := cell_of B0.out 1
  have z2 := cell_of B0.out 2
  have z3 := cell_of B0.out 3
  have z4 := cell_of B0.out 4
  have z5 := cell_of B0.out 5
  have z6 := cell_of B0.out 6
  have y0 := cell_of B1.out 0
  have y1 := cell_of B1.out 1
  have y2 := cell_of B1.out 2
  have y3 := cell_of B1.out 3
  have y4 := cell_of B1.out 4
  have y5 := cell_of B1.out 5
  have y6 := cell_of B1.out 6
  simp only [List.getElem?_toArray, List.getElem?_cons_succ, List.getElem?_cons_zero] at z0 y0 z1 y1 z2 y2 z3 y3 z4 y4 z5 y5 z6 y6
  go_wp2_with fail
  refine (clClash_any w2 x y e f HX.out HY.out HS.out HT.out).mono ?_
  rintro r w3 ⟨rfl, hc⟩
  clear z0 y0 z1 y1 z2 y2 z3 y3 z4 y4 z5 y5 z6 y6
  replace C := Lib.hid (C.out.trans hc)
  replace HX := Lib.hid (HX.out.chg hc)
  replace HY := Lib.hid (HY.out.chg hc)
  replace B0 := Lib.hid (hc.at_ B0.out (by simp))
  replace B1 := Lib.hid (hc.at_ B1.out (by simp))
  replace B2 := Lib.hid (hc.at_ B2.out (by simp))
  clear hc
  rcases hk : clashP e f with _ | _
  · skip
    obtain rfl : P = (0, 0, 0, 0) := by rw [← HP_.out]; exact (pair_no hk).1
    obtain rfl : X = 2 := by rw [← HX_.out]; exact (pair_no hk).2
    replace hk := Lib.hid hk
    have z0 := cell_of B0.out 0
    have z1 := cell_of B0.out 1
    have z2 := cell_of B0.out 2
    have z3 := cell_of B0.out 3
    have z4 := cell_of B0.out 4
    have z5 := cell_of B0.out 5
    have z6 := cell_of B0.out 6
    have y0 := cell_of B1.out 0
    have y1 := cell_of B1.out 1
    have y2 := cell_of B1.out 2
    have y3 := cell_of B1.out 3
    have y4 := cell_of B1.out 4
    have y5 := cell_of B1.out 5
    have y6 := cell_of B1.out 6
    simp only [List.getElem?_toArray, List.getElem?_cons_succ, List.getElem?_cons_zero] at z0 y0 z1 y1 z2 y2 z3 y3 z4 y4 z5 y5 z6 y6
    have ft0 := free_of B2.out 0
    have ft1 := free_of B2.out 1
    have ft2 := free_of B2.out 2
    have ft3 := free_of B2.out 3
    have t0 := cell_of B2.out 0
    have t1 := cell_of B2.out 1
    have t2 := cell_of B2.out 2
    have t3 := cell_of B2.out 3
    simp only [List.getElem?_toArray, List.getElem?_cons_succ, List.getElem?_cons_zero] at t0 t1 t2 t3
    go_wp2
    refine bodyPost_ret (v := .tuple #[.agg #[.int .i64 0, .int .i64 0, .int .i64 0, .int .i64 0], .int .i64 2]) (by simp [results, Tryz.results10, go_sem, n01, n10, n02, n20, n12, n21, t0, t1, t2, t3]) rfl ?_
    exact ⟨rfl, C.out.trans' ((((((Chg.refl [g2] w3).put' 0 _).put' 1 _).put' 2 _).put' 3 _)) (fun i hi => .inr (by have := Z.out; simp at hi; omega))⟩
  · skip
    obtain rfl : X = 0 := by rw [← HX_.out]; exact pair_ok hk
    have PP : Hid ((if LtD f.n f.s e.n e.s then (f.n, f.s, e.n, e.s) else (e.n, e.s, f.n, f.s)) = pairP e f) := Lib.hid (by unfold pairP; rw [hk, if_pos rfl])
    replace hk := Lib.hid hk
    have z0 := cell_of B0.out 0
    have z1 := cell_of B0.out 1
    have z2 := cell_of B0.out 2
    have z3 := cell_of B0.out 3
    have z4 := cell_of B0.out 4
    have z5 := cell_of B0.out 5
    have z6 := cell_of B0.out 6
    have y0 := cell_of B1.out 0
    have y1 := cell_of B1.out 1
    have y2 := cell_of B1.out 2
    have y3 := cell_of B1.out 3
    have y4 := cell_of B1.out 4
    have y5 := cell_of B1.out 5
    have y6 := cell_of B1.out 6
    simp only [List.getElem?_toArray, List.getElem?_cons_succ, List.getElem?_cons_zero] at z0 y0 z1 y1 z2 y2 z3 y3 z4 y4 z5 y5 z6 y6
    go_wp2_with fail
    refine (clpairof_any w3 x y e f HX.out HY.out HS.out HT.out).mono ?_
    rintro r w4 ⟨rfl, hc⟩
    clear z0 y0 z1 y1 z2 y2 z3 y3 z4 y4 z5 y5 z6 y6
    rw [PP.out, HP_.out]
    obtain ⟨P0, P1, P2, P3⟩ := P
    replace C := Lib.hid (C.out.trans hc)
    replace HX := Lib.hid (HX.out.chg hc)
    replace HY := Lib.hid (HY.out.chg hc)
    replace B0 := Lib.hid (hc.at_ B0.out (by simp))
    replace B1 := Lib.hid (hc.at_ B1.out (by simp))
    replace B2 := Lib.hid (hc.at_ B2.out (by simp))
    clear hc
    have z0 := cell_of B0.out 0
    have z1 := cell_of B0.out 1
    have z2 := cell_of B0.out 2
    have z3 := cell_of B0.out 3
    have z4 := cell_of B0.out 4
    have z5 := cell_of B0.out 5
    have z6 := cell_of B0.out 6
    have y0 := cell_of B1.out 0
    have y1 := cell_of B1.out 1
    have y2 := cell_of B1.out 2
    have y3 := cell_of B1.out 3
    have y4 := cell_of B1.out 4
    have y5 := cell_of B1.out 5
    have y6 := cell_of B1.out 6
    simp only [List.getElem?_toArray, List.getElem?_cons_succ, List.getElem?_cons_zero] at z0 y0 z1 y1 z2 y2 z3 y3 z4 y4 z5 y5 z6 y6
    have ft0 := free_of B2.out 0
    have ft1 := free_of B2.out 1
    have ft2 := free_of B2.out 2
    have ft3 := free_of B2.out 3
    have t0 := cell_of B2.out 0
    have t1 := cell_of B2.out 1
    have t2 := cell_of B2.out 2
    have t3 := cell_of B2.out 3
    simp only [List.getElem?_toArray, List.getElem?_cons_succ, List.getElem?_cons_zero] at t0 t1 t2 t3
    go_wp2
    refine bodyPost_ret (v := .tuple #[.agg #[.int .i64 P0, .int .i64 P1, .int .i64 P2, .int .i64 P3], .int .i64 0]) (by simp [results, Tryz.results10, go_sem, n01, n10, n02, n20, n12, n21, t0, t1, t2, t3]) rfl ?_
    exact ⟨rfl, C.out.trans' ((((((Chg.refl [g2] w4).put' 0 _).put' 1 _).put' 2 _).put' 3 _)) (fun i hi => .inr (by have := Z.out; simp at hi; omega))⟩
end
section
open Go.RowKit Go.Lib
set_option linter.unusedSimpArgs false
set_option linter.unusedVariables false


set_option maxRecDepth 100000 in
set_option maxHeartbeats 16000000 in
theorem klPairOf_any (w : World) (x y : EvT) (e f : EvP) (hx : EvR w x e) (hy : EvR w y f) (hs : EvSm e) (ht : EvSm f) :
    Calls Tryz.prog 11 #[.agg #[.int .i64 x.n, .int .i64 x.s, .string x.p, .int .i64 x.k, .int .i64 x.m, .slice x.A x.l x.c, .slice x.B x.bl x.bc], .agg #[.int .i64 y.n, .int .i64 y.s, .string y.p, .int .i64 y.k, .int .i64 y.m, .slice y.A y.l y.c, .slice y.B y.bl y.bc]] w fun r w' => r = .returned (.tuple #[.agg #[.int .i64 (pairP e f).1, .int .i64 (pairP e f).2.1, .int .i64 (pairP e f).2.2.1, .int .i64 (pairP e f).2.2.2], .int .i64 (pairX e f)]) ∧ Chg [] w w' := by
  obtain ⟨w2, hw, hc, b0, b1, b2⟩ := news3 w (.cells #[.int .i64 x.n, .int .i64 x.s, .string x.p, .int .i64 x.k, .int .i64 x.m, .slice x.A x.l x.c, .slice x.B x.bl x.bc] 29) (.cells #[.int .i64 y.n, .int .i64 y.s, .string y.p, .int .i64 y.k, .int .i64 y.m, .slice y.A y.l y.c, .slice y.B y.bl y.bc] 29) (.cells #[.int .i64 0, .int .i64 0, .int .i64 0, .int .i64 0] 35)
  have W2 := Lib.hid hw
  have C := Lib.hid hc
  have HX := Lib.hid (hx.chg hc)
  have HY := Lib.hid (hy.chg hc)
  have HS := Lib.hid hs
  have HT := Lib.hid ht
  have B0 := Lib.hid b0
  have B1 := Lib.hid b1
  have B2 := Lib.hid b2
  clear hw hc hx hy hs ht b0 b1 b2
  generalize hP : pairP e f = P
  have HP_ := Lib.hid hP
  clear hP
  generalize hX : pairX e f = X
  have HX_ := Lib.hid hX
  clear hX
  go_enter Tryz.func11, Tryz.ntmps11
  go_upto_region 1 with fail
  rw [← W2.out]
  generalize hz2 : w.heap.size + 2 = g2 at *
  generalize hz1 : w.heap.size + 1 = g1 at *
  generalize hz0 : w.heap.size = g0 at *
  have Z := Lib.hid (And.intro hz0 (And.intro hz1 hz2))
  have n01 : ¬ g0 = g1 := by omega
  have n10 : ¬ g1 = g0 := by omega
  have n02 : ¬ g0 = g2 := by omega
  have n20 : ¬ g2 = g0 := by omega
  have n12 : ¬ g1 = g2 := by omega
  have n21 : ¬ g2 = g1 := by omega
  clear W2 hz0 hz1 hz2
  have z0 := cell_of B0.out 0
  have z1 := cell_of B0.out 1
  have z2 := cell_of B0.out 2
  have z3 := cell_of B0.out 3
  have z4 := cell_of B0.out 4
  have z5 := cell_of B0.out 5
  have z6 := cell_of B0.out 6
  have y0 := cell_of B1.out 0
  have y1 := cell_of B1.out 1
  have y2 := cell_of B1.out 2
  have y3 := cell_of B1.out 3
  have y4 := cell_of B1.out 4
  have y5 := cell_of B1.out 5
  have y6 := cell_of B1.out 6
  simp only [List.getElem?_toArray, List.getElem?_cons_succ, List.getElem?_cons_zero] at z0 y0 z1 y1 z2 y2 z3 y3 z4 y4 z5 y5 z6 y6
  go_wp2_with fail
  refine (klClash_any w2 x y e f HX.out HY.out HS.out HT.out).mono ?_
  rintro r w3 ⟨rfl, hc⟩
  clear z0 y0 z1 y1 z2 y2 z3 y3 z4 y4 z5 y5 z6 y6
  replace C := Lib.hid (C.out.trans hc)
  replace HX := Lib.hid (HX.out.chg hc)
  replace HY := Lib.hid (HY.out.chg hc)
  replace B0 := Lib.hid (hc.at_ B0.out (by simp))
  replace B1 := Lib.hid (hc.at_ B1.out (by simp))
  replace B2 := Lib.hid (hc.at_ B2.out (by simp))
  clear hc
  rcases hk : clashP e f with _ | _
  · skip
    obtain rfl : P = (0, 0, 0, 0) := by rw [← HP_.out]; exact (pair_no hk).1
    obtain rfl : X = 2 := by rw [← HX_.out]; exact (pair_no hk).2
    replace hk := Lib.hid hk
    have z0 := cell_of B0.out 0
    have z1 := cell_of B0.out 1
    have z2 := cell_of B0.out 2
    have z3 := cell_of B0.out 3
    have z4 := cell_of B0.out 4
    have z5 := cell_of B0.out 5
    have z6 := cell_of B0.out 6
    have y0 := cell_of B1.out 0
    have y1 := cell_of B1.out 1
    have y2 := cell_of B1.out 2
    have y3 := cell_of B1.out 3
    have y4 := cell_of B1.out 4
    have y5 := cell_of B1.out 5
    have y6 := cell_of B1.out 6
    simp only [List.getElem?_toArray, List.getElem?_cons_succ, List.getElem?_cons_zero] at z0 y0 z1 y1 z2 y2 z3 y3 z4 y4 z5 y5 z6 y6
    have ft0 := free_of B2.out 0
    have ft1 := free_of B2.out 1
    have ft2 := free_of B2.out 2
    have ft3 := free_of B2.out 3
    have t0 := cell_of B2.out 0
    have t1 := cell_of B2.out 1
    have t2 := cell_of B2.out 2
    have t3 := cell_of B2.out 3
    simp only [List.getElem?_toArray, List.getElem?_cons_succ, List.getElem?_cons_zero] at t0 t1 t2 t3
    go_wp2
    refine bodyPost_ret (v := .tuple #[.agg #[.int .i64 0, .int .i64 0, .int .i64 0, .int .i64 0], .int .i64 2]) (by simp [results, Tryz.results11, go_sem, n01, n10, n02, n20, n12, n21, t0, t1, t2, t3]) rfl ?_
    exact ⟨rfl, C.out.trans' ((((((Chg.refl [g2] w3).put' 0 _).put' 1 _).put' 2 _).put' 3 _)) (fun i hi => .inr (by have := Z.out; simp at hi; omega))⟩
  · skip
    obtain rfl : X = 0 := by rw [← HX_.out]; exact pair_ok hk
    replace hk := Lib.hid hk
    have ND : Hid (x.n = e.n ∧ x.s = e.s ∧ y.n = f.n ∧ y.s = f.s) := Lib.hid ⟨HX.out.n, HX.out.s, HY.out.n, HY.out.s⟩
    have z0 := cell_of B0.out 0
    have z1 := cell_of B0.out 1
    have z2 := cell_of B0.out 2
    have z3 := cell_of B0.out 3
    have z4 := cell_of B0.out 4
    have z5 := cell_of B0.out 5
    have z6 := cell_of B0.out 6
    have y0 := cell_of B1.out 0
    have y1 := cell_of B1.out 1
    have y2 := cell_of B1.out 2
    have y3 := cell_of B1.out 3
    have y4 := cell_of B1.out 4
    have y5 := cell_of B1.out 5
    have y6 := cell_of B1.out 6
    simp only [List.getElem?_toArray, List.getElem?_cons_succ, List.getElem?_cons_zero] at z0 y0 z1 y1 z2 y2 z3 y3 z4 y4 z5 y5 z6 y6
    go_wp2_with fail
    refine ((hless_any w3 x.n x.s y.n y.s).mono (fun r w' h => (show r = .returned (.bool (decide (LtD e.n e.s f.n f.s))) ∧ Chg [] w3 w' from ⟨by rw [h.1, ND.out.1, ND.out.2.1, ND.out.2.2.1, ND.out.2.2.2], h.2⟩))).mono ?_
    rintro r w4 ⟨rfl, hc⟩
    clear z0 y0 z1 y1 z2 y2 z3 y3 z4 y4 z5 y5 z6 y6
    replace C := Lib.hid (C.out.trans hc)
    replace HX := Lib.hid (HX.out.chg hc)
    replace HY := Lib.hid (HY.out.chg hc)
    replace B0 := Lib.hid (hc.at_ B0.out (by simp))
    replace B1 := Lib.hid (hc.at_ B1.out (by simp))
    replace B2 := Lib.hid (hc.at_ B2.out (by simp))
    clear hc
    by_cases hl : LtD e.n e.s f.n f.s
    · skip
      rw [decide_eq_true hl]
      obtain rfl : P = (e.n, e.s, f.n, f.s) := by rw [← HP_.out]; exact pair_up hk.out hl
      clear hl
      have z0 := cell_of B0.out 0
      have z1 := cell_of B0.out 1
      have z2 := cell_of B0.out 2
      have z3 := cell_of B0.out 3
      have z4 := cell_of B0.out 4
      have z5 := cell_of B0.out 5
      have z6 := cell_of B0.out 6
      have y0 := cell_of B1.out 0
      have y1 := cell_of B1.out 1
      have y2 := cell_of B1.out 2
      have y3 := cell_of B1.out 3
      have y4 := cell_of B1.out 4
      have y5 := cell_of B1.out 5
      have y6 := cell_of B1.out 6
      simp only [List.getElem?_toArray, List.getElem?_cons_succ, List.getElem?_cons_zero] at z0 y0 z1 y1 z2 y2 z3 y3 z4 y4 z5 y5 z6 y6
      have ft0 := free_of B2.out 0
      have ft1 := free_of B2.out 1
      have ft2 := free_of B2.out 2
      have ft3 := free_of B2.out 3
      have t0 := cell_of B2.out 0
      have t1 := cell_of B2.out 1
      have t2 := cell_of B2.out 2
      have t3 := cell_of B2.out 3
      simp only [List.getElem?_toArray, List.getElem?_cons_succ, List.getElem?_cons_zero] at t0 t1 t2 t3
      go_wp2
      refine bodyPost_ret (v := .tuple #[.agg #[.int .i64 x.n, .int .i64 x.s, .int .i64 y.n, .int .i64 y.s], .int .i64 0]) (by simp [results, Tryz.results11, go_sem, n01, n10, n02, n20, n12, n21, t0, t1, t2, t3]) rfl ?_
      exact ⟨by simp [ND.out.1, ND.out.2.1, ND.out.2.2.1, ND.out.2.2.2], C.out.trans' ((((((Chg.refl [g2] w4).put' 0 _).put' 1 _).put' 2 _).put' 3 _)) (fun i hi => .inr (by have := Z.out; simp at hi; omega))⟩
    · skip
      rw [decide_eq_false hl]
      obtain rfl : P = (f.n, f.s, e.n, e.s) := by rw [← HP_.out]; exact pair_down hk.out hl
      clear hl
      have z0 := cell_of B0.out 0
      have z1 := cell_of B0.out 1
      have z2 := cell_of B0.out 2
      have z3 := cell_of B0.out 3
      have z4 := cell_of B0.out 4
      have z5 := cell_of B0.out 5
      have z6 := cell_of B0.out 6
      have y0 := cell_of B1.out 0
      have y1 := cell_of B1.out 1
      have y2 := cell_of B1.out 2
      have y3 := cell_of B1.out 3
      have y4 := cell_of B1.out 4
      have y5 := cell_of B1.out 5
      have y6 := cell_of B1.out 6
      simp only [List.getElem?_toArray, List.getElem?_cons_succ, List.getElem?_cons_zero] at z0 y0 z1 y1 z2 y2 z3 y3 z4 y4 z5 y5 z6 y6
      have ft0 := free_of B2.out 0
      have ft1 := free_of B2.out 1
      have ft2 := free_of B2.out 2
      have ft3 := free_of B2.out 3
      have t0 := cell_of B2.out 0
      have t1 := cell_of B2.out 1
      have t2 := cell_of B2.out 2
      have t3 := cell_of B2.out 3
      simp only [List.getElem?_toArray, List.getElem?_cons_succ, List.getElem?_cons_zero] at t0 t1 t2 t3
      go_wp2
      refine bodyPost_ret (v := .tuple #[.agg #[.int .i64 y.n, .int .i64 y.s, .int .i64 x.n, .int .i64 x.s], .int .i64 0]) (by simp [results, Tryz.results11, go_sem, n01, n10, n02, n20, n12, n21, t0, t1, t2, t3]) rfl ?_
      exact ⟨by simp [ND.out.1, ND.out.2.1, ND.out.2.2.1, ND.out.2.2.2], C.out.trans' ((((((Chg.refl [g2] w4).put' 0 _).put' 1 _).put' 2 _).put' 3 _)) (fun i hi => .inr (by have := Z.out; simp at hi; omega))⟩
end
section
open Go.RowKit Go.Lib
set_option linter.unusedSimpArgs false
set_option linter.unusedVariables false


set_option maxHeartbeats 4000000 in
theorem set3_2 {w w0 : World} {z : Nat} {s0 s1 : Nat} {a0 a1 a2 : Value} {T : TypeId} {o : Obj} (v2 : Value) (q0 : w.heap[s0]? = some (.cells #[a0, a1, a2] T (0, 0))) (q1 : w.heap[s1]? = some o) (h : s0 ≠ s1) (hz : z ≤ s0) (C : Chg [] w0 w) (hw0 : w0.heap.size = z) :
    (w.setCell ⟨s0, 2, none⟩ v2).heap[s0]? = some (.cells #[a0, a1, v2] T (0, 0)) ∧ (w.setCell ⟨s0, 2, none⟩ v2).heap[s1]? = some o ∧ Chg [] w0 (w.setCell ⟨s0, 2, none⟩ v2) := by
  have p0 := heap_setCell_same _ s0 2 _ _ v2 q0
  refine ⟨p0, ?_, ?_⟩
  · rw [Below.heap_setCell _ _ _ _ (by simp; exact fun e => h e.symm)]
    exact q1
  · exact (C.put (by omega) 2 v2)
set_option maxHeartbeats 4000000 in
theorem set3_all {w w0 : World} {z : Nat} {s0 s1 : Nat} {a0 a1 a2 : Value} {T : TypeId} {o : Obj} (v0 v1 v2 : Value) (q0 : w.heap[s0]? = some (.cells #[a0, a1, a2] T (0, 0))) (q1 : w.heap[s1]? = some o) (h : s0 ≠ s1) (hz : z ≤ s0) (C : Chg [] w0 w) (hw0 : w0.heap.size = z) :
    (((w.setCell ⟨s0, 0, none⟩ v0).setCell ⟨s0, 1, none⟩ v1).setCell ⟨s0, 2, none⟩ v2).heap[s0]? = some (.cells #[v0, v1, v2] T (0, 0)) ∧ (((w.setCell ⟨s0, 0, none⟩ v0).setCell ⟨s0, 1, none⟩ v1).setCell ⟨s0, 2, none⟩ v2).heap[s1]? = some o ∧ Chg [] w0 (((w.setCell ⟨s0, 0, none⟩ v0).setCell ⟨s0, 1, none⟩ v1).setCell ⟨s0, 2, none⟩ v2) := by
  have p0 := heap_setCell_same _ s0 0 _ _ v0 q0
  have p1 := heap_setCell_same _ s0 1 _ _ v1 p0
  have p2 := heap_setCell_same _ s0 2 _ _ v2 p1
  refine ⟨p2, ?_, ?_⟩
  · rw [Below.heap_setCell _ _ _ _ (by simp; exact fun e => h e.symm), Below.heap_setCell _ _ _ _ (by simp; exact fun e => h e.symm), Below.heap_setCell _ _ _ _ (by simp; exact fun e => h e.symm)]
    exact q1
  · exact (((C.put (by omega) 0 v0).put (by omega) 1 v1).put (by omega) 2 v2)
set_option maxHeartbeats 4000000 in
theorem set7_3 {w w0 : World} {z : Nat} {s0 s1 : Nat} {a0 a1 a2 a3 a4 a5 a6 : Value} {T : TypeId} {o : Obj} (v3 v4 v5 : Value) (q0 : w.heap[s0]? = some (.cells #[a0, a1, a2, a3, a4, a5, a6] T (0, 0))) (q1 : w.heap[s1]? = some o) (h : s0 ≠ s1) (hz : z ≤ s0) (C : Chg [] w0 w) (hw0 : w0.heap.size = z) :
    (((w.setCell ⟨s0, 3, none⟩ v3).setCell ⟨s0, 4, none⟩ v4).setCell ⟨s0, 5, none⟩ v5).heap[s0]? = some (.cells #[a0, a1, a2, v3, v4, v5, a6] T (0, 0)) ∧ (((w.setCell ⟨s0, 3, none⟩ v3).setCell ⟨s0, 4, none⟩ v4).setCell ⟨s0, 5, none⟩ v5).heap[s1]? = some o ∧ Chg [] w0 (((w.setCell ⟨s0, 3, none⟩ v3).setCell ⟨s0, 4, none⟩ v4).setCell ⟨s0, 5, none⟩ v5) := by
  have p0 := heap_setCell_same _ s0 3 _ _ v3 q0
  have p1 := heap_setCell_same _ s0 4 _ _ v4 p0
  have p2 := heap_setCell_same _ s0 5 _ _ v5 p1
  refine ⟨p2, ?_, ?_⟩
  · rw [Below.heap_setCell _ _ _ _ (by simp; exact fun e => h e.symm), Below.heap_setCell _ _ _ _ (by simp; exact fun e => h e.symm), Below.heap_setCell _ _ _ _ (by simp; exact fun e => h e.symm)]
    exact q1
  · exact (((C.put (by omega) 3 v3).put (by omega) 4 v4).put (by omega) 5 v5)
set_option maxHeartbeats 4000000 in
theorem set7_1 {w w0 : World} {z : Nat} {s0 s1 : Nat} {a0 a1 a2 a3 a4 a5 a6 : Value} {T : TypeId} {o : Obj} (v6 : Value) (q0 : w.heap[s0]? = some (.cells #[a0, a1, a2, a3, a4, a5, a6] T (0, 0))) (q1 : w.heap[s1]? = some o) (h : s0 ≠ s1) (hz : z ≤ s0) (C : Chg [] w0 w) (hw0 : w0.heap.size = z) :
    (w.setCell ⟨s0, 6, none⟩ v6).heap[s0]? = some (.cells #[a0, a1, a2, a3, a4, a5, v6] T (0, 0)) ∧ (w.setCell ⟨s0, 6, none⟩ v6).heap[s1]? = some o ∧ Chg [] w0 (w.setCell ⟨s0, 6, none⟩ v6) := by
  have p0 := heap_setCell_same _ s0 6 _ _ v6 q0
  refine ⟨p0, ?_, ?_⟩
  · rw [Below.heap_setCell _ _ _ _ (by simp; exact fun e => h e.symm)]
    exact q1
  · exact (C.put (by omega) 6 v6)
set_option maxHeartbeats 4000000 in
theorem set7_all {w w0 : World} {z : Nat} {s0 s1 : Nat} {a0 a1 a2 a3 a4 a5 a6 : Value} {T : TypeId} {o : Obj} (v0 v1 v2 v3 v4 v5 v6 : Value) (q0 : w.heap[s0]? = some (.cells #[a0, a1, a2, a3, a4, a5, a6] T (0, 0))) (q1 : w.heap[s1]? = some o) (h : s0 ≠ s1) (hz : z ≤ s0) (C : Chg [] w0 w) (hw0 : w0.heap.size = z) :
    (((((((w.setCell ⟨s0, 0, none⟩ v0).setCell ⟨s0, 1, none⟩ v1).setCell ⟨s0, 2, none⟩ v2).setCell ⟨s0, 3, none⟩ v3).setCell ⟨s0, 4, none⟩ v4).setCell ⟨s0, 5, none⟩ v5).setCell ⟨s0, 6, none⟩ v6).heap[s0]? = some (.cells #[v0, v1, v2, v3, v4, v5, v6] T (0, 0)) ∧ (((((((w.setCell ⟨s0, 0, none⟩ v0).setCell ⟨s0, 1, none⟩ v1).setCell ⟨s0, 2, none⟩ v2).setCell ⟨s0, 3, none⟩ v3).setCell ⟨s0, 4, none⟩ v4).setCell ⟨s0, 5, none⟩ v5).setCell ⟨s0, 6, none⟩ v6).heap[s1]? = some o ∧ Chg [] w0 (((((((w.setCell ⟨s0, 0, none⟩ v0).setCell ⟨s0, 1, none⟩ v1).setCell ⟨s0, 2, none⟩ v2).setCell ⟨s0, 3, none⟩ v3).setCell ⟨s0, 4, none⟩ v4).setCell ⟨s0, 5, none⟩ v5).setCell ⟨s0, 6, none⟩ v6) := by
  have p0 := heap_setCell_same _ s0 0 _ _ v0 q0
  have p1 := heap_setCell_same _ s0 1 _ _ v1 p0
  have p2 := heap_setCell_same _ s0 2 _ _ v2 p1
  have p3 := heap_setCell_same _ s0 3 _ _ v3 p2
  have p4 := heap_setCell_same _ s0 4 _ _ v4 p3
  have p5 := heap_setCell_same _ s0 5 _ _ v5 p4
  have p6 := heap_setCell_same _ s0 6 _ _ v6 p5
  refine ⟨p6, ?_, ?_⟩
  · rw [Below.heap_setCell _ _ _ _ (by simp; exact fun e => h e.symm), Below.heap_setCell _ _ _ _ (by simp; exact fun e => h e.symm), Below.heap_setCell _ _ _ _ (by simp; exact fun e => h e.symm), Below.heap_setCell _ _ _ _ (by simp; exact fun e => h e.symm), Below.heap_setCell _ _ _ _ (by simp; exact fun e => h e.symm), Below.heap_setCell _ _ _ _ (by simp; exact fun e => h e.symm), Below.heap_setCell _ _ _ _ (by simp; exact fun e => h e.symm)]
    exact q1
  · exact (((((((C.put (by omega) 0 v0).put (by omega) 1 v1).put (by omega) 2 v2).put (by omega) 3 v3).put (by omega) 4 v4).put (by omega) 5 v5).put (by omega) 6 v6)

set_option maxRecDepth 100000 in
set_option maxHeartbeats 4000000 in
theorem copyeff_any (w : World) (k m : Int) (A : Option Addr) (n c : Nat) (ys : List UInt8) (h : Bs w A n ys) (hn : n ≤ 140737488351232) :
    Calls Tryz.prog 43 #[.agg #[.int .i64 k, .int .i64 m, .slice A n c]] w fun r w' => ∃ A' c', r = .returned (.agg #[.int .i64 k, .int .i64 m, .slice A' n c']) ∧ Fresh w w' A' c' ys := by
  obtain ⟨w2, hw, hc, b0, b1⟩ := news2 w (.cells #[.int .i64 k, .int .i64 m, .slice A n c] 26) (.cells #[.int .i64 0, .int .i64 0, .slice none 0 0] 26)
  have W2 := Lib.hid hw
  have H := Lib.hid (h.chg hc (by simp))
  have C := Lib.hid hc
  have HN := Lib.hid hn
  obtain ⟨g0, hg0⟩ : ∃ g, w.heap.size = g := ⟨_, rfl⟩
  obtain ⟨g1, hg1⟩ : ∃ g, w.heap.size + 1 = g := ⟨_, rfl⟩
  have SZ := Lib.hid hg0
  have S1 := Lib.hid hg1
  rw [hg0] at b0
  rw [hg1] at b1
  have B0 := Lib.hid b0
  have B1 := Lib.hid b1
  have NEg0 : Hid (g0 ≠ g1) := Lib.hid (by omega)
  have NEg1 : Hid (g1 ≠ g0) := Lib.hid (by omega)
  have LZg0 : Hid (g0 ≤ g0) := Lib.hid (Nat.le_refl _)
  have LZg1 : Hid (g0 ≤ g1) := Lib.hid (by omega)
  have L0 := Lib.hid (lt_of_heap b0)
  have L1 := Lib.hid (lt_of_heap b1)
  clear hw hc b0 b1 h hn hg0 hg1
  go_enter Tryz.func43, Tryz.ntmps43
  go_upto_region 1 with fail
  rw [← W2.out, S1.out, SZ.out]
  have z0 := cell_of B0.out 0
  have fz0 := free_of B0.out 0
  have z1 := cell_of B0.out 1
  have fz1 := free_of B0.out 1
  have z2 := cell_of B0.out 2
  have fz2 := free_of B0.out 2
  simp only [List.getElem?_toArray, List.getElem?_cons_succ, List.getElem?_cons_zero] at z0 z1 z2
  go_wp2_with fail
  refine (copy_any w2 A n c ys H.out HN.out).mono ?_
  rintro r w3 ⟨A3, c3, rfl, h3⟩
  clear z0 z1 z2 fz0 fz1 fz2
  replace B0 := Lib.hid (h3.2.2.at_ B0.out (by simp))
  replace B1 := Lib.hid (h3.2.2.at_ B1.out (by simp))
  have O3 := Lib.hid h3.1
  have N3 := Lib.hid h3.2.1
  have S2 := Lib.hid C.out.size
  replace C := Lib.hid (C.out.trans h3.2.2)
  have LT3 : Hid (∀ a, A3 = some a → a.block ≠ g0 ∧ a.block ≠ g1) := Lib.hid (fun a ha => by
    have q := N3.out a ha
    have r0 := L0.out
    have r1 := L1.out
    omega)
  clear h3
  have z0 := cell_of B0.out 0
  have fz0 := free_of B0.out 0
  have z1 := cell_of B0.out 1
  have fz1 := free_of B0.out 1
  have z2 := cell_of B0.out 2
  have fz2 := free_of B0.out 2
  simp only [List.getElem?_toArray, List.getElem?_cons_succ, List.getElem?_cons_zero] at z0 z1 z2
  go_upto_region 2 with fail
  clear z0 z1 z2 fz0 fz1 fz2
  obtain ⟨p0, p1, p2⟩ := set3_2 (.slice A3 n c3) B0.out B1.out NEg0.out LZg0.out C.out SZ.out
  generalize hW : (w3.setCell ⟨g0, 2, none⟩ (.slice A3 n c3)) = w4 at *
  replace B0 := Lib.hid p0
  replace B1 := Lib.hid p1
  have O4 := Lib.hid (O3.out.chg (S := [g0]) (hW ▸ (Chg.refl [g0] w3).put' 2 _) (fun a ha => by simp; exact (LT3.out a ha).1))
  replace C := Lib.hid p2
  clear p0 p1 p2 hW O3
  have z0 := cell_of B0.out 0
  have fz0 := free_of B0.out 0
  have z1 := cell_of B0.out 1
  have fz1 := free_of B0.out 1
  have z2 := cell_of B0.out 2
  have fz2 := free_of B0.out 2
  simp only [List.getElem?_toArray, List.getElem?_cons_succ, List.getElem?_cons_zero] at z0 z1 z2
  have y0 := cell_of B1.out 0
  have fy0 := free_of B1.out 0
  have y1 := cell_of B1.out 1
  have fy1 := free_of B1.out 1
  have y2 := cell_of B1.out 2
  have fy2 := free_of B1.out 2
  simp only [List.getElem?_toArray, List.getElem?_cons_succ, List.getElem?_cons_zero] at y0 y1 y2
  go_wp2
  clear z0 z1 z2 fz0 fz1 fz2
  clear y0 y1 y2 fy0 fy1 fy2
  obtain ⟨p0, p1, p2⟩ := set3_all (.int .i64 k) (.int .i64 m) (.slice A3 n c3) B1.out B0.out NEg1.out LZg1.out C.out SZ.out
  generalize hW : (((w4.setCell ⟨g1, 0, none⟩ (.int .i64 k)).setCell ⟨g1, 1, none⟩ (.int .i64 m)).setCell ⟨g1, 2, none⟩ (.slice A3 n c3)) = w5 at *
  have O5 := Lib.hid (O4.out.chg (S := [g1]) (hW ▸ (((Chg.refl [g1] w4).put' 0 _).put' 1 _).put' 2 _) (fun a ha => by simp; exact (LT3.out a ha).2))
  replace B1 := Lib.hid p0
  replace C := Lib.hid p2
  clear p0 p1 p2 hW O4
  have y0 := cell_of B1.out 0
  have y1 := cell_of B1.out 1
  have y2 := cell_of B1.out 2
  simp only [List.getElem?_toArray, List.getElem?_cons_succ, List.getElem?_cons_zero] at y0 y1 y2
  refine bodyPost_ret (v := .agg #[.int .i64 k, .int .i64 m, .slice A3 n c3]) (by simp [results, Tryz.results43, go_sem, y0, y1, y2]) rfl ?_
  exact ⟨A3, c3, rfl, O5.out, fun a ha => Nat.le_trans S2.out (N3.out a ha), C.out⟩
end
section
open Go.RowKit Go.Lib
set_option linter.unusedSimpArgs false
set_option linter.unusedVariables false


set_option maxRecDepth 100000 in
set_option maxHeartbeats 8000000 in
/-- A copy of an event, in memory of its own. -/
theorem copyev_any (w : World) (x : EvT) (e : EvP) (h : EvR w x e) (hs : e.b.length ≤ 140737488351232 ∧ e.q.length ≤ 100000) :
    Calls Tryz.prog 9 #[.agg #[.int .i64 x.n, .int .i64 x.s, .string x.p, .int .i64 x.k, .int .i64 x.m, .slice x.A x.l x.c, .slice x.B x.bl x.bc]] w fun r w' => ∃ A' c' B' d', r = .returned (.agg #[.int .i64 x.n, .int .i64 x.s, .string x.p, .int .i64 x.k, .int .i64 x.m, .slice A' x.l c', .slice B' x.bl d']) ∧ EvR w' ⟨x.n, x.s, x.p, x.k, x.m, A', x.l, c', B', x.bl, d'⟩ e ∧ OwnB w' A' c' e.b ∧ OwnK spanTy w' B' d' e.q ∧ (∀ a, A' = some a → w.heap.size ≤ a.block) ∧ (∀ a, B' = some a → w.heap.size ≤ a.block) ∧ (∀ a b, A' = some a → B' = some b → a.block ≠ b.block) ∧ Chg [] w w' := by
  obtain ⟨w2, hw, hc, b0, b1⟩ := news2 w (.cells #[.int .i64 x.n, .int .i64 x.s, .string x.p, .int .i64 x.k, .int .i64 x.m, .slice x.A x.l x.c, .slice x.B x.bl x.bc] 29) (.cells #[.int .i64 0, .int .i64 0, .string ⟨#[]⟩, .int .i64 0, .int .i64 0, .slice none 0 0, .slice none 0 0] 29)
  have W2 := Lib.hid hw
  have HR := Lib.hid (h.chg hc)
  have HR0 := Lib.hid h
  have C := Lib.hid hc
  have HS := Lib.hid hs
  obtain ⟨g0, hg0⟩ : ∃ g, w.heap.size = g := ⟨_, rfl⟩
  obtain ⟨g1, hg1⟩ : ∃ g, w.heap.size + 1 = g := ⟨_, rfl⟩
  have SZ := Lib.hid hg0
  have S1 := Lib.hid hg1
  rw [hg0] at b0
  rw [hg1] at b1
  have B0 := Lib.hid b0
  have B1 := Lib.hid b1
  have L0 := Lib.hid (lt_of_heap b0)
  have L1 := Lib.hid (lt_of_heap b1)
  have NEg0 : Hid (g0 ≠ g1) := Lib.hid (by omega)
  have NEg1 : Hid (g1 ≠ g0) := Lib.hid (by omega)
  have LZg0 : Hid (g0 ≤ g0) := Lib.hid (Nat.le_refl _)
  have LZg1 : Hid (g0 ≤ g1) := Lib.hid (by omega)
  clear hw hc b0 b1 h hs hg0 hg1
  go_enter Tryz.func9, Tryz.ntmps9
  go_upto_region 1 with fail
  rw [← W2.out, S1.out, SZ.out]
  have z0 := cell_of B0.out 0
  have fz0 := free_of B0.out 0
  have z1 := cell_of B0.out 1
  have fz1 := free_of B0.out 1
  have z2 := cell_of B0.out 2
  have fz2 := free_of B0.out 2
  have z3 := cell_of B0.out 3
  have fz3 := free_of B0.out 3
  have z4 := cell_of B0.out 4
  have fz4 := free_of B0.out 4
  have z5 := cell_of B0.out 5
  have fz5 := free_of B0.out 5
  have z6 := cell_of B0.out 6
  have fz6 := free_of B0.out 6
  simp only [List.getElem?_toArray, List.getElem?_cons_succ, List.getElem?_cons_zero] at z0 z1 z2 z3 z4 z5 z6
  go_wp2_with fail
  refine (copyeff_any w2 x.k x.m x.A x.l x.c e.b HR.out.A (by rw [HR.out.l]; exact HS.out.1)).mono ?_
  rintro r w3 ⟨A3, c3, rfl, h3⟩
  clear z0 z1 z2 z3 z4 z5 z6 fz0 fz1 fz2 fz3 fz4 fz5 fz6
  replace B0 := Lib.hid (h3.2.2.at_ B0.out (by simp))
  replace B1 := Lib.hid (h3.2.2.at_ B1.out (by simp))
  have O3 := Lib.hid h3.1
  have N3 := Lib.hid h3.2.1
  have S2 := Lib.hid C.out.size
  have LB : Hid (w2.heap.size ≤ w3.heap.size) := Lib.hid h3.2.2.size
  replace C := Lib.hid (C.out.trans h3.2.2)
  have LT3 : Hid (∀ a, A3 = some a → a.block ≠ g0 ∧ a.block ≠ g1) := Lib.hid (fun a ha => by
    have q := N3.out a ha
    have r0 := L0.out
    have r1 := L1.out
    omega)
  have LX3 : Hid (∀ a, A3 = some a → a.block < w3.heap.size) := Lib.hid (fun a ha => by
    obtain ⟨g, hg⟩ : ∃ g, a.block = g := ⟨_, rfl⟩
    rcases O3.out with ⟨q, _⟩ | ⟨g, full, q, hh, _⟩
    · rw [q] at ha; cases ha
    · rw [q] at ha; cases ha; exact lt_of_heap hh)
  clear h3
  have z0 := cell_of B0.out 0
  have fz0 := free_of B0.out 0
  have z1 := cell_of B0.out 1
  have fz1 := free_of B0.out 1
  have z2 := cell_of B0.out 2
  have fz2 := free_of B0.out 2
  have z3 := cell_of B0.out 3
  have fz3 := free_of B0.out 3
  have z4 := cell_of B0.out 4
  have fz4 := free_of B0.out 4
  have z5 := cell_of B0.out 5
  have fz5 := free_of B0.out 5
  have z6 := cell_of B0.out 6
  have fz6 := free_of B0.out 6
  simp only [List.getElem?_toArray, List.getElem?_cons_succ, List.getElem?_cons_zero] at z0 z1 z2 z3 z4 z5 z6
  go_upto_region 2 with fail
  clear z0 z1 z2 z3 z4 z5 z6 fz0 fz1 fz2 fz3 fz4 fz5 fz6
  obtain ⟨p0, p1, p2⟩ := set7_3 (.int .i64 x.k) (.int .i64 x.m) (.slice A3 x.l c3) B0.out B1.out NEg0.out LZg0.out C.out SZ.out
  generalize hW : (((w3.setCell ⟨g0, 3, none⟩ (.int .i64 x.k)).setCell ⟨g0, 4, none⟩ (.int .i64 x.m)).setCell ⟨g0, 5, none⟩ (.slice A3 x.l c3)) = w4 at *
  have O4 := Lib.hid (O3.out.chg (S := [g0]) (hW ▸ (((Chg.refl [g0] w3).put' 3 _).put' 4 _).put' 5 _) (fun a ha => by simp; exact (LT3.out a ha).1))
  replace B0 := Lib.hid p0
  replace B1 := Lib.hid p1
  have LW : Hid (w3.heap.size ≤ w4.heap.size) := Lib.hid (by rw [← hW]; simp [World.setCell])
  replace C := Lib.hid p2
  have RBp := Lib.hid (HR0.out.B.chg C.out (by simp))
  clear p0 p1 p2 hW O3
  have z0 := cell_of B0.out 0
  have fz0 := free_of B0.out 0
  have z1 := cell_of B0.out 1
  have fz1 := free_of B0.out 1
  have z2 := cell_of B0.out 2
  have fz2 := free_of B0.out 2
  have z3 := cell_of B0.out 3
  have fz3 := free_of B0.out 3
  have z4 := cell_of B0.out 4
  have fz4 := free_of B0.out 4
  have z5 := cell_of B0.out 5
  have fz5 := free_of B0.out 5
  have z6 := cell_of B0.out 6
  have fz6 := free_of B0.out 6
  simp only [List.getElem?_toArray, List.getElem?_cons_succ, List.getElem?_cons_zero] at z0 z1 z2 z3 z4 z5 z6
  go_wp2_with fail
  refine (copyspan_any w4 x.B x.bl x.bc e.q RBp.out (by have := HS.out.2; rw [HR.out.bl]; omega)).mono ?_
  rintro r w5 ⟨A5, c5, rfl, h5, hN5, hc5⟩
  clear z0 z1 z2 z3 z4 z5 z6 fz0 fz1 fz2 fz3 fz4 fz5 fz6
  replace B0 := Lib.hid (hc5.at_ B0.out (by simp))
  replace B1 := Lib.hid (hc5.at_ B1.out (by simp))
  replace O4 := Lib.hid (O4.out.chg hc5 (by simp))
  have P5 := Lib.hid h5
  have N5 : Hid (∀ a, A5 = some a → w3.heap.size ≤ a.block) := Lib.hid (fun a ha => Nat.le_trans LW.out (hN5 a ha))
  replace C := Lib.hid (C.out.trans hc5)
  have LT5 : Hid (∀ a, A5 = some a → a.block ≠ g0 ∧ a.block ≠ g1) := Lib.hid (fun a ha => by
    have q := N5.out a ha
    have r0 := L0.out
    have r1 := L1.out
    have r2 := LB.out
    omega)
  clear h5 hN5 hc5 RBp
  have z0 := cell_of B0.out 0
  have fz0 := free_of B0.out 0
  have z1 := cell_of B0.out 1
  have fz1 := free_of B0.out 1
  have z2 := cell_of B0.out 2
  have fz2 := free_of B0.out 2
  have z3 := cell_of B0.out 3
  have fz3 := free_of B0.out 3
  have z4 := cell_of B0.out 4
  have fz4 := free_of B0.out 4
  have z5 := cell_of B0.out 5
  have fz5 := free_of B0.out 5
  have z6 := cell_of B0.out 6
  have fz6 := free_of B0.out 6
  simp only [List.getElem?_toArray, List.getElem?_cons_succ, List.getElem?_cons_zero] at z0 z1 z2 z3 z4 z5 z6
  go_upto_region 3 with fail
  clear z0 z1 z2 z3 z4 z5 z6 fz0 fz1 fz2 fz3 fz4 fz5 fz6
  obtain ⟨p0, p1, p2⟩ := set7_1 (.slice A5 x.bl c5) B0.out B1.out NEg0.out LZg0.out C.out SZ.out
  generalize hW : (w5.setCell ⟨g0, 6, none⟩ (.slice A5 x.bl c5)) = w6 at *
  have O6 := Lib.hid (O4.out.chg (S := [g0]) (hW ▸ (Chg.refl [g0] w5).put' 6 _) (fun a ha => by simp; exact (LT3.out a ha).1))
  have P6 := Lib.hid (P5.out.chg (S := [g0]) (hW ▸ (Chg.refl [g0] w5).put' 6 _) (fun a ha => by simp; exact (LT5.out a ha).1))
  replace B0 := Lib.hid p0
  replace B1 := Lib.hid p1
  replace C := Lib.hid p2
  clear p0 p1 p2 hW O4 P5
  have z0 := cell_of B0.out 0
  have fz0 := free_of B0.out 0
  have z1 := cell_of B0.out 1
  have fz1 := free_of B0.out 1
  have z2 := cell_of B0.out 2
  have fz2 := free_of B0.out 2
  have z3 := cell_of B0.out 3
  have fz3 := free_of B0.out 3
  have z4 := cell_of B0.out 4
  have fz4 := free_of B0.out 4
  have z5 := cell_of B0.out 5
  have fz5 := free_of B0.out 5
  have z6 := cell_of B0.out 6
  have fz6 := free_of B0.out 6
  simp only [List.getElem?_toArray, List.getElem?_cons_succ, List.getElem?_cons_zero] at z0 z1 z2 z3 z4 z5 z6
  have y0 := cell_of B1.out 0
  have fy0 := free_of B1.out 0
  have y1 := cell_of B1.out 1
  have fy1 := free_of B1.out 1
  have y2 := cell_of B1.out 2
  have fy2 := free_of B1.out 2
  have y3 := cell_of B1.out 3
  have fy3 := free_of B1.out 3
  have y4 := cell_of B1.out 4
  have fy4 := free_of B1.out 4
  have y5 := cell_of B1.out 5
  have fy5 := free_of B1.out 5
  have y6 := cell_of B1.out 6
  have fy6 := free_of B1.out 6
  simp only [List.getElem?_toArray, List.getElem?_cons_succ, List.getElem?_cons_zero] at y0 y1 y2 y3 y4 y5 y6
  go_wp2
  clear z0 z1 z2 z3 z4 z5 z6 fz0 fz1 fz2 fz3 fz4 fz5 fz6
  clear y0 y1 y2 y3 y4 y5 y6 fy0 fy1 fy2 fy3 fy4 fy5 fy6
  obtain ⟨p0, p1, p2⟩ := set7_all (.int .i64 x.n) (.int .i64 x.s) (.string x.p) (.int .i64 x.k) (.int .i64 x.m) (.slice A3 x.l c3) (.slice A5 x.bl c5) B1.out B0.out NEg1.out LZg1.out C.out SZ.out
  generalize hW : (((((((w6.setCell ⟨g1, 0, none⟩ (.int .i64 x.n)).setCell ⟨g1, 1, none⟩ (.int .i64 x.s)).setCell ⟨g1, 2, none⟩ (.string x.p)).setCell ⟨g1, 3, none⟩ (.int .i64 x.k)).setCell ⟨g1, 4, none⟩ (.int .i64 x.m)).setCell ⟨g1, 5, none⟩ (.slice A3 x.l c3)).setCell ⟨g1, 6, none⟩ (.slice A5 x.bl c5)) = w7 at *
  have O7 := Lib.hid (O6.out.chg (S := [g1]) (hW ▸ (((((((Chg.refl [g1] w6).put' 0 _).put' 1 _).put' 2 _).put' 3 _).put' 4 _).put' 5 _).put' 6 _) (fun a ha => by simp; exact (LT3.out a ha).2))
  have P7 := Lib.hid (P6.out.chg (S := [g1]) (hW ▸ (((((((Chg.refl [g1] w6).put' 0 _).put' 1 _).put' 2 _).put' 3 _).put' 4 _).put' 5 _).put' 6 _) (fun a ha => by simp; exact (LT5.out a ha).2))
  replace B1 := Lib.hid p0
  replace C := Lib.hid p2
  clear p0 p1 p2 hW O6 P6
  have y0 := cell_of B1.out 0
  have y1 := cell_of B1.out 1
  have y2 := cell_of B1.out 2
  have y3 := cell_of B1.out 3
  have y4 := cell_of B1.out 4
  have y5 := cell_of B1.out 5
  have y6 := cell_of B1.out 6
  simp only [List.getElem?_toArray, List.getElem?_cons_succ, List.getElem?_cons_zero] at y0 y1 y2 y3 y4 y5 y6
  refine bodyPost_ret (v := .agg #[.int .i64 x.n, .int .i64 x.s, .string x.p, .int .i64 x.k, .int .i64 x.m, .slice A3 x.l c3, .slice A5 x.bl c5]) (by simp [results, Tryz.results9, go_sem, y0, y1, y2, y3, y4, y5, y6]) rfl ?_
  refine ⟨A3, c3, A5, c5, rfl, ⟨HR.out.n, HR.out.s, HR.out.p, HR.out.k, HR.out.m, HR.out.l, HR.out.bl, ?_, ?_⟩, O7.out, P7.out, fun a ha => Nat.le_trans S2.out (N3.out a ha), fun a ha => Nat.le_trans S2.out (Nat.le_trans LB.out (N5.out a ha)), fun a b ha hb => by have := LX3.out a ha; have := N5.out b hb; omega, C.out⟩
  · have := O7.out.reads
    rw [← HR.out.l] at this
    exact this
  · have := P7.out.reads
    rw [← HR.out.bl] at this
    exact this
end
end Go.Proofs.YtfdaclifapfmdaaGreatDoor
