/- ChunkKnown, walked. -/
import Derived.Test.YtnpilljjkfjjiaaCkknk
import Derived.Test.YtnpilljjkfjjiaaCksome
import Derived.Test.YtnpilljjkfjjiaaCkcutlaw
namespace Go.Proofs.Ytnpilljjkfjjiaa
open Go.RowKit Go.Lib
set_option linter.unusedSimpArgs false
set_option linter.unusedVariables false

set_option maxRecDepth 100000 in
set_option maxHeartbeats 8000000 in
theorem ckknown_any (w : World) : Calls Try.prog 6 #[] w fun e w' => e = .returned (.bool true) ∧ Chg [] w w' := by
  have S4 := Lib.hid (fun W => some_any W 401 (by omega))
  have S1 := Lib.hid (fun W => some_any W 1 (by omega))
  have S6 := Lib.hid (fun W => some_any W 60001 (by omega))
  have NX := Lib.hid (fun W => bxnew_any W 500 (by omega) (by omega))
  have NY := Lib.hid (fun W => bxnew_any W 100 (by omega) (by omega))
  have AW := Lib.hid (fun W => l19awakeB_run W)
  go_enter Try.func6, Try.ntmps6
  go_wp2_with fail
  refine (S4.out w).mono ?_
  rintro e w1 ⟨g, rfl, hO, hg, hC⟩
  have hx : (someR 401).length = 401 := someR_len _
  generalize someR 401 = xs at *
  have CT := bxcut_any w1 7 g 0 401 xs hO.reads (by omega) (by omega) (by omega) (by omega) (by omega) (by omega) (hO.lt _ rfl)
  have hx1 := hx
  rw [hx] at CT
  have HCT := Lib.hid CT
  have C := Lib.hid hC
  have HX := Lib.hid hx
  clear hO hg hC CT hx hx1
  go_wp2_with fail
  refine HCT.out.mono ?_
  rintro e w2 ⟨B, d, l, rfl, hOl, hln, hP, hB, hC⟩
  have hl3 : l.length = 3 := hln
  obtain ⟨x0, x1, x2, rfl⟩ : ∃ a b c, l = [a, b, c] := by
    match l, hl3 with
    | [a, b, c], _ => exact ⟨a, b, c, rfl⟩
  obtain ⟨gB, rfl⟩ := hOl.row0 (by simp)
  obtain ⟨g0, c0, e0, o0, m0⟩ := hP.1 0 x0 rfl
  obtain ⟨g1, c1, e1, o1, m1⟩ := hP.1 1 x1 rfl
  obtain ⟨g2, c2, e2, o2, m2⟩ := hP.1 2 x2 rfl
  rw [HX.out] at e0 e1 e2
  replace e0 : x0 = (1, 7, 401, 0, some ⟨g0, 0, none⟩, 200, c0) := e0
  replace e1 : x1 = (1, 7, 401, 200, some ⟨g1, 0, none⟩, 200, c1) := e1
  replace e2 : x2 = (1, 7, 401, 400, some ⟨g2, 0, none⟩, 1, c2) := e2
  subst e0; subst e1; subst e2
  have LB : Hid (gB < w2.heap.size ∧ g0 < w2.heap.size ∧ g1 < w2.heap.size ∧ g2 < w2.heap.size) := Lib.hid ⟨by
    rcases hOl.reads.old with e | e
    · cases e
    · exact e _ rfl, o0.lt _ rfl, o1.lt _ rfl, o2.lt _ rfl⟩
  have OL := Lib.hid hOl.reads
  have O0 := Lib.hid o0
  have O1 := Lib.hid o1
  have O2 := Lib.hid o2
  replace C := Lib.hid (C.out.trans hC)
  clear hOl o0 o1 o2 hln hP hB hC m0 m1 m2 hl3 HCT
  simp only [List.length_cons, List.length_nil, Nat.zero_add, Nat.reduceAdd] at OL ⊢
  go_wp2_with fail
  refine (NX.out w2).mono ?_
  rintro e w3 ⟨bx, rfl, hbx, hlx, hc⟩
  have BX := Lib.hid hbx
  have C3 := Lib.hid hc
  have LX := Lib.hid (show w2.heap.size ≤ bx ∧ bx < w3.heap.size from ⟨hlx, lt_of_heap hbx⟩)
  clear hbx hlx hc
  go_wp2_with fail
  refine (NY.out w3).mono ?_
  rintro e w4 ⟨byy, rfl, hby, hly, hc⟩
  have BY := Lib.hid hby
  have C34 := Lib.hid hc
  have LY := Lib.hid (show w3.heap.size ≤ byy ∧ byy < w4.heap.size from ⟨hly, lt_of_heap hby⟩)
  have K0 : Hid (KnS w4 w4 bx byy 500 (0, 0, [])) := Lib.hid ⟨none, 0, hc.at_ BX.out (by simp), OwnB.none_ _, by simp, Chg.refl _ _⟩
  have C4 := Lib.hid (C3.out.trans hc)
  have far : Hid (∀ z, z < w2.heap.size → z ∉ [bx, byy]) := Lib.hid fun z hz hm => by have := LX.out; have := LY.out; simp at hm; omega
  clear hby hly hc
  have BYW := Lib.hid BY.out
  have r0 : putC 500 (0, 0, []) 1 7 401 200 (pieceR xs 1) = ([], 9, 0, 0, []) := by
    have h := put_state (q := 500) (it := 7) (xs := xs) (j := 1) (0, 0, []) (by omega) (by omega) (by rw [HX.out]; omega) (by omega) (by rw [HX.out]; omega) (by simp)
    rw [HX.out] at h
    exact h
  have HR0 := Lib.hid r0
  clear r0
  have cc := msgCells ((OL.out.chg C4.out (by simp)).chg K0.out.k (by rintro a ⟨⟩; exact far.out _ (by have := LB.out; simp; omega))) (j := 1) rfl
  simp only [Nat.zero_add, Nat.zero_mul, Nat.reduceMul, Nat.reduceAdd] at cc
  obtain ⟨t0, t1, t2, t3, t4⟩ := cc
  go_wp2_with fail
  refine (put_kn K0.out (by have := LX.out; have := LY.out; omega) (by simp) 1 7 401 200 (some ⟨g1, 0, none⟩) 200 c1 (pieceR xs 1) (show Bs _ (some ⟨g1, 0, none⟩) 200 (pieceR xs 1) from by have := ((O1.out.chg C4.out (by simp)).chg K0.out.k (by rintro a ⟨⟩; exact far.out _ (by have := LB.out; simp; omega))).reads; rwa [pieceR_len, HX.out] at this) (by omega) (fun _ x hx => by cases hx; have := LB.out; have := LX.out; have := LY.out; constructor <;> simp <;> omega) _ HR0.out).mono ?_
  rintro e v1 ⟨A1, d1, rfl, _, hk, hz⟩
  have K1 := Lib.hid hk
  replace BYW := Lib.hid (hz _ _ LY.out.2 (by have := LX.out; have := LY.out; omega) BYW.out)
  clear hk hz t0 t1 t2 t3 t4
  have r1 : putC 500 (0, 0, []) 1 7 401 0 (pieceR xs 0) = ([], 0, 7, 401, xs.take 200) := by
    have h := put_first (q := 500) (it := 7) (xs := xs) (0, 0, []) (by omega) (by omega) (by rw [HX.out]; omega) (by rw [HX.out]; omega) (by rw [HX.out]; omega)
    have h2 := fin_more (it := 7) (xs := xs) (j := 1) (by rw [HX.out]; omega)
    rw [HX.out] at h h2
    exact h.trans h2
  have HR1 := Lib.hid r1
  clear r1
  have cc := msgCells ((OL.out.chg C4.out (by simp)).chg K1.out.k (by rintro a ⟨⟩; exact far.out _ (by have := LB.out; simp; omega))) (j := 0) rfl
  simp only [Nat.zero_add, Nat.zero_mul, Nat.reduceMul, Nat.reduceAdd] at cc
  obtain ⟨t0, t1, t2, t3, t4⟩ := cc
  go_wp2_with fail
  refine (put_kn K1.out (by have := LX.out; have := LY.out; omega) (by simp) 1 7 401 0 (some ⟨g0, 0, none⟩) 200 c0 (pieceR xs 0) (show Bs _ (some ⟨g0, 0, none⟩) 200 (pieceR xs 0) from by have := ((O0.out.chg C4.out (by simp)).chg K1.out.k (by rintro a ⟨⟩; exact far.out _ (by have := LB.out; simp; omega))).reads; rwa [pieceR_len, HX.out] at this) (by omega) (fun _ x hx => by cases hx; have := LB.out; have := LX.out; have := LY.out; constructor <;> simp <;> omega) _ HR1.out).mono ?_
  rintro e v2 ⟨A1, d1, rfl, _, hk, hz⟩
  have K2 := Lib.hid hk
  replace BYW := Lib.hid (hz _ _ LY.out.2 (by have := LX.out; have := LY.out; omega) BYW.out)
  clear hk hz t0 t1 t2 t3 t4
  have r2 : putC 500 (7, 401, xs.take 200) 1 7 401 0 (pieceR xs 0) = ([], 0, 7, 401, xs.take 200) := by
    have h := put_first (q := 500) (it := 7) (xs := xs) (7, 401, xs.take 200) (by omega) (by omega) (by rw [HX.out]; omega) (by rw [HX.out]; omega) (by rw [HX.out]; omega)
    have h2 := fin_more (it := 7) (xs := xs) (j := 1) (by rw [HX.out]; omega)
    rw [HX.out] at h h2
    exact h.trans h2
  have HR2 := Lib.hid r2
  clear r2
  have cc := msgCells ((OL.out.chg C4.out (by simp)).chg K2.out.k (by rintro a ⟨⟩; exact far.out _ (by have := LB.out; simp; omega))) (j := 0) rfl
  simp only [Nat.zero_add, Nat.zero_mul, Nat.reduceMul, Nat.reduceAdd] at cc
  obtain ⟨t0, t1, t2, t3, t4⟩ := cc
  go_wp2_with fail
  refine (put_kn K2.out (by have := LX.out; have := LY.out; omega) (by simp; omega) 1 7 401 0 (some ⟨g0, 0, none⟩) 200 c0 (pieceR xs 0) (show Bs _ (some ⟨g0, 0, none⟩) 200 (pieceR xs 0) from by have := ((O0.out.chg C4.out (by simp)).chg K2.out.k (by rintro a ⟨⟩; exact far.out _ (by have := LB.out; simp; omega))).reads; rwa [pieceR_len, HX.out] at this) (by omega) (fun _ x hx => by cases hx; have := LB.out; have := LX.out; have := LY.out; constructor <;> simp <;> omega) _ HR2.out).mono ?_
  rintro e v3 ⟨A1, d1, rfl, _, hk, hz⟩
  have K3 := Lib.hid hk
  replace BYW := Lib.hid (hz _ _ LY.out.2 (by have := LX.out; have := LY.out; omega) BYW.out)
  clear hk hz t0 t1 t2 t3 t4
  have r3 : putC 500 (7, 401, xs.take 200) 1 7 401 400 (pieceR xs 2) = ([], 9, 7, 401, xs.take 200) := by
    have h := put_state (q := 500) (it := 7) (xs := xs) (j := 2) (7, 401, xs.take 200) (by omega) (by omega) (by rw [HX.out]; omega) (by omega) (by rw [HX.out]; omega) (by simp; omega)
    rw [HX.out] at h
    exact h
  have HR3 := Lib.hid r3
  clear r3
  have cc := msgCells ((OL.out.chg C4.out (by simp)).chg K3.out.k (by rintro a ⟨⟩; exact far.out _ (by have := LB.out; simp; omega))) (j := 2) rfl
  simp only [Nat.zero_add, Nat.zero_mul, Nat.reduceMul, Nat.reduceAdd] at cc
  obtain ⟨t0, t1, t2, t3, t4⟩ := cc
  go_wp2_with fail
  refine (put_kn K3.out (by have := LX.out; have := LY.out; omega) (by simp; omega) 1 7 401 400 (some ⟨g2, 0, none⟩) 1 c2 (pieceR xs 2) (show Bs _ (some ⟨g2, 0, none⟩) 1 (pieceR xs 2) from by have := ((O2.out.chg C4.out (by simp)).chg K3.out.k (by rintro a ⟨⟩; exact far.out _ (by have := LB.out; simp; omega))).reads; rwa [pieceR_len, HX.out] at this) (by omega) (fun _ x hx => by cases hx; have := LB.out; have := LX.out; have := LY.out; constructor <;> simp <;> omega) _ HR3.out).mono ?_
  rintro e v4 ⟨A1, d1, rfl, _, hk, hz⟩
  have K4 := Lib.hid hk
  replace BYW := Lib.hid (hz _ _ LY.out.2 (by have := LX.out; have := LY.out; omega) BYW.out)
  clear hk hz t0 t1 t2 t3 t4
  have r4 : putC 100 (0, 0, []) 1 7 401 0 (pieceR xs 0) = ([], 8, 0, 0, []) := by
    have h := put_full (q := 100) (it := 7) (xs := xs) (0, 0, []) (by omega) (by omega) (by rw [HX.out]; omega) (by rw [HX.out]; omega) (by rw [HX.out]; omega)
    rw [HX.out] at h
    exact h
  have HR4 := Lib.hid r4
  clear r4
  have KY : Hid (KnS v4 v4 byy bx 100 (0, 0, [])) := Lib.hid ⟨none, 0, BYW.out, OwnB.none_ _, by simp, Chg.refl _ _⟩
  have cc := msgCells ((OL.out.chg C4.out (by simp)).chg K4.out.k (by rintro a ⟨⟩; exact far.out _ (by have := LB.out; simp; omega))) (j := 0) rfl
  simp only [Nat.zero_add, Nat.zero_mul, Nat.reduceMul, Nat.reduceAdd] at cc
  obtain ⟨t0, t1, t2, t3, t4⟩ := cc
  go_wp2_with fail
  refine (put_kn KY.out (lt_of_heap BYW.out) (by simp) 1 7 401 0 (some ⟨g0, 0, none⟩) 200 c0 (pieceR xs 0) (show Bs _ (some ⟨g0, 0, none⟩) 200 (pieceR xs 0) from by have := ((O0.out.chg C4.out (by simp)).chg K4.out.k (by rintro a ⟨⟩; exact far.out _ (by have := LB.out; simp; omega))).reads; rwa [pieceR_len, HX.out] at this) (by omega) (fun _ x hx => by cases hx; have := LB.out; have := LX.out; have := LY.out; have := C4.out.size; have := K4.out.k.size; constructor <;> simp <;> omega) _ HR4.out).mono ?_
  rintro e v5 ⟨A1, d1, rfl, _, hk, hz⟩
  clear t0 t1 t2 t3 t4
  have K5 : Hid (KnS w4 v5 bx byy 500 (7, 401, xs.take 200)) := by
    obtain ⟨A, c, b1, q1, h3, h4⟩ := K4.out
    refine Lib.hid ⟨A, c, hz _ _ (lt_of_heap b1) (by have := LX.out; have := LY.out; omega) b1, q1.keep (fun z o e ho => hz z o (lt_of_heap ho) (by have q : w4.heap.size ≤ z := h3 _ e; have := LY.out; omega) ho), h3, h4.trans (hk.k.mono (fun i hi => .inl (by simp at hi ⊢; omega)))⟩
  clear hk hz
  go_wp2_with fail
  refine (S1.out v5).mono ?_
  rintro e v6 ⟨gs, rfl, _, _, hc⟩
  have K6 := Lib.hid (K5.out.chg hc)
  clear hc
  go_wp2_with fail
  refine (bxcut_no0 v6 0 _ _ _ (by omega)).mono ?_
  rintro e v7 ⟨rfl, hc⟩
  have K7 := Lib.hid (K6.out.chg hc)
  clear hc
  go_wp2_with fail
  refine (bxcut_no2 v7 1 none 0 0 (by omega) (by omega) rfl).mono ?_
  rintro e v8 ⟨rfl, hc⟩
  have K8 := Lib.hid (K7.out.chg hc)
  clear hc
  go_wp2_with fail
  refine (S6.out v8).mono ?_
  rintro e v9 ⟨gt, rfl, _, _, hc⟩
  have K9 := Lib.hid (K8.out.chg hc)
  clear hc
  go_wp2_with fail
  refine (bxcut_no3 v9 1 _ 60001 _ (by omega) (by omega) (by omega)).mono ?_
  rintro e v10 ⟨rfl, hc⟩
  have K10 := Lib.hid (K9.out.chg hc)
  clear hc
  have r6 : putC 500 (7, 401, xs.take 200) 3 7 0 0 [] = ([], 2, 7, 401, xs.take 200) := by
    unfold putC
    rw [if_pos (.inr (by decide))]
  have HR6 := Lib.hid r6
  clear r6
  go_wp2_with fail
  refine (put_kn K10.out (by have := LX.out; have := LY.out; omega) (by simp; omega) 3 7 0 0 none 0 0 [] (Bs.nil _ _) (by omega) (by simp) _ HR6.out).mono ?_
  rintro e v11 ⟨A1, d1, rfl, _, hk, hz⟩
  have K11 := Lib.hid hk
  clear hk hz
  go_wp2_with fail
  refine (AW.out v11).mono ?_
  rintro e v12 ⟨rfl, hc⟩
  have K12 := Lib.hid (K11.out.chg hc)
  clear hc
  go_wp2
  go_ret
  refine ⟨rfl, ((C.out.trans C4.out).trans' K12.out.k (fun z hz => .inr ?_))⟩
  have := LX.out
  have := LY.out
  have := C.out.size
  simp at hz
  omega
end Go.Proofs.Ytnpilljjkfjjiaa
