/- An event is looked for by its dot. past.push, whatever comes. past: a cursor goes on. past.begin. past: a sweep begins. past: a cursor goes on. past: a cursor passes. past: a cursor goes on. past: a cursor passes. past.until. -/
import Derived.Test.YtomgjogkkoigbaaGreatDoorZsom
import Derived.Deep.Cut
import Derived.Test.YtomgjogkkoigbaaGreatDoorZsok
import Derived.Test.YtomgjogkkoigbaaGreatDoorZsod
set_option linter.unusedSimpArgs false
set_option linter.unusedVariables false
namespace Go.Proofs.YtomgjogkkoigbaaGreatDoor
section
open Go.RowKit Go.Lib


theorem evbydot_e (w : World) (x : EvT) (n s : Int) : Calls Tryz.prog 82 #[.agg #[.int .i64 x.n, .int .i64 x.s, .string x.p, .int .i64 x.k, .int .i64 x.m, .slice x.A x.l x.c, .slice x.B x.bl x.bc], .agg #[.int .i64 n, .int .i64 s]] w fun e w' => e = .returned (.int .i64 (cmpEd x n s)) ∧ Chg [] w w' := (evbydot_gr w x n s).mono (fun _ _ h => ⟨h.1, h.2.1⟩)
set_option maxRecDepth 100000 in
set_option maxHeartbeats 8000000 in
theorem binev_any (w : World) (A : Option Addr) (c : Nat) (xs : List EvT) (n s : Int) (h : RdK evTy w A xs.length xs) (hn : UpE xs) (hl : xs.length ≤ 100000) :
  Calls Tryz.prog 154 #[.slice A xs.length c, .agg #[.int .i64 n, .int .i64 s], .func (.func 82) #[] #[]] w fun e w' => ∃ i : Nat, i ≤ xs.length ∧ LoE xs n s i ∧ HiE xs n s i ∧ e = .returned (.tuple #[.int .i64 (i : Int), .bool (inE xs n s)]) ∧ Chg [] w w' := by
 have HX := Lib.hid h
 have HNM := Lib.hid hn
 have HL := Lib.hid hl
 clear h hn hl
 obtain ⟨w1, hw1, c1, b1⟩ := news1 w (.cells #[.int .i64 n, .int .i64 s] 24)
 have W1 := Lib.hid hw1
 have C1 := Lib.hid c1
 have B1 := Lib.hid b1
 clear hw1 c1 b1
 go_enter Tryz.func154, Tryz.ntmps154
 go_upto_region 2 with fail
 rw [← W1.out]
 generalize w.heap.size = g0 at *
 clear W1
 go_wp2
 go_loopw [9, 10] (fun v9 v10 wr => ∃ (i j : Nat), i ≤ j ∧ j ≤ xs.length ∧ v9 = .int .i64 (i : Int) ∧ v10 = .int .i64 (j : Int) ∧ Hid (LoE xs n s i ∧ HiE xs n s j) ∧ Hid (Chg [] w1 wr)) (fun v9 v10 _ => (RowKit.intOf v10).toNat - (RowKit.intOf v9).toNat)
 case atStart => exact ⟨0, xs.length, Nat.zero_le _, Nat.le_refl _, rfl, rfl, Lib.hid ⟨fun p x _ h => absurd h (by omega), fun p x hx h => absurd ((List.getElem?_eq_some_iff.1 hx).1) (by omega)⟩, Chg.refl _ _⟩
 case round =>
  obtain ⟨i, j, hij, hj, rfl, rfl, HI, HC⟩ := hrel
  have i0 : (0 : Int) ≤ (i : Int) := by omega
  have hl := HL.out
  have i1 : IntKind.i64.wrap ((i : Int) + (j : Int)) = ((i + j : Nat) : Int) := by rw [IntWalk.i64_in _ (by omega)]; omega
  by_cases hlt : i < j
  ·
   have i2 : (i : Int) < (j : Int) := by omega
   go_upto_region 5 with fail
   obtain ⟨k, hk⟩ : ∃ k : Nat, k = (i + j) / 2 := ⟨_, rfl⟩
   have e1 : ((i : Int) + (j : Int)) / 2 = (k : Int) := by omega
   rw [e1]
   have hk1 : i ≤ k ∧ k < j := by omega
   clear hk e1 i1 i2
   obtain ⟨x, hx⟩ : ∃ x, xs[k]? = some x := ⟨_, List.getElem?_eq_getElem (by omega)⟩
   have R4 := (HX.out.chg C1.out (by simp)).chg HC.out (by simp)
   obtain ⟨g, o, eA, _⟩ := R4.line (by omega)
   subst eA
   obtain ⟨q0, q1, q2, q3, q4, q5, q6⟩ := evCells R4 hx
   have b4 := HC.out.at_ B1.out (by simp)
   have d0 := cell_of b4 0
   have d1 := cell_of b4 1
   simp only [List.getElem?_toArray, List.getElem?_cons_succ, List.getElem?_cons_zero] at d0 d1
   have k0 : (0 : Int) ≤ (k : Int) := by omega
   have k1 : (k : Int) < (xs.length : Int) := by omega
   have HX5 := Lib.hid hx
   clear R4 b4 hx
   refine wp_region_held_drew (S := fun w' => w'.cell? ⟨g, o + k * 7, none⟩ = some (.int .i64 x.n) ∧ w'.cell? ⟨g, o + k * 7 + 1, none⟩ = some (.int .i64 x.s) ∧ w'.cell? ⟨g, o + k * 7 + 2, none⟩ = some (.string x.p) ∧ w'.cell? ⟨g, o + k * 7 + 3, none⟩ = some (.int .i64 x.k) ∧ w'.cell? ⟨g, o + k * 7 + 4, none⟩ = some (.int .i64 x.m) ∧ w'.cell? ⟨g, o + k * 7 + 5, none⟩ = some (.slice x.A x.l x.c) ∧ w'.cell? ⟨g, o + k * 7 + 6, none⟩ = some (.slice x.B x.bl x.bc) ∧ w'.cell? ⟨g0, 0, none⟩ = some (.int .i64 n) ∧ w'.cell? ⟨g0, 1, none⟩ = some (.int .i64 s)) (by kernel_rfl) ⟨q0, q1, q2, q3, q4, q5, q6, d0, d1⟩ (fun hHeld => ?_)
   have CD := Lib.hid (Chg.refl [] wr).drew
   have HH := Lib.hid (fun (w' : World) (hc : Chg [] wr.drew w') => (⟨(CD.out.trans hc).cell q0 (by simp), (CD.out.trans hc).cell q1 (by simp), (CD.out.trans hc).cell q2 (by simp), (CD.out.trans hc).cell q3 (by simp), (CD.out.trans hc).cell q4 (by simp), (CD.out.trans hc).cell q5 (by simp), (CD.out.trans hc).cell q6 (by simp), (CD.out.trans hc).cell d0 (by simp), (CD.out.trans hc).cell d1 (by simp)⟩ : w'.cell? ⟨g, o + k * 7, none⟩ = some (.int .i64 x.n) ∧ w'.cell? ⟨g, o + k * 7 + 1, none⟩ = some (.int .i64 x.s) ∧ w'.cell? ⟨g, o + k * 7 + 2, none⟩ = some (.string x.p) ∧ w'.cell? ⟨g, o + k * 7 + 3, none⟩ = some (.int .i64 x.k) ∧ w'.cell? ⟨g, o + k * 7 + 4, none⟩ = some (.int .i64 x.m) ∧ w'.cell? ⟨g, o + k * 7 + 5, none⟩ = some (.slice x.A x.l x.c) ∧ w'.cell? ⟨g, o + k * 7 + 6, none⟩ = some (.slice x.B x.bl x.bc) ∧ w'.cell? ⟨g0, 0, none⟩ = some (.int .i64 n) ∧ w'.cell? ⟨g0, 1, none⟩ = some (.int .i64 s)))
   clear q0 q1 q2 q3 q4 q5 q6 d0 d1
   generalize wr.drew = wd at *
   refine sy 0 24 rfl rfl ?_
   try simp only [Act.put, sA, s0, s1]
   refine sy 1 25 rfl rfl ?_
   try simp only [Act.put, sA, s0, s1]
   refine sy 2 26 rfl rfl ?_
   try simp only [Act.put, sA, s0, s1]
   refine sy 3 27 rfl rfl ?_
   try simp only [Act.put, sA, s0, s1]
   refine sy 4 28 rfl rfl ?_ (hy := by (intro w hSw; (try dsimp only at hSw); obtain ⟨q0, q1, q2, q3, q4, q5, q6, q7, q8⟩ := hSw; go_simp; try with_reducible rfl))
   try simp only [Act.put, sA, s0, s1]
   refine sy 5 29 rfl rfl ?_ (hy := by (intro w hSw; (try dsimp only at hSw); obtain ⟨q0, q1, q2, q3, q4, q5, q6, q7, q8⟩ := hSw; go_simp; try with_reducible rfl))
   try simp only [Act.put, sA, s0, s1]
   refine wpAnyH_ready (rs := [6]) (by kernel_rfl) (by simp) ?_
   refine AllReadyH.cons rfl (fun K hK => ?_) AllReadyH.nil
   replace hK := Lib.hid hK
   go_simp
   refine (evbydot_e wd x n s).mono ?_
   rintro r w6 ⟨rfl, h6⟩
   have C6 := Lib.hid h6
   clear h6 hHeld
   refine hK.out _ _ (HH.out w6 C6.out) (fun hHeld => ?_)
   clear hK K
   try simp only [Act.put, sA, s0, s1]
   refine sy 7 31 rfl rfl ?_
   try simp only [Act.put, sA, s0, s1]
   refine wpAnyH_done (by kernel_rfl) ?_ _
   clear hHeld HH
   have CE := Lib.hid (HC.out.trans (CD.out.trans C6.out))
   by_cases hneg : cmpEd x n s < 0
   ·
    have LO := Lib.hid (loE_next HNM.out HX5.out hneg)
    have dn1 : decide (cmpEd x n s < 0) = true := decide_eq_true hneg
    have w1' : IntKind.i64.wrap ((k : Int) + 1) = (k : Int) + 1 := IntWalk.i64_in _ (by omega)
    go_wp2
    go_round
    case rel => exact ⟨k + 1, j, by omega, hj, by go_num, rfl, Lib.hid ⟨LO.out, HI.out.2⟩, CE.out⟩
    case measure => simp [RowKit.intOf]; omega
   ·
    have HIN := Lib.hid (hiE_next HNM.out HX5.out hneg)
    have dn1 : decide (cmpEd x n s < 0) = false := decide_eq_false hneg
    go_wp2
    go_round
    case rel => exact ⟨i, k, by omega, by omega, rfl, rfl, Lib.hid ⟨HI.out.1, HIN.out⟩, CE.out⟩
    case measure => simp [RowKit.intOf]; omega
  ·
   obtain rfl : i = j := by omega
   have i2 : ¬ (i : Int) < (i : Int) := by omega
   by_cases hin : i < xs.length
   ·
    have k1 : (i : Int) < (xs.length : Int) := by omega
    have k2 : decide ((i : Int) < (xs.length : Int)) = true := by simp; omega
    have k3 : decide (i < xs.length) = true := by simp; omega
    obtain ⟨x, hx⟩ : ∃ x, xs[i]? = some x := ⟨_, List.getElem?_eq_getElem hin⟩
    have R4 := (HX.out.chg C1.out (by simp)).chg HC.out (by simp)
    obtain ⟨g, o, eA, _⟩ := R4.line (by omega)
    subst eA
    obtain ⟨q0, q1, q2, q3, q4, q5, q6⟩ := evCells R4 hx
    have b4 := HC.out.at_ B1.out (by simp)
    have d0 := cell_of b4 0
    have d1 := cell_of b4 1
    simp only [List.getElem?_toArray, List.getElem?_cons_succ, List.getElem?_cons_zero] at d0 d1
    have ANS : Hid (inE xs n s = decide (cmpEd x n s = 0)) := Lib.hid (by
     by_cases hz : cmpEd x n s = 0
     ·
      rw [inE_yes hx hz, decide_eq_true hz]
     ·
      rw [inE_no HNM.out HI.out.1 HI.out.2 (fun y hy => by rw [hx] at hy; cases hy; exact hz), decide_eq_false hz])
    clear R4 b4 hx
    go_upto_region 8 with fail
    refine wp_region_held_drew (S := fun w' => w'.cell? ⟨g, o + i * 7, none⟩ = some (.int .i64 x.n) ∧ w'.cell? ⟨g, o + i * 7 + 1, none⟩ = some (.int .i64 x.s) ∧ w'.cell? ⟨g, o + i * 7 + 2, none⟩ = some (.string x.p) ∧ w'.cell? ⟨g, o + i * 7 + 3, none⟩ = some (.int .i64 x.k) ∧ w'.cell? ⟨g, o + i * 7 + 4, none⟩ = some (.int .i64 x.m) ∧ w'.cell? ⟨g, o + i * 7 + 5, none⟩ = some (.slice x.A x.l x.c) ∧ w'.cell? ⟨g, o + i * 7 + 6, none⟩ = some (.slice x.B x.bl x.bc) ∧ w'.cell? ⟨g0, 0, none⟩ = some (.int .i64 n) ∧ w'.cell? ⟨g0, 1, none⟩ = some (.int .i64 s)) (by kernel_rfl) ⟨q0, q1, q2, q3, q4, q5, q6, d0, d1⟩ (fun hHeld => ?_)
    have CD := Lib.hid (Chg.refl [] wr).drew
    have HH := Lib.hid (fun (w' : World) (hc : Chg [] wr.drew w') => (⟨(CD.out.trans hc).cell q0 (by simp), (CD.out.trans hc).cell q1 (by simp), (CD.out.trans hc).cell q2 (by simp), (CD.out.trans hc).cell q3 (by simp), (CD.out.trans hc).cell q4 (by simp), (CD.out.trans hc).cell q5 (by simp), (CD.out.trans hc).cell q6 (by simp), (CD.out.trans hc).cell d0 (by simp), (CD.out.trans hc).cell d1 (by simp)⟩ : w'.cell? ⟨g, o + i * 7, none⟩ = some (.int .i64 x.n) ∧ w'.cell? ⟨g, o + i * 7 + 1, none⟩ = some (.int .i64 x.s) ∧ w'.cell? ⟨g, o + i * 7 + 2, none⟩ = some (.string x.p) ∧ w'.cell? ⟨g, o + i * 7 + 3, none⟩ = some (.int .i64 x.k) ∧ w'.cell? ⟨g, o + i * 7 + 4, none⟩ = some (.int .i64 x.m) ∧ w'.cell? ⟨g, o + i * 7 + 5, none⟩ = some (.slice x.A x.l x.c) ∧ w'.cell? ⟨g, o + i * 7 + 6, none⟩ = some (.slice x.B x.bl x.bc) ∧ w'.cell? ⟨g0, 0, none⟩ = some (.int .i64 n) ∧ w'.cell? ⟨g0, 1, none⟩ = some (.int .i64 s)))
    clear q0 q1 q2 q3 q4 q5 q6 d0 d1 i2
    generalize wr.drew = wd at *
    refine sy 0 35 rfl rfl ?_
    try simp only [Act.put, sA, s0, s1]
    refine sy 1 36 rfl rfl ?_
    try simp only [Act.put, sA, s0, s1]
    refine sy 2 37 rfl rfl ?_
    try simp only [Act.put, sA, s0, s1]
    refine sy 3 38 rfl rfl ?_
    try simp only [Act.put, sA, s0, s1]
    refine sy 4 39 rfl rfl ?_
    try simp only [Act.put, sA, s0, s1]
    refine sy 5 40 rfl rfl ?_
    try simp only [Act.put, sA, s0, s1]
    refine sy 6 41 rfl rfl ?_
    try simp only [Act.put, sA, s0, s1]
    refine sy 7 42 rfl rfl ?_
    try simp only [Act.put, sA, s0, s1]
    refine sy 8 43 rfl rfl ?_
    try simp only [Act.put, sA, s0, s1]
    refine sy 9 44 rfl rfl ?_ (hy := by (intro w hSw; (try dsimp only at hSw); obtain ⟨q0, q1, q2, q3, q4, q5, q6, q7, q8⟩ := hSw; go_simp; try with_reducible rfl))
    try simp only [Act.put, sA, s0, s1]
    refine sy 10 45 rfl rfl ?_ (hy := by (intro w hSw; (try dsimp only at hSw); obtain ⟨q0, q1, q2, q3, q4, q5, q6, q7, q8⟩ := hSw; go_simp; try with_reducible rfl))
    try simp only [Act.put, sA, s0, s1]
    refine wpAnyH_ready (rs := [11]) (by kernel_rfl) (by simp) ?_
    refine AllReadyH.cons rfl (fun K hK => ?_) AllReadyH.nil
    replace hK := Lib.hid hK
    go_simp
    refine (evbydot_e wd x n s).mono ?_
    rintro r w6 ⟨rfl, h6⟩
    have C6 := Lib.hid h6
    clear h6 hHeld
    refine hK.out _ _ (HH.out w6 C6.out) (fun hHeld => ?_)
    clear hK K
    try simp only [Act.put, sA, s0, s1]
    refine sy 12 47 rfl rfl ?_
    try simp only [Act.put, sA, s0, s1]
    refine sy 13 48 rfl rfl ?_
    try simp only [Act.put, sA, s0, s1]
    refine sy 14 6 rfl rfl ?_
    try simp only [Act.put, sA, s0, s1]
    refine sy 15 7 rfl rfl ?_
    try simp only [Act.put, sA, s0, s1]
    refine wpAnyH_done (by kernel_rfl) ?_ _
    clear hHeld HH
    have CE := Lib.hid (C1.out.trans (HC.out.trans (CD.out.trans C6.out)))
    have LH := HI
    by_cases hz : cmpEd x n s = 0
    ·
     have AN : inE xs n s = true := by rw [ANS.out, decide_eq_true hz]
     have dz : ((cmpEd x n s == 0) : Bool) = true := by simpa using hz
     clear ANS hz
     go_wp2
     go_ret2
     (first | exact ⟨i, by omega, LH.out.1, LH.out.2, by rw [AN]; first | rfl | (show Ending.returned (.tuple #[.int .i64 (i : Int), .bool (cmpEd x n s == 0)]) = _; rw [dz]), CE.out⟩ | exact ⟨i, by omega, LH.out.1, LH.out.2, by first | rfl | (rw [AN]; rfl), CE.out⟩ | exact ⟨i, by omega, LH.out.1, LH.out.2, by show Ending.returned (.tuple #[.int .i64 (i : Int), .bool (cmpEd x n s == 0)]) = _; rw [dz], CE.out⟩)
    ·
     have AN : inE xs n s = false := by rw [ANS.out, decide_eq_false hz]
     have dz : ((cmpEd x n s == 0) : Bool) = false := by simpa using hz
     clear ANS hz
     go_wp2
     go_ret2
     (first | exact ⟨i, by omega, LH.out.1, LH.out.2, by rw [AN]; first | rfl | (show Ending.returned (.tuple #[.int .i64 (i : Int), .bool (cmpEd x n s == 0)]) = _; rw [dz]), CE.out⟩ | exact ⟨i, by omega, LH.out.1, LH.out.2, by first | rfl | (rw [AN]; rfl), CE.out⟩ | exact ⟨i, by omega, LH.out.1, LH.out.2, by show Ending.returned (.tuple #[.int .i64 (i : Int), .bool (cmpEd x n s == 0)]) = _; rw [dz], CE.out⟩)
   ·
    have k1 : ¬ (i : Int) < (xs.length : Int) := by omega
    have k2 : decide ((i : Int) < (xs.length : Int)) = false := by simp; omega
    have k3 : decide (i < xs.length) = false := by simp; omega
    have ANS : Hid (inE xs n s = false) := Lib.hid (inE_no HNM.out HI.out.1 HI.out.2 (fun y hy => absurd ((List.getElem?_eq_some_iff.1 hy).1) hin))
    go_upto_region 8 with fail
    refine wp_region_held_drew (S := fun _ => True) (by kernel_rfl) trivial (fun hHeld => ?_)
    have CD := Lib.hid (Chg.refl [] wr).drew
    generalize wr.drew = wd at *
    clear i2
    refine sy 0 35 rfl rfl ?_ (hS := trivial)
    try simp only [Act.put, sA, s0, s1]
    refine sy 1 36 rfl rfl ?_ (hS := trivial)
    try simp only [Act.put, sA, s0, s1]
    refine sy 2 37 rfl rfl ?_ (hS := trivial)
    try simp only [Act.put, sA, s0, s1]
    refine sy 3 38 rfl rfl ?_ (hS := trivial)
    try simp only [Act.put, sA, s0, s1]
    refine sy 4 39 rfl rfl ?_ (hS := trivial)
    try simp only [Act.put, sA, s0, s1]
    refine sn 5 40 rfl rfl ?_ (hS := trivial)
    try simp only [Act.put, sA, s0, s1]
    refine sn 6 41 rfl rfl ?_ (hS := trivial)
    try simp only [Act.put, sA, s0, s1]
    refine sn 7 42 rfl rfl ?_ (hS := trivial)
    try simp only [Act.put, sA, s0, s1]
    refine sn 8 43 rfl rfl ?_ (hS := trivial)
    try simp only [Act.put, sA, s0, s1]
    refine sn 9 44 rfl rfl ?_ (hS := trivial)
    try simp only [Act.put, sA, s0, s1]
    refine sn 10 45 rfl rfl ?_ (hS := trivial)
    try simp only [Act.put, sA, s0, s1]
    refine sn 11 46 rfl rfl ?_ (hS := trivial)
    try simp only [Act.put, sA, s0, s1]
    refine sn 12 47 rfl rfl ?_ (hS := trivial)
    try simp only [Act.put, sA, s0, s1]
    refine sy 13 48 rfl rfl ?_ (hS := trivial)
    try simp only [Act.put, sA, s0, s1]
    refine sy 14 6 rfl rfl ?_ (hS := trivial)
    try simp only [Act.put, sA, s0, s1]
    refine sy 15 7 rfl rfl ?_ (hS := trivial)
    try simp only [Act.put, sA, s0, s1]
    refine wpAnyH_done (by kernel_rfl) ?_ _
    clear hHeld
    have CE := Lib.hid (C1.out.trans (HC.out.trans CD.out))
    have AN := ANS.out
    have LH := HI
    go_wp2
    go_ret2
    (first | exact ⟨i, by omega, LH.out.1, LH.out.2, by rw [AN]; first | rfl | (show Ending.returned (.tuple #[.int .i64 (i : Int), .bool (cmpEd x n s == 0)]) = _; rw [dz]), CE.out⟩ | exact ⟨i, by omega, LH.out.1, LH.out.2, by first | rfl | (rw [AN]; rfl), CE.out⟩ | exact ⟨i, by omega, LH.out.1, LH.out.2, by show Ending.returned (.tuple #[.int .i64 (i : Int), .bool (cmpEd x n s == 0)]) = _; rw [dz], CE.out⟩)
end
section
open Go.RowKit Go.Lib


theorem push_any (w : World) (c : Nat) (z : Sp) (A : Option Addr) (xs : List Sp) (h : OwnK spanTy w A c xs) (hn : xs.length ≤ 100000) (hb : ∀ x ∈ xs, B3 x) : Calls Tryz.prog 94 #[.slice A xs.length c, .agg #[.int .i64 z.1, .int .i64 z.2.1, .int .i64 z.2.2]] w fun e w' => ∃ A' c', e = .returned (.slice A' (pushP xs z).length c') ∧ OwnK spanTy w' A' c' (pushP xs z) ∧ (A' = A ∨ ∀ a, A' = some a → w.heap.size ≤ a.block) ∧ ∀ S : List Nat, (∀ a, A = some a → a.block ∈ S) → Chg S w w' := by
 by_cases h0 : xs.length = 0
 ·
  have e : xs = [] := List.eq_nil_of_length_eq_zero h0
  subst e
  exact push_first w c z.1 z.2.1 z.2.2 A h
 ·
  obtain ⟨y, hy⟩ : ∃ y, xs[xs.length - 1]? = some y := ⟨_, List.getElem?_eq_getElem (by omega)⟩
  have by_ := hb y (List.mem_of_getElem? hy)
  unfold B3 at by_
  by_cases ha : Ap y z
  ·
   refine (push_apart w c z.1 z.2.1 z.2.2 A xs y h (by omega) hn hy (by omega) (by omega) ha).mono ?_
   rintro e w' ⟨A', c', rfl, ho, hA, hc⟩
   rw [push_apart' hy ha]
   exact ⟨A', c', by simp, ho, hA, hc⟩
  ·
   refine (push_touches w c z.1 z.2.1 z.2.2 A xs y h (by omega) hn hy (by omega) (by omega) ha).mono ?_
   rintro e w' ⟨rfl, ho, hc⟩
   rw [push_touch hy ha]
   exact ⟨A, c, by rw [List.length_set], ho, .inl rfl, hc⟩
end
section
open Go.RowKit Go.Lib


set_option maxRecDepth 100000 in
theorem next_none_c (w : World) (g : Nat) (h0 h1 h2 : Value) (B : Option Addr) (c : Nat) (hb : w.heap[g]? = some (.cells #[h0, h1, h2, .slice B 0 c] 220 (0, 0))) :
  Calls Tryz.prog 251 #[.pointer (some ⟨g, 0, none⟩)] w fun e w' => e = .returned (.tuple #[]) ∧ w'.heap[g]? = some (.cells #[.int .i64 201, .int .i64 0, .int .i64 0, .slice B 0 c] 220 (0, 0)) ∧ Chg [g] w w' := by
 have HB := Lib.hid hb
 clear hb
 go_enter Tryz.func251, Tryz.ntmps251
 have z0 := cell_of HB.out 0
 have z1 := cell_of HB.out 1
 have z2 := cell_of HB.out 2
 have z3 := cell_of HB.out 3
 have fz0 := free_of HB.out 0
 have fz1 := free_of HB.out 1
 have fz2 := free_of HB.out 2
 simp only [List.getElem?_toArray, List.getElem?_cons_succ, List.getElem?_cons_zero] at z0 z1 z2 z3
 have p0 := heap_setCell_same w g 0 _ _ (.int .i64 201) HB.out
 have p1 := heap_setCell_same (w.setCell ⟨g, 0, none⟩ (.int .i64 201)) g 1 _ _ (.int .i64 0) p0
 have p2 := heap_setCell_same ((w.setCell ⟨g, 0, none⟩ (.int .i64 201)).setCell ⟨g, 1, none⟩ (.int .i64 0)) g 2 _ _ (.int .i64 0) p1
 simp only [List.setIfInBounds_toArray, List.set_cons_zero, List.set_cons_succ] at p2
 have HP := Lib.hid p2
 have CP := Lib.hid ((((Chg.refl [g] w).setCell (p := ⟨g, 0, none⟩) (.inl (by simp)) (.int .i64 201)).setCell (p := ⟨g, 1, none⟩) (.inl (by simp)) (.int .i64 0)).setCell (p := ⟨g, 2, none⟩) (.inl (by simp)) (.int .i64 0))
 clear p0 p1 p2
 go_wp2
 refine bodyPost_ret (results_none rfl _ _ _) rfl ?_
 exact ⟨rfl, HP.out, CP.out⟩
set_option maxRecDepth 100000 in
set_option maxHeartbeats 4000000 in
theorem next_some_c (w : World) (g : Nat) (h0 h1 h2 : Value) (B : Option Addr) (c : Nat) (x : Sp) (r : List Sp) (hb : w.heap[g]? = some (.cells #[h0, h1, h2, .slice B (r.length + 1) c] 220 (0, 0))) (hr : RdK spanTy w B (r.length + 1) (x :: r)) (hn : r.length + 1 ≤ c ∧ c ≤ maxLen) (hB : ∀ a, B = some a → a.block ≠ g) :
  Calls Tryz.prog 251 #[.pointer (some ⟨g, 0, none⟩)] w fun e w' => e = .returned (.tuple #[]) ∧ ∃ B' c', w'.heap[g]? = some (.cells #[.int .i64 x.1, .int .i64 x.2.1, .int .i64 x.2.2, (.slice B' r.length c')] 220 (0, 0)) ∧ RdK spanTy w' B' r.length r ∧ (r.length ≤ c' ∧ c' ≤ maxLen) ∧ (∀ a, B' = some a → ∃ b, B = some b ∧ a.block = b.block) ∧ Chg [g] w w' := by
 obtain ⟨gB, oB, eB, _⟩ := hr.line (by omega)
 subst eB
 have HR := Lib.hid hr
 have HN := Lib.hid hn
 have NB := Lib.hid (hB ⟨gB, oB, none⟩ rfl)
 obtain ⟨y0, y1, y2⟩ := spanCells hr (j := 0) (x := x) rfl
 rw [Nat.zero_mul, Nat.add_zero] at y0 y1 y2
 have HB := Lib.hid hb
 have Y := Lib.hid (show w.cell? ⟨gB, oB, none⟩ = some (.int .i64 x.1) ∧ w.cell? ⟨gB, oB + 1, none⟩ = some (.int .i64 x.2.1) ∧ w.cell? ⟨gB, oB + 2, none⟩ = some (.int .i64 x.2.2) from ⟨y0, y1, y2⟩)
 clear hb hr hn y0 y1 y2 hB
 have n0 : (((r.length + 1 : Nat) : Int) == 0) = false := by simp; omega
 have n1 : (0 : Int) < ((r.length + 1 : Nat) : Int) := by omega
 have n2 : (1 : Int) ≤ ((r.length + 1 : Nat) : Int) := by omega
 have n3 : ((r.length + 1 : Nat) : Int) ≤ (c : Int) := by have := HN.out; omega
 have n5 : (1 : Int) ≤ (r.length : Int) + 1 := by omega
 have n4 : r.length + 1 - 1 = r.length := by omega
 have HT : Hid (RdK spanTy w (if c = 1 then some ⟨gB, oB, none⟩ else some ⟨gB, oB + 3, none⟩) r.length r) := Lib.hid (by
  split
  ·
   have := HN.out
   have e : r = [] := List.eq_nil_of_length_eq_zero (by omega)
   subst e
   exact RdK.nil _ _
  ·
   have q := HR.out.part 1 r.length (by omega)
   simpa [RowTy.k, spanTy] using q)
 go_enter Tryz.func251, Tryz.ntmps251
 have z3 := cell_of HB.out 3
 simp only [List.getElem?_toArray, List.getElem?_cons_succ, List.getElem?_cons_zero] at z3
 go_upto_region 2 with fail
 clear z3
 refine wp_region_held_drew (S := fun _ => True) (by kernel_rfl) trivial (fun hHeld => ?_)
 have CD := Lib.hid (Chg.refl [g] w).drew
 replace HB := Lib.hid (show w.drew.heap[g]? = some _ from HB.out)
 replace Y := Lib.hid (show w.drew.cell? ⟨gB, oB, none⟩ = some (.int .i64 x.1) ∧ w.drew.cell? ⟨gB, oB + 1, none⟩ = some (.int .i64 x.2.1) ∧ w.drew.cell? ⟨gB, oB + 2, none⟩ = some (.int .i64 x.2.2) from Y.out)
 replace HT := Lib.hid (show RdK spanTy w.drew _ r.length r from HT.out.chg (Chg.refl [] w).drew (by simp))
 generalize w.drew = wd at *
 generalize hAD : (if c = 1 then some ⟨gB, oB, none⟩ else some ⟨gB, oB + 3, none⟩ : Option Addr) = AD at *
 have AB : Hid (∀ a, AD = some a → a.block = gB) := Lib.hid (by intro a ha; rw [← hAD] at ha; split at ha <;> cases ha <;> rfl)
 refine sy 0 12 rfl rfl ?_ (hS := trivial)
 try simp only [Act.put, sA, s0, s1]
 refine sy 1 13 rfl rfl ?_ (hS := trivial)
 try simp only [Act.put, sA, s0, s1]
 refine sy 2 14 rfl rfl ?_ (hS := trivial)
 try simp only [Act.put, sA, s0, s1]
 refine sy 3 15 rfl rfl ?_ (hS := trivial)
 try simp only [Act.put, sA, s0, s1]
 refine sy 4 16 rfl rfl ?_ (hS := trivial)
 try simp only [Act.put, sA, s0, s1]
 refine sy 8 20 rfl rfl ?_ (hS := trivial)
 try simp only [Act.put, sA, s0, s1]
 refine sy 9 21 rfl rfl ?_ (hS := trivial)
 try simp only [Act.put, sA, s0, s1]
 refine sy 10 22 rfl rfl ?_ (hS := trivial)
 try simp only [Act.put, sA, s0, s1]
 refine wpAnyH_ready (rs := [5, 11]) (by kernel_rfl) (by simp) ?_
 refine AllReadyH.cons rfl (fun K hK => ?_) (AllReadyH.cons rfl (fun K hK => ?_) AllReadyH.nil)
 ·
  skip
  replace hK := Lib.hid hK
  have z3 := cell_of HB.out 3
  simp only [List.getElem?_toArray, List.getElem?_cons_succ, List.getElem?_cons_zero] at z3
  go_simp
  clear z3 hHeld
  refine hK.out _ _ trivial (fun hHeld => ?_)
  clear hK K
  try simp only [Act.put, sA, s0, s1]
  refine sy 6 18 rfl rfl ?_ (hS := trivial)
  try simp only [Act.put, sA, s0, s1]
  refine wpAnyH_ready (rs := [7, 11]) (by kernel_rfl) (by simp) ?_
  refine AllReadyH.cons rfl (fun K hK => ?_) (AllReadyH.cons rfl (fun K hK => ?_) AllReadyH.nil)
  ·
   skip
   replace hK := Lib.hid hK
   obtain ⟨y0, y1, y2⟩ := Y.out
   go_simp
   clear y0 y1 y2 hHeld
   refine hK.out _ _ trivial (fun hHeld => ?_)
   clear hK K
   try simp only [Act.put, sA, s0, s1]
   refine wpAnyH_ready (rs := [11]) (by kernel_rfl) (by simp) ?_
   refine AllReadyH.cons rfl (fun K hK => ?_) AllReadyH.nil
   replace hK := Lib.hid hK
   have z3 := cell_of HB.out 3
   simp only [List.getElem?_toArray, List.getElem?_cons_succ, List.getElem?_cons_zero] at z3
   go_simp
   clear z3 hHeld
   refine hK.out _ _ trivial (fun hHeld => ?_)
   clear hK K
   try simp only [Act.put, sA, s0, s1]
   refine sy 12 24 rfl rfl ?_ (hS := trivial)
   try simp only [Act.put, sA, s0, s1]
   refine sy 13 25 rfl rfl ?_ (hS := trivial)
   try simp only [Act.put, sA, s0, s1]
   refine sy 14 26 rfl rfl ?_ (hS := trivial)
   try simp only [Act.put, sA, s0, s1]
   refine wpAnyH_ready (rs := [15]) (by kernel_rfl) (by simp) ?_
   refine AllReadyH.cons rfl (fun K hK => ?_) AllReadyH.nil
   replace hK := Lib.hid hK
   have z0 := cell_of HB.out 0
   have z1 := cell_of HB.out 1
   have z2 := cell_of HB.out 2
   have fz0 := free_of HB.out 0
   have fz1 := free_of HB.out 1
   have fz2 := free_of HB.out 2
   simp only [List.getElem?_toArray, List.getElem?_cons_succ, List.getElem?_cons_zero] at z0 z1 z2
   have p0 := heap_setCell_same wd g 0 _ _ (.int .i64 x.1) HB.out
   have p1 := heap_setCell_same (wd.setCell ⟨g, 0, none⟩ (.int .i64 x.1)) g 1 _ _ (.int .i64 x.2.1) p0
   have p2 := heap_setCell_same ((wd.setCell ⟨g, 0, none⟩ (.int .i64 x.1)).setCell ⟨g, 1, none⟩ (.int .i64 x.2.1)) g 2 _ _ (.int .i64 x.2.2) p1
   simp only [List.setIfInBounds_toArray, List.set_cons_zero, List.set_cons_succ] at p2
   have HP := Lib.hid p2
   clear p0 p1 p2
   go_simp
   clear hHeld z0 fz0 z1 fz1 z2 fz2
   refine hK.out _ _ trivial (fun hHeld => ?_)
   clear hK K
   try simp only [Act.put, sA, s0, s1]
   refine sy 16 27 rfl rfl ?_ (hS := trivial)
   try simp only [Act.put, sA, s0, s1]
   refine sy 17 28 rfl rfl ?_ (hS := trivial)
   try simp only [Act.put, sA, s0, s1]
   refine wpAnyH_ready (rs := [18]) (by kernel_rfl) (by simp) ?_
   refine AllReadyH.cons rfl (fun K hK => ?_) AllReadyH.nil
   replace hK := Lib.hid hK
   have z3 := cell_of HP.out 3
   have fz3 := free_of HP.out 3
   simp only [List.getElem?_toArray, List.getElem?_cons_succ, List.getElem?_cons_zero] at z3
   go_simp
   clear hHeld z3 fz3
   refine hK.out _ _ trivial (fun hHeld => ?_)
   clear hK K
   try simp only [Act.put, sA, s0, s1]
   refine wpAnyH_done (by kernel_rfl) ?_ _
   have HQ := heap_setCell_same _ g 3 _ _ (.slice AD r.length (c - 1)) HP.out
   simp only [List.setIfInBounds_toArray, List.set_cons_zero, List.set_cons_succ] at HQ
   have CQ := Lib.hid (((((Chg.refl [g] wd).setCell (p := ⟨g, 0, none⟩) (.inl (by simp)) (.int .i64 x.1)).setCell (p := ⟨g, 1, none⟩) (.inl (by simp)) (.int .i64 x.2.1)).setCell (p := ⟨g, 2, none⟩) (.inl (by simp)) (.int .i64 x.2.2)).setCell (p := ⟨g, 3, none⟩) (.inl (by simp)) (.slice AD r.length (c - 1)))
   have HQ2 := Lib.hid HQ
   clear HQ
   go_wp2
   go_end0
   exact ⟨rfl, AD, c - 1, HQ2.out, HT.out.chg CQ.out (fun a ha => by rw [AB.out a ha]; simpa using NB.out), by have := HN.out; omega, fun a ha => by (first | exact ⟨_, rfl, AB.out a ha⟩ | exact AB.out a ha | simpa using AB.out a ha), CD.out.trans CQ.out⟩
  ·
   skip
   replace hK := Lib.hid hK
   have z3 := cell_of HB.out 3
   simp only [List.getElem?_toArray, List.getElem?_cons_succ, List.getElem?_cons_zero] at z3
   go_simp
   clear z3 hHeld
   refine hK.out _ _ trivial (fun hHeld => ?_)
   clear hK K
   try simp only [Act.put, sA, s0, s1]
   refine sy 12 24 rfl rfl ?_ (hS := trivial)
   try simp only [Act.put, sA, s0, s1]
   refine wpAnyH_ready (rs := [7]) (by kernel_rfl) (by simp) ?_
   refine AllReadyH.cons rfl (fun K hK => ?_) AllReadyH.nil
   replace hK := Lib.hid hK
   obtain ⟨y0, y1, y2⟩ := Y.out
   go_simp
   clear y0 y1 y2 hHeld
   refine hK.out _ _ trivial (fun hHeld => ?_)
   clear hK K
   try simp only [Act.put, sA, s0, s1]
   refine sy 13 25 rfl rfl ?_ (hS := trivial)
   try simp only [Act.put, sA, s0, s1]
   refine sy 14 26 rfl rfl ?_ (hS := trivial)
   try simp only [Act.put, sA, s0, s1]
   refine wpAnyH_ready (rs := [15]) (by kernel_rfl) (by simp) ?_
   refine AllReadyH.cons rfl (fun K hK => ?_) AllReadyH.nil
   replace hK := Lib.hid hK
   have z0 := cell_of HB.out 0
   have z1 := cell_of HB.out 1
   have z2 := cell_of HB.out 2
   have fz0 := free_of HB.out 0
   have fz1 := free_of HB.out 1
   have fz2 := free_of HB.out 2
   simp only [List.getElem?_toArray, List.getElem?_cons_succ, List.getElem?_cons_zero] at z0 z1 z2
   have p0 := heap_setCell_same wd g 0 _ _ (.int .i64 x.1) HB.out
   have p1 := heap_setCell_same (wd.setCell ⟨g, 0, none⟩ (.int .i64 x.1)) g 1 _ _ (.int .i64 x.2.1) p0
   have p2 := heap_setCell_same ((wd.setCell ⟨g, 0, none⟩ (.int .i64 x.1)).setCell ⟨g, 1, none⟩ (.int .i64 x.2.1)) g 2 _ _ (.int .i64 x.2.2) p1
   simp only [List.setIfInBounds_toArray, List.set_cons_zero, List.set_cons_succ] at p2
   have HP := Lib.hid p2
   clear p0 p1 p2
   go_simp
   clear hHeld z0 fz0 z1 fz1 z2 fz2
   refine hK.out _ _ trivial (fun hHeld => ?_)
   clear hK K
   try simp only [Act.put, sA, s0, s1]
   refine sy 16 27 rfl rfl ?_ (hS := trivial)
   try simp only [Act.put, sA, s0, s1]
   refine sy 17 28 rfl rfl ?_ (hS := trivial)
   try simp only [Act.put, sA, s0, s1]
   refine wpAnyH_ready (rs := [18]) (by kernel_rfl) (by simp) ?_
   refine AllReadyH.cons rfl (fun K hK => ?_) AllReadyH.nil
   replace hK := Lib.hid hK
   have z3 := cell_of HP.out 3
   have fz3 := free_of HP.out 3
   simp only [List.getElem?_toArray, List.getElem?_cons_succ, List.getElem?_cons_zero] at z3
   go_simp
   clear hHeld z3 fz3
   refine hK.out _ _ trivial (fun hHeld => ?_)
   clear hK K
   try simp only [Act.put, sA, s0, s1]
   refine wpAnyH_done (by kernel_rfl) ?_ _
   have HQ := heap_setCell_same _ g 3 _ _ (.slice AD r.length (c - 1)) HP.out
   simp only [List.setIfInBounds_toArray, List.set_cons_zero, List.set_cons_succ] at HQ
   have CQ := Lib.hid (((((Chg.refl [g] wd).setCell (p := ⟨g, 0, none⟩) (.inl (by simp)) (.int .i64 x.1)).setCell (p := ⟨g, 1, none⟩) (.inl (by simp)) (.int .i64 x.2.1)).setCell (p := ⟨g, 2, none⟩) (.inl (by simp)) (.int .i64 x.2.2)).setCell (p := ⟨g, 3, none⟩) (.inl (by simp)) (.slice AD r.length (c - 1)))
   have HQ2 := Lib.hid HQ
   clear HQ
   go_wp2
   go_end0
   exact ⟨rfl, AD, c - 1, HQ2.out, HT.out.chg CQ.out (fun a ha => by rw [AB.out a ha]; simpa using NB.out), by have := HN.out; omega, fun a ha => by (first | exact ⟨_, rfl, AB.out a ha⟩ | exact AB.out a ha | simpa using AB.out a ha), CD.out.trans CQ.out⟩
 ·
  skip
  replace hK := Lib.hid hK
  have z3 := cell_of HB.out 3
  simp only [List.getElem?_toArray, List.getElem?_cons_succ, List.getElem?_cons_zero] at z3
  go_simp
  clear z3 hHeld
  refine hK.out _ _ trivial (fun hHeld => ?_)
  clear hK K
  try simp only [Act.put, sA, s0, s1]
  refine sy 12 24 rfl rfl ?_ (hS := trivial)
  try simp only [Act.put, sA, s0, s1]
  refine wpAnyH_ready (rs := [5]) (by kernel_rfl) (by simp) ?_
  refine AllReadyH.cons rfl (fun K hK => ?_) AllReadyH.nil
  replace hK := Lib.hid hK
  have z3 := cell_of HB.out 3
  simp only [List.getElem?_toArray, List.getElem?_cons_succ, List.getElem?_cons_zero] at z3
  go_simp
  clear z3 hHeld
  refine hK.out _ _ trivial (fun hHeld => ?_)
  clear hK K
  try simp only [Act.put, sA, s0, s1]
  refine sy 6 18 rfl rfl ?_ (hS := trivial)
  try simp only [Act.put, sA, s0, s1]
  refine wpAnyH_ready (rs := [7]) (by kernel_rfl) (by simp) ?_
  refine AllReadyH.cons rfl (fun K hK => ?_) AllReadyH.nil
  replace hK := Lib.hid hK
  obtain ⟨y0, y1, y2⟩ := Y.out
  go_simp
  clear y0 y1 y2 hHeld
  refine hK.out _ _ trivial (fun hHeld => ?_)
  clear hK K
  try simp only [Act.put, sA, s0, s1]
  refine sy 13 25 rfl rfl ?_ (hS := trivial)
  try simp only [Act.put, sA, s0, s1]
  refine sy 14 26 rfl rfl ?_ (hS := trivial)
  try simp only [Act.put, sA, s0, s1]
  refine wpAnyH_ready (rs := [15]) (by kernel_rfl) (by simp) ?_
  refine AllReadyH.cons rfl (fun K hK => ?_) AllReadyH.nil
  replace hK := Lib.hid hK
  have z0 := cell_of HB.out 0
  have z1 := cell_of HB.out 1
  have z2 := cell_of HB.out 2
  have fz0 := free_of HB.out 0
  have fz1 := free_of HB.out 1
  have fz2 := free_of HB.out 2
  simp only [List.getElem?_toArray, List.getElem?_cons_succ, List.getElem?_cons_zero] at z0 z1 z2
  have p0 := heap_setCell_same wd g 0 _ _ (.int .i64 x.1) HB.out
  have p1 := heap_setCell_same (wd.setCell ⟨g, 0, none⟩ (.int .i64 x.1)) g 1 _ _ (.int .i64 x.2.1) p0
  have p2 := heap_setCell_same ((wd.setCell ⟨g, 0, none⟩ (.int .i64 x.1)).setCell ⟨g, 1, none⟩ (.int .i64 x.2.1)) g 2 _ _ (.int .i64 x.2.2) p1
  simp only [List.setIfInBounds_toArray, List.set_cons_zero, List.set_cons_succ] at p2
  have HP := Lib.hid p2
  clear p0 p1 p2
  go_simp
  clear hHeld z0 fz0 z1 fz1 z2 fz2
  refine hK.out _ _ trivial (fun hHeld => ?_)
  clear hK K
  try simp only [Act.put, sA, s0, s1]
  refine sy 16 27 rfl rfl ?_ (hS := trivial)
  try simp only [Act.put, sA, s0, s1]
  refine sy 17 28 rfl rfl ?_ (hS := trivial)
  try simp only [Act.put, sA, s0, s1]
  refine wpAnyH_ready (rs := [18]) (by kernel_rfl) (by simp) ?_
  refine AllReadyH.cons rfl (fun K hK => ?_) AllReadyH.nil
  replace hK := Lib.hid hK
  have z3 := cell_of HP.out 3
  have fz3 := free_of HP.out 3
  simp only [List.getElem?_toArray, List.getElem?_cons_succ, List.getElem?_cons_zero] at z3
  go_simp
  clear hHeld z3 fz3
  refine hK.out _ _ trivial (fun hHeld => ?_)
  clear hK K
  try simp only [Act.put, sA, s0, s1]
  refine wpAnyH_done (by kernel_rfl) ?_ _
  have HQ := heap_setCell_same _ g 3 _ _ (.slice AD r.length (c - 1)) HP.out
  simp only [List.setIfInBounds_toArray, List.set_cons_zero, List.set_cons_succ] at HQ
  have CQ := Lib.hid (((((Chg.refl [g] wd).setCell (p := ⟨g, 0, none⟩) (.inl (by simp)) (.int .i64 x.1)).setCell (p := ⟨g, 1, none⟩) (.inl (by simp)) (.int .i64 x.2.1)).setCell (p := ⟨g, 2, none⟩) (.inl (by simp)) (.int .i64 x.2.2)).setCell (p := ⟨g, 3, none⟩) (.inl (by simp)) (.slice AD r.length (c - 1)))
  have HQ2 := Lib.hid HQ
  clear HQ
  go_wp2
  go_end0
  exact ⟨rfl, AD, c - 1, HQ2.out, HT.out.chg CQ.out (fun a ha => by rw [AB.out a ha]; simpa using NB.out), by have := HN.out; omega, fun a ha => by (first | exact ⟨_, rfl, AB.out a ha⟩ | exact AB.out a ha | simpa using AB.out a ha), CD.out.trans CQ.out⟩
end
section
open Go.RowKit Go.Lib


set_option maxRecDepth 100000 in
set_option maxHeartbeats 4000000 in
theorem begin_anyw (w : World) (B : Option Addr) (c : Nat) (l : List Sp) (hr : RdK spanTy w B l.length l) (hn : l.length ≤ c ∧ c ≤ maxLen) (hold : l = [] ∨ ∀ a, B = some a → a.block < w.heap.size) :
  Calls Tryz.prog 231 #[.slice B l.length c] w fun e w' => ∃ B' c', e = .returned (.agg #[.int .i64 (hdP l).1, .int .i64 (hdP l).2.1, .int .i64 (hdP l).2.2, .slice B' l.tail.length c']) ∧ RdK spanTy w' B' l.tail.length l.tail ∧ (l.tail.length ≤ c' ∧ c' ≤ maxLen) ∧ (∀ a, B' = some a → ∃ b, B = some b ∧ a.block = b.block) ∧ Chg [] w w' := by
 have HR := Lib.hid hr
 have HN := Lib.hid hn
 clear hr hn
 obtain ⟨w1, hw1, c1, b1, b2⟩ := news2 w (.cells #[.int .i64 0, .int .i64 0, .int .i64 0, .slice none 0 0] 220) (.cells #[.int .i64 0, .int .i64 0, .int .i64 0, .slice B l.length c] 220)
 have W1 := Lib.hid hw1
 have C1 := Lib.hid c1
 have B1 := Lib.hid b1
 have B2 := Lib.hid b2
 have L1 := Lib.hid (lt_of_heap b2)
 replace HR := Lib.hid (HR.out.chg c1 (by simp))
 have OLD := Lib.hid hold
 clear hw1 c1 b1 b2 hold
 go_enter Tryz.func231, Tryz.ntmps231
 go_wp2_with fail
 rw [← W1.out]
 have S1 : Hid (w.heap.size + 1 < w1.heap.size) := L1
 generalize hg0 : w.heap.size = g0 at *
 clear W1 L1
 have key : Calls Tryz.prog 251 #[.pointer (some ⟨g0 + 1, 0, none⟩)] w1 fun e w' => e = .returned (.tuple #[]) ∧ ∃ B' c', w'.heap[g0 + 1]? = some (.cells #[.int .i64 (hdP l).1, .int .i64 (hdP l).2.1, .int .i64 (hdP l).2.2, .slice B' l.tail.length c'] 220 (0, 0)) ∧ RdK spanTy w' B' l.tail.length l.tail ∧ (l.tail.length ≤ c' ∧ c' ≤ maxLen) ∧ (∀ a, B' = some a → ∃ b, B = some b ∧ a.block = b.block) ∧ Chg [g0 + 1] w1 w' := by
  cases l with
  | nil =>
   refine (next_none_c w1 (g0 + 1) _ _ _ B c B2.out).mono ?_
   rintro e w' ⟨rfl, h1, h2⟩
   exact ⟨rfl, B, c, h1, RdK.nil _ _, ⟨Nat.zero_le _, HN.out.2⟩, fun a ha => ⟨a, ha, rfl⟩, h2⟩
  | cons x r =>
   refine (next_some_c w1 (g0 + 1) _ _ _ B c x r B2.out HR.out HN.out (fun a ha => by have := OLD.out.resolve_left (by simp) a ha; omega)).mono ?_
   rintro e w' ⟨rfl, B2, c2, h1, h2, h3, h4, h5⟩
   exact ⟨rfl, B2, c2, h1, h2, h3, h4, h5⟩
 refine key.mono ?_
 rintro e w2 ⟨rfl, B', c', h1, h2, h3, h4, h5⟩
 have HB := Lib.hid h1
 have HQ := Lib.hid h2
 have H3 := Lib.hid h3
 have H4 := Lib.hid h4
 have C2 := Lib.hid h5
 replace B1 := Lib.hid (h5.at_ B1.out (by simp))
 clear h1 h2 h3 h4 h5 key
 generalize hhd : hdP l = hd at *
 generalize htl : l.tail = tl at *
 have HHD := Lib.hid hhd
 have HTL := Lib.hid htl
 clear hhd htl
 have y0 := cell_of HB.out 0
 have y1 := cell_of HB.out 1
 have y2 := cell_of HB.out 2
 have y3 := cell_of HB.out 3
 simp only [List.getElem?_toArray, List.getElem?_cons_succ, List.getElem?_cons_zero] at y0 y1 y2 y3
 have z0 := cell_of B1.out 0
 have z1 := cell_of B1.out 1
 have z2 := cell_of B1.out 2
 have z3 := cell_of B1.out 3
 have fz0 := free_of B1.out 0
 have fz1 := free_of B1.out 1
 have fz2 := free_of B1.out 2
 have fz3 := free_of B1.out 3
 simp only [List.getElem?_toArray, List.getElem?_cons_succ, List.getElem?_cons_zero] at z0 z1 z2 z3
 generalize hg1 : g0 + 1 = g1 at *
 have p0 := heap_setCell_same w2 g0 0 _ _ (.int .i64 hd.1) B1.out
 have p1 := heap_setCell_same (w2.setCell ⟨g0, 0, none⟩ (.int .i64 hd.1)) g0 1 _ _ (.int .i64 hd.2.1) p0
 have p2 := heap_setCell_same ((w2.setCell ⟨g0, 0, none⟩ (.int .i64 hd.1)).setCell ⟨g0, 1, none⟩ (.int .i64 hd.2.1)) g0 2 _ _ (.int .i64 hd.2.2) p1
 have p3 := heap_setCell_same (((w2.setCell ⟨g0, 0, none⟩ (.int .i64 hd.1)).setCell ⟨g0, 1, none⟩ (.int .i64 hd.2.1)).setCell ⟨g0, 2, none⟩ (.int .i64 hd.2.2)) g0 3 _ _ ((.slice B' tl.length c')) p2
 simp only [List.setIfInBounds_toArray, List.set_cons_zero, List.set_cons_succ] at p3
 have HP := Lib.hid p3
 have CP := Lib.hid (((((Chg.refl [g0] w2).setCell (p := ⟨g0, 0, none⟩) (.inl (by simp)) (.int .i64 hd.1)).setCell (p := ⟨g0, 1, none⟩) (.inl (by simp)) (.int .i64 hd.2.1)).setCell (p := ⟨g0, 2, none⟩) (.inl (by simp)) (.int .i64 hd.2.2)).setCell (p := ⟨g0, 3, none⟩) (.inl (by simp)) ((.slice B' tl.length c')))
 clear p0 p1 p2 p3
 go_wp2
 generalize ((((w2.setCell ⟨g0, 0, none⟩ (.int .i64 hd.1)).setCell ⟨g0, 1, none⟩ (.int .i64 hd.2.1)).setCell ⟨g0, 2, none⟩ (.int .i64 hd.2.2)).setCell ⟨g0, 3, none⟩ ((.slice B' tl.length c'))) = wf at *
 have q0 := cell_of HP.out 0
 have q1 := cell_of HP.out 1
 have q2 := cell_of HP.out 2
 have q3 := cell_of HP.out 3
 simp only [List.getElem?_toArray, List.getElem?_cons_succ, List.getElem?_cons_zero] at q0 q1 q2 q3
 refine bodyPost_ret (v := .agg #[.int .i64 hd.1, .int .i64 hd.2.1, .int .i64 hd.2.2, .slice B' tl.length c']) (by simp [results, Tryz.results231, go_sem, q0, q1, q2, q3]) rfl ?_
 have e1 := HHD.out
 have e2 := HTL.out
 subst e1
 subst e2
 refine ⟨B', c', rfl, (by
  rcases OLD.out with q | q
  ·
   subst q; exact RdK.nil _ _
  ·
   exact HQ.out.chg CP.out (fun a ha => by obtain ⟨b, hb, e⟩ := H4.out a ha; have := q b hb; simp; omega)), H3.out, H4.out, ?_⟩
 exact (C1.out.trans' C2.out (fun z hz => by simp at hz; subst hz; exact .inr (by omega))).trans' CP.out (fun z hz => by simp at hz; subst hz; exact .inr (by omega))
end
section
open Go.RowKit Go.Lib


structure SwQ (w : World) (g : Nat) (X : List Nat) (la lb : List Sp) (K : Nat) (A : Option Addr) (c : Nat) (B : Option Addr) (d : Nat) : Prop where
 hg : w.heap[g]? = some (.cells #[.int .i64 (hdP la).1, .int .i64 (hdP la).2.1, .int .i64 (hdP la).2.2, .slice A la.tail.length c, .int .i64 (hdP lb).1, .int .i64 (hdP lb).2.1, .int .i64 (hdP lb).2.2, .slice B lb.tail.length d, .func (.func K) #[] #[]] 223 (0, 0))
 ra : RdK spanTy w A la.tail.length la.tail
 ca : la.tail.length ≤ c ∧ c ≤ maxLen
 na : la = [] ∨ ∀ a, A = some a → a.block ∈ X
 rb : RdK spanTy w B lb.tail.length lb.tail
 cb : lb.tail.length ≤ d ∧ d ≤ maxLen
 nb : lb = [] ∨ ∀ a, B = some a → a.block ∈ X
 gx : g ∉ X
def SwP (w : World) (g : Nat) (X : List Nat) (la lb : List Sp) (K : Nat) : Prop := ∃ A c B d, SwQ w g X la lb K A c B d
theorem rd_old {w w' : World} {A : Option Addr} {l : List Sp} (h : RdK spanTy w A l.tail.length l.tail) (k : l = [] ∨ RdK spanTy w' A l.tail.length l.tail) : RdK spanTy w' A l.tail.length l.tail := by
 rcases k with rfl | k
 ·
  exact RdK.nil _ _
 ·
  exact k
theorem SwQ.rachg {w w' : World} {g : Nat} {X : List Nat} {la lb : List Sp} {K : Nat} {A : Option Addr} {c : Nat} {B : Option Addr} {d : Nat} (h : SwQ w g X la lb K A c B d) (hc : Chg [g] w w') : RdK spanTy w' A la.tail.length la.tail :=
 rd_old h.ra (h.na.imp id (fun q => h.ra.chg hc (fun a ha hm => by simp at hm; exact h.gx (hm ▸ q a ha))))
theorem SwQ.rbchg {w w' : World} {g : Nat} {X : List Nat} {la lb : List Sp} {K : Nat} {A : Option Addr} {c : Nat} {B : Option Addr} {d : Nat} (h : SwQ w g X la lb K A c B d) (hc : Chg [g] w w') : RdK spanTy w' B lb.tail.length lb.tail :=
 rd_old h.rb (h.nb.imp id (fun q => h.rb.chg hc (fun a ha hm => by simp at hm; exact h.gx (hm ▸ q a ha))))
theorem SwQ.chg {w w' : World} {S : List Nat} {g : Nat} {X : List Nat} {la lb : List Sp} {K : Nat} {A : Option Addr} {c : Nat} {B : Option Addr} {d : Nat} (h : SwQ w g X la lb K A c B d) (hc : Chg S w w') (hg : g ∉ S) (hX : ∀ z ∈ X, z ∉ S) : SwQ w' g X la lb K A c B d :=
 ⟨hc.at_ h.hg hg, rd_old h.ra (h.na.imp id (fun q => h.ra.chg hc (fun a ha => hX _ (q a ha)))), h.ca, h.na, rd_old h.rb (h.nb.imp id (fun q => h.rb.chg hc (fun a ha => hX _ (q a ha)))), h.cb, h.nb, h.gx⟩
theorem SwP.chg {w w' : World} {S : List Nat} {g : Nat} {X : List Nat} {la lb : List Sp} {K : Nat} (h : SwP w g X la lb K) (hc : Chg S w w') (hg : g ∉ S) (hX : ∀ z ∈ X, z ∉ S) : SwP w' g X la lb K := by
 obtain ⟨A, c, B, d, h⟩ := h
 exact ⟨A, c, B, d, h.chg hc hg hX⟩
theorem join3 {α β γ : Type} {F R : α → β → γ → Prop} {G : Prop} (h1 : (∀ a b c, F a b c → R a b c) → G) (h2 : ∀ a b c, F a b c → R a b c) : G := h1 h2
set_option maxRecDepth 100000 in
set_option maxHeartbeats 4000000 in
theorem over_anyw (w : World) (A : Option Addr) (c : Nat) (la : List Sp) (B : Option Addr) (d : Nat) (lb : List Sp) (K : Nat) (X : List Nat) (ha : RdK spanTy w A la.length la) (hca : la.length ≤ c ∧ c ≤ maxLen) (hoa : la = [] ∨ ∀ a, A = some a → a.block < w.heap.size) (hb : RdK spanTy w B lb.length lb) (hcb : lb.length ≤ d ∧ d ≤ maxLen) (hob : lb = [] ∨ ∀ a, B = some a → a.block < w.heap.size) (hxa : la = [] ∨ ∀ a, A = some a → a.block ∈ X) (hxb : lb = [] ∨ ∀ a, B = some a → a.block ∈ X) (hX : ∀ z ∈ X, z < w.heap.size) :
  Calls Tryz.prog 206 #[.slice A la.length c, .slice B lb.length d, .func (.func K) #[] #[]] w fun e w' => ∃ g, e = .returned (.pointer (some ⟨g, 0, none⟩)) ∧ SwP w' g X la lb K ∧ w.heap.size ≤ g ∧ Chg [] w w' := by
 have HA := Lib.hid ha
 have HCA := Lib.hid hca
 have HOA := Lib.hid hoa
 have HB := Lib.hid hb
 have HCB := Lib.hid hcb
 have HOB := Lib.hid hob
 clear ha hca hoa hb hcb hob
 go_enter Tryz.func206, Tryz.ntmps206
 go_wp2_with fail
 refine (begin_anyw w A c la HA.out HCA.out HOA.out).mono ?_
 rintro r w1 ⟨A', c', rfl, h1, h2, h3, h4⟩
 have H1 := Lib.hid h1
 have H2 := Lib.hid h2
 have H3 := Lib.hid h3
 have C1 := Lib.hid h4
 clear h1 h2 h3 h4
 go_wp2_with fail
 refine (begin_anyw w1 B d lb (HB.out.chg C1.out (by simp)) HCB.out (HOB.out.imp id (fun q a ha => Nat.lt_of_lt_of_le (q a ha) C1.out.size))).mono ?_
 rintro r w2 ⟨B', d', rfl, h1, h2, h3, h4⟩
 have H4 := Lib.hid h1
 have H5 := Lib.hid h2
 have H6 := Lib.hid h3
 have C2 := Lib.hid h4
 clear h1 h2 h3 h4
 obtain ⟨w3, hw3, c3, b3⟩ := news1 w2 (.cells #[.int .i64 (hdP la).1, .int .i64 (hdP la).2.1, .int .i64 (hdP la).2.2, .slice A' (la.length - 1) c', .int .i64 (hdP lb).1, .int .i64 (hdP lb).2.1, .int .i64 (hdP lb).2.2, .slice B' (lb.length - 1) d', .func (.func K) #[] #[]] 223)
 have W3 := Lib.hid hw3
 have C3 := Lib.hid (C1.out.trans (C2.out.trans c3))
 have FI : Hid (SwP w3 w2.heap.size X la lb K) := Lib.hid ⟨A', c', B', d', by rw [List.length_tail, List.length_tail]; exact b3, (H1.out.chg C2.out (by simp)).chg c3 (by simp), H2.out, hxa.imp id (fun q a ha => by obtain ⟨b, hb, e⟩ := H3.out a ha; rw [e]; exact q b hb), H4.out.chg c3 (by simp), H5.out, hxb.imp id (fun q a ha => by obtain ⟨b, hb, e⟩ := H6.out a ha; rw [e]; exact q b hb), fun hm => by have := hX _ hm; have := C1.out.size; have := C2.out.size; omega⟩
 have SZ := Lib.hid (show w.heap.size ≤ w2.heap.size from Nat.le_trans C1.out.size C2.out.size)
 clear hw3 c3 b3
 go_wp2
 rw [← W3.out]
 go_ret
 exact ⟨_, rfl, FI.out, SZ.out, C3.out⟩
end
section
open Go.RowKit Go.Lib


set_option maxRecDepth 100000 in
theorem next_none_a (w : World) (g : Nat) (v0 v1 v2 v3 vk : Value) (h0 h1 h2 : Value) (B : Option Addr) (c : Nat) (hb : w.heap[g]? = some (.cells #[h0, h1, h2, .slice B 0 c, v0, v1, v2, v3, vk] 223 (0, 0))) :
  Calls Tryz.prog 251 #[.pointer (some ⟨g, 0, none⟩)] w fun e w' => e = .returned (.tuple #[]) ∧ w'.heap[g]? = some (.cells #[.int .i64 201, .int .i64 0, .int .i64 0, .slice B 0 c, v0, v1, v2, v3, vk] 223 (0, 0)) ∧ Chg [g] w w' := by
 have HB := Lib.hid hb
 clear hb
 go_enter Tryz.func251, Tryz.ntmps251
 have z0 := cell_of HB.out 0
 have z1 := cell_of HB.out 1
 have z2 := cell_of HB.out 2
 have z3 := cell_of HB.out 3
 have fz0 := free_of HB.out 0
 have fz1 := free_of HB.out 1
 have fz2 := free_of HB.out 2
 simp only [List.getElem?_toArray, List.getElem?_cons_succ, List.getElem?_cons_zero] at z0 z1 z2 z3
 have p0 := heap_setCell_same w g 0 _ _ (.int .i64 201) HB.out
 have p1 := heap_setCell_same (w.setCell ⟨g, 0, none⟩ (.int .i64 201)) g 1 _ _ (.int .i64 0) p0
 have p2 := heap_setCell_same ((w.setCell ⟨g, 0, none⟩ (.int .i64 201)).setCell ⟨g, 1, none⟩ (.int .i64 0)) g 2 _ _ (.int .i64 0) p1
 simp only [List.setIfInBounds_toArray, List.set_cons_zero, List.set_cons_succ] at p2
 have HP := Lib.hid p2
 have CP := Lib.hid ((((Chg.refl [g] w).setCell (p := ⟨g, 0, none⟩) (.inl (by simp)) (.int .i64 201)).setCell (p := ⟨g, 1, none⟩) (.inl (by simp)) (.int .i64 0)).setCell (p := ⟨g, 2, none⟩) (.inl (by simp)) (.int .i64 0))
 clear p0 p1 p2
 go_wp2
 refine bodyPost_ret (results_none rfl _ _ _) rfl ?_
 exact ⟨rfl, HP.out, CP.out⟩
set_option maxRecDepth 100000 in
set_option maxHeartbeats 4000000 in
theorem next_some_a (w : World) (g : Nat) (v0 v1 v2 v3 vk : Value) (h0 h1 h2 : Value) (B : Option Addr) (c : Nat) (x : Sp) (r : List Sp) (hb : w.heap[g]? = some (.cells #[h0, h1, h2, .slice B (r.length + 1) c, v0, v1, v2, v3, vk] 223 (0, 0))) (hr : RdK spanTy w B (r.length + 1) (x :: r)) (hn : r.length + 1 ≤ c ∧ c ≤ maxLen) (hB : ∀ a, B = some a → a.block ≠ g) :
  Calls Tryz.prog 251 #[.pointer (some ⟨g, 0, none⟩)] w fun e w' => e = .returned (.tuple #[]) ∧ ∃ B' c', w'.heap[g]? = some (.cells #[.int .i64 x.1, .int .i64 x.2.1, .int .i64 x.2.2, (.slice B' r.length c'), v0, v1, v2, v3, vk] 223 (0, 0)) ∧ RdK spanTy w' B' r.length r ∧ (r.length ≤ c' ∧ c' ≤ maxLen) ∧ (∀ a, B' = some a → ∃ b, B = some b ∧ a.block = b.block) ∧ Chg [g] w w' := by
 obtain ⟨gB, oB, eB, _⟩ := hr.line (by omega)
 subst eB
 have HR := Lib.hid hr
 have HN := Lib.hid hn
 have NB := Lib.hid (hB ⟨gB, oB, none⟩ rfl)
 obtain ⟨y0, y1, y2⟩ := spanCells hr (j := 0) (x := x) rfl
 rw [Nat.zero_mul, Nat.add_zero] at y0 y1 y2
 have HB := Lib.hid hb
 have Y := Lib.hid (show w.cell? ⟨gB, oB, none⟩ = some (.int .i64 x.1) ∧ w.cell? ⟨gB, oB + 1, none⟩ = some (.int .i64 x.2.1) ∧ w.cell? ⟨gB, oB + 2, none⟩ = some (.int .i64 x.2.2) from ⟨y0, y1, y2⟩)
 clear hb hr hn y0 y1 y2 hB
 have n0 : (((r.length + 1 : Nat) : Int) == 0) = false := by simp; omega
 have n1 : (0 : Int) < ((r.length + 1 : Nat) : Int) := by omega
 have n2 : (1 : Int) ≤ ((r.length + 1 : Nat) : Int) := by omega
 have n3 : ((r.length + 1 : Nat) : Int) ≤ (c : Int) := by have := HN.out; omega
 have n5 : (1 : Int) ≤ (r.length : Int) + 1 := by omega
 have n4 : r.length + 1 - 1 = r.length := by omega
 have HT : Hid (RdK spanTy w (if c = 1 then some ⟨gB, oB, none⟩ else some ⟨gB, oB + 3, none⟩) r.length r) := Lib.hid (by
  split
  ·
   have := HN.out
   have e : r = [] := List.eq_nil_of_length_eq_zero (by omega)
   subst e
   exact RdK.nil _ _
  ·
   have q := HR.out.part 1 r.length (by omega)
   simpa [RowTy.k, spanTy] using q)
 go_enter Tryz.func251, Tryz.ntmps251
 have z3 := cell_of HB.out 3
 simp only [List.getElem?_toArray, List.getElem?_cons_succ, List.getElem?_cons_zero] at z3
 go_upto_region 2 with fail
 clear z3
 refine wp_region_held_drew (S := fun _ => True) (by kernel_rfl) trivial (fun hHeld => ?_)
 have CD := Lib.hid (Chg.refl [g] w).drew
 replace HB := Lib.hid (show w.drew.heap[g]? = some _ from HB.out)
 replace Y := Lib.hid (show w.drew.cell? ⟨gB, oB, none⟩ = some (.int .i64 x.1) ∧ w.drew.cell? ⟨gB, oB + 1, none⟩ = some (.int .i64 x.2.1) ∧ w.drew.cell? ⟨gB, oB + 2, none⟩ = some (.int .i64 x.2.2) from Y.out)
 replace HT := Lib.hid (show RdK spanTy w.drew _ r.length r from HT.out.chg (Chg.refl [] w).drew (by simp))
 generalize w.drew = wd at *
 generalize hAD : (if c = 1 then some ⟨gB, oB, none⟩ else some ⟨gB, oB + 3, none⟩ : Option Addr) = AD at *
 have AB : Hid (∀ a, AD = some a → a.block = gB) := Lib.hid (by intro a ha; rw [← hAD] at ha; split at ha <;> cases ha <;> rfl)
 refine sy 0 12 rfl rfl ?_ (hS := trivial)
 try simp only [Act.put, sA, s0, s1]
 refine sy 1 13 rfl rfl ?_ (hS := trivial)
 try simp only [Act.put, sA, s0, s1]
 refine sy 2 14 rfl rfl ?_ (hS := trivial)
 try simp only [Act.put, sA, s0, s1]
 refine sy 3 15 rfl rfl ?_ (hS := trivial)
 try simp only [Act.put, sA, s0, s1]
 refine sy 4 16 rfl rfl ?_ (hS := trivial)
 try simp only [Act.put, sA, s0, s1]
 refine sy 8 20 rfl rfl ?_ (hS := trivial)
 try simp only [Act.put, sA, s0, s1]
 refine sy 9 21 rfl rfl ?_ (hS := trivial)
 try simp only [Act.put, sA, s0, s1]
 refine sy 10 22 rfl rfl ?_ (hS := trivial)
 try simp only [Act.put, sA, s0, s1]
 refine wpAnyH_ready (rs := [5, 11]) (by kernel_rfl) (by simp) ?_
 refine AllReadyH.cons rfl (fun K hK => ?_) (AllReadyH.cons rfl (fun K hK => ?_) AllReadyH.nil)
 ·
  skip
  replace hK := Lib.hid hK
  have z3 := cell_of HB.out 3
  simp only [List.getElem?_toArray, List.getElem?_cons_succ, List.getElem?_cons_zero] at z3
  go_simp
  clear z3 hHeld
  refine hK.out _ _ trivial (fun hHeld => ?_)
  clear hK K
  try simp only [Act.put, sA, s0, s1]
  refine sy 6 18 rfl rfl ?_ (hS := trivial)
  try simp only [Act.put, sA, s0, s1]
  refine wpAnyH_ready (rs := [7, 11]) (by kernel_rfl) (by simp) ?_
  refine AllReadyH.cons rfl (fun K hK => ?_) (AllReadyH.cons rfl (fun K hK => ?_) AllReadyH.nil)
  ·
   skip
   replace hK := Lib.hid hK
   obtain ⟨y0, y1, y2⟩ := Y.out
   go_simp
   clear y0 y1 y2 hHeld
   refine hK.out _ _ trivial (fun hHeld => ?_)
   clear hK K
   try simp only [Act.put, sA, s0, s1]
   refine wpAnyH_ready (rs := [11]) (by kernel_rfl) (by simp) ?_
   refine AllReadyH.cons rfl (fun K hK => ?_) AllReadyH.nil
   replace hK := Lib.hid hK
   have z3 := cell_of HB.out 3
   simp only [List.getElem?_toArray, List.getElem?_cons_succ, List.getElem?_cons_zero] at z3
   go_simp
   clear z3 hHeld
   refine hK.out _ _ trivial (fun hHeld => ?_)
   clear hK K
   try simp only [Act.put, sA, s0, s1]
   refine sy 12 24 rfl rfl ?_ (hS := trivial)
   try simp only [Act.put, sA, s0, s1]
   refine sy 13 25 rfl rfl ?_ (hS := trivial)
   try simp only [Act.put, sA, s0, s1]
   refine sy 14 26 rfl rfl ?_ (hS := trivial)
   try simp only [Act.put, sA, s0, s1]
   refine wpAnyH_ready (rs := [15]) (by kernel_rfl) (by simp) ?_
   refine AllReadyH.cons rfl (fun K hK => ?_) AllReadyH.nil
   replace hK := Lib.hid hK
   have z0 := cell_of HB.out 0
   have z1 := cell_of HB.out 1
   have z2 := cell_of HB.out 2
   have fz0 := free_of HB.out 0
   have fz1 := free_of HB.out 1
   have fz2 := free_of HB.out 2
   simp only [List.getElem?_toArray, List.getElem?_cons_succ, List.getElem?_cons_zero] at z0 z1 z2
   have p0 := heap_setCell_same wd g 0 _ _ (.int .i64 x.1) HB.out
   have p1 := heap_setCell_same (wd.setCell ⟨g, 0, none⟩ (.int .i64 x.1)) g 1 _ _ (.int .i64 x.2.1) p0
   have p2 := heap_setCell_same ((wd.setCell ⟨g, 0, none⟩ (.int .i64 x.1)).setCell ⟨g, 1, none⟩ (.int .i64 x.2.1)) g 2 _ _ (.int .i64 x.2.2) p1
   simp only [List.setIfInBounds_toArray, List.set_cons_zero, List.set_cons_succ] at p2
   have HP := Lib.hid p2
   clear p0 p1 p2
   go_simp
   clear hHeld z0 fz0 z1 fz1 z2 fz2
   refine hK.out _ _ trivial (fun hHeld => ?_)
   clear hK K
   try simp only [Act.put, sA, s0, s1]
   refine sy 16 27 rfl rfl ?_ (hS := trivial)
   try simp only [Act.put, sA, s0, s1]
   refine sy 17 28 rfl rfl ?_ (hS := trivial)
   try simp only [Act.put, sA, s0, s1]
   refine wpAnyH_ready (rs := [18]) (by kernel_rfl) (by simp) ?_
   refine AllReadyH.cons rfl (fun K hK => ?_) AllReadyH.nil
   replace hK := Lib.hid hK
   have z3 := cell_of HP.out 3
   have fz3 := free_of HP.out 3
   simp only [List.getElem?_toArray, List.getElem?_cons_succ, List.getElem?_cons_zero] at z3
   go_simp
   clear hHeld z3 fz3
   refine hK.out _ _ trivial (fun hHeld => ?_)
   clear hK K
   try simp only [Act.put, sA, s0, s1]
   refine wpAnyH_done (by kernel_rfl) ?_ _
   have HQ := heap_setCell_same _ g 3 _ _ (.slice AD r.length (c - 1)) HP.out
   simp only [List.setIfInBounds_toArray, List.set_cons_zero, List.set_cons_succ] at HQ
   have CQ := Lib.hid (((((Chg.refl [g] wd).setCell (p := ⟨g, 0, none⟩) (.inl (by simp)) (.int .i64 x.1)).setCell (p := ⟨g, 1, none⟩) (.inl (by simp)) (.int .i64 x.2.1)).setCell (p := ⟨g, 2, none⟩) (.inl (by simp)) (.int .i64 x.2.2)).setCell (p := ⟨g, 3, none⟩) (.inl (by simp)) (.slice AD r.length (c - 1)))
   have HQ2 := Lib.hid HQ
   clear HQ
   go_wp2
   go_end0
   exact ⟨rfl, AD, c - 1, HQ2.out, HT.out.chg CQ.out (fun a ha => by rw [AB.out a ha]; simpa using NB.out), by have := HN.out; omega, fun a ha => by (first | exact ⟨_, rfl, AB.out a ha⟩ | exact AB.out a ha | simpa using AB.out a ha), CD.out.trans CQ.out⟩
  ·
   skip
   replace hK := Lib.hid hK
   have z3 := cell_of HB.out 3
   simp only [List.getElem?_toArray, List.getElem?_cons_succ, List.getElem?_cons_zero] at z3
   go_simp
   clear z3 hHeld
   refine hK.out _ _ trivial (fun hHeld => ?_)
   clear hK K
   try simp only [Act.put, sA, s0, s1]
   refine sy 12 24 rfl rfl ?_ (hS := trivial)
   try simp only [Act.put, sA, s0, s1]
   refine wpAnyH_ready (rs := [7]) (by kernel_rfl) (by simp) ?_
   refine AllReadyH.cons rfl (fun K hK => ?_) AllReadyH.nil
   replace hK := Lib.hid hK
   obtain ⟨y0, y1, y2⟩ := Y.out
   go_simp
   clear y0 y1 y2 hHeld
   refine hK.out _ _ trivial (fun hHeld => ?_)
   clear hK K
   try simp only [Act.put, sA, s0, s1]
   refine sy 13 25 rfl rfl ?_ (hS := trivial)
   try simp only [Act.put, sA, s0, s1]
   refine sy 14 26 rfl rfl ?_ (hS := trivial)
   try simp only [Act.put, sA, s0, s1]
   refine wpAnyH_ready (rs := [15]) (by kernel_rfl) (by simp) ?_
   refine AllReadyH.cons rfl (fun K hK => ?_) AllReadyH.nil
   replace hK := Lib.hid hK
   have z0 := cell_of HB.out 0
   have z1 := cell_of HB.out 1
   have z2 := cell_of HB.out 2
   have fz0 := free_of HB.out 0
   have fz1 := free_of HB.out 1
   have fz2 := free_of HB.out 2
   simp only [List.getElem?_toArray, List.getElem?_cons_succ, List.getElem?_cons_zero] at z0 z1 z2
   have p0 := heap_setCell_same wd g 0 _ _ (.int .i64 x.1) HB.out
   have p1 := heap_setCell_same (wd.setCell ⟨g, 0, none⟩ (.int .i64 x.1)) g 1 _ _ (.int .i64 x.2.1) p0
   have p2 := heap_setCell_same ((wd.setCell ⟨g, 0, none⟩ (.int .i64 x.1)).setCell ⟨g, 1, none⟩ (.int .i64 x.2.1)) g 2 _ _ (.int .i64 x.2.2) p1
   simp only [List.setIfInBounds_toArray, List.set_cons_zero, List.set_cons_succ] at p2
   have HP := Lib.hid p2
   clear p0 p1 p2
   go_simp
   clear hHeld z0 fz0 z1 fz1 z2 fz2
   refine hK.out _ _ trivial (fun hHeld => ?_)
   clear hK K
   try simp only [Act.put, sA, s0, s1]
   refine sy 16 27 rfl rfl ?_ (hS := trivial)
   try simp only [Act.put, sA, s0, s1]
   refine sy 17 28 rfl rfl ?_ (hS := trivial)
   try simp only [Act.put, sA, s0, s1]
   refine wpAnyH_ready (rs := [18]) (by kernel_rfl) (by simp) ?_
   refine AllReadyH.cons rfl (fun K hK => ?_) AllReadyH.nil
   replace hK := Lib.hid hK
   have z3 := cell_of HP.out 3
   have fz3 := free_of HP.out 3
   simp only [List.getElem?_toArray, List.getElem?_cons_succ, List.getElem?_cons_zero] at z3
   go_simp
   clear hHeld z3 fz3
   refine hK.out _ _ trivial (fun hHeld => ?_)
   clear hK K
   try simp only [Act.put, sA, s0, s1]
   refine wpAnyH_done (by kernel_rfl) ?_ _
   have HQ := heap_setCell_same _ g 3 _ _ (.slice AD r.length (c - 1)) HP.out
   simp only [List.setIfInBounds_toArray, List.set_cons_zero, List.set_cons_succ] at HQ
   have CQ := Lib.hid (((((Chg.refl [g] wd).setCell (p := ⟨g, 0, none⟩) (.inl (by simp)) (.int .i64 x.1)).setCell (p := ⟨g, 1, none⟩) (.inl (by simp)) (.int .i64 x.2.1)).setCell (p := ⟨g, 2, none⟩) (.inl (by simp)) (.int .i64 x.2.2)).setCell (p := ⟨g, 3, none⟩) (.inl (by simp)) (.slice AD r.length (c - 1)))
   have HQ2 := Lib.hid HQ
   clear HQ
   go_wp2
   go_end0
   exact ⟨rfl, AD, c - 1, HQ2.out, HT.out.chg CQ.out (fun a ha => by rw [AB.out a ha]; simpa using NB.out), by have := HN.out; omega, fun a ha => by (first | exact ⟨_, rfl, AB.out a ha⟩ | exact AB.out a ha | simpa using AB.out a ha), CD.out.trans CQ.out⟩
 ·
  skip
  replace hK := Lib.hid hK
  have z3 := cell_of HB.out 3
  simp only [List.getElem?_toArray, List.getElem?_cons_succ, List.getElem?_cons_zero] at z3
  go_simp
  clear z3 hHeld
  refine hK.out _ _ trivial (fun hHeld => ?_)
  clear hK K
  try simp only [Act.put, sA, s0, s1]
  refine sy 12 24 rfl rfl ?_ (hS := trivial)
  try simp only [Act.put, sA, s0, s1]
  refine wpAnyH_ready (rs := [5]) (by kernel_rfl) (by simp) ?_
  refine AllReadyH.cons rfl (fun K hK => ?_) AllReadyH.nil
  replace hK := Lib.hid hK
  have z3 := cell_of HB.out 3
  simp only [List.getElem?_toArray, List.getElem?_cons_succ, List.getElem?_cons_zero] at z3
  go_simp
  clear z3 hHeld
  refine hK.out _ _ trivial (fun hHeld => ?_)
  clear hK K
  try simp only [Act.put, sA, s0, s1]
  refine sy 6 18 rfl rfl ?_ (hS := trivial)
  try simp only [Act.put, sA, s0, s1]
  refine wpAnyH_ready (rs := [7]) (by kernel_rfl) (by simp) ?_
  refine AllReadyH.cons rfl (fun K hK => ?_) AllReadyH.nil
  replace hK := Lib.hid hK
  obtain ⟨y0, y1, y2⟩ := Y.out
  go_simp
  clear y0 y1 y2 hHeld
  refine hK.out _ _ trivial (fun hHeld => ?_)
  clear hK K
  try simp only [Act.put, sA, s0, s1]
  refine sy 13 25 rfl rfl ?_ (hS := trivial)
  try simp only [Act.put, sA, s0, s1]
  refine sy 14 26 rfl rfl ?_ (hS := trivial)
  try simp only [Act.put, sA, s0, s1]
  refine wpAnyH_ready (rs := [15]) (by kernel_rfl) (by simp) ?_
  refine AllReadyH.cons rfl (fun K hK => ?_) AllReadyH.nil
  replace hK := Lib.hid hK
  have z0 := cell_of HB.out 0
  have z1 := cell_of HB.out 1
  have z2 := cell_of HB.out 2
  have fz0 := free_of HB.out 0
  have fz1 := free_of HB.out 1
  have fz2 := free_of HB.out 2
  simp only [List.getElem?_toArray, List.getElem?_cons_succ, List.getElem?_cons_zero] at z0 z1 z2
  have p0 := heap_setCell_same wd g 0 _ _ (.int .i64 x.1) HB.out
  have p1 := heap_setCell_same (wd.setCell ⟨g, 0, none⟩ (.int .i64 x.1)) g 1 _ _ (.int .i64 x.2.1) p0
  have p2 := heap_setCell_same ((wd.setCell ⟨g, 0, none⟩ (.int .i64 x.1)).setCell ⟨g, 1, none⟩ (.int .i64 x.2.1)) g 2 _ _ (.int .i64 x.2.2) p1
  simp only [List.setIfInBounds_toArray, List.set_cons_zero, List.set_cons_succ] at p2
  have HP := Lib.hid p2
  clear p0 p1 p2
  go_simp
  clear hHeld z0 fz0 z1 fz1 z2 fz2
  refine hK.out _ _ trivial (fun hHeld => ?_)
  clear hK K
  try simp only [Act.put, sA, s0, s1]
  refine sy 16 27 rfl rfl ?_ (hS := trivial)
  try simp only [Act.put, sA, s0, s1]
  refine sy 17 28 rfl rfl ?_ (hS := trivial)
  try simp only [Act.put, sA, s0, s1]
  refine wpAnyH_ready (rs := [18]) (by kernel_rfl) (by simp) ?_
  refine AllReadyH.cons rfl (fun K hK => ?_) AllReadyH.nil
  replace hK := Lib.hid hK
  have z3 := cell_of HP.out 3
  have fz3 := free_of HP.out 3
  simp only [List.getElem?_toArray, List.getElem?_cons_succ, List.getElem?_cons_zero] at z3
  go_simp
  clear hHeld z3 fz3
  refine hK.out _ _ trivial (fun hHeld => ?_)
  clear hK K
  try simp only [Act.put, sA, s0, s1]
  refine wpAnyH_done (by kernel_rfl) ?_ _
  have HQ := heap_setCell_same _ g 3 _ _ (.slice AD r.length (c - 1)) HP.out
  simp only [List.setIfInBounds_toArray, List.set_cons_zero, List.set_cons_succ] at HQ
  have CQ := Lib.hid (((((Chg.refl [g] wd).setCell (p := ⟨g, 0, none⟩) (.inl (by simp)) (.int .i64 x.1)).setCell (p := ⟨g, 1, none⟩) (.inl (by simp)) (.int .i64 x.2.1)).setCell (p := ⟨g, 2, none⟩) (.inl (by simp)) (.int .i64 x.2.2)).setCell (p := ⟨g, 3, none⟩) (.inl (by simp)) (.slice AD r.length (c - 1)))
  have HQ2 := Lib.hid HQ
  clear HQ
  go_wp2
  go_end0
  exact ⟨rfl, AD, c - 1, HQ2.out, HT.out.chg CQ.out (fun a ha => by rw [AB.out a ha]; simpa using NB.out), by have := HN.out; omega, fun a ha => by (first | exact ⟨_, rfl, AB.out a ha⟩ | exact AB.out a ha | simpa using AB.out a ha), CD.out.trans CQ.out⟩
end
section
open Go.RowKit Go.Lib


set_option maxRecDepth 100000 in
set_option maxHeartbeats 4000000 in
theorem pass_a (w : World) (g : Nat) (v0 v1 v2 v3 vk : Value) (B : Option Addr) (c : Nat) (x : Sp) (r : List Sp) (tt : Int) (hto : 0 ≤ tt ∧ tt ≤ 2147483647) (hb : w.heap[g]? = some (.cells #[.int .i64 x.1, .int .i64 x.2.1, .int .i64 x.2.2, .slice B r.length c, v0, v1, v2, v3, vk] 223 (0, 0))) (hr : RdK spanTy w B r.length r) (hn : r.length ≤ c ∧ c ≤ maxLen) (hB : ∀ a, B = some a → a.block ≠ g) :
  Calls Tryz.prog 253 #[.pointer (some ⟨g, 0, none⟩), .int .i64 tt] w fun e w' => e = .returned (.tuple #[]) ∧ ∃ B' c', w'.heap[g]? = some (.cells #[.int .i64 (hdP (passP (x :: r) tt)).1, .int .i64 (hdP (passP (x :: r) tt)).2.1, .int .i64 (hdP (passP (x :: r) tt)).2.2, .slice B' (passP (x :: r) tt).tail.length c', v0, v1, v2, v3, vk] 223 (0, 0)) ∧ RdK spanTy w' B' (passP (x :: r) tt).tail.length (passP (x :: r) tt).tail ∧ ((passP (x :: r) tt).tail.length ≤ c' ∧ c' ≤ maxLen) ∧ (∀ a, B' = some a → ∃ b, B = some b ∧ a.block = b.block) ∧ Chg [g] w w' := by
 have HB := Lib.hid hb
 have HR := Lib.hid hr
 have HN := Lib.hid hn
 have NB := Lib.hid hB
 clear hb hr hn hB
 have e1 : IntKind.i64.wrap (tt + 1) = tt + 1 := IntWalk.i64_in _ (by omega)
 by_cases hlt : tt < x.2.2
 ·
  have hp : passP (x :: r) tt = (x.1, tt + 1, x.2.2) :: r := by unfold passP; simp only; rw [if_pos hlt]
  rw [hp]
  simp only [hd_cons, List.tail_cons]
  have HLT := hlt
  clear hp
  go_enter Tryz.func253, Tryz.ntmps253
  have z0 := cell_of HB.out 0
  have z1 := cell_of HB.out 1
  have z2 := cell_of HB.out 2
  have z3 := cell_of HB.out 3
  have fz1 := free_of HB.out 1
  simp only [List.getElem?_toArray, List.getElem?_cons_succ, List.getElem?_cons_zero] at z0 z1 z2 z3
  have HQ := heap_setCell_same w g 1 _ _ (.int .i64 (tt + 1)) HB.out
  simp only [List.setIfInBounds_toArray, List.set_cons_zero, List.set_cons_succ] at HQ
  have HP := Lib.hid HQ
  have CP := Lib.hid ((Chg.refl [g] w).setCell (p := ⟨g, 1, none⟩) (.inl (by simp)) (.int .i64 (tt + 1)))
  clear HQ
  go_wp2
  refine bodyPost_ret (results_none rfl _ _ _) rfl ?_
  exact ⟨rfl, B, c, HP.out, HR.out.chg CP.out (fun a ha => by simpa using NB.out a ha), HN.out, fun a ha => ⟨a, ha, rfl⟩, CP.out⟩
 ·
  have hp : passP (x :: r) tt = r := by unfold passP; simp only; rw [if_neg hlt]
  rw [hp]
  clear hp
  cases r with
  | nil =>
   go_enter Tryz.func253, Tryz.ntmps253
   have z0 := cell_of HB.out 0
   have z1 := cell_of HB.out 1
   have z2 := cell_of HB.out 2
   have z3 := cell_of HB.out 3
   simp only [List.getElem?_toArray, List.getElem?_cons_succ, List.getElem?_cons_zero] at z0 z1 z2 z3
   go_wp2_with fail
   clear z0 z1 z2 z3
   refine (next_none_a w g v0 v1 v2 v3 vk _ _ _ B c HB.out).mono ?_
   rintro e w' ⟨rfl, h1, h2⟩
   have HP := Lib.hid h1
   have CP := Lib.hid h2
   clear h1 h2
   go_wp2
   go_end0
   exact ⟨rfl, B, c, HP.out, RdK.nil _ _, ⟨Nat.zero_le _, HN.out.2⟩, fun a ha => ⟨a, ha, rfl⟩, CP.out⟩
  | cons y r2 =>
   go_enter Tryz.func253, Tryz.ntmps253
   have z0 := cell_of HB.out 0
   have z1 := cell_of HB.out 1
   have z2 := cell_of HB.out 2
   have z3 := cell_of HB.out 3
   simp only [List.getElem?_toArray, List.getElem?_cons_succ, List.getElem?_cons_zero] at z0 z1 z2 z3
   go_wp2_with fail
   clear z0 z1 z2 z3
   refine (next_some_a w g v0 v1 v2 v3 vk _ _ _ B c y r2 HB.out HR.out HN.out NB.out).mono ?_
   rintro e w' ⟨rfl, B2, c2, h1, h2, h3, h4, h5⟩
   have HP := Lib.hid h1
   have CP := Lib.hid h5
   have H2 := Lib.hid h2
   have H3 := Lib.hid h3
   have H4 := Lib.hid h4
   clear h1 h2 h3 h4 h5
   go_wp2
   go_end0
   exact ⟨rfl, B2, c2, HP.out, H2.out, H3.out, H4.out, CP.out⟩
end
section
open Go.RowKit Go.Lib


set_option maxRecDepth 100000 in
theorem next_none_b (w : World) (g : Nat) (v0 v1 v2 v3 vk : Value) (h0 h1 h2 : Value) (B : Option Addr) (c : Nat) (hb : w.heap[g]? = some (.cells #[v0, v1, v2, v3, h0, h1, h2, .slice B 0 c, vk] 223 (0, 0))) :
  Calls Tryz.prog 251 #[.pointer (some ⟨g, 4, none⟩)] w fun e w' => e = .returned (.tuple #[]) ∧ w'.heap[g]? = some (.cells #[v0, v1, v2, v3, .int .i64 201, .int .i64 0, .int .i64 0, .slice B 0 c, vk] 223 (0, 0)) ∧ Chg [g] w w' := by
 have HB := Lib.hid hb
 clear hb
 go_enter Tryz.func251, Tryz.ntmps251
 have z4 := cell_of HB.out 4
 have z5 := cell_of HB.out 5
 have z6 := cell_of HB.out 6
 have z7 := cell_of HB.out 7
 have fz4 := free_of HB.out 4
 have fz5 := free_of HB.out 5
 have fz6 := free_of HB.out 6
 simp only [List.getElem?_toArray, List.getElem?_cons_succ, List.getElem?_cons_zero] at z4 z5 z6 z7
 have p0 := heap_setCell_same w g 4 _ _ (.int .i64 201) HB.out
 have p1 := heap_setCell_same (w.setCell ⟨g, 4, none⟩ (.int .i64 201)) g 5 _ _ (.int .i64 0) p0
 have p2 := heap_setCell_same ((w.setCell ⟨g, 4, none⟩ (.int .i64 201)).setCell ⟨g, 5, none⟩ (.int .i64 0)) g 6 _ _ (.int .i64 0) p1
 simp only [List.setIfInBounds_toArray, List.set_cons_zero, List.set_cons_succ] at p2
 have HP := Lib.hid p2
 have CP := Lib.hid ((((Chg.refl [g] w).setCell (p := ⟨g, 4, none⟩) (.inl (by simp)) (.int .i64 201)).setCell (p := ⟨g, 5, none⟩) (.inl (by simp)) (.int .i64 0)).setCell (p := ⟨g, 6, none⟩) (.inl (by simp)) (.int .i64 0))
 clear p0 p1 p2
 go_wp2
 refine bodyPost_ret (results_none rfl _ _ _) rfl ?_
 exact ⟨rfl, HP.out, CP.out⟩
set_option maxRecDepth 100000 in
set_option maxHeartbeats 4000000 in
theorem next_some_b (w : World) (g : Nat) (v0 v1 v2 v3 vk : Value) (h0 h1 h2 : Value) (B : Option Addr) (c : Nat) (x : Sp) (r : List Sp) (hb : w.heap[g]? = some (.cells #[v0, v1, v2, v3, h0, h1, h2, .slice B (r.length + 1) c, vk] 223 (0, 0))) (hr : RdK spanTy w B (r.length + 1) (x :: r)) (hn : r.length + 1 ≤ c ∧ c ≤ maxLen) (hB : ∀ a, B = some a → a.block ≠ g) :
  Calls Tryz.prog 251 #[.pointer (some ⟨g, 4, none⟩)] w fun e w' => e = .returned (.tuple #[]) ∧ ∃ B' c', w'.heap[g]? = some (.cells #[v0, v1, v2, v3, .int .i64 x.1, .int .i64 x.2.1, .int .i64 x.2.2, (.slice B' r.length c'), vk] 223 (0, 0)) ∧ RdK spanTy w' B' r.length r ∧ (r.length ≤ c' ∧ c' ≤ maxLen) ∧ (∀ a, B' = some a → ∃ b, B = some b ∧ a.block = b.block) ∧ Chg [g] w w' := by
 obtain ⟨gB, oB, eB, _⟩ := hr.line (by omega)
 subst eB
 have HR := Lib.hid hr
 have HN := Lib.hid hn
 have NB := Lib.hid (hB ⟨gB, oB, none⟩ rfl)
 obtain ⟨y0, y1, y2⟩ := spanCells hr (j := 0) (x := x) rfl
 rw [Nat.zero_mul, Nat.add_zero] at y0 y1 y2
 have HB := Lib.hid hb
 have Y := Lib.hid (show w.cell? ⟨gB, oB, none⟩ = some (.int .i64 x.1) ∧ w.cell? ⟨gB, oB + 1, none⟩ = some (.int .i64 x.2.1) ∧ w.cell? ⟨gB, oB + 2, none⟩ = some (.int .i64 x.2.2) from ⟨y0, y1, y2⟩)
 clear hb hr hn y0 y1 y2 hB
 have n0 : (((r.length + 1 : Nat) : Int) == 0) = false := by simp; omega
 have n1 : (0 : Int) < ((r.length + 1 : Nat) : Int) := by omega
 have n2 : (1 : Int) ≤ ((r.length + 1 : Nat) : Int) := by omega
 have n3 : ((r.length + 1 : Nat) : Int) ≤ (c : Int) := by have := HN.out; omega
 have n5 : (1 : Int) ≤ (r.length : Int) + 1 := by omega
 have n4 : r.length + 1 - 1 = r.length := by omega
 have HT : Hid (RdK spanTy w (if c = 1 then some ⟨gB, oB, none⟩ else some ⟨gB, oB + 3, none⟩) r.length r) := Lib.hid (by
  split
  ·
   have := HN.out
   have e : r = [] := List.eq_nil_of_length_eq_zero (by omega)
   subst e
   exact RdK.nil _ _
  ·
   have q := HR.out.part 1 r.length (by omega)
   simpa [RowTy.k, spanTy] using q)
 go_enter Tryz.func251, Tryz.ntmps251
 have z7 := cell_of HB.out 7
 simp only [List.getElem?_toArray, List.getElem?_cons_succ, List.getElem?_cons_zero] at z7
 go_upto_region 2 with fail
 clear z7
 refine wp_region_held_drew (S := fun _ => True) (by kernel_rfl) trivial (fun hHeld => ?_)
 have CD := Lib.hid (Chg.refl [g] w).drew
 replace HB := Lib.hid (show w.drew.heap[g]? = some _ from HB.out)
 replace Y := Lib.hid (show w.drew.cell? ⟨gB, oB, none⟩ = some (.int .i64 x.1) ∧ w.drew.cell? ⟨gB, oB + 1, none⟩ = some (.int .i64 x.2.1) ∧ w.drew.cell? ⟨gB, oB + 2, none⟩ = some (.int .i64 x.2.2) from Y.out)
 replace HT := Lib.hid (show RdK spanTy w.drew _ r.length r from HT.out.chg (Chg.refl [] w).drew (by simp))
 generalize w.drew = wd at *
 generalize hAD : (if c = 1 then some ⟨gB, oB, none⟩ else some ⟨gB, oB + 3, none⟩ : Option Addr) = AD at *
 have AB : Hid (∀ a, AD = some a → a.block = gB) := Lib.hid (by intro a ha; rw [← hAD] at ha; split at ha <;> cases ha <;> rfl)
 refine sy 0 12 rfl rfl ?_ (hS := trivial)
 try simp only [Act.put, sA, s0, s1]
 refine sy 1 13 rfl rfl ?_ (hS := trivial)
 try simp only [Act.put, sA, s0, s1]
 refine sy 2 14 rfl rfl ?_ (hS := trivial)
 try simp only [Act.put, sA, s0, s1]
 refine sy 3 15 rfl rfl ?_ (hS := trivial)
 try simp only [Act.put, sA, s0, s1]
 refine sy 4 16 rfl rfl ?_ (hS := trivial)
 try simp only [Act.put, sA, s0, s1]
 refine sy 8 20 rfl rfl ?_ (hS := trivial)
 try simp only [Act.put, sA, s0, s1]
 refine sy 9 21 rfl rfl ?_ (hS := trivial)
 try simp only [Act.put, sA, s0, s1]
 refine sy 10 22 rfl rfl ?_ (hS := trivial)
 try simp only [Act.put, sA, s0, s1]
 refine wpAnyH_ready (rs := [5, 11]) (by kernel_rfl) (by simp) ?_
 refine AllReadyH.cons rfl (fun K hK => ?_) (AllReadyH.cons rfl (fun K hK => ?_) AllReadyH.nil)
 ·
  skip
  replace hK := Lib.hid hK
  have z7 := cell_of HB.out 7
  simp only [List.getElem?_toArray, List.getElem?_cons_succ, List.getElem?_cons_zero] at z7
  go_simp
  clear z7 hHeld
  refine hK.out _ _ trivial (fun hHeld => ?_)
  clear hK K
  try simp only [Act.put, sA, s0, s1]
  refine sy 6 18 rfl rfl ?_ (hS := trivial)
  try simp only [Act.put, sA, s0, s1]
  refine wpAnyH_ready (rs := [7, 11]) (by kernel_rfl) (by simp) ?_
  refine AllReadyH.cons rfl (fun K hK => ?_) (AllReadyH.cons rfl (fun K hK => ?_) AllReadyH.nil)
  ·
   skip
   replace hK := Lib.hid hK
   obtain ⟨y0, y1, y2⟩ := Y.out
   go_simp
   clear y0 y1 y2 hHeld
   refine hK.out _ _ trivial (fun hHeld => ?_)
   clear hK K
   try simp only [Act.put, sA, s0, s1]
   refine wpAnyH_ready (rs := [11]) (by kernel_rfl) (by simp) ?_
   refine AllReadyH.cons rfl (fun K hK => ?_) AllReadyH.nil
   replace hK := Lib.hid hK
   have z7 := cell_of HB.out 7
   simp only [List.getElem?_toArray, List.getElem?_cons_succ, List.getElem?_cons_zero] at z7
   go_simp
   clear z7 hHeld
   refine hK.out _ _ trivial (fun hHeld => ?_)
   clear hK K
   try simp only [Act.put, sA, s0, s1]
   refine sy 12 24 rfl rfl ?_ (hS := trivial)
   try simp only [Act.put, sA, s0, s1]
   refine sy 13 25 rfl rfl ?_ (hS := trivial)
   try simp only [Act.put, sA, s0, s1]
   refine sy 14 26 rfl rfl ?_ (hS := trivial)
   try simp only [Act.put, sA, s0, s1]
   refine wpAnyH_ready (rs := [15]) (by kernel_rfl) (by simp) ?_
   refine AllReadyH.cons rfl (fun K hK => ?_) AllReadyH.nil
   replace hK := Lib.hid hK
   have z4 := cell_of HB.out 4
   have z5 := cell_of HB.out 5
   have z6 := cell_of HB.out 6
   have fz4 := free_of HB.out 4
   have fz5 := free_of HB.out 5
   have fz6 := free_of HB.out 6
   simp only [List.getElem?_toArray, List.getElem?_cons_succ, List.getElem?_cons_zero] at z4 z5 z6
   have p0 := heap_setCell_same wd g 4 _ _ (.int .i64 x.1) HB.out
   have p1 := heap_setCell_same (wd.setCell ⟨g, 4, none⟩ (.int .i64 x.1)) g 5 _ _ (.int .i64 x.2.1) p0
   have p2 := heap_setCell_same ((wd.setCell ⟨g, 4, none⟩ (.int .i64 x.1)).setCell ⟨g, 5, none⟩ (.int .i64 x.2.1)) g 6 _ _ (.int .i64 x.2.2) p1
   simp only [List.setIfInBounds_toArray, List.set_cons_zero, List.set_cons_succ] at p2
   have HP := Lib.hid p2
   clear p0 p1 p2
   go_simp
   clear hHeld z4 fz4 z5 fz5 z6 fz6
   refine hK.out _ _ trivial (fun hHeld => ?_)
   clear hK K
   try simp only [Act.put, sA, s0, s1]
   refine sy 16 27 rfl rfl ?_ (hS := trivial)
   try simp only [Act.put, sA, s0, s1]
   refine sy 17 28 rfl rfl ?_ (hS := trivial)
   try simp only [Act.put, sA, s0, s1]
   refine wpAnyH_ready (rs := [18]) (by kernel_rfl) (by simp) ?_
   refine AllReadyH.cons rfl (fun K hK => ?_) AllReadyH.nil
   replace hK := Lib.hid hK
   have z7 := cell_of HP.out 7
   have fz7 := free_of HP.out 7
   simp only [List.getElem?_toArray, List.getElem?_cons_succ, List.getElem?_cons_zero] at z7
   go_simp
   clear hHeld z7 fz7
   refine hK.out _ _ trivial (fun hHeld => ?_)
   clear hK K
   try simp only [Act.put, sA, s0, s1]
   refine wpAnyH_done (by kernel_rfl) ?_ _
   have HQ := heap_setCell_same _ g 7 _ _ (.slice AD r.length (c - 1)) HP.out
   simp only [List.setIfInBounds_toArray, List.set_cons_zero, List.set_cons_succ] at HQ
   have CQ := Lib.hid (((((Chg.refl [g] wd).setCell (p := ⟨g, 4, none⟩) (.inl (by simp)) (.int .i64 x.1)).setCell (p := ⟨g, 5, none⟩) (.inl (by simp)) (.int .i64 x.2.1)).setCell (p := ⟨g, 6, none⟩) (.inl (by simp)) (.int .i64 x.2.2)).setCell (p := ⟨g, 7, none⟩) (.inl (by simp)) (.slice AD r.length (c - 1)))
   have HQ2 := Lib.hid HQ
   clear HQ
   go_wp2
   go_end0
   exact ⟨rfl, AD, c - 1, HQ2.out, HT.out.chg CQ.out (fun a ha => by rw [AB.out a ha]; simpa using NB.out), by have := HN.out; omega, fun a ha => by (first | exact ⟨_, rfl, AB.out a ha⟩ | exact AB.out a ha | simpa using AB.out a ha), CD.out.trans CQ.out⟩
  ·
   skip
   replace hK := Lib.hid hK
   have z7 := cell_of HB.out 7
   simp only [List.getElem?_toArray, List.getElem?_cons_succ, List.getElem?_cons_zero] at z7
   go_simp
   clear z7 hHeld
   refine hK.out _ _ trivial (fun hHeld => ?_)
   clear hK K
   try simp only [Act.put, sA, s0, s1]
   refine sy 12 24 rfl rfl ?_ (hS := trivial)
   try simp only [Act.put, sA, s0, s1]
   refine wpAnyH_ready (rs := [7]) (by kernel_rfl) (by simp) ?_
   refine AllReadyH.cons rfl (fun K hK => ?_) AllReadyH.nil
   replace hK := Lib.hid hK
   obtain ⟨y0, y1, y2⟩ := Y.out
   go_simp
   clear y0 y1 y2 hHeld
   refine hK.out _ _ trivial (fun hHeld => ?_)
   clear hK K
   try simp only [Act.put, sA, s0, s1]
   refine sy 13 25 rfl rfl ?_ (hS := trivial)
   try simp only [Act.put, sA, s0, s1]
   refine sy 14 26 rfl rfl ?_ (hS := trivial)
   try simp only [Act.put, sA, s0, s1]
   refine wpAnyH_ready (rs := [15]) (by kernel_rfl) (by simp) ?_
   refine AllReadyH.cons rfl (fun K hK => ?_) AllReadyH.nil
   replace hK := Lib.hid hK
   have z4 := cell_of HB.out 4
   have z5 := cell_of HB.out 5
   have z6 := cell_of HB.out 6
   have fz4 := free_of HB.out 4
   have fz5 := free_of HB.out 5
   have fz6 := free_of HB.out 6
   simp only [List.getElem?_toArray, List.getElem?_cons_succ, List.getElem?_cons_zero] at z4 z5 z6
   have p0 := heap_setCell_same wd g 4 _ _ (.int .i64 x.1) HB.out
   have p1 := heap_setCell_same (wd.setCell ⟨g, 4, none⟩ (.int .i64 x.1)) g 5 _ _ (.int .i64 x.2.1) p0
   have p2 := heap_setCell_same ((wd.setCell ⟨g, 4, none⟩ (.int .i64 x.1)).setCell ⟨g, 5, none⟩ (.int .i64 x.2.1)) g 6 _ _ (.int .i64 x.2.2) p1
   simp only [List.setIfInBounds_toArray, List.set_cons_zero, List.set_cons_succ] at p2
   have HP := Lib.hid p2
   clear p0 p1 p2
   go_simp
   clear hHeld z4 fz4 z5 fz5 z6 fz6
   refine hK.out _ _ trivial (fun hHeld => ?_)
   clear hK K
   try simp only [Act.put, sA, s0, s1]
   refine sy 16 27 rfl rfl ?_ (hS := trivial)
   try simp only [Act.put, sA, s0, s1]
   refine sy 17 28 rfl rfl ?_ (hS := trivial)
   try simp only [Act.put, sA, s0, s1]
   refine wpAnyH_ready (rs := [18]) (by kernel_rfl) (by simp) ?_
   refine AllReadyH.cons rfl (fun K hK => ?_) AllReadyH.nil
   replace hK := Lib.hid hK
   have z7 := cell_of HP.out 7
   have fz7 := free_of HP.out 7
   simp only [List.getElem?_toArray, List.getElem?_cons_succ, List.getElem?_cons_zero] at z7
   go_simp
   clear hHeld z7 fz7
   refine hK.out _ _ trivial (fun hHeld => ?_)
   clear hK K
   try simp only [Act.put, sA, s0, s1]
   refine wpAnyH_done (by kernel_rfl) ?_ _
   have HQ := heap_setCell_same _ g 7 _ _ (.slice AD r.length (c - 1)) HP.out
   simp only [List.setIfInBounds_toArray, List.set_cons_zero, List.set_cons_succ] at HQ
   have CQ := Lib.hid (((((Chg.refl [g] wd).setCell (p := ⟨g, 4, none⟩) (.inl (by simp)) (.int .i64 x.1)).setCell (p := ⟨g, 5, none⟩) (.inl (by simp)) (.int .i64 x.2.1)).setCell (p := ⟨g, 6, none⟩) (.inl (by simp)) (.int .i64 x.2.2)).setCell (p := ⟨g, 7, none⟩) (.inl (by simp)) (.slice AD r.length (c - 1)))
   have HQ2 := Lib.hid HQ
   clear HQ
   go_wp2
   go_end0
   exact ⟨rfl, AD, c - 1, HQ2.out, HT.out.chg CQ.out (fun a ha => by rw [AB.out a ha]; simpa using NB.out), by have := HN.out; omega, fun a ha => by (first | exact ⟨_, rfl, AB.out a ha⟩ | exact AB.out a ha | simpa using AB.out a ha), CD.out.trans CQ.out⟩
 ·
  skip
  replace hK := Lib.hid hK
  have z7 := cell_of HB.out 7
  simp only [List.getElem?_toArray, List.getElem?_cons_succ, List.getElem?_cons_zero] at z7
  go_simp
  clear z7 hHeld
  refine hK.out _ _ trivial (fun hHeld => ?_)
  clear hK K
  try simp only [Act.put, sA, s0, s1]
  refine sy 12 24 rfl rfl ?_ (hS := trivial)
  try simp only [Act.put, sA, s0, s1]
  refine wpAnyH_ready (rs := [5]) (by kernel_rfl) (by simp) ?_
  refine AllReadyH.cons rfl (fun K hK => ?_) AllReadyH.nil
  replace hK := Lib.hid hK
  have z7 := cell_of HB.out 7
  simp only [List.getElem?_toArray, List.getElem?_cons_succ, List.getElem?_cons_zero] at z7
  go_simp
  clear z7 hHeld
  refine hK.out _ _ trivial (fun hHeld => ?_)
  clear hK K
  try simp only [Act.put, sA, s0, s1]
  refine sy 6 18 rfl rfl ?_ (hS := trivial)
  try simp only [Act.put, sA, s0, s1]
  refine wpAnyH_ready (rs := [7]) (by kernel_rfl) (by simp) ?_
  refine AllReadyH.cons rfl (fun K hK => ?_) AllReadyH.nil
  replace hK := Lib.hid hK
  obtain ⟨y0, y1, y2⟩ := Y.out
  go_simp
  clear y0 y1 y2 hHeld
  refine hK.out _ _ trivial (fun hHeld => ?_)
  clear hK K
  try simp only [Act.put, sA, s0, s1]
  refine sy 13 25 rfl rfl ?_ (hS := trivial)
  try simp only [Act.put, sA, s0, s1]
  refine sy 14 26 rfl rfl ?_ (hS := trivial)
  try simp only [Act.put, sA, s0, s1]
  refine wpAnyH_ready (rs := [15]) (by kernel_rfl) (by simp) ?_
  refine AllReadyH.cons rfl (fun K hK => ?_) AllReadyH.nil
  replace hK := Lib.hid hK
  have z4 := cell_of HB.out 4
  have z5 := cell_of HB.out 5
  have z6 := cell_of HB.out 6
  have fz4 := free_of HB.out 4
  have fz5 := free_of HB.out 5
  have fz6 := free_of HB.out 6
  simp only [List.getElem?_toArray, List.getElem?_cons_succ, List.getElem?_cons_zero] at z4 z5 z6
  have p0 := heap_setCell_same wd g 4 _ _ (.int .i64 x.1) HB.out
  have p1 := heap_setCell_same (wd.setCell ⟨g, 4, none⟩ (.int .i64 x.1)) g 5 _ _ (.int .i64 x.2.1) p0
  have p2 := heap_setCell_same ((wd.setCell ⟨g, 4, none⟩ (.int .i64 x.1)).setCell ⟨g, 5, none⟩ (.int .i64 x.2.1)) g 6 _ _ (.int .i64 x.2.2) p1
  simp only [List.setIfInBounds_toArray, List.set_cons_zero, List.set_cons_succ] at p2
  have HP := Lib.hid p2
  clear p0 p1 p2
  go_simp
  clear hHeld z4 fz4 z5 fz5 z6 fz6
  refine hK.out _ _ trivial (fun hHeld => ?_)
  clear hK K
  try simp only [Act.put, sA, s0, s1]
  refine sy 16 27 rfl rfl ?_ (hS := trivial)
  try simp only [Act.put, sA, s0, s1]
  refine sy 17 28 rfl rfl ?_ (hS := trivial)
  try simp only [Act.put, sA, s0, s1]
  refine wpAnyH_ready (rs := [18]) (by kernel_rfl) (by simp) ?_
  refine AllReadyH.cons rfl (fun K hK => ?_) AllReadyH.nil
  replace hK := Lib.hid hK
  have z7 := cell_of HP.out 7
  have fz7 := free_of HP.out 7
  simp only [List.getElem?_toArray, List.getElem?_cons_succ, List.getElem?_cons_zero] at z7
  go_simp
  clear hHeld z7 fz7
  refine hK.out _ _ trivial (fun hHeld => ?_)
  clear hK K
  try simp only [Act.put, sA, s0, s1]
  refine wpAnyH_done (by kernel_rfl) ?_ _
  have HQ := heap_setCell_same _ g 7 _ _ (.slice AD r.length (c - 1)) HP.out
  simp only [List.setIfInBounds_toArray, List.set_cons_zero, List.set_cons_succ] at HQ
  have CQ := Lib.hid (((((Chg.refl [g] wd).setCell (p := ⟨g, 4, none⟩) (.inl (by simp)) (.int .i64 x.1)).setCell (p := ⟨g, 5, none⟩) (.inl (by simp)) (.int .i64 x.2.1)).setCell (p := ⟨g, 6, none⟩) (.inl (by simp)) (.int .i64 x.2.2)).setCell (p := ⟨g, 7, none⟩) (.inl (by simp)) (.slice AD r.length (c - 1)))
  have HQ2 := Lib.hid HQ
  clear HQ
  go_wp2
  go_end0
  exact ⟨rfl, AD, c - 1, HQ2.out, HT.out.chg CQ.out (fun a ha => by rw [AB.out a ha]; simpa using NB.out), by have := HN.out; omega, fun a ha => by (first | exact ⟨_, rfl, AB.out a ha⟩ | exact AB.out a ha | simpa using AB.out a ha), CD.out.trans CQ.out⟩
end
section
open Go.RowKit Go.Lib


set_option maxRecDepth 100000 in
set_option maxHeartbeats 4000000 in
theorem pass_b (w : World) (g : Nat) (v0 v1 v2 v3 vk : Value) (B : Option Addr) (c : Nat) (x : Sp) (r : List Sp) (tt : Int) (hto : 0 ≤ tt ∧ tt ≤ 2147483647) (hb : w.heap[g]? = some (.cells #[v0, v1, v2, v3, .int .i64 x.1, .int .i64 x.2.1, .int .i64 x.2.2, .slice B r.length c, vk] 223 (0, 0))) (hr : RdK spanTy w B r.length r) (hn : r.length ≤ c ∧ c ≤ maxLen) (hB : ∀ a, B = some a → a.block ≠ g) :
  Calls Tryz.prog 253 #[.pointer (some ⟨g, 4, none⟩), .int .i64 tt] w fun e w' => e = .returned (.tuple #[]) ∧ ∃ B' c', w'.heap[g]? = some (.cells #[v0, v1, v2, v3, .int .i64 (hdP (passP (x :: r) tt)).1, .int .i64 (hdP (passP (x :: r) tt)).2.1, .int .i64 (hdP (passP (x :: r) tt)).2.2, .slice B' (passP (x :: r) tt).tail.length c', vk] 223 (0, 0)) ∧ RdK spanTy w' B' (passP (x :: r) tt).tail.length (passP (x :: r) tt).tail ∧ ((passP (x :: r) tt).tail.length ≤ c' ∧ c' ≤ maxLen) ∧ (∀ a, B' = some a → ∃ b, B = some b ∧ a.block = b.block) ∧ Chg [g] w w' := by
 have HB := Lib.hid hb
 have HR := Lib.hid hr
 have HN := Lib.hid hn
 have NB := Lib.hid hB
 clear hb hr hn hB
 have e1 : IntKind.i64.wrap (tt + 1) = tt + 1 := IntWalk.i64_in _ (by omega)
 by_cases hlt : tt < x.2.2
 ·
  have hp : passP (x :: r) tt = (x.1, tt + 1, x.2.2) :: r := by unfold passP; simp only; rw [if_pos hlt]
  rw [hp]
  simp only [hd_cons, List.tail_cons]
  have HLT := hlt
  clear hp
  go_enter Tryz.func253, Tryz.ntmps253
  have z4 := cell_of HB.out 4
  have z5 := cell_of HB.out 5
  have z6 := cell_of HB.out 6
  have z7 := cell_of HB.out 7
  have fz5 := free_of HB.out 5
  simp only [List.getElem?_toArray, List.getElem?_cons_succ, List.getElem?_cons_zero] at z4 z5 z6 z7
  have HQ := heap_setCell_same w g 5 _ _ (.int .i64 (tt + 1)) HB.out
  simp only [List.setIfInBounds_toArray, List.set_cons_zero, List.set_cons_succ] at HQ
  have HP := Lib.hid HQ
  have CP := Lib.hid ((Chg.refl [g] w).setCell (p := ⟨g, 5, none⟩) (.inl (by simp)) (.int .i64 (tt + 1)))
  clear HQ
  go_wp2
  refine bodyPost_ret (results_none rfl _ _ _) rfl ?_
  exact ⟨rfl, B, c, HP.out, HR.out.chg CP.out (fun a ha => by simpa using NB.out a ha), HN.out, fun a ha => ⟨a, ha, rfl⟩, CP.out⟩
 ·
  have hp : passP (x :: r) tt = r := by unfold passP; simp only; rw [if_neg hlt]
  rw [hp]
  clear hp
  cases r with
  | nil =>
   go_enter Tryz.func253, Tryz.ntmps253
   have z4 := cell_of HB.out 4
   have z5 := cell_of HB.out 5
   have z6 := cell_of HB.out 6
   have z7 := cell_of HB.out 7
   simp only [List.getElem?_toArray, List.getElem?_cons_succ, List.getElem?_cons_zero] at z4 z5 z6 z7
   go_wp2_with fail
   clear z4 z5 z6 z7
   refine (next_none_b w g v0 v1 v2 v3 vk _ _ _ B c HB.out).mono ?_
   rintro e w' ⟨rfl, h1, h2⟩
   have HP := Lib.hid h1
   have CP := Lib.hid h2
   clear h1 h2
   go_wp2
   go_end0
   exact ⟨rfl, B, c, HP.out, RdK.nil _ _, ⟨Nat.zero_le _, HN.out.2⟩, fun a ha => ⟨a, ha, rfl⟩, CP.out⟩
  | cons y r2 =>
   go_enter Tryz.func253, Tryz.ntmps253
   have z4 := cell_of HB.out 4
   have z5 := cell_of HB.out 5
   have z6 := cell_of HB.out 6
   have z7 := cell_of HB.out 7
   simp only [List.getElem?_toArray, List.getElem?_cons_succ, List.getElem?_cons_zero] at z4 z5 z6 z7
   go_wp2_with fail
   clear z4 z5 z6 z7
   refine (next_some_b w g v0 v1 v2 v3 vk _ _ _ B c y r2 HB.out HR.out HN.out NB.out).mono ?_
   rintro e w' ⟨rfl, B2, c2, h1, h2, h3, h4, h5⟩
   have HP := Lib.hid h1
   have CP := Lib.hid h5
   have H2 := Lib.hid h2
   have H3 := Lib.hid h3
   have H4 := Lib.hid h4
   clear h1 h2 h3 h4 h5
   go_wp2
   go_end0
   exact ⟨rfl, B2, c2, HP.out, H2.out, H3.out, H4.out, CP.out⟩
end
section
open Go.RowKit Go.Lib


set_option maxRecDepth 100000 in
set_option maxHeartbeats 4000000 in
theorem until_any (w : World) (x y : Sp) (hx : -2147483648 ≤ x.2.2 ∧ x.2.2 ≤ 2147483647) (hy : -2147483648 ≤ y.2.1 ∧ y.2.1 ≤ 2147483647) : Calls Tryz.prog 252 #[.agg #[.int .i64 x.1, .int .i64 x.2.1, .int .i64 x.2.2], .agg #[.int .i64 y.1, .int .i64 y.2.1, .int .i64 y.2.2]] w fun e w' => e = .returned (.agg #[.int .i64 (untilP x y).1, .int .i64 (untilP x y).2.1, .int .i64 (untilP x y).2.2]) ∧ Chg [] w w' := by
 have e1 : IntKind.i64.wrap (y.2.1 - 1) = y.2.1 - 1 := IntWalk.i64_in _ (by omega)
 unfold untilP
 by_cases h : x.1 = y.1
 ·
  rw [if_pos h]
  have hq : ((x.1 == y.1) : Bool) = true := by simpa using h
  clear h
  have HM : Hid (∀ v : Int, v = min x.2.2 (y.2.1 - 1) → v = min x.2.2 (y.2.1 - 1)) := Lib.hid (fun _ h => h)
  go_enter Tryz.func252, Tryz.ntmps252
  go_wp2
  all_goals
   refine bodyPost_ret (v := .agg #[.int .i64 x.1, .int .i64 x.2.1, .int .i64 (min x.2.2 (y.2.1 - 1))]) (by simp [results, Tryz.results252, go_sem]; try omega) rfl ?_
   exact ⟨rfl, by repeat' (first | exact Chg.refl _ _ | apply Chg.alloc | (refine Chg.setCell ?_ (.inr (by simp)) _))⟩
 ·
  rw [if_neg h]
  have hq : ((x.1 == y.1) : Bool) = false := by simpa using h
  clear h
  go_enter Tryz.func252, Tryz.ntmps252
  go_wp2
  refine bodyPost_ret (v := .agg #[.int .i64 x.1, .int .i64 x.2.1, .int .i64 x.2.2]) (by simp [results, Tryz.results252, go_sem]) rfl ?_
  exact ⟨rfl, by repeat' (first | exact Chg.refl _ _ | apply Chg.alloc | (refine Chg.setCell ?_ (.inr (by simp)) _))⟩
end
end Go.Proofs.YtomgjogkkoigbaaGreatDoor
