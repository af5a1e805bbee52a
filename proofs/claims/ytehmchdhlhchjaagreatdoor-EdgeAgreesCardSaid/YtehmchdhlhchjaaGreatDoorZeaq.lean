/- An event is looked for by its dot. past: kept hands on what is kept. past.may. past.Within. event.bringsAll. Arguments opened: bytes, numbers, texts: from the data that a row reads to the cells that a walk goes over. Slices of spans as arguments. An event as an argument. Rows of events that are not long: purely. Closed events are in order, and one made behind them: purely. Shelves: purely. -/
import Derived.Test.YtehmchdhlhchjaaGreatDoorZeap
import Derived.Deep.Cut
import Derived.Test.YtehmchdhlhchjaaGreatDoorZeaf
import Derived.Deep.CutRange
import Derived.OwnWalkIn
import Derived.Sort.LoopGhostIn
import Derived.Test.YtehmchdhlhchjaaGreatDoorZeac
import Derived.Test.YtehmchdhlhchjaaGreatDoorZeag
import Derived.BigQuiet
import Derived.Test.YtehmchdhlhchjaaGreatDoorZeaa
import Derived.Deep.Slices
import Derived.Deep.Fields
import Derived.ChangeSame
import Derived.SizedLaws
import Derived.ChangeArms
import Derived.ChangeSlices
import Derived.OpenShut
import Derived.ProofKit
import Derived.Test.YtehmchdhlhchjaaGreatDoorZeab
import Derived.Test.YtehmchdhlhchjaaGreatDoorZeam
set_option linter.unusedSimpArgs false
set_option linter.unusedVariables false
set_option maxHeartbeats 32000000
namespace Go.Proofs.YtehmchdhlhchjaaGreatDoor
section
open Go.RowKit Go.Lib


theorem evbydot_e (w : World) (x : EvT) (n s : Int) : Calls Tryz.prog 55 #[.agg #[.int .i64 x.n, .int .i64 x.s, .string x.p, .int .i64 x.k, .int .i64 x.m, .slice x.A x.l x.c, .slice x.B x.bl x.bc], .agg #[.int .i64 n, .int .i64 s]] w fun e w' => e = .returned (.int .i64 (cmpEd x n s)) ∧ Chg [] w w' := (evbydot_gr w x n s).mono (fun _ _ h => ⟨h.1, h.2.1⟩)
set_option maxRecDepth 100000 in
theorem binev_any (w : World) (A : Option Addr) (c : Nat) (xs : List EvT) (n s : Int) (h : RdK evTy w A xs.length xs) (hn : UpE xs) (hl : xs.length ≤ 100000) :
  Calls Tryz.prog 102 #[.slice A xs.length c, .agg #[.int .i64 n, .int .i64 s], .func (.func 55) #[] #[]] w fun e w' => ∃ i : Nat, i ≤ xs.length ∧ LoE xs n s i ∧ HiE xs n s i ∧ e = .returned (.tuple #[.int .i64 (i : Int), .bool (inE xs n s)]) ∧ Chg [] w w' := by
 have HX := h_ h
 have HNM := h_ hn
 have HL := h_ hl
 clear h hn hl
 obtain ⟨w1, hw1, c1, b1⟩ := news1 w (.cells #[.int .i64 n, .int .i64 s] 35)
 have W1 := h_ hw1
 have C1 := h_ c1
 have B1 := h_ b1
 clear hw1 c1 b1
 go_enter Tryz.func102, Tryz.ntmps102
 go_upto_region 2 with fail
 rw [← W1.out]
 generalize w.heap.size = g0 at *
 clear W1; go_wp2
 go_loopw [9, 10] (fun v9 v10 wr => ∃ (i j : Nat), i ≤ j ∧ j ≤ xs.length ∧ v9 = .int .i64 (i : Int) ∧ v10 = .int .i64 (j : Int) ∧ Hid (LoE xs n s i ∧ HiE xs n s j) ∧ Hid (Chg [] w1 wr)) (fun v9 v10 _ => (RowKit.intOf v10).toNat - (RowKit.intOf v9).toNat)
 case atStart => exact ⟨0, xs.length, Nat.zero_le _, Nat.le_refl _, rfl, rfl, h_ ⟨fun p x _ h => absurd h (by omega), fun p x hx h => absurd ((List.getElem?_eq_some_iff.1 hx).1) (by omega)⟩, Chg.refl _ _⟩
 case round =>
  obtain ⟨i, j, hij, hj, rfl, rfl, HI, HC⟩ := hrel
  have i0 : (0 : Int) ≤ (i : Int) := by omega
  have hl := HL.out
  have i1 : IntKind.i64.wrap ((i : Int) + (j : Int)) = ((i + j : Nat) : Int) := by rw [IntWalk.i64_in _ (by omega)]; omega
  by_cases hlt : i < j
  ·
   have i2 : (i : Int) < (j : Int) := by omega
   go_upto_region 5 with fail
   obtain ⟨k, hk⟩ : ∃ k : Nat, k = (i + j) / 2 := ⟨_, rfl⟩
   have e1 : ((i : Int) + (j : Int)) / 2 = (k : Int) := by omega
   rw [e1]
   have hk1 : i ≤ k ∧ k < j := by omega
   clear hk e1 i1 i2
   obtain ⟨x, hx⟩ : ∃ x, xs[k]? = some x := ⟨_, List.getElem?_eq_getElem (by omega)⟩
   have R4 := (HX.out.chg C1.out (by simp)).chg HC.out (by simp)
   obtain ⟨g, o, eA, _⟩ := R4.line (by omega)
   subst eA
   obtain ⟨q0, q1, q2, q3, q4, q5, q6⟩ := evCells R4 hx
   have b4 := HC.out.at_ B1.out (by simp)
   obtain ⟨d0, d1⟩ := ce2 b4
   have k0 : (0 : Int) ≤ (k : Int) := by omega
   have k1 : (k : Int) < (xs.length : Int) := by omega
   have HX5 := h_ hx
   clear R4 b4 hx
   refine wp_region_held_drew (S := fun w' => w'.cell? ⟨g, o + k * 7, none⟩ = some (.int .i64 x.n) ∧ w'.cell? ⟨g, o + k * 7 + 1, none⟩ = some (.int .i64 x.s) ∧ w'.cell? ⟨g, o + k * 7 + 2, none⟩ = some (.string x.p) ∧ w'.cell? ⟨g, o + k * 7 + 3, none⟩ = some (.int .i64 x.k) ∧ w'.cell? ⟨g, o + k * 7 + 4, none⟩ = some (.int .i64 x.m) ∧ w'.cell? ⟨g, o + k * 7 + 5, none⟩ = some (.slice x.A x.l x.c) ∧ w'.cell? ⟨g, o + k * 7 + 6, none⟩ = some (.slice x.B x.bl x.bc) ∧ w'.cell? ⟨g0, 0, none⟩ = some (.int .i64 n) ∧ w'.cell? ⟨g0, 1, none⟩ = some (.int .i64 s)) (by kernel_rfl) ⟨q0, q1, q2, q3, q4, q5, q6, d0, d1⟩ (fun hHeld => ?_)
   have CD := h_ (Chg.refl [] wr).drew
   have HH := h_ (fun (w' : World) (hc : Chg [] wr.drew w') => (⟨(CD.out.trans hc).cell q0 (by simp), (CD.out.trans hc).cell q1 (by simp), (CD.out.trans hc).cell q2 (by simp), (CD.out.trans hc).cell q3 (by simp), (CD.out.trans hc).cell q4 (by simp), (CD.out.trans hc).cell q5 (by simp), (CD.out.trans hc).cell q6 (by simp), (CD.out.trans hc).cell d0 (by simp), (CD.out.trans hc).cell d1 (by simp)⟩ : w'.cell? ⟨g, o + k * 7, none⟩ = some (.int .i64 x.n) ∧ w'.cell? ⟨g, o + k * 7 + 1, none⟩ = some (.int .i64 x.s) ∧ w'.cell? ⟨g, o + k * 7 + 2, none⟩ = some (.string x.p) ∧ w'.cell? ⟨g, o + k * 7 + 3, none⟩ = some (.int .i64 x.k) ∧ w'.cell? ⟨g, o + k * 7 + 4, none⟩ = some (.int .i64 x.m) ∧ w'.cell? ⟨g, o + k * 7 + 5, none⟩ = some (.slice x.A x.l x.c) ∧ w'.cell? ⟨g, o + k * 7 + 6, none⟩ = some (.slice x.B x.bl x.bc) ∧ w'.cell? ⟨g0, 0, none⟩ = some (.int .i64 n) ∧ w'.cell? ⟨g0, 1, none⟩ = some (.int .i64 s)))
   clear q0 q1 q2 q3 q4 q5 q6 d0 d1
   generalize wr.drew = wd at *
   refine sy 0 24 rfl rfl ?_; try simp only [Act.put, sA, s0, s1]
   refine sy 1 25 rfl rfl ?_; try simp only [Act.put, sA, s0, s1]
   refine sy 2 26 rfl rfl ?_; try simp only [Act.put, sA, s0, s1]
   refine sy 3 27 rfl rfl ?_; try simp only [Act.put, sA, s0, s1]
   refine sy 4 28 rfl rfl ?_ (hy := by (intro w hSw; (try dsimp only at hSw); obtain ⟨q0, q1, q2, q3, q4, q5, q6, q7, q8⟩ := hSw; go_simp; try with_reducible rfl))
   try simp only [Act.put, sA, s0, s1]
   refine sy 5 29 rfl rfl ?_ (hy := by (intro w hSw; (try dsimp only at hSw); obtain ⟨q0, q1, q2, q3, q4, q5, q6, q7, q8⟩ := hSw; go_simp; try with_reducible rfl))
   try simp only [Act.put, sA, s0, s1]
   refine on1 6 rfl (fun K hK => ?_)
   go_simp
   refine (evbydot_e wd x n s).mono ?_
   rintro r w6 ⟨rfl, h6⟩
   have C6 := h_ h6
   clear h6 hHeld
   refine hK.out _ _ (HH.out w6 C6.out) (fun hHeld => ?_)
   clear hK K; try simp only [Act.put, sA, s0, s1]
   refine sy 7 31 rfl rfl ?_; try simp only [Act.put, sA, s0, s1]
   refine wpAnyH_done (by kernel_rfl) ?_ _; clear hHeld HH
   have CE := h_ (HC.out.trans (CD.out.trans C6.out))
   by_cases hneg : cmpEd x n s < 0
   ·
    have LO := h_ (loE_next HNM.out HX5.out hneg)
    have dn1 : decide (cmpEd x n s < 0) = true := decide_eq_true hneg
    have w1' : IntKind.i64.wrap ((k : Int) + 1) = (k : Int) + 1 := IntWalk.i64_in _ (by omega)
    go_wp2; go_round
    case rel => exact ⟨k + 1, j, by omega, hj, by go_num, rfl, h_ ⟨LO.out, HI.out.2⟩, CE.out⟩
    case measure => simp [RowKit.intOf]; omega
   ·
    have HIN := h_ (hiE_next HNM.out HX5.out hneg)
    have dn1 : decide (cmpEd x n s < 0) = false := decide_eq_false hneg
    go_wp2; go_round
    case rel => exact ⟨i, k, by omega, by omega, rfl, rfl, h_ ⟨HI.out.1, HIN.out⟩, CE.out⟩
    case measure => simp [RowKit.intOf]; omega
  ·
   obtain rfl : i = j := by omega
   have i2 : ¬ (i : Int) < (i : Int) := by omega
   by_cases hin : i < xs.length
   ·
    have k1 : (i : Int) < (xs.length : Int) := by omega
    have k2 : decide ((i : Int) < (xs.length : Int)) = true := by simp; omega
    have k3 : decide (i < xs.length) = true := by simp; omega
    obtain ⟨x, hx⟩ : ∃ x, xs[i]? = some x := ⟨_, List.getElem?_eq_getElem hin⟩
    have R4 := (HX.out.chg C1.out (by simp)).chg HC.out (by simp)
    obtain ⟨g, o, eA, _⟩ := R4.line (by omega)
    subst eA
    obtain ⟨q0, q1, q2, q3, q4, q5, q6⟩ := evCells R4 hx
    have b4 := HC.out.at_ B1.out (by simp)
    obtain ⟨d0, d1⟩ := ce2 b4
    have ANS : Hid (inE xs n s = decide (cmpEd x n s = 0)) := h_ (by
     by_cases hz : cmpEd x n s = 0
     ·
      rw [inE_yes hx hz, decide_eq_true hz]
     ·
      rw [inE_no HNM.out HI.out.1 HI.out.2 (fun y hy => by rw [hx] at hy; cases hy; exact hz), decide_eq_false hz])
    clear R4 b4 hx
    go_upto_region 8 with fail
    refine wp_region_held_drew (S := fun w' => w'.cell? ⟨g, o + i * 7, none⟩ = some (.int .i64 x.n) ∧ w'.cell? ⟨g, o + i * 7 + 1, none⟩ = some (.int .i64 x.s) ∧ w'.cell? ⟨g, o + i * 7 + 2, none⟩ = some (.string x.p) ∧ w'.cell? ⟨g, o + i * 7 + 3, none⟩ = some (.int .i64 x.k) ∧ w'.cell? ⟨g, o + i * 7 + 4, none⟩ = some (.int .i64 x.m) ∧ w'.cell? ⟨g, o + i * 7 + 5, none⟩ = some (.slice x.A x.l x.c) ∧ w'.cell? ⟨g, o + i * 7 + 6, none⟩ = some (.slice x.B x.bl x.bc) ∧ w'.cell? ⟨g0, 0, none⟩ = some (.int .i64 n) ∧ w'.cell? ⟨g0, 1, none⟩ = some (.int .i64 s)) (by kernel_rfl) ⟨q0, q1, q2, q3, q4, q5, q6, d0, d1⟩ (fun hHeld => ?_)
    have CD := h_ (Chg.refl [] wr).drew
    have HH := h_ (fun (w' : World) (hc : Chg [] wr.drew w') => (⟨(CD.out.trans hc).cell q0 (by simp), (CD.out.trans hc).cell q1 (by simp), (CD.out.trans hc).cell q2 (by simp), (CD.out.trans hc).cell q3 (by simp), (CD.out.trans hc).cell q4 (by simp), (CD.out.trans hc).cell q5 (by simp), (CD.out.trans hc).cell q6 (by simp), (CD.out.trans hc).cell d0 (by simp), (CD.out.trans hc).cell d1 (by simp)⟩ : w'.cell? ⟨g, o + i * 7, none⟩ = some (.int .i64 x.n) ∧ w'.cell? ⟨g, o + i * 7 + 1, none⟩ = some (.int .i64 x.s) ∧ w'.cell? ⟨g, o + i * 7 + 2, none⟩ = some (.string x.p) ∧ w'.cell? ⟨g, o + i * 7 + 3, none⟩ = some (.int .i64 x.k) ∧ w'.cell? ⟨g, o + i * 7 + 4, none⟩ = some (.int .i64 x.m) ∧ w'.cell? ⟨g, o + i * 7 + 5, none⟩ = some (.slice x.A x.l x.c) ∧ w'.cell? ⟨g, o + i * 7 + 6, none⟩ = some (.slice x.B x.bl x.bc) ∧ w'.cell? ⟨g0, 0, none⟩ = some (.int .i64 n) ∧ w'.cell? ⟨g0, 1, none⟩ = some (.int .i64 s)))
    clear q0 q1 q2 q3 q4 q5 q6 d0 d1 i2
    generalize wr.drew = wd at *
    refine sy 0 35 rfl rfl ?_; try simp only [Act.put, sA, s0, s1]
    refine sy 1 36 rfl rfl ?_; try simp only [Act.put, sA, s0, s1]
    refine sy 2 37 rfl rfl ?_; try simp only [Act.put, sA, s0, s1]
    refine sy 3 38 rfl rfl ?_; try simp only [Act.put, sA, s0, s1]
    refine sy 4 39 rfl rfl ?_; try simp only [Act.put, sA, s0, s1]
    refine sy 5 40 rfl rfl ?_; try simp only [Act.put, sA, s0, s1]
    refine sy 6 41 rfl rfl ?_; try simp only [Act.put, sA, s0, s1]
    refine sy 7 42 rfl rfl ?_; try simp only [Act.put, sA, s0, s1]
    refine sy 8 43 rfl rfl ?_; try simp only [Act.put, sA, s0, s1]
    refine sy 9 44 rfl rfl ?_ (hy := by (intro w hSw; (try dsimp only at hSw); obtain ⟨q0, q1, q2, q3, q4, q5, q6, q7, q8⟩ := hSw; go_simp; try with_reducible rfl))
    try simp only [Act.put, sA, s0, s1]
    refine sy 10 45 rfl rfl ?_ (hy := by (intro w hSw; (try dsimp only at hSw); obtain ⟨q0, q1, q2, q3, q4, q5, q6, q7, q8⟩ := hSw; go_simp; try with_reducible rfl))
    try simp only [Act.put, sA, s0, s1]
    refine on1 11 rfl (fun K hK => ?_)
    go_simp
    refine (evbydot_e wd x n s).mono ?_
    rintro r w6 ⟨rfl, h6⟩
    have C6 := h_ h6
    clear h6 hHeld
    refine hK.out _ _ (HH.out w6 C6.out) (fun hHeld => ?_)
    clear hK K; try simp only [Act.put, sA, s0, s1]
    refine sy 12 47 rfl rfl ?_; try simp only [Act.put, sA, s0, s1]
    refine sy 13 48 rfl rfl ?_; try simp only [Act.put, sA, s0, s1]
    refine sy 14 6 rfl rfl ?_; try simp only [Act.put, sA, s0, s1]
    refine sy 15 7 rfl rfl ?_; try simp only [Act.put, sA, s0, s1]
    refine wpAnyH_done (by kernel_rfl) ?_ _; clear hHeld HH
    have CE := h_ (C1.out.trans (HC.out.trans (CD.out.trans C6.out)))
    have LH := HI
    by_cases hz : cmpEd x n s = 0
    ·
     have AN : inE xs n s = true := by rw [ANS.out, decide_eq_true hz]
     have dz : ((cmpEd x n s == 0) : Bool) = true := by simpa using hz
     clear ANS hz; go_wp2; go_ret2
     (first | exact ⟨i, by omega, LH.out.1, LH.out.2, by rw [AN]; first | rfl | (show Ending.returned (.tuple #[.int .i64 (i : Int), .bool (cmpEd x n s == 0)]) = _; rw [dz]), CE.out⟩ | exact ⟨i, by omega, LH.out.1, LH.out.2, by first | rfl | (rw [AN]; rfl), CE.out⟩ | exact ⟨i, by omega, LH.out.1, LH.out.2, by show Ending.returned (.tuple #[.int .i64 (i : Int), .bool (cmpEd x n s == 0)]) = _; rw [dz], CE.out⟩)
    ·
     have AN : inE xs n s = false := by rw [ANS.out, decide_eq_false hz]
     have dz : ((cmpEd x n s == 0) : Bool) = false := by simpa using hz
     clear ANS hz; go_wp2; go_ret2
     (first | exact ⟨i, by omega, LH.out.1, LH.out.2, by rw [AN]; first | rfl | (show Ending.returned (.tuple #[.int .i64 (i : Int), .bool (cmpEd x n s == 0)]) = _; rw [dz]), CE.out⟩ | exact ⟨i, by omega, LH.out.1, LH.out.2, by first | rfl | (rw [AN]; rfl), CE.out⟩ | exact ⟨i, by omega, LH.out.1, LH.out.2, by show Ending.returned (.tuple #[.int .i64 (i : Int), .bool (cmpEd x n s == 0)]) = _; rw [dz], CE.out⟩)
   ·
    have k1 : ¬ (i : Int) < (xs.length : Int) := by omega
    have k2 : decide ((i : Int) < (xs.length : Int)) = false := by simp; omega
    have k3 : decide (i < xs.length) = false := by simp; omega
    have ANS : Hid (inE xs n s = false) := h_ (inE_no HNM.out HI.out.1 HI.out.2 (fun y hy => absurd ((List.getElem?_eq_some_iff.1 hy).1) hin))
    go_upto_region 8 with fail
    refine wp_region_held_drew (S := fun _ => True) (by kernel_rfl) trivial (fun hHeld => ?_)
    have CD := h_ (Chg.refl [] wr).drew
    generalize wr.drew = wd at *
    clear i2
    refine sy 0 35 rfl rfl ?_ (hS := trivial)
    try simp only [Act.put, sA, s0, s1]
    refine sy 1 36 rfl rfl ?_ (hS := trivial)
    try simp only [Act.put, sA, s0, s1]
    refine sy 2 37 rfl rfl ?_ (hS := trivial)
    try simp only [Act.put, sA, s0, s1]
    refine sy 3 38 rfl rfl ?_ (hS := trivial)
    try simp only [Act.put, sA, s0, s1]
    refine sy 4 39 rfl rfl ?_ (hS := trivial)
    try simp only [Act.put, sA, s0, s1]
    refine sn 5 40 rfl rfl ?_ (hS := trivial)
    try simp only [Act.put, sA, s0, s1]
    refine sn 6 41 rfl rfl ?_ (hS := trivial)
    try simp only [Act.put, sA, s0, s1]
    refine sn 7 42 rfl rfl ?_ (hS := trivial)
    try simp only [Act.put, sA, s0, s1]
    refine sn 8 43 rfl rfl ?_ (hS := trivial)
    try simp only [Act.put, sA, s0, s1]
    refine sn 9 44 rfl rfl ?_ (hS := trivial)
    try simp only [Act.put, sA, s0, s1]
    refine sn 10 45 rfl rfl ?_ (hS := trivial)
    try simp only [Act.put, sA, s0, s1]
    refine sn 11 46 rfl rfl ?_ (hS := trivial)
    try simp only [Act.put, sA, s0, s1]
    refine sn 12 47 rfl rfl ?_ (hS := trivial)
    try simp only [Act.put, sA, s0, s1]
    refine sy 13 48 rfl rfl ?_ (hS := trivial)
    try simp only [Act.put, sA, s0, s1]
    refine sy 14 6 rfl rfl ?_ (hS := trivial)
    try simp only [Act.put, sA, s0, s1]
    refine sy 15 7 rfl rfl ?_ (hS := trivial)
    try simp only [Act.put, sA, s0, s1]
    refine wpAnyH_done (by kernel_rfl) ?_ _; clear hHeld
    have CE := h_ (C1.out.trans (HC.out.trans CD.out))
    have AN := ANS.out
    have LH := HI
    go_wp2; go_ret2
    (first | exact ⟨i, by omega, LH.out.1, LH.out.2, by rw [AN]; first | rfl | (show Ending.returned (.tuple #[.int .i64 (i : Int), .bool (cmpEd x n s == 0)]) = _; rw [dz]), CE.out⟩ | exact ⟨i, by omega, LH.out.1, LH.out.2, by first | rfl | (rw [AN]; rfl), CE.out⟩ | exact ⟨i, by omega, LH.out.1, LH.out.2, by show Ending.returned (.tuple #[.int .i64 (i : Int), .bool (cmpEd x n s == 0)]) = _; rw [dz], CE.out⟩)
end
section
open Go.RowKit Go.Lib


set_option maxRecDepth 100000 in
theorem kept_first (n l n₁ g : Nat) (T X : List Nat) (a b : List Sp) (J Jx : List Sp → World → Prop) (W : World) (hg1 : g < n₁ ∧ g ∉ T) (hX : ∀ z ∈ X, z < n₁ ∧ z ∉ T) (hn₁ : n₁ ≤ W.heap.size)
  (hJ : ∀ pre A B, J pre A → Chg [g] A B → J pre B)
  (hY : ∀ pre x W1, J pre W1 → (B3 x ∧ (∀ y ∈ pre, Le y x) ∧ pre.length < potP a b ∧ ∀ n s, InS x n s → kF (memb a n s) (memb b n s) = true) → YieldAt Fence.wide n Tryz.prog l #[.agg #[.int .i64 x.1, .int .i64 x.2.1, .int .i64 x.2.2]] W1 fun e W' => (e = .returned (.bool true) ∧ J (pre ++ [x]) W' ∧ Kpt n₁ T W1 W') ∨ (e = .returned (.bool false) ∧ Jx (pre ++ [x]) W'))
  (h0 : SwP W g X a b 155) (ha : WfC a) (hb : WfC b) (hj : J [] W) :
  CallsIn Fence.wide (n + 1) Tryz.prog 156 #[.pointer (some ⟨g, 0, none⟩), .func (.yield l) #[] #[]] W fun e W' => (∃ v, e = .returned v) ∧ ((∃ pre, SwInv kF a b [] [] pre ∧ J pre W') ∨ ∃ pre, Jx pre W') := by
 refine callsIn_of_wp Tryz.func156 rfl trivial ?_ rfl
 simp only [Tryz.ntmps156, List.size_toArray, List.length_cons, List.length_nil, Nat.reduceAdd, Nat.reduceSub, Array.replicate_succ, Array.replicate_zero, List.push_toArray, List.append_toArray, List.nil_append, List.cons_append]
 have HK := h_ (fun (w : World) (x y : Bool) => first_any w x y)
 gi_wp2
 gi_loopg [] (dotsN a + dotsN b + 1) (fun G wr => ∃ (la lb pre : List Sp), Hid (SwInv kF a b la lb pre) ∧ Hid (SwP wr g X la lb 155) ∧ J pre wr ∧ Hid (n₁ ≤ wr.heap.size) ∧ dotsN la + dotsN lb < G)
 case atStart => exact ⟨a, b, [], h_ (SwInv.begin ha hb), h_ h0, hj, h_ hn₁, by omega⟩
 case round =>
  obtain ⟨la, lb, pre, HI, HS, hJs, HN, hG⟩ := hrel
  have HJ0 := h_ hJs
  have HG := h_ hG
  clear hJs hG
  by_cases hne : la ≠ [] ∨ lb ≠ []
  rotate_left
  ·
   have ea : la = [] := by by_cases e : la = []; exact e; exact absurd (.inl e) hne
   have eb : lb = [] := by by_cases e : lb = []; exact e; exact absurd (.inr e) hne
   subst ea; subst eb
   obtain ⟨A, c, B, d, hs⟩ := HS.out
   have z0 := cell_of hs.hg 0
   have z4 := cell_of hs.hg 4
   simp only [List.getElem?_toArray, List.getElem?_cons_succ, List.getElem?_cons_zero, hd_nil] at z0 z4
   clear hs hne
   gi_wp2
   go_end0
   exact ⟨⟨_, rfl⟩, .inl ⟨pre, HI.out, HJ0.out⟩⟩
  have so := step_ok HI.out.wa HI.out.wb hne
  have st := fun hX' => step_any wr g X la lb 155 HS.out hX' HI.out.wa HI.out.wb hne
  replace st := st (fun z hz => by have := (hX z hz).1; have := HN.out; omega)
  have c12 : ((hdP la).1 != 201) = true ∨ ((hdP la).1 != 201) = false ∧ ((hdP lb).1 != 201) = true := by
   cases la with
   | cons x r => left; have := HI.out.wa.2 x (by simp); rw [hd_cons]; simp; omega
   | nil =>
    right
    cases lb with
    | nil => exact absurd rfl (hne.elim id id)
    | cons x r => have := HI.out.wb.2 x (by simp); rw [hd_cons, hd_nil]; simp; omega
  generalize pieceP (hdP la) (hdP lb) = p at so st
  generalize inP (hdP la) (hdP lb) = ia at so st
  generalize inP (hdP lb) (hdP la) = ib at so st
  generalize leftP la ia p.2.2 = la' at so st
  generalize leftP lb ib p.2.2 = lb' at so st
  have KI := h_ (fun w => HK.out w ia ib)
  have SO := h_ so
  have ST := h_ st
  have ND0 := h_ (HI.out.step (k := kF) (by rfl) so)
  clear so st hne
  have OKP : Hid (SpOk p ∧ B3 p) := h_ (by have := SO.out.ok; unfold B3 SpOk at *; omega)
  obtain ⟨A, c, B, d, hs⟩ := HS.out
  have z0 := ce1 hs.hg
  have z4 := cell_of hs.hg 4
  simp only [gA, gY, gZ] at z4
  have GLT := h_ (lt_of_heap hs.hg)
  clear hs HS
  generalize (hdP la).1 = ha1 at *
  generalize (hdP lb).1 = hb1 at *
  generalize hkv : kF ia ib = kv at KI ND0
  cases kv
  case false =>
   have ND : Hid (SwInv kF a b la' lb' pre) := h_ (by have := ND0.out; rwa [if_neg (by simp)] at this)
   clear ND0 hkv
   rcases c12 with c1 | ⟨c1, c2⟩
   ·
    skip
    gi_wp2_with (refine ⟨trivial, ?_⟩; gi_at_call 192; refine (callsIn_wide.2 ST.out).mono ?_; rintro e w1 ⟨rfl, h1, h2⟩; obtain ⟨A', c', B', d', hs⟩ := h1; have HQ := h_ hs; have CG := h_ h2; have z8 : (w1.alloc (.cells #[.int .i64 p.1, .int .i64 p.2.1, .int .i64 p.2.2] 81)).cell? ⟨g, 8, none⟩ = some (.func (.func 155) #[] #[]) := ((Chg.refl [] w1).alloc _).cell (show w1.cell? ⟨g, 8, none⟩ = some (.func (.func 155) #[] #[]) from (cell_of hs.hg 8).trans rfl) (by simp); clear hs h2)
    clear z0 z4 c1
    obtain ⟨w2, hw2, c2', b2⟩ := news1 w1 (.cells #[.int .i64 p.1, .int .i64 p.2.1, .int .i64 p.2.2] 81)
    rw [← hw2] at z8 ⊢
    have B2 := h_ b2
    have C2 := h_ (CG.out.trans (c2'.mono (S' := [g]) (by simp)))
    replace HQ := h_ (HQ.out.chg c2' (by simp) (by simp))
    clear hw2 c2' b2
    generalize w1.heap.size = gp at *
    gi_wp2_with (refine ⟨trivial, ?_⟩; gi_at_call 155; refine (callsIn_wide.2 (KI.out _)).mono ?_; rintro e w3 ⟨rfl, hc⟩; have C3 := h_ hc; clear hc)
    refine ⟨(fun f hf => by cases hf), ?_⟩
    gi_wp2
    gi_roundg (dotsN la + dotsN lb)
    case measure => exact HG.out
    case rel => exact ⟨la', lb', pre, ND, h_ ⟨_, _, _, _, HQ.out.chg C3.out (by simp) (by simp)⟩, hJ _ _ _ HJ0.out (C2.out.trans (C3.out.mono (by simp))), h_ (Nat.le_trans HN.out (Nat.le_trans C2.out.size C3.out.size)), SO.out.dec⟩
   ·
    skip
    gi_wp2_with (refine ⟨trivial, ?_⟩; gi_at_call 192; refine (callsIn_wide.2 ST.out).mono ?_; rintro e w1 ⟨rfl, h1, h2⟩; obtain ⟨A', c', B', d', hs⟩ := h1; have HQ := h_ hs; have CG := h_ h2; have z8 : (w1.alloc (.cells #[.int .i64 p.1, .int .i64 p.2.1, .int .i64 p.2.2] 81)).cell? ⟨g, 8, none⟩ = some (.func (.func 155) #[] #[]) := ((Chg.refl [] w1).alloc _).cell (show w1.cell? ⟨g, 8, none⟩ = some (.func (.func 155) #[] #[]) from (cell_of hs.hg 8).trans rfl) (by simp); clear hs h2)
    clear z0 z4 c1 c2
    obtain ⟨w2, hw2, c2', b2⟩ := news1 w1 (.cells #[.int .i64 p.1, .int .i64 p.2.1, .int .i64 p.2.2] 81)
    rw [← hw2] at z8 ⊢
    have B2 := h_ b2
    have C2 := h_ (CG.out.trans (c2'.mono (S' := [g]) (by simp)))
    replace HQ := h_ (HQ.out.chg c2' (by simp) (by simp))
    clear hw2 c2' b2
    generalize w1.heap.size = gp at *
    gi_wp2_with (refine ⟨trivial, ?_⟩; gi_at_call 155; refine (callsIn_wide.2 (KI.out _)).mono ?_; rintro e w3 ⟨rfl, hc⟩; have C3 := h_ hc; clear hc)
    refine ⟨(fun f hf => by cases hf), ?_⟩
    gi_wp2
    gi_roundg (dotsN la + dotsN lb)
    case measure => exact HG.out
    case rel => exact ⟨la', lb', pre, ND, h_ ⟨_, _, _, _, HQ.out.chg C3.out (by simp) (by simp)⟩, hJ _ _ _ HJ0.out (C2.out.trans (C3.out.mono (by simp))), h_ (Nat.le_trans HN.out (Nat.le_trans C2.out.size C3.out.size)), SO.out.dec⟩
  case true =>
   have ND : Hid (SwInv kF a b la' lb' (pre ++ [p])) := h_ (by have := ND0.out; rwa [if_pos rfl] at this)
   have LEP : Hid (∀ y ∈ pre, Le y p) := h_ (fun y hy => (List.pairwise_append.1 ND.out.up).2.2 y hy p (by simp))
   have HYF := h_ (fun W' (hc : Chg [g] wr W') => hY pre p W' (hJ pre wr W' HJ0.out hc) ⟨OKP.out.2, LEP.out, by have := ND.out.cnt; simp at this; omega, fun n s q => (ND.out.m n s).2 (.inl (mem_append.2 (.inr (mem_one.2 q))))⟩)
   clear ND0 hkv
   rcases c12 with c1 | ⟨c1, c2⟩
   ·
    skip
    gi_wp2_with (refine ⟨trivial, ?_⟩; gi_at_call 192; refine (callsIn_wide.2 ST.out).mono ?_; rintro e w1 ⟨rfl, h1, h2⟩; obtain ⟨A', c', B', d', hs⟩ := h1; have HQ := h_ hs; have CG := h_ h2; have z8 : (w1.alloc (.cells #[.int .i64 p.1, .int .i64 p.2.1, .int .i64 p.2.2] 81)).cell? ⟨g, 8, none⟩ = some (.func (.func 155) #[] #[]) := ((Chg.refl [] w1).alloc _).cell (show w1.cell? ⟨g, 8, none⟩ = some (.func (.func 155) #[] #[]) from (cell_of hs.hg 8).trans rfl) (by simp); clear hs h2)
    clear z0 z4 c1
    obtain ⟨w2, hw2, c2', b2⟩ := news1 w1 (.cells #[.int .i64 p.1, .int .i64 p.2.1, .int .i64 p.2.2] 81)
    rw [← hw2] at z8 ⊢
    have B2 := h_ b2
    have C2 := h_ (CG.out.trans (c2'.mono (S' := [g]) (by simp)))
    replace HQ := h_ (HQ.out.chg c2' (by simp) (by simp))
    clear hw2 c2' b2
    generalize w1.heap.size = gp at *
    gi_wp2_with (refine ⟨trivial, ?_⟩; gi_at_call 155; refine (callsIn_wide.2 (KI.out _)).mono ?_; rintro e w3 ⟨rfl, hc⟩; have C3 := h_ hc; have b3 := hc.at_ B2.out (by simp); have y0 := cell_of b3 0; have y1 := cell_of b3 1; have y2 := cell_of b3 2; simp only [gA, gY, gZ] at y0 y1 y2; clear b3; obtain ⟨fn, tmps, assign, body, hy, hRn⟩ := HYF.out w3 (C2.out.trans (hc.mono (by simp))); clear hc)
    refine hRn.mono ?_
    clear y0 y1 y2 hy
    rintro e w4 (⟨rfl, hJ4, hk4⟩ | ⟨rfl, hx⟩)
    ·
     have J4 := h_ hJ4
     have K4 := h_ hk4
     clear hJ4 hk4 hRn
     gi_wp2
     gi_roundg (dotsN la + dotsN lb)
     case measure => exact HG.out
     case rel => exact ⟨la', lb', pre ++ [p], ND, h_ ((show SwP w3 g X la' lb' 155 from ⟨_, _, _, _, HQ.out.chg C3.out (by simp) (by simp)⟩).kpt K4.out hg1 hX), J4.out, h_ (Nat.le_trans HN.out (Nat.le_trans C2.out.size (Nat.le_trans C3.out.size K4.out.size))), SO.out.dec⟩
    ·
     have JX := h_ hx
     clear hx hRn
     gi_wp2
     refine bodyPost_ret (results_none rfl _ _ _) rfl ?_
     exact ⟨⟨_, rfl⟩, .inr ⟨_, JX.out⟩⟩
   ·
    skip
    gi_wp2_with (refine ⟨trivial, ?_⟩; gi_at_call 192; refine (callsIn_wide.2 ST.out).mono ?_; rintro e w1 ⟨rfl, h1, h2⟩; obtain ⟨A', c', B', d', hs⟩ := h1; have HQ := h_ hs; have CG := h_ h2; have z8 : (w1.alloc (.cells #[.int .i64 p.1, .int .i64 p.2.1, .int .i64 p.2.2] 81)).cell? ⟨g, 8, none⟩ = some (.func (.func 155) #[] #[]) := ((Chg.refl [] w1).alloc _).cell (show w1.cell? ⟨g, 8, none⟩ = some (.func (.func 155) #[] #[]) from (cell_of hs.hg 8).trans rfl) (by simp); clear hs h2)
    clear z0 z4 c1 c2
    obtain ⟨w2, hw2, c2', b2⟩ := news1 w1 (.cells #[.int .i64 p.1, .int .i64 p.2.1, .int .i64 p.2.2] 81)
    rw [← hw2] at z8 ⊢
    have B2 := h_ b2
    have C2 := h_ (CG.out.trans (c2'.mono (S' := [g]) (by simp)))
    replace HQ := h_ (HQ.out.chg c2' (by simp) (by simp))
    clear hw2 c2' b2
    generalize w1.heap.size = gp at *
    gi_wp2_with (refine ⟨trivial, ?_⟩; gi_at_call 155; refine (callsIn_wide.2 (KI.out _)).mono ?_; rintro e w3 ⟨rfl, hc⟩; have C3 := h_ hc; have b3 := hc.at_ B2.out (by simp); have y0 := cell_of b3 0; have y1 := cell_of b3 1; have y2 := cell_of b3 2; simp only [gA, gY, gZ] at y0 y1 y2; clear b3; obtain ⟨fn, tmps, assign, body, hy, hRn⟩ := HYF.out w3 (C2.out.trans (hc.mono (by simp))); clear hc)
    refine hRn.mono ?_
    clear y0 y1 y2 hy
    rintro e w4 (⟨rfl, hJ4, hk4⟩ | ⟨rfl, hx⟩)
    ·
     have J4 := h_ hJ4
     have K4 := h_ hk4
     clear hJ4 hk4 hRn
     gi_wp2
     gi_roundg (dotsN la + dotsN lb)
     case measure => exact HG.out
     case rel => exact ⟨la', lb', pre ++ [p], ND, h_ ((show SwP w3 g X la' lb' 155 from ⟨_, _, _, _, HQ.out.chg C3.out (by simp) (by simp)⟩).kpt K4.out hg1 hX), J4.out, h_ (Nat.le_trans HN.out (Nat.le_trans C2.out.size (Nat.le_trans C3.out.size K4.out.size))), SO.out.dec⟩
    ·
     have JX := h_ hx
     clear hx hRn
     gi_wp2
     refine bodyPost_ret (results_none rfl _ _ _) rfl ?_
     exact ⟨⟨_, rfl⟩, .inr ⟨_, JX.out⟩⟩
end
section
open Go.RowKit Go.Lib


theorem may_any (w : World) (A : Option Addr) (n c : Nat) (xs : List Sp) (h : RdK spanTy w A n xs) (hn : n ≤ 140737488351232) (B : Option Addr) (m d : Nat) (ys : List Sp) (h' : RdK spanTy w B m ys) (hm : m ≤ 140737488351232) :
  Calls Tryz.prog 153 #[.slice A n c, .slice B m d] w fun e w' => e = .returned (.bool (decide (chkS xs = 0 ∧ chkS ys = 0))) ∧ Chg [] w w' := by
 have H := h_ h
 have H' := h_ h'
 have HN := h_ hn
 have HM := h_ hm
 clear h h' hn hm
 have go : ∀ v, decide (chkS xs = 0 ∧ chkS ys = 0) = v → Calls Tryz.prog 153 #[.slice A n c, .slice B m d] w (fun e w' => e = .returned (.bool v) ∧ Chg [] w w') → Calls Tryz.prog 153 #[.slice A n c, .slice B m d] w fun e w' => e = .returned (.bool (decide (chkS xs = 0 ∧ chkS ys = 0))) ∧ Chg [] w w' := fun v hv h => hv ▸ h
 rcases chk_two xs with e1 | e1 <;> rcases chk_two ys with e2 | e2
 ·
  refine go true (by rw [e1, e2]; rfl) ?_
  clear go
  go_enter Tryz.func153, Tryz.ntmps153
  go_wp2_with fail
  refine (pacheck_any w A n c xs H.out HN.out).mono ?_
  rintro e w1 ⟨rfl, h1⟩
  rw [e1]
  have C1 := h_ h1
  clear h1; go_wp2_with fail
  refine (pacheck_any w1 B m d ys (H'.out.chg C1.out (by simp)) HM.out).mono ?_
  rintro e w2 ⟨rfl, h2⟩
  rw [e2]
  have C2 := h_ (C1.out.trans h2)
  clear h2; go_wp2; go_ret
  exact ⟨rfl, C2.out⟩
 ·
  refine go false (by rw [e1, e2]; rfl) ?_
  clear go
  go_enter Tryz.func153, Tryz.ntmps153
  go_wp2_with fail
  refine (pacheck_any w A n c xs H.out HN.out).mono ?_
  rintro e w1 ⟨rfl, h1⟩
  rw [e1]
  have C1 := h_ h1
  clear h1; go_wp2_with fail
  refine (pacheck_any w1 B m d ys (H'.out.chg C1.out (by simp)) HM.out).mono ?_
  rintro e w2 ⟨rfl, h2⟩
  rw [e2]
  have C2 := h_ (C1.out.trans h2)
  clear h2; go_wp2; go_ret
  exact ⟨rfl, C2.out⟩
 ·
  refine go false (by rw [e1, e2]; rfl) ?_
  clear go
  go_enter Tryz.func153, Tryz.ntmps153
  go_wp2_with fail
  refine (pacheck_any w A n c xs H.out HN.out).mono ?_
  rintro e w1 ⟨rfl, h1⟩
  rw [e1]
  have C1 := h_ h1
  clear h1; go_wp2; go_ret
  exact ⟨rfl, C1.out⟩
 ·
  refine go false (by rw [e1, e2]; rfl) ?_
  clear go
  go_enter Tryz.func153, Tryz.ntmps153
  go_wp2_with fail
  refine (pacheck_any w A n c xs H.out HN.out).mono ?_
  rintro e w1 ⟨rfl, h1⟩
  rw [e1]
  have C1 := h_ h1
  clear h1; go_wp2; go_ret
  exact ⟨rfl, C1.out⟩
end
section
open Go.RowKit Go.Lib
attribute [local go_sem] Oper.semAt_some

theorem minus_one {a b : List Sp} {x : Sp} (ha : WfC a) (hb : WfC b) (hx : B3 x) (h : ∀ n s, InS x n s → kF (memb a n s) (memb b n s) = true) : b.foldl withoutP a ≠ [] := by
 intro e
 obtain ⟨_, f⟩ := withouts_norm (b := b) hb.1.1 ha.1
 have q := h x.1 x.2.1 ⟨rfl, Int.le_refl _, by unfold B3 at hx; omega⟩
 unfold kF at q
 rw [Bool.and_eq_true, memb_iff] at q
 have m := (f x.1 x.2.1).2 ⟨q.1, by have := q.2; simpa [memb] using this⟩
 rw [e] at m
 exact mem_nil m
theorem within_result (tmps : Array Value) (w : World) (g : Nat) (v : Value) (hp : tmps[4]?.getD undef = .pointer (some ⟨g, 0, none⟩)) (hc : w.cell? ⟨g, 0, none⟩ = some v) : (results Tryz.f103 tmps).run Tryz.prog w = .ok v w := by
 have h : Tryz.f103.results = #[.cell 4 4] := rfl
 simp [results, h, hp, asAddr, go_sem, loadVar, Tryz.underlying4, hc]
def oldB (xs : List Sp) (A : Option Addr) : List Nat := if xs = [] then [] else blkOf A
theorem oldB_in (xs : List Sp) (A : Option Addr) : xs = [] ∨ ∀ a, A = some a → a.block ∈ oldB xs A := by
 by_cases h : xs = []
 ·
  exact .inl h
 ·
  exact .inr (fun a ha => by unfold oldB; rw [if_neg h]; exact mem_blkOf ha)
theorem oldB_of {xs : List Sp} {A : Option Addr} {i : Nat} (h : i ∈ oldB xs A) : xs ≠ [] ∧ ∃ a, A = some a ∧ a.block = i := by
 unfold oldB at h
 by_cases q : xs = []
 ·
  rw [if_pos q] at h; cases h
 ·
  rw [if_neg q] at h; exact ⟨q, of_blkOf h⟩
set_option maxRecDepth 100000 in
theorem within_anyw (w : World) (A : Option Addr) (c : Nat) (xs : List Sp) (B : Option Addr) (d : Nat) (ys : List Sp) (h : RdK spanTy w A xs.length xs) (hc : xs.length ≤ c ∧ c ≤ maxLen) (ho : xs = [] ∨ ∀ a, A = some a → a.block < w.heap.size) (h' : RdK spanTy w B ys.length ys) (hd : ys.length ≤ d ∧ d ≤ maxLen) (ho' : ys = [] ∨ ∀ a, B = some a → a.block < w.heap.size) (hn : xs.length ≤ 140737488351232) (hm : ys.length ≤ 140737488351232) :
  Calls Tryz.prog 103 #[.slice A xs.length c, .slice B ys.length d] w fun e w' => e = .returned (.bool (withinE xs ys)) ∧ Chg [] w w' := by
 obtain ⟨w0, hw0, c0, b0⟩ := news1 w (.cells #[.bool false] 4)
 have W0 := h_ hw0
 have C0 := h_ c0
 have B0 := h_ b0
 have LR := h_ (lt_of_heap b0)
 have H := h_ (h.chg c0 (by simp))
 have H' := h_ (h'.chg c0 (by simp))
 have HC := h_ hc
 have HD := h_ hd
 have HO := h_ ho
 have HO' := h_ ho'
 have HN := h_ (show xs.length ≤ 140737488351232 ∧ ys.length ≤ 140737488351232 from ⟨hn, hm⟩)
 clear h h' hc hd ho ho' hn hm hw0 c0 b0
 have M := h_ (may_any w0 A xs.length c xs H.out HN.out.1 B ys.length d ys H'.out HN.out.2)
 by_cases hk : chkS xs = 0 ∧ chkS ys = 0
 rotate_left
 ·
  have eE : withinE xs ys = false := by unfold withinE; rw [decide_eq_false hk]; rfl
  rw [decide_eq_false hk] at M
  rw [eE]
  clear hk eE
  go_enter Tryz.func103, Tryz.ntmps103
  go_upto_region 1 with fail
  rw [← W0.out]
  generalize hr0 : w.heap.size = r0 at *
  have HR := h_ hr0
  clear hr0; go_wp2_with fail
  refine M.out.mono ?_
  rintro e w1 ⟨rfl, h1⟩
  have C1 := h_ (C0.out.trans h1)
  have b1 := h1.at_ B0.out (by simp)
  have z0 := cell_of b1 0
  have f0 := free_of b1 0
  simp only [gA, gY, gZ] at z0
  have B1 := h_ b1
  clear h1 M b1; go_wp2
  have Z : (w1.setCell ⟨r0, 0, none⟩ (.bool false)).cell? ⟨r0, 0, none⟩ = some (.bool false) := by
   have p := cell_of (heap_setCell_same w1 r0 0 _ _ (.bool false) B1.out) 0
   simpa using p
  refine bodyPost_ret (within_result _ _ r0 _ rfl Z) rfl ?_
  exact ⟨rfl, C1.out.setCell (.inr (Nat.le_of_eq HR.out)) _⟩
 have eE : withinE xs ys = decide (ys.foldl withoutP xs = []) := by unfold withinE; rw [decide_eq_true hk]; rfl
 rw [decide_eq_true hk] at M
 rw [eE]
 obtain ⟨wa, la⟩ := wf_of_chk hk.1
 obtain ⟨wb, lb⟩ := wf_of_chk hk.2
 have WA := h_ wa
 have WB := h_ wb
 have LL := h_ (show xs.length + ys.length ≤ 10000 by omega)
 generalize hRR : decide (ys.foldl withoutP xs = []) = RR
 have HRR := h_ hRR
 clear hRR hk wa wb la lb eE
 refine (callsIn_wide (n := 6)).1 ?_
 refine callsIn_of_wp_marks Tryz.func103 rfl trivial ?_ rfl
 simp only [Tryz.ntmps103, List.size_toArray, List.length_cons, List.length_nil, Nat.reduceAdd, Nat.reduceSub, Array.replicate_succ, Array.replicate_zero, List.push_toArray, List.append_toArray, List.nil_append, List.cons_append]
 obtain ⟨r0, hr0⟩ : ∃ r, w.heap.size = r := ⟨_, rfl⟩
 have HR := h_ hr0
 rw [hr0] at B0 LR
 clear hr0
 have OVER := h_ (fun (w1 : World) (h1 : Chg [] w0 w1) => over_anyw w1 A c xs B d ys 155 (oldB xs A ++ oldB ys B) (H.out.chg h1 (by simp)) HC.out (HO.out.imp id (fun q a ha => Nat.lt_of_lt_of_le (q a ha) (Nat.le_trans C0.out.size h1.size))) (H'.out.chg h1 (by simp)) HD.out (HO'.out.imp id (fun q a ha => Nat.lt_of_lt_of_le (q a ha) (Nat.le_trans C0.out.size h1.size))) ((oldB_in xs A).imp id (fun q a ha => List.mem_append_left _ (q a ha))) ((oldB_in ys B).imp id (fun q a ha => List.mem_append_right _ (q a ha))) (fun z hz => by
  have s1 := C0.out.size
  have s2 := h1.size
  rcases List.mem_append.1 hz with e | e
  ·
   obtain ⟨ne, y, hy, rfl⟩ := oldB_of e
   have := HO.out.resolve_left ne y hy; omega
  ·
   obtain ⟨ne, y, hy, rfl⟩ := oldB_of e
   have := HO'.out.resolve_left ne y hy; omega))
 have BX : Hid (∀ z ∈ oldB xs A ++ oldB ys B, z < r0) := h_ (fun z hz => by
  have := HR.out
  rcases List.mem_append.1 hz with e | e
  ·
   obtain ⟨ne, y, hy, rfl⟩ := oldB_of e
   have := HO.out.resolve_left ne y hy; omega
  ·
   obtain ⟨ne, y, hy, rfl⟩ := oldB_of e
   have := HO'.out.resolve_left ne y hy; omega)
 gi_wp2_with (refine ⟨trivial, ?_⟩; first | (gi_at_call 153; rw [← W0.out]; refine (callsIn_wide.2 M.out).mono ?_; rintro e w1 ⟨rfl, h1⟩; have C1 := h_ h1; clear h1) | (gi_at_call 154; refine (callsIn_wide.2 (OVER.out _ C1.out)).mono ?_; rintro e w2 ⟨g, rfl, h1, h2, h3⟩; have SW := h_ h1; have GG := h_ h2; have C2 := h_ (C1.out.trans h3); clear h1 h2 h3))
 rw [HR.out]
 have gr : r0 < g := by have := LR.out; have := C1.out.size; have := GG.out; omega
 have LG := h_ (show g < w2.heap.size from by obtain ⟨_, _, _, _, q⟩ := SW.out; exact lt_of_heap q.hg)
 have R2 := h_ (C2.out.at_ B0.out (by simp))
 have lr := lt_of_heap R2.out
 have lg := LG.out
 have GR := h_ gr
 refine range_bound (gf := 156) (bd := #[.pointer (some ⟨g, 0, none⟩)]) (lb := #[]) rfl (enters_of Tryz.func156 (by kernel_rfl) rfl) (encs := fun x : Sp => #[.agg #[.int .i64 x.1, .int .i64 x.2.1, .int .i64 x.2.2]]) (n₁ := w2.heap.size) (Nat.le_refl _)
  (S := fun pre => SwInv kF xs ys [] [] pre) (Sp := fun _ => True) (Ex := fun pre x _ => B3 x ∧ (∀ y ∈ pre, Le y x) ∧ pre.length < potP xs ys ∧ ∀ n s, InS x n s → kF (memb xs n s) (memb ys n s) = true) (Bd := fun _ => True) (Si := [g]) (T := [r0]) ?si ?seq (fun _ => rfl)
  (fun pre W => pre = [] ∧ W.heap[r0]? = some (.cells #[.bool false] 4 (0, 0)) ∧ Chg [g] w2 W)
  (fun c pre W => c = .ret ∧ ys.foldl withoutP xs ≠ [] ∧ W.heap[r0]? = some (.cells #[.bool false] 4 (0, 0)) ∧ Chg [g, r0] w2 W)
  ?keep ?keepx ?kl ?kxl ?bd ⟨rfl, R2.out, Chg.refl _ _⟩ ?elem
  (fun x => { tmps := #[.slice A xs.length c, .slice B ys.length d, undef, undef, .pointer (some ⟨r0, 0, none⟩), .slice A xs.length c, .slice B ys.length d, .bool true, .bool false, .slice A xs.length c, .slice B ys.length d, .pointer (some ⟨g, 0, none⟩), .func (.func 156) #[.pointer (some ⟨g, 0, none⟩)] #[], .agg #[.int .i64 x.1, .int .i64 x.2.1, .int .i64 x.2.2]], defers := [] }) ?assign ?body ?done ?stop
 case si => intro x hx; simp at hx; omega
 case seq =>
  intro l' J Jx W hW hJ hJx hJb hY h0
  have hs2 := hW.size
  have sw : SwP W g (oldB xs A ++ oldB ys B) xs ys 155 := SW.out.chg (Chg.ofBelow hW (Nat.le_refl _) []) (by simp) (by simp)
  refine (kept_first 4 l' w2.heap.size g [r0] (oldB xs A ++ oldB ys B) xs ys J Jx W ⟨by omega, by simp; omega⟩ (fun z hz => by have := BX.out z hz; simp; omega) (by omega) hJ hY sw WA.out WB.out h0).mono ?_
  rintro e W' ⟨h1, h2 | ⟨pre, h2⟩⟩
  ·
   exact ⟨h1, .inl h2⟩
  ·
   exact ⟨h1, .inr ⟨pre, trivial, h2⟩⟩
 case keep =>
  rintro pre A' B' ⟨hp, e1, hC⟩ hb
  exact ⟨hp, hb.at_ e1 (by simp; omega), hC.trans hb⟩
 case keepx =>
  rintro c pre A' B' ⟨hc, hp, e1, hC⟩ hb
  exact ⟨hc, hp, hb.at_ e1 (by simp; omega), hC.trans (hb.mono (by simp))⟩
 case kl =>
  rintro pre W l o o' hl ho hll ⟨hp, e1, hC⟩
  exact ⟨hp, (World.putObj_heap_other (by omega)).trans e1, hC.putl (by omega)⟩
 case kxl =>
  rintro c pre W l o o' hl ho hll ⟨hc, hp, e1, hC⟩
  exact ⟨hc, hp, (World.putObj_heap_other (by omega)).trans e1, hC.putl (by omega)⟩
 case bd => exact fun _ _ _ => trivial
 case elem => rintro pre x W l o o' hl ho hx; exact hx
 case assign =>
  intro l x W K hK
  clear lg lr gr
  gi_wp2
  have ez : (#[13].zip #[Value.agg #[Value.int IntKind.i64 x.1, Value.int IntKind.i64 x.2.1, Value.int IntKind.i64 x.2.2]] : Array (Nat × Value)) = #[(13, Value.agg #[Value.int IntKind.i64 x.1, Value.int IntKind.i64 x.2.1, Value.int IntKind.i64 x.2.2])] := by simp [List.zip_toArray]
  rw [ez]
  simpa using hK
 case body =>
  rintro l' pre x W ⟨hp, e1, hC⟩ ⟨hx, hle, hcnt, hk⟩
  have NE := h_ (minus_one WA.out WB.out hx hk)
  have E1 := h_ e1
  have HC1 := h_ hC
  have z0 := cell_of e1 0
  have f0 := free_of e1 0
  simp only [gA, gZ] at z0
  clear hp e1 hC hx hle hcnt hk lg lr gr
  gi_wp2
  exact ⟨KeepsOthers.setCell _ _ _, rfl, NE.out, by simpa using heap_setCell_same W r0 0 _ _ (.bool false) E1.out, (HC1.out.mono (by simp)).setCell (p := ⟨r0, 0, none⟩) (.inl (by simp)) _⟩
 case done =>
  rintro D zs W hD hS ⟨rfl, e1, hC⟩ hK
  have HE : Hid (RR = true) := h_ (by rw [← HRR.out]; exact decide_eq_true (minus_eq WA.out WB.out hS).symm)
  have E1 := h_ e1
  have HC1 := h_ hC
  have z0 := cell_of e1 0
  have f0 := free_of e1 0
  simp only [gA, gZ] at z0
  clear hS e1 hC lg lr gr
  gi_wp2
  have ne : D ≠ r0 := by have := lt_of_heap R2.out; omega
  have gw : w.heap.size ≤ g := by have := HR.out; have := GR.out; omega
  have dw : w.heap.size ≤ D := Nat.le_trans (C0.out.trans C2.out).size hD
  have Z : ∀ o, ((W.setCell ⟨r0, 0, none⟩ (.bool true)).putObj D o).cell? ⟨r0, 0, none⟩ = some (.bool true) := fun o => by
   have p := cell_of ((World.putObj_heap_other (o := o) (fun e => ne e.symm)).trans (heap_setCell_same W r0 0 _ _ (.bool true) E1.out)) 0
   simpa using p
  refine ⟨by simp, .inl ⟨_, _, rfl, run_takeDeferred ((heap_setCell_other W ⟨r0, 0, none⟩ D _ ne).trans hK), ?_⟩⟩
  exact ⟨_, within_result _ _ r0 _ rfl (Z _), by rw [HE.out], (((C0.out.trans C2.out).trans' HC1.out (fun z hz => by simp at hz; subst hz; exact .inr gw)).setCell (p := ⟨r0, 0, none⟩) (.inr (Nat.le_of_eq HR.out)) (.bool true)).putl dw⟩
 case stop =>
  rintro D c zs W hD _ ⟨rfl, hne, e1, hC⟩ hK
  have HE : Hid (RR = false) := h_ (by rw [← HRR.out]; exact decide_eq_false hne)
  have E1 := h_ e1
  have HC1 := h_ hC
  have z0 := ce1 e1
  clear hne e1 hC lg lr gr
  gi_wp2
  have ne : D ≠ r0 := by have := lt_of_heap R2.out; omega
  have gw : w.heap.size ≤ g := by have := HR.out; have := GR.out; omega
  have dw : w.heap.size ≤ D := Nat.le_trans (C0.out.trans C2.out).size hD
  have Z : ∀ o, ((W).putObj D o).cell? ⟨r0, 0, none⟩ = some (.bool false) := fun o => by
   have p := cell_of ((World.putObj_heap_other (o := o) (fun e => ne e.symm)).trans (E1.out)) 0
   simpa using p
  refine ⟨by simp, .inl ⟨_, _, rfl, run_takeDeferred (hK), ?_⟩⟩
  exact ⟨_, within_result _ _ r0 _ rfl (Z _), by rw [HE.out], ((C0.out.trans C2.out).trans' HC1.out (fun z hz => by simp at hz; rcases hz with rfl | rfl; exact .inr gw; exact .inr (Nat.le_of_eq HR.out))).putl dw⟩
end
section
open Go.RowKit Go.Lib


def FitW (w : World) (A : Option Addr) (n c : Nat) : Prop := n ≤ c ∧ c ≤ maxLen ∧ (n = 0 ∨ ∀ a, A = some a → a.block < w.heap.size)
theorem FitW.chg {S : List Nat} {w w' : World} {A : Option Addr} {n c : Nat} (h : FitW w A n c) (hc : Chg S w w') : FitW w' A n c := ⟨h.1, h.2.1, h.2.2.imp id (fun q a ha => Nat.lt_of_lt_of_le (q a ha) hc.size)⟩
def FitE (w : World) (xs : List EvT) : Prop := ∀ x ∈ xs, FitW w x.B x.bl x.bc
theorem FitE.chg {S : List Nat} {w w' : World} {xs : List EvT} (h : FitE w xs) (hc : Chg S w w') : FitE w' xs := fun x hx => (h x hx).chg hc
def brings1 (m : List EvP) (e : EvP) (s : Sp) : Bool := m.all (fun x => !(decide (InS s x.n x.s)) || withinE x.q e.q)
theorem brings_all (m : List EvP) (e : EvP) : bringsE m e = e.q.all (brings1 m e) := rfl
theorem brings1_no {m : List EvP} {e : EvP} {s : Sp} {i : Nat} {x : EvP} (hx : m[i]? = some x) (hi : InS s x.n x.s) (hw : withinE x.q e.q = false) : brings1 m e s = false := by
 rcases q : brings1 m e s with _ | _
 ·
  rfl
 ·
  have := List.all_eq_true.1 q x (List.mem_of_getElem? hx)
  rw [decide_eq_true hi, hw] at this
  exact absurd this (by decide)
theorem brings_no {m : List EvP} {e : EvP} {k : Nat} {s : Sp} (hs : e.q[k]? = some s) (h : brings1 m e s = false) : bringsE m e = false := by
 rcases q : bringsE m e with _ | _
 ·
  rfl
 ·
  rw [brings_all] at q
  have := List.all_eq_true.1 q s (List.mem_of_getElem? hs)
  rw [h] at this
  exact absurd this (by decide)
theorem brings1_yes {w : World} {xs : List EvT} {es : List EvP} {e : EvP} {s : Sp} {i0 i : Nat} (hr : EvsR w xs es) (hu : UpE xs) (lo : LoE xs s.1 s.2.1 i0) (hi : HiE xs s.1 s.2.1 i0) (h0 : i0 ≤ i)
  (hd : ∀ (p : Nat) (x : EvP), i0 ≤ p → p < i → es[p]? = some x → withinE x.q e.q = true) (hs : ∀ x, xs[i]? = some x → ¬ (x.n = s.1 ∧ x.s ≤ s.2.2)) : brings1 es e s = true := by
 unfold brings1
 rw [List.all_eq_true]
 intro y hy
 by_cases q : InS s y.n y.s
 ·
  obtain ⟨p, hp, rfl⟩ := List.getElem_of_mem hy
  have hpe := List.getElem?_eq_getElem hp
  obtain ⟨x, f, ex, ef, rx⟩ := hr.at_ (show p < xs.length by rw [hr.1]; exact hp)
  rw [hpe] at ef
  cases ef
  rw [← rx.n, ← rx.s] at q
  unfold InS at q
  have h1 : i0 ≤ p := by
   by_cases c : p < i0
   ·
    have := lo p x ex c
    unfold LtD at this
    omega
   ·
    omega
  have h2 : p < i := by
   by_cases c : p < i
   ·
    exact c
   ·
    exfalso
    have hi2 : i < xs.length := by have := (List.getElem?_eq_some_iff.1 ex).1; omega
    have hz := List.getElem?_eq_getElem hi2
    have a := hs _ hz
    have b := hi i _ hz h0
    unfold LtD at b
    by_cases d : p = i
    ·
     subst d
     rw [hz] at ex
     cases ex
     omega
    ·
     have u := up_at hu hz ex (by omega)
     unfold LtD at u
     omega
  rw [hd p _ h1 h2 hpe, Bool.or_true]
 ·
  rw [decide_eq_false q]
  rfl
theorem all_take_succ {α : Type} {p : α → Bool} {l : List α} {k : Nat} {x : α} (h : l[k]? = some x) : (l.take (k + 1)).all p = ((l.take k).all p && p x) := by
 rw [List.take_add_one, h]
 simp
set_option maxRecDepth 100000 in
theorem evbrings_any (w : World) (A : Option Addr) (c : Nat) (xs : List EvT) (es : List EvP) (y : EvT) (f : EvP) (h : RdK evTy w A xs.length xs) (hx : EvsR w xs es) (hu : UpE xs) (hf : FitE w xs) (hy : EvR w y f) (fy : FitW w y.B y.bl y.bc) (hn : xs.length ≤ 100000) (hs : (∀ e ∈ es, e.q.length ≤ 140737488351232) ∧ f.q.length ≤ 140737488351232) :
  Calls Tryz.prog 59 #[.slice A xs.length c, .agg #[.int .i64 y.n, .int .i64 y.s, .string y.p, .int .i64 y.k, .int .i64 y.m, .slice y.A y.l y.c, .slice y.B y.bl y.bc]] w fun r w' => r = .returned (.bool (bringsE es f)) ∧ Chg [] w w' := by

 have HA := h_ h
 have HX := h_ hx
 have HU := h_ hu
 have HF := h_ hf
 have HY := h_ hy
 have FY := h_ fy
 have HN := h_ hn
 have HS := h_ hs
 clear h hx hu hf hy fy hn hs
 obtain ⟨w1, hw1, c1, b1⟩ := news1 w (.cells #[.int .i64 y.n, .int .i64 y.s, .string y.p, .int .i64 y.k, .int .i64 y.m, .slice y.A y.l y.c, .slice y.B y.bl y.bc] 40)
 have W1 := h_ hw1
 have B1 := h_ b1
 have C1 := h_ c1
 clear hw1 c1 b1
 go_enter Tryz.func59, Tryz.ntmps59
 go_upto_region 1 with fail
 rw [← W1.out]
 generalize w.heap.size = g3 at *
 clear W1
 obtain ⟨y0, y1, y2, y3, y4, y5, y6⟩ := ce7 B1.out
 go_wp2; clear y0 y1 y2 y3 y4 y5 y6
 have YBL : Hid (y.bl = f.q.length) := h_ HY.out.bl
 rw [YBL.out]
 go_loopw [12] (fun v12 wr => ∃ (k : Nat), k ≤ f.q.length ∧ v12 = .int .i64 k ∧ Hid ((f.q.take k).all (brings1 es f) = true) ∧ Hid (Chg [] w1 wr)) (fun v12 _ => f.q.length - (RowKit.intOf v12).toNat)
 case atStart => exact ⟨0, Nat.zero_le _, rfl, h_ rfl, Chg.refl _ _⟩
 case round =>
  obtain ⟨k, hk, rfl, BK, PC⟩ := hrel
  have j0 : (0 : Int) ≤ (k : Int) := by omega
  by_cases hlt : k < f.q.length
  ·
   have j1 : (k : Int) < (f.q.length : Int) := by omega
   have j3 : IntKind.i64.wrap ((k : Int) + 1) = (k : Int) + 1 := IntWalk.i64_in _ (by have := HS.out.2; omega)
   obtain ⟨s, hs⟩ : ∃ s, f.q[k]? = some s := ⟨_, List.getElem?_eq_getElem hlt⟩
   have RQ := (HY.out.chg (C1.out.trans PC.out)).B
   rw [YBL.out] at RQ
   obtain ⟨g4, o4, eB, _⟩ := RQ.line (by omega)
   obtain ⟨q0, q1, q2⟩ := spanCells (eB ▸ RQ) hs
   have EB := h_ eB
   rw [EB.out]
   have SS := h_ hs
   clear RQ hs eB
   obtain ⟨w5, hw5, c5, b5⟩ := news1 wr (.cells #[.int .i64 s.1, .int .i64 s.2.1, .int .i64 s.2.2] 81)
   have W5 := h_ hw5
   have B5 := h_ b5
   replace PC := h_ (PC.out.trans c5)
   clear hw5 c5 b5
   go_upto_region 4 with fail
   rw [← W5.out]
   generalize wr.heap.size = g6 at *
   clear W5 q0 q1 q2
   obtain ⟨y0, y1, y2⟩ := ce3 B5.out
   go_wp2_with fail; clear y0 y1 y2
   refine (binev_any w5 A c xs s.1 s.2.1 (HA.out.chg (C1.out.trans PC.out) (by simp)) HU.out HN.out).mono ?_
   rintro r w6 ⟨i0, hi0, lo, hi, rfl, hc⟩
   have LO := h_ lo
   have HI := h_ hi
   replace B5 := h_ (hc.at_ B5.out (by simp))
   replace PC := h_ (PC.out.trans hc)
   clear lo hi hc
   have PC6 := PC
   go_wp2
   go_loopw [7] (fun v7 wr => ∃ (i : Nat), i0 ≤ i ∧ i ≤ xs.length ∧ v7 = .int .i64 i ∧ Hid (∀ (p : Nat) (x : EvP), i0 ≤ p → p < i → es[p]? = some x → withinE x.q f.q = true) ∧ Hid (Chg [] w6 wr)) (fun v7 _ => xs.length - (RowKit.intOf v7).toNat)
   case atStart => exact ⟨i0, Nat.le_refl _, hi0, rfl, h_ (fun p x a b => absurd b (by omega)), Chg.refl _ _⟩
   case round =>
    obtain ⟨i, h0, hi, rfl, DN, QC⟩ := hrel
    have l0 : (0 : Int) ≤ (i : Int) := by omega
    have B7 := h_ (QC.out.at_ B5.out (by simp))
    have T7 := h_ ((C1.out.trans PC.out).trans QC.out)
    have BY := h_ ((PC.out.trans QC.out).at_ B1.out (by simp))
    have b2 := cell_of B7.out 2
    have b0 := ce1 B7.out
    simp only [gA, gY, gZ] at b2
    by_cases hil : i < xs.length
    rotate_left
    ·
     have l1 : decide ((i : Int) < (xs.length : Int)) = false := by simp; omega
     have l2 : decide (i < xs.length) = false := by simp; omega
     have l3 : ¬ (i : Int) < (xs.length : Int) := by omega
     have YES : Hid (brings1 es f s = true) := h_ (brings1_yes HX.out HU.out LO.out HI.out h0 DN.out (fun x hx => absurd (List.getElem?_eq_some_iff.1 hx).1 hil))
     go_upto_region 5 with fail
     go_quiet (fail)
     have hq := (Chg.refl [] wr).drewN nq
     generalize wr.drewN nq = w8 at *
     replace T7 := h_ ((PC.out.trans QC.out).trans hq)
     clear hq b0 b2
     have BK1 : Hid ((f.q.take (k + 1)).all (brings1 es f) = true) := h_ (by rw [all_take_succ SS.out, BK.out, YES.out]; rfl)
     go_wp2; go_round
     case rel => exact ⟨k + 1, by omega, by go_num, BK1, T7⟩
     case measure => simp [RowKit.intOf]; omega
    have l1 : decide ((i : Int) < (xs.length : Int)) = true := by simp; omega
    have l2 : decide (i < xs.length) = true := by simp; omega
    have l4 : (i : Int) < (xs.length : Int) := by omega
    obtain ⟨x, e, ex, ee, rx⟩ := HX.out.at_ hil
    obtain ⟨g8, o8, eA, _⟩ := HA.out.line (by omega)
    subst eA
    obtain ⟨z0, z1, z2, z3, z4, z5, z6⟩ := evCells (HA.out.chg T7.out (by simp)) ex
    have EX := h_ ex
    have EE := h_ ee
    have RX := h_ rx
    clear ex ee rx
    by_cases f1 : x.n = s.1
    rotate_left
    ·
     skip
     have YES : Hid (brings1 es f s = true) := h_ (brings1_yes HX.out HU.out LO.out HI.out h0 DN.out (fun x2 hx => by rw [EX.out] at hx; cases hx; exact fun q => f1 q.1))
     have f2 : ((x.n == s.1) : Bool) = false := by simpa using f1
     go_upto_region 5 with fail
     go_quiet (fail)
     have hq := (Chg.refl [] wr).drewN nq
     generalize wr.drewN nq = w8 at *
     have TT := h_ ((PC.out.trans QC.out).trans hq)
     clear hq b0 b2 z0 z1 z2 z3 z4 z5 z6
     have BK1 : Hid ((f.q.take (k + 1)).all (brings1 es f) = true) := h_ (by rw [all_take_succ SS.out, BK.out, YES.out]; rfl)
     go_wp2; go_round
     case rel => exact ⟨k + 1, by omega, by go_num, BK1, TT⟩
     case measure => simp [RowKit.intOf]; omega
    have f2 : ((x.n == s.1) : Bool) = true := by simpa using f1
    by_cases f3 : x.s ≤ s.2.2
    rotate_left
    ·
     skip
     have YES : Hid (brings1 es f s = true) := h_ (brings1_yes HX.out HU.out LO.out HI.out h0 DN.out (fun x2 hx => by rw [EX.out] at hx; cases hx; exact fun q => f3 q.2))
     go_upto_region 5 with fail
     go_quiet (fail)
     have hq := (Chg.refl [] wr).drewN nq
     generalize wr.drewN nq = w8 at *
     have TT := h_ ((PC.out.trans QC.out).trans hq)
     clear hq b0 b2 z0 z1 z2 z3 z4 z5 z6
     have BK1 : Hid ((f.q.take (k + 1)).all (brings1 es f) = true) := h_ (by rw [all_take_succ SS.out, BK.out, YES.out]; rfl)
     go_wp2; go_round
     case rel => exact ⟨k + 1, by omega, by go_num, BK1, TT⟩
     case measure => simp [RowKit.intOf]; omega
    have IN : Hid (InS s e.n e.s) := h_ (by
     have a := HI.out i x EX.out h0
     rw [← RX.out.n, ← RX.out.s]
     unfold LtD at a
     unfold InS
     omega)
    go_upto_region 5 with fail
    go_quiet (fail)
    have hq := (Chg.refl [] wr).drewN nq
    generalize wr.drewN nq = w8 at *
    have TT := h_ (T7.out.trans hq)
    have QC8 := h_ (QC.out.trans hq)
    have by8 := hq.at_ BY.out (by simp)
    have BY8 := h_ by8
    clear hq by8 b0 b2 z0 z1 z2 z3 z4 z5 z6 f1 f2 f3
    have z6 := (evCells (HA.out.chg TT.out (by simp)) EX.out).2.2.2.2.2.2
    have y6 := cell_of BY8.out 6
    simp only [gA, gY, gZ] at y6
    go_upto_region 7 with fail
    refine wp_region_held_drew (S := fun w' => w'.cell? ⟨g8, o8 + i * 7 + 6, none⟩ = some (.slice x.B x.bl x.bc) ∧ w'.cell? ⟨g3, 6, none⟩ = some (.slice y.B y.bl y.bc)) (by kernel_rfl) ⟨z6, y6⟩ (fun hHeld => ?_)
    have CD := h_ (Chg.refl [] w8).drew
    have HH := h_ (fun (w' : World) (hc : Chg [] w8.drew w') => (⟨(CD.out.trans hc).cell z6 (by simp), (CD.out.trans hc).cell y6 (by simp)⟩ : w'.cell? ⟨g8, o8 + i * 7 + 6, none⟩ = some (.slice x.B x.bl x.bc) ∧ w'.cell? ⟨g3, 6, none⟩ = some (.slice y.B y.bl y.bc)))
    clear z6 y6
    replace TT := h_ (TT.out.trans CD.out)
    replace QC8 := h_ (QC8.out.trans CD.out)
    clear CD
    have XBL : Hid (x.bl = e.q.length) := h_ RX.out.bl
    have R1 : Hid (RdK spanTy w8.drew x.B e.q.length e.q) := h_ (by have := (RX.out.chg TT.out).B; rwa [XBL.out] at this)
    have R2 : Hid (RdK spanTy w8.drew y.B f.q.length f.q) := h_ (by have := (HY.out.chg TT.out).B; rwa [YBL.out] at this)
    have F1 : Hid ((e.q.length ≤ x.bc ∧ x.bc ≤ maxLen) ∧ (e.q = [] ∨ ∀ a, x.B = some a → a.block < w8.drew.heap.size)) := h_ (by have q := (HF.out x (List.mem_of_getElem? EX.out)).chg TT.out; rw [XBL.out] at q; exact ⟨⟨q.1, q.2.1⟩, q.2.2.imp List.eq_nil_of_length_eq_zero id⟩)
    have F2 : Hid ((f.q.length ≤ y.bc ∧ y.bc ≤ maxLen) ∧ (f.q = [] ∨ ∀ a, y.B = some a → a.block < w8.drew.heap.size)) := h_ (by have q := FY.out.chg TT.out; rw [YBL.out] at q; exact ⟨⟨q.1, q.2.1⟩, q.2.2.imp List.eq_nil_of_length_eq_zero id⟩)
    have SL : Hid (e.q.length ≤ 140737488351232 ∧ f.q.length ≤ 140737488351232) := h_ ⟨HS.out.1 e (List.mem_of_getElem? EE.out), HS.out.2⟩
    generalize w8.drew = wd at *
    refine sy 0 54 rfl rfl ?_; try simp only [Act.put, sA, s0, s1]
    refine sy 1 55 rfl rfl ?_; try simp only [Act.put, sA, s0, s1]
    refine sy 2 56 rfl rfl ?_; try simp only [Act.put, sA, s0, s1]
    refine sy 3 57 rfl rfl ?_; try simp only [Act.put, sA, s0, s1]
    refine sy 4 58 rfl rfl ?_ (hy := by (intro w hSw; (try dsimp only at hSw); obtain ⟨q0, q1⟩ := hSw; go_simp; try with_reducible rfl))
    try simp only [Act.put, sA, s0, s1]
    refine sy 5 59 rfl rfl ?_; try simp only [Act.put, sA, s0, s1]
    refine sy 6 60 rfl rfl ?_ (hy := by (intro w hSw; (try dsimp only at hSw); obtain ⟨q0, q1⟩ := hSw; go_simp; try with_reducible rfl))
    try simp only [Act.put, sA, s0, s1]
    refine on1 7 rfl (fun K hK => ?_)
    go_simp
    rw [XBL.out, YBL.out]
    refine (within_anyw wd x.B x.bc e.q y.B y.bc f.q R1.out F1.out.1 F1.out.2 R2.out F2.out.1 F2.out.2 SL.out.1 SL.out.2).mono ?_
    rintro r w9 ⟨rfl, h9⟩
    have C9 := h_ h9
    clear h9 hHeld
    refine hK.out _ _ (HH.out w9 C9.out) (fun hHeld => ?_)
    clear hK K; try simp only [Act.put, sA, s0, s1]
    refine sy 8 62 rfl rfl ?_; try simp only [Act.put, sA, s0, s1]
    refine wpAnyH_done (by kernel_rfl) ?_ _; clear hHeld HH R1 R2 F1 F2
    replace QC8 := h_ (QC8.out.trans C9.out)
    replace TT := h_ (TT.out.trans C9.out)
    clear C9
    have l9 : IntKind.i64.wrap ((i : Int) + 1) = (i : Int) + 1 := IntWalk.i64_in _ (by have := HN.out; omega)
    rcases hb : withinE e.q f.q with _ | _
    ·
     have NO : Hid (bringsE es f = false) := h_ (brings_no SS.out (brings1_no EE.out IN.out hb))
     clear hb; go_wp2; go_ret
     rw [NO.out]
     exact ⟨rfl, TT.out⟩
    ·
     have DN1 : Hid (∀ (p : Nat) (x : EvP), i0 ≤ p → p < i + 1 → es[p]? = some x → withinE x.q f.q = true) := h_ (fun p x2 a b hx => by
      by_cases q : p = i
      ·
       subst q; rw [EE.out] at hx; cases hx; exact hb
      ·
       exact DN.out p x2 a (by omega) hx)
     clear hb; go_wp2; go_round
     case rel => exact ⟨i + 1, by omega, by omega, by go_num, DN1, QC8⟩
     case measure => simp [RowKit.intOf]; omega
  ·
   obtain rfl : k = f.q.length := by omega
   have j1 : ¬ (f.q.length : Int) < (f.q.length : Int) := by omega
   rw [List.take_length] at BK
   have YES : Hid (bringsE es f = true) := h_ (by rw [brings_all]; exact BK.out)
   go_wp2; go_ret
   rw [YES.out]
   exact ⟨rfl, C1.out.trans PC.out⟩
end
section
open Go.RowKit Go.WideShapes Go.ChangeShapes Go.Deep
section
variable {H : Type} {enc : TypeId × Value → H} {P : Program} {w : World} {base : Nat} {spare : Nat → Bool} {held : Bool}

theorem weights_all_mem {e : TypeId} : ∀ {l : List (DataW H)} {d : DataW H}, d ∈ l → ∀ n ∈ d.weights P e, n ∈ DataW.weightsAll P e l
 | x :: l, d, hd, n, hn => by
  simp only [DataW.weightsAll, List.mem_append]
  rcases List.mem_cons.1 hd with rfl | h
  ·
   exact .inl hn
  ·
   exact .inr (weights_all_mem h n hn)
theorem weights_slice {t e : TypeId} (ht : P.underlying t = some (.slice e)) {xs ys : List (DataW H)} (hz : ∀ k ∈ (DataW.slice xs ys).weights P t, k ≤ reachBytes) :
  (xs.length + ys.length) * P.bytesOf e ≤ reachBytes ∧ ∀ d ∈ xs, ∀ k ∈ d.weights P e, k ≤ reachBytes := by
 simp only [DataW.weights, ht, List.mem_cons, List.mem_append] at hz
 exact ⟨hz _ (.inl rfl), fun d hd k hk => hz k (.inr (.inl (weights_all_mem hd k hk)))⟩
theorem weights_struct {t : TypeId} {fs : Array Field} (ht : P.underlying t = some (.struct fs)) {xs : List (DataW H)} (hz : ∀ k ∈ (DataW.agg xs).weights P t, k ≤ reachBytes) {j : Nat} {f : Field} {d : DataW H} (hf : fs[j]? = some f) (hd : xs[j]? = some d) :
  ∀ k ∈ d.weights P f.type, k ≤ reachBytes := by
 simp only [DataW.weights, ht] at hz
 exact fun k hk => hz k (DataW.weights_mem_each (j := j) (by simp [hf]) hd k hk)

theorem list_of {α : Type} {Q : Nat → α → Prop} : ∀ (n : Nat), (∀ i, i < n → ∃ a, Q i a) → ∃ l : List α, l.length = n ∧ ∀ j a, l[j]? = some a → Q j a
 | 0, _ => ⟨[], rfl, by simp⟩
 | n + 1, h => by
  obtain ⟨l, h1, h2⟩ := list_of n (fun i hi => h i (by omega))
  obtain ⟨a, ha⟩ := h n (by omega)
  refine ⟨l ++ [a], by simp [h1], fun j b hj => ?_⟩
  rw [List.getElem?_append] at hj
  split at hj
  ·
   exact h2 j b hj
  ·
   rename_i hn
   have : j = n := by
    have := (List.getElem?_eq_some_iff.1 hj).1
    simp at this
    omega
   subst this
   rw [h1] at hj
   simp at hj
   subst hj
   exact ha
end
section
variable {H : Type} {enc : TypeId × Value → H} {w : World} {base : Nat} {spare : Nat → Bool} {held : Bool}

theorem open_bytes {n : Nat} {cs : List Value} {y : DataW H × List MemPlace} (h : DataW.trod enc Tryz.prog w base spare held n 36 cs = some y) (hz : ∀ k ∈ y.1.weights Tryz.prog 36, k ≤ reachBytes) :
  ∃ A m d ys, cs = [.slice A m d] ∧ Bs w A m ys ∧ m ≤ 140737488351232 ∧ m ≤ d ∧ d ≤ 9223372036854775807 := by
 rcases open_ints Tryz.underlying36 Tryz.underlying5 (by kernel_rfl) h with ⟨rfl, _⟩ | ⟨x, l, c, zs, rfl, _, hl, hm, hzl, rfl, hcell, hwz⟩
 ·
  exact ⟨none, 0, 0, [], rfl, Bs.nil _ _, by decide, by decide, by decide⟩
 ·
  have hlen : l ≤ zs.length := by rw [hzl]; split <;> omega
  have hw := (weights_slice Tryz.underlying36 hz).1
  rw [show Tryz.prog.bytesOf 5 = 1 by kernel_rfl] at hw
  refine ⟨some x, l, c, (zs.take l).map (fun z => UInt8.ofNat z.toNat), rfl, ⟨by simp; omega, fun j u hj => ⟨x, rfl, ?_⟩⟩, ?_, hl, by unfold maxLen at hm; omega⟩
  ·
   have hjl := (List.getElem?_eq_some_iff.1 hj).1
   rw [List.length_map, List.length_take] at hjl
   have h1 : j < l := by omega
   have h2 : j < zs.length := by omega
   rw [hcell j h2]
   have hwz' := bounds_u8 (hwz (zs.getD j 0) (by simp [List.getD, h2]))
   simp only [List.getElem?_map, List.getElem?_take, if_pos h1, Option.map_eq_some_iff] at hj
   obtain ⟨z, h3, rfl⟩ := hj
   have e : zs.getD j 0 = z := by simp [List.getD, h3]
   rw [e] at hwz' ⊢
   unfold bv
   congr 2
   simp
   omega
  ·
   simp [lits, reachBytes] at hw
   omega

theorem open_str {n : Nat} {v : Value} {y : DataW H × List MemPlace} (h : DataW.trod enc Tryz.prog w base spare held n 9 [v] = some y) (hz : ∀ k ∈ y.1.weights Tryz.prog 9, k ≤ reachBytes) : ∃ s : ByteArray, v = .string s ∧ s.size ≤ 140737488351232 := by
 obtain ⟨s, e, e', _⟩ := DataW.trod_string Tryz.underlying9 h
 refine ⟨s, List.singleton_inj.1 e, ?_⟩
 have := hz s.data.toList.length (by rw [e']; simp [DataW.weights])
 rw [Array.length_toList] at this
 exact this
set_option maxRecDepth 100000 in
theorem open_effect {n : Nat} {cs : List Value} {y : DataW H × List MemPlace} (h : DataW.trod enc Tryz.prog w base spare held n 38 cs = some y) (hz : ∀ k ∈ y.1.weights Tryz.prog 38, k ≤ reachBytes) :
  ∃ (k m : Int) (A : Option Addr) (n d : Nat) (ys : List UInt8), cs = [.int .i64 k, .int .i64 m, .slice A n d] ∧ Bs w A n ys ∧ n ≤ 140737488351232 ∧ n ≤ d ∧ d ≤ 9223372036854775807 := by
 obtain ⟨xs, k, rfl, rfl, hl, hx, hf⟩ := DataW.trod_struct Tryz.underlying38 h
 rw [show Tryz.prog.cellsOf 38 = 3 by kernel_rfl] at hl
 have g0 := hf 0 _ rfl
 have g1 := hf 1 _ rfl
 have g2 := hf 2 _ rfl
 change DataW.trod _ _ _ _ _ _ _ 3 ((cs.drop 0).take (Tryz.prog.cellsOf 3)) = _ at g0
 change DataW.trod _ _ _ _ _ _ _ 3 ((cs.drop 1).take (Tryz.prog.cellsOf 3)) = _ at g1
 change DataW.trod _ _ _ _ _ _ _ 36 ((cs.drop 2).take (Tryz.prog.cellsOf 36)) = _ at g2
 rw [show Tryz.prog.cellsOf 3 = 1 by kernel_rfl] at g0 g1
 rw [show Tryz.prog.cellsOf 36 = 1 by kernel_rfl] at g2
 match cs, hl with
 | [v0, v1, v2], _ =>
  match xs, hx with
  | [x0, x1, x2], _ =>
   have w2 := weights_struct Tryz.underlying38 hz (j := 2) (d := x2.1) rfl rfl
   obtain ⟨z0, e0, _, _⟩ := DataW.trod_int Tryz.underlying3 g0
   obtain ⟨z1, e1, _, _⟩ := DataW.trod_int Tryz.underlying3 g1
   obtain ⟨A, m, d, ys, e2, hb, hm, hmd, hd⟩ := open_bytes g2 w2
   simp only [List.drop_succ_cons, List.drop_zero, List.take_succ_cons, List.take_zero, List.cons.injEq, and_true] at e0 e1 e2
   subst e0 e1 e2
   exact ⟨z0, z1, A, m, d, ys, rfl, hb, hm, hmd, hd⟩
set_option maxRecDepth 100000 in
theorem open_dot {n : Nat} {cs : List Value} {y : DataW H × List MemPlace} (h : DataW.trod enc Tryz.prog w base spare held n 35 cs = some y) :
  ∃ (a b : Int), cs = [.int .i64 a, .int .i64 b] ∧ -9223372036854775808 ≤ a ∧ a ≤ 9223372036854775807 ∧ -9223372036854775808 ≤ b ∧ b ≤ 9223372036854775807 := by
 obtain ⟨xs, k, rfl, rfl, hl, hx, hf⟩ := DataW.trod_struct Tryz.underlying35 h
 rw [show Tryz.prog.cellsOf 35 = 2 by kernel_rfl] at hl
 have g0 := hf 0 _ rfl
 have g1 := hf 1 _ rfl
 change DataW.trod _ _ _ _ _ _ _ 3 ((cs.drop 0).take (Tryz.prog.cellsOf 3)) = _ at g0
 change DataW.trod _ _ _ _ _ _ _ 3 ((cs.drop 1).take (Tryz.prog.cellsOf 3)) = _ at g1
 rw [show Tryz.prog.cellsOf 3 = 1 by kernel_rfl] at g0 g1
 match cs, hl with
 | [v0, v1], _ =>
  match xs, hx with
  | [x0, x1], _ =>
   obtain ⟨z0, e0, _, b0⟩ := DataW.trod_int Tryz.underlying3 g0
   obtain ⟨z1, e1, _, b1⟩ := DataW.trod_int Tryz.underlying3 g1
   have c0 := bounds_i64 b0
   have c1 := bounds_i64 b1
   simp only [List.drop_succ_cons, List.drop_zero, List.take_succ_cons, List.take_zero, List.cons.injEq, and_true] at e0 e1
   subst e0 e1
   exact ⟨z0, z1, rfl, c0.1, c0.2, c1.1, c1.2⟩
end
end
section
open Go.RowKit Go.WideShapes Go.ChangeShapes Go.Deep
section
variable {H : Type} {enc : TypeId × Value → H} {w : World} {base : Nat} {spare : Nat → Bool} {held : Bool}
set_option maxRecDepth 100000 in
theorem open_span {n : Nat} {cs : List Value} {y : DataW H × List MemPlace} (h : DataW.trod enc Tryz.prog w base spare held n 81 cs = some y) :
  ∃ (a b c : Int), cs = [.int .i64 a, .int .i64 b, .int .i64 c] := by
 obtain ⟨xs, k, rfl, rfl, hl, hx, hf⟩ := DataW.trod_struct Tryz.underlying81 h
 rw [show Tryz.prog.cellsOf 81 = 3 by kernel_rfl] at hl
 have g0 := hf 0 _ rfl
 have g1 := hf 1 _ rfl
 have g2 := hf 2 _ rfl
 change DataW.trod _ _ _ _ _ _ _ 3 ((cs.drop 0).take (Tryz.prog.cellsOf 3)) = _ at g0
 change DataW.trod _ _ _ _ _ _ _ 3 ((cs.drop 1).take (Tryz.prog.cellsOf 3)) = _ at g1
 change DataW.trod _ _ _ _ _ _ _ 3 ((cs.drop 2).take (Tryz.prog.cellsOf 3)) = _ at g2
 rw [show Tryz.prog.cellsOf 3 = 1 by kernel_rfl] at g0 g1 g2
 match cs, hl with
 | [v0, v1, v2], _ =>
  match xs, hx with
  | [x0, x1, x2], _ =>
   obtain ⟨z0, e0, _, _⟩ := DataW.trod_int Tryz.underlying3 g0
   obtain ⟨z1, e1, _, _⟩ := DataW.trod_int Tryz.underlying3 g1
   obtain ⟨z2, e2, _, _⟩ := DataW.trod_int Tryz.underlying3 g2
   simp only [List.drop_succ_cons, List.drop_zero, List.take_succ_cons, List.take_zero, List.cons.injEq, and_true] at e0 e1 e2
   subst e0 e1 e2
   exact ⟨z0, z1, z2, rfl⟩
theorem open_spans {n : Nat} {cs : List Value} {y : DataW H × List MemPlace} (h : DataW.trod enc Tryz.prog w base spare held n 23 cs = some y) (hz : ∀ k ∈ y.1.weights Tryz.prog 23, k ≤ reachBytes) :
  ∃ A m d zs, cs = [.slice A m d] ∧ RdK spanTy w A m zs ∧ m * 24 ≤ 140737488351232 ∧ m ≤ d := by
 rcases open_slice Tryz.underlying23 h with ⟨rfl, _⟩ | ⟨a, len, cap, m, k, D, Pl, rfl, _, hl, hm, hmm, rfl, hi⟩
 ·
  exact ⟨none, 0, 0, [], rfl, RdK.nil _ _, by decide, by decide⟩
 ·
  have hlm : len ≤ m := by rw [hmm]; split <;> omega
  obtain ⟨hw, _⟩ := weights_slice Tryz.underlying23 hz
  rw [show Tryz.prog.bytesOf 81 = 24 by kernel_rfl] at hw
  simp [reachBytes] at hw
  have hC : Tryz.prog.cellsOf 81 = 3 := by kernel_rfl
  obtain ⟨l, hll, hat⟩ := list_of (Q := fun i (x : Int × Int × Int) => w.cell? (a.add (i * 3)) = some (.int .i64 x.1) ∧ w.cell? (a.add (i * 3 + 1)) = some (.int .i64 x.2.1) ∧ w.cell? (a.add (i * 3 + 2)) = some (.int .i64 x.2.2)) len (fun i hilt => by
   obtain ⟨cs', hc, ht⟩ := hi i (by omega)
   rw [hC] at hc
   obtain ⟨_, hcl, hat⟩ := World.cells?_some hc
   obtain ⟨p, q, r, rfl⟩ := open_span ht
   have g0 := hat 0 (by omega)
   have g1 := hat 1 (by omega)
   have g2 := hat 2 (by omega)
   rw [add_add] at g0 g1 g2
   exact ⟨(p, q, r), g0, g1, g2⟩)
  refine ⟨some a, len, cap, l, rfl, ⟨hll, fun j v hj => ⟨a, rfl, ?_⟩⟩, by omega, hl⟩
  have hj2 := (List.getElem?_eq_some_iff.1 hj).1
  rw [spanTy.flat_len] at hj2
  have hk : spanTy.k = 3 := rfl
  rw [hk] at hj2
  have hq : j / 3 < l.length := by omega
  have e := spanTy.flat_at l (j / 3) (j % 3) _ (List.getElem?_eq_getElem hq) (Nat.mod_lt _ (by decide))
  rw [hk, Nat.div_add_mod', hj] at e
  obtain ⟨g0, g1, g2⟩ := hat (j / 3) _ (List.getElem?_eq_getElem hq)
  rcases (show j % 3 = 0 ∨ j % 3 = 1 ∨ j % 3 = 2 by omega) with h0 | h0 | h0
  ·
   rw [h0] at e
   rw [show j / 3 * 3 = j by omega] at g0
   rw [g0]
   exact e.symm
  ·
   rw [h0] at e
   rw [show j / 3 * 3 + 1 = j by omega] at g1
   rw [g1]
   exact e.symm
  ·
   rw [h0] at e
   rw [show j / 3 * 3 + 2 = j by omega] at g2
   rw [g2]
   exact e.symm
end
end
section
open Go.RowKit Go.WideShapes Go.ChangeShapes Go.Deep
variable {H : Type} {enc : TypeId × Value → H} {P : Program} {w : World} {base : Nat} {spare : Nat → Bool} {held : Bool}
set_option maxRecDepth 100000 in
def EvZ (x : EvT) (e : EvP) : Prop := e.b.length ≤ 140737488351232 ∧ e.q.length * 24 ≤ 140737488351232 ∧ e.p.length ≤ 140737488351232 ∧ (x.l ≤ x.c ∧ x.c ≤ 9223372036854775807 ∧ x.bl ≤ x.bc ∧ x.bc ≤ 9223372036854775807) ∧ (-9223372036854775808 ≤ e.n ∧ e.n ≤ 9223372036854775807 ∧ -9223372036854775808 ≤ e.s ∧ e.s ≤ 9223372036854775807)
theorem cap_spans {n : Nat} {B : Option Addr} {q d : Nat} {y : DataW H × List MemPlace} (h : DataW.trod enc Tryz.prog w base spare held n 23 [.slice B q d] = some y) : d ≤ 9223372036854775807 := by
 rcases open_slice Tryz.underlying23 h with ⟨e, _⟩ | ⟨a, len, cap, m, k, D, Pl, e, _, _, hm, _⟩
 ·
  cases e; omega
 ·
  cases e; exact hm
set_option maxRecDepth 100000 in
theorem open_event {n : Nat} {cs : List Value} {y : DataW H × List MemPlace} (h : DataW.trod enc Tryz.prog w base spare held n 40 cs = some y) (hz : ∀ k ∈ y.1.weights Tryz.prog 40, k ≤ reachBytes) :
  ∃ (x : EvT) (e : EvP), cs = [.int .i64 x.n, .int .i64 x.s, .string x.p, .int .i64 x.k, .int .i64 x.m, .slice x.A x.l x.c, .slice x.B x.bl x.bc] ∧ EvR w x e ∧ EvZ x e := by
 obtain ⟨xs, k, rfl, rfl, hl, hx, hf⟩ := DataW.trod_struct Tryz.underlying40 h
 rw [show Tryz.prog.cellsOf 40 = 7 by kernel_rfl] at hl
 have g0 := hf 0 _ rfl
 have g1 := hf 1 _ rfl
 have g2 := hf 2 _ rfl
 have g3 := hf 3 _ rfl
 change DataW.trod _ _ _ _ _ _ _ 35 ((cs.drop 0).take (Tryz.prog.cellsOf 35)) = _ at g0
 change DataW.trod _ _ _ _ _ _ _ 9 ((cs.drop 2).take (Tryz.prog.cellsOf 9)) = _ at g1
 change DataW.trod _ _ _ _ _ _ _ 38 ((cs.drop 3).take (Tryz.prog.cellsOf 38)) = _ at g2
 change DataW.trod _ _ _ _ _ _ _ 23 ((cs.drop 6).take (Tryz.prog.cellsOf 23)) = _ at g3
 rw [show Tryz.prog.cellsOf 35 = 2 by kernel_rfl] at g0
 rw [show Tryz.prog.cellsOf 9 = 1 by kernel_rfl] at g1
 rw [show Tryz.prog.cellsOf 38 = 3 by kernel_rfl] at g2
 rw [show Tryz.prog.cellsOf 23 = 1 by kernel_rfl] at g3
 match cs, hl with
 | [v0, v1, v2, v3, v4, v5, v6], _ =>
  match xs, hx with
  | [x0, x1, x2, x3], _ =>
   have w2 := weights_struct Tryz.underlying40 hz (j := 2) (d := x2.1) rfl rfl
   have w3 := weights_struct Tryz.underlying40 hz (j := 3) (d := x3.1) rfl rfl
   have w1 := weights_struct Tryz.underlying40 hz (j := 1) (d := x1.1) rfl rfl
   obtain ⟨a, b, e0, r0⟩ := open_dot g0
   simp only [List.drop_succ_cons, List.drop_zero, List.take_succ_cons, List.take_zero] at g1
   obtain ⟨s, e1, r1⟩ := open_str g1 w1
   obtain ⟨k, m, A, n, c, ys, e2, r2⟩ := open_effect g2 w2
   obtain ⟨B, q, d, zs, e3, r3⟩ := open_spans g3 w3
   simp only [List.drop_succ_cons, List.drop_zero, List.take_succ_cons, List.take_zero, List.cons.injEq, and_true] at e0 e2 e3
   obtain ⟨rfl, rfl⟩ := e0
   obtain ⟨rfl, rfl, rfl⟩ := e2
   subst e1 e3
   refine ⟨⟨a, b, s, k, m, A, n, c, B, q, d⟩, ⟨a, b, s.data.toList, k, m, ys, zs⟩, rfl, ⟨rfl, rfl, (strOf_of s).symm, rfl, rfl, r2.1.len.symm, r3.1.len.symm, r2.1, r3.1⟩, ?_⟩
   simp only [List.drop_succ_cons, List.drop_zero, List.take_succ_cons, List.take_zero] at g3
   have l4 := cap_spans g3
   have hs : s.data.toList.length = s.size := rfl
   have l2 := r2.1.len
   have l3 := r3.1.len
   refine ⟨?_, ?_, ?_, ⟨?_, ?_, ?_, ?_⟩, r0⟩
   all_goals (simp only; omega)
end
section
open Go.RowKit Go.Lib


theorem fit_args {w : World} {xs : List EvT} {es : List EvP} (hr : EvsR w xs es) (hz : ∀ (i : Nat) (x : EvT) (e : EvP), xs[i]? = some x → es[i]? = some e → EvZ x e) : FitE w xs := fun x hx => by
 obtain ⟨i, hi⟩ := List.getElem?_of_mem hx
 obtain ⟨x2, e, ex, ee, rx⟩ := hr.at_ (show i < xs.length from (List.getElem?_eq_some_iff.1 hi).1)
 rw [hi] at ex
 cases ex
 have z := (hz i x e hi ee).2.2.2.1
 refine ⟨z.2.2.1, z.2.2.2, ?_⟩
 by_cases h0 : x.bl = 0
 ·
  exact .inl h0
 ·
  obtain ⟨g, o, eA, hl⟩ := rx.B.line (by omega)
  exact .inr (fun a ha => by rw [eA] at ha; cases ha; exact hl)
theorem smallEvs {w : World} {xs : List EvT} {es : List EvP} {most : Nat} (hr : EvsR w xs es) (hl : longE xs most = false) : (∀ e ∈ es, EvSm e ∧ e.q.length ≤ 100 ∧ e.b.length ≤ 1200) ∧ xs.length ≤ most := by
 have sm := longE_no hl
 refine ⟨fun e he => ?_, sm.1⟩
 obtain ⟨i, hi, rfl⟩ := List.getElem_of_mem he
 obtain ⟨x, f, ex, ef, rx⟩ := hr.at_ (show i < xs.length by rw [hr.1]; exact hi)
 rw [List.getElem?_eq_getElem hi] at ef
 cases ef
 have q := sm.2 x (List.mem_of_getElem? ex)
 have a1 := rx.l
 have a2 := rx.bl
 have a3 := rx.p
 have a4 : x.p.size = es[i].p.length := by rw [a3, strOf_size]
 unfold bigE at q
 unfold EvSm
 omega
end
section
open Go.RowKit Go.Lib


theorem within_sub {a b : List Sp} (h : withinE a b = true) : ∀ n s, Mem a n s → Mem b n s := by
 unfold withinE at h
 rw [Bool.and_eq_true, decide_eq_true_iff, decide_eq_true_iff] at h
 have wa := (wf_of_chk h.1.1).1
 have wb := (wf_of_chk h.1.2).1
 have t := withouts_norm (b := b) (a := a) wb.1.1 wa.1
 intro n s hm
 by_cases q : Mem b n s
 ·
  exact q
 ·
  have := (t.2 n s).2 ⟨hm, q⟩
  rw [h.2] at this
  exact absurd this mem_nil
theorem closed_ok {es : List EvP} (h : closedE es = true) : okAll es = true ∧ es.Pairwise OkTwo := by
 unfold closedE at h
 rw [Bool.and_eq_true, decide_eq_true_iff] at h
 exact h
theorem ahead_iff {a b : EvP} (ha : chkEv a = 0) (hb : chkEv b = 0) : aheadP a b = true ↔ Mem b.q a.n a.s := by
 unfold aheadP
 rw [has_iff (chk_fine hb).1, decide_eq_true ha, decide_eq_true hb]
 simp
theorem ahead_no {a b : EvP} (ha : chkEv a = 0) (hb : chkEv b = 0) (h : ¬ Mem b.q a.n a.s) : aheadP a b = false := by
 rcases q : aheadP a b with _ | _
 ·
  rfl
 ·
  exact absurd ((ahead_iff ha hb).1 q) h
theorem closed_in {es : List EvP} (h : closedE es = true) {i k : Nat} {a b : EvP} (ha : es[i]? = some a) (hb : es[k]? = some b) (hx : aheadP a b = true) : ∀ n s, Mem a.q n s → Mem b.q n s := by
 by_cases q : k = i
 ·
  subst q
  rw [ha] at hb
  cases hb
  exact fun n s h => h
 ·
  exact within_sub ((pair_at.1 (closed_ok h).2 i k a b ha hb q).2 hx)
theorem order_three {es : List EvP} (h : closedE es = true) {i k j : Nat} {a b c : EvP} (ha : es[i]? = some a) (hb : es[k]? = some b) (hc : es[j]? = some c) (hx : aheadP a b = true) (hy : aheadP b c = true) : aheadP a c = true := by
 have ok := okAll_iff.1 (closed_ok h).1
 have ca := ok a (List.mem_of_getElem? ha)
 have cb := ok b (List.mem_of_getElem? hb)
 have cc := ok c (List.mem_of_getElem? hc)
 exact (ahead_iff ca cc).2 (closed_in h hb hc hy _ _ ((ahead_iff ca cb).1 hx))
end
section
open Go.RowKit Go.Lib

def LtEv (a b : EvP) : Prop := LtD a.n a.s b.n b.s
instance (a b : EvP) : Decidable (LtEv a b) := by unfold LtEv; exact inferInstance
theorem LtEv.irr (a : EvP) : ¬ LtEv a a := by unfold LtEv LtD; omega
theorem LtEv.tr {a b c : EvP} (h : LtEv a b) (k : LtEv b c) : LtEv a c := by unfold LtEv LtD at *; omega
def ShOk (l : List EvP) : Prop := (∀ e ∈ l, chkEv e = 0) ∧ (∀ e ∈ l, ∀ f ∈ l, e.p = f.p) ∧ l.Pairwise LtEv ∧ ∀ e ∈ l, ∀ f ∈ l, aheadP e f = false
instance (l : List EvP) : Decidable (ShOk l) := by unfold ShOk; exact inferInstance
def shE (l : List EvP) : Int := if ShOk l then 0 else 2
def insE (e : EvP) : List EvP → List EvP
 | [] => [e]
 | x :: l => if LtEv e x then e :: x :: l else x :: insE e l
def stayE (l : List EvP) (e : EvP) : Bool := l.any (fun x => decide (x.n = e.n ∧ x.s = e.s) || aheadP e x)
def putE (l : List EvP) (e : EvP) : List EvP := if stayE l e = true then l else insE e (l.filter (fun x => !aheadP x e))
theorem insE_mem (e y : EvP) : ∀ l, y ∈ insE e l ↔ y = e ∨ y ∈ l
 | [] => by simp [insE]
 | x :: l => by
  unfold insE
  split
  ·
   simp
  ·
   rw [List.mem_cons, insE_mem e y l, List.mem_cons]
   constructor
   ·
    rintro (h | h | h)
    ·
     exact .inr (.inl h)
    ·
     exact .inl h
    ·
     exact .inr (.inr h)
   ·
    rintro (h | h | h)
    ·
     exact .inr (.inl h)
    ·
     exact .inl h
    ·
     exact .inr (.inr h)
theorem insE_up (e : EvP) : ∀ l, l.Pairwise LtEv → (∀ x ∈ l, ¬ (x.n = e.n ∧ x.s = e.s)) → (insE e l).Pairwise LtEv
 | [], _, _ => by simp [insE]
 | x :: l, h, hd => by
  have hp := List.pairwise_cons.1 h
  unfold insE
  split
  ·
   rename_i q
   refine List.pairwise_cons.2 ⟨fun y hy => ?_, h⟩
   rcases List.mem_cons.1 hy with r | r
   ·
    rw [r]; exact q
   ·
    exact q.tr (hp.1 y r)
  ·
   rename_i q
   refine List.pairwise_cons.2 ⟨fun y hy => ?_, insE_up e l hp.2 (fun y hy => hd y (by simp [hy]))⟩
   rcases (insE_mem e y l).1 hy with r | r
   ·
    subst r
    have := hd x (by simp)
    unfold LtEv LtD at *
    omega
   ·
    exact hp.1 y r
theorem up_ext : ∀ {l m : List EvP}, l.Pairwise LtEv → m.Pairwise LtEv → (∀ x, x ∈ l ↔ x ∈ m) → l = m
 | [], [], _, _, _ => rfl
 | [], y :: m, _, _, h => absurd ((h y).2 (by simp)) (by simp)
 | x :: l, [], _, _, h => absurd ((h x).1 (by simp)) (by simp)
 | x :: l, y :: m, hl, hm, h => by
  have pl := List.pairwise_cons.1 hl
  have pm := List.pairwise_cons.1 hm
  have e : x = y := by
   rcases List.mem_cons.1 ((h x).1 (by simp)) with a | a
   ·
    exact a
   ·
    rcases List.mem_cons.1 ((h y).2 (by simp)) with b | b
    ·
     exact b.symm
    ·
     exact absurd ((pl.1 y b).tr (pm.1 x a)) (LtEv.irr x)
  subst e
  congr 1
  refine up_ext pl.2 pm.2 (fun z => ?_)
  constructor
  ·
   intro hz
   rcases List.mem_cons.1 ((h z).1 (by simp [hz])) with a | a
   ·
    subst a; exact absurd (pl.1 z hz) (LtEv.irr z)
   ·
    exact a
  ·
   intro hz
   rcases List.mem_cons.1 ((h z).2 (by simp [hz])) with a | a
   ·
    subst a; exact absurd (pm.1 z hz) (LtEv.irr z)
   ·
    exact a
theorem put_ok {l : List EvP} {e : EvP} (h : ShOk l) (he : chkEv e = 0) (hp : ∀ x ∈ l, x.p = e.p) : ShOk (putE l e) := by
 unfold putE
 split
 ·
  exact h
 ·
  rename_i q
  have no : ∀ x ∈ l, ¬ (x.n = e.n ∧ x.s = e.s) ∧ aheadP e x = false := fun x hx => by
   have : (decide (x.n = e.n ∧ x.s = e.s) || aheadP e x) = false := by
    rcases r : (decide (x.n = e.n ∧ x.s = e.s) || aheadP e x) with _ | _
    ·
     rfl
    ·
     exact absurd (List.any_eq_true.2 ⟨x, hx, r⟩) q
   rw [Bool.or_eq_false_iff, decide_eq_false_iff_not] at this
   exact this
  have self : aheadP e e = false := ahead_no he he (own_out he)
  have mem : ∀ y, y ∈ insE e (l.filter (fun x => !aheadP x e)) ↔ y = e ∨ y ∈ l ∧ aheadP y e = false := fun y => by
   rw [insE_mem, List.mem_filter]
   simp
  refine ⟨fun y hy => ?_, fun y hy z hz => ?_, ?_, fun y hy z hz => ?_⟩
  ·
   rcases (mem y).1 hy with r | r
   ·
    rw [r]; exact he
   ·
    exact h.1 y r.1
  ·
   have key : ∀ u, u ∈ insE e (l.filter (fun x => !aheadP x e)) → u.p = e.p := fun u hu => by
    rcases (mem u).1 hu with r | r
    ·
     rw [r]
    ·
     exact hp u r.1
   rw [key y hy, key z hz]
  ·
   exact insE_up e _ (h.2.2.1.sublist List.filter_sublist) (fun x hx => (no x (List.mem_filter.1 hx).1).1)
  ·
   rcases (mem y).1 hy with r | r <;> rcases (mem z).1 hz with s | s
   ·
    rw [r, s]; exact self
   ·
    rw [r]; exact (no z s.1).2
   ·
    rw [s]; exact r.2
   ·
    exact h.2.2.2 y r.1 z s.1
/-! Closed events -/
section
variable {U : List EvP} (hU : closedE U = true)
include hU
theorem cl_chk {a : EvP} (ha : a ∈ U) : chkEv a = 0 := okAll_iff.1 (closed_ok hU).1 a ha
theorem cl_irr {a : EvP} (ha : a ∈ U) : aheadP a a = false := ahead_no (cl_chk hU ha) (cl_chk hU ha) (own_out (cl_chk hU ha))
theorem cl_tr {a b c : EvP} (ha : a ∈ U) (hb : b ∈ U) (hc : c ∈ U) (h : aheadP a b = true) (k : aheadP b c = true) : aheadP a c = true := by
 obtain ⟨i, hi⟩ := List.getElem?_of_mem ha
 obtain ⟨j, hj⟩ := List.getElem?_of_mem hb
 obtain ⟨m, hm⟩ := List.getElem?_of_mem hc
 exact order_three hU hi hj hm h k
theorem cl_dot {a b : EvP} (ha : a ∈ U) (hb : b ∈ U) (hn : a.n = b.n) (hs : a.s = b.s) : a = b := by
 obtain ⟨i, hi⟩ := List.getElem?_of_mem ha
 obtain ⟨k, hk⟩ := List.getElem?_of_mem hb
 by_cases q : k = i
 ·
  subst q
  rw [hi] at hk
  exact Option.some.inj hk
 ·
  exact absurd ⟨hn, hs⟩ (pair_at.1 (closed_ok hU).2 i k a b hi hk q).1
end
def TopE (S : List EvP) (x : EvP) : Prop := x ∈ S ∧ ∀ y ∈ S, aheadP x y = false
def ShOf (S l : List EvP) : Prop := l.Pairwise LtEv ∧ ∀ x, x ∈ l ↔ TopE S x
theorem top_same {S T : List EvP} (h : ∀ x, x ∈ S ↔ x ∈ T) (x : EvP) : TopE S x ↔ TopE T x :=
 ⟨fun q => ⟨(h x).1 q.1, fun y hy => q.2 y ((h y).2 hy)⟩, fun q => ⟨(h x).2 q.1, fun y hy => q.2 y ((h y).1 hy)⟩⟩
theorem shOf_same {S T l m : List EvP} (h : ∀ x, x ∈ S ↔ x ∈ T) (hl : ShOf S l) (hm : ShOf T m) : l = m :=
 up_ext hl.1 hm.1 (fun x => by rw [hl.2, hm.2, top_same h])
theorem top_over {U S : List EvP} (hU : closedE U = true) (hS : ∀ x ∈ S, x ∈ U) : ∀ (n : Nat) (x : EvP), x ∈ S → S.countP (fun y => aheadP x y) ≤ n → ∃ y, TopE S y ∧ (y = x ∨ aheadP x y = true)
 | n, x, hx, hn => by
  by_cases q : ∃ y ∈ S, aheadP x y = true
  ·
   obtain ⟨y, hy, hxy⟩ := q
   have lt : S.countP (fun z => aheadP y z) < S.countP (fun z => aheadP x z) := by
    have sub : ∀ z ∈ S, aheadP y z = true → aheadP x z = true := fun z hz h => cl_tr hU (hS x hx) (hS y hy) (hS z hz) hxy h
    clear hn hx
    have strict : ∀ (L : List EvP), (∀ z ∈ L, aheadP y z = true → aheadP x z = true) → y ∈ L → L.countP (fun z => aheadP y z) < L.countP (fun z => aheadP x z) := by
     intro L
     induction L with
     | nil => intro _ h; cases h
     | cons z L ih =>
      intro hs hm
      rw [List.countP_cons, List.countP_cons]
      have le : L.countP (fun z => aheadP y z) ≤ L.countP (fun z => aheadP x z) := List.countP_mono_left (fun w hw => hs w (by simp [hw]))
      rcases List.mem_cons.1 hm with r | r
      ·
       subst r
       rw [cl_irr hU (hS y hy), hxy]
       simp
       omega
      ·
       have a := ih (fun w hw => hs w (by simp [hw])) r
       have b := hs z (by simp)
       by_cases c : aheadP y z = true
       ·
        rw [if_pos c, if_pos (b c)]; omega
       ·
        rw [if_neg c]; omega
    exact strict S sub hy
   match n, hn with
   | 0, hn => omega
   | n + 1, hn =>
    obtain ⟨t, ht, h⟩ := top_over hU hS n y hy (by omega)
    refine ⟨t, ht, .inr ?_⟩
    rcases h with r | r
    ·
     rw [r]; exact hxy
    ·
     exact cl_tr hU (hS x hx) (hS y hy) (hS t ht.1) hxy r
  ·
   refine ⟨x, ⟨hx, fun y hy => ?_⟩, .inl rfl⟩
   rcases r : aheadP x y with _ | _
   ·
    rfl
   ·
    exact absurd ⟨y, hy, r⟩ q
theorem has_top {U S : List EvP} (hU : closedE U = true) (hS : ∀ x ∈ S, x ∈ U) {x : EvP} (hx : x ∈ S) : ∃ y, TopE S y ∧ (y = x ∨ aheadP x y = true) := top_over hU hS _ x hx (Nat.le_refl _)
theorem stay_iff {l : List EvP} {e : EvP} : stayE l e = true ↔ ∃ x ∈ l, (x.n = e.n ∧ x.s = e.s) ∨ aheadP e x = true := by
 unfold stayE
 rw [List.any_eq_true]
 simp only [Bool.or_eq_true, decide_eq_true_eq]
theorem put_top {U S l : List EvP} {e : EvP} (hU : closedE U = true) (hS : ∀ x ∈ S, x ∈ U) (he : e ∈ U) (h : ShOf S l) : ShOf (e :: S) (putE l e) := by
 unfold putE
 by_cases q : stayE l e = true
 ·
  rw [if_pos q]
  refine ⟨h.1, fun x => (h.2 x).trans ?_⟩
  obtain ⟨y, hy, r⟩ := stay_iff.1 q
  have ty := (h.2 y).1 hy
  rcases r with r | r
  ·
   have e1 : y = e := cl_dot hU (hS y ty.1) he r.1 r.2
   subst e1
   exact top_same (fun z => ⟨fun hz => by simp [hz], fun hz => by
    rcases List.mem_cons.1 hz with a | a
    ·
     rw [a]; exact ty.1
    ·
     exact a⟩) x
  ·
   constructor
   ·
    rintro ⟨hx, hm⟩
    refine ⟨by simp [hx], fun z hz => ?_⟩
    rcases List.mem_cons.1 hz with a | a
    ·
     subst a
     rcases s : aheadP x z with _ | _
     ·
      rfl
     ·
      have := cl_tr hU (hS x hx) he (hS y ty.1) s r
      rw [hm y ty.1] at this
      cases this
    ·
     exact hm z a
   ·
    rintro ⟨hx, hm⟩
    rcases List.mem_cons.1 hx with a | a
    ·
     subst a
     have := hm y (by simp [ty.1])
     rw [r] at this
     cases this
    ·
     exact ⟨a, fun z hz => hm z (by simp [hz])⟩
 ·
  rw [if_neg q]
  have no : ∀ x ∈ l, ¬ (x.n = e.n ∧ x.s = e.s) ∧ aheadP e x = false := fun x hx => by
   refine ⟨fun r => q (stay_iff.2 ⟨x, hx, .inl r⟩), ?_⟩
   rcases r : aheadP e x with _ | _
   ·
    rfl
   ·
    exact absurd (stay_iff.2 ⟨x, hx, .inr r⟩) q
  refine ⟨insE_up e _ (h.1.sublist List.filter_sublist) (fun x hx => (no x (List.mem_filter.1 hx).1).1), fun x => ?_⟩
  rw [insE_mem, List.mem_filter, h.2]
  have top : TopE (e :: S) e := ⟨by simp, fun y hy => by
   rcases List.mem_cons.1 hy with a | a
   ·
    rw [a]; exact cl_irr hU he
   ·
    rcases r : aheadP e y with _ | _
    ·
     rfl
    ·
     obtain ⟨t, ht, s⟩ := has_top hU hS a
     have et : aheadP e t = true := by
      rcases s with s | s
      ·
       rw [s]; exact r
      ·
       exact cl_tr hU he (hS y a) (hS t ht.1) r s
     rw [(no t ((h.2 t).2 ht)).2] at et
     cases et⟩
  constructor
  ·
   rintro (a | ⟨a, b⟩)
   ·
    rw [a]; exact top
   ·
    refine ⟨by simp [a.1], fun y hy => ?_⟩
    rcases List.mem_cons.1 hy with c | c
    ·
     rw [c]; simpa using b
    ·
     exact a.2 y c
  ·
   rintro ⟨hx, hm⟩
   rcases List.mem_cons.1 hx with a | a
   ·
    exact .inl a
   ·
    exact .inr ⟨⟨a, fun z hz => hm z (by simp [hz])⟩, by rw [hm e (by simp)]; rfl⟩
theorem puts_top {U : List EvP} (hU : closedE U = true) : ∀ (T S l : List EvP), (∀ x ∈ S, x ∈ U) → (∀ x ∈ T, x ∈ U) → ShOf S l → ShOf (T.reverse ++ S) (T.foldl putE l)
 | [], S, l, _, _, h => h
 | e :: T, S, l, hS, hT, h => by
  have := puts_top hU T (e :: S) (putE l e) (fun x hx => by
   rcases List.mem_cons.1 hx with a | a
   ·
    rw [a]; exact hT e (by simp)
   ·
    exact hS x a) (fun x hx => hT x (by simp [hx])) (put_top hU hS (hT e (by simp)) h)
  simpa using this
theorem shOf_nil : ShOf [] [] := ⟨List.Pairwise.nil, fun x => by simp [TopE]⟩
theorem join_top {U S T l m : List EvP} (hU : closedE U = true) (hS : ∀ x ∈ S, x ∈ U) (hT : ∀ x ∈ T, x ∈ U) (hl : ShOf S l) (hm : ShOf T m) : ShOf (S ++ T) (m.foldl putE l) := by
 have mT : ∀ x ∈ m, x ∈ T := fun x hx => ((hm.2 x).1 hx).1
 have h := puts_top hU m S l hS (fun x hx => hT x (mT x hx)) hl
 refine ⟨h.1, fun x => (h.2 x).trans ?_⟩
 constructor
 ·
  rintro ⟨hx, hn⟩
  refine ⟨?_, fun y hy => ?_⟩
  ·
   rcases List.mem_append.1 hx with a | a
   ·
    exact List.mem_append_right _ (mT x (List.mem_reverse.1 a))
   ·
    exact List.mem_append_left _ a
  ·
   rcases List.mem_append.1 hy with a | a
   ·
    exact hn y (List.mem_append_right _ a)
   ·
    rcases r : aheadP x y with _ | _
    ·
     rfl
    ·
     obtain ⟨t, ht, s⟩ := has_top hU hT a
     have xU : x ∈ U := by
      rcases List.mem_append.1 hx with b | b
      ·
       exact hT x (mT x (List.mem_reverse.1 b))
      ·
       exact hS x b
     have xt : aheadP x t = true := by
      rcases s with s | s
      ·
       rw [s]; exact r
      ·
       exact cl_tr hU xU (hT y a) (hT t ht.1) r s
     have := hn t (List.mem_append_left _ (List.mem_reverse.2 ((hm.2 t).2 ht)))
     rw [xt] at this
     cases this
 ·
  rintro ⟨hx, hn⟩
  refine ⟨?_, fun y hy => ?_⟩
  ·
   rcases List.mem_append.1 hx with a | a
   ·
    exact List.mem_append_right _ a
   ·
    exact List.mem_append_left _ (List.mem_reverse.2 ((hm.2 x).2 ⟨a, fun z hz => hn z (List.mem_append_right _ hz)⟩))
  ·
   rcases List.mem_append.1 hy with a | a
   ·
    exact hn y (List.mem_append_right _ (mT y (List.mem_reverse.1 a)))
   ·
    exact hn y (List.mem_append_left _ a)
end
end Go.Proofs.YtehmchdhlhchjaaGreatDoor
