/- shelf.Put. Those of a list of events that are asked for. What is asked of a store's events: their path, whether it is near, whether their dot is known. Where the shelf of a path stands in a store. store.put's func; rebuilt. store.put. A range over a function whose body may also write maps: no program here. store.runs: the runs of a store. Sets of dots, and of texts. -/
import Derived.Test.YtomgjogkkoigbaaGreatDoorZsoj
import Derived.Test.YtomgjogkkoigbaaGreatDoorZsor
import Derived.Test.YtomgjogkkoigbaaGreatDoorZsou
import Derived.Deep.Cut
import Derived.BigQuiet
import Derived.Test.YtomgjogkkoigbaaGreatDoorZsot
import Derived.RangeFuncCalls
import Derived.Test.YtomgjogkkoigbaaGreatDoorZsod
import Derived.Test.YtomgjogkkoigbaaGreatDoorZsos
import Derived.Test.YtomgjogkkoigbaaGreatDoorZsoc
import Derived.Test.YtomgjogkkoigbaaGreatDoorZsoq
import Derived.OwnWalkIn
import Derived.Maps.OwnSet
import Derived.DeepKeys4
import Derived.StringKeys
set_option linter.unusedSimpArgs false
set_option linter.unusedVariables false
namespace Go.Proofs.YtomgjogkkoigbaaGreatDoor
section
open Go.RowKit Go.Lib


theorem EsF.low {w : World} {lo lo' hi : Nat} {A : Option Addr} {c : Nat} {ys : List EvT} {es : List EvP} (h : EsF w lo hi A c ys es) (hh : lo' ≤ lo) : EsF w lo' hi A c ys es :=
 ⟨h.row, fun a ha => ⟨Nat.le_trans hh (h.rowAt a ha).1, (h.rowAt a ha).2⟩, h.all.low hh⟩
set_option maxRecDepth 100000 in
set_option maxHeartbeats 16000000 in
theorem shput_any (w : World) (A : Option Addr) (c : Nat) (xs : List EvT) (es : List EvP) (y : EvT) (f : EvP) (h : RdK evTy w A xs.length xs) (hx : EvsR w xs es) (hn : xs.length ≤ 1000) (hs : ∀ e ∈ es, EvSm e ∧ e.q.length ≤ 100000) (hy : EvR w y f) (ht : EvSm f ∧ f.q.length ≤ 100000) :
  Calls Tryz.prog 104 #[.slice A xs.length c, .agg #[.int .i64 y.n, .int .i64 y.s, .string y.p, .int .i64 y.k, .int .i64 y.m, .slice y.A y.l y.c, .slice y.B y.bl y.bc]] w fun r w' => ∃ (A' : Option Addr) (c' : Nat) (ys : List EvT), r = .returned (.tuple #[.slice A' ys.length c', .int .i64 (shJoinE es [f]).1]) ∧ EsF w' w.heap.size w'.heap.size A' c' ys (shJoinE es [f]).2 ∧ Chg [] w w' := by

 obtain ⟨w1, hw1, c1, b1⟩ := news1 w (.cells #[.int .i64 y.n, .int .i64 y.s, .string y.p, .int .i64 y.k, .int .i64 y.m, .slice y.A y.l y.c, .slice y.B y.bl y.bc] 30)
 have W1 := Lib.hid hw1
 have C1 := Lib.hid c1
 have B1 := Lib.hid b1
 have HA := Lib.hid (h.chg c1 (by simp))
 have HX := Lib.hid (hx.chg c1)
 have HN := Lib.hid hn
 have HS : Hid (∀ e ∈ es, EvSm e) := Lib.hid (fun e he => (hs e he).1)
 have HQ : Hid (∀ e ∈ es, e.b.length ≤ 140737488351232 ∧ e.q.length ≤ 100000) := Lib.hid (fun e he => ⟨(hs e he).1.2.1, (hs e he).2⟩)
 have HY := Lib.hid (hy.chg c1)
 have HT := Lib.hid ht.1
 have HTQ := Lib.hid ht.2
 have PC := Lib.hid (Chg.refl [] w1)
 have RJ : Hid (∃ R, R = shJoinE es [f]) := Lib.hid ⟨_, rfl⟩
 clear hw1 c1 b1 h hx hn hs hy ht
 go_enter Tryz.func104, Tryz.ntmps104
 go_upto_region 1 with fail
 rw [← W1.out]
 obtain ⟨g1, hg1⟩ : ∃ g, w.heap.size = g := ⟨_, rfl⟩
 have HG := Lib.hid hg1
 rw [hg1] at B1 ⊢
 clear W1 hg1 RJ
 have HB : Hid (∀ w', Chg [] w1 w' → (w'.cell? ⟨g1, 0, none⟩ = some (.int .i64 y.n) ∧ w'.cell? ⟨g1, 1, none⟩ = some (.int .i64 y.s) ∧ w'.cell? ⟨g1, 2, none⟩ = some (.string y.p) ∧ w'.cell? ⟨g1, 3, none⟩ = some (.int .i64 y.k) ∧ w'.cell? ⟨g1, 4, none⟩ = some (.int .i64 y.m) ∧ w'.cell? ⟨g1, 5, none⟩ = some (.slice y.A y.l y.c) ∧ w'.cell? ⟨g1, 6, none⟩ = some (.slice y.B y.bl y.bc))) := Lib.hid (fun w' hc => by
  have b := hc.at_ B1.out (by simp)
  exact ⟨cell_of b 0, cell_of b 1, cell_of b 2, cell_of b 3, cell_of b 4, cell_of b 5, cell_of b 6⟩)
 have SCK : Hid (∀ w', Chg [] w1 w' → Calls Tryz.prog 54 #[.slice A xs.length c] w' fun r w2 => r = .returned (.int .i64 (shE es)) ∧ Chg [] w' w2) := Lib.hid (fun w' hc => shcheck_any w' A c xs es (HA.out.chg hc (by simp)) (HX.out.chg hc) (by have := HN.out; omega) HS.out)
 have ECK : Hid (∀ w', Chg [] w1 w' → Calls Tryz.prog 46 #[.agg #[.int .i64 y.n, .int .i64 y.s, .string y.p, .int .i64 y.k, .int .i64 y.m, .slice y.A y.l y.c, .slice y.B y.bl y.bc]] w' fun r w2 => r = .returned (.int .i64 (chkEv f)) ∧ Chg [] w' w2) := Lib.hid (fun w' hc => evcheck_any w' y f (HY.out.chg hc) HT.out)
 rcases shE_two es with e1 | e1
 rotate_left
 ·
  have NO : Hid (shJoinE es [f] = (2, [])) := Lib.hid (shJoin_noA (fun q => by rw [shE_zero.2 q] at e1; cases e1))
  refine wp_region_held_drew (S := fun w' => Chg [] w1 w') (by kernel_rfl) (Chg.refl [] w1).drew (fun hHeld => ?_)
  refine sy 0 11 rfl rfl ?_
  try simp only [Act.put, sA, s0, s1]
  refine wpAnyH_ready (rs := [1]) (by kernel_rfl) (by simp) ?_
  refine AllReadyH.cons rfl (fun K hK => ?_) AllReadyH.nil
  replace hK := Lib.hid hK
  go_simp
  refine (SCK.out _ hHeld).mono ?_
  rintro r w3 ⟨rfl, hc⟩
  rw [e1]
  have C9 := Lib.hid (hHeld.trans hc)
  clear hc hHeld
  refine hK.out _ _ C9.out (fun hHeld => ?_)
  clear hK K
  try simp only [Act.put, sA, s0, s1]
  refine sy 2 13 rfl rfl ?_
  try simp only [Act.put, sA, s0, s1]
  refine sy 3 14 rfl rfl ?_
  try simp only [Act.put, sA, s0, s1]
  refine sn 4 15 rfl rfl ?_
  try simp only [Act.put, sA, s0, s1]
  refine sn 5 16 rfl rfl ?_
  try simp only [Act.put, sA, s0, s1]
  refine sn 6 17 rfl rfl ?_
  try simp only [Act.put, sA, s0, s1]
  refine sy 7 18 rfl rfl ?_
  try simp only [Act.put, sA, s0, s1]
  refine sy 8 19 rfl rfl ?_
  try simp only [Act.put, sA, s0, s1]
  refine sn 9 20 rfl rfl ?_
  try simp only [Act.put, sA, s0, s1]
  refine sn 10 21 rfl rfl ?_
  try simp only [Act.put, sA, s0, s1]
  refine sn 11 22 rfl rfl ?_
  try simp only [Act.put, sA, s0, s1]
  refine sn 12 23 rfl rfl ?_
  try simp only [Act.put, sA, s0, s1]
  refine sn 13 24 rfl rfl ?_
  try simp only [Act.put, sA, s0, s1]
  refine sn 14 25 rfl rfl ?_
  try simp only [Act.put, sA, s0, s1]
  refine sn 15 26 rfl rfl ?_
  try simp only [Act.put, sA, s0, s1]
  refine sn 16 27 rfl rfl ?_
  try simp only [Act.put, sA, s0, s1]
  refine sn 17 28 rfl rfl ?_
  try simp only [Act.put, sA, s0, s1]
  refine sn 18 29 rfl rfl ?_
  try simp only [Act.put, sA, s0, s1]
  refine sn 19 30 rfl rfl ?_
  try simp only [Act.put, sA, s0, s1]
  refine sn 20 31 rfl rfl ?_
  try simp only [Act.put, sA, s0, s1]
  refine sy 21 32 rfl rfl ?_
  try simp only [Act.put, sA, s0, s1]
  refine wpAnyH_done (by kernel_rfl) ?_ _
  have PE := Lib.hid (C1.out.trans C9.out)
  clear hHeld HB SCK ECK
  go_wp2
  go_ret2
  rw [NO.out]
  exact ⟨none, 0, [], rfl, EsF.nil _ _ _, PE.out⟩
 have SOK : Hid (ShOk es) := Lib.hid (shE_zero.1 e1)
 rcases chkEv_two f with e2 | e2
 rotate_left
 ·
  have NO : Hid (shJoinE es [f] = (2, [])) := Lib.hid (shJoin_no1 (by omega))
  refine wp_region_held_drew (S := fun w' => Chg [] w1 w') (by kernel_rfl) (Chg.refl [] w1).drew (fun hHeld => ?_)
  refine sy 0 11 rfl rfl ?_
  try simp only [Act.put, sA, s0, s1]
  refine wpAnyH_ready (rs := [1]) (by kernel_rfl) (by simp) ?_
  refine AllReadyH.cons rfl (fun K hK => ?_) AllReadyH.nil
  replace hK := Lib.hid hK
  go_simp
  refine (SCK.out _ hHeld).mono ?_
  rintro r w3 ⟨rfl, hc⟩
  rw [e1]
  have C9 := Lib.hid (hHeld.trans hc)
  clear hc hHeld
  refine hK.out _ _ C9.out (fun hHeld => ?_)
  clear hK K
  try simp only [Act.put, sA, s0, s1]
  refine sy 2 13 rfl rfl ?_
  try simp only [Act.put, sA, s0, s1]
  refine sy 3 14 rfl rfl ?_
  try simp only [Act.put, sA, s0, s1]
  refine sy 4 15 rfl rfl ?_ (hy := by (intro w hSw; (try dsimp only at hSw); have hq := HB.out _ hSw; obtain ⟨q0, q1, q2, q3, q4, q5, q6⟩ := hq; go_simp; try with_reducible rfl))
  try simp only [Act.put, sA, s0, s1]
  refine wpAnyH_ready (rs := [5]) (by kernel_rfl) (by simp) ?_
  refine AllReadyH.cons rfl (fun K hK => ?_) AllReadyH.nil
  replace hK := Lib.hid hK
  go_simp
  refine (ECK.out _ hHeld).mono ?_
  rintro r w4 ⟨rfl, hc⟩
  rw [e2]
  have C9 := Lib.hid (hHeld.trans hc)
  clear hc hHeld
  refine hK.out _ _ C9.out (fun hHeld => ?_)
  clear hK K
  try simp only [Act.put, sA, s0, s1]
  refine sy 6 17 rfl rfl ?_
  try simp only [Act.put, sA, s0, s1]
  refine sy 7 18 rfl rfl ?_
  try simp only [Act.put, sA, s0, s1]
  refine sy 8 19 rfl rfl ?_
  try simp only [Act.put, sA, s0, s1]
  refine sn 9 20 rfl rfl ?_
  try simp only [Act.put, sA, s0, s1]
  refine sn 10 21 rfl rfl ?_
  try simp only [Act.put, sA, s0, s1]
  refine sn 11 22 rfl rfl ?_
  try simp only [Act.put, sA, s0, s1]
  refine sn 12 23 rfl rfl ?_
  try simp only [Act.put, sA, s0, s1]
  refine sn 13 24 rfl rfl ?_
  try simp only [Act.put, sA, s0, s1]
  refine sn 14 25 rfl rfl ?_
  try simp only [Act.put, sA, s0, s1]
  refine sn 15 26 rfl rfl ?_
  try simp only [Act.put, sA, s0, s1]
  refine sn 16 27 rfl rfl ?_
  try simp only [Act.put, sA, s0, s1]
  refine sn 17 28 rfl rfl ?_
  try simp only [Act.put, sA, s0, s1]
  refine sn 18 29 rfl rfl ?_
  try simp only [Act.put, sA, s0, s1]
  refine sn 19 30 rfl rfl ?_
  try simp only [Act.put, sA, s0, s1]
  refine sn 20 31 rfl rfl ?_
  try simp only [Act.put, sA, s0, s1]
  refine sy 21 32 rfl rfl ?_
  try simp only [Act.put, sA, s0, s1]
  refine wpAnyH_done (by kernel_rfl) ?_ _
  have PE := Lib.hid (C1.out.trans C9.out)
  clear hHeld HB SCK ECK
  go_wp2
  go_ret2
  rw [NO.out]
  exact ⟨none, 0, [], rfl, EsF.nil _ _ _, PE.out⟩
 have CF := Lib.hid e2
 by_cases h0 : xs.length = 0
 ·
  have YES : Hid (shJoinE es [f] = (0, putE es f)) := Lib.hid (shPut_yes SOK.out CF.out (fun x hx => by
   have := HX.out.1
   have := (List.getElem?_eq_some_iff.1 hx).1
   omega))
  have l0 : ¬ (0 : Int) < (xs.length : Int) := by omega
  have l1 : ¬ 0 < xs.length := by omega
  have l2 : decide ((0 : Int) < (xs.length : Int)) = false := decide_eq_false (by omega)
  have l3 : decide (0 < xs.length) = false := decide_eq_false (by omega)
  clear h0
  refine wp_region_held_drew (S := fun w' => Chg [] w1 w') (by kernel_rfl) (Chg.refl [] w1).drew (fun hHeld => ?_)
  refine sy 0 11 rfl rfl ?_
  try simp only [Act.put, sA, s0, s1]
  refine wpAnyH_ready (rs := [1]) (by kernel_rfl) (by simp) ?_
  refine AllReadyH.cons rfl (fun K hK => ?_) AllReadyH.nil
  replace hK := Lib.hid hK
  go_simp
  refine (SCK.out _ hHeld).mono ?_
  rintro r w3 ⟨rfl, hc⟩
  rw [e1]
  have C9 := Lib.hid (hHeld.trans hc)
  clear hc hHeld
  refine hK.out _ _ C9.out (fun hHeld => ?_)
  clear hK K
  try simp only [Act.put, sA, s0, s1]
  refine sy 2 13 rfl rfl ?_
  try simp only [Act.put, sA, s0, s1]
  refine sy 3 14 rfl rfl ?_
  try simp only [Act.put, sA, s0, s1]
  refine sy 4 15 rfl rfl ?_ (hy := by (intro w hSw; (try dsimp only at hSw); have hq := HB.out _ hSw; obtain ⟨q0, q1, q2, q3, q4, q5, q6⟩ := hq; go_simp; try with_reducible rfl))
  try simp only [Act.put, sA, s0, s1]
  refine wpAnyH_ready (rs := [5]) (by kernel_rfl) (by simp) ?_
  refine AllReadyH.cons rfl (fun K hK => ?_) AllReadyH.nil
  replace hK := Lib.hid hK
  go_simp
  refine (ECK.out _ hHeld).mono ?_
  rintro r w4 ⟨rfl, hc⟩
  rw [e2]
  have C9 := Lib.hid (hHeld.trans hc)
  clear hc hHeld
  refine hK.out _ _ C9.out (fun hHeld => ?_)
  clear hK K
  try simp only [Act.put, sA, s0, s1]
  refine sy 6 17 rfl rfl ?_
  try simp only [Act.put, sA, s0, s1]
  refine sy 7 18 rfl rfl ?_
  try simp only [Act.put, sA, s0, s1]
  refine sy 8 19 rfl rfl ?_
  try simp only [Act.put, sA, s0, s1]
  refine sy 9 20 rfl rfl ?_
  try simp only [Act.put, sA, s0, s1]
  refine sy 10 21 rfl rfl ?_
  try simp only [Act.put, sA, s0, s1]
  refine sy 11 22 rfl rfl ?_
  try simp only [Act.put, sA, s0, s1]
  refine sy 12 23 rfl rfl ?_
  try simp only [Act.put, sA, s0, s1]
  refine sn 13 24 rfl rfl ?_
  try simp only [Act.put, sA, s0, s1]
  refine sn 14 25 rfl rfl ?_
  try simp only [Act.put, sA, s0, s1]
  refine sn 15 26 rfl rfl ?_
  try simp only [Act.put, sA, s0, s1]
  refine sn 16 27 rfl rfl ?_
  try simp only [Act.put, sA, s0, s1]
  refine sn 17 28 rfl rfl ?_
  try simp only [Act.put, sA, s0, s1]
  refine sn 18 29 rfl rfl ?_
  try simp only [Act.put, sA, s0, s1]
  refine sn 19 30 rfl rfl ?_
  try simp only [Act.put, sA, s0, s1]
  refine sy 20 31 rfl rfl ?_
  try simp only [Act.put, sA, s0, s1]
  refine sy 21 32 rfl rfl ?_
  try simp only [Act.put, sA, s0, s1]
  refine wpAnyH_done (by kernel_rfl) ?_ _
  clear l0 l1 l2 l3
  have PC := C9
  clear hHeld SCK ECK C9
  have FI := Lib.hid (shfind_any w4 A c xs y.n y.s (HA.out.chg PC.out (by simp)) (HX.out.up SOK.out.2.2.1) (by have := HN.out; omega))
  obtain ⟨y0, y1, y2, y3, y4, y5, y6⟩ := HB.out _ PC.out
  go_wp2_with fail
  clear y0 y1 y2 y3 y4 y5 y6
  refine FI.out.mono ?_
  rintro r w5 ⟨i0, hi0, lo0, hh0, rfl, hc⟩
  have PC5 := Lib.hid (PC.out.trans hc)
  clear hc FI PC hi0 lo0 hh0
  rcases hin : inE xs y.n y.s with _ | _
  rotate_left
  ·
   have ST : Hid (stayE es f = true) := Lib.hid (by rw [stay_or, ← HY.out.n, ← HY.out.s, ← HX.out.inE, hin]; rfl)
   clear hin
   have PF := PC5
   have FE := Lib.hid (frevents_any w5 A c xs es (HA.out.chg PF.out (by simp)) (HX.out.chg PF.out) (by have := HN.out; omega) HQ.out)
   go_wp2_with fail
   refine FE.out.mono ?_
   rintro r w7 ⟨A7, c7, ys, rfl, hl, he, hc⟩
   have P7 := Lib.hid (And.intro he (C1.out.trans (PF.out.trans hc)))
   have LO : Hid (w.heap.size ≤ w5.heap.size) := Lib.hid (Nat.le_trans C1.out.size PF.out.size)
   clear hl he hc FE
   go_wp2
   go_ret2
   rw [YES.out, put_stays ST.out]
   exact ⟨A7, c7, ys, rfl, P7.out.1.low LO.out, P7.out.2⟩
  have IN := Lib.hid hin
  clear hin
  have AHD := Lib.hid (shahead_any w5 A c xs es y f (HA.out.chg PC5.out (by simp)) (HX.out.chg PC5.out) (by have := HN.out; omega) (HY.out.chg PC5.out) HS.out HT.out)
  obtain ⟨y0, y1, y2, y3, y4, y5, y6⟩ := HB.out _ PC5.out
  go_wp2_with fail
  clear y0 y1 y2 y3 y4 y5 y6
  refine AHD.out.mono ?_
  rintro r w6 ⟨rfl, hc⟩
  have PC6 := Lib.hid (PC5.out.trans hc)
  clear hc AHD PC5
  rcases ha : es.any (fun e => aheadP f e) with _ | _
  rotate_left
  ·
   have ST : Hid (stayE es f = true) := Lib.hid (by rw [stay_or, ha, Bool.or_true])
   clear ha
   have PF := PC6
   have FE := Lib.hid (frevents_any w6 A c xs es (HA.out.chg PF.out (by simp)) (HX.out.chg PF.out) (by have := HN.out; omega) HQ.out)
   go_wp2_with fail
   refine FE.out.mono ?_
   rintro r w7 ⟨A7, c7, ys, rfl, hl, he, hc⟩
   have P7 := Lib.hid (And.intro he (C1.out.trans (PF.out.trans hc)))
   have LO : Hid (w.heap.size ≤ w6.heap.size) := Lib.hid (Nat.le_trans C1.out.size PF.out.size)
   clear hl he hc FE
   go_wp2
   go_ret2
   rw [YES.out, put_stays ST.out]
   exact ⟨A7, c7, ys, rfl, P7.out.1.low LO.out, P7.out.2⟩
  have NST : Hid (stayE es f = false) := Lib.hid (by rw [stay_or, ha, ← HY.out.n, ← HY.out.s, ← HX.out.inE, IN.out]; rfl)
  clear ha
  have WO := Lib.hid (shwithout_any w6 A c xs es y f (HA.out.chg PC6.out (by simp)) (HX.out.chg PC6.out) (by have := HN.out; omega) (HY.out.chg PC6.out) HS.out HT.out)
  obtain ⟨y0, y1, y2, y3, y4, y5, y6⟩ := HB.out _ PC6.out
  go_wp2_with fail
  clear y0 y1 y2 y3 y4 y5 y6
  refine WO.out.mono ?_
  rintro r w7 ⟨A7, c7, ys, rfl, hl7, he7, ho7, hn7, hc⟩
  have C67 := Lib.hid hc
  have O7 := Lib.hid ho7
  have N7 : Hid (∀ a, A7 = some a → w6.heap.size ≤ a.block) := Lib.hid hn7
  have E7 := Lib.hid he7
  have L7 : Hid (ys.length ≤ 1000) := Lib.hid (by have := HN.out; omega)
  clear hc ho7 hn7 he7 hl7 WO
  have FI := Lib.hid (shfind_any w7 A7 c7 ys y.n y.s O7.out.reads (E7.out.up (keep_up SOK.out.2.2.1)) (by have := L7.out; omega))
  obtain ⟨y0, y1, y2, y3, y4, y5, y6⟩ := HB.out _ (PC6.out.trans C67.out)
  go_wp2_with fail
  clear y0 y1 y2 y3 y4 y5 y6
  refine FI.out.mono ?_
  rintro r w8 ⟨i, hi, lo, hh, rfl, hc⟩
  have C68 := Lib.hid (C67.out.trans hc)
  have O8 := Lib.hid (O7.out.chg hc (by simp))
  have PI := Lib.hid (And.intro hi (put_ins E7.out (HY.out.chg PC6.out) NST.out hi lo hh))
  clear hc FI C67 O7 E7 hi lo hh
  obtain ⟨w9, hw9, c9, b9⟩ := news1 w8 (.cells #[.int .i64 y.n, .int .i64 y.s, .string y.p, .int .i64 y.k, .int .i64 y.m, .slice y.A y.l y.c, .slice y.B y.bl y.bc] 30)
  have W9 := Lib.hid hw9
  have INS := Lib.hid (insev_any w9 A7 c7 ys i w8.heap.size y (O8.out.chg c9 (by simp)) PI.out.1 (by have := L7.out; omega) b9 (fun a ha e => by
   have := O8.out.lt a ha
   omega))
  have C69 := Lib.hid (C68.out.trans c9)
  clear hw9 c9 b9 O8
  obtain ⟨y0, y1, y2, y3, y4, y5, y6⟩ := HB.out _ (PC6.out.trans C68.out)
  go_wp2_with (rw [← W9.out])
  clear y0 y1 y2 y3 y4 y5 y6
  refine INS.out.mono ?_
  rintro r wa ⟨Aa, ca, rfl, hoa, hna, hca⟩
  have ZL : Hid (ys.length + 1 = (ys.take i ++ y :: ys.drop i).length) := Lib.hid (by have := PI.out.1; simp; omega)
  have C6a := Lib.hid (hca w6 C69.out N7.out)
  have OA := Lib.hid hoa
  have PA := Lib.hid (PI.out.2.chg C6a.out)
  obtain ⟨zs, hzs⟩ : ∃ zs, zs = ys.take i ++ y :: ys.drop i := ⟨_, rfl⟩
  have LZ : Hid (zs.length ≤ 100000) := Lib.hid (by rw [hzs, ← ZL.out]; have := L7.out; omega)
  rw [← hzs] at ZL OA PA
  clear hoa hna hca hzs INS C69 C68 W9
  rw [ZL.out]
  have FE := Lib.hid (frevents_any wa Aa ca zs (putE es f) OA.out.reads PA.out LZ.out (fun e he => (put_mem he).elim (fun q => by rw [q]; exact ⟨HT.out.2.1, HTQ.out⟩) (HQ.out e)))
  go_wp2_with fail
  refine FE.out.mono ?_
  rintro r wb ⟨Ab, cb, us, rfl, hl, he, hc⟩
  have P7 := Lib.hid (And.intro he (C1.out.trans (PC6.out.trans (C6a.out.trans hc))))
  have LO : Hid (w.heap.size ≤ wa.heap.size) := Lib.hid (Nat.le_trans C1.out.size (Nat.le_trans PC6.out.size C6a.out.size))
  clear hl he hc FE
  go_wp2
  go_ret2
  rw [YES.out]
  exact ⟨Ab, cb, us, rfl, P7.out.1.low LO.out, P7.out.2⟩
 obtain ⟨g3, o3, eA, _⟩ := HA.out.line (by omega)
 subst eA
 obtain ⟨y0, f0, ey0, ef0, ry0⟩ := HX.out.at_ (show 0 < xs.length by omega)
 have H0 : Hid (∀ w', Chg [] w1 w' → w'.cell? ⟨g3, o3 + 2, none⟩ = some (.string y0.p)) := Lib.hid (fun w' hc => by
  have q := evCells (HA.out.chg hc (by simp)) ey0
  rw [Nat.zero_mul, Nat.add_zero] at q
  exact q.2.2.1)
 have XP : Hid (y0.p = strOf f0.p ∧ y.p = strOf f.p) := Lib.hid ⟨ry0.p, HY.out.p⟩
 have EF0 := Lib.hid ef0
 have l0 : (0 : Int) < (xs.length : Int) := by omega
 have l1 : 0 < xs.length := by omega
 have l2 : decide ((0 : Int) < (xs.length : Int)) = true := by simp; omega
 have l3 : decide (0 < xs.length) = true := by simp; omega
 clear ey0 ef0 ry0 h0
 by_cases hp : f0.p = f.p
 rotate_left
 ·
  have NO : Hid (shJoinE es [f] = (2, [])) := Lib.hid (shJoin_path EF0.out rfl hp)
  have p1' : ((y0.p == y.p) : Bool) = false := by rw [XP.out.1, XP.out.2]; exact strOf_ne hp
  have p2' : ¬ y0.p = y.p := by rw [XP.out.1, XP.out.2]; exact strOf_ne2 hp
  have p3' : ¬ y0.p.toList = y.p.toList := by rw [XP.out.1, XP.out.2]; exact strOf_ne3s hp
  have p4' : ((y0.p.toList == y.p.toList) : Bool) = false := by simpa using p3'
  clear hp
  refine wp_region_held_drew (S := fun w' => Chg [] w1 w') (by kernel_rfl) (Chg.refl [] w1).drew (fun hHeld => ?_)
  refine sy 0 11 rfl rfl ?_
  try simp only [Act.put, sA, s0, s1]
  refine wpAnyH_ready (rs := [1]) (by kernel_rfl) (by simp) ?_
  refine AllReadyH.cons rfl (fun K hK => ?_) AllReadyH.nil
  replace hK := Lib.hid hK
  go_simp
  refine (SCK.out _ hHeld).mono ?_
  rintro r w3 ⟨rfl, hc⟩
  rw [e1]
  have C9 := Lib.hid (hHeld.trans hc)
  clear hc hHeld
  refine hK.out _ _ C9.out (fun hHeld => ?_)
  clear hK K
  try simp only [Act.put, sA, s0, s1]
  refine sy 2 13 rfl rfl ?_
  try simp only [Act.put, sA, s0, s1]
  refine sy 3 14 rfl rfl ?_
  try simp only [Act.put, sA, s0, s1]
  refine sy 4 15 rfl rfl ?_ (hy := by (intro w hSw; (try dsimp only at hSw); have hq := HB.out _ hSw; obtain ⟨q0, q1, q2, q3, q4, q5, q6⟩ := hq; go_simp; try with_reducible rfl))
  try simp only [Act.put, sA, s0, s1]
  refine wpAnyH_ready (rs := [5]) (by kernel_rfl) (by simp) ?_
  refine AllReadyH.cons rfl (fun K hK => ?_) AllReadyH.nil
  replace hK := Lib.hid hK
  go_simp
  refine (ECK.out _ hHeld).mono ?_
  rintro r w4 ⟨rfl, hc⟩
  rw [e2]
  have C9 := Lib.hid (hHeld.trans hc)
  clear hc hHeld
  refine hK.out _ _ C9.out (fun hHeld => ?_)
  clear hK K
  try simp only [Act.put, sA, s0, s1]
  refine sy 6 17 rfl rfl ?_
  try simp only [Act.put, sA, s0, s1]
  refine sy 7 18 rfl rfl ?_
  try simp only [Act.put, sA, s0, s1]
  refine sy 8 19 rfl rfl ?_
  try simp only [Act.put, sA, s0, s1]
  refine sy 9 20 rfl rfl ?_
  try simp only [Act.put, sA, s0, s1]
  refine sy 10 21 rfl rfl ?_
  try simp only [Act.put, sA, s0, s1]
  refine sy 11 22 rfl rfl ?_
  try simp only [Act.put, sA, s0, s1]
  refine sy 12 23 rfl rfl ?_
  try simp only [Act.put, sA, s0, s1]
  refine sy 13 24 rfl rfl ?_
  try simp only [Act.put, sA, s0, s1]
  refine sy 14 25 rfl rfl ?_
  try simp only [Act.put, sA, s0, s1]
  refine sy 15 26 rfl rfl ?_
  try simp only [Act.put, sA, s0, s1]
  refine sy 16 27 rfl rfl ?_ (hy := by (intro w hSw; (try dsimp only at hSw); have hq := H0.out _ hSw; go_simp; try with_reducible rfl))
  try simp only [Act.put, sA, s0, s1]
  refine sy 17 28 rfl rfl ?_
  try simp only [Act.put, sA, s0, s1]
  refine sy 18 29 rfl rfl ?_ (hy := by (intro w hSw; (try dsimp only at hSw); have hq := HB.out _ hSw; obtain ⟨q0, q1, q2, q3, q4, q5, q6⟩ := hq; go_simp; try with_reducible rfl))
  try simp only [Act.put, sA, s0, s1]
  refine sy 19 30 rfl rfl ?_
  try simp only [Act.put, sA, s0, s1]
  refine sy 20 31 rfl rfl ?_
  try simp only [Act.put, sA, s0, s1]
  refine sy 21 32 rfl rfl ?_
  try simp only [Act.put, sA, s0, s1]
  refine wpAnyH_done (by kernel_rfl) ?_ _
  have PE := Lib.hid (C1.out.trans C9.out)
  clear hHeld HB SCK ECK
  go_wp2
  go_ret2
  rw [NO.out]
  exact ⟨none, 0, [], rfl, EsF.nil _ _ _, PE.out⟩
 have YES : Hid (shJoinE es [f] = (0, putE es f)) := Lib.hid (shPut_yes SOK.out CF.out (fun x hx => by rw [EF0.out] at hx; cases hx; exact hp))
 have p1' : ((y0.p == y.p) : Bool) = true := by rw [XP.out.1, XP.out.2, hp]; show ((f.p.toArray == f.p.toArray) : Bool) = true; simp
 have p4' : ((y0.p.toList == y.p.toList) : Bool) = true := by rw [XP.out.1, XP.out.2, hp]; simp
 clear hp
 refine wp_region_held_drew (S := fun w' => Chg [] w1 w') (by kernel_rfl) (Chg.refl [] w1).drew (fun hHeld => ?_)
 refine sy 0 11 rfl rfl ?_
 try simp only [Act.put, sA, s0, s1]
 refine wpAnyH_ready (rs := [1]) (by kernel_rfl) (by simp) ?_
 refine AllReadyH.cons rfl (fun K hK => ?_) AllReadyH.nil
 replace hK := Lib.hid hK
 go_simp
 refine (SCK.out _ hHeld).mono ?_
 rintro r w3 ⟨rfl, hc⟩
 rw [e1]
 have C9 := Lib.hid (hHeld.trans hc)
 clear hc hHeld
 refine hK.out _ _ C9.out (fun hHeld => ?_)
 clear hK K
 try simp only [Act.put, sA, s0, s1]
 refine sy 2 13 rfl rfl ?_
 try simp only [Act.put, sA, s0, s1]
 refine sy 3 14 rfl rfl ?_
 try simp only [Act.put, sA, s0, s1]
 refine sy 4 15 rfl rfl ?_ (hy := by (intro w hSw; (try dsimp only at hSw); have hq := HB.out _ hSw; obtain ⟨q0, q1, q2, q3, q4, q5, q6⟩ := hq; go_simp; try with_reducible rfl))
 try simp only [Act.put, sA, s0, s1]
 refine wpAnyH_ready (rs := [5]) (by kernel_rfl) (by simp) ?_
 refine AllReadyH.cons rfl (fun K hK => ?_) AllReadyH.nil
 replace hK := Lib.hid hK
 go_simp
 refine (ECK.out _ hHeld).mono ?_
 rintro r w4 ⟨rfl, hc⟩
 rw [e2]
 have C9 := Lib.hid (hHeld.trans hc)
 clear hc hHeld
 refine hK.out _ _ C9.out (fun hHeld => ?_)
 clear hK K
 try simp only [Act.put, sA, s0, s1]
 refine sy 6 17 rfl rfl ?_
 try simp only [Act.put, sA, s0, s1]
 refine sy 7 18 rfl rfl ?_
 try simp only [Act.put, sA, s0, s1]
 refine sy 8 19 rfl rfl ?_
 try simp only [Act.put, sA, s0, s1]
 refine sy 9 20 rfl rfl ?_
 try simp only [Act.put, sA, s0, s1]
 refine sy 10 21 rfl rfl ?_
 try simp only [Act.put, sA, s0, s1]
 refine sy 11 22 rfl rfl ?_
 try simp only [Act.put, sA, s0, s1]
 refine sy 12 23 rfl rfl ?_
 try simp only [Act.put, sA, s0, s1]
 refine sy 13 24 rfl rfl ?_
 try simp only [Act.put, sA, s0, s1]
 refine sy 14 25 rfl rfl ?_
 try simp only [Act.put, sA, s0, s1]
 refine sy 15 26 rfl rfl ?_
 try simp only [Act.put, sA, s0, s1]
 refine sy 16 27 rfl rfl ?_ (hy := by (intro w hSw; (try dsimp only at hSw); have hq := H0.out _ hSw; go_simp; try with_reducible rfl))
 try simp only [Act.put, sA, s0, s1]
 refine sy 17 28 rfl rfl ?_
 try simp only [Act.put, sA, s0, s1]
 refine sy 18 29 rfl rfl ?_ (hy := by (intro w hSw; (try dsimp only at hSw); have hq := HB.out _ hSw; obtain ⟨q0, q1, q2, q3, q4, q5, q6⟩ := hq; go_simp; try with_reducible rfl))
 try simp only [Act.put, sA, s0, s1]
 refine sy 19 30 rfl rfl ?_
 try simp only [Act.put, sA, s0, s1]
 refine sy 20 31 rfl rfl ?_
 try simp only [Act.put, sA, s0, s1]
 refine sy 21 32 rfl rfl ?_
 try simp only [Act.put, sA, s0, s1]
 refine wpAnyH_done (by kernel_rfl) ?_ _
 clear l0 l1 l2 l3 p1' p4' H0
 have PC := C9
 clear hHeld SCK ECK C9
 have FI := Lib.hid (shfind_any w4 (some ⟨g3, o3, none⟩) c xs y.n y.s (HA.out.chg PC.out (by simp)) (HX.out.up SOK.out.2.2.1) (by have := HN.out; omega))
 obtain ⟨y0, y1, y2, y3, y4, y5, y6⟩ := HB.out _ PC.out
 go_wp2_with fail
 clear y0 y1 y2 y3 y4 y5 y6
 refine FI.out.mono ?_
 rintro r w5 ⟨i0, hi0, lo0, hh0, rfl, hc⟩
 have PC5 := Lib.hid (PC.out.trans hc)
 clear hc FI PC hi0 lo0 hh0
 rcases hin : inE xs y.n y.s with _ | _
 rotate_left
 ·
  have ST : Hid (stayE es f = true) := Lib.hid (by rw [stay_or, ← HY.out.n, ← HY.out.s, ← HX.out.inE, hin]; rfl)
  clear hin
  have PF := PC5
  have FE := Lib.hid (frevents_any w5 (some ⟨g3, o3, none⟩) c xs es (HA.out.chg PF.out (by simp)) (HX.out.chg PF.out) (by have := HN.out; omega) HQ.out)
  go_wp2_with fail
  refine FE.out.mono ?_
  rintro r w7 ⟨A7, c7, ys, rfl, hl, he, hc⟩
  have P7 := Lib.hid (And.intro he (C1.out.trans (PF.out.trans hc)))
  have LO : Hid (w.heap.size ≤ w5.heap.size) := Lib.hid (Nat.le_trans C1.out.size PF.out.size)
  clear hl he hc FE
  go_wp2
  go_ret2
  rw [YES.out, put_stays ST.out]
  exact ⟨A7, c7, ys, rfl, P7.out.1.low LO.out, P7.out.2⟩
 have IN := Lib.hid hin
 clear hin
 have AHD := Lib.hid (shahead_any w5 (some ⟨g3, o3, none⟩) c xs es y f (HA.out.chg PC5.out (by simp)) (HX.out.chg PC5.out) (by have := HN.out; omega) (HY.out.chg PC5.out) HS.out HT.out)
 obtain ⟨y0, y1, y2, y3, y4, y5, y6⟩ := HB.out _ PC5.out
 go_wp2_with fail
 clear y0 y1 y2 y3 y4 y5 y6
 refine AHD.out.mono ?_
 rintro r w6 ⟨rfl, hc⟩
 have PC6 := Lib.hid (PC5.out.trans hc)
 clear hc AHD PC5
 rcases ha : es.any (fun e => aheadP f e) with _ | _
 rotate_left
 ·
  have ST : Hid (stayE es f = true) := Lib.hid (by rw [stay_or, ha, Bool.or_true])
  clear ha
  have PF := PC6
  have FE := Lib.hid (frevents_any w6 (some ⟨g3, o3, none⟩) c xs es (HA.out.chg PF.out (by simp)) (HX.out.chg PF.out) (by have := HN.out; omega) HQ.out)
  go_wp2_with fail
  refine FE.out.mono ?_
  rintro r w7 ⟨A7, c7, ys, rfl, hl, he, hc⟩
  have P7 := Lib.hid (And.intro he (C1.out.trans (PF.out.trans hc)))
  have LO : Hid (w.heap.size ≤ w6.heap.size) := Lib.hid (Nat.le_trans C1.out.size PF.out.size)
  clear hl he hc FE
  go_wp2
  go_ret2
  rw [YES.out, put_stays ST.out]
  exact ⟨A7, c7, ys, rfl, P7.out.1.low LO.out, P7.out.2⟩
 have NST : Hid (stayE es f = false) := Lib.hid (by rw [stay_or, ha, ← HY.out.n, ← HY.out.s, ← HX.out.inE, IN.out]; rfl)
 clear ha
 have WO := Lib.hid (shwithout_any w6 (some ⟨g3, o3, none⟩) c xs es y f (HA.out.chg PC6.out (by simp)) (HX.out.chg PC6.out) (by have := HN.out; omega) (HY.out.chg PC6.out) HS.out HT.out)
 obtain ⟨y0, y1, y2, y3, y4, y5, y6⟩ := HB.out _ PC6.out
 go_wp2_with fail
 clear y0 y1 y2 y3 y4 y5 y6
 refine WO.out.mono ?_
 rintro r w7 ⟨A7, c7, ys, rfl, hl7, he7, ho7, hn7, hc⟩
 have C67 := Lib.hid hc
 have O7 := Lib.hid ho7
 have N7 : Hid (∀ a, A7 = some a → w6.heap.size ≤ a.block) := Lib.hid hn7
 have E7 := Lib.hid he7
 have L7 : Hid (ys.length ≤ 1000) := Lib.hid (by have := HN.out; omega)
 clear hc ho7 hn7 he7 hl7 WO
 have FI := Lib.hid (shfind_any w7 A7 c7 ys y.n y.s O7.out.reads (E7.out.up (keep_up SOK.out.2.2.1)) (by have := L7.out; omega))
 obtain ⟨y0, y1, y2, y3, y4, y5, y6⟩ := HB.out _ (PC6.out.trans C67.out)
 go_wp2_with fail
 clear y0 y1 y2 y3 y4 y5 y6
 refine FI.out.mono ?_
 rintro r w8 ⟨i, hi, lo, hh, rfl, hc⟩
 have C68 := Lib.hid (C67.out.trans hc)
 have O8 := Lib.hid (O7.out.chg hc (by simp))
 have PI := Lib.hid (And.intro hi (put_ins E7.out (HY.out.chg PC6.out) NST.out hi lo hh))
 clear hc FI C67 O7 E7 hi lo hh
 obtain ⟨w9, hw9, c9, b9⟩ := news1 w8 (.cells #[.int .i64 y.n, .int .i64 y.s, .string y.p, .int .i64 y.k, .int .i64 y.m, .slice y.A y.l y.c, .slice y.B y.bl y.bc] 30)
 have W9 := Lib.hid hw9
 have INS := Lib.hid (insev_any w9 A7 c7 ys i w8.heap.size y (O8.out.chg c9 (by simp)) PI.out.1 (by have := L7.out; omega) b9 (fun a ha e => by
  have := O8.out.lt a ha
  omega))
 have C69 := Lib.hid (C68.out.trans c9)
 clear hw9 c9 b9 O8
 obtain ⟨y0, y1, y2, y3, y4, y5, y6⟩ := HB.out _ (PC6.out.trans C68.out)
 go_wp2_with (rw [← W9.out])
 clear y0 y1 y2 y3 y4 y5 y6
 refine INS.out.mono ?_
 rintro r wa ⟨Aa, ca, rfl, hoa, hna, hca⟩
 have ZL : Hid (ys.length + 1 = (ys.take i ++ y :: ys.drop i).length) := Lib.hid (by have := PI.out.1; simp; omega)
 have C6a := Lib.hid (hca w6 C69.out N7.out)
 have OA := Lib.hid hoa
 have PA := Lib.hid (PI.out.2.chg C6a.out)
 obtain ⟨zs, hzs⟩ : ∃ zs, zs = ys.take i ++ y :: ys.drop i := ⟨_, rfl⟩
 have LZ : Hid (zs.length ≤ 100000) := Lib.hid (by rw [hzs, ← ZL.out]; have := L7.out; omega)
 rw [← hzs] at ZL OA PA
 clear hoa hna hca hzs INS C69 C68 W9
 rw [ZL.out]
 have FE := Lib.hid (frevents_any wa Aa ca zs (putE es f) OA.out.reads PA.out LZ.out (fun e he => (put_mem he).elim (fun q => by rw [q]; exact ⟨HT.out.2.1, HTQ.out⟩) (HQ.out e)))
 go_wp2_with fail
 refine FE.out.mono ?_
 rintro r wb ⟨Ab, cb, us, rfl, hl, he, hc⟩
 have P7 := Lib.hid (And.intro he (C1.out.trans (PC6.out.trans (C6a.out.trans hc))))
 have LO : Hid (w.heap.size ≤ wa.heap.size) := Lib.hid (Nat.le_trans C1.out.size (Nat.le_trans PC6.out.size C6a.out.size))
 clear hl he hc FE
 go_wp2
 go_ret2
 rw [YES.out]
 exact ⟨Ab, cb, us, rfl, P7.out.1.low LO.out, P7.out.2⟩
end
section
open Go.RowKit Go.Lib


set_option maxRecDepth 100000 in
set_option maxHeartbeats 4000000 in
theorem stthose1_any (w : World) (gq gf : Nat) (lb : Array Value) (x : EvT) (v : Bool) (eg : ∀ args w, (callFunc gf args).run Tryz.prog w = .ok (.enter gf args) w) (hq : w.heap[gq]? = some (.cells #[.func (.func gf) #[] lb] 85 (0, 0))) (HF : ∀ w', Chg [] w w' → Calls Tryz.prog gf (#[.agg #[.int .i64 x.n, .int .i64 x.s, .string x.p, .int .i64 x.k, .int .i64 x.m, .slice x.A x.l x.c, .slice x.B x.bl x.bc]] ++ lb) w' fun r w2 => r = .returned (.bool v) ∧ Chg [] w' w2) :
  Calls Tryz.prog 123 #[.agg #[.int .i64 x.n, .int .i64 x.s, .string x.p, .int .i64 x.k, .int .i64 x.m, .slice x.A x.l x.c, .slice x.B x.bl x.bc], .pointer (some ⟨gq, 0, none⟩)] w fun r w' => r = .returned (.bool (!v)) ∧ Chg [] w w' := by
 obtain ⟨w1, hw1, c1, b1⟩ := news1 w (.cells #[.int .i64 x.n, .int .i64 x.s, .string x.p, .int .i64 x.k, .int .i64 x.m, .slice x.A x.l x.c, .slice x.B x.bl x.bc] 30)
 have W1 := Lib.hid hw1
 have C1 := Lib.hid c1
 have CC := Lib.hid (HF w1 c1)
 have p1 := c1.at_ hq (by simp)
 have z0 := cell_of b1 0
 have z1 := cell_of b1 1
 have z2 := cell_of b1 2
 have z3 := cell_of b1 3
 have z4 := cell_of b1 4
 have z5 := cell_of b1 5
 have z6 := cell_of b1 6
 have u0 := cell_of p1 0
 simp only [List.getElem?_toArray, List.getElem?_cons_succ, List.getElem?_cons_zero] at z0 z1 z2 z3 z4 z5 z6 u0
 clear hw1 c1 b1 hq p1 HF
 go_enter Tryz.func123, Tryz.ntmps123
 go_upto_region 1 with fail
 rw [← W1.out]
 generalize w.heap.size = g1 at *
 clear W1
 go_wp2_with fail
 clear z0 z1 z2 z3 z4 z5 z6 u0
 refine CC.out.mono ?_
 rintro r w2 ⟨rfl, hc⟩
 replace C1 := Lib.hid (C1.out.trans hc)
 clear hc CC
 go_wp2
 go_ret
 exact ⟨rfl, C1.out⟩

set_option maxRecDepth 100000 in
set_option maxHeartbeats 4000000 in
theorem stthose_any (w : World) (A : Option Addr) (c : Nat) (xs : List EvT) (es : List EvP) (gf : Nat) (lb : Array Value) (q : EvP → Bool) (h : RdK evTy w A xs.length xs) (hx : EvsR w xs es) (hn : xs.length ≤ 100000) (hs : ∀ e ∈ es, e.b.length ≤ 140737488351232 ∧ e.q.length ≤ 100000) (eg : ∀ args w, (callFunc gf args).run Tryz.prog w = .ok (.enter gf args) w)
  (HF : ∀ (w' : World), Chg [] w w' → ∀ (i : Nat) (x : EvT) (e : EvP), xs[i]? = some x → es[i]? = some e → Calls Tryz.prog gf (#[.agg #[.int .i64 x.n, .int .i64 x.s, .string x.p, .int .i64 x.k, .int .i64 x.m, .slice x.A x.l x.c, .slice x.B x.bl x.bc]] ++ lb) w' fun r w2 => r = .returned (.bool (q e)) ∧ Chg [] w' w2) :
  Calls Tryz.prog 60 #[.slice A xs.length c, .func (.func gf) #[] lb] w fun r w' => ∃ (A' : Option Addr) (c' : Nat) (zs : List EvT), r = .returned (.slice A' zs.length c') ∧ zs.length ≤ xs.length ∧ EsF w' w.heap.size w'.heap.size A' c' zs (es.filter q) ∧ Chg [] w w' := by
 obtain ⟨w1, hw1, c1, b1⟩ := news1 w (.cells #[.func (.func gf) #[] lb] 85)
 have W1 := Lib.hid hw1
 have C1 := Lib.hid c1
 have HC := Lib.hid (cloneEv_any w1 A xs.length c xs (h.chg c1 (by simp)) (by omega))
 have DEL := Lib.hid (fun (w3 : World) (A3 : Option Addr) (c3 : Nat) (h0 : Chg [] w1 w3) (ho : OwnK evTy w3 A3 c3 xs) (hA : ∀ a, A3 = some a → w1.heap.size ≤ a.block) => evfdel_any w w1 w3 A3 c3 xs es 123 #[.pointer (some ⟨w.heap.size, 0, none⟩)] (fun e => !q e) (enters_of Tryz.func123 (by kernel_rfl) rfl) c1 h0 ho hA hx hn (fun wr hc i x e ex ee => stthose1_any wr w.heap.size gf lb x (q e) eg (hc.at_ b1 (by simp)) (fun w' hc' => HF w' (c1.trans (hc.trans hc')) i x e ex ee)))
 have HX := Lib.hid hx
 have HN := Lib.hid hn
 have HS := Lib.hid hs
 have SZ := Lib.hid c1.size
 have FQ : Hid (es.filter (fun e => !(!q e)) = es.filter q) := Lib.hid (by simp only [Bool.not_not])
 clear hw1 c1 b1 h hx hn hs HF
 go_enter Tryz.func60, Tryz.ntmps60
 go_upto_region 1 with fail
 rw [← W1.out]
 obtain ⟨g0, hg0⟩ : ∃ g, w.heap.size = g := ⟨_, rfl⟩
 rw [hg0] at DEL ⊢
 clear W1
 go_wp2_with fail
 refine HC.out.mono ?_
 rintro r w3 ⟨A3, c3, rfl, ho, hA, hc⟩
 have D := Lib.hid (DEL.out w3 A3 c3 hc ho hA)
 clear ho hA hc HC DEL
 go_wp2_with fail
 refine D.out.mono ?_
 rintro r w4 ⟨ys, rfl, hl, he, ho, hc⟩
 rw [FQ.out] at he
 have C4 := Lib.hid (C1.out.trans hc)
 have L4 := Lib.hid hl
 have FR := Lib.hid (frevents_any w4 A3 c3 ys (es.filter q) ho.reads (he.chg C4.out) (by have := HN.out; omega) (fun e he => HS.out e (List.mem_filter.1 he).1))
 clear D hl he ho hc FQ
 go_wp2_with fail
 refine FR.out.mono ?_
 rintro r w5 ⟨A5, c5, zs, rfl, hl, he, hc⟩
 have P := Lib.hid (And.intro (show zs.length ≤ xs.length by have := L4.out; omega) (And.intro (he.low C4.out.size) (C4.out.trans hc)))
 clear hl he hc FR
 go_wp2
 go_ret
 rw [← hg0]
 exact ⟨A5, c5, zs, rfl, P.out.1, P.out.2.1, P.out.2.2⟩
end
section
open Go.RowKit Go.Lib

set_option maxRecDepth 100000 in
set_option maxHeartbeats 4000000 in
theorem stshelf1_any (w : World) (gp : Nat) (p : List UInt8) (x : EvT) (e : EvP) (hp : w.heap[gp]? = some (.cells #[.string (strOf p)] 9 (0, 0))) (hx : x.p = strOf e.p) :
  Calls Tryz.prog 61 #[.agg #[.int .i64 x.n, .int .i64 x.s, .string x.p, .int .i64 x.k, .int .i64 x.m, .slice x.A x.l x.c, .slice x.B x.bl x.bc], .pointer (some ⟨gp, 0, none⟩)] w fun r w' => r = .returned (.bool (decide (e.p = p))) ∧ Chg [] w w' := by
 obtain ⟨w1, hw1, c1, b1⟩ := news1 w (.cells #[.int .i64 x.n, .int .i64 x.s, .string x.p, .int .i64 x.k, .int .i64 x.m, .slice x.A x.l x.c, .slice x.B x.bl x.bc] 30)
 have W1 := Lib.hid hw1
 have C1 := Lib.hid c1
 have p1 := c1.at_ hp (by simp)
 have z2 := cell_of b1 2
 have u0 := cell_of p1 0
 simp only [List.getElem?_toArray, List.getElem?_cons_succ, List.getElem?_cons_zero] at z2 u0
 rw [hx] at z2
 have HX := Lib.hid hx
 by_cases q : e.p = p
 ·
  have e2 : decide (e.p = p) = true := decide_eq_true q
  rw [e2]
  clear hw1 c1 b1 hp p1 hx e2
  go_enter Tryz.func61, Tryz.ntmps61
  go_upto_region 1 with fail
  rw [← W1.out]
  generalize w.heap.size = g1 at *
  clear W1
  go_wp2
  go_ret
  exact ⟨by first | rfl | simp [q] | simpa using q, C1.out⟩
 ·
  have e1 := strOf_ne q
  have e3 := strOf_ne2 q
  have e2 : decide (e.p = p) = false := decide_eq_false q
  rw [e2]
  clear hw1 c1 b1 hp p1 hx e2
  go_enter Tryz.func61, Tryz.ntmps61
  go_upto_region 1 with fail
  rw [← W1.out]
  generalize w.heap.size = g1 at *
  clear W1
  go_wp2
  go_ret
  exact ⟨by first | rfl | simp [q] | simpa using q, C1.out⟩
set_option maxRecDepth 100000 in
set_option maxHeartbeats 4000000 in
theorem stnear1_any (w : World) (gp : Nat) (p : List UInt8) (x : EvT) (e : EvP) (hp : w.heap[gp]? = some (.cells #[.string (strOf p)] 9 (0, 0))) (hx : x.p = strOf e.p) (hl : e.p.length ≤ 140737488351232 ∧ p.length ≤ 140737488351232) :
  Calls Tryz.prog 62 #[.agg #[.int .i64 x.n, .int .i64 x.s, .string x.p, .int .i64 x.k, .int .i64 x.m, .slice x.A x.l x.c, .slice x.B x.bl x.bc], .pointer (some ⟨gp, 0, none⟩)] w fun r w' => r = .returned (.bool (nearL e.p p)) ∧ Chg [] w w' := by
 obtain ⟨w1, hw1, c1, b1⟩ := news1 w (.cells #[.int .i64 x.n, .int .i64 x.s, .string x.p, .int .i64 x.k, .int .i64 x.m, .slice x.A x.l x.c, .slice x.B x.bl x.bc] 30)
 have W1 := Lib.hid hw1
 have C1 := Lib.hid c1
 have CC := Lib.hid (phnear_any w1 e.p p hl.1 hl.2)
 have p1 := c1.at_ hp (by simp)
 have z2 := cell_of b1 2
 have u0 := cell_of p1 0
 simp only [List.getElem?_toArray, List.getElem?_cons_succ, List.getElem?_cons_zero] at z2 u0
 rw [hx] at z2
 have HX := Lib.hid hx
 clear hw1 c1 b1 hp p1 hx hl
 go_enter Tryz.func62, Tryz.ntmps62
 go_upto_region 1 with fail
 rw [← W1.out]
 generalize w.heap.size = g1 at *
 clear W1
 go_wp2_with fail
 clear z2 u0
 refine CC.out.mono ?_
 rintro r w2 ⟨rfl, hc⟩
 have C2 := Lib.hid (C1.out.trans (below_chg8 hc))
 clear hc CC
 go_wp2
 go_ret
 exact ⟨rfl, C2.out⟩
set_option maxRecDepth 100000 in
set_option maxHeartbeats 4000000 in
theorem stmissing1_any (w : World) (gp : Nat) (K : Option Addr) (kc : Nat) (ks : List Sp) (x : EvT) (e : EvP) (hp : w.heap[gp]? = some (.cells #[.slice K ks.length kc] 28 (0, 0))) (hk : RdK spanTy w K ks.length ks) (hl : ks.length ≤ 140737488351232) (hx : x.n = e.n ∧ x.s = e.s) :
  Calls Tryz.prog 64 #[.agg #[.int .i64 x.n, .int .i64 x.s, .string x.p, .int .i64 x.k, .int .i64 x.m, .slice x.A x.l x.c, .slice x.B x.bl x.bc], .pointer (some ⟨gp, 0, none⟩)] w fun r w' => r = .returned (.bool (!hasE ks e.n e.s)) ∧ Chg [] w w' := by
 obtain ⟨w1, hw1, c1, b1⟩ := news1 w (.cells #[.int .i64 x.n, .int .i64 x.s, .string x.p, .int .i64 x.k, .int .i64 x.m, .slice x.A x.l x.c, .slice x.B x.bl x.bc] 30)
 have W1 := Lib.hid hw1
 have C1 := Lib.hid c1
 have CC := Lib.hid (has_any w1 K kc ks x.n x.s (hk.chg c1 (by simp)) hl)
 have HV : Hid (hasE ks x.n x.s = hasE ks e.n e.s) := Lib.hid (by rw [hx.1, hx.2])
 have p1 := c1.at_ hp (by simp)
 have z0 := cell_of b1 0
 have z1 := cell_of b1 1
 have u0 := cell_of p1 0
 simp only [List.getElem?_toArray, List.getElem?_cons_succ, List.getElem?_cons_zero] at z0 z1 u0
 clear hw1 c1 b1 hp p1 hx hl hk
 go_enter Tryz.func64, Tryz.ntmps64
 go_upto_region 1 with fail
 rw [← W1.out]
 generalize w.heap.size = g1 at *
 clear W1
 go_wp2_with fail
 clear z0 z1 u0
 refine CC.out.mono ?_
 rintro r w2 ⟨rfl, hc⟩
 rw [HV.out]
 replace C1 := Lib.hid (C1.out.trans hc)
 clear hc CC
 go_wp2
 go_ret
 exact ⟨rfl, C1.out⟩
end
section
open Go.RowKit Go.Lib


def cmpL (a b : List UInt8) : Int := if lessL a b = true then -1 else if lessL b a = true then 1 else 0
theorem cmpL_neg {a b : List UInt8} : cmpL a b < 0 ↔ lessL a b = true := by
 unfold cmpL
 split
 ·
  rename_i h; exact ⟨fun _ => h, fun _ => by decide⟩
 ·
  rename_i h; split <;> exact ⟨fun q => absurd q (by decide), fun q => absurd q h⟩
set_option maxRecDepth 100000 in
set_option maxHeartbeats 2000000 in
theorem orderofs_any (w : World) (a b : List UInt8) (ha : a.length ≤ 10000000) (hb : b.length ≤ 10000000) :
  Calls Tryz.prog 167 #[.string (strOf a), .string (strOf b), .func (.func 55) #[] #[]] w fun e w' => e = .returned (.int .i64 (cmpL a b)) ∧ Chg [] w w' := by
 have L1 := Lib.hid (fun w => phless_any w a b ha hb)
 have L2 := Lib.hid (fun w => phless_any w b a hb ha)
 unfold cmpL
 generalize lessL a b = u at *
 generalize lessL b a = v at *
 clear ha hb
 go_enter Tryz.func167, Tryz.ntmps167
 go_wp2_with fail
 refine (L1.out _).mono ?_
 rintro e w1 ⟨rfl, hc⟩
 have C1 := Lib.hid hc
 clear hc
 cases u
 ·
  go_wp2_with fail
  refine (L2.out _).mono ?_
  rintro e w2 ⟨rfl, hc⟩
  have C2 := Lib.hid (C1.out.trans hc)
  clear hc
  cases v
  ·
   go_wp2
   go_ret
   exact ⟨rfl, C2.out⟩
  ·
   go_wp2
   go_ret
   exact ⟨rfl, C2.out⟩
 ·
  go_wp2
  go_ret
  exact ⟨rfl, C1.out⟩
set_option maxRecDepth 100000 in
set_option maxHeartbeats 2000000 in
theorem stplace1_any (w : World) (x : EvT) (a b : List UInt8) (hx : x.p = strOf a) (ha : a.length ≤ 10000000) (hb : b.length ≤ 10000000) :
  Calls Tryz.prog 166 #[.agg #[.int .i64 x.n, .int .i64 x.s, .string x.p, .int .i64 x.k, .int .i64 x.m, .slice x.A x.l x.c, .slice x.B x.bl x.bc], .string (strOf b)] w fun e w' => e = .returned (.int .i64 (cmpL a b)) ∧ Chg [] w w' := by
 obtain ⟨w1, hw1, c1, b1⟩ := news1 w (.cells #[.int .i64 x.n, .int .i64 x.s, .string x.p, .int .i64 x.k, .int .i64 x.m, .slice x.A x.l x.c, .slice x.B x.bl x.bc] 30)
 have W1 := Lib.hid hw1
 have C1 := Lib.hid c1
 have CC := Lib.hid (orderofs_any w1 a b ha hb)
 have z2 := cell_of b1 2
 simp only [List.getElem?_toArray, List.getElem?_cons_succ, List.getElem?_cons_zero] at z2
 rw [hx] at z2
 clear hw1 c1 b1 hx ha hb
 go_enter Tryz.func166, Tryz.ntmps166
 go_upto_region 1 with fail
 rw [← W1.out]
 generalize w.heap.size = g1 at *
 clear W1
 go_wp2_with fail
 clear z2
 refine CC.out.mono ?_
 rintro r w2 ⟨rfl, hc⟩
 replace C1 := Lib.hid (C1.out.trans hc)
 clear hc CC
 go_wp2
 go_ret
 exact ⟨rfl, C1.out⟩
def TupB (r : Ending) (i : Nat) : Prop := ∃ v : Bool, r = .returned (.tuple #[.int .i64 (i : Int), .bool v])
theorem TupB.mk {r : Ending} {i : Nat} (v : Bool) (h : r = .returned (.tuple #[.int .i64 (i : Int), .bool v])) : TupB r i := ⟨v, h⟩
set_option maxRecDepth 100000 in
set_option maxHeartbeats 8000000 in
theorem binp_any (w : World) (A : Option Addr) (c : Nat) (xs : List EvT) (es : List EvP) (q : List UInt8) (h : RdK evTy w A xs.length xs) (hx : EvsR w xs es) (hn : es.Pairwise leP) (hl : xs.length ≤ 100000) (hq : q.length ≤ 10000000) (he : ∀ e ∈ es, e.p.length ≤ 10000000) :
  Calls Tryz.prog 165 #[.slice A xs.length c, .string (strOf q), .func (.func 166) #[] #[]] w fun r w' => ∃ i : Nat, i ≤ xs.length ∧ LoP es q i ∧ HiP es q i ∧ TupB r i ∧ Chg [] w w' := by
 have HA := Lib.hid h
 have HX := Lib.hid hx
 have HNM := Lib.hid hn
 have HL := Lib.hid hl
 have HCMP : Hid (∀ (w' : World) (k : Nat) (x : EvT) (e : EvP), xs[k]? = some x → es[k]? = some e → Calls Tryz.prog 166 #[.agg #[.int .i64 x.n, .int .i64 x.s, .string x.p, .int .i64 x.k, .int .i64 x.m, .slice x.A x.l x.c, .slice x.B x.bl x.bc], .string (strOf q)] w' fun r w2 => r = .returned (.int .i64 (cmpL e.p q)) ∧ Chg [] w' w2) := Lib.hid (fun w' k x e h1 h2 => stplace1_any w' x e.p q (hx.2 k x e h1 h2).p (he e (List.mem_of_getElem? h2)) hq)
 clear h hx hn hl hq he
 go_enter Tryz.func165, Tryz.ntmps165
 go_wp2
 go_loopw [9, 10] (fun v9 v10 wr => ∃ (i j : Nat), i ≤ j ∧ j ≤ xs.length ∧ v9 = .int .i64 (i : Int) ∧ v10 = .int .i64 (j : Int) ∧ Hid (LoP es q i ∧ HiP es q j) ∧ Hid (Chg [] w wr)) (fun v9 v10 _ => (RowKit.intOf v10).toNat - (RowKit.intOf v9).toNat)
 case atStart => exact ⟨0, xs.length, Nat.zero_le _, Nat.le_refl _, rfl, rfl, Lib.hid ⟨fun p x _ h => absurd h (by omega), fun p x hx h => absurd ((List.getElem?_eq_some_iff.1 hx).1) (by have := HX.out.1; omega)⟩, Chg.refl _ _⟩
 case round =>
  obtain ⟨i, j, hij, hj, rfl, rfl, HI, HC⟩ := hrel
  have i0 : (0 : Int) ≤ (i : Int) := by omega
  have hl := HL.out
  have i1 : IntKind.i64.wrap ((i : Int) + (j : Int)) = ((i + j : Nat) : Int) := by rw [IntWalk.i64_in _ (by omega)]; omega
  by_cases hlt : i < j
  ·
   have i2 : (i : Int) < (j : Int) := by omega
   go_upto_region 5 with fail
   obtain ⟨k, hk⟩ : ∃ k : Nat, k = (i + j) / 2 := ⟨_, rfl⟩
   have e1 : ((i : Int) + (j : Int)) / 2 = (k : Int) := by omega
   rw [e1]
   have hk1 : i ≤ k ∧ k < j := by omega
   clear hk e1 i1 i2
   obtain ⟨x, e, ex, ee, _⟩ := HX.out.at_ (show k < xs.length by omega)
   obtain ⟨g, o, eA, _⟩ := HA.out.line (by omega)
   subst eA
   obtain ⟨z0, z1, z2, z3, z4, z5, z6⟩ := evCells (HA.out.chg HC.out (by simp)) ex
   have k0 : (0 : Int) ≤ (k : Int) := by omega
   have k1 : (k : Int) < (xs.length : Int) := by omega
   have EE := Lib.hid ee
   have CL := Lib.hid (HCMP.out wr k x e ex ee)
   clear ex ee
   go_wp2_with fail
   clear z0 z1 z2 z3 z4 z5 z6
   refine CL.out.mono ?_
   rintro r w2 ⟨rfl, hc⟩
   have CE := Lib.hid (HC.out.trans hc)
   clear hc CL
   by_cases hneg : cmpL e.p q < 0
   ·
    have LO := Lib.hid (loP_next HNM.out EE.out (cmpL_neg.1 hneg))
    have dn1 : decide (cmpL e.p q < 0) = true := decide_eq_true hneg
    have w1' : IntKind.i64.wrap ((k : Int) + 1) = (k : Int) + 1 := IntWalk.i64_in _ (by omega)
    go_wp2
    go_round
    case rel => exact ⟨k + 1, j, by omega, hj, by go_num, rfl, Lib.hid ⟨LO.out, HI.out.2⟩, CE⟩
    case measure => simp [RowKit.intOf]; omega
   ·
    have HIN := Lib.hid (hiP_next HNM.out EE.out (by
     rcases t : lessL e.p q with _ | _
     ·
      rfl
     ·
      exact absurd (cmpL_neg.2 t) hneg))
    have dn1 : decide (cmpL e.p q < 0) = false := decide_eq_false hneg
    go_wp2
    go_round
    case rel => exact ⟨i, k, by omega, by omega, rfl, rfl, Lib.hid ⟨HI.out.1, HIN.out⟩, CE⟩
    case measure => simp [RowKit.intOf]; omega
  ·
   obtain rfl : i = j := by omega
   have i2 : ¬ (i : Int) < (i : Int) := by omega
   by_cases hin : i < xs.length
   ·
    have k1 : (i : Int) < (xs.length : Int) := by omega
    obtain ⟨x, e, ex, ee, _⟩ := HX.out.at_ hin
    obtain ⟨g, o, eA, _⟩ := HA.out.line (by omega)
    subst eA
    obtain ⟨z0, z1, z2, z3, z4, z5, z6⟩ := evCells (HA.out.chg HC.out (by simp)) ex
    have CL := Lib.hid (HCMP.out wr i x e ex ee)
    clear ex ee
    go_wp2_with fail
    clear z0 z1 z2 z3 z4 z5 z6
    refine CL.out.mono ?_
    rintro r w2 ⟨rfl, hc⟩
    have CE := Lib.hid (HC.out.trans hc)
    clear hc CL
    go_wp2
    go_ret2
    exact ⟨i, by omega, HI.out.1, HI.out.2, TupB.mk _ rfl, CE.out⟩
   ·
    have k1 : ¬ (i : Int) < (xs.length : Int) := by omega
    have k2 : decide ((i : Int) < (xs.length : Int)) = false := by simp; omega
    go_wp2
    go_ret2
    exact ⟨i, by omega, HI.out.1, HI.out.2, TupB.mk _ rfl, HC.out⟩
set_option maxRecDepth 100000 in
set_option maxHeartbeats 8000000 in
theorem stplace_any (w : World) (A : Option Addr) (c : Nat) (xs : List EvT) (es : List EvP) (q : List UInt8) (h : RdK evTy w A xs.length xs) (hx : EvsR w xs es) (hn : es.Pairwise leP) (hl : xs.length ≤ 100000) (hq : q.length ≤ 10000000) (he : ∀ e ∈ es, e.p.length ≤ 10000000) :
  Calls Tryz.prog 103 #[.slice A xs.length c, .string (strOf q)] w fun r w' => ∃ i j : Nat, r = .returned (.tuple #[.int .i64 (i : Int), .int .i64 (j : Int)]) ∧ (i ≤ j ∧ j ≤ xs.length) ∧ (es.take i = es.filter (fun x => lessL x.p q) ∧ segL es i j = atS es q ∧ es.drop j = es.filter (fun x => lessL q x.p)) ∧ Chg [] w w' := by
 have BIN := Lib.hid (binp_any w A c xs es q h hx hn hl hq he)
 have HA := Lib.hid h
 have HX := Lib.hid hx
 have HNM := Lib.hid hn
 have HL := Lib.hid hl
 clear h hx hn hl hq he
 go_enter Tryz.func103, Tryz.ntmps103
 go_wp2_with fail
 refine BIN.out.mono ?_
 rintro r w1 ⟨i, hi, lo, hi2, ⟨v, rfl⟩, hc⟩
 have C1 := Lib.hid hc
 have LO := Lib.hid (And.intro lo hi2)
 have HI := Lib.hid hi
 clear hi lo hi2 hc BIN
 go_wp2
 go_loopw [8] (fun v8 wr => ∃ (j : Nat), i ≤ j ∧ j ≤ xs.length ∧ v8 = .int .i64 (j : Int) ∧ Hid (∀ p x, es[p]? = some x → i ≤ p → p < j → x.p = q) ∧ Hid (Chg [] w wr)) (fun v8 _ => xs.length - (RowKit.intOf v8).toNat)
 case atStart => exact ⟨i, Nat.le_refl _, HI.out, rfl, Lib.hid (fun p x _ a b => absurd b (by omega)), C1⟩
 case round =>
  obtain ⟨j, hij, hj, rfl, MID, HC⟩ := hrel
  have j0 : (0 : Int) ≤ (j : Int) := by omega
  have FIN : Hid ((∀ x, es[j]? = some x → x.p ≠ q) → es.take i = es.filter (fun x => lessL x.p q) ∧ segL es i j = atS es q ∧ es.drop j = es.filter (fun x => lessL q x.p)) := Lib.hid (fun st => place_parts HNM.out hij (by have := HX.out.1; omega) LO.out.1 LO.out.2 MID.out st)
  by_cases hlt : j < xs.length
  ·
   have j1 : (j : Int) < (xs.length : Int) := by omega
   have j3 : IntKind.i64.wrap ((j : Int) + 1) = (j : Int) + 1 := IntWalk.i64_in _ (by have := HL.out; omega)
   obtain ⟨x, e, ex, ee, rx⟩ := HX.out.at_ hlt
   obtain ⟨g, o, eA, _⟩ := HA.out.line (by omega)
   subst eA
   obtain ⟨z0, z1, z2, z3, z4, z5, z6⟩ := evCells (HA.out.chg HC.out (by simp)) ex
   rw [rx.p] at z2
   have EE := Lib.hid ee
   clear ex ee rx
   by_cases hp : e.p = q
   ·
    have MID1 : Hid (∀ p x, es[p]? = some x → i ≤ p → p < j + 1 → x.p = q) := Lib.hid (fun p x hx a b => by
     by_cases t : p = j
     ·
      subst t; rw [EE.out] at hx; cases hx; exact hp
     ·
      exact MID.out p x hx a (by omega))
    clear MID FIN
    go_wp2
    go_round
    case rel => exact ⟨j + 1, by omega, by omega, by go_num, MID1, HC⟩
    case measure => simp [RowKit.intOf]; omega
   ·
    have e6 : (e.p == q) = false := beq_eq_false_iff_ne.2 hp
    have F := Lib.hid (FIN.out (fun y hy => by rw [EE.out] at hy; cases hy; exact hp))
    have LE := Lib.hid (And.intro hij hj)
    clear FIN
    go_wp2
    go_ret2
    exact ⟨i, j, rfl, LE.out, F.out, HC.out⟩
  ·
   have j1 : ¬ (j : Int) < (xs.length : Int) := by omega
   have j2 : decide ((j : Int) < (xs.length : Int)) = false := by simp; omega
   have F := Lib.hid (FIN.out (fun y hy => absurd (List.getElem?_eq_some_iff.1 hy).1 (by have := HX.out.1; omega)))
   have LE := Lib.hid (And.intro hij hj)
   clear FIN
   go_wp2
   go_ret2
   exact ⟨i, j, rfl, LE.out, F.out, HC.out⟩
end
section
open Go.RowKit Go.Lib


def elseQ (f e : EvP) : Bool := decide (e.n = f.n ∧ e.s = f.s) && !decide (e.p = f.p)
theorem elseE_is (s : List EvP) (f : EvP) : elseE s f = s.any (elseQ f) := rfl
set_option maxRecDepth 100000 in
set_option maxHeartbeats 4000000 in
theorem stput1_any (w : World) (gp : Nat) (x y : EvT) (e f : EvP) (hp : w.heap[gp]? = some (.cells #[.int .i64 y.n, .int .i64 y.s, .string y.p, .int .i64 y.k, .int .i64 y.m, .slice y.A y.l y.c, .slice y.B y.bl y.bc] 30 (0, 0))) (hx : EvR w x e) (hy : EvR w y f) :
  Calls Tryz.prog 102 #[.agg #[.int .i64 x.n, .int .i64 x.s, .string x.p, .int .i64 x.k, .int .i64 x.m, .slice x.A x.l x.c, .slice x.B x.bl x.bc], .pointer (some ⟨gp, 0, none⟩)] w fun r w' => r = .returned (.bool (elseQ f e)) ∧ Chg [] w w' := by
 obtain ⟨w1, hw1, c1, b1⟩ := news1 w (.cells #[.int .i64 x.n, .int .i64 x.s, .string x.p, .int .i64 x.k, .int .i64 x.m, .slice x.A x.l x.c, .slice x.B x.bl x.bc] 30)
 have W1 := Lib.hid hw1
 have C1 := Lib.hid c1
 have p0 := c1.at_ hp (by simp)
 have y0 := cell_of p0 0
 have y1 := cell_of p0 1
 have y2 := cell_of p0 2
 have z0 := cell_of b1 0
 have z1 := cell_of b1 1
 have z2 := cell_of b1 2
 simp only [List.getElem?_toArray, List.getElem?_cons_succ, List.getElem?_cons_zero] at y0 y1 y2 z0 z1 z2
 rw [hx.n] at z0
 rw [hx.s] at z1
 rw [hx.p] at z2
 rw [hy.n] at y0
 rw [hy.s] at y1
 rw [hy.p] at y2
 have NE : Hid (gp ≠ w.heap.size) := Lib.hid (fun q => by have := lt_of_heap hp; omega)
 obtain ⟨en, hen⟩ : ∃ n, e.n = n := ⟨_, rfl⟩
 obtain ⟨es, hes⟩ : ∃ n, e.s = n := ⟨_, rfl⟩
 obtain ⟨fn, hfn⟩ : ∃ n, f.n = n := ⟨_, rfl⟩
 obtain ⟨fs, hfs⟩ : ∃ n, f.s = n := ⟨_, rfl⟩
 obtain ⟨ep, hep⟩ : ∃ n, e.p = n := ⟨_, rfl⟩
 obtain ⟨fp, hfp⟩ : ∃ n, f.p = n := ⟨_, rfl⟩
 have HV : Hid (elseQ f e = (decide (en = fn ∧ es = fs) && !decide (ep = fp))) := Lib.hid (by unfold elseQ; rw [hen, hes, hfn, hfs, hep, hfp])
 rw [hen] at z0
 rw [hes] at z1
 rw [hep] at z2
 rw [hfn] at y0
 rw [hfs] at y1
 rw [hfp] at y2
 rw [HV.out]
 clear hw1 c1 b1 hp hx hy p0 hen hes hfn hfs hep hfp HV
 go_enter Tryz.func102, Tryz.ntmps102
 go_upto_region 1 with fail
 rw [← W1.out]
 generalize w.heap.size = g1 at *
 clear W1 NE
 by_cases h1 : en = fn
 ·
  subst h1
  by_cases h2 : es = fs
  ·
   subst h2
   by_cases h3 : ep = fp
   ·
    subst h3
    go_wp2
    go_ret
    exact ⟨by first | rfl | simp, C1.out⟩
   ·
    have h4 : (ep == fp) = false := beq_eq_false_iff_ne.2 h3
    have h5 : (ep != fp) = true := by simp [h3]
    go_wp2
    go_ret
    exact ⟨by first | rfl | simp [h3], C1.out⟩
  ·
   have h4 : (es == fs) = false := beq_eq_false_iff_ne.2 h2
   go_wp2
   go_ret
   exact ⟨by first | rfl | simp [h2], C1.out⟩
 ·
  have h4 : (en == fn) = false := beq_eq_false_iff_ne.2 h1
  go_wp2
  go_ret
  exact ⟨by first | rfl | simp [h1], C1.out⟩
set_option maxRecDepth 100000 in
set_option maxHeartbeats 4000000 in
theorem strebuilt_any (w : World) (g c : Nat) (ps : List PartE) (hg : w.heap[g]? = some (.cells (ps.map partV).toArray 22 (0, 0))) (hr : ∀ p ∈ ps, RdK evTy w p.1 p.2.2.length p.2.2) (hn : sizeParts ps ≤ 100000) (hm : ps.length ≤ 1000) :
  Calls Tryz.prog 105 #[.slice (some ⟨g, 0, none⟩) ps.length c] w fun r w' => ∃ (A' : Option Addr) (c' : Nat), r = .returned (.slice A' (sizeParts ps) c') ∧ OwnK evTy w' A' c' (flatParts ps) ∧ (∀ a, A' = some a → w.heap.size ≤ a.block) ∧ Chg [] w w' := by
 have CC := Lib.hid (evconcat_any w g c ps hg hr hn hm)
 clear hg hr hn hm
 go_enter Tryz.func105, Tryz.ntmps105
 go_wp2_with fail
 refine CC.out.mono ?_
 rintro r w1 ⟨A1, c1, rfl, ho, hA, hc⟩
 have P := Lib.hid (And.intro ho (And.intro hA hc))
 clear ho hA hc CC
 go_wp2
 go_ret
 exact ⟨A1, c1, rfl, P.out.1, P.out.2.1, P.out.2.2⟩
end
section
open Go.RowKit Go.Lib


def subA (A : Option Addr) (c i : Nat) : Option Addr := if c = i then A else A.map (fun x => x.add (i * 7))
theorem seg_eq {α : Type} (l : List α) (i j : Nat) : segL l i j = (l.drop i).take (j - i) := by unfold segL; rw [List.drop_take]
theorem RdK.sub {w : World} {A : Option Addr} {c : Nat} {xs : List EvT} (h : RdK evTy w A xs.length xs) (hc : xs.length ≤ c) {i j : Nat} (ij : i ≤ j) (hj : j ≤ xs.length) : RdK evTy w (subA A c i) (j - i) (segL xs i j) := by
 rw [seg_eq]
 by_cases q : i < j
 ·
  obtain ⟨g, o, eA, _⟩ := h.line (by omega)
  subst eA
  have r := h.part i (j - i) (by omega)
  unfold subA
  rw [if_neg (by omega)]
  have k7 : evTy.k = 7 := rfl
  rw [k7] at r
  by_cases z : i = 0
  ·
   subst z
   simpa [Addr.add] using r
  ·
   have z7 : ¬ i * 7 = 0 := by omega
   simpa only [Option.map_some, Addr.add, z7, if_false] using r
 ·
  rw [show j - i = 0 by omega, List.take_zero]
  exact RdK.nil _ _
theorem EvsR.seg {w : World} {xs : List EvT} {es : List EvP} (h : EvsR w xs es) (i j : Nat) : EvsR w (segL xs i j) (segL es i j) := by
 refine ⟨by unfold segL; rw [List.length_drop, List.length_drop, List.length_take, List.length_take, h.1], fun k x e hx he => ?_⟩
 by_cases q : i + k < j
 ·
  rw [seg_get _ q] at hx he
  exact h.2 _ x e hx he
 ·
  rw [seg_get_no _ q] at hx
  cases hx
theorem EvsR.app {w : World} {xs ys : List EvT} {es fs : List EvP} (h : EvsR w xs es) (k : EvsR w ys fs) : EvsR w (xs ++ ys) (es ++ fs) := by
 refine ⟨by rw [List.length_append, List.length_append, h.1, k.1], fun i x e hx he => ?_⟩
 by_cases q : i < xs.length
 ·
  rw [List.getElem?_append_left q] at hx
  rw [List.getElem?_append_left (by rw [← h.1]; exact q)] at he
  exact h.2 _ x e hx he
 ·
  rw [List.getElem?_append_right (by omega)] at hx
  rw [List.getElem?_append_right (by rw [← h.1]; omega), ← h.1] at he
  exact k.2 _ x e hx he
theorem elseE_len (s : List EvP) (f : EvP) : (putS s f).length ≤ s.length + 1 := by
 unfold putS
 rw [List.length_append, List.length_append]
 have a : (putE (atS s f.p) f).length ≤ (atS s f.p).length + 1 := by
  have := puts_len [f] (atS s f.p)
  simpa using this
 have key : ∀ l : List EvP, (l.filter (fun x => lessL x.p f.p)).length + ((atS l f.p).length + (l.filter (fun x => lessL f.p x.p)).length) ≤ l.length := by
  intro l
  induction l with
  | nil => simp [atS]
  | cons x l ih =>
   unfold atS at ih ⊢
   simp only [List.filter_cons, List.length_cons]
   rcases less_tri x.p f.p with q | q | q
   ·
    have b1 : lessL f.p f.p = false := less_self _
    simp only [b1, q, decide_true, if_true, List.length_cons, Bool.false_eq_true, if_false]
    omega
   ·
    have b2 : lessL f.p x.p = false := less_not _ _ q
    have b3 : ¬ x.p = f.p := less_ne q
    simp only [q, b2, b3, decide_false, if_true, List.length_cons, Bool.false_eq_true, if_false]
    omega
   ·
    have b2 : lessL x.p f.p = false := less_not _ _ q
    have b3 : ¬ x.p = f.p := fun e => less_ne q e.symm
    simp only [q, b2, b3, decide_false, if_true, List.length_cons, Bool.false_eq_true, if_false]
    omega
 have := key s
 omega

set_option maxRecDepth 100000 in
set_option maxHeartbeats 16000000 in
theorem stputf_any (w : World) (A : Option Addr) (c : Nat) (xs : List EvT) (es : List EvP) (y : EvT) (f : EvP) (h : RdK evTy w A xs.length xs) (hc : xs.length ≤ c ∧ c ≤ maxLen) (hx : EvsR w xs es) (hn : xs.length ≤ 1000) (hs : ∀ e ∈ es, EvSm e ∧ e.q.length ≤ 100000) (hy : EvR w y f) (ht : EvSm f ∧ f.q.length ≤ 100000) (hl : es.Pairwise leP) (hok : ShOk (atS es f.p)) (hf : chkEv f = 0) :
  Calls Tryz.prog 47 #[.slice A xs.length c, .agg #[.int .i64 y.n, .int .i64 y.s, .string y.p, .int .i64 y.k, .int .i64 y.m, .slice y.A y.l y.c, .slice y.B y.bl y.bc]] w fun r w' => ∃ (A' : Option Addr) (c' : Nat) (zs : List EvT), r = .returned (.tuple #[.slice A' zs.length c', .int .i64 (if elseE es f = true then 7 else 0)]) ∧ (zs.length ≤ c' ∧ c' ≤ maxLen) ∧ RdK evTy w' A' zs.length zs ∧ EvsR w' zs (if elseE es f = true then [] else putS es f) ∧ Chg [] w w' := by

 obtain ⟨co, hco⟩ : ∃ co : Int, (if elseE es f = true then (7 : Int) else 0) = co := ⟨_, rfl⟩
 obtain ⟨ol, hol⟩ : ∃ ol : List EvP, (if elseE es f = true then [] else putS es f) = ol := ⟨_, rfl⟩
 rw [hco, hol]
 have CO := Lib.hid hco
 have OL := Lib.hid hol
 clear hco hol
 obtain ⟨w1, hw1, c1, b1⟩ := news1 w (.cells #[.int .i64 y.n, .int .i64 y.s, .string y.p, .int .i64 y.k, .int .i64 y.m, .slice y.A y.l y.c, .slice y.B y.bl y.bc] 30)
 have W1 := Lib.hid hw1
 have C1 := Lib.hid c1
 have B1 := Lib.hid b1
 have HA := Lib.hid (h.chg c1 (by simp))
 have HX := Lib.hid (hx.chg c1)
 have HC := Lib.hid hc
 have HN := Lib.hid hn
 have HS := Lib.hid hs
 have HY := Lib.hid (hy.chg c1)
 have HT := Lib.hid ht
 have HL := Lib.hid hl
 have HOK := Lib.hid hok
 have HF := Lib.hid hf
 have CON := Lib.hid (evfcontains_any w1 A c xs es 102 #[.pointer (some ⟨w.heap.size, 0, none⟩)] (elseQ f) (enters_of Tryz.func102 (by kernel_rfl) rfl) HA.out HX.out (by omega) (fun wr hc i x e ex ee => stput1_any wr w.heap.size x y e f (hc.at_ b1 (by simp)) ((HX.out.2 i x e ex ee).chg hc) (HY.out.chg hc)))
 clear hw1 c1 b1 h hx hc hn hs hy ht hl hok hf
 go_enter Tryz.func47, Tryz.ntmps47
 go_upto_region 1 with fail
 rw [← W1.out]
 obtain ⟨g1, hg1⟩ : ∃ g, w.heap.size = g := ⟨_, rfl⟩
 rw [hg1] at CON B1 ⊢
 clear W1
 go_wp2_with fail
 refine CON.out.mono ?_
 rintro r w2 ⟨rfl, hc⟩
 have C2 := Lib.hid hc
 clear hc CON
 rcases hv : es.any (elseQ f) with _ | _
 rotate_left
 ·
  have EV : Hid (elseE es f = true) := Lib.hid hv
  clear hv
  have e1 : co = 7 := by rw [← CO.out, if_pos EV.out]
  have e2 : ol = [] := by rw [← OL.out, if_pos EV.out]
  subst e1 e2
  go_wp2
  go_ret2
  exact ⟨none, 0, [], rfl, ⟨Nat.le_refl _, Nat.zero_le _⟩, RdK.nil _ _, EvsR.nil _, C1.out.trans C2.out⟩
 have EV : Hid (elseE es f = false) := Lib.hid hv
 clear hv
 have e1 : co = 0 := by rw [← CO.out, if_neg (by rw [EV.out]; decide)]
 have e2 : ol = putS es f := by rw [← OL.out, if_neg (by rw [EV.out]; decide)]
 subst e1 e2
 clear CO OL
 have b2 := C2.out.at_ B1.out (by simp)
 have y2 := cell_of b2 2
 simp only [List.getElem?_toArray, List.getElem?_cons_succ, List.getElem?_cons_zero] at y2
 rw [HY.out.p] at y2
 clear b2
 have PL := Lib.hid (stplace_any w2 A c xs es f.p (HA.out.chg C2.out (by simp)) (HX.out.chg C2.out) HL.out (by have := HN.out; omega) HT.out.1.1 (fun e he => (HS.out e he).1.1))
 go_wp2_with fail
 clear y2
 refine PL.out.mono ?_
 rintro r w3 ⟨i, j, rfl, ⟨hij, hj⟩, hp, hc⟩
 have C3 := Lib.hid (C2.out.trans hc)
 have PP := Lib.hid hp
 clear hp hc PL C2
 have i0 : (0 : Int) ≤ (i : Int) := by omega
 have j0 : (0 : Int) ≤ (j : Int) := by omega
 have ij1 : (i : Int) ≤ (j : Int) := by omega
 have jn1 : (j : Int) ≤ (xs.length : Int) := by omega
 have jc0 : j ≤ c := by have := HC.out; omega
 have ic0 : i ≤ c := by omega
 have jc1 : (j : Int) ≤ (c : Int) := by omega
 have ic1 : (i : Int) ≤ (c : Int) := by omega
 have RS : Hid (∀ w', Chg [] w1 w' → RdK evTy w' (subA A c i) (j - i) (segL xs i j)) := Lib.hid (fun w' hc => (HA.out.chg hc (by simp)).sub HC.out.1 hij hj)
 have RE : Hid (∀ w', Chg [] w1 w' → RdK evTy w' (subA A c j) (xs.length - j) (xs.drop j)) := Lib.hid (fun w' hc => by
  have q := (HA.out.chg hc (by simp)).sub HC.out.1 hj (Nat.le_refl _)
  rwa [seg_end] at q)
 have RB : Hid (∀ w', Chg [] w1 w' → RdK evTy w' A i (xs.take i)) := Lib.hid (fun w' hc => by
  have q := (HA.out.chg hc (by simp)).sub HC.out.1 (Nat.zero_le i) (by omega)
  rw [seg_zero, Nat.sub_zero] at q
  unfold subA at q
  by_cases z : c = 0
  ·
   rwa [if_pos z] at q
  ·
   rw [if_neg z] at q
   rcases A with _ | ⟨bg, bo, bs⟩
   ·
    exact q
   ·
    simpa [Addr.add] using q)
 obtain ⟨AS, hAS⟩ : ∃ AS : Option Addr, (if c = i then A else A.map (fun x => x.add (i * 7))) = AS := ⟨_, rfl⟩
 obtain ⟨AE, hAE⟩ : ∃ AE : Option Addr, (if c = j then A else A.map (fun x => x.add (j * 7))) = AE := ⟨_, rfl⟩
 have SL : Hid (subA A c i = AS) := Lib.hid hAS
 have SE : Hid (subA A c j = AE) := Lib.hid hAE
 rw [SL.out] at RS
 rw [SE.out] at RE
 have SLEN : Hid ((segL xs i j).length = j - i) := Lib.hid (seg_len xs hj)
 have MEM : Hid (∀ e ∈ atS es f.p, e ∈ es) := Lib.hid (fun e he => (mem_atS.1 he).1)
 have SHP : Hid (∀ w', Chg [] w1 w' → Calls Tryz.prog 104 #[.slice AS (j - i) (c - i), .agg #[.int .i64 y.n, .int .i64 y.s, .string y.p, .int .i64 y.k, .int .i64 y.m, .slice y.A y.l y.c, .slice y.B y.bl y.bc]] w' fun r w2 => ∃ (A' : Option Addr) (c' : Nat) (zs : List EvT), r = .returned (.tuple #[.slice A' zs.length c', .int .i64 0]) ∧ EsF w2 w'.heap.size w2.heap.size A' c' zs (putE (atS es f.p) f) ∧ Chg [] w' w2) := Lib.hid (fun w' hc => by
  have q := shput_any w' AS (c - i) (segL xs i j) (segL es i j) y f (by rw [SLEN.out]; exact RS.out w' hc) ((HX.out.chg hc).seg i j) (by rw [SLEN.out]; have := HN.out; omega) (fun e he => HS.out e (by rw [PP.out.2.1] at he; exact MEM.out e he)) (HY.out.chg hc) HT.out
  rw [PP.out.2.1, shPut_yes HOK.out HF.out (fun u hu => (mem_atS.1 (List.mem_of_getElem? hu)).2), SLEN.out] at q
  exact q)
 have HB : Hid (∀ w', Chg [] w1 w' → (w'.cell? ⟨g1, 0, none⟩ = some (.int .i64 y.n) ∧ w'.cell? ⟨g1, 1, none⟩ = some (.int .i64 y.s) ∧ w'.cell? ⟨g1, 2, none⟩ = some (.string y.p) ∧ w'.cell? ⟨g1, 3, none⟩ = some (.int .i64 y.k) ∧ w'.cell? ⟨g1, 4, none⟩ = some (.int .i64 y.m) ∧ w'.cell? ⟨g1, 5, none⟩ = some (.slice y.A y.l y.c) ∧ w'.cell? ⟨g1, 6, none⟩ = some (.slice y.B y.bl y.bc))) := Lib.hid (fun w' hc => by
  have b := hc.at_ B1.out (by simp)
  exact ⟨cell_of b 0, cell_of b 1, cell_of b 2, cell_of b 3, cell_of b 4, cell_of b 5, cell_of b 6⟩)
 have HIJ := Lib.hid (And.intro hij hj)
 go_upto_region 4 with fail
 refine wp_region_held_drew (S := fun w' => Chg [] w1 w') (by kernel_rfl) (C3.out.trans (Chg.refl [] w3).drew) (fun hHeld => ?_)
 refine sy 0 21 rfl rfl ?_
 try simp only [Act.put, sA, s0, s1]
 refine sy 1 22 rfl rfl ?_
 try simp only [Act.put, sA, s0, s1]
 refine sy 2 23 rfl rfl ?_
 try simp only [Act.put, sA, s0, s1]
 refine sy 3 24 rfl rfl ?_
 try simp only [Act.put, sA, s0, s1]
 refine sy 4 25 rfl rfl ?_ (hy := by (intro w hSw; (try dsimp only at hSw); have hq := HB.out _ hSw; obtain ⟨q0, q1, q2, q3, q4, q5, q6⟩ := hq; go_simp; try with_reducible rfl))
 try simp only [Act.put, sA, s0, s1]
 refine wpAnyH_ready (rs := [5]) (by kernel_rfl) (by simp) ?_
 refine AllReadyH.cons rfl (fun K hK => ?_) AllReadyH.nil
 replace hK := Lib.hid hK
 go_simp
 refine (SHP.out _ hHeld).mono ?_
 rintro r w5 ⟨A5, c5, zs, rfl, he, hc⟩
 have C5 := Lib.hid (hHeld.trans hc)
 have RZ := Lib.hid he.row.reads
 have EZ := Lib.hid he.all.ev
 clear he hc hHeld
 refine hK.out _ _ C5.out (fun hHeld => ?_)
 clear hK K
 try simp only [Act.put, sA, s0, s1]
 refine sy 6 20 rfl rfl ?_
 try simp only [Act.put, sA, s0, s1]
 refine sy 7 27 rfl rfl ?_
 try simp only [Act.put, sA, s0, s1]
 refine sy 8 28 rfl rfl ?_
 try simp only [Act.put, sA, s0, s1]
 refine sy 9 8 rfl rfl ?_
 try simp only [Act.put, sA, s0, s1]
 refine sy 10 9 rfl rfl ?_
 try simp only [Act.put, sA, s0, s1]
 refine wpAnyH_done (by kernel_rfl) ?_ _
 clear hHeld HB SHP
 go_wp2
 have ZLN : Hid (zs.length = (putE (atS es f.p) f).length) := Lib.hid EZ.out.1
 have PLEN : Hid (i + (zs.length + (xs.length - j)) = (putS es f).length) := Lib.hid (by
  have a := PP.out
  unfold putS
  rw [List.length_append, List.length_append, ← ZLN.out, ← a.1, ← a.2.2, List.length_take, List.length_drop, ← HX.out.1, Nat.min_eq_left (by have := HIJ.out; omega)])
 have PARTS : Hid (∀ w' g, Chg [] w5 w' → w'.heap[g]? = some (.cells #[.slice A i c, .slice A5 zs.length c5, .slice AE (xs.length - j) (c - j)] 22 (0, 0)) → Calls Tryz.prog 105 #[.slice (some ⟨g, 0, none⟩) 3 3] w' fun r w2 => ∃ (A' : Option Addr) (c' : Nat), r = .returned (.slice A' (putS es f).length c') ∧ OwnK evTy w2 A' c' (xs.take i ++ (zs ++ xs.drop j)) ∧ Chg [] w' w2) := Lib.hid (fun w' g hc hg => by
  have ti : (xs.take i).length = i := by rw [List.length_take]; have := HIJ.out; omega
  have tj : (xs.drop j).length = xs.length - j := List.length_drop
  have q := strebuilt_any w' g 3 [(A, c, xs.take i), (A5, c5, zs), (AE, c - j, xs.drop j)] (by simpa [partV, ti, tj] using hg) (fun p hp => by
   simp at hp
   rcases hp with rfl | rfl | rfl
   ·
    rw [ti]; exact RB.out w' (C5.out.trans hc)
   ·
    exact RZ.out.chg hc (by simp)
   ·
    rw [tj]; exact RE.out w' (C5.out.trans hc)) (by
   simp [sizeParts, ti, tj]
   have a := PLEN.out
   have b := elseE_len es f
   have d := HX.out.1
   have e := HN.out
   omega) (by simp)
  have fp : flatParts [(A, c, xs.take i), (A5, c5, zs), (AE, c - j, xs.drop j)] = xs.take i ++ (zs ++ xs.drop j) := by simp [flatParts]
  have sp : sizeParts [(A, c, xs.take i), (A5, c5, zs), (AE, c - j, xs.drop j)] = (putS es f).length := by
   rw [← PLEN.out]
   simp [sizeParts]
   have := HIJ.out
   omega
  rw [fp, sp] at q
  refine q.mono ?_
  rintro r w2 ⟨A', c', e1, e2, _, e3⟩
  exact ⟨A', c', e1, e2, e3⟩)
 have LEN7 : Hid ((putS es f).length = (xs.take i ++ (zs ++ xs.drop j)).length) := Lib.hid (by
  rw [← PLEN.out, List.length_append, List.length_append, List.length_take, List.length_drop]
  have := HIJ.out
  omega)
 clear RB RE RS
 go_upto_region 7 with fail
 refine wp_region_held_drew (S := fun _ => True) (by kernel_rfl) trivial (fun hHeld => ?_)
 have C6 := Lib.hid (Chg.refl [] w5).drew
 clear hHeld
 have hHeld := trivial
 generalize w5.drew = w6 at *
 refine sy 0 32 rfl rfl ?_ (hS := trivial)
 try simp only [Act.put, sA, s0, s1]
 refine sy 1 33 rfl rfl ?_ (hS := trivial)
 try simp only [Act.put, sA, s0, s1]
 refine sy 2 34 rfl rfl ?_ (hS := trivial)
 try simp only [Act.put, sA, s0, s1]
 refine sy 3 35 rfl rfl ?_ (hS := trivial)
 try simp only [Act.put, sA, s0, s1]
 refine sy 4 36 rfl rfl ?_ (hS := trivial)
 try simp only [Act.put, sA, s0, s1]
 refine sy 5 37 rfl rfl ?_ (hS := trivial)
 try simp only [Act.put, sA, s0, s1]
 refine sy 6 38 rfl rfl ?_ (hS := trivial)
 try simp only [Act.put, sA, s0, s1]
 refine wpAnyH_ready (rs := [7]) (by kernel_rfl) (by simp) ?_
 refine AllReadyH.cons rfl (fun K hK => ?_) AllReadyH.nil
 replace hK := Lib.hid hK
 go_simp
 obtain ⟨g7, hg7⟩ : ∃ g, w6.heap.size = g := ⟨_, rfl⟩
 obtain ⟨w7, hw, cn, bn⟩ := news1 w6 (.cells #[.slice A i c, .slice A5 zs.length c5, .slice AE (xs.length - j) (c - j)] 22)
 rw [← hw, hg7]
 rw [hg7] at bn
 have CALL := Lib.hid (PARTS.out w7 g7 (C6.out.trans cn) bn)
 have C7 := Lib.hid (C6.out.trans cn)
 clear hw cn bn
 refine hK.out _ _ trivial (fun hHeld => ?_)
 clear hK K
 try simp only [Act.put, sA, s0, s1]
 refine wpAnyH_ready (rs := [8]) (by kernel_rfl) (by simp) ?_
 refine AllReadyH.cons rfl (fun K hK => ?_) AllReadyH.nil
 replace hK := Lib.hid hK
 go_simp
 refine CALL.out.mono ?_
 rintro r w8 ⟨A8, c8, rfl, ho, hc⟩
 have O8 := Lib.hid ho
 have C8 := Lib.hid (C7.out.trans hc)
 clear ho hc CALL
 refine hK.out _ _ trivial (fun hHeld => ?_)
 clear hK K
 try simp only [Act.put, sA, s0, s1]
 refine sy 9 4 rfl rfl ?_ (hS := trivial)
 try simp only [Act.put, sA, s0, s1]
 refine sy 10 5 rfl rfl ?_ (hS := trivial)
 try simp only [Act.put, sA, s0, s1]
 refine wpAnyH_done (by kernel_rfl) ?_ _
 clear hHeld PARTS
 have EV8 : Hid (EvsR w8 (xs.take i ++ (zs ++ xs.drop j)) (putS es f)) := Lib.hid (by
  have a := PP.out
  have e := HX.out.chg (C5.out.trans C8.out)
  have r1 := e.seg 0 i
  have r2 := e.seg j xs.length
  rw [seg_zero, seg_zero] at r1
  rw [seg_end, HX.out.1, seg_end] at r2
  unfold putS
  rw [← a.1, ← a.2.2]
  exact r1.app ((EZ.out.chg C8.out).app r2))
 have R8 : Hid (RdK evTy w8 A8 (putS es f).length (xs.take i ++ (zs ++ xs.drop j))) := Lib.hid (by rw [LEN7.out]; exact O8.out.reads)
 go_wp2
 go_ret2
 rw [LEN7.out]
 exact ⟨A8, c8, _, rfl, O8.out.cap, LEN7.out ▸ R8.out, EV8.out, C1.out.trans (C5.out.trans C8.out)⟩
end
section
open Go.RowKit

def KeepsTwo (m : Nat) (w w' : World) : Prop := w'.heap[m]? = w.heap[m]? ∧ w'.heap[m + 1]? = w.heap[m + 1]?
theorem KeepsTwo.of_chg {m : Nat} {S : List Nat} {w w' : World} (h : Chg S w w') (hS : ∀ k ∈ S, k < m) (hm : m + 2 ≤ w.heap.size) : KeepsTwo m w w' :=
 ⟨h.block m (by omega) (fun q => by have := hS m q; omega), h.block (m + 1) (by omega) (fun q => by have := hS _ q; omega)⟩
def brkPostM {α : Type} (m : Nat) (I : List α → World → Prop) (Ix : Code → List α → World → Prop) (n₁ : Nat) (T : List Nat) (xs : List α) (W : World) : Exit → Act → World → Prop
 | .normal, _, W' => KeepsTwo m W W' ∧ Kpt n₁ T W W' ∧ I xs W'
 | .ret, _, W' => KeepsTwo m W W' ∧ Ix .ret xs W'
 | .exit id, _, W' => KeepsTwo m W W' ∧ Ix (.exit id) xs W'
 | _, _, _ => False

theorem range_brkm {α : Type} {P : Program} {n : Nat} {g : Operand} {ps : Array Tmp} {assign body : Code} {Q : Exit → Act → World → Prop} {a : Act} {w : World} {gf : Nat} {lb : Array Value}
  (hg : a.eval g = .func (.func gf) #[] lb) (eg : ∀ args w, (callFunc gf args).run P w = .ok (.enter gf args) w) {encs : α → Array Value} {S Sp : List α → Prop} {Ex : List α → α → World → Prop} {n₁ : Nat} (hn₁ : n₁ ≤ w.heap.size) {Si T : List Nat} (hSi : ∀ x ∈ Si, x < w.heap.size)
  (hseq : ∀ (l : Nat) (J Jx : List α → World → Prop) (W : World), Below w.heap.size w W → (∀ pre A B, J pre A → Kpt W.heap.size Si A B → J pre B) → (∀ pre A B, Jx pre A → Kpt W.heap.size Si A B → Jx pre B) →
   (∀ pre x W1, J pre W1 → Ex pre x W1 → YieldAt Fence.wide (n - 1 - 1) P l (encs x) W1 fun e W' => (e = .returned (.bool true) ∧ J (pre ++ [x]) W' ∧ Kpt n₁ T W1 W') ∨ (e = .returned (.bool false) ∧ Jx (pre ++ [x]) W')) →
   J [] W → CallsIn Fence.wide (n - 1) P gf (#[.func (.yield l) #[] #[]] ++ lb) W fun e W' => (∃ v, e = .returned v) ∧ ((∃ xs, S xs ∧ J xs W') ∨ ∃ xs, Sp xs ∧ Jx xs W'))
  (hps : ∀ x, (encs x).size = ps.size) (I : List α → World → Prop) (Ix : Code → List α → World → Prop) (hI : ∀ pre A B, I pre A → Kpt w.heap.size Si A B → I pre B) (hIx : ∀ c pre A B, Ix c pre A → Kpt w.heap.size Si A B → Ix c pre B) (h0 : I [] w)
  (hEx : ∀ pre x W l o o', W.heap[l]? = some o → o.isCells = false → Ex pre x W → Ex pre x (W.putObj l o')) (a₁ : α → Act)
  (hassign : ∀ (l : Nat) (x : α) (W : World) (K : Act → World → Prop), K (a₁ x) W →
   assign.wpIn (Fence.wide.inRound l) (n - 1 - 1) P (Exit.then K (fun _ _ _ => False)) { tmps := (ps.zip (encs x)).foldl (fun t (p, v) => t.setIfInBounds p v) a.tmps, defers := [] } W)
  (hbody : ∀ (l : Nat) (pre : List α) (x : α) (W : World), w.heap.size + 2 ≤ W.heap.size → I pre W → Ex pre x W → body.wpIn (Fence.wide.inRound l) (n - 1 - 1) P (brkPostM w.heap.size I Ix n₁ T (pre ++ [x]) W) (a₁ x) W)
  (hdone : ∀ (D : Nat) (xs : List α) (W : World), w.heap.size ≤ D → S xs → I xs W → W.heap[D]? = some (.deferred (some [])) → Q .normal { a with defers := { target := .collected D, args := #[] } :: a.defers } W)
  (hstop : ∀ (D : Nat) (c : Code) (xs : List α) (W : World), w.heap.size ≤ D → Sp xs → Ix c xs W → W.heap[D]? = some (.deferred (some [])) → c.wpIn Fence.wide n P Q { a with defers := { target := .collected D, args := #[] } :: a.defers } W) :
  (Code.rangeFunc g ps assign body).wpIn Fence.wide n P Q a w := by
 refine wpIn_rangeFunc ?_
 intro fn hfn
 obtain ⟨rc, hrc⟩ : ∃ rc : LoopState → Option Code → Loop, rc = fun st pe => { state := st, pending := pe, fn, tmps := a.tmps, params := ps, assign, body, defers := w.heap.size } := ⟨_, rfl⟩
 obtain ⟨V, hV, hcV, hD0, hL0⟩ := news2 w (.deferred (some [])) (.loop (rc .ready none))
 have hsV : V.heap.size = w.heap.size + 2 := by rw [hV]; simp
 have bV : Below w.heap.size w V := by rw [hV]; exact ((Below.refl _ w).alloc (Nat.le_refl _) _).alloc (by simp) _
 refine ⟨w.heap.size + 1, [{ target := .collected w.heap.size, args := #[] }], V, { target := .fn (.func gf) lb, args := #[.func (.yield (w.heap.size + 1)) #[] #[]] }, V, gf,
  #[.func (.yield (w.heap.size + 1)) #[] #[]] ++ lb, V, ?_, ?_, fun _ _ => trivial, ?_, fun h => by simp [Fence.wide] at h, ?_⟩
 ·
  rw [hV, hrc]; exact run_enterLoop_outer _ _ _ _ _
 ·
  simp only [resolve, hg]
  simp [go_sem]
 ·
  simp [invoke, go_sem, eg]
 ·
  -- the record and the row of deferred calls, turned or not, lie at or behind w's end
  have turn : ∀ (W : World) (o : Obj) (o' : Obj), W.heap[w.heap.size + 1]? = some o → o.isCells = false → o.isWalk = false → ∀ m, m ≤ w.heap.size → Below m W (W.putObj (w.heap.size + 1) o') :=
   fun W o o' h hc hw m hm => belowK_b (w := w) hm W _ o o' (by omega) h hc hw
  have far : ∀ k, w.heap.size ≤ k → k ∉ Si := fun k hk h => by have := hSi k h; omega
  refine (hseq (w.heap.size + 1) (fun pre W => I pre W ∧ W.heap[w.heap.size + 1]? = some (.loop (rc .ready none)) ∧ W.heap[w.heap.size]? = some (.deferred (some [])))
   (fun pre W => ∃ c, Ix c pre W ∧ W.heap[w.heap.size + 1]? = some (.loop (rc .done (some c))) ∧ W.heap[w.heap.size]? = some (.deferred (some []))) V bV ?_ ?_ ?_
   ⟨hI _ _ _ h0 (Kpt.of_below bV (Nat.le_refl _)), hL0, hD0⟩).mono ?_
  ·
   rintro pre A B ⟨hi, hl, hk⟩ hb
   exact ⟨hI _ _ _ hi (hb.mono (by omega) (fun _ h => h)), (hb.block _ (by omega) (far _ (by omega))).trans hl, (hb.block _ (by omega) (far _ (Nat.le_refl _))).trans hk⟩
  ·
   rintro pre A B ⟨c, hi, hl, hk⟩ hb
   exact ⟨c, hIx _ _ _ _ hi (hb.mono (by omega) (fun _ h => h)), (hb.block _ (by omega) (far _ (by omega))).trans hl, (hb.block _ (by omega) (far _ (Nat.le_refl _))).trans hk⟩
  ·
   rintro pre x W ⟨hi, hl, hk⟩ hx
   have hlt := lt_of_heap hl
   have hy := run_yield (P := P) (args := encs x) hl (by rw [hrc]; exact hps x)
   rw [hrc] at hy
   refine ⟨fn, _, assign, body, hy, roundIn_of_wpIn hfn (hassign _ x W _ ⟨_, run_beginRound hl (by rw [hrc]), ?_⟩)⟩
   have hl2 : (W.putObj (w.heap.size + 1) (.loop { rc .ready none with state := .busy })).heap[w.heap.size + 1]? = some (.loop { rc .ready none with state := .busy }) := World.putObj_heap_same hlt
   have hk2 : (W.putObj (w.heap.size + 1) (.loop { rc .ready none with state := .busy })).heap[w.heap.size]? = some (.deferred (some [])) := (World.putObj_heap_other (by omega)).trans hk
   have b2 := turn W _ (.loop { rc .ready none with state := .busy }) hl rfl rfl
   refine wpIn_mono (hbody _ pre x _ (lt_of_heap hl2) (hI _ _ _ hi (Kpt.of_below (b2 _ (Nat.le_refl _)) (Nat.le_refl _))) (hEx pre x W _ _ _ hl rfl hx)) ?_
   have fin : ∀ (c : Code) (W3 : World), KeepsTwo w.heap.size (W.putObj (w.heap.size + 1) (.loop { rc .ready none with state := .busy })) W3 → Ix c (pre ++ [x]) W3 →
     ∃ v w', (Instr.endRound (w.heap.size + 1) (some c)).run P W3 = .ok v w' ∧ ((Ending.returned v = .returned (.bool true) ∧ (I (pre ++ [x]) w' ∧ w'.heap[w.heap.size + 1]? = some (.loop (rc .ready none)) ∧ w'.heap[w.heap.size]? = some (.deferred (some []))) ∧ Kpt n₁ T W w') ∨
      (Ending.returned v = .returned (.bool false) ∧ ∃ c, Ix c (pre ++ [x]) w' ∧ w'.heap[w.heap.size + 1]? = some (.loop (rc .done (some c))) ∧ w'.heap[w.heap.size]? = some (.deferred (some [])))) := by
    intro c W3 hk3 hi3
    have hl3 := hk3.2.trans hl2
    have hd3 := hk3.1.trans hk2
    have hr := run_endRound (P := P) (some c) hl3
    have b4 := turn W3 _ (.loop (rc .done (some c))) hl3 rfl rfl
    refine ⟨_, _, hr, .inr ⟨rfl, c, ?_, ?_, ?_⟩⟩
    ·
     have := hIx _ _ _ _ hi3 (Kpt.of_below (b4 _ (Nat.le_refl _)) (Nat.le_refl _))
     rw [hrc] at this ⊢
     exact this
    ·
     rw [hrc]; exact World.putObj_heap_same (lt_of_heap hl3)
    ·
     exact (World.putObj_heap_other (by omega)).trans hd3
   rintro e a3 W3 hp
   cases e with
   | normal =>
    obtain ⟨hk3, hb3, hi3⟩ := hp
    have hl3 := hk3.2.trans hl2
    have hd3 := hk3.1.trans hk2
    have hr := run_endRound (P := P) none hl3
    have b4 := turn W3 _ (.loop (rc .ready none)) hl3 rfl rfl
    refine ⟨_, _, hr, .inl ⟨rfl, ⟨?_, ?_, ?_⟩, ?_⟩⟩
    ·
     have := hI _ _ _ hi3 (Kpt.of_below (b4 _ (Nat.le_refl _)) (Nat.le_refl _))
     rw [hrc] at this ⊢
     exact this
    ·
     rw [hrc]; exact World.putObj_heap_same (lt_of_heap hl3)
    ·
     exact (World.putObj_heap_other (by omega)).trans hd3
    ·
     have := ((Kpt.of_below (T := T) (b2 _ hn₁) (Nat.le_refl _)).trans hb3).trans (Kpt.of_below (b4 _ hn₁) (Nat.le_refl _))
     rw [hrc] at this ⊢
     exact this
   | ret => exact fin .ret W3 hp.1 hp.2
   | exit id => exact fin (.exit id) W3 hp.1 hp.2
   | goto t => exact hp.elim
   | panic ch => exact hp.elim
   | outgrown => exact hp.elim
  ·
   rintro e W2 ⟨⟨v, rfl⟩, (⟨xs, hS, hi, hl, hk⟩ | ⟨xs, hS, c, hi, hl, hk⟩)⟩
   ·
    refine ⟨none, _, by have := run_endLoop (P := P) hl (by rw [hrc]; simp); rw [hrc] at this; exact this, hdone _ xs _ (Nat.le_refl _) hS ?_ ((World.putObj_heap_other (by omega)).trans hk)⟩
    exact hI _ _ _ hi (Kpt.of_below (turn W2 _ _ hl rfl rfl _ (Nat.le_refl _)) (Nat.le_refl _))
   ·
    refine ⟨some c, _, by have := run_endLoop (P := P) hl (by rw [hrc]; simp); rw [hrc] at this; exact this, hstop _ c xs _ (Nat.le_refl _) hS ?_ ((World.putObj_heap_other (by omega)).trans hk)⟩
    exact hIx _ _ _ _ hi (Kpt.of_below (turn W2 _ _ hl rfl rfl _ (Nat.le_refl _)) (Nat.le_refl _))
end
section
open Go.RowKit Go.Lib


attribute [local go_sem] Oper.semAt_some
def endRun (pre : List (Nat × Nat)) : Nat := (pre.getLast?.map (fun x => x.2)).getD 0
theorem endRun_nil : endRun [] = 0 := rfl
theorem endRun_snoc (pre : List (Nat × Nat)) (x : Nat × Nat) : endRun (pre ++ [x]) = x.2 := by unfold endRun; simp
def runA (A : Option Addr) (k : Nat) : Option Addr := A.map (fun x => x.add (k * 7))
theorem runA_some (g o k : Nat) : runA (some ⟨g, o, none⟩) k = some ⟨g, o + k * 7, none⟩ := by
 unfold runA
 by_cases z : k = 0
 ·
  subst z
  simp [Addr.add]
 ·
  have z7 : ¬ k * 7 = 0 := by omega
  simp only [Option.map_some, Addr.add, z7, if_false]
theorem runA_sub {A : Option Addr} {c k : Nat} (h : c ≠ k) : runA A k = subA A c k := by unfold runA subA; rw [if_neg h]
set_option maxHeartbeats 1000000 in
theorem struns_any (w : World) (A : Option Addr) (n c : Nat) : Calls Tryz.prog 53 #[.slice A n c] w fun e w' =>
  e = .returned (.func (.func 115) #[] #[.pointer (some ⟨w.heap.size, 0, none⟩)]) ∧ w' = w.alloc (.cells #[.slice A n c] 22) := by
 go_enter Tryz.func53, Tryz.ntmps53
 go_wp2
 go_ret
 exact ⟨by simp, rfl⟩
set_option maxRecDepth 100000 in
set_option maxHeartbeats 4000000 in
theorem runs1_gives (n l n₁ bs : Nat) (T : List Nat) (A : Option Addr) (c : Nat) (xs : List EvT) (es : List EvP)
  (J Jx : List (Nat × Nat) → World → Prop) (W : World) (hb : bs < n₁) (hT : bs ∉ T) (hn₁ : n₁ ≤ W.heap.size) (hA : xs = [] ∨ ∀ a, A = some a → a.block < n₁ ∧ a.block ∉ T)
  (hJ : ∀ pre A B, W.heap.size ≤ A.heap.size → J pre A → Chg [] A B → J pre B) (hl : xs.length = es.length) (hp : ∀ (i : Nat) (x : EvT) (e : EvP), xs[i]? = some x → es[i]? = some e → x.p = strOf e.p) (hr : RdK evTy W A xs.length xs) (hc : xs.length ≤ c) (hn : xs.length ≤ 100000)
  (hs : W.heap[bs]? = some (.cells #[.slice A xs.length c] 22 (0, 0)))
  (hY : ∀ pre x W1, J pre W1 → (x.1 = endRun pre ∧ RunAt es x.1 x.2) → YieldAt Fence.wide n Tryz.prog l #[.slice (runA A x.1) (x.2 - x.1) (x.2 - x.1)] W1 fun e W' => (e = .returned (.bool true) ∧ J (pre ++ [x]) W' ∧ Kpt n₁ T W1 W') ∨ (e = .returned (.bool false) ∧ Jx (pre ++ [x]) W'))
  (h0 : J [] W) :
  CallsIn Fence.wide (n + 1) Tryz.prog 115 #[.func (.yield l) #[] #[], .pointer (some ⟨bs, 0, none⟩)] W fun e W' => (∃ v, e = .returned v) ∧ ((∃ ys, endRun ys = es.length ∧ J ys W') ∨ ∃ ys, True ∧ Jx ys W') := by
 have h1 : 1 ≤ n + 1 := by omega
 have hro : Fence.wide.round = none := rfl
 have HS := Lib.hid hs
 have HL := Lib.hid hl
 have HP := Lib.hid hp
 have HR := Lib.hid hr
 have HC := Lib.hid hc
 have HN := Lib.hid hn
 have HA := Lib.hid hA
 have HB := Lib.hid (And.intro hb (And.intro hT hn₁))
 have HJ := Lib.hid hJ
 have HY := Lib.hid hY
 clear hs hl hp hr hc hn hA hb hT hn₁ hJ hY
 refine callsIn_of_wp Tryz.func115 rfl trivial ?_ hro
 simp only [Tryz.ntmps115, List.size_toArray, List.length_cons, List.length_nil, Nat.reduceAdd, Nat.reduceSub, Array.replicate_succ, Array.replicate_zero, List.push_toArray, List.append_toArray, List.nil_append, List.cons_append]
 gi_wp2
 gi_loopw [3, 4] (fun v3 v4 wr => ∃ (pre : List (Nat × Nat)) (k : Nat), k = endRun pre ∧ k ≤ xs.length ∧ v3 = .int .i64 (k : Int) ∧ v4 = .int .i64 (k : Int) ∧ Hid (J pre wr) ∧ Hid (Kpt n₁ T W wr))
  (fun v3 _ _ => xs.length - (RowKit.intOf v3).toNat)
 case atStart => exact ⟨[], 0, rfl, Nat.zero_le _, rfl, rfl, Lib.hid h0, Lib.hid (Kpt.refl _ _ _)⟩
 case round =>
  obtain ⟨pre, k, hk, hkl, rfl, rfl, JP, KP⟩ := hrel
  have HK := Lib.hid hk
  clear hk
  have CB : Hid (∀ w', Chg [] wr w' → w'.cell? ⟨bs, 0, none⟩ = some (.slice A xs.length c)) := Lib.hid (fun w' hc => by
   have q := hc.at_ ((KP.out.block bs HB.out.1 HB.out.2.1).trans HS.out) (by simp)
   simpa using cell_of q 0)
  have cb := CB.out wr (Chg.refl [] wr)
  have k0 : (0 : Int) ≤ (k : Int) := by omega
  by_cases hlt : k < xs.length
  ·
   have k1 : (k : Int) < (xs.length : Int) := by omega
   have RX : Hid (∀ w', Chg [] wr w' → RdK evTy w' A xs.length xs) := Lib.hid (fun w' hc => (HR.out.kpt KP.out (HA.out.resolve_left (by intro q; rw [q] at hlt; simp at hlt))).chg hc (by simp))
   obtain ⟨g, o, eA, _⟩ := (RX.out wr (Chg.refl [] wr)).line (by omega)
   subst eA
   obtain ⟨x, hx⟩ : ∃ x, xs[k]? = some x := ⟨_, List.getElem?_eq_getElem hlt⟩
   obtain ⟨b, eb⟩ : ∃ b, es[k]? = some b := ⟨_, List.getElem?_eq_getElem (by have := HL.out; omega)⟩
   have XB : Hid (∀ w', Chg [] wr w' → w'.cell? ⟨g, o + k * 7 + 2, none⟩ = some (.string (strOf b.p))) := Lib.hid (fun w' hc => by
    have q := (evCells (RX.out w' hc) hx).2.2.1
    rwa [HP.out k x b hx eb] at q)
   have EB := Lib.hid eb
   have HLT := Lib.hid hlt
   clear hx eb
   gi_wp2
   clear cb
   generalize wr = wo at *
   clear wr
   gi_loopw [4] (fun v4 wr => ∃ (j : Nat), k ≤ j ∧ j ≤ xs.length ∧ v4 = .int .i64 (j : Int) ∧ Hid (∀ i, k ≤ i → i < j → pathE es i = pathE es k) ∧ Hid (Chg [] wo wr)) (fun v4 _ => xs.length - (RowKit.intOf v4).toNat)
   case atStart => exact ⟨k, Nat.le_refl _, hkl, rfl, Lib.hid (fun i a b => absurd b (by omega)), Lib.hid (Chg.refl [] _)⟩
   case round =>
    obtain ⟨j, hkj, hj, rfl, SM, CQ⟩ := hrel
    have j0 : (0 : Int) ≤ (j : Int) := by omega
    have CD : Hid (Chg [] wo wr.drew) := Lib.hid (CQ.out.trans (Chg.refl [] wr).drew)
    have NEXT : Hid (k < j → RunAt es k j → YieldAt Fence.wide n Tryz.prog l #[.slice (runA (some ⟨g, o, none⟩) k) (j - k) (j - k)] wr.drew fun e W' => (e = .returned (.bool true) ∧ J (pre ++ [(k, j)]) W' ∧ Kpt n₁ T wr.drew W') ∨ (e = .returned (.bool false) ∧ Jx (pre ++ [(k, j)]) W')) := Lib.hid (fun _ q => HY.out pre (k, j) wr.drew (HJ.out _ _ _ KP.out.size JP.out CD.out) ⟨HK.out, q⟩)
    by_cases hjl : j < xs.length
    ·
     have j1 : (j : Int) < (xs.length : Int) := by omega
     have j2 : decide ((j : Int) < (xs.length : Int)) = true := decide_eq_true j1
     have j3 : IntKind.i64.wrap ((j : Int) + 1) = (j : Int) + 1 := IntWalk.i64_in _ (by have := HN.out; omega)
     obtain ⟨y, hy⟩ : ∃ y, xs[j]? = some y := ⟨_, List.getElem?_eq_getElem hjl⟩
     obtain ⟨f, ef⟩ : ∃ f, es[j]? = some f := ⟨_, List.getElem?_eq_getElem (by have := HL.out; omega)⟩
     have YB : Hid (∀ w', Chg [] wo w' → w'.cell? ⟨g, o + j * 7 + 2, none⟩ = some (.string (strOf f.p))) := Lib.hid (fun w' hc => by
      have q := (evCells (RX.out w' hc) hy).2.2.1
      rwa [HP.out j y f hy ef] at q)
     have EF := Lib.hid ef
     clear hy ef
     gi_wp2
     refine wpIn_wide.2 ?_
     refine wp_region_held_drew (S := fun w' => Chg [] wo w') (by kernel_rfl) CD.out (fun hHeld => ?_)
     refine sy 0 10 rfl rfl ?_
     try simp only [Act.put, sA, s0, s1]
     refine sy 1 11 rfl rfl ?_ (hy := by (intro w hSw; (try dsimp only at hSw); have q0 := CB.out _ hSw; go_simp; try with_reducible rfl))
     try simp only [Act.put, sA, s0, s1]
     refine sy 2 12 rfl rfl ?_
     try simp only [Act.put, sA, s0, s1]
     refine sy 3 13 rfl rfl ?_
     try simp only [Act.put, sA, s0, s1]
     refine sy 4 14 rfl rfl ?_
     try simp only [Act.put, sA, s0, s1]
     refine sy 5 15 rfl rfl ?_ (hy := by (intro w hSw; (try dsimp only at hSw); have q0 := CB.out _ hSw; go_simp; try with_reducible rfl))
     try simp only [Act.put, sA, s0, s1]
     refine sy 6 16 rfl rfl ?_
     try simp only [Act.put, sA, s0, s1]
     refine sy 7 17 rfl rfl ?_
     try simp only [Act.put, sA, s0, s1]
     refine sy 8 18 rfl rfl ?_
     try simp only [Act.put, sA, s0, s1]
     refine sy 9 19 rfl rfl ?_ (hy := by (intro w hSw; (try dsimp only at hSw); have q0 := YB.out _ hSw; go_simp; try with_reducible rfl))
     try simp only [Act.put, sA, s0, s1]
     refine sy 10 20 rfl rfl ?_ (hy := by (intro w hSw; (try dsimp only at hSw); have q0 := CB.out _ hSw; go_simp; try with_reducible rfl))
     try simp only [Act.put, sA, s0, s1]
     refine sy 11 21 rfl rfl ?_
     try simp only [Act.put, sA, s0, s1]
     refine sy 12 22 rfl rfl ?_
     try simp only [Act.put, sA, s0, s1]
     refine sy 13 23 rfl rfl ?_
     try simp only [Act.put, sA, s0, s1]
     refine sy 14 24 rfl rfl ?_ (hy := by (intro w hSw; (try dsimp only at hSw); have q0 := XB.out _ hSw; go_simp; try with_reducible rfl))
     try simp only [Act.put, sA, s0, s1]
     refine sy 15 25 rfl rfl ?_
     try simp only [Act.put, sA, s0, s1]
     refine sy 16 26 rfl rfl ?_
     try simp only [Act.put, sA, s0, s1]
     refine wpAnyH_done (by kernel_rfl) ?_ _
     clear hHeld CB XB YB
     by_cases hq : f.p = b.p
     ·
      have e6 : (f.p == b.p) = true := beq_iff_eq.2 hq
      have SM1 : Hid (∀ i, k ≤ i → i < j + 1 → pathE es i = pathE es k) := Lib.hid (fun i a t => by
       by_cases u : i = j
       ·
        subst u
        rw [pathE_some EF.out, pathE_some EB.out, hq]
       ·
        exact SM.out i a (by omega))
      have CD1 := CD
      generalize wr.drew = w9 at *
      clear hq SM NEXT
      rw [e6]
      gi_wp2
      go_roundw
      case rel => exact ⟨j + 1, by omega, by omega, by go_num, SM1, CD1⟩
      case measure => simp [RowKit.intOf]; omega
     ·
      have e6 : (f.p == b.p) = false := beq_eq_false_iff_ne.2 hq
      have KJ : Hid (k < j) := Lib.hid (by
       by_cases u : k = j
       ·
        subst u
        rw [EF.out] at EB
        exact absurd (by have := EB.out; cases this; rfl) hq
       ·
        omega)
      have RUN : Hid (RunAt es k j) := Lib.hid ⟨KJ.out, by have := HL.out; omega, SM.out, fun _ e => hq (by rw [pathE_some EF.out, pathE_some EB.out] at e; exact Option.some.inj e)⟩
      rw [e6]
      clear hq SM
      have YD := NEXT.out KJ.out RUN.out
      have KJ2 := KJ.out
      have CD1 := CD
      have CB2 : wr.drew.cell? ⟨bs, 0, none⟩ = some (.slice (some ⟨g, o, none⟩) xs.length c) := by
       have q := CD.out.at_ ((KP.out.block bs HB.out.1 HB.out.2.1).trans HS.out) (by simp)
       simpa using cell_of q 0
      have SZ : Hid (n₁ ≤ wr.drew.heap.size) := Lib.hid (by have := HB.out.2.2; have := KP.out.size; have := CD.out.size; omega)
      have KP1 : Hid (Kpt n₁ T W wr.drew) := Lib.hid (KP.out.trans ((Kpt.of_chg CD.out (by have := HB.out.2.2; have := KP.out.size; omega)).mono (Nat.le_refl _) (by simp)))
      generalize wr.drew = w9 at *
      clear NEXT RX
      have m0 : (0 : Int) ≤ (j : Int) := by omega
      have m1 : (k : Int) ≤ (j : Int) := by omega
      have m2 : (j : Int) ≤ (c : Int) := by have := HC.out; omega
      have m3 : ¬ j = k := by omega
      have RA : runA (some ⟨g, o, none⟩) k = some ⟨g, o + k * 7, none⟩ := runA_some g o k
      rw [RA] at YD
      obtain ⟨fn, tmps, assign, body, hy, hR⟩ := YD
      gi_wp2_with fail
      refine hR.mono ?_
      rintro e W3 (⟨rfl, hJ3, hk3⟩ | ⟨rfl, hx⟩)
      ·
       gi_wp2
       go_roundw
       case rel => exact ⟨pre ++ [(k, j)], j, by rw [endRun_snoc], by omega, rfl, rfl, Lib.hid hJ3, Lib.hid (KP1.out.trans hk3)⟩
       case measure => simp [RowKit.intOf]; omega
      ·
       gi_wp2
       refine bodyPost_ret (results_none rfl _ _ _) rfl ?_
       exact ⟨⟨_, rfl⟩, .inr ⟨_, trivial, hx⟩⟩
    ·
     obtain rfl : j = xs.length := by omega
     have j1 : ¬ (xs.length : Int) < (xs.length : Int) := by omega
     have j2 : decide ((xs.length : Int) < (xs.length : Int)) = false := decide_eq_false j1
     have KJ := HLT
     have RUN : Hid (RunAt es k xs.length) := Lib.hid ⟨KJ.out, by have := HL.out; omega, SM.out, fun q => absurd q (by have := HL.out; omega)⟩
     gi_wp2
     refine wpIn_wide.2 ?_
     refine wp_region_held_drew (S := fun w' => Chg [] wo w') (by kernel_rfl) CD.out (fun hHeld => ?_)
     refine sy 0 10 rfl rfl ?_
     try simp only [Act.put, sA, s0, s1]
     refine sy 1 11 rfl rfl ?_ (hy := by (intro w hSw; (try dsimp only at hSw); have q0 := CB.out _ hSw; go_simp; try with_reducible rfl))
     try simp only [Act.put, sA, s0, s1]
     refine sy 2 12 rfl rfl ?_
     try simp only [Act.put, sA, s0, s1]
     refine sy 3 13 rfl rfl ?_
     try simp only [Act.put, sA, s0, s1]
     refine sy 4 14 rfl rfl ?_
     try simp only [Act.put, sA, s0, s1]
     refine sn 5 15 rfl rfl ?_
     try simp only [Act.put, sA, s0, s1]
     refine sn 6 16 rfl rfl ?_
     try simp only [Act.put, sA, s0, s1]
     refine sn 7 17 rfl rfl ?_
     try simp only [Act.put, sA, s0, s1]
     refine sn 8 18 rfl rfl ?_
     try simp only [Act.put, sA, s0, s1]
     refine sn 9 19 rfl rfl ?_
     try simp only [Act.put, sA, s0, s1]
     refine sn 10 20 rfl rfl ?_
     try simp only [Act.put, sA, s0, s1]
     refine sn 11 21 rfl rfl ?_
     try simp only [Act.put, sA, s0, s1]
     refine sn 12 22 rfl rfl ?_
     try simp only [Act.put, sA, s0, s1]
     refine sn 13 23 rfl rfl ?_
     try simp only [Act.put, sA, s0, s1]
     refine sn 14 24 rfl rfl ?_
     try simp only [Act.put, sA, s0, s1]
     refine sn 15 25 rfl rfl ?_
     try simp only [Act.put, sA, s0, s1]
     refine sy 16 26 rfl rfl ?_
     try simp only [Act.put, sA, s0, s1]
     refine wpAnyH_done (by kernel_rfl) ?_ _
     clear hHeld CB XB SM
     have YD := NEXT.out KJ.out RUN.out
     have KJ2 := KJ.out
     have CD1 := CD
     have CB2 : wr.drew.cell? ⟨bs, 0, none⟩ = some (.slice (some ⟨g, o, none⟩) xs.length c) := by
      have q := CD.out.at_ ((KP.out.block bs HB.out.1 HB.out.2.1).trans HS.out) (by simp)
      simpa using cell_of q 0
     have SZ : Hid (n₁ ≤ wr.drew.heap.size) := Lib.hid (by have := HB.out.2.2; have := KP.out.size; have := CD.out.size; omega)
     have KP1 : Hid (Kpt n₁ T W wr.drew) := Lib.hid (KP.out.trans ((Kpt.of_chg CD.out (by have := HB.out.2.2; have := KP.out.size; omega)).mono (Nat.le_refl _) (by simp)))
     generalize wr.drew = w9 at *
     clear NEXT RX
     have m0 : (0 : Int) ≤ (xs.length : Int) := by omega
     have m1 : (k : Int) ≤ (xs.length : Int) := by omega
     have m2 : (xs.length : Int) ≤ (c : Int) := by have := HC.out; omega
     have m3 : ¬ xs.length = k := by omega
     have RA : runA (some ⟨g, o, none⟩) k = some ⟨g, o + k * 7, none⟩ := runA_some g o k
     rw [RA] at YD
     obtain ⟨fn, tmps, assign, body, hy, hR⟩ := YD
     gi_wp2_with fail
     refine hR.mono ?_
     rintro e W3 (⟨rfl, hJ3, hk3⟩ | ⟨rfl, hx⟩)
     ·
      gi_wp2
      go_roundw
      case rel => exact ⟨pre ++ [(k, xs.length)], xs.length, by rw [endRun_snoc], by omega, rfl, rfl, Lib.hid hJ3, Lib.hid (KP1.out.trans hk3)⟩
      case measure => simp [RowKit.intOf]; omega
     ·
      gi_wp2
      refine bodyPost_ret (results_none rfl _ _ _) rfl ?_
      exact ⟨⟨_, rfl⟩, .inr ⟨_, trivial, hx⟩⟩
  ·
   obtain rfl : k = xs.length := by omega
   have k1 : ¬ (xs.length : Int) < (xs.length : Int) := by omega
   gi_wp2
   go_end0
   exact ⟨⟨_, rfl⟩, .inl ⟨pre, by rw [← HK.out]; exact HL.out, JP.out⟩⟩
end
section
open Go.RowKit Go.Lib Go.Maps

theorem law_dot : Keyed Tryz.prog 24 := Keyed.of_law (deep_law_laid (by kernel_rfl) (m := 3) (by omega) (of_decide_eq_true (by kernel_rfl)) (by kernel_rfl) (by rw [Tryz.underlying24]))
theorem law_text : Keyed Tryz.prog 9 := string_keyed Tryz.underlying9
theorem zero_unit (w : World) : (zeroValue 80).run Tryz.prog w = .ok (.agg #[]) w := Tryz.zeroValue80 w
theorem keyDot (n s : Int) (hn : (Lit.int .i64 n).wf = true) (hs : (Lit.int .i64 s).wf = true) : keyOf Tryz.prog 24 (.agg #[.int .i64 n, .int .i64 s]) = some (.string (keyBytes [.int .i64 n, .int .i64 s])) := by
 have kt : Tryz.prog.keyType 24 = true := by kernel_rfl
 have c2 : Tryz.prog.cellsOf 24 = 2 := by kernel_rfl
 have c1 : Tryz.prog.cellsOf 3 = 1 := by kernel_rfl
 have fm : (Value.agg #[.int .i64 n, .int .i64 s]).formed Tryz.prog 24 = true := by simp [Value.formed, Tryz.underlying24, c2]
 obtain ⟨m, hm⟩ : ∃ m, Tryz.prog.types.size = m + 1 := ⟨Tryz.prog.types.size - 1, by have : 0 < Tryz.prog.types.size := of_decide_eq_true (by kernel_rfl); omega⟩
 have ki : ∀ a : Int, (Lit.int .i64 a).wf = true → Tryz.prog.keyLits (m + 1) 3 [.int .i64 a] = some [.int .i64 a] := fun a ha => by
  unfold Program.keyLits
  simp [Tryz.underlying3, ha]
 have kl : Tryz.prog.keyLits (Tryz.prog.types.size + 1) 24 [.int .i64 n, .int .i64 s] = some [.int .i64 n, .int .i64 s] := by
  rw [hm]
  unfold Program.keyLits
  simp [Tryz.underlying24, c2, c1, ki n hn, ki s hs]
 unfold keyOf
 rw [Tryz.underlying24]
 simp only [kt, fm, Bool.and_self, if_true]
 rw [show (Value.agg #[.int .i64 n, .int .i64 s]).cells.toList = [.int .i64 n, .int .i64 s] from rfl, kl]
 rfl
theorem keyText (l : List UInt8) (h : l.length ≤ maxLen) : keyOf Tryz.prog 9 (.string (strOf l)) = some (.string l) := by
 have := Go.WideMaps.keyOf_string_mk Tryz.underlying9 (s := strOf l) (by simpa [strOf, ByteArray.size] using h)
 rw [this]
 simp [strOf]
theorem dotLit_inj {a b : EvP} (ha : (Lit.int .i64 a.n).wf = true ∧ (Lit.int .i64 a.s).wf = true) (hb : (Lit.int .i64 b.n).wf = true ∧ (Lit.int .i64 b.s).wf = true) : dotLit a = dotLit b ↔ (a.n = b.n ∧ a.s = b.s) := by
 constructor
 ·
  intro h
  have h1 := keyDot a.n a.s ha.1 ha.2
  have h2 := keyDot b.n b.s hb.1 hb.2
  unfold dotLit at h
  rw [← h] at h2
  have := law_dot.inj h1 h2
  simpa using this
 ·
  rintro ⟨h1, h2⟩
  unfold dotLit
  rw [h1, h2]
end
end Go.Proofs.YtomgjogkkoigbaaGreatDoor
