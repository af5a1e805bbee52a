/- shelf.Put. Those of a list of events that are asked for. What is asked of a store's events: their path, whether it is near, whether their dot is known. The document's Shelf, Near, Missing (store). The document's writer (tributaryref01): form, put, Num, Raw, Text, Out. The document's writer, call by call. The document's writer: Raw, Text, Out. The document's reader: Open, fail, Left, End, and Num. The document's number, read. The document's number, read: where digits follow, or none. -/
import Derived.Test.YtomgjogkkoigbaaGreatDoorZspj
import Derived.Test.YtomgjogkkoigbaaGreatDoorZspr
import Derived.Test.YtomgjogkkoigbaaGreatDoorZspu
import Derived.Deep.Cut
import Derived.BigQuiet
import Derived.Test.YtomgjogkkoigbaaGreatDoorZspt
import Derived.RangeFuncCalls
import Derived.Test.YtomgjogkkoigbaaGreatDoorZspd
import Derived.Test.YtomgjogkkoigbaaGreatDoorZspk
import Derived.Test.YtomgjogkkoigbaaGreatDoorZspa
import Derived.Test.YtomgjogkkoigbaaGreatDoorZspb
set_option linter.unusedSimpArgs false
set_option linter.unusedVariables false
namespace Go.Proofs.YtomgjogkkoigbaaGreatDoor
section
open Go.RowKit Go.Lib


theorem EsF.low {w : World} {lo lo' hi : Nat} {A : Option Addr} {c : Nat} {ys : List EvT} {es : List EvP} (h : EsF w lo hi A c ys es) (hh : lo' ≤ lo) : EsF w lo' hi A c ys es :=
 ⟨h.row, fun a ha => ⟨Nat.le_trans hh (h.rowAt a ha).1, (h.rowAt a ha).2⟩, h.all.low hh⟩
set_option maxRecDepth 100000 in
set_option maxHeartbeats 16000000 in
theorem shput_any (w : World) (A : Option Addr) (c : Nat) (xs : List EvT) (es : List EvP) (y : EvT) (f : EvP) (h : RdK evTy w A xs.length xs) (hx : EvsR w xs es) (hn : xs.length ≤ 1000) (hs : ∀ e ∈ es, EvSm e ∧ e.q.length ≤ 100000) (hy : EvR w y f) (ht : EvSm f ∧ f.q.length ≤ 100000) :
  Calls Tryz.prog 104 #[.slice A xs.length c, .agg #[.int .i64 y.n, .int .i64 y.s, .string y.p, .int .i64 y.k, .int .i64 y.m, .slice y.A y.l y.c, .slice y.B y.bl y.bc]] w fun r w' => ∃ (A' : Option Addr) (c' : Nat) (ys : List EvT), r = .returned (.tuple #[.slice A' ys.length c', .int .i64 (shJoinE es [f]).1]) ∧ EsF w' w.heap.size w'.heap.size A' c' ys (shJoinE es [f]).2 ∧ Chg [] w w' := by

 obtain ⟨w1, hw1, c1, b1⟩ := news1 w (.cells #[.int .i64 y.n, .int .i64 y.s, .string y.p, .int .i64 y.k, .int .i64 y.m, .slice y.A y.l y.c, .slice y.B y.bl y.bc] 30)
 have W1 := Lib.hid hw1
 have C1 := Lib.hid c1
 have B1 := Lib.hid b1
 have HA := Lib.hid (h.chg c1 (by simp))
 have HX := Lib.hid (hx.chg c1)
 have HN := Lib.hid hn
 have HS : Hid (∀ e ∈ es, EvSm e) := Lib.hid (fun e he => (hs e he).1)
 have HQ : Hid (∀ e ∈ es, e.b.length ≤ 140737488351232 ∧ e.q.length ≤ 100000) := Lib.hid (fun e he => ⟨(hs e he).1.2.1, (hs e he).2⟩)
 have HY := Lib.hid (hy.chg c1)
 have HT := Lib.hid ht.1
 have HTQ := Lib.hid ht.2
 have PC := Lib.hid (Chg.refl [] w1)
 have RJ : Hid (∃ R, R = shJoinE es [f]) := Lib.hid ⟨_, rfl⟩
 clear hw1 c1 b1 h hx hn hs hy ht
 go_enter Tryz.func104, Tryz.ntmps104
 go_upto_region 1 with fail
 rw [← W1.out]
 obtain ⟨g1, hg1⟩ : ∃ g, w.heap.size = g := ⟨_, rfl⟩
 have HG := Lib.hid hg1
 rw [hg1] at B1 ⊢
 clear W1 hg1 RJ
 have HB : Hid (∀ w', Chg [] w1 w' → (w'.cell? ⟨g1, 0, none⟩ = some (.int .i64 y.n) ∧ w'.cell? ⟨g1, 1, none⟩ = some (.int .i64 y.s) ∧ w'.cell? ⟨g1, 2, none⟩ = some (.string y.p) ∧ w'.cell? ⟨g1, 3, none⟩ = some (.int .i64 y.k) ∧ w'.cell? ⟨g1, 4, none⟩ = some (.int .i64 y.m) ∧ w'.cell? ⟨g1, 5, none⟩ = some (.slice y.A y.l y.c) ∧ w'.cell? ⟨g1, 6, none⟩ = some (.slice y.B y.bl y.bc))) := Lib.hid (fun w' hc => by
  have b := hc.at_ B1.out (by simp)
  exact ⟨cell_of b 0, cell_of b 1, cell_of b 2, cell_of b 3, cell_of b 4, cell_of b 5, cell_of b 6⟩)
 have SCK : Hid (∀ w', Chg [] w1 w' → Calls Tryz.prog 54 #[.slice A xs.length c] w' fun r w2 => r = .returned (.int .i64 (shE es)) ∧ Chg [] w' w2) := Lib.hid (fun w' hc => shcheck_any w' A c xs es (HA.out.chg hc (by simp)) (HX.out.chg hc) (by have := HN.out; omega) HS.out)
 have ECK : Hid (∀ w', Chg [] w1 w' → Calls Tryz.prog 46 #[.agg #[.int .i64 y.n, .int .i64 y.s, .string y.p, .int .i64 y.k, .int .i64 y.m, .slice y.A y.l y.c, .slice y.B y.bl y.bc]] w' fun r w2 => r = .returned (.int .i64 (chkEv f)) ∧ Chg [] w' w2) := Lib.hid (fun w' hc => evcheck_any w' y f (HY.out.chg hc) HT.out)
 rcases shE_two es with e1 | e1
 rotate_left
 ·
  have NO : Hid (shJoinE es [f] = (2, [])) := Lib.hid (shJoin_noA (fun q => by rw [shE_zero.2 q] at e1; cases e1))
  refine wp_region_held_drew (S := fun w' => Chg [] w1 w') (by kernel_rfl) (Chg.refl [] w1).drew (fun hHeld => ?_)
  refine sy 0 11 rfl rfl ?_; try simp only [Act.put, sA, s0, s1]
  refine wpAnyH_ready (rs := [1]) (by kernel_rfl) (by simp) ?_; refine AllReadyH.cons rfl (fun K hK => ?_) AllReadyH.nil; replace hK := Lib.hid hK; go_simp
  refine (SCK.out _ hHeld).mono ?_
  rintro r w3 ⟨rfl, hc⟩
  rw [e1]
  have C9 := Lib.hid (hHeld.trans hc)
  clear hc hHeld
  refine hK.out _ _ C9.out (fun hHeld => ?_)
  clear hK K; try simp only [Act.put, sA, s0, s1]
  refine sy 2 13 rfl rfl ?_; try simp only [Act.put, sA, s0, s1]
  refine sy 3 14 rfl rfl ?_; try simp only [Act.put, sA, s0, s1]
  refine sn 4 15 rfl rfl ?_; try simp only [Act.put, sA, s0, s1]
  refine sn 5 16 rfl rfl ?_; try simp only [Act.put, sA, s0, s1]
  refine sn 6 17 rfl rfl ?_; try simp only [Act.put, sA, s0, s1]
  refine sy 7 18 rfl rfl ?_; try simp only [Act.put, sA, s0, s1]
  refine sy 8 19 rfl rfl ?_; try simp only [Act.put, sA, s0, s1]
  refine sn 9 20 rfl rfl ?_; try simp only [Act.put, sA, s0, s1]
  refine sn 10 21 rfl rfl ?_; try simp only [Act.put, sA, s0, s1]
  refine sn 11 22 rfl rfl ?_; try simp only [Act.put, sA, s0, s1]
  refine sn 12 23 rfl rfl ?_; try simp only [Act.put, sA, s0, s1]
  refine sn 13 24 rfl rfl ?_; try simp only [Act.put, sA, s0, s1]
  refine sn 14 25 rfl rfl ?_; try simp only [Act.put, sA, s0, s1]
  refine sn 15 26 rfl rfl ?_; try simp only [Act.put, sA, s0, s1]
  refine sn 16 27 rfl rfl ?_; try simp only [Act.put, sA, s0, s1]
  refine sn 17 28 rfl rfl ?_; try simp only [Act.put, sA, s0, s1]
  refine sn 18 29 rfl rfl ?_; try simp only [Act.put, sA, s0, s1]
  refine sn 19 30 rfl rfl ?_; try simp only [Act.put, sA, s0, s1]
  refine sn 20 31 rfl rfl ?_; try simp only [Act.put, sA, s0, s1]
  refine sy 21 32 rfl rfl ?_; try simp only [Act.put, sA, s0, s1]
  refine wpAnyH_done (by kernel_rfl) ?_ _
  have PE := Lib.hid (C1.out.trans C9.out)
  clear hHeld HB SCK ECK; go_wp2; go_ret2
  rw [NO.out]
  exact ⟨none, 0, [], rfl, EsF.nil _ _ _, PE.out⟩
 have SOK : Hid (ShOk es) := Lib.hid (shE_zero.1 e1)
 rcases chkEv_two f with e2 | e2
 rotate_left
 ·
  have NO : Hid (shJoinE es [f] = (2, [])) := Lib.hid (shJoin_no1 (by omega))
  refine wp_region_held_drew (S := fun w' => Chg [] w1 w') (by kernel_rfl) (Chg.refl [] w1).drew (fun hHeld => ?_)
  refine sy 0 11 rfl rfl ?_; try simp only [Act.put, sA, s0, s1]
  refine wpAnyH_ready (rs := [1]) (by kernel_rfl) (by simp) ?_; refine AllReadyH.cons rfl (fun K hK => ?_) AllReadyH.nil; replace hK := Lib.hid hK; go_simp
  refine (SCK.out _ hHeld).mono ?_
  rintro r w3 ⟨rfl, hc⟩
  rw [e1]
  have C9 := Lib.hid (hHeld.trans hc)
  clear hc hHeld
  refine hK.out _ _ C9.out (fun hHeld => ?_)
  clear hK K; try simp only [Act.put, sA, s0, s1]
  refine sy 2 13 rfl rfl ?_; try simp only [Act.put, sA, s0, s1]
  refine sy 3 14 rfl rfl ?_; try simp only [Act.put, sA, s0, s1]
  refine sy 4 15 rfl rfl ?_ (hy := by (intro w hSw; (try dsimp only at hSw); have hq := HB.out _ hSw; obtain ⟨q0, q1, q2, q3, q4, q5, q6⟩ := hq; go_simp; try with_reducible rfl))
  try simp only [Act.put, sA, s0, s1]
  refine wpAnyH_ready (rs := [5]) (by kernel_rfl) (by simp) ?_; refine AllReadyH.cons rfl (fun K hK => ?_) AllReadyH.nil; replace hK := Lib.hid hK; go_simp
  refine (ECK.out _ hHeld).mono ?_
  rintro r w4 ⟨rfl, hc⟩
  rw [e2]
  have C9 := Lib.hid (hHeld.trans hc)
  clear hc hHeld
  refine hK.out _ _ C9.out (fun hHeld => ?_)
  clear hK K; try simp only [Act.put, sA, s0, s1]
  refine sy 6 17 rfl rfl ?_; try simp only [Act.put, sA, s0, s1]
  refine sy 7 18 rfl rfl ?_; try simp only [Act.put, sA, s0, s1]
  refine sy 8 19 rfl rfl ?_; try simp only [Act.put, sA, s0, s1]
  refine sn 9 20 rfl rfl ?_; try simp only [Act.put, sA, s0, s1]
  refine sn 10 21 rfl rfl ?_; try simp only [Act.put, sA, s0, s1]
  refine sn 11 22 rfl rfl ?_; try simp only [Act.put, sA, s0, s1]
  refine sn 12 23 rfl rfl ?_; try simp only [Act.put, sA, s0, s1]
  refine sn 13 24 rfl rfl ?_; try simp only [Act.put, sA, s0, s1]
  refine sn 14 25 rfl rfl ?_; try simp only [Act.put, sA, s0, s1]
  refine sn 15 26 rfl rfl ?_; try simp only [Act.put, sA, s0, s1]
  refine sn 16 27 rfl rfl ?_; try simp only [Act.put, sA, s0, s1]
  refine sn 17 28 rfl rfl ?_; try simp only [Act.put, sA, s0, s1]
  refine sn 18 29 rfl rfl ?_; try simp only [Act.put, sA, s0, s1]
  refine sn 19 30 rfl rfl ?_; try simp only [Act.put, sA, s0, s1]
  refine sn 20 31 rfl rfl ?_; try simp only [Act.put, sA, s0, s1]
  refine sy 21 32 rfl rfl ?_; try simp only [Act.put, sA, s0, s1]
  refine wpAnyH_done (by kernel_rfl) ?_ _
  have PE := Lib.hid (C1.out.trans C9.out)
  clear hHeld HB SCK ECK; go_wp2; go_ret2
  rw [NO.out]
  exact ⟨none, 0, [], rfl, EsF.nil _ _ _, PE.out⟩
 have CF := Lib.hid e2
 by_cases h0 : xs.length = 0
 ·
  have YES : Hid (shJoinE es [f] = (0, putE es f)) := Lib.hid (shPut_yes SOK.out CF.out (fun x hx => by
   have := HX.out.1
   have := (List.getElem?_eq_some_iff.1 hx).1
   omega))
  have l0 : ¬ (0 : Int) < (xs.length : Int) := by omega
  have l1 : ¬ 0 < xs.length := by omega
  have l2 : decide ((0 : Int) < (xs.length : Int)) = false := decide_eq_false (by omega)
  have l3 : decide (0 < xs.length) = false := decide_eq_false (by omega)
  clear h0
  refine wp_region_held_drew (S := fun w' => Chg [] w1 w') (by kernel_rfl) (Chg.refl [] w1).drew (fun hHeld => ?_)
  refine sy 0 11 rfl rfl ?_; try simp only [Act.put, sA, s0, s1]
  refine wpAnyH_ready (rs := [1]) (by kernel_rfl) (by simp) ?_; refine AllReadyH.cons rfl (fun K hK => ?_) AllReadyH.nil; replace hK := Lib.hid hK; go_simp
  refine (SCK.out _ hHeld).mono ?_
  rintro r w3 ⟨rfl, hc⟩
  rw [e1]
  have C9 := Lib.hid (hHeld.trans hc)
  clear hc hHeld
  refine hK.out _ _ C9.out (fun hHeld => ?_)
  clear hK K; try simp only [Act.put, sA, s0, s1]
  refine sy 2 13 rfl rfl ?_; try simp only [Act.put, sA, s0, s1]
  refine sy 3 14 rfl rfl ?_; try simp only [Act.put, sA, s0, s1]
  refine sy 4 15 rfl rfl ?_ (hy := by (intro w hSw; (try dsimp only at hSw); have hq := HB.out _ hSw; obtain ⟨q0, q1, q2, q3, q4, q5, q6⟩ := hq; go_simp; try with_reducible rfl))
  try simp only [Act.put, sA, s0, s1]
  refine wpAnyH_ready (rs := [5]) (by kernel_rfl) (by simp) ?_; refine AllReadyH.cons rfl (fun K hK => ?_) AllReadyH.nil; replace hK := Lib.hid hK; go_simp
  refine (ECK.out _ hHeld).mono ?_
  rintro r w4 ⟨rfl, hc⟩
  rw [e2]
  have C9 := Lib.hid (hHeld.trans hc)
  clear hc hHeld
  refine hK.out _ _ C9.out (fun hHeld => ?_)
  clear hK K; try simp only [Act.put, sA, s0, s1]
  refine sy 6 17 rfl rfl ?_; try simp only [Act.put, sA, s0, s1]
  refine sy 7 18 rfl rfl ?_; try simp only [Act.put, sA, s0, s1]
  refine sy 8 19 rfl rfl ?_; try simp only [Act.put, sA, s0, s1]
  refine sy 9 20 rfl rfl ?_; try simp only [Act.put, sA, s0, s1]
  refine sy 10 21 rfl rfl ?_; try simp only [Act.put, sA, s0, s1]
  refine sy 11 22 rfl rfl ?_; try simp only [Act.put, sA, s0, s1]
  refine sy 12 23 rfl rfl ?_; try simp only [Act.put, sA, s0, s1]
  refine sn 13 24 rfl rfl ?_; try simp only [Act.put, sA, s0, s1]
  refine sn 14 25 rfl rfl ?_; try simp only [Act.put, sA, s0, s1]
  refine sn 15 26 rfl rfl ?_; try simp only [Act.put, sA, s0, s1]
  refine sn 16 27 rfl rfl ?_; try simp only [Act.put, sA, s0, s1]
  refine sn 17 28 rfl rfl ?_; try simp only [Act.put, sA, s0, s1]
  refine sn 18 29 rfl rfl ?_; try simp only [Act.put, sA, s0, s1]
  refine sn 19 30 rfl rfl ?_; try simp only [Act.put, sA, s0, s1]
  refine sy 20 31 rfl rfl ?_; try simp only [Act.put, sA, s0, s1]
  refine sy 21 32 rfl rfl ?_; try simp only [Act.put, sA, s0, s1]
  refine wpAnyH_done (by kernel_rfl) ?_ _; clear l0 l1 l2 l3
  have PC := C9
  clear hHeld SCK ECK C9
  have FI := Lib.hid (shfind_any w4 A c xs y.n y.s (HA.out.chg PC.out (by simp)) (HX.out.up SOK.out.2.2.1) (by have := HN.out; omega))
  obtain ⟨y0, y1, y2, y3, y4, y5, y6⟩ := HB.out _ PC.out
  go_wp2_with fail; clear y0 y1 y2 y3 y4 y5 y6
  refine FI.out.mono ?_
  rintro r w5 ⟨i0, hi0, lo0, hh0, rfl, hc⟩
  have PC5 := Lib.hid (PC.out.trans hc)
  clear hc FI PC hi0 lo0 hh0
  rcases hin : inE xs y.n y.s with _ | _
  rotate_left
  ·
   have ST : Hid (stayE es f = true) := Lib.hid (by rw [stay_or, ← HY.out.n, ← HY.out.s, ← HX.out.inE, hin]; rfl)
   clear hin
   have PF := PC5
   have FE := Lib.hid (frevents_any w5 A c xs es (HA.out.chg PF.out (by simp)) (HX.out.chg PF.out) (by have := HN.out; omega) HQ.out)
   go_wp2_with fail
   refine FE.out.mono ?_
   rintro r w7 ⟨A7, c7, ys, rfl, hl, he, hc⟩
   have P7 := Lib.hid (And.intro he (C1.out.trans (PF.out.trans hc)))
   have LO : Hid (w.heap.size ≤ w5.heap.size) := Lib.hid (Nat.le_trans C1.out.size PF.out.size)
   clear hl he hc FE; go_wp2; go_ret2
   rw [YES.out, put_stays ST.out]
   exact ⟨A7, c7, ys, rfl, P7.out.1.low LO.out, P7.out.2⟩
  have IN := Lib.hid hin
  clear hin
  have AHD := Lib.hid (shahead_any w5 A c xs es y f (HA.out.chg PC5.out (by simp)) (HX.out.chg PC5.out) (by have := HN.out; omega) (HY.out.chg PC5.out) HS.out HT.out)
  obtain ⟨y0, y1, y2, y3, y4, y5, y6⟩ := HB.out _ PC5.out
  go_wp2_with fail; clear y0 y1 y2 y3 y4 y5 y6
  refine AHD.out.mono ?_
  rintro r w6 ⟨rfl, hc⟩
  have PC6 := Lib.hid (PC5.out.trans hc)
  clear hc AHD PC5
  rcases ha : es.any (fun e => aheadP f e) with _ | _
  rotate_left
  ·
   have ST : Hid (stayE es f = true) := Lib.hid (by rw [stay_or, ha, Bool.or_true])
   clear ha
   have PF := PC6
   have FE := Lib.hid (frevents_any w6 A c xs es (HA.out.chg PF.out (by simp)) (HX.out.chg PF.out) (by have := HN.out; omega) HQ.out)
   go_wp2_with fail
   refine FE.out.mono ?_
   rintro r w7 ⟨A7, c7, ys, rfl, hl, he, hc⟩
   have P7 := Lib.hid (And.intro he (C1.out.trans (PF.out.trans hc)))
   have LO : Hid (w.heap.size ≤ w6.heap.size) := Lib.hid (Nat.le_trans C1.out.size PF.out.size)
   clear hl he hc FE; go_wp2; go_ret2
   rw [YES.out, put_stays ST.out]
   exact ⟨A7, c7, ys, rfl, P7.out.1.low LO.out, P7.out.2⟩
  have NST : Hid (stayE es f = false) := Lib.hid (by rw [stay_or, ha, ← HY.out.n, ← HY.out.s, ← HX.out.inE, IN.out]; rfl)
  clear ha
  have WO := Lib.hid (shwithout_any w6 A c xs es y f (HA.out.chg PC6.out (by simp)) (HX.out.chg PC6.out) (by have := HN.out; omega) (HY.out.chg PC6.out) HS.out HT.out)
  obtain ⟨y0, y1, y2, y3, y4, y5, y6⟩ := HB.out _ PC6.out
  go_wp2_with fail; clear y0 y1 y2 y3 y4 y5 y6
  refine WO.out.mono ?_
  rintro r w7 ⟨A7, c7, ys, rfl, hl7, he7, ho7, hn7, hc⟩
  have C67 := Lib.hid hc
  have O7 := Lib.hid ho7
  have N7 : Hid (∀ a, A7 = some a → w6.heap.size ≤ a.block) := Lib.hid hn7
  have E7 := Lib.hid he7
  have L7 : Hid (ys.length ≤ 1000) := Lib.hid (by have := HN.out; omega)
  clear hc ho7 hn7 he7 hl7 WO
  have FI := Lib.hid (shfind_any w7 A7 c7 ys y.n y.s O7.out.reads (E7.out.up (keep_up SOK.out.2.2.1)) (by have := L7.out; omega))
  obtain ⟨y0, y1, y2, y3, y4, y5, y6⟩ := HB.out _ (PC6.out.trans C67.out)
  go_wp2_with fail; clear y0 y1 y2 y3 y4 y5 y6
  refine FI.out.mono ?_
  rintro r w8 ⟨i, hi, lo, hh, rfl, hc⟩
  have C68 := Lib.hid (C67.out.trans hc)
  have O8 := Lib.hid (O7.out.chg hc (by simp))
  have PI := Lib.hid (And.intro hi (put_ins E7.out (HY.out.chg PC6.out) NST.out hi lo hh))
  clear hc FI C67 O7 E7 hi lo hh
  obtain ⟨w9, hw9, c9, b9⟩ := news1 w8 (.cells #[.int .i64 y.n, .int .i64 y.s, .string y.p, .int .i64 y.k, .int .i64 y.m, .slice y.A y.l y.c, .slice y.B y.bl y.bc] 30)
  have W9 := Lib.hid hw9
  have INS := Lib.hid (insev_any w9 A7 c7 ys i w8.heap.size y (O8.out.chg c9 (by simp)) PI.out.1 (by have := L7.out; omega) b9 (fun a ha e => by
   have := O8.out.lt a ha
   omega))
  have C69 := Lib.hid (C68.out.trans c9)
  clear hw9 c9 b9 O8
  obtain ⟨y0, y1, y2, y3, y4, y5, y6⟩ := HB.out _ (PC6.out.trans C68.out)
  go_wp2_with (rw [← W9.out])
  clear y0 y1 y2 y3 y4 y5 y6
  refine INS.out.mono ?_
  rintro r wa ⟨Aa, ca, rfl, hoa, hna, hca⟩
  have ZL : Hid (ys.length + 1 = (ys.take i ++ y :: ys.drop i).length) := Lib.hid (by have := PI.out.1; simp; omega)
  have C6a := Lib.hid (hca w6 C69.out N7.out)
  have OA := Lib.hid hoa
  have PA := Lib.hid (PI.out.2.chg C6a.out)
  obtain ⟨zs, hzs⟩ : ∃ zs, zs = ys.take i ++ y :: ys.drop i := ⟨_, rfl⟩
  have LZ : Hid (zs.length ≤ 100000) := Lib.hid (by rw [hzs, ← ZL.out]; have := L7.out; omega)
  rw [← hzs] at ZL OA PA
  clear hoa hna hca hzs INS C69 C68 W9
  rw [ZL.out]
  have FE := Lib.hid (frevents_any wa Aa ca zs (putE es f) OA.out.reads PA.out LZ.out (fun e he => (put_mem he).elim (fun q => by rw [q]; exact ⟨HT.out.2.1, HTQ.out⟩) (HQ.out e)))
  go_wp2_with fail
  refine FE.out.mono ?_
  rintro r wb ⟨Ab, cb, us, rfl, hl, he, hc⟩
  have P7 := Lib.hid (And.intro he (C1.out.trans (PC6.out.trans (C6a.out.trans hc))))
  have LO : Hid (w.heap.size ≤ wa.heap.size) := Lib.hid (Nat.le_trans C1.out.size (Nat.le_trans PC6.out.size C6a.out.size))
  clear hl he hc FE; go_wp2; go_ret2
  rw [YES.out]
  exact ⟨Ab, cb, us, rfl, P7.out.1.low LO.out, P7.out.2⟩
 obtain ⟨g3, o3, eA, _⟩ := HA.out.line (by omega)
 subst eA
 obtain ⟨y0, f0, ey0, ef0, ry0⟩ := HX.out.at_ (show 0 < xs.length by omega)
 have H0 : Hid (∀ w', Chg [] w1 w' → w'.cell? ⟨g3, o3 + 2, none⟩ = some (.string y0.p)) := Lib.hid (fun w' hc => by
  have q := evCells (HA.out.chg hc (by simp)) ey0
  rw [Nat.zero_mul, Nat.add_zero] at q
  exact q.2.2.1)
 have XP : Hid (y0.p = strOf f0.p ∧ y.p = strOf f.p) := Lib.hid ⟨ry0.p, HY.out.p⟩
 have EF0 := Lib.hid ef0
 have l0 : (0 : Int) < (xs.length : Int) := by omega
 have l1 : 0 < xs.length := by omega
 have l2 : decide ((0 : Int) < (xs.length : Int)) = true := by simp; omega
 have l3 : decide (0 < xs.length) = true := by simp; omega
 clear ey0 ef0 ry0 h0
 by_cases hp : f0.p = f.p
 rotate_left
 ·
  have NO : Hid (shJoinE es [f] = (2, [])) := Lib.hid (shJoin_path EF0.out rfl hp)
  have p1' : ((y0.p == y.p) : Bool) = false := by rw [XP.out.1, XP.out.2]; exact strOf_ne hp
  have p2' : ¬ y0.p = y.p := by rw [XP.out.1, XP.out.2]; exact strOf_ne2 hp
  have p3' : ¬ y0.p.toList = y.p.toList := by rw [XP.out.1, XP.out.2]; exact strOf_ne3s hp
  have p4' : ((y0.p.toList == y.p.toList) : Bool) = false := by simpa using p3'
  clear hp
  refine wp_region_held_drew (S := fun w' => Chg [] w1 w') (by kernel_rfl) (Chg.refl [] w1).drew (fun hHeld => ?_)
  refine sy 0 11 rfl rfl ?_; try simp only [Act.put, sA, s0, s1]
  refine wpAnyH_ready (rs := [1]) (by kernel_rfl) (by simp) ?_; refine AllReadyH.cons rfl (fun K hK => ?_) AllReadyH.nil; replace hK := Lib.hid hK; go_simp
  refine (SCK.out _ hHeld).mono ?_
  rintro r w3 ⟨rfl, hc⟩
  rw [e1]
  have C9 := Lib.hid (hHeld.trans hc)
  clear hc hHeld
  refine hK.out _ _ C9.out (fun hHeld => ?_)
  clear hK K; try simp only [Act.put, sA, s0, s1]
  refine sy 2 13 rfl rfl ?_; try simp only [Act.put, sA, s0, s1]
  refine sy 3 14 rfl rfl ?_; try simp only [Act.put, sA, s0, s1]
  refine sy 4 15 rfl rfl ?_ (hy := by (intro w hSw; (try dsimp only at hSw); have hq := HB.out _ hSw; obtain ⟨q0, q1, q2, q3, q4, q5, q6⟩ := hq; go_simp; try with_reducible rfl))
  try simp only [Act.put, sA, s0, s1]
  refine wpAnyH_ready (rs := [5]) (by kernel_rfl) (by simp) ?_; refine AllReadyH.cons rfl (fun K hK => ?_) AllReadyH.nil; replace hK := Lib.hid hK; go_simp
  refine (ECK.out _ hHeld).mono ?_
  rintro r w4 ⟨rfl, hc⟩
  rw [e2]
  have C9 := Lib.hid (hHeld.trans hc)
  clear hc hHeld
  refine hK.out _ _ C9.out (fun hHeld => ?_)
  clear hK K; try simp only [Act.put, sA, s0, s1]
  refine sy 6 17 rfl rfl ?_; try simp only [Act.put, sA, s0, s1]
  refine sy 7 18 rfl rfl ?_; try simp only [Act.put, sA, s0, s1]
  refine sy 8 19 rfl rfl ?_; try simp only [Act.put, sA, s0, s1]
  refine sy 9 20 rfl rfl ?_; try simp only [Act.put, sA, s0, s1]
  refine sy 10 21 rfl rfl ?_; try simp only [Act.put, sA, s0, s1]
  refine sy 11 22 rfl rfl ?_; try simp only [Act.put, sA, s0, s1]
  refine sy 12 23 rfl rfl ?_; try simp only [Act.put, sA, s0, s1]
  refine sy 13 24 rfl rfl ?_; try simp only [Act.put, sA, s0, s1]
  refine sy 14 25 rfl rfl ?_; try simp only [Act.put, sA, s0, s1]
  refine sy 15 26 rfl rfl ?_; try simp only [Act.put, sA, s0, s1]
  refine sy 16 27 rfl rfl ?_ (hy := by (intro w hSw; (try dsimp only at hSw); have hq := H0.out _ hSw; go_simp; try with_reducible rfl))
  try simp only [Act.put, sA, s0, s1]
  refine sy 17 28 rfl rfl ?_; try simp only [Act.put, sA, s0, s1]
  refine sy 18 29 rfl rfl ?_ (hy := by (intro w hSw; (try dsimp only at hSw); have hq := HB.out _ hSw; obtain ⟨q0, q1, q2, q3, q4, q5, q6⟩ := hq; go_simp; try with_reducible rfl))
  try simp only [Act.put, sA, s0, s1]
  refine sy 19 30 rfl rfl ?_; try simp only [Act.put, sA, s0, s1]
  refine sy 20 31 rfl rfl ?_; try simp only [Act.put, sA, s0, s1]
  refine sy 21 32 rfl rfl ?_; try simp only [Act.put, sA, s0, s1]
  refine wpAnyH_done (by kernel_rfl) ?_ _
  have PE := Lib.hid (C1.out.trans C9.out)
  clear hHeld HB SCK ECK; go_wp2; go_ret2
  rw [NO.out]
  exact ⟨none, 0, [], rfl, EsF.nil _ _ _, PE.out⟩
 have YES : Hid (shJoinE es [f] = (0, putE es f)) := Lib.hid (shPut_yes SOK.out CF.out (fun x hx => by rw [EF0.out] at hx; cases hx; exact hp))
 have p1' : ((y0.p == y.p) : Bool) = true := by rw [XP.out.1, XP.out.2, hp]; show ((f.p.toArray == f.p.toArray) : Bool) = true; simp
 have p4' : ((y0.p.toList == y.p.toList) : Bool) = true := by rw [XP.out.1, XP.out.2, hp]; simp
 clear hp
 refine wp_region_held_drew (S := fun w' => Chg [] w1 w') (by kernel_rfl) (Chg.refl [] w1).drew (fun hHeld => ?_)
 refine sy 0 11 rfl rfl ?_; try simp only [Act.put, sA, s0, s1]
 refine wpAnyH_ready (rs := [1]) (by kernel_rfl) (by simp) ?_; refine AllReadyH.cons rfl (fun K hK => ?_) AllReadyH.nil; replace hK := Lib.hid hK; go_simp
 refine (SCK.out _ hHeld).mono ?_
 rintro r w3 ⟨rfl, hc⟩
 rw [e1]
 have C9 := Lib.hid (hHeld.trans hc)
 clear hc hHeld
 refine hK.out _ _ C9.out (fun hHeld => ?_)
 clear hK K; try simp only [Act.put, sA, s0, s1]
 refine sy 2 13 rfl rfl ?_; try simp only [Act.put, sA, s0, s1]
 refine sy 3 14 rfl rfl ?_; try simp only [Act.put, sA, s0, s1]
 refine sy 4 15 rfl rfl ?_ (hy := by (intro w hSw; (try dsimp only at hSw); have hq := HB.out _ hSw; obtain ⟨q0, q1, q2, q3, q4, q5, q6⟩ := hq; go_simp; try with_reducible rfl))
 try simp only [Act.put, sA, s0, s1]
 refine wpAnyH_ready (rs := [5]) (by kernel_rfl) (by simp) ?_; refine AllReadyH.cons rfl (fun K hK => ?_) AllReadyH.nil; replace hK := Lib.hid hK; go_simp
 refine (ECK.out _ hHeld).mono ?_
 rintro r w4 ⟨rfl, hc⟩
 rw [e2]
 have C9 := Lib.hid (hHeld.trans hc)
 clear hc hHeld
 refine hK.out _ _ C9.out (fun hHeld => ?_)
 clear hK K; try simp only [Act.put, sA, s0, s1]
 refine sy 6 17 rfl rfl ?_; try simp only [Act.put, sA, s0, s1]
 refine sy 7 18 rfl rfl ?_; try simp only [Act.put, sA, s0, s1]
 refine sy 8 19 rfl rfl ?_; try simp only [Act.put, sA, s0, s1]
 refine sy 9 20 rfl rfl ?_; try simp only [Act.put, sA, s0, s1]
 refine sy 10 21 rfl rfl ?_; try simp only [Act.put, sA, s0, s1]
 refine sy 11 22 rfl rfl ?_; try simp only [Act.put, sA, s0, s1]
 refine sy 12 23 rfl rfl ?_; try simp only [Act.put, sA, s0, s1]
 refine sy 13 24 rfl rfl ?_; try simp only [Act.put, sA, s0, s1]
 refine sy 14 25 rfl rfl ?_; try simp only [Act.put, sA, s0, s1]
 refine sy 15 26 rfl rfl ?_; try simp only [Act.put, sA, s0, s1]
 refine sy 16 27 rfl rfl ?_ (hy := by (intro w hSw; (try dsimp only at hSw); have hq := H0.out _ hSw; go_simp; try with_reducible rfl))
 try simp only [Act.put, sA, s0, s1]
 refine sy 17 28 rfl rfl ?_; try simp only [Act.put, sA, s0, s1]
 refine sy 18 29 rfl rfl ?_ (hy := by (intro w hSw; (try dsimp only at hSw); have hq := HB.out _ hSw; obtain ⟨q0, q1, q2, q3, q4, q5, q6⟩ := hq; go_simp; try with_reducible rfl))
 try simp only [Act.put, sA, s0, s1]
 refine sy 19 30 rfl rfl ?_; try simp only [Act.put, sA, s0, s1]
 refine sy 20 31 rfl rfl ?_; try simp only [Act.put, sA, s0, s1]
 refine sy 21 32 rfl rfl ?_; try simp only [Act.put, sA, s0, s1]
 refine wpAnyH_done (by kernel_rfl) ?_ _; clear l0 l1 l2 l3 p1' p4' H0
 have PC := C9
 clear hHeld SCK ECK C9
 have FI := Lib.hid (shfind_any w4 (some ⟨g3, o3, none⟩) c xs y.n y.s (HA.out.chg PC.out (by simp)) (HX.out.up SOK.out.2.2.1) (by have := HN.out; omega))
 obtain ⟨y0, y1, y2, y3, y4, y5, y6⟩ := HB.out _ PC.out
 go_wp2_with fail; clear y0 y1 y2 y3 y4 y5 y6
 refine FI.out.mono ?_
 rintro r w5 ⟨i0, hi0, lo0, hh0, rfl, hc⟩
 have PC5 := Lib.hid (PC.out.trans hc)
 clear hc FI PC hi0 lo0 hh0
 rcases hin : inE xs y.n y.s with _ | _
 rotate_left
 ·
  have ST : Hid (stayE es f = true) := Lib.hid (by rw [stay_or, ← HY.out.n, ← HY.out.s, ← HX.out.inE, hin]; rfl)
  clear hin
  have PF := PC5
  have FE := Lib.hid (frevents_any w5 (some ⟨g3, o3, none⟩) c xs es (HA.out.chg PF.out (by simp)) (HX.out.chg PF.out) (by have := HN.out; omega) HQ.out)
  go_wp2_with fail
  refine FE.out.mono ?_
  rintro r w7 ⟨A7, c7, ys, rfl, hl, he, hc⟩
  have P7 := Lib.hid (And.intro he (C1.out.trans (PF.out.trans hc)))
  have LO : Hid (w.heap.size ≤ w5.heap.size) := Lib.hid (Nat.le_trans C1.out.size PF.out.size)
  clear hl he hc FE; go_wp2; go_ret2
  rw [YES.out, put_stays ST.out]
  exact ⟨A7, c7, ys, rfl, P7.out.1.low LO.out, P7.out.2⟩
 have IN := Lib.hid hin
 clear hin
 have AHD := Lib.hid (shahead_any w5 (some ⟨g3, o3, none⟩) c xs es y f (HA.out.chg PC5.out (by simp)) (HX.out.chg PC5.out) (by have := HN.out; omega) (HY.out.chg PC5.out) HS.out HT.out)
 obtain ⟨y0, y1, y2, y3, y4, y5, y6⟩ := HB.out _ PC5.out
 go_wp2_with fail; clear y0 y1 y2 y3 y4 y5 y6
 refine AHD.out.mono ?_
 rintro r w6 ⟨rfl, hc⟩
 have PC6 := Lib.hid (PC5.out.trans hc)
 clear hc AHD PC5
 rcases ha : es.any (fun e => aheadP f e) with _ | _
 rotate_left
 ·
  have ST : Hid (stayE es f = true) := Lib.hid (by rw [stay_or, ha, Bool.or_true])
  clear ha
  have PF := PC6
  have FE := Lib.hid (frevents_any w6 (some ⟨g3, o3, none⟩) c xs es (HA.out.chg PF.out (by simp)) (HX.out.chg PF.out) (by have := HN.out; omega) HQ.out)
  go_wp2_with fail
  refine FE.out.mono ?_
  rintro r w7 ⟨A7, c7, ys, rfl, hl, he, hc⟩
  have P7 := Lib.hid (And.intro he (C1.out.trans (PF.out.trans hc)))
  have LO : Hid (w.heap.size ≤ w6.heap.size) := Lib.hid (Nat.le_trans C1.out.size PF.out.size)
  clear hl he hc FE; go_wp2; go_ret2
  rw [YES.out, put_stays ST.out]
  exact ⟨A7, c7, ys, rfl, P7.out.1.low LO.out, P7.out.2⟩
 have NST : Hid (stayE es f = false) := Lib.hid (by rw [stay_or, ha, ← HY.out.n, ← HY.out.s, ← HX.out.inE, IN.out]; rfl)
 clear ha
 have WO := Lib.hid (shwithout_any w6 (some ⟨g3, o3, none⟩) c xs es y f (HA.out.chg PC6.out (by simp)) (HX.out.chg PC6.out) (by have := HN.out; omega) (HY.out.chg PC6.out) HS.out HT.out)
 obtain ⟨y0, y1, y2, y3, y4, y5, y6⟩ := HB.out _ PC6.out
 go_wp2_with fail; clear y0 y1 y2 y3 y4 y5 y6
 refine WO.out.mono ?_
 rintro r w7 ⟨A7, c7, ys, rfl, hl7, he7, ho7, hn7, hc⟩
 have C67 := Lib.hid hc
 have O7 := Lib.hid ho7
 have N7 : Hid (∀ a, A7 = some a → w6.heap.size ≤ a.block) := Lib.hid hn7
 have E7 := Lib.hid he7
 have L7 : Hid (ys.length ≤ 1000) := Lib.hid (by have := HN.out; omega)
 clear hc ho7 hn7 he7 hl7 WO
 have FI := Lib.hid (shfind_any w7 A7 c7 ys y.n y.s O7.out.reads (E7.out.up (keep_up SOK.out.2.2.1)) (by have := L7.out; omega))
 obtain ⟨y0, y1, y2, y3, y4, y5, y6⟩ := HB.out _ (PC6.out.trans C67.out)
 go_wp2_with fail; clear y0 y1 y2 y3 y4 y5 y6
 refine FI.out.mono ?_
 rintro r w8 ⟨i, hi, lo, hh, rfl, hc⟩
 have C68 := Lib.hid (C67.out.trans hc)
 have O8 := Lib.hid (O7.out.chg hc (by simp))
 have PI := Lib.hid (And.intro hi (put_ins E7.out (HY.out.chg PC6.out) NST.out hi lo hh))
 clear hc FI C67 O7 E7 hi lo hh
 obtain ⟨w9, hw9, c9, b9⟩ := news1 w8 (.cells #[.int .i64 y.n, .int .i64 y.s, .string y.p, .int .i64 y.k, .int .i64 y.m, .slice y.A y.l y.c, .slice y.B y.bl y.bc] 30)
 have W9 := Lib.hid hw9
 have INS := Lib.hid (insev_any w9 A7 c7 ys i w8.heap.size y (O8.out.chg c9 (by simp)) PI.out.1 (by have := L7.out; omega) b9 (fun a ha e => by
  have := O8.out.lt a ha
  omega))
 have C69 := Lib.hid (C68.out.trans c9)
 clear hw9 c9 b9 O8
 obtain ⟨y0, y1, y2, y3, y4, y5, y6⟩ := HB.out _ (PC6.out.trans C68.out)
 go_wp2_with (rw [← W9.out])
 clear y0 y1 y2 y3 y4 y5 y6
 refine INS.out.mono ?_
 rintro r wa ⟨Aa, ca, rfl, hoa, hna, hca⟩
 have ZL : Hid (ys.length + 1 = (ys.take i ++ y :: ys.drop i).length) := Lib.hid (by have := PI.out.1; simp; omega)
 have C6a := Lib.hid (hca w6 C69.out N7.out)
 have OA := Lib.hid hoa
 have PA := Lib.hid (PI.out.2.chg C6a.out)
 obtain ⟨zs, hzs⟩ : ∃ zs, zs = ys.take i ++ y :: ys.drop i := ⟨_, rfl⟩
 have LZ : Hid (zs.length ≤ 100000) := Lib.hid (by rw [hzs, ← ZL.out]; have := L7.out; omega)
 rw [← hzs] at ZL OA PA
 clear hoa hna hca hzs INS C69 C68 W9
 rw [ZL.out]
 have FE := Lib.hid (frevents_any wa Aa ca zs (putE es f) OA.out.reads PA.out LZ.out (fun e he => (put_mem he).elim (fun q => by rw [q]; exact ⟨HT.out.2.1, HTQ.out⟩) (HQ.out e)))
 go_wp2_with fail
 refine FE.out.mono ?_
 rintro r wb ⟨Ab, cb, us, rfl, hl, he, hc⟩
 have P7 := Lib.hid (And.intro he (C1.out.trans (PC6.out.trans (C6a.out.trans hc))))
 have LO : Hid (w.heap.size ≤ wa.heap.size) := Lib.hid (Nat.le_trans C1.out.size (Nat.le_trans PC6.out.size C6a.out.size))
 clear hl he hc FE; go_wp2; go_ret2
 rw [YES.out]
 exact ⟨Ab, cb, us, rfl, P7.out.1.low LO.out, P7.out.2⟩
end
section
open Go.RowKit Go.Lib


set_option maxRecDepth 100000 in
set_option maxHeartbeats 4000000 in
theorem stthose1_any (w : World) (gq gf : Nat) (lb : Array Value) (x : EvT) (v : Bool) (eg : ∀ args w, (callFunc gf args).run Tryz.prog w = .ok (.enter gf args) w) (hq : w.heap[gq]? = some (.cells #[.func (.func gf) #[] lb] 85 (0, 0))) (HF : ∀ w', Chg [] w w' → Calls Tryz.prog gf (#[.agg #[.int .i64 x.n, .int .i64 x.s, .string x.p, .int .i64 x.k, .int .i64 x.m, .slice x.A x.l x.c, .slice x.B x.bl x.bc]] ++ lb) w' fun r w2 => r = .returned (.bool v) ∧ Chg [] w' w2) :
  Calls Tryz.prog 123 #[.agg #[.int .i64 x.n, .int .i64 x.s, .string x.p, .int .i64 x.k, .int .i64 x.m, .slice x.A x.l x.c, .slice x.B x.bl x.bc], .pointer (some ⟨gq, 0, none⟩)] w fun r w' => r = .returned (.bool (!v)) ∧ Chg [] w w' := by
 obtain ⟨w1, hw1, c1, b1⟩ := news1 w (.cells #[.int .i64 x.n, .int .i64 x.s, .string x.p, .int .i64 x.k, .int .i64 x.m, .slice x.A x.l x.c, .slice x.B x.bl x.bc] 30)
 have W1 := Lib.hid hw1
 have C1 := Lib.hid c1
 have CC := Lib.hid (HF w1 c1)
 have p1 := c1.at_ hq (by simp)
 have z0 := cell_of b1 0
 have z1 := cell_of b1 1
 have z2 := cell_of b1 2
 have z3 := cell_of b1 3
 have z4 := cell_of b1 4
 have z5 := cell_of b1 5
 have z6 := cell_of b1 6
 have u0 := cell_of p1 0
 simp only [List.getElem?_toArray, List.getElem?_cons_succ, List.getElem?_cons_zero] at z0 z1 z2 z3 z4 z5 z6 u0
 clear hw1 c1 b1 hq p1 HF
 go_enter Tryz.func123, Tryz.ntmps123
 go_upto_region 1 with fail
 rw [← W1.out]
 generalize w.heap.size = g1 at *
 clear W1; go_wp2_with fail; clear z0 z1 z2 z3 z4 z5 z6 u0
 refine CC.out.mono ?_
 rintro r w2 ⟨rfl, hc⟩
 replace C1 := Lib.hid (C1.out.trans hc)
 clear hc CC; go_wp2; go_ret
 exact ⟨rfl, C1.out⟩

set_option maxRecDepth 100000 in
set_option maxHeartbeats 4000000 in
theorem stthose_any (w : World) (A : Option Addr) (c : Nat) (xs : List EvT) (es : List EvP) (gf : Nat) (lb : Array Value) (q : EvP → Bool) (h : RdK evTy w A xs.length xs) (hx : EvsR w xs es) (hn : xs.length ≤ 100000) (hs : ∀ e ∈ es, e.b.length ≤ 140737488351232 ∧ e.q.length ≤ 100000) (eg : ∀ args w, (callFunc gf args).run Tryz.prog w = .ok (.enter gf args) w)
  (HF : ∀ (w' : World), Chg [] w w' → ∀ (i : Nat) (x : EvT) (e : EvP), xs[i]? = some x → es[i]? = some e → Calls Tryz.prog gf (#[.agg #[.int .i64 x.n, .int .i64 x.s, .string x.p, .int .i64 x.k, .int .i64 x.m, .slice x.A x.l x.c, .slice x.B x.bl x.bc]] ++ lb) w' fun r w2 => r = .returned (.bool (q e)) ∧ Chg [] w' w2) :
  Calls Tryz.prog 60 #[.slice A xs.length c, .func (.func gf) #[] lb] w fun r w' => ∃ (A' : Option Addr) (c' : Nat) (zs : List EvT), r = .returned (.slice A' zs.length c') ∧ zs.length ≤ xs.length ∧ EsF w' w.heap.size w'.heap.size A' c' zs (es.filter q) ∧ Chg [] w w' := by
 obtain ⟨w1, hw1, c1, b1⟩ := news1 w (.cells #[.func (.func gf) #[] lb] 85)
 have W1 := Lib.hid hw1
 have C1 := Lib.hid c1
 have HC := Lib.hid (cloneEv_any w1 A xs.length c xs (h.chg c1 (by simp)) (by omega))
 have DEL := Lib.hid (fun (w3 : World) (A3 : Option Addr) (c3 : Nat) (h0 : Chg [] w1 w3) (ho : OwnK evTy w3 A3 c3 xs) (hA : ∀ a, A3 = some a → w1.heap.size ≤ a.block) => evfdel_any w w1 w3 A3 c3 xs es 123 #[.pointer (some ⟨w.heap.size, 0, none⟩)] (fun e => !q e) (enters_of Tryz.func123 (by kernel_rfl) rfl) c1 h0 ho hA hx hn (fun wr hc i x e ex ee => stthose1_any wr w.heap.size gf lb x (q e) eg (hc.at_ b1 (by simp)) (fun w' hc' => HF w' (c1.trans (hc.trans hc')) i x e ex ee)))
 have HX := Lib.hid hx
 have HN := Lib.hid hn
 have HS := Lib.hid hs
 have SZ := Lib.hid c1.size
 have FQ : Hid (es.filter (fun e => !(!q e)) = es.filter q) := Lib.hid (by simp only [Bool.not_not])
 clear hw1 c1 b1 h hx hn hs HF
 go_enter Tryz.func60, Tryz.ntmps60
 go_upto_region 1 with fail
 rw [← W1.out]
 obtain ⟨g0, hg0⟩ : ∃ g, w.heap.size = g := ⟨_, rfl⟩
 rw [hg0] at DEL ⊢
 clear W1; go_wp2_with fail
 refine HC.out.mono ?_
 rintro r w3 ⟨A3, c3, rfl, ho, hA, hc⟩
 have D := Lib.hid (DEL.out w3 A3 c3 hc ho hA)
 clear ho hA hc HC DEL; go_wp2_with fail
 refine D.out.mono ?_
 rintro r w4 ⟨ys, rfl, hl, he, ho, hc⟩
 rw [FQ.out] at he
 have C4 := Lib.hid (C1.out.trans hc)
 have L4 := Lib.hid hl
 have FR := Lib.hid (frevents_any w4 A3 c3 ys (es.filter q) ho.reads (he.chg C4.out) (by have := HN.out; omega) (fun e he => HS.out e (List.mem_filter.1 he).1))
 clear D hl he ho hc FQ; go_wp2_with fail
 refine FR.out.mono ?_
 rintro r w5 ⟨A5, c5, zs, rfl, hl, he, hc⟩
 have P := Lib.hid (And.intro (show zs.length ≤ xs.length by have := L4.out; omega) (And.intro (he.low C4.out.size) (C4.out.trans hc)))
 clear hl he hc FR; go_wp2; go_ret
 rw [← hg0]
 exact ⟨A5, c5, zs, rfl, P.out.1, P.out.2.1, P.out.2.2⟩
end
section
open Go.RowKit Go.Lib

set_option maxRecDepth 100000 in
set_option maxHeartbeats 4000000 in
theorem stshelf1_any (w : World) (gp : Nat) (p : List UInt8) (x : EvT) (e : EvP) (hp : w.heap[gp]? = some (.cells #[.string (strOf p)] 9 (0, 0))) (hx : x.p = strOf e.p) :
  Calls Tryz.prog 61 #[.agg #[.int .i64 x.n, .int .i64 x.s, .string x.p, .int .i64 x.k, .int .i64 x.m, .slice x.A x.l x.c, .slice x.B x.bl x.bc], .pointer (some ⟨gp, 0, none⟩)] w fun r w' => r = .returned (.bool (decide (e.p = p))) ∧ Chg [] w w' := by
 obtain ⟨w1, hw1, c1, b1⟩ := news1 w (.cells #[.int .i64 x.n, .int .i64 x.s, .string x.p, .int .i64 x.k, .int .i64 x.m, .slice x.A x.l x.c, .slice x.B x.bl x.bc] 30)
 have W1 := Lib.hid hw1
 have C1 := Lib.hid c1
 have p1 := c1.at_ hp (by simp)
 have z2 := cell_of b1 2
 have u0 := cell_of p1 0
 simp only [List.getElem?_toArray, List.getElem?_cons_succ, List.getElem?_cons_zero] at z2 u0
 rw [hx] at z2
 have HX := Lib.hid hx
 by_cases q : e.p = p
 ·
  have e2 : decide (e.p = p) = true := decide_eq_true q
  rw [e2]
  clear hw1 c1 b1 hp p1 hx e2
  go_enter Tryz.func61, Tryz.ntmps61
  go_upto_region 1 with fail
  rw [← W1.out]
  generalize w.heap.size = g1 at *
  clear W1; go_wp2; go_ret
  exact ⟨by first | rfl | simp [q] | simpa using q, C1.out⟩
 ·
  have e1 := strOf_ne q
  have e3 := strOf_ne2 q
  have e2 : decide (e.p = p) = false := decide_eq_false q
  rw [e2]
  clear hw1 c1 b1 hp p1 hx e2
  go_enter Tryz.func61, Tryz.ntmps61
  go_upto_region 1 with fail
  rw [← W1.out]
  generalize w.heap.size = g1 at *
  clear W1; go_wp2; go_ret
  exact ⟨by first | rfl | simp [q] | simpa using q, C1.out⟩
set_option maxRecDepth 100000 in
set_option maxHeartbeats 4000000 in
theorem stnear1_any (w : World) (gp : Nat) (p : List UInt8) (x : EvT) (e : EvP) (hp : w.heap[gp]? = some (.cells #[.string (strOf p)] 9 (0, 0))) (hx : x.p = strOf e.p) (hl : e.p.length ≤ 140737488351232 ∧ p.length ≤ 140737488351232) :
  Calls Tryz.prog 62 #[.agg #[.int .i64 x.n, .int .i64 x.s, .string x.p, .int .i64 x.k, .int .i64 x.m, .slice x.A x.l x.c, .slice x.B x.bl x.bc], .pointer (some ⟨gp, 0, none⟩)] w fun r w' => r = .returned (.bool (nearL e.p p)) ∧ Chg [] w w' := by
 obtain ⟨w1, hw1, c1, b1⟩ := news1 w (.cells #[.int .i64 x.n, .int .i64 x.s, .string x.p, .int .i64 x.k, .int .i64 x.m, .slice x.A x.l x.c, .slice x.B x.bl x.bc] 30)
 have W1 := Lib.hid hw1
 have C1 := Lib.hid c1
 have CC := Lib.hid (phnear_any w1 e.p p hl.1 hl.2)
 have p1 := c1.at_ hp (by simp)
 have z2 := cell_of b1 2
 have u0 := cell_of p1 0
 simp only [List.getElem?_toArray, List.getElem?_cons_succ, List.getElem?_cons_zero] at z2 u0
 rw [hx] at z2
 have HX := Lib.hid hx
 clear hw1 c1 b1 hp p1 hx hl
 go_enter Tryz.func62, Tryz.ntmps62
 go_upto_region 1 with fail
 rw [← W1.out]
 generalize w.heap.size = g1 at *
 clear W1; go_wp2_with fail; clear z2 u0
 refine CC.out.mono ?_
 rintro r w2 ⟨rfl, hc⟩
 have C2 := Lib.hid (C1.out.trans (below_chg8 hc))
 clear hc CC; go_wp2; go_ret
 exact ⟨rfl, C2.out⟩
end
section
open Go.RowKit Go.Lib


set_option maxRecDepth 100000 in
set_option maxHeartbeats 8000000 in
theorem ktshelf_any (w : World) (A : Option Addr) (c : Nat) (xs : List EvT) (es : List EvP) (p : List UInt8) (h : RdK evTy w A xs.length xs) (hx : EvsR w xs es) (hn : xs.length ≤ 1000)  (hs : ∀ e ∈ es, EvSm e ∧ e.q.length ≤ 100000) :
  Calls Tryz.prog 24 #[.slice A xs.length c, .string (strOf p)] w fun r w' => ∃ (A' : Option Addr) (c' : Nat) (zs : List EvT), r = .returned (.slice A' zs.length c') ∧ RdK evTy w' A' zs.length zs ∧ EvsR w' zs (es.filter (fun e => decide (e.p = p))) ∧ Chg [] w w' := by
 have HA := Lib.hid h
 have HX := Lib.hid hx
 have HN := Lib.hid hn
 have HS := Lib.hid hs
 skip; clear h hx hn hs
 go_enter Tryz.func24, Tryz.ntmps24
 go_wp2
 go_loopw [5, 6] (fun o i wq => ∃ (k : Nat) (A2 : Option Addr) (d2 : Nat) (us : List EvT), k ≤ xs.length ∧ us.length ≤ k ∧ i = .int .i64 k ∧ o = .slice A2 us.length d2 ∧ Hid (OwnK evTy wq A2 d2 us) ∧ Hid (EvsR w us ((es.take k).filter (fun e => decide (e.p = p)))) ∧ Hid (∀ a, A2 = some a → w.heap.size ≤ a.block) ∧ Hid (Chg [] w wq)) (fun _ i _ => xs.length - (RowKit.intOf i).toNat)
 case atStart => exact ⟨0, none, 0, [], Nat.zero_le _, Nat.le_refl _, rfl, rfl, OwnK.none_ _, Lib.hid (by simpa using EvsR.nil _), Lib.hid (by simp), Chg.refl _ _⟩
 case round =>
  obtain ⟨k, A2, d2, us, hk, hyl, rfl, rfl, RO, RU, RN, RC⟩ := hrel
  have j0 : (0 : Int) ≤ (k : Int) := by omega
  by_cases hlt : k < xs.length
  ·
   have j1 : (k : Int) < (xs.length : Int) := by omega
   have j3 : IntKind.i64.wrap ((k : Int) + 1) = (k : Int) + 1 := IntWalk.i64_in _ (by have := HN.out; omega)
   obtain ⟨g3, o3, eA, _⟩ := HA.out.line (by omega)
   subst eA
   obtain ⟨x, e, ex, ee, rx⟩ := HX.out.at_ hlt
   have RX := Lib.hid rx
   have EX := Lib.hid ex
   have SE : Hid (EvSm e ∧ e.q.length ≤ 100000) := Lib.hid (HS.out e (List.mem_of_getElem? ee))
   have ET : Hid ((es.take (k + 1)).filter (fun e => decide (e.p = p)) = (es.take k).filter (fun e => decide (e.p = p)) ++ [e].filter (fun e => decide (e.p = p))) := Lib.hid (by rw [List.take_add_one, ee, List.filter_append]; rfl)
   have YL := Lib.hid hyl
   obtain ⟨z0, z1, z2, z3, z4, z5, z6⟩ := evCells (HA.out.chg RC.out (by simp)) ex
   clear ex ee rx hyl
   rcases hq : (decide (e.p = p)) with _ | _
   ·
    have EN : Hid ((es.take (k + 1)).filter (fun e => decide (e.p = p)) = (es.take k).filter (fun e => decide (e.p = p))) := Lib.hid (by rw [ET.out, List.filter_cons_of_neg (p := fun e => decide (e.p = p)) (a := e) (l := []) (by show ¬ (decide (e.p = p)) = true; rw [hq]; decide)]; simp)
    clear ET
    have hd : ¬ e.p = p := of_decide_eq_false hq
    have e1 := strOf_ne hd
    have e3 := strOf_ne2 hd
    have e4 : (e.p == p) = false := beq_eq_false_iff_ne.2 hd
    rw [RX.out.p] at z2
    clear hq
    go_upto_region 4 with fail
    clear e1 e3 e4 hd; clear z0 z1 z2 z3 z4 z5 z6; go_wp2; go_round
    case rel => exact ⟨k + 1, A2, d2, us, by omega, by have := YL.out; omega, by go_num, by first | rfl | simp, RO, Lib.hid (by rw [EN.out]; exact RU.out), RN, RC⟩
    case measure => simp [RowKit.intOf]; omega
   ·
    have EN : Hid ((es.take (k + 1)).filter (fun e => decide (e.p = p)) = (es.take k).filter (fun e => decide (e.p = p)) ++ [e]) := Lib.hid (by rw [ET.out, List.filter_cons_of_pos (p := fun e => decide (e.p = p)) (a := e) (l := []) hq]; rfl)
    clear ET
    have hd : e.p = p := of_decide_eq_true hq
    have e4 : (e.p == p) = true := by rw [hd]; exact beq_self_eq_true _
    have e5 : ((strOf e.p == strOf p) : Bool) = true := by rw [hd]; show ((p.toArray == p.toArray) : Bool) = true; simp
    rw [RX.out.p] at z2
    clear hq
    go_upto_region 6 with fail
    clear e4 e5 hd; clear z0 z1 z2 z3 z4 z5 z6
    obtain ⟨z0, z1, z2, z3, z4, z5, z6⟩ := evCells (HA.out.chg RC.out (by simp)) EX.out
    obtain ⟨v1, hw, cn, bn⟩ := news1 wr (.cells #[.int .i64 x.n, .int .i64 x.s, .string x.p, .int .i64 x.k, .int .i64 x.m, .slice x.A x.l x.c, .slice x.B x.bl x.bc] 30)
    have WN := Lib.hid hw
    have XR := Lib.hid (rd_oneEc bn)
    replace RO := Lib.hid (RO.out.chg cn (by simp))
    replace RC := Lib.hid (RC.out.trans cn)
    have N4 : Hid ((us.length + 1) * 400 ≤ 140737488355327) := Lib.hid (by have := YL.out; have := HN.out; omega)
    clear hw cn bn
    go_wp2_with (at_builtin; rw [← WN.out]; refine wpList_appK (R := evTy) rfl (.tmp 20) (.tmp 25) rfl rfl (A := A2) (n := us.length) (m := 1) (c := d2) (d := 1) (xs := us) (ys := [x]) RO.out rfl rfl XR.out N4.out ?_; intro A9 c9 w9 o9 g9 e9)
    clear z0 z1 z2 z3 z4 z5 z6 WN XR N4
    have O9 := Lib.hid o9
    have F9 := Lib.hid (fresh_appE RN.out RC.out g9 e9)
    clear o9 g9 e9; go_wp2; go_round
    case rel => exact ⟨k + 1, A9, c9, us ++ [x], by omega, by have := YL.out; simp; omega, by go_num, by first | rfl | simp, O9, Lib.hid (by rw [EN.out]; exact RU.out.snoc RX.out), Lib.hid F9.out.1, Lib.hid F9.out.2⟩
    case measure => simp [RowKit.intOf]; omega
  ·
   obtain rfl : k = xs.length := by omega
   have j1 : ¬ (xs.length : Int) < (xs.length : Int) := by omega
   have EF : es.take xs.length = es := by rw [HX.out.1, List.take_length]
   rw [EF] at RU
   have YL := Lib.hid hyl
   clear EF hyl
   have OW := Lib.hid (ktown_any wr A2 d2 us _ RO.out.reads (RU.out.chg RC.out) (by have := YL.out; have := HN.out; omega) (fun e he => ⟨(HS.out e (List.mem_filter.1 he).1).1.2.1, (HS.out e (List.mem_filter.1 he).1).2⟩))
   go_wp2_with fail
   refine OW.out.mono ?_
   rintro r w5 ⟨A5, c5, zs, rfl, hr, he, hc⟩
   have P5 := Lib.hid (And.intro hr (And.intro he (RC.out.trans hc)))
   clear hr he hc OW; go_wp2; go_ret
   exact ⟨A5, c5, zs, rfl, P5.out.1, P5.out.2.1, P5.out.2.2⟩
end
end Go.Proofs.YtomgjogkkoigbaaGreatDoor
