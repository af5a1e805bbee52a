/- PastDots. -/
import Derived.Test.YtgafkphhnlifiaaPgf
import Derived.Test.YtgafkphhnlifiaaQgc
import Derived.Test.YtgafkphhnlifiaaPgg
import Derived.Test.YtgafkphhnlifiaaPgl
namespace Go.Proofs.Ytgafkphhnlifiaa
section
open Go.RowKit Go.Lib
set_option linter.unusedSimpArgs false
set_option linter.unusedVariables false


theorem boundP_len (l : List Sp) : (boundP l).2.length ≤ 4000 := by
  unfold boundP
  split
  · simp
  · simp only; omega
theorem joinE_len (a b : List Sp) : (joinE a b).2.length ≤ 4000 := by
  unfold joinE
  split
  · exact boundP_len _
  · simp
set_option maxHeartbeats 8000000 in
set_option maxRecDepth 100000 in
theorem pdotslaw_yes (w : World) (A : Option Addr) (m c : Nat) (xs : List Sp) (h : RdK spanTy w A m xs) (hn : m * 24 ≤ 140737488351232) (n s : Int) :
    Calls Try.prog 4 #[.slice A m c, .agg #[.int .i64 n, .int .i64 s]] w fun e w' => e = .returned (.bool true) ∧ Chg [] w w' := by

  have hl := h.len
  subst hl
  have HA := Lib.hid h
  have C := Lib.hid (Chg.refl [] w)
  obtain ⟨w0, hw0, c0, b0⟩ := news1 w (.cells #[.int .i64 n, .int .i64 s] 37)
  have W0 := Lib.hid hw0
  replace C := Lib.hid (C.out.trans c0)
  have B0 := Lib.hid b0
  have HN := Lib.hid hn
  clear hw0 c0 b0 h hn
  go_enter Try.func4, Try.ntmps4
  go_upto_region 1 with fail
  rw [← W0.out]
  generalize w.heap.size = g0 at *
  by_cases hbig : 200 < xs.length
  · go_wp2_with fail
    refine (palong_any _ A _ c).mono ?_
    rintro e w1 ⟨rfl, hc⟩
    rw [decide_eq_true hbig]
    have C := Lib.hid (C.out.trans hc)
    clear hc
    go_wp2_with fail
    refine (l7awake_run _).mono ?_
    rintro e w2 ⟨rfl, hc⟩
    have C := Lib.hid (C.out.trans hc)
    clear hc
    go_wp2
    go_ret
    exact ⟨rfl, C.out⟩
  go_wp2_with fail
  refine (palong_any _ A _ c).mono ?_
  rintro e w1 ⟨rfl, hc⟩
  rw [decide_eq_false hbig]
  replace C := Lib.hid (C.out.trans hc)
  replace B0 := Lib.hid (hc.at_ B0.out (by simp))
  have HS : Hid (xs.length ≤ 200) := Lib.hid (by omega)
  clear hc hbig
  go_wp2_with fail
  refine (copyspan_any _ A _ c xs (HA.out.chg C.out (by simp)) (by have := HS.out; omega)).mono ?_
  rintro e w2 ⟨A0, c0, rfl, hO, hN, hc⟩
  replace C := Lib.hid (C.out.trans hc)
  replace B0 := Lib.hid (hc.at_ B0.out (by simp))
  have HI := Lib.hid hO
  have LI := Lib.hid HI.out.lt_
  have C2 := C
  clear hO hN hc
  have z0 := cell_of B0.out 0
  have z1 := cell_of B0.out 1
  simp only [List.getElem?_toArray, List.getElem?_cons_succ, List.getElem?_cons_zero] at z0 z1
  go_wp2_with fail
  clear z0 z1
  refine (add_any _ A0 c0 xs n s HI.out.reads HI.out.cap HI.out.lt_ (by have := HS.out; omega)).mono ?_
  rintro e w3 ⟨A3, c3, rfl, hO, hN, hc⟩
  replace C := Lib.hid (C.out.trans hc)
  replace B0 := Lib.hid (hc.at_ B0.out (by simp))
  replace HI := Lib.hid (HI.out.chg hc (by simp))
  have F3 := Lib.hid hO
  have N3 := Lib.hid hN
  clear hO hN hc
  have z0 := cell_of B0.out 0
  have z1 := cell_of B0.out 1
  simp only [List.getElem?_toArray, List.getElem?_cons_succ, List.getElem?_cons_zero] at z0 z1
  go_wp2_with fail
  clear z0 z1
  refine (qadd_any _ A c xs n s (HA.out.chg C.out (by simp)) (by have := HS.out; omega)).mono ?_
  rintro e w4 ⟨A4, c4, rfl, hO, hN, hc⟩
  replace C := Lib.hid (C.out.trans hc)
  replace B0 := Lib.hid (hc.at_ B0.out (by simp))
  replace HI := Lib.hid (HI.out.chg hc (by simp))
  replace F3 := Lib.hid (F3.out.chg hc (by simp))
  have F4 := Lib.hid hO
  have JL : Hid ((joinE xs [(n, s, s)]).2.length ≤ 4000) := Lib.hid (joinE_len _ _)
  clear hO hN hc
  generalize (joinE xs [(n, s, s)]).2 = X at *
  generalize (joinE xs [(n, s, s)]).1 = er at *
  go_upto_region 6 with fail
  have z0 := cell_of B0.out 0
  have z1 := cell_of B0.out 1
  simp only [List.getElem?_toArray, List.getElem?_cons_succ, List.getElem?_cons_zero] at z0 z1
  refine wp_region_held_drew (S := fun w' => w'.cell? ⟨g0, 0, none⟩ = some (.int .i64 n) ∧ w'.cell? ⟨g0, 1, none⟩ = some (.int .i64 s)) (by kernel_rfl) ⟨z0, z1⟩ (fun hHeld => ?_)
  have CD := Lib.hid (Chg.refl [] w4).drew
  replace C := Lib.hid (C.out.trans CD.out)
  replace B0 := Lib.hid (CD.out.at_ B0.out (by simp))
  replace HI := Lib.hid (HI.out.chg CD.out (by simp))
  replace F3 := Lib.hid (F3.out.chg CD.out (by simp))
  replace F4 := Lib.hid (F4.out.chg CD.out (by simp))
  clear CD z0 z1 hHeld
  generalize w4.drew = wd at *
  have DX : Hid (∀ w', Chg [] wd w' → w'.cell? ⟨g0, 0, none⟩ = some (.int .i64 n) ∧ w'.cell? ⟨g0, 1, none⟩ = some (.int .i64 s)) := Lib.hid (fun w' hc => by
    have b := hc.at_ B0.out (by simp)
    exact ⟨cell_of b 0, cell_of b 1⟩)
  have RA : Hid (∀ w', Chg [] wd w' → RdK spanTy w' A xs.length xs) := Lib.hid (fun w' hc => HA.out.chg (C.out.trans hc) (by simp))
  have RI : Hid (∀ w', Chg [] wd w' → RdK spanTy w' A0 xs.length xs) := Lib.hid (fun w' hc => HI.out.reads.chg hc (by simp))
  obtain ⟨wc, hwc⟩ : ∃ wc, wd = wc := ⟨_, rfl⟩
  have CC : Hid (Chg [] wd wc) := Lib.hid (hwc ▸ Chg.refl [] wd)
  rw [hwc]
  clear hwc
  obtain ⟨cv, hcv⟩ : ∃ v : Int, (if chkS xs = 0 then cntL xs else 0) = v := ⟨_, rfl⟩
  obtain ⟨lv, hlv⟩ : ∃ v : Int, (if chkS xs = 0 then lastL n xs else 0) = v := ⟨_, rfl⟩
  have CV := Lib.hid hcv
  have LV := Lib.hid hlv
  clear hcv hlv
  have HS2 : Hid (xs.length ≤ 140737488351232) := Lib.hid (by have := HS.out; omega)
  refine sy 0 28 rfl rfl ?_ (hS := (DX.out _ CC.out))
  try simp only [Act.put, sA, s0, s1]
  refine sy 1 29 rfl rfl ?_ (hS := (DX.out _ CC.out))
  try simp only [Act.put, sA, s0, s1]
  refine wpAnyH_ready (rs := [2]) (by kernel_rfl) (by simp) ?_
  refine AllReadyH.cons rfl (fun K hK => ?_) AllReadyH.nil
  replace hK := Lib.hid hK
  go_simp
  refine (samespan_any _ A3 A4 _ _ c3 c4 X X (F3.out.reads.chg CC.out (by simp)) (F4.out.reads.chg CC.out (by simp)) (by have := JL.out; omega) (by have := JL.out; omega)).mono ?_
  rintro e wc ⟨rfl, hc⟩
  replace CC := Lib.hid (CC.out.trans hc)
  clear hc
  rw [show (X == X) = true by simp]
  refine hK.out _ _ (DX.out _ CC.out) (fun hHeld => ?_)
  clear hK K
  try simp only [Act.put, sA, s0, s1]
  refine sy 3 31 rfl rfl ?_ (hS := (DX.out _ CC.out))
  try simp only [Act.put, sA, s0, s1]
  refine sy 4 32 rfl rfl ?_ (hS := (DX.out _ CC.out))
  try simp only [Act.put, sA, s0, s1]
  refine sy 5 33 rfl rfl ?_ (hS := (DX.out _ CC.out))
  try simp only [Act.put, sA, s0, s1]
  refine sy 6 34 rfl rfl ?_ (hS := (DX.out _ CC.out))
  try simp only [Act.put, sA, s0, s1]
  refine sy 7 35 rfl rfl ?_ (hS := (DX.out _ CC.out))
  try simp only [Act.put, sA, s0, s1]
  refine sy 8 36 rfl rfl ?_ (hS := (DX.out _ CC.out))
  try simp only [Act.put, sA, s0, s1]
  refine sy 9 37 rfl rfl ?_ (hS := (DX.out _ CC.out))
  try simp only [Act.put, sA, s0, s1]
  refine sy 10 38 rfl rfl ?_ (hS := (DX.out _ CC.out)) (hy := by (intro w hSw; (try dsimp only at hSw); obtain ⟨q0, q1⟩ := hSw; go_simp; try with_reducible rfl))
  try simp only [Act.put, sA, s0, s1]
  refine sy 12 40 rfl rfl ?_ (hS := (DX.out _ CC.out))
  try simp only [Act.put, sA, s0, s1]
  refine sy 13 41 rfl rfl ?_ (hS := (DX.out _ CC.out)) (hy := by (intro w hSw; (try dsimp only at hSw); obtain ⟨q0, q1⟩ := hSw; go_simp; try with_reducible rfl))
  try simp only [Act.put, sA, s0, s1]
  refine wpAnyH_ready (rs := [11]) (by kernel_rfl) (by simp) ?_
  refine AllReadyH.cons rfl (fun K hK => ?_) AllReadyH.nil
  replace hK := Lib.hid hK
  go_simp
  refine (has_any _ A0 c0 xs n s (RI.out _ CC.out) HS2.out).mono ?_
  rintro e wc ⟨rfl, hc⟩
  replace CC := Lib.hid (CC.out.trans hc)
  clear hc
  skip
  refine hK.out _ _ (DX.out _ CC.out) (fun hHeld => ?_)
  clear hK K
  try simp only [Act.put, sA, s0, s1]
  refine wpAnyH_ready (rs := [14]) (by kernel_rfl) (by simp) ?_
  refine AllReadyH.cons rfl (fun K hK => ?_) AllReadyH.nil
  replace hK := Lib.hid hK
  go_simp
  refine (qhas_any _ A c xs n s (RA.out _ CC.out) HS2.out).mono ?_
  rintro e wc ⟨rfl, hc⟩
  replace CC := Lib.hid (CC.out.trans hc)
  clear hc
  refine hK.out _ _ (DX.out _ CC.out) (fun hHeld => ?_)
  clear hK K
  try simp only [Act.put, sA, s0, s1]
  refine sy 15 43 rfl rfl ?_ (hS := (DX.out _ CC.out))
  try simp only [Act.put, sA, s0, s1]
  refine sy 16 44 rfl rfl ?_ (hS := (DX.out _ CC.out))
  try simp only [Act.put, sA, s0, s1]
  refine sy 17 45 rfl rfl ?_ (hS := (DX.out _ CC.out))
  try simp only [Act.put, sA, s0, s1]
  refine sy 18 46 rfl rfl ?_ (hS := (DX.out _ CC.out))
  try simp only [Act.put, sA, s0, s1]
  refine sy 20 48 rfl rfl ?_ (hS := (DX.out _ CC.out))
  try simp only [Act.put, sA, s0, s1]
  refine wpAnyH_ready (rs := [19]) (by kernel_rfl) (by simp) ?_
  refine AllReadyH.cons rfl (fun K hK => ?_) AllReadyH.nil
  replace hK := Lib.hid hK
  go_simp
  refine (count_any _ A0 c0 xs (RI.out _ CC.out) HS2.out).mono ?_
  rintro e wc ⟨rfl, hc⟩
  replace CC := Lib.hid (CC.out.trans hc)
  clear hc
  rw [CV.out]
  refine hK.out _ _ (DX.out _ CC.out) (fun hHeld => ?_)
  clear hK K
  try simp only [Act.put, sA, s0, s1]
  refine wpAnyH_ready (rs := [21]) (by kernel_rfl) (by simp) ?_
  refine AllReadyH.cons rfl (fun K hK => ?_) AllReadyH.nil
  replace hK := Lib.hid hK
  go_simp
  refine (qcount_any _ A c xs (RA.out _ CC.out) HS2.out).mono ?_
  rintro e wc ⟨rfl, hc⟩
  replace CC := Lib.hid (CC.out.trans hc)
  clear hc
  rw [CV.out]
  refine hK.out _ _ (DX.out _ CC.out) (fun hHeld => ?_)
  clear hK K
  try simp only [Act.put, sA, s0, s1]
  refine sy 22 50 rfl rfl ?_ (hS := (DX.out _ CC.out))
  try simp only [Act.put, sA, s0, s1]
  refine sy 23 51 rfl rfl ?_ (hS := (DX.out _ CC.out))
  try simp only [Act.put, sA, s0, s1]
  refine sy 24 52 rfl rfl ?_ (hS := (DX.out _ CC.out))
  try simp only [Act.put, sA, s0, s1]
  refine sy 25 53 rfl rfl ?_ (hS := (DX.out _ CC.out))
  try simp only [Act.put, sA, s0, s1]
  refine sy 26 54 rfl rfl ?_ (hS := (DX.out _ CC.out))
  try simp only [Act.put, sA, s0, s1]
  refine sy 27 55 rfl rfl ?_ (hS := (DX.out _ CC.out)) (hy := by (intro w hSw; (try dsimp only at hSw); obtain ⟨q0, q1⟩ := hSw; go_simp; try with_reducible rfl))
  try simp only [Act.put, sA, s0, s1]
  refine sy 29 57 rfl rfl ?_ (hS := (DX.out _ CC.out))
  try simp only [Act.put, sA, s0, s1]
  refine sy 30 58 rfl rfl ?_ (hS := (DX.out _ CC.out))
  try simp only [Act.put, sA, s0, s1]
  refine sy 31 59 rfl rfl ?_ (hS := (DX.out _ CC.out)) (hy := by (intro w hSw; (try dsimp only at hSw); obtain ⟨q0, q1⟩ := hSw; go_simp; try with_reducible rfl))
  try simp only [Act.put, sA, s0, s1]
  refine wpAnyH_ready (rs := [28]) (by kernel_rfl) (by simp) ?_
  refine AllReadyH.cons rfl (fun K hK => ?_) AllReadyH.nil
  replace hK := Lib.hid hK
  go_simp
  refine (last_any _ A0 c0 xs n (RI.out _ CC.out) HS2.out).mono ?_
  rintro e wc ⟨rfl, hc⟩
  replace CC := Lib.hid (CC.out.trans hc)
  clear hc
  rw [LV.out]
  refine hK.out _ _ (DX.out _ CC.out) (fun hHeld => ?_)
  clear hK K
  try simp only [Act.put, sA, s0, s1]
  refine wpAnyH_ready (rs := [32]) (by kernel_rfl) (by simp) ?_
  refine AllReadyH.cons rfl (fun K hK => ?_) AllReadyH.nil
  replace hK := Lib.hid hK
  go_simp
  refine (qlast_any _ A c xs n (RA.out _ CC.out) HS2.out).mono ?_
  rintro e wc ⟨rfl, hc⟩
  replace CC := Lib.hid (CC.out.trans hc)
  clear hc
  rw [LV.out]
  refine hK.out _ _ (DX.out _ CC.out) (fun hHeld => ?_)
  clear hK K
  try simp only [Act.put, sA, s0, s1]
  refine sy 33 61 rfl rfl ?_ (hS := (DX.out _ CC.out))
  try simp only [Act.put, sA, s0, s1]
  refine sy 34 62 rfl rfl ?_ (hS := (DX.out _ CC.out))
  try simp only [Act.put, sA, s0, s1]
  refine sy 35 10 rfl rfl ?_ (hS := (DX.out _ CC.out))
  try simp only [Act.put, sA, s0, s1]
  refine wpAnyH_done (by kernel_rfl) ?_ _
  clear hHeld
  replace C := Lib.hid (C.out.trans CC.out)
  replace HI := Lib.hid (HI.out.chg CC.out (by simp))
  replace F3 := Lib.hid (F3.out.chg CC.out (by simp))
  clear DX RA RI F4
  go_wp2_with fail
  refine (overspan_own _ A3 _ c3 _ F3.out rfl).mono ?_
  rintro e v4 ⟨rfl, h9⟩
  obtain ⟨S, hS, h9⟩ := over_only h9
  have hS2 : ∀ i ∈ S, w2.heap.size ≤ i := fun i hi => by obtain ⟨a, ha, e⟩ := hS i hi; rw [← e]; exact N3.out a ha
  replace C := Lib.hid (C.out.over C2.out hS2 h9)
  replace HI := Lib.hid (HI.out.chg h9 (fun a ha hin => absurd (hS2 _ hin) (Nat.not_le.2 (LI.out a ha))))
  clear h9 hS hS2 F3 N3
  go_wp2_with fail
  refine (samespan_any _ A0 A _ _ c0 c xs xs HI.out.reads (HA.out.chg C.out (by simp)) HS2.out HS2.out).mono ?_
  rintro e v5 ⟨rfl, hc⟩
  rw [show (xs == xs) = true by simp]
  replace C := Lib.hid (C.out.trans hc)
  clear hc
  go_wp2_with fail
  refine (l7awake_run _).mono ?_
  rintro e v7 ⟨rfl, hc⟩
  replace C := Lib.hid (C.out.trans hc)
  clear hc
  go_wp2
  go_ret
  exact ⟨rfl, C.out⟩
end
end Go.Proofs.Ytgafkphhnlifiaa
