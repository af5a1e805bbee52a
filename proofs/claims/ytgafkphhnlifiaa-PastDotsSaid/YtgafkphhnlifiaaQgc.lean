/- The document's Add. -/
import Derived.Test.YtgafkphhnlifiaaQgb
import Derived.Test.YtgafkphhnlifiaaQga
import Derived.Test.YtgafkphhnlifiaaPgb
import Derived.Deep.Cut
import Derived.Deep.RegionHeld3
namespace Go.Proofs.Ytgafkphhnlifiaa
section
open Go.RowKit Go.Lib
set_option linter.unusedSimpArgs false
set_option linter.unusedVariables false


set_option maxRecDepth 100000 in
set_option maxHeartbeats 8000000 in
theorem qadd_any (w : World) (A : Option Addr) (c : Nat) (xs : List Sp) (n s : Int) (h : RdK spanTy w A xs.length xs) (hn : xs.length ≤ 140737488351232) :
    Calls Try.prog 25 #[.slice A xs.length c, .agg #[.int .i64 n, .int .i64 s]] w fun e w' => ∃ A' c', e = .returned (.tuple #[.slice A' (joinE xs [(n, s, s)]).2.length c', .int .i64 (joinE xs [(n, s, s)]).1]) ∧ OwnK spanTy w' A' c' (joinE xs [(n, s, s)]).2 ∧ (∀ a, A' = some a → w.heap.size ≤ a.block) ∧ Chg [] w w' := by

  obtain ⟨w1, hw1, c1, b1⟩ := news1 w (.cells #[.int .i64 n, .int .i64 s] 37)
  have W1 := Lib.hid hw1
  have C := Lib.hid c1
  have B1 := Lib.hid b1
  have H := Lib.hid (h.chg c1 (by simp))
  have HN := Lib.hid hn
  clear hw1 c1 b1 h hn
  rcases chk_two xs with e1 | e1
  rotate_left
  · have EJ : Hid (joinE xs [(n, s, s)] = (2, [])) := Lib.hid (by unfold joinE; rw [if_neg (by omega)])
    go_enter Try.func25, Try.ntmps25
    go_upto_region 1 with fail
    rw [← W1.out]
    generalize w.heap.size = g0 at *
    go_wp2_with fail
    refine (qacheck_any w1 A _ c xs H.out HN.out).mono ?_
    rintro e w2 ⟨rfl, hc⟩
    rw [e1]
    replace C := Lib.hid (C.out.trans hc)
    clear hc
    go_wp2
    go_ret2
    rw [EJ.out]
    exact ⟨none, 0, rfl, OwnK.none_ _, by simp, C.out⟩
  rcases chk_two [(n, s, s)] with e2 | e2
  rotate_left
  · have EJ : Hid (joinE xs [(n, s, s)] = (2, [])) := Lib.hid (by unfold joinE; rw [if_neg (by omega)])
    go_enter Try.func25, Try.ntmps25
    go_upto_region 1 with fail
    rw [← W1.out]
    generalize w.heap.size = g0 at *
    go_wp2_with fail
    refine (qacheck_any w1 A _ c xs H.out HN.out).mono ?_
    rintro e w2 ⟨rfl, hc⟩
    rw [e1]
    replace C := Lib.hid (C.out.trans hc)
    replace B1 := Lib.hid (hc.at_ B1.out (by simp))
    have z0 := cell_of B1.out 0
    have z1 := cell_of B1.out 1
    simp only [List.getElem?_toArray, List.getElem?_cons_succ, List.getElem?_cons_zero] at z0 z1
    clear hc
    go_wp2_with fail
    refine (hcheck_dot w2 n s).mono ?_
    rintro e w3 ⟨rfl, hc⟩
    rw [e2]
    replace C := Lib.hid (C.out.trans hc)
    clear hc z0 z1
    go_wp2
    go_ret2
    rw [EJ.out]
    exact ⟨none, 0, rfl, OwnK.none_ _, by simp, C.out⟩
  have EJ : Hid (joinE xs [(n, s, s)] = boundP (tidyS (xs ++ [(n, s, s)]))) := Lib.hid (by unfold joinE; rw [if_pos ⟨e1, e2⟩])
  have WX := wf_of_chk e1
  have WD := wf_of_chk e2
  have HL : Hid (xs.length ≤ 4000) := Lib.hid WX.2
  have HB : Hid (∀ x ∈ xs ++ [(n, s, s)], B3 x) := Lib.hid (fun x hx => by
    rcases List.mem_append.1 hx with q | q
    · have a := WX.1.2 x q; have b := WX.1.1.1 x q; unfold SpOk at b; unfold B3; omega
    · have a := WD.1.2 x q; have b := WD.1.1.1 x q; unfold SpOk at b; unfold B3; omega)
  clear WX WD
  rw [EJ.out]
  clear EJ
  generalize hRR : boundP (tidyS (xs ++ [(n, s, s)])) = RR
  have HRR := Lib.hid hRR
  clear hRR
  go_enter Try.func25, Try.ntmps25
  go_upto_region 1 with fail
  rw [← W1.out]
  generalize w.heap.size = g0 at *
  go_wp2_with fail
  refine (qacheck_any w1 A _ c xs H.out HN.out).mono ?_
  rintro e w2 ⟨rfl, hc⟩
  rw [e1]
  replace C := Lib.hid (C.out.trans hc)
  replace B1 := Lib.hid (hc.at_ B1.out (by simp))
  replace H := Lib.hid (H.out.chg hc (by simp))
  have z0 := cell_of B1.out 0
  have z1 := cell_of B1.out 1
  simp only [List.getElem?_toArray, List.getElem?_cons_succ, List.getElem?_cons_zero] at z0 z1
  clear hc
  go_wp2_with fail
  refine (hcheck_dot w2 n s).mono ?_
  rintro e w3 ⟨rfl, hc⟩
  rw [e2]
  replace C := Lib.hid (C.out.trans hc)
  replace B1 := Lib.hid (hc.at_ B1.out (by simp))
  replace H := Lib.hid (H.out.chg hc (by simp))
  clear hc z0 z1 e1 e2
  go_upto_region 3 with fail
  have z0 := cell_of B1.out 0
  have z1 := cell_of B1.out 1
  simp only [List.getElem?_toArray, List.getElem?_cons_succ, List.getElem?_cons_zero] at z0 z1
  refine wp_region_held_drew (S := fun w' => w'.cell? ⟨g0, 0, none⟩ = some (.int .i64 n) ∧ w'.cell? ⟨g0, 1, none⟩ = some (.int .i64 s)) (by kernel_rfl) ⟨z0, z1⟩ (fun hHeld => ?_)
  have CD := Lib.hid (Chg.refl [] w3).drew
  replace C := Lib.hid (C.out.trans CD.out)
  replace B1 := Lib.hid (CD.out.at_ B1.out (by simp))
  replace H := Lib.hid (H.out.chg CD.out (by simp))
  clear CD z0 z1 hHeld
  generalize w3.drew = wd at *
  have DX : Hid (∀ w', Chg [] wd w' → w'.cell? ⟨g0, 0, none⟩ = some (.int .i64 n) ∧ w'.cell? ⟨g0, 1, none⟩ = some (.int .i64 s)) := Lib.hid (fun w' hc => by
    have b := hc.at_ B1.out (by simp)
    exact ⟨cell_of b 0, cell_of b 1⟩)
  have R1 : Hid (∀ w', Chg [] wd w' → RdK spanTy w' A xs.length xs) := Lib.hid (fun w' hc => H.out.chg hc (by simp))
  have C0 := Lib.hid C.out
  clear C H B1
  obtain ⟨wc, hwc⟩ : ∃ wc, wd = wc := ⟨_, rfl⟩
  have C : Hid (Chg [] wd wc) := Lib.hid (hwc ▸ Chg.refl [] wd)
  rw [hwc]
  clear hwc
  have N1 : Hid ((0 + xs.length) * 400 ≤ 140737488355327) := Lib.hid (by have := HL.out; omega)
  have N2 : Hid ((xs.length + 1) * 400 ≤ 140737488355327) := Lib.hid (by have := HL.out; omega)
  refine sy 1 15 rfl rfl ?_ (hS := (DX.out _ C.out))
  try simp only [Act.put, sA, s0, s1]
  refine sy 3 17 rfl rfl ?_ (hS := (DX.out _ C.out))
  try simp only [Act.put, sA, s0, s1]
  refine sy 4 18 rfl rfl ?_ (hS := (DX.out _ C.out)) (hy := by (intro w hSw; (try dsimp only at hSw); obtain ⟨q0, q1⟩ := hSw; go_simp; try with_reducible rfl))
  try simp only [Act.put, sA, s0, s1]
  refine sy 5 19 rfl rfl ?_ (hS := (DX.out _ C.out))
  try simp only [Act.put, sA, s0, s1]
  refine sy 6 20 rfl rfl ?_ (hS := (DX.out _ C.out)) (hy := by (intro w hSw; (try dsimp only at hSw); obtain ⟨q0, q1⟩ := hSw; go_simp; try with_reducible rfl))
  try simp only [Act.put, sA, s0, s1]
  refine sy 7 21 rfl rfl ?_ (hS := (DX.out _ C.out))
  try simp only [Act.put, sA, s0, s1]
  refine sy 8 22 rfl rfl ?_ (hS := (DX.out _ C.out)) (hy := by (intro w hSw; (try dsimp only at hSw); obtain ⟨q0, q1⟩ := hSw; go_simp; try with_reducible rfl))
  try simp only [Act.put, sA, s0, s1]
  refine sy 9 23 rfl rfl ?_ (hS := (DX.out _ C.out))
  try simp only [Act.put, sA, s0, s1]
  refine wpAnyH_ready (rs := [0, 10]) (by kernel_rfl) (by simp) ?_
  refine AllReadyH.cons rfl (fun K hK => ?_) (AllReadyH.cons rfl (fun K hK => ?_) AllReadyH.nil)
  · skip
    replace hK := Lib.hid hK
    have hHeld := DX.out _ C.out
    obtain ⟨q0, q1⟩ := hHeld
    obtain ⟨pe, hpp⟩ : ∃ p, wc.heap.size = p := ⟨_, rfl⟩
    have SZpe := Lib.hid (sized C.out hpp)
    have NSpe := Lib.hid hpp
    clear hpp
    go_simp
    clear q0 q1
    obtain ⟨wc, hw, cn, bn⟩ := news1 wc (.cells #[] 62)
    rw [← hw, NSpe.out]
    rw [NSpe.out] at bn
    have EO := Lib.hid (own_emptyS bn)
    have LTpe := Lib.hid (lt_of_heap bn)
    replace C := Lib.hid (C.out.trans cn)
    try replace XR := Lib.hid (XR.out.chg cn (by simp))
    try have NE : Hid (px ≠ pe) := Lib.hid (by have := NSpe.out; have := LTpx.out; omega)
    clear hw cn bn
    refine hK.out _ _ (DX.out _ C.out) (fun hHeld => ?_)
    clear hK K
    try simp only [Act.put, sA, s0, s1]
    refine wpAnyH_ready (rs := [2, 10]) (by kernel_rfl) (by simp) ?_
    refine AllReadyH.cons rfl (fun K hK => ?_) (AllReadyH.cons rfl (fun K hK => ?_) AllReadyH.nil)
    · skip
      replace hK := Lib.hid hK
      refine step_appK (R := spanTy) rfl (.tmp 14) (.tmp 15) rfl rfl (A := some ⟨pe, 0, none⟩) (B := A) (n := 0) (m := xs.length) (c := 0) (d := c) (xs := []) (ys := xs) EO.out rfl rfl (R1.out _ C.out) N1.out ?_
      rw [Nat.zero_add]
      intro A5 c5 wc o5 g5 e5
      have O5 := Lib.hid o5
      have F5 := Lib.hid (fresh_appS SZpe.out C.out g5 e5)
      replace C := Lib.hid F5.out.2
      try replace XR := Lib.hid (rd_overS XR.out NE.out g5)
      clear o5 g5 e5
      refine hK.out _ _ (DX.out _ C.out) (fun hHeld => ?_)
      clear hK K
      try simp only [Act.put, sA, s0, s1]
      refine wpAnyH_ready (rs := [10]) (by kernel_rfl) (by simp) ?_
      refine AllReadyH.cons rfl (fun K hK => ?_) AllReadyH.nil
      replace hK := Lib.hid hK
      have hHeld := DX.out _ C.out
      obtain ⟨q0, q1⟩ := hHeld
      obtain ⟨px, hpp⟩ : ∃ p, wc.heap.size = p := ⟨_, rfl⟩
      have SZpx := Lib.hid (sized C.out hpp)
      have NSpx := Lib.hid hpp
      clear hpp
      go_simp
      clear q0 q1
      obtain ⟨wc, hw, cn, bn⟩ := news1 wc (.cells #[.int .i64 n, .int .i64 s, .int .i64 s] 62)
      rw [← hw, NSpx.out]
      rw [NSpx.out] at bn
      have XR := Lib.hid (rd_oneS (x := (n, s, s)) bn)
      have LTpx := Lib.hid (lt_of_heap bn)
      replace C := Lib.hid (C.out.trans cn)
      try replace EO := Lib.hid (EO.out.chg cn (by simp))
      try replace O5 := Lib.hid (O5.out.chg cn (by simp))
      try have NE : Hid (px ≠ pe) := Lib.hid (by have := NSpx.out; have := LTpe.out; omega)
      clear hw cn bn
      refine hK.out _ _ (DX.out _ C.out) (fun hHeld => ?_)
      clear hK K
      try simp only [Act.put, sA, s0, s1]
      refine wpAnyH_ready (rs := [11]) (by kernel_rfl) (by simp) ?_
      refine AllReadyH.cons rfl (fun K hK => ?_) AllReadyH.nil
      replace hK := Lib.hid hK
      refine step_appK (R := spanTy) rfl (.tmp 16) (.tmp 24) rfl rfl (A := A5) (B := some ⟨px, 0, none⟩) (n := xs.length) (m := 1) (c := c5) (d := 1) (xs := [] ++ xs) (ys := [(n, s, s)]) O5.out (by simp) rfl XR.out N2.out ?_
      intro A6 c6 wc o6 g6 e6
      have O6 := Lib.hid o6
      rw [List.nil_append] at O6
      have F6 := Lib.hid (fresh_appS F5.out.1 C.out g6 e6)
      replace C := Lib.hid F6.out.2
      clear o6 g6 e6
      refine hK.out _ _ (DX.out _ C.out) (fun hHeld => ?_)
      clear hK K
      try simp only [Act.put, sA, s0, s1]
      refine wpAnyH_ready (rs := [12]) (by kernel_rfl) (by simp) ?_
      refine AllReadyH.cons rfl (fun K hK => ?_) AllReadyH.nil
      replace hK := Lib.hid hK
      go_simp
      have EL : xs.length + 1 = (xs ++ [(n, s, s)]).length := by simp
      rw [EL]
      refine (qtidy_any wc A6 c6 (xs ++ [(n, s, s)]) O6.out.reads (by have := HL.out; simp; omega) HB.out).mono ?_
      rintro e wc ⟨A9, c9, rfl, h1, h2, h3⟩
      rw [HRR.out] at h1 ⊢
      have O9 := Lib.hid h1
      have N9 : Hid (∀ a, A9 = some a → w.heap.size ≤ a.block) := Lib.hid (fun a ha => by have := h2 a ha; have := (C0.out.trans C.out).size; omega)
      replace C := Lib.hid (C.out.trans h3)
      clear h1 h2 h3 EL
      refine hK.out _ _ (DX.out _ C.out) (fun hHeld => ?_)
      clear hK K
      try simp only [Act.put, sA, s0, s1]
      refine sy 13 27 rfl rfl ?_ (hS := (DX.out _ C.out))
      try simp only [Act.put, sA, s0, s1]
      refine sy 14 28 rfl rfl ?_ (hS := (DX.out _ C.out))
      try simp only [Act.put, sA, s0, s1]
      refine sy 15 4 rfl rfl ?_ (hS := (DX.out _ C.out))
      try simp only [Act.put, sA, s0, s1]
      refine sy 16 5 rfl rfl ?_ (hS := (DX.out _ C.out))
      try simp only [Act.put, sA, s0, s1]
      refine wpAnyH_done (by kernel_rfl) ?_ _
      clear hHeld
      go_wp2
      go_ret2
      exact ⟨A9, c9, rfl, O9.out, N9.out, C0.out.trans C.out⟩
    · skip
      replace hK := Lib.hid hK
      have hHeld := DX.out _ C.out
      obtain ⟨q0, q1⟩ := hHeld
      obtain ⟨px, hpp⟩ : ∃ p, wc.heap.size = p := ⟨_, rfl⟩
      have SZpx := Lib.hid (sized C.out hpp)
      have NSpx := Lib.hid hpp
      clear hpp
      go_simp
      clear q0 q1
      obtain ⟨wc, hw, cn, bn⟩ := news1 wc (.cells #[.int .i64 n, .int .i64 s, .int .i64 s] 62)
      rw [← hw, NSpx.out]
      rw [NSpx.out] at bn
      have XR := Lib.hid (rd_oneS (x := (n, s, s)) bn)
      have LTpx := Lib.hid (lt_of_heap bn)
      replace C := Lib.hid (C.out.trans cn)
      try replace EO := Lib.hid (EO.out.chg cn (by simp))
      try replace O5 := Lib.hid (O5.out.chg cn (by simp))
      try have NE : Hid (px ≠ pe) := Lib.hid (by have := NSpx.out; have := LTpe.out; omega)
      clear hw cn bn
      refine hK.out _ _ (DX.out _ C.out) (fun hHeld => ?_)
      clear hK K
      try simp only [Act.put, sA, s0, s1]
      refine wpAnyH_ready (rs := [2]) (by kernel_rfl) (by simp) ?_
      refine AllReadyH.cons rfl (fun K hK => ?_) AllReadyH.nil
      replace hK := Lib.hid hK
      refine step_appK (R := spanTy) rfl (.tmp 14) (.tmp 15) rfl rfl (A := some ⟨pe, 0, none⟩) (B := A) (n := 0) (m := xs.length) (c := 0) (d := c) (xs := []) (ys := xs) EO.out rfl rfl (R1.out _ C.out) N1.out ?_
      rw [Nat.zero_add]
      intro A5 c5 wc o5 g5 e5
      have O5 := Lib.hid o5
      have F5 := Lib.hid (fresh_appS SZpe.out C.out g5 e5)
      replace C := Lib.hid F5.out.2
      try replace XR := Lib.hid (rd_overS XR.out NE.out g5)
      clear o5 g5 e5
      refine hK.out _ _ (DX.out _ C.out) (fun hHeld => ?_)
      clear hK K
      try simp only [Act.put, sA, s0, s1]
      refine wpAnyH_ready (rs := [11]) (by kernel_rfl) (by simp) ?_
      refine AllReadyH.cons rfl (fun K hK => ?_) AllReadyH.nil
      replace hK := Lib.hid hK
      refine step_appK (R := spanTy) rfl (.tmp 16) (.tmp 24) rfl rfl (A := A5) (B := some ⟨px, 0, none⟩) (n := xs.length) (m := 1) (c := c5) (d := 1) (xs := [] ++ xs) (ys := [(n, s, s)]) O5.out (by simp) rfl XR.out N2.out ?_
      intro A6 c6 wc o6 g6 e6
      have O6 := Lib.hid o6
      rw [List.nil_append] at O6
      have F6 := Lib.hid (fresh_appS F5.out.1 C.out g6 e6)
      replace C := Lib.hid F6.out.2
      clear o6 g6 e6
      refine hK.out _ _ (DX.out _ C.out) (fun hHeld => ?_)
      clear hK K
      try simp only [Act.put, sA, s0, s1]
      refine wpAnyH_ready (rs := [12]) (by kernel_rfl) (by simp) ?_
      refine AllReadyH.cons rfl (fun K hK => ?_) AllReadyH.nil
      replace hK := Lib.hid hK
      go_simp
      have EL : xs.length + 1 = (xs ++ [(n, s, s)]).length := by simp
      rw [EL]
      refine (qtidy_any wc A6 c6 (xs ++ [(n, s, s)]) O6.out.reads (by have := HL.out; simp; omega) HB.out).mono ?_
      rintro e wc ⟨A9, c9, rfl, h1, h2, h3⟩
      rw [HRR.out] at h1 ⊢
      have O9 := Lib.hid h1
      have N9 : Hid (∀ a, A9 = some a → w.heap.size ≤ a.block) := Lib.hid (fun a ha => by have := h2 a ha; have := (C0.out.trans C.out).size; omega)
      replace C := Lib.hid (C.out.trans h3)
      clear h1 h2 h3 EL
      refine hK.out _ _ (DX.out _ C.out) (fun hHeld => ?_)
      clear hK K
      try simp only [Act.put, sA, s0, s1]
      refine sy 13 27 rfl rfl ?_ (hS := (DX.out _ C.out))
      try simp only [Act.put, sA, s0, s1]
      refine sy 14 28 rfl rfl ?_ (hS := (DX.out _ C.out))
      try simp only [Act.put, sA, s0, s1]
      refine sy 15 4 rfl rfl ?_ (hS := (DX.out _ C.out))
      try simp only [Act.put, sA, s0, s1]
      refine sy 16 5 rfl rfl ?_ (hS := (DX.out _ C.out))
      try simp only [Act.put, sA, s0, s1]
      refine wpAnyH_done (by kernel_rfl) ?_ _
      clear hHeld
      go_wp2
      go_ret2
      exact ⟨A9, c9, rfl, O9.out, N9.out, C0.out.trans C.out⟩
  · skip
    replace hK := Lib.hid hK
    have hHeld := DX.out _ C.out
    obtain ⟨q0, q1⟩ := hHeld
    obtain ⟨px, hpp⟩ : ∃ p, wc.heap.size = p := ⟨_, rfl⟩
    have SZpx := Lib.hid (sized C.out hpp)
    have NSpx := Lib.hid hpp
    clear hpp
    go_simp
    clear q0 q1
    obtain ⟨wc, hw, cn, bn⟩ := news1 wc (.cells #[.int .i64 n, .int .i64 s, .int .i64 s] 62)
    rw [← hw, NSpx.out]
    rw [NSpx.out] at bn
    have XR := Lib.hid (rd_oneS (x := (n, s, s)) bn)
    have LTpx := Lib.hid (lt_of_heap bn)
    replace C := Lib.hid (C.out.trans cn)
    try replace EO := Lib.hid (EO.out.chg cn (by simp))
    try replace O5 := Lib.hid (O5.out.chg cn (by simp))
    try have NE : Hid (px ≠ pe) := Lib.hid (by have := NSpx.out; have := LTpe.out; omega)
    clear hw cn bn
    refine hK.out _ _ (DX.out _ C.out) (fun hHeld => ?_)
    clear hK K
    try simp only [Act.put, sA, s0, s1]
    refine wpAnyH_ready (rs := [0]) (by kernel_rfl) (by simp) ?_
    refine AllReadyH.cons rfl (fun K hK => ?_) AllReadyH.nil
    replace hK := Lib.hid hK
    have hHeld := DX.out _ C.out
    obtain ⟨q0, q1⟩ := hHeld
    obtain ⟨pe, hpp⟩ : ∃ p, wc.heap.size = p := ⟨_, rfl⟩
    have SZpe := Lib.hid (sized C.out hpp)
    have NSpe := Lib.hid hpp
    clear hpp
    go_simp
    clear q0 q1
    obtain ⟨wc, hw, cn, bn⟩ := news1 wc (.cells #[] 62)
    rw [← hw, NSpe.out]
    rw [NSpe.out] at bn
    have EO := Lib.hid (own_emptyS bn)
    have LTpe := Lib.hid (lt_of_heap bn)
    replace C := Lib.hid (C.out.trans cn)
    try replace XR := Lib.hid (XR.out.chg cn (by simp))
    try have NE : Hid (px ≠ pe) := Lib.hid (by have := NSpe.out; have := LTpx.out; omega)
    clear hw cn bn
    refine hK.out _ _ (DX.out _ C.out) (fun hHeld => ?_)
    clear hK K
    try simp only [Act.put, sA, s0, s1]
    refine wpAnyH_ready (rs := [2]) (by kernel_rfl) (by simp) ?_
    refine AllReadyH.cons rfl (fun K hK => ?_) AllReadyH.nil
    replace hK := Lib.hid hK
    refine step_appK (R := spanTy) rfl (.tmp 14) (.tmp 15) rfl rfl (A := some ⟨pe, 0, none⟩) (B := A) (n := 0) (m := xs.length) (c := 0) (d := c) (xs := []) (ys := xs) EO.out rfl rfl (R1.out _ C.out) N1.out ?_
    rw [Nat.zero_add]
    intro A5 c5 wc o5 g5 e5
    have O5 := Lib.hid o5
    have F5 := Lib.hid (fresh_appS SZpe.out C.out g5 e5)
    replace C := Lib.hid F5.out.2
    try replace XR := Lib.hid (rd_overS XR.out NE.out g5)
    clear o5 g5 e5
    refine hK.out _ _ (DX.out _ C.out) (fun hHeld => ?_)
    clear hK K
    try simp only [Act.put, sA, s0, s1]
    refine wpAnyH_ready (rs := [11]) (by kernel_rfl) (by simp) ?_
    refine AllReadyH.cons rfl (fun K hK => ?_) AllReadyH.nil
    replace hK := Lib.hid hK
    refine step_appK (R := spanTy) rfl (.tmp 16) (.tmp 24) rfl rfl (A := A5) (B := some ⟨px, 0, none⟩) (n := xs.length) (m := 1) (c := c5) (d := 1) (xs := [] ++ xs) (ys := [(n, s, s)]) O5.out (by simp) rfl XR.out N2.out ?_
    intro A6 c6 wc o6 g6 e6
    have O6 := Lib.hid o6
    rw [List.nil_append] at O6
    have F6 := Lib.hid (fresh_appS F5.out.1 C.out g6 e6)
    replace C := Lib.hid F6.out.2
    clear o6 g6 e6
    refine hK.out _ _ (DX.out _ C.out) (fun hHeld => ?_)
    clear hK K
    try simp only [Act.put, sA, s0, s1]
    refine wpAnyH_ready (rs := [12]) (by kernel_rfl) (by simp) ?_
    refine AllReadyH.cons rfl (fun K hK => ?_) AllReadyH.nil
    replace hK := Lib.hid hK
    go_simp
    have EL : xs.length + 1 = (xs ++ [(n, s, s)]).length := by simp
    rw [EL]
    refine (qtidy_any wc A6 c6 (xs ++ [(n, s, s)]) O6.out.reads (by have := HL.out; simp; omega) HB.out).mono ?_
    rintro e wc ⟨A9, c9, rfl, h1, h2, h3⟩
    rw [HRR.out] at h1 ⊢
    have O9 := Lib.hid h1
    have N9 : Hid (∀ a, A9 = some a → w.heap.size ≤ a.block) := Lib.hid (fun a ha => by have := h2 a ha; have := (C0.out.trans C.out).size; omega)
    replace C := Lib.hid (C.out.trans h3)
    clear h1 h2 h3 EL
    refine hK.out _ _ (DX.out _ C.out) (fun hHeld => ?_)
    clear hK K
    try simp only [Act.put, sA, s0, s1]
    refine sy 13 27 rfl rfl ?_ (hS := (DX.out _ C.out))
    try simp only [Act.put, sA, s0, s1]
    refine sy 14 28 rfl rfl ?_ (hS := (DX.out _ C.out))
    try simp only [Act.put, sA, s0, s1]
    refine sy 15 4 rfl rfl ?_ (hS := (DX.out _ C.out))
    try simp only [Act.put, sA, s0, s1]
    refine sy 16 5 rfl rfl ?_ (hS := (DX.out _ C.out))
    try simp only [Act.put, sA, s0, s1]
    refine wpAnyH_done (by kernel_rfl) ?_ _
    clear hHeld
    go_wp2
    go_ret2
    exact ⟨A9, c9, rfl, O9.out, N9.out, C0.out.trans C.out⟩
end
end Go.Proofs.Ytgafkphhnlifiaa
