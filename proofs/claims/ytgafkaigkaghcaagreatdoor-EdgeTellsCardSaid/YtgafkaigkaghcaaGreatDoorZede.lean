/- The document's Add. The document's Learn. A row of nil has no elements. slices.Clone of spans. edge.Reset; the document's. EdgeTells. Slices of dots as arguments. -/
import Derived.Test.YtgafkaigkaghcaaGreatDoorZeaf
import Derived.Test.YtgafkaigkaghcaaGreatDoorZeae
import Derived.Test.YtgafkaigkaghcaaGreatDoorZeab
import Derived.Deep.Cut
import Derived.Deep.RegionHeld3
import Derived.Test.YtgafkaigkaghcaaGreatDoorZeba
import Derived.Test.YtgafkaigkaghcaaGreatDoorZeaa
import Derived.BigQuiet
import Derived.Test.YtgafkaigkaghcaaGreatDoorZean
import Derived.Test.YtgafkaigkaghcaaGreatDoorZedd
import Derived.Test.YtgafkaigkaghcaaGreatDoorZeag
namespace Go.Proofs.YtgafkaigkaghcaaGreatDoor
section
open Go.RowKit Go.Lib
set_option linter.unusedSimpArgs false
set_option linter.unusedVariables false


set_option maxRecDepth 100000 in
set_option maxHeartbeats 8000000 in
theorem qadd_any (w : World) (A : Option Addr) (c : Nat) (xs : List Sp) (n s : Int) (h : RdK spanTy w A xs.length xs) (hn : xs.length ≤ 140737488351232) :
    Calls Tryz.prog 34 #[.slice A xs.length c, .agg #[.int .i64 n, .int .i64 s]] w fun e w' => ∃ A' c', e = .returned (.tuple #[.slice A' (joinE xs [(n, s, s)]).2.length c', .int .i64 (joinE xs [(n, s, s)]).1]) ∧ OwnK spanTy w' A' c' (joinE xs [(n, s, s)]).2 ∧ (∀ a, A' = some a → w.heap.size ≤ a.block) ∧ Chg [] w w' := by

  obtain ⟨w1, hw1, c1, b1⟩ := news1 w (.cells #[.int .i64 n, .int .i64 s] 26)
  have W1 := Lib.hid hw1
  have C := Lib.hid c1
  have B1 := Lib.hid b1
  have H := Lib.hid (h.chg c1 (by simp))
  have HN := Lib.hid hn
  clear hw1 c1 b1 h hn
  rcases chk_two xs with e1 | e1
  rotate_left
  · have EJ : Hid (joinE xs [(n, s, s)] = (2, [])) := Lib.hid (by unfold joinE; rw [if_neg (by omega)])
    go_enter Tryz.func34, Tryz.ntmps34
    go_upto_region 1 with fail
    rw [← W1.out]
    generalize w.heap.size = g0 at *
    go_wp2_with fail
    refine (qacheck_any w1 A _ c xs H.out HN.out).mono ?_
    rintro e w2 ⟨rfl, hc⟩
    rw [e1]
    replace C := Lib.hid (C.out.trans hc)
    clear hc
    go_wp2
    go_ret2
    rw [EJ.out]
    exact ⟨none, 0, rfl, OwnK.none_ _, by simp, C.out⟩
  rcases chk_two [(n, s, s)] with e2 | e2
  rotate_left
  · have EJ : Hid (joinE xs [(n, s, s)] = (2, [])) := Lib.hid (by unfold joinE; rw [if_neg (by omega)])
    go_enter Tryz.func34, Tryz.ntmps34
    go_upto_region 1 with fail
    rw [← W1.out]
    generalize w.heap.size = g0 at *
    go_wp2_with fail
    refine (qacheck_any w1 A _ c xs H.out HN.out).mono ?_
    rintro e w2 ⟨rfl, hc⟩
    rw [e1]
    replace C := Lib.hid (C.out.trans hc)
    replace B1 := Lib.hid (hc.at_ B1.out (by simp))
    have z0 := cell_of B1.out 0
    have z1 := cell_of B1.out 1
    simp only [List.getElem?_toArray, List.getElem?_cons_succ, List.getElem?_cons_zero] at z0 z1
    clear hc
    go_wp2_with fail
    refine (hcheck_dot w2 n s).mono ?_
    rintro e w3 ⟨rfl, hc⟩
    rw [e2]
    replace C := Lib.hid (C.out.trans hc)
    clear hc z0 z1
    go_wp2
    go_ret2
    rw [EJ.out]
    exact ⟨none, 0, rfl, OwnK.none_ _, by simp, C.out⟩
  have EJ : Hid (joinE xs [(n, s, s)] = boundP (tidyS (xs ++ [(n, s, s)]))) := Lib.hid (by unfold joinE; rw [if_pos ⟨e1, e2⟩])
  have WX := wf_of_chk e1
  have WD := wf_of_chk e2
  have HL : Hid (xs.length ≤ 4000) := Lib.hid WX.2
  have HB : Hid (∀ x ∈ xs ++ [(n, s, s)], B3 x) := Lib.hid (fun x hx => by
    rcases List.mem_append.1 hx with q | q
    · have a := WX.1.2 x q; have b := WX.1.1.1 x q; unfold SpOk at b; unfold B3; omega
    · have a := WD.1.2 x q; have b := WD.1.1.1 x q; unfold SpOk at b; unfold B3; omega)
  clear WX WD
  rw [EJ.out]
  clear EJ
  generalize hRR : boundP (tidyS (xs ++ [(n, s, s)])) = RR
  have HRR := Lib.hid hRR
  clear hRR
  go_enter Tryz.func34, Tryz.ntmps34
  go_upto_region 1 with fail
  rw [← W1.out]
  generalize w.heap.size = g0 at *
  go_wp2_with fail
  refine (qacheck_any w1 A _ c xs H.out HN.out).mono ?_
  rintro e w2 ⟨rfl, hc⟩
  rw [e1]
  replace C := Lib.hid (C.out.trans hc)
  replace B1 := Lib.hid (hc.at_ B1.out (by simp))
  replace H := Lib.hid (H.out.chg hc (by simp))
  have z0 := cell_of B1.out 0
  have z1 := cell_of B1.out 1
  simp only [List.getElem?_toArray, List.getElem?_cons_succ, List.getElem?_cons_zero] at z0 z1
  clear hc
  go_wp2_with fail
  refine (hcheck_dot w2 n s).mono ?_
  rintro e w3 ⟨rfl, hc⟩
  rw [e2]
  replace C := Lib.hid (C.out.trans hc)
  replace B1 := Lib.hid (hc.at_ B1.out (by simp))
  replace H := Lib.hid (H.out.chg hc (by simp))
  clear hc z0 z1 e1 e2
  go_upto_region 3 with fail
  have z0 := cell_of B1.out 0
  have z1 := cell_of B1.out 1
  simp only [List.getElem?_toArray, List.getElem?_cons_succ, List.getElem?_cons_zero] at z0 z1
  refine wp_region_held_drew (S := fun w' => w'.cell? ⟨g0, 0, none⟩ = some (.int .i64 n) ∧ w'.cell? ⟨g0, 1, none⟩ = some (.int .i64 s)) (by kernel_rfl) ⟨z0, z1⟩ (fun hHeld => ?_)
  have CD := Lib.hid (Chg.refl [] w3).drew
  replace C := Lib.hid (C.out.trans CD.out)
  replace B1 := Lib.hid (CD.out.at_ B1.out (by simp))
  replace H := Lib.hid (H.out.chg CD.out (by simp))
  clear CD z0 z1 hHeld
  generalize w3.drew = wd at *
  have DX : Hid (∀ w', Chg [] wd w' → w'.cell? ⟨g0, 0, none⟩ = some (.int .i64 n) ∧ w'.cell? ⟨g0, 1, none⟩ = some (.int .i64 s)) := Lib.hid (fun w' hc => by
    have b := hc.at_ B1.out (by simp)
    exact ⟨cell_of b 0, cell_of b 1⟩)
  have R1 : Hid (∀ w', Chg [] wd w' → RdK spanTy w' A xs.length xs) := Lib.hid (fun w' hc => H.out.chg hc (by simp))
  have C0 := Lib.hid C.out
  clear C H B1
  obtain ⟨wc, hwc⟩ : ∃ wc, wd = wc := ⟨_, rfl⟩
  have C : Hid (Chg [] wd wc) := Lib.hid (hwc ▸ Chg.refl [] wd)
  rw [hwc]
  clear hwc
  have N1 : Hid ((0 + xs.length) * 400 ≤ 140737488355327) := Lib.hid (by have := HL.out; omega)
  have N2 : Hid ((xs.length + 1) * 400 ≤ 140737488355327) := Lib.hid (by have := HL.out; omega)
  refine sy 1 15 rfl rfl ?_ (hS := (DX.out _ C.out))
  try simp only [Act.put, sA, s0, s1]
  refine sy 3 17 rfl rfl ?_ (hS := (DX.out _ C.out))
  try simp only [Act.put, sA, s0, s1]
  refine sy 4 18 rfl rfl ?_ (hS := (DX.out _ C.out)) (hy := by (intro w hSw; (try dsimp only at hSw); obtain ⟨q0, q1⟩ := hSw; go_simp; try with_reducible rfl))
  try simp only [Act.put, sA, s0, s1]
  refine sy 5 19 rfl rfl ?_ (hS := (DX.out _ C.out))
  try simp only [Act.put, sA, s0, s1]
  refine sy 6 20 rfl rfl ?_ (hS := (DX.out _ C.out)) (hy := by (intro w hSw; (try dsimp only at hSw); obtain ⟨q0, q1⟩ := hSw; go_simp; try with_reducible rfl))
  try simp only [Act.put, sA, s0, s1]
  refine sy 7 21 rfl rfl ?_ (hS := (DX.out _ C.out))
  try simp only [Act.put, sA, s0, s1]
  refine sy 8 22 rfl rfl ?_ (hS := (DX.out _ C.out)) (hy := by (intro w hSw; (try dsimp only at hSw); obtain ⟨q0, q1⟩ := hSw; go_simp; try with_reducible rfl))
  try simp only [Act.put, sA, s0, s1]
  refine sy 9 23 rfl rfl ?_ (hS := (DX.out _ C.out))
  try simp only [Act.put, sA, s0, s1]
  refine wpAnyH_ready (rs := [0, 10]) (by kernel_rfl) (by simp) ?_
  refine AllReadyH.cons rfl (fun K hK => ?_) (AllReadyH.cons rfl (fun K hK => ?_) AllReadyH.nil)
  · skip
    replace hK := Lib.hid hK
    have hHeld := DX.out _ C.out
    obtain ⟨q0, q1⟩ := hHeld
    obtain ⟨pe, hpp⟩ : ∃ p, wc.heap.size = p := ⟨_, rfl⟩
    have SZpe := Lib.hid (sized C.out hpp)
    have NSpe := Lib.hid hpp
    clear hpp
    go_simp
    clear q0 q1
    obtain ⟨wc, hw, cn, bn⟩ := news1 wc (.cells #[] 78)
    rw [← hw, NSpe.out]
    rw [NSpe.out] at bn
    have EO := Lib.hid (own_emptyS bn)
    have LTpe := Lib.hid (lt_of_heap bn)
    replace C := Lib.hid (C.out.trans cn)
    try replace XR := Lib.hid (XR.out.chg cn (by simp))
    try have NE : Hid (px ≠ pe) := Lib.hid (by have := NSpe.out; have := LTpx.out; omega)
    clear hw cn bn
    refine hK.out _ _ (DX.out _ C.out) (fun hHeld => ?_)
    clear hK K
    try simp only [Act.put, sA, s0, s1]
    refine wpAnyH_ready (rs := [2, 10]) (by kernel_rfl) (by simp) ?_
    refine AllReadyH.cons rfl (fun K hK => ?_) (AllReadyH.cons rfl (fun K hK => ?_) AllReadyH.nil)
    · skip
      replace hK := Lib.hid hK
      refine step_appK (R := spanTy) rfl (.tmp 14) (.tmp 15) rfl rfl (A := some ⟨pe, 0, none⟩) (B := A) (n := 0) (m := xs.length) (c := 0) (d := c) (xs := []) (ys := xs) EO.out rfl rfl (R1.out _ C.out) N1.out ?_
      rw [Nat.zero_add]
      intro A5 c5 wc o5 g5 e5
      have O5 := Lib.hid o5
      have F5 := Lib.hid (fresh_appS SZpe.out C.out g5 e5)
      replace C := Lib.hid F5.out.2
      try replace XR := Lib.hid (rd_overS XR.out NE.out g5)
      clear o5 g5 e5
      refine hK.out _ _ (DX.out _ C.out) (fun hHeld => ?_)
      clear hK K
      try simp only [Act.put, sA, s0, s1]
      refine wpAnyH_ready (rs := [10]) (by kernel_rfl) (by simp) ?_
      refine AllReadyH.cons rfl (fun K hK => ?_) AllReadyH.nil
      replace hK := Lib.hid hK
      have hHeld := DX.out _ C.out
      obtain ⟨q0, q1⟩ := hHeld
      obtain ⟨px, hpp⟩ : ∃ p, wc.heap.size = p := ⟨_, rfl⟩
      have SZpx := Lib.hid (sized C.out hpp)
      have NSpx := Lib.hid hpp
      clear hpp
      go_simp
      clear q0 q1
      obtain ⟨wc, hw, cn, bn⟩ := news1 wc (.cells #[.int .i64 n, .int .i64 s, .int .i64 s] 78)
      rw [← hw, NSpx.out]
      rw [NSpx.out] at bn
      have XR := Lib.hid (rd_oneS (x := (n, s, s)) bn)
      have LTpx := Lib.hid (lt_of_heap bn)
      replace C := Lib.hid (C.out.trans cn)
      try replace EO := Lib.hid (EO.out.chg cn (by simp))
      try replace O5 := Lib.hid (O5.out.chg cn (by simp))
      try have NE : Hid (px ≠ pe) := Lib.hid (by have := NSpx.out; have := LTpe.out; omega)
      clear hw cn bn
      refine hK.out _ _ (DX.out _ C.out) (fun hHeld => ?_)
      clear hK K
      try simp only [Act.put, sA, s0, s1]
      refine wpAnyH_ready (rs := [11]) (by kernel_rfl) (by simp) ?_
      refine AllReadyH.cons rfl (fun K hK => ?_) AllReadyH.nil
      replace hK := Lib.hid hK
      refine step_appK (R := spanTy) rfl (.tmp 16) (.tmp 24) rfl rfl (A := A5) (B := some ⟨px, 0, none⟩) (n := xs.length) (m := 1) (c := c5) (d := 1) (xs := [] ++ xs) (ys := [(n, s, s)]) O5.out (by simp) rfl XR.out N2.out ?_
      intro A6 c6 wc o6 g6 e6
      have O6 := Lib.hid o6
      rw [List.nil_append] at O6
      have F6 := Lib.hid (fresh_appS F5.out.1 C.out g6 e6)
      replace C := Lib.hid F6.out.2
      clear o6 g6 e6
      refine hK.out _ _ (DX.out _ C.out) (fun hHeld => ?_)
      clear hK K
      try simp only [Act.put, sA, s0, s1]
      refine wpAnyH_ready (rs := [12]) (by kernel_rfl) (by simp) ?_
      refine AllReadyH.cons rfl (fun K hK => ?_) AllReadyH.nil
      replace hK := Lib.hid hK
      go_simp
      have EL : xs.length + 1 = (xs ++ [(n, s, s)]).length := by simp
      rw [EL]
      refine (qtidy_any wc A6 c6 (xs ++ [(n, s, s)]) O6.out.reads (by have := HL.out; simp; omega) HB.out).mono ?_
      rintro e wc ⟨A9, c9, rfl, h1, h2, h3⟩
      rw [HRR.out] at h1 ⊢
      have O9 := Lib.hid h1
      have N9 : Hid (∀ a, A9 = some a → w.heap.size ≤ a.block) := Lib.hid (fun a ha => by have := h2 a ha; have := (C0.out.trans C.out).size; omega)
      replace C := Lib.hid (C.out.trans h3)
      clear h1 h2 h3 EL
      refine hK.out _ _ (DX.out _ C.out) (fun hHeld => ?_)
      clear hK K
      try simp only [Act.put, sA, s0, s1]
      refine sy 13 27 rfl rfl ?_ (hS := (DX.out _ C.out))
      try simp only [Act.put, sA, s0, s1]
      refine sy 14 28 rfl rfl ?_ (hS := (DX.out _ C.out))
      try simp only [Act.put, sA, s0, s1]
      refine sy 15 4 rfl rfl ?_ (hS := (DX.out _ C.out))
      try simp only [Act.put, sA, s0, s1]
      refine sy 16 5 rfl rfl ?_ (hS := (DX.out _ C.out))
      try simp only [Act.put, sA, s0, s1]
      refine wpAnyH_done (by kernel_rfl) ?_ _
      clear hHeld
      go_wp2
      go_ret2
      exact ⟨A9, c9, rfl, O9.out, N9.out, C0.out.trans C.out⟩
    · skip
      replace hK := Lib.hid hK
      have hHeld := DX.out _ C.out
      obtain ⟨q0, q1⟩ := hHeld
      obtain ⟨px, hpp⟩ : ∃ p, wc.heap.size = p := ⟨_, rfl⟩
      have SZpx := Lib.hid (sized C.out hpp)
      have NSpx := Lib.hid hpp
      clear hpp
      go_simp
      clear q0 q1
      obtain ⟨wc, hw, cn, bn⟩ := news1 wc (.cells #[.int .i64 n, .int .i64 s, .int .i64 s] 78)
      rw [← hw, NSpx.out]
      rw [NSpx.out] at bn
      have XR := Lib.hid (rd_oneS (x := (n, s, s)) bn)
      have LTpx := Lib.hid (lt_of_heap bn)
      replace C := Lib.hid (C.out.trans cn)
      try replace EO := Lib.hid (EO.out.chg cn (by simp))
      try replace O5 := Lib.hid (O5.out.chg cn (by simp))
      try have NE : Hid (px ≠ pe) := Lib.hid (by have := NSpx.out; have := LTpe.out; omega)
      clear hw cn bn
      refine hK.out _ _ (DX.out _ C.out) (fun hHeld => ?_)
      clear hK K
      try simp only [Act.put, sA, s0, s1]
      refine wpAnyH_ready (rs := [2]) (by kernel_rfl) (by simp) ?_
      refine AllReadyH.cons rfl (fun K hK => ?_) AllReadyH.nil
      replace hK := Lib.hid hK
      refine step_appK (R := spanTy) rfl (.tmp 14) (.tmp 15) rfl rfl (A := some ⟨pe, 0, none⟩) (B := A) (n := 0) (m := xs.length) (c := 0) (d := c) (xs := []) (ys := xs) EO.out rfl rfl (R1.out _ C.out) N1.out ?_
      rw [Nat.zero_add]
      intro A5 c5 wc o5 g5 e5
      have O5 := Lib.hid o5
      have F5 := Lib.hid (fresh_appS SZpe.out C.out g5 e5)
      replace C := Lib.hid F5.out.2
      try replace XR := Lib.hid (rd_overS XR.out NE.out g5)
      clear o5 g5 e5
      refine hK.out _ _ (DX.out _ C.out) (fun hHeld => ?_)
      clear hK K
      try simp only [Act.put, sA, s0, s1]
      refine wpAnyH_ready (rs := [11]) (by kernel_rfl) (by simp) ?_
      refine AllReadyH.cons rfl (fun K hK => ?_) AllReadyH.nil
      replace hK := Lib.hid hK
      refine step_appK (R := spanTy) rfl (.tmp 16) (.tmp 24) rfl rfl (A := A5) (B := some ⟨px, 0, none⟩) (n := xs.length) (m := 1) (c := c5) (d := 1) (xs := [] ++ xs) (ys := [(n, s, s)]) O5.out (by simp) rfl XR.out N2.out ?_
      intro A6 c6 wc o6 g6 e6
      have O6 := Lib.hid o6
      rw [List.nil_append] at O6
      have F6 := Lib.hid (fresh_appS F5.out.1 C.out g6 e6)
      replace C := Lib.hid F6.out.2
      clear o6 g6 e6
      refine hK.out _ _ (DX.out _ C.out) (fun hHeld => ?_)
      clear hK K
      try simp only [Act.put, sA, s0, s1]
      refine wpAnyH_ready (rs := [12]) (by kernel_rfl) (by simp) ?_
      refine AllReadyH.cons rfl (fun K hK => ?_) AllReadyH.nil
      replace hK := Lib.hid hK
      go_simp
      have EL : xs.length + 1 = (xs ++ [(n, s, s)]).length := by simp
      rw [EL]
      refine (qtidy_any wc A6 c6 (xs ++ [(n, s, s)]) O6.out.reads (by have := HL.out; simp; omega) HB.out).mono ?_
      rintro e wc ⟨A9, c9, rfl, h1, h2, h3⟩
      rw [HRR.out] at h1 ⊢
      have O9 := Lib.hid h1
      have N9 : Hid (∀ a, A9 = some a → w.heap.size ≤ a.block) := Lib.hid (fun a ha => by have := h2 a ha; have := (C0.out.trans C.out).size; omega)
      replace C := Lib.hid (C.out.trans h3)
      clear h1 h2 h3 EL
      refine hK.out _ _ (DX.out _ C.out) (fun hHeld => ?_)
      clear hK K
      try simp only [Act.put, sA, s0, s1]
      refine sy 13 27 rfl rfl ?_ (hS := (DX.out _ C.out))
      try simp only [Act.put, sA, s0, s1]
      refine sy 14 28 rfl rfl ?_ (hS := (DX.out _ C.out))
      try simp only [Act.put, sA, s0, s1]
      refine sy 15 4 rfl rfl ?_ (hS := (DX.out _ C.out))
      try simp only [Act.put, sA, s0, s1]
      refine sy 16 5 rfl rfl ?_ (hS := (DX.out _ C.out))
      try simp only [Act.put, sA, s0, s1]
      refine wpAnyH_done (by kernel_rfl) ?_ _
      clear hHeld
      go_wp2
      go_ret2
      exact ⟨A9, c9, rfl, O9.out, N9.out, C0.out.trans C.out⟩
  · skip
    replace hK := Lib.hid hK
    have hHeld := DX.out _ C.out
    obtain ⟨q0, q1⟩ := hHeld
    obtain ⟨px, hpp⟩ : ∃ p, wc.heap.size = p := ⟨_, rfl⟩
    have SZpx := Lib.hid (sized C.out hpp)
    have NSpx := Lib.hid hpp
    clear hpp
    go_simp
    clear q0 q1
    obtain ⟨wc, hw, cn, bn⟩ := news1 wc (.cells #[.int .i64 n, .int .i64 s, .int .i64 s] 78)
    rw [← hw, NSpx.out]
    rw [NSpx.out] at bn
    have XR := Lib.hid (rd_oneS (x := (n, s, s)) bn)
    have LTpx := Lib.hid (lt_of_heap bn)
    replace C := Lib.hid (C.out.trans cn)
    try replace EO := Lib.hid (EO.out.chg cn (by simp))
    try replace O5 := Lib.hid (O5.out.chg cn (by simp))
    try have NE : Hid (px ≠ pe) := Lib.hid (by have := NSpx.out; have := LTpe.out; omega)
    clear hw cn bn
    refine hK.out _ _ (DX.out _ C.out) (fun hHeld => ?_)
    clear hK K
    try simp only [Act.put, sA, s0, s1]
    refine wpAnyH_ready (rs := [0]) (by kernel_rfl) (by simp) ?_
    refine AllReadyH.cons rfl (fun K hK => ?_) AllReadyH.nil
    replace hK := Lib.hid hK
    have hHeld := DX.out _ C.out
    obtain ⟨q0, q1⟩ := hHeld
    obtain ⟨pe, hpp⟩ : ∃ p, wc.heap.size = p := ⟨_, rfl⟩
    have SZpe := Lib.hid (sized C.out hpp)
    have NSpe := Lib.hid hpp
    clear hpp
    go_simp
    clear q0 q1
    obtain ⟨wc, hw, cn, bn⟩ := news1 wc (.cells #[] 78)
    rw [← hw, NSpe.out]
    rw [NSpe.out] at bn
    have EO := Lib.hid (own_emptyS bn)
    have LTpe := Lib.hid (lt_of_heap bn)
    replace C := Lib.hid (C.out.trans cn)
    try replace XR := Lib.hid (XR.out.chg cn (by simp))
    try have NE : Hid (px ≠ pe) := Lib.hid (by have := NSpe.out; have := LTpx.out; omega)
    clear hw cn bn
    refine hK.out _ _ (DX.out _ C.out) (fun hHeld => ?_)
    clear hK K
    try simp only [Act.put, sA, s0, s1]
    refine wpAnyH_ready (rs := [2]) (by kernel_rfl) (by simp) ?_
    refine AllReadyH.cons rfl (fun K hK => ?_) AllReadyH.nil
    replace hK := Lib.hid hK
    refine step_appK (R := spanTy) rfl (.tmp 14) (.tmp 15) rfl rfl (A := some ⟨pe, 0, none⟩) (B := A) (n := 0) (m := xs.length) (c := 0) (d := c) (xs := []) (ys := xs) EO.out rfl rfl (R1.out _ C.out) N1.out ?_
    rw [Nat.zero_add]
    intro A5 c5 wc o5 g5 e5
    have O5 := Lib.hid o5
    have F5 := Lib.hid (fresh_appS SZpe.out C.out g5 e5)
    replace C := Lib.hid F5.out.2
    try replace XR := Lib.hid (rd_overS XR.out NE.out g5)
    clear o5 g5 e5
    refine hK.out _ _ (DX.out _ C.out) (fun hHeld => ?_)
    clear hK K
    try simp only [Act.put, sA, s0, s1]
    refine wpAnyH_ready (rs := [11]) (by kernel_rfl) (by simp) ?_
    refine AllReadyH.cons rfl (fun K hK => ?_) AllReadyH.nil
    replace hK := Lib.hid hK
    refine step_appK (R := spanTy) rfl (.tmp 16) (.tmp 24) rfl rfl (A := A5) (B := some ⟨px, 0, none⟩) (n := xs.length) (m := 1) (c := c5) (d := 1) (xs := [] ++ xs) (ys := [(n, s, s)]) O5.out (by simp) rfl XR.out N2.out ?_
    intro A6 c6 wc o6 g6 e6
    have O6 := Lib.hid o6
    rw [List.nil_append] at O6
    have F6 := Lib.hid (fresh_appS F5.out.1 C.out g6 e6)
    replace C := Lib.hid F6.out.2
    clear o6 g6 e6
    refine hK.out _ _ (DX.out _ C.out) (fun hHeld => ?_)
    clear hK K
    try simp only [Act.put, sA, s0, s1]
    refine wpAnyH_ready (rs := [12]) (by kernel_rfl) (by simp) ?_
    refine AllReadyH.cons rfl (fun K hK => ?_) AllReadyH.nil
    replace hK := Lib.hid hK
    go_simp
    have EL : xs.length + 1 = (xs ++ [(n, s, s)]).length := by simp
    rw [EL]
    refine (qtidy_any wc A6 c6 (xs ++ [(n, s, s)]) O6.out.reads (by have := HL.out; simp; omega) HB.out).mono ?_
    rintro e wc ⟨A9, c9, rfl, h1, h2, h3⟩
    rw [HRR.out] at h1 ⊢
    have O9 := Lib.hid h1
    have N9 : Hid (∀ a, A9 = some a → w.heap.size ≤ a.block) := Lib.hid (fun a ha => by have := h2 a ha; have := (C0.out.trans C.out).size; omega)
    replace C := Lib.hid (C.out.trans h3)
    clear h1 h2 h3 EL
    refine hK.out _ _ (DX.out _ C.out) (fun hHeld => ?_)
    clear hK K
    try simp only [Act.put, sA, s0, s1]
    refine sy 13 27 rfl rfl ?_ (hS := (DX.out _ C.out))
    try simp only [Act.put, sA, s0, s1]
    refine sy 14 28 rfl rfl ?_ (hS := (DX.out _ C.out))
    try simp only [Act.put, sA, s0, s1]
    refine sy 15 4 rfl rfl ?_ (hS := (DX.out _ C.out))
    try simp only [Act.put, sA, s0, s1]
    refine sy 16 5 rfl rfl ?_ (hS := (DX.out _ C.out))
    try simp only [Act.put, sA, s0, s1]
    refine wpAnyH_done (by kernel_rfl) ?_ _
    clear hHeld
    go_wp2
    go_ret2
    exact ⟨A9, c9, rfl, O9.out, N9.out, C0.out.trans C.out⟩
end
section
open Go.RowKit Go.Lib
set_option linter.unusedSimpArgs false
set_option linter.unusedVariables false


set_option maxRecDepth 100000 in
set_option maxHeartbeats 8000000 in
theorem fdlearn_any (w : World) (n : Int) (B : Option Addr) (bc : Nat) (q : List Sp) (a s : Int) (h : RdK spanTy w B q.length q) (hn : q.length ≤ 140737488351232) :
    Calls Tryz.prog 9 #[.agg #[.int .i64 n, .slice B q.length bc], .agg #[.int .i64 a, .int .i64 s]] w fun r w' => ∃ A' c', r = .returned (.tuple #[.agg #[.int .i64 (learnA n q a s).2.1, .slice A' (learnA n q a s).2.2.length c'], .int .i64 (learnA n q a s).1]) ∧ OwnK spanTy w' A' c' (learnA n q a s).2.2 ∧ (∀ a, A' = some a → w.heap.size ≤ a.block) ∧ Chg [] w w' := by
  obtain ⟨w1, hw, hc, b0, b1, b2⟩ := news3 w (.cells #[.int .i64 n, .slice B q.length bc] 24) (.cells #[.int .i64 a, .int .i64 s] 26) (.cells #[.int .i64 0, .slice none 0 0] 24)
  have W1 := Lib.hid hw
  have H := Lib.hid (h.chg hc (by simp))
  have C := Lib.hid (hc)
  have B0 := Lib.hid (b0)
  have B1 := Lib.hid (b1)
  have B2 := Lib.hid (b2)
  have HN := Lib.hid (hn)
  generalize hv : learnA n q a s = v
  have HV := Lib.hid hv
  clear hw hc b0 b1 b2 h hn hv
  go_enter Tryz.func9, Tryz.ntmps9
  go_upto_region 1 with fail
  rw [← W1.out]
  generalize hz2 : w.heap.size + 2 = g2 at *
  generalize hz1 : w.heap.size + 1 = g1 at *
  generalize hz0 : w.heap.size = g0 at *
  have Z := Lib.hid (And.intro hz0 (And.intro hz1 (hz2)))
  have n01 : ¬ g0 = g1 := by omega
  have n02 : ¬ g0 = g2 := by omega
  have n10 : ¬ g1 = g0 := by omega
  have n12 : ¬ g1 = g2 := by omega
  have n20 : ¬ g2 = g0 := by omega
  have n21 : ¬ g2 = g1 := by omega
  clear W1 hz0 hz1 hz2
  have z0 := cell_of B0.out 0
  have z1 := cell_of B0.out 1
  simp only [List.getElem?_toArray, List.getElem?_cons_succ, List.getElem?_cons_zero] at z0 z1
  have y0 := cell_of B1.out 0
  have y1 := cell_of B1.out 1
  simp only [List.getElem?_toArray, List.getElem?_cons_succ, List.getElem?_cons_zero] at y0 y1
  go_wp2_with fail
  clear z0 z1
  clear y0 y1
  refine (fdcheck_any w1 n B q.length bc q H.out HN.out).mono ?_
  rintro r w2 ⟨rfl, hc⟩
  replace C := Lib.hid (C.out.trans hc)
  replace B0 := Lib.hid (hc.at_ B0.out (by simp))
  replace B1 := Lib.hid (hc.at_ B1.out (by simp))
  replace B2 := Lib.hid (hc.at_ B2.out (by simp))
  replace H := Lib.hid (H.out.chg hc (by simp))
  clear hc
  rcases chkA_two n q with hk | hk
  rotate_left
  · skip
    obtain rfl : v = (2, 0, []) := by rw [← HV.out]; unfold learnA; rw [if_neg (by rw [hk]; decide)]
    rw [hk]
    clear hk
    have t0 := cell_of B2.out 0
    have t1 := cell_of B2.out 1
    have ft0 := free_of B2.out 0
    have ft1 := free_of B2.out 1
    simp only [List.getElem?_toArray, List.getElem?_cons_succ, List.getElem?_cons_zero] at t0 t1
    go_wp2
    refine bodyPost_ret (v := .tuple #[.agg #[.int .i64 0, .slice none 0 0], .int .i64 2]) (by simp [results, Tryz.results9, go_sem, t0, t1]) rfl ?_
    exact ⟨none, 0, rfl, OwnK.none_ _, by simp, C.out.trans' (((Chg.refl [g2] w2).put' 0 _).put' 1 _) (fun i hi => .inr (by have := Z.out; simp at hi; omega))⟩
  have LV : Hid (v = if (joinE q [(a, s, s)]).1 = 0 then (0, n, (joinE q [(a, s, s)]).2) else ((joinE q [(a, s, s)]).1, 0, [])) := Lib.hid (by rw [← HV.out]; unfold learnA; rw [if_pos hk])
  rw [hk]
  clear hk HV
  have y0 := cell_of B1.out 0
  have y1 := cell_of B1.out 1
  simp only [List.getElem?_toArray, List.getElem?_cons_succ, List.getElem?_cons_zero] at y0 y1
  go_wp2_with fail
  clear y0 y1
  refine (hcheck_dot w2 a s).mono ?_
  rintro r w3 ⟨rfl, hc⟩
  replace C := Lib.hid (C.out.trans hc)
  replace B0 := Lib.hid (hc.at_ B0.out (by simp))
  replace B1 := Lib.hid (hc.at_ B1.out (by simp))
  replace B2 := Lib.hid (hc.at_ B2.out (by simp))
  replace H := Lib.hid (H.out.chg hc (by simp))
  clear hc
  rcases chk_two [(a, s, s)] with hk | hk
  rotate_left
  · skip
    obtain rfl : v = (2, 0, []) := by rw [LV.out, joinE_dot (by rw [hk]; decide)]; rfl
    rw [hk]
    clear hk
    have t0 := cell_of B2.out 0
    have t1 := cell_of B2.out 1
    have ft0 := free_of B2.out 0
    have ft1 := free_of B2.out 1
    simp only [List.getElem?_toArray, List.getElem?_cons_succ, List.getElem?_cons_zero] at t0 t1
    go_wp2
    refine bodyPost_ret (v := .tuple #[.agg #[.int .i64 0, .slice none 0 0], .int .i64 2]) (by simp [results, Tryz.results9, go_sem, t0, t1]) rfl ?_
    exact ⟨none, 0, rfl, OwnK.none_ _, by simp, C.out.trans' (((Chg.refl [g2] w3).put' 0 _).put' 1 _) (fun i hi => .inr (by have := Z.out; simp at hi; omega))⟩
  rw [hk]
  clear hk
  have z0 := cell_of B0.out 0
  have z1 := cell_of B0.out 1
  simp only [List.getElem?_toArray, List.getElem?_cons_succ, List.getElem?_cons_zero] at z0 z1
  have y0 := cell_of B1.out 0
  have y1 := cell_of B1.out 1
  simp only [List.getElem?_toArray, List.getElem?_cons_succ, List.getElem?_cons_zero] at y0 y1
  go_wp2_with fail
  clear z0 z1
  clear y0 y1
  refine (qadd_any w3 B bc q a s H.out HN.out).mono ?_
  rintro r w4 ⟨A3, c3, rfl, ho, hnw, hc⟩
  generalize joinE q [(a, s, s)] = j at *
  obtain ⟨e, l⟩ := j
  have LW : Hid (v = if e = 0 then (0, n, l) else (e, 0, [])) := Lib.hid LV.out
  have O := Lib.hid ho
  have N : Hid (∀ x, A3 = some x → g2 < x.block) := Lib.hid (fun x hx => by have := hnw x hx; have := lt_of_heap B2.out; omega)
  replace C := Lib.hid (C.out.trans hc)
  replace B0 := Lib.hid (hc.at_ B0.out (by simp))
  replace B2 := Lib.hid (hc.at_ B2.out (by simp))
  clear ho hnw hc LV
  dsimp only at O ⊢
  by_cases he : e = 0
  rotate_left
  · skip
    obtain rfl : v = (e, 0, []) := by rw [LW.out, if_neg he]
    have e1 : ((e != 0) : Bool) = true := bne_iff_ne.2 he
    have e2 : ((e == 0) : Bool) = false := beq_eq_false_iff_ne.2 he
    have t0 := cell_of B2.out 0
    have t1 := cell_of B2.out 1
    have ft0 := free_of B2.out 0
    have ft1 := free_of B2.out 1
    simp only [List.getElem?_toArray, List.getElem?_cons_succ, List.getElem?_cons_zero] at t0 t1
    go_wp2
    refine bodyPost_ret (v := .tuple #[.agg #[.int .i64 0, .slice none 0 0], .int .i64 e]) (by simp [results, Tryz.results9, go_sem, t0, t1]) rfl ?_
    exact ⟨none, 0, rfl, OwnK.none_ _, by simp, C.out.trans' (((Chg.refl [g2] w4).put' 0 _).put' 1 _) (fun i hi => .inr (by have := Z.out; simp at hi; omega))⟩
  subst he
  obtain rfl : v = (0, n, l) := by rw [LW.out, if_pos rfl]
  have t0 := cell_of B2.out 0
  have t1 := cell_of B2.out 1
  have ft0 := free_of B2.out 0
  have ft1 := free_of B2.out 1
  simp only [List.getElem?_toArray, List.getElem?_cons_succ, List.getElem?_cons_zero] at t0 t1
  have z0 := cell_of B0.out 0
  have z1 := cell_of B0.out 1
  simp only [List.getElem?_toArray, List.getElem?_cons_succ, List.getElem?_cons_zero] at z0 z1
  go_wp2
  refine bodyPost_ret (v := .tuple #[.agg #[.int .i64 n, .slice A3 l.length c3], .int .i64 0]) (by simp [results, Tryz.results9, go_sem, t0, t1]) rfl ?_
  exact ⟨A3, c3, rfl, O.out.chg (((Chg.refl [g2] w4).put' 0 _).put' 1 _) (fun x hx => by have := N.out x hx; simp; omega), (fun x hx => by have := N.out x hx; have := Z.out; omega), C.out.trans' (((Chg.refl [g2] w4).put' 0 _).put' 1 _) (fun i hi => .inr (by have := Z.out; simp at hi; omega))⟩
end
section
open Go.RowKit Go.Lib
set_option linter.unusedVariables false

theorem rdk_nil {α : Type} {R : RowTy α} {w : World} {n : Nat} {xs : List α} (h : RdK R w none n xs) : xs = [] := by
  cases xs with
  | nil => rfl
  | cons y ys =>
    have : 0 < (R.flat (y :: ys)).length := by rw [R.flat_len, List.length_cons]; exact Nat.mul_pos (by omega) R.kpos
    obtain ⟨a, h, _⟩ := h.cells 0 _ (List.getElem?_eq_getElem this); cases h
end
section
open Go.RowKit Go.Lib
set_option linter.unusedSimpArgs false
set_option linter.unusedVariables false

set_option maxRecDepth 100000 in
set_option maxHeartbeats 1000000 in
theorem cloneSpan_any (w : World) (A : Option Addr) (n c : Nat) (xs : List Sp) (h : RdK spanTy w A n xs) (hn : n * 400 ≤ 140737488355327) :
    Calls Tryz.prog 66 #[.slice A n c] w fun e w' => ∃ A' c', e = .returned (.slice A' n c') ∧ OwnK spanTy w' A' c' xs ∧ (∀ a, A' = some a → w.heap.size ≤ a.block) ∧ Chg [] w w' := by
  have heq := fun W => Lib.run_eql_slice_nil (P := Tryz.prog) W 22 78 A n c 0 0 Tryz.underlying22
  cases A with
  | none =>
    have hx := rdk_nil h
    subst hx
    have hl : n = 0 := h.len.symm
    subst hl
    clear h
    go_enter Tryz.func66, Tryz.ntmps66
    go_wp2
    go_ret
    exact ⟨none, 0, rfl, OwnK.none_ _, by simp, Chg.refl _ _⟩
  | some ad =>
    obtain ⟨w1, hw1, c1, b1⟩ := news1 w (.cells #[] 78)
    have W1 := Lib.hid hw1
    have HA := Lib.hid (h.chg c1 (by simp))
    have HO : Hid (OwnK spanTy w1 (some ⟨w.heap.size, 0, none⟩) 0 []) := Lib.hid (.of (full := []) b1 (Nat.le_refl _) (Nat.zero_le _) rfl rfl)
    have C1 := Lib.hid c1
    have HN : Hid ((0 + n) * 400 ≤ 140737488355327) := Lib.hid (by rw [Nat.zero_add]; exact hn)
    clear hw1 c1 b1 h hn
    go_enter Tryz.func66, Tryz.ntmps66
    go_wp2_with (at_builtin; rw [← W1.out]; refine wpList_appK rfl _ _ rfl rfl HO.out rfl rfl HA.out HN.out ?_; intro A2 c2 w2 u2 d2 e2)
    go_ret
    rw [Nat.zero_add] at *
    have hA2 : ∀ a, A2 = some a → w.heap.size ≤ a.block := by
      rintro a rfl
      rcases e2 with h | h
      · cases h; exact Nat.le_refl _
      · cases h; exact C1.out.size
    exact ⟨A2, c2, rfl, by simpa using u2, hA2, C1.out.grown d2 (fun k hk => by simp at hk; subst hk; exact .inr (Nat.le_refl _))⟩
end
section
open Go.RowKit Go.Lib
set_option linter.unusedSimpArgs false
set_option linter.unusedVariables false


set_option maxRecDepth 100000 in
set_option maxHeartbeats 8000000 in
theorem edof_any (w : World) (n : Int) (B : Option Addr) (bc : Nat) (q : List Sp) (m : Int) (K : Option Addr) (kc : Nat) (k : List Sp) (h : RdK spanTy w B q.length q) (hn : q.length ≤ 140737488351232) (h2 : RdK spanTy w K k.length k) (hk : k.length * 400 ≤ 140737488355327) :
    Calls Tryz.prog 35 #[.agg #[.int .i64 n, .slice B q.length bc], .int .i64 m, .slice K k.length kc] w fun r w' => ∃ A' c', r = .returned (.agg #[.int .i64 m, .slice A' k.length c']) ∧ OwnK spanTy w' A' c' k ∧ (∀ x, A' = some x → w.heap.size ≤ x.block) ∧ Chg [] w w' := by
  obtain ⟨w1, hw, hc, b0, b1⟩ := news2 w (.cells #[.int .i64 n, .slice B q.length bc] 61) (.cells #[.int .i64 0, .slice none 0 0] 61)
  have W1 := Lib.hid hw
  have H := Lib.hid (h2.chg hc (by simp))
  have C := Lib.hid (hc)
  have B0 := Lib.hid (b0)
  have B1 := Lib.hid (b1)
  have HK := Lib.hid (hk)
  clear hw hc b0 b1 h hn h2 hk
  go_enter Tryz.func35, Tryz.ntmps35
  go_upto_region 1 with fail
  rw [← W1.out]
  generalize hz1 : w.heap.size + 1 = g1 at *
  generalize hz0 : w.heap.size = g0 at *
  have Z := Lib.hid (And.intro hz0 (hz1))
  have n01 : ¬ g0 = g1 := by omega
  have n10 : ¬ g1 = g0 := by omega
  clear W1 hz0 hz1
  go_wp2_with fail
  refine (cloneSpan_any w1 K k.length kc k H.out HK.out).mono ?_
  rintro r w2 ⟨A2, c2, rfl, ho, hnw, hc⟩
  have O := Lib.hid ho
  have N : Hid (∀ x, A2 = some x → g1 < x.block) := Lib.hid (fun x hx => by have := hnw x hx; have := lt_of_heap B1.out; omega)
  replace C := Lib.hid (C.out.trans hc)
  replace B0 := Lib.hid (hc.at_ B0.out (by simp))
  replace B1 := Lib.hid (hc.at_ B1.out (by simp))
  clear ho hnw hc
  have z0 := cell_of B0.out 0
  have z1 := cell_of B0.out 1
  have fz0 := free_of B0.out 0
  have fz1 := free_of B0.out 1
  simp only [List.getElem?_toArray, List.getElem?_cons_succ, List.getElem?_cons_zero] at z0 z1
  go_upto_region 2 with fail
  clear z0 z1 fz0 fz1
  have p0 : ((w2.setCell ⟨g0, 0, none⟩ (.int .i64 m)).setCell ⟨g0, 1, none⟩ (.slice A2 k.length c2)).heap[g0]? = some (.cells #[.int .i64 m, .slice A2 k.length c2] 61 (0, 0)) := heap_setCell_same _ g0 1 _ _ (.slice A2 k.length c2) (heap_setCell_same _ g0 0 _ _ (.int .i64 m) B0.out)
  have k0 := ((Chg.refl [g0] w2).put' 0 (.int .i64 m)).put' 1 (.slice A2 k.length c2)
  have p1 := k0.at_ B1.out (by simp; exact n10)
  have o3 := O.out.chg k0 (fun x hx => by have := N.out x hx; have := Z.out; simp; omega)
  have c3 := C.out.trans' k0 (fun i hi => .inr (by have := Z.out; simp at hi; omega))
  generalize ((w2.setCell ⟨g0, 0, none⟩ (.int .i64 m)).setCell ⟨g0, 1, none⟩ (.slice A2 k.length c2)) = w3 at *
  replace B0 := Lib.hid p0
  replace B1 := Lib.hid p1
  replace O := Lib.hid o3
  replace C := Lib.hid c3
  clear p0 p1 o3 c3 k0
  have z0 := cell_of B0.out 0
  have z1 := cell_of B0.out 1
  simp only [List.getElem?_toArray, List.getElem?_cons_succ, List.getElem?_cons_zero] at z0 z1
  have t0 := cell_of B1.out 0
  have t1 := cell_of B1.out 1
  have ft0 := free_of B1.out 0
  have ft1 := free_of B1.out 1
  simp only [List.getElem?_toArray, List.getElem?_cons_succ, List.getElem?_cons_zero] at t0 t1
  go_wp2
  refine bodyPost_ret (v := .agg #[.int .i64 m, .slice A2 k.length c2]) (by simp [results, Tryz.results35, go_sem, t0, t1]) rfl ?_
  exact ⟨A2, c2, rfl, O.out.chg (((Chg.refl [g1] w3).put' 0 _).put' 1 _) (fun x hx => by have := N.out x hx; simp; omega), (fun x hx => by have := N.out x hx; have := Z.out; omega), C.out.trans' (((Chg.refl [g1] w3).put' 0 _).put' 1 _) (fun i hi => .inr (by have := Z.out; simp at hi; omega))⟩

set_option maxRecDepth 100000 in
set_option maxHeartbeats 8000000 in
theorem edreset_any (w : World) (n : Int) (B : Option Addr) (bc : Nat) (q : List Sp) (m : Int) (K : Option Addr) (kc : Nat) (k : List Sp) (h : RdK spanTy w B q.length q) (hn : q.length ≤ 140737488351232) (h2 : RdK spanTy w K k.length k) (hk : k.length * 400 ≤ 140737488355327) :
    Calls Tryz.prog 10 #[.agg #[.int .i64 n, .slice B q.length bc], .int .i64 m, .slice K k.length kc] w fun r w' => ∃ A' c', r = .returned (.tuple #[.agg #[.int .i64 (resetA n q m k).2.1, .slice A' (resetA n q m k).2.2.length c'], .int .i64 (resetA n q m k).1]) ∧ OwnK spanTy w' A' c' (resetA n q m k).2.2 ∧ (∀ a, A' = some a → w.heap.size ≤ a.block) ∧ Chg [] w w' := by
  obtain ⟨w1, hw, hc, b0, b1⟩ := news2 w (.cells #[.int .i64 n, .slice B q.length bc] 24) (.cells #[.int .i64 0, .slice none 0 0] 24)
  have W1 := Lib.hid hw
  have H := Lib.hid (h.chg hc (by simp))
  have H2 := Lib.hid (h2.chg hc (by simp))
  have C := Lib.hid (hc)
  have B0 := Lib.hid (b0)
  have B1 := Lib.hid (b1)
  have HK := Lib.hid (hk)
  have HN := Lib.hid (hn)
  generalize hv : resetA n q m k = v
  have HV := Lib.hid hv
  clear hw hc b0 b1 h hn h2 hk hv
  go_enter Tryz.func10, Tryz.ntmps10
  go_upto_region 1 with fail
  rw [← W1.out]
  generalize hz1 : w.heap.size + 1 = g1 at *
  generalize hz0 : w.heap.size = g0 at *
  have Z := Lib.hid (And.intro hz0 (hz1))
  have n01 : ¬ g0 = g1 := by omega
  have n10 : ¬ g1 = g0 := by omega
  clear W1 hz0 hz1
  have z0 := cell_of B0.out 0
  have z1 := cell_of B0.out 1
  simp only [List.getElem?_toArray, List.getElem?_cons_succ, List.getElem?_cons_zero] at z0 z1
  go_wp2_with fail
  clear z0 z1
  refine (edof_any w1 n B bc q m K kc k H.out HN.out H2.out HK.out).mono ?_
  rintro r w2 ⟨A2, c2, rfl, ho, hnw, hc⟩
  have O := Lib.hid ho
  have N : Hid (∀ x, A2 = some x → g1 < x.block) := Lib.hid (fun x hx => by have := hnw x hx; have := lt_of_heap B1.out; omega)
  replace C := Lib.hid (C.out.trans hc)
  replace B0 := Lib.hid (hc.at_ B0.out (by simp))
  replace B1 := Lib.hid (hc.at_ B1.out (by simp))
  replace H := Lib.hid (H.out.chg hc (by simp))
  clear ho hnw hc
  obtain ⟨w3, hw, hc, b2⟩ := news1 w2 (.cells #[.int .i64 m, .slice A2 k.length c2] 24)
  have W3 := Lib.hid hw
  have B2 := Lib.hid b2
  have N2 : Hid (¬ g1 = w2.heap.size) := Lib.hid (by have := lt_of_heap B1.out; omega)
  replace O := Lib.hid (O.out.chg hc (by simp))
  replace C := Lib.hid (C.out.trans hc)
  replace B0 := Lib.hid (hc.at_ B0.out (by simp))
  replace B1 := Lib.hid (hc.at_ B1.out (by simp))
  replace H := Lib.hid (H.out.chg hc (by simp))
  clear hw hc b2
  go_upto_region 2 with fail
  rw [← W3.out]
  generalize w2.heap.size = g2 at *
  have n12 : ¬ g1 = g2 := N2.out
  have n21 : ¬ g2 = g1 := fun h => n12 h.symm
  clear W3
  have z0 := cell_of B0.out 0
  have z1 := cell_of B0.out 1
  simp only [List.getElem?_toArray, List.getElem?_cons_succ, List.getElem?_cons_zero] at z0 z1
  go_wp2_with fail
  clear z0 z1
  refine (edcheck_any w3 n B q.length bc q H.out HN.out).mono ?_
  rintro r w4 ⟨rfl, hc⟩
  replace C := Lib.hid (C.out.trans hc)
  replace B1 := Lib.hid (hc.at_ B1.out (by simp))
  replace B2 := Lib.hid (hc.at_ B2.out (by simp))
  replace O := Lib.hid (O.out.chg hc (by simp))
  clear hc
  rcases chkA_two n q with hk | hk
  rotate_left
  · skip
    obtain rfl : v = (2, 0, []) := by rw [← HV.out]; unfold resetA; rw [if_neg (by rw [hk]; rintro ⟨h, _⟩; exact absurd h (by decide))]
    rw [hk]
    clear hk
    have t0 := cell_of B1.out 0
    have t1 := cell_of B1.out 1
    have ft0 := free_of B1.out 0
    have ft1 := free_of B1.out 1
    simp only [List.getElem?_toArray, List.getElem?_cons_succ, List.getElem?_cons_zero] at t0 t1
    go_wp2
    refine bodyPost_ret (v := .tuple #[.agg #[.int .i64 0, .slice none 0 0], .int .i64 2]) (by simp [results, Tryz.results10, go_sem, t0, t1]) rfl ?_
    exact ⟨none, 0, rfl, OwnK.none_ _, by simp, C.out.trans' (((Chg.refl [g1] w4).put' 0 _).put' 1 _) (fun i hi => .inr (by have := Z.out; simp at hi; omega))⟩
  have LV : Hid (v = if chkA m k = 0 then (0, m, k) else (2, 0, [])) := Lib.hid (by rw [← HV.out]; unfold resetA; rw [hk]; simp)
  rw [hk]
  clear hk HV
  have z0 := cell_of B2.out 0
  have z1 := cell_of B2.out 1
  simp only [List.getElem?_toArray, List.getElem?_cons_succ, List.getElem?_cons_zero] at z0 z1
  go_wp2_with fail
  clear z0 z1
  refine (edcheck_any w4 m A2 k.length c2 k O.out.reads (by have := HK.out; omega)).mono ?_
  rintro r w5 ⟨rfl, hc⟩
  replace C := Lib.hid (C.out.trans hc)
  replace B1 := Lib.hid (hc.at_ B1.out (by simp))
  replace B2 := Lib.hid (hc.at_ B2.out (by simp))
  replace O := Lib.hid (O.out.chg hc (by simp))
  clear hc
  rcases chkA_two m k with hk | hk
  rotate_left
  · skip
    obtain rfl : v = (2, 0, []) := by rw [LV.out, if_neg (by rw [hk]; decide)]
    rw [hk]
    clear hk
    have t0 := cell_of B1.out 0
    have t1 := cell_of B1.out 1
    have ft0 := free_of B1.out 0
    have ft1 := free_of B1.out 1
    simp only [List.getElem?_toArray, List.getElem?_cons_succ, List.getElem?_cons_zero] at t0 t1
    go_wp2
    refine bodyPost_ret (v := .tuple #[.agg #[.int .i64 0, .slice none 0 0], .int .i64 2]) (by simp [results, Tryz.results10, go_sem, t0, t1]) rfl ?_
    exact ⟨none, 0, rfl, OwnK.none_ _, by simp, C.out.trans' (((Chg.refl [g1] w5).put' 0 _).put' 1 _) (fun i hi => .inr (by have := Z.out; simp at hi; omega))⟩
  obtain rfl : v = (0, m, k) := by rw [LV.out, if_pos hk]
  rw [hk]
  clear hk
  have t0 := cell_of B1.out 0
  have t1 := cell_of B1.out 1
  have ft0 := free_of B1.out 0
  have ft1 := free_of B1.out 1
  simp only [List.getElem?_toArray, List.getElem?_cons_succ, List.getElem?_cons_zero] at t0 t1
  have z0 := cell_of B2.out 0
  have z1 := cell_of B2.out 1
  simp only [List.getElem?_toArray, List.getElem?_cons_succ, List.getElem?_cons_zero] at z0 z1
  go_wp2
  refine bodyPost_ret (v := .tuple #[.agg #[.int .i64 m, .slice A2 k.length c2], .int .i64 0]) (by simp [results, Tryz.results10, go_sem, t0, t1]) rfl ?_
  exact ⟨A2, c2, rfl, O.out.chg (((Chg.refl [g1] w5).put' 0 _).put' 1 _) (fun x hx => by have := N.out x hx; simp; omega), (fun x hx => by have := N.out x hx; have := Z.out; omega), C.out.trans' (((Chg.refl [g1] w5).put' 0 _).put' 1 _) (fun i hi => .inr (by have := Z.out; simp at hi; omega))⟩

set_option maxRecDepth 100000 in
set_option maxHeartbeats 8000000 in
theorem fdreset_any (w : World) (n : Int) (B : Option Addr) (bc : Nat) (q : List Sp) (m : Int) (K : Option Addr) (kc : Nat) (k : List Sp) (h : RdK spanTy w B q.length q) (hn : q.length ≤ 140737488351232) (h2 : RdK spanTy w K k.length k) (hk : k.length * 400 ≤ 140737488355327) :
    Calls Tryz.prog 11 #[.agg #[.int .i64 n, .slice B q.length bc], .int .i64 m, .slice K k.length kc] w fun r w' => ∃ A' c', r = .returned (.tuple #[.agg #[.int .i64 (resetA n q m k).2.1, .slice A' (resetA n q m k).2.2.length c'], .int .i64 (resetA n q m k).1]) ∧ OwnK spanTy w' A' c' (resetA n q m k).2.2 ∧ (∀ a, A' = some a → w.heap.size ≤ a.block) ∧ Chg [] w w' := by
  obtain ⟨w1, hw, hc, b0, b1⟩ := news2 w (.cells #[.int .i64 n, .slice B q.length bc] 24) (.cells #[.int .i64 0, .slice none 0 0] 24)
  have W1 := Lib.hid hw
  have H := Lib.hid (h.chg hc (by simp))
  have H2 := Lib.hid (h2.chg hc (by simp))
  have C := Lib.hid (hc)
  have B0 := Lib.hid (b0)
  have B1 := Lib.hid (b1)
  have HK := Lib.hid (hk)
  have HN := Lib.hid (hn)
  generalize hv : resetA n q m k = v
  have HV := Lib.hid hv
  clear hw hc b0 b1 h hn h2 hk hv
  go_enter Tryz.func11, Tryz.ntmps11
  go_upto_region 1 with fail
  rw [← W1.out]
  generalize hz1 : w.heap.size + 1 = g1 at *
  generalize hz0 : w.heap.size = g0 at *
  have Z := Lib.hid (And.intro hz0 (hz1))
  have n01 : ¬ g0 = g1 := by omega
  have n10 : ¬ g1 = g0 := by omega
  clear W1 hz0 hz1
  obtain ⟨we, hwe, ce, be⟩ := news1 w1 (.cells #[] 78)
  have WE := Lib.hid hwe
  have HE := Lib.hid (H2.out.chg ce (by simp))
  have HO : Hid (OwnK spanTy we (some ⟨w1.heap.size, 0, none⟩) 0 []) := Lib.hid (.of (full := []) be (Nat.le_refl _) (Nat.zero_le _) rfl rfl)
  have CE := Lib.hid ce
  have SE : Hid (g1 < w1.heap.size) := Lib.hid (lt_of_heap B1.out)
  have HM : Hid ((0 + k.length) * 400 ≤ 140737488355327) := Lib.hid (by rw [Nat.zero_add]; exact HK.out)
  clear hwe ce be
  go_upto_region 2 with (at_builtin; rw [← WE.out]; refine wpList_appK rfl _ _ rfl rfl HO.out rfl rfl HE.out HM.out ?_; intro A2 c2 w2 u2 d2 e2)
  rw [Nat.zero_add] at *
  have O : Hid (OwnK spanTy w2 A2 c2 k) := Lib.hid (by simpa using u2)
  have N : Hid (∀ x, A2 = some x → g1 < x.block) := Lib.hid (by
    rintro x rfl
    rcases e2 with e | e
    · cases e; exact SE.out
    · cases e; exact Nat.lt_of_lt_of_le SE.out CE.out.size)
  have hc : Chg [] w1 w2 := CE.out.grown d2 (fun i hi => by simp at hi; subst hi; exact .inr (Nat.le_refl _))
  replace C := Lib.hid (C.out.trans hc)
  replace B0 := Lib.hid (hc.at_ B0.out (by simp))
  replace B1 := Lib.hid (hc.at_ B1.out (by simp))
  replace H := Lib.hid (H.out.chg hc (by simp))
  clear u2 d2 e2 hc WE HE HO CE SE HM
  obtain ⟨w3, hw, hc, b2⟩ := news1 w2 (.cells #[.int .i64 m, .slice A2 k.length c2] 24)
  have W3 := Lib.hid hw
  have B2 := Lib.hid b2
  have N2 : Hid (¬ g1 = w2.heap.size) := Lib.hid (by have := lt_of_heap B1.out; omega)
  replace O := Lib.hid (O.out.chg hc (by simp))
  replace C := Lib.hid (C.out.trans hc)
  replace B0 := Lib.hid (hc.at_ B0.out (by simp))
  replace B1 := Lib.hid (hc.at_ B1.out (by simp))
  replace H := Lib.hid (H.out.chg hc (by simp))
  clear hw hc b2
  rw [← W3.out]
  generalize w2.heap.size = g2 at *
  have n12 : ¬ g1 = g2 := N2.out
  have n21 : ¬ g2 = g1 := fun h => n12 h.symm
  clear W3
  have z0 := cell_of B0.out 0
  have z1 := cell_of B0.out 1
  simp only [List.getElem?_toArray, List.getElem?_cons_succ, List.getElem?_cons_zero] at z0 z1
  go_wp2_with fail
  clear z0 z1
  refine (fdcheck_any w3 n B q.length bc q H.out HN.out).mono ?_
  rintro r w4 ⟨rfl, hc⟩
  replace C := Lib.hid (C.out.trans hc)
  replace B1 := Lib.hid (hc.at_ B1.out (by simp))
  replace B2 := Lib.hid (hc.at_ B2.out (by simp))
  replace O := Lib.hid (O.out.chg hc (by simp))
  clear hc
  rcases chkA_two n q with hk | hk
  rotate_left
  · skip
    obtain rfl : v = (2, 0, []) := by rw [← HV.out]; unfold resetA; rw [if_neg (by rw [hk]; rintro ⟨h, _⟩; exact absurd h (by decide))]
    rw [hk]
    clear hk
    have t0 := cell_of B1.out 0
    have t1 := cell_of B1.out 1
    have ft0 := free_of B1.out 0
    have ft1 := free_of B1.out 1
    simp only [List.getElem?_toArray, List.getElem?_cons_succ, List.getElem?_cons_zero] at t0 t1
    go_wp2
    refine bodyPost_ret (v := .tuple #[.agg #[.int .i64 0, .slice none 0 0], .int .i64 2]) (by simp [results, Tryz.results11, go_sem, t0, t1]) rfl ?_
    exact ⟨none, 0, rfl, OwnK.none_ _, by simp, C.out.trans' (((Chg.refl [g1] w4).put' 0 _).put' 1 _) (fun i hi => .inr (by have := Z.out; simp at hi; omega))⟩
  have LV : Hid (v = if chkA m k = 0 then (0, m, k) else (2, 0, [])) := Lib.hid (by rw [← HV.out]; unfold resetA; rw [hk]; simp)
  rw [hk]
  clear hk HV
  have z0 := cell_of B2.out 0
  have z1 := cell_of B2.out 1
  simp only [List.getElem?_toArray, List.getElem?_cons_succ, List.getElem?_cons_zero] at z0 z1
  go_wp2_with fail
  clear z0 z1
  refine (fdcheck_any w4 m A2 k.length c2 k O.out.reads (by have := HK.out; omega)).mono ?_
  rintro r w5 ⟨rfl, hc⟩
  replace C := Lib.hid (C.out.trans hc)
  replace B1 := Lib.hid (hc.at_ B1.out (by simp))
  replace B2 := Lib.hid (hc.at_ B2.out (by simp))
  replace O := Lib.hid (O.out.chg hc (by simp))
  clear hc
  rcases chkA_two m k with hk | hk
  rotate_left
  · skip
    obtain rfl : v = (2, 0, []) := by rw [LV.out, if_neg (by rw [hk]; decide)]
    rw [hk]
    clear hk
    have t0 := cell_of B1.out 0
    have t1 := cell_of B1.out 1
    have ft0 := free_of B1.out 0
    have ft1 := free_of B1.out 1
    simp only [List.getElem?_toArray, List.getElem?_cons_succ, List.getElem?_cons_zero] at t0 t1
    go_wp2
    refine bodyPost_ret (v := .tuple #[.agg #[.int .i64 0, .slice none 0 0], .int .i64 2]) (by simp [results, Tryz.results11, go_sem, t0, t1]) rfl ?_
    exact ⟨none, 0, rfl, OwnK.none_ _, by simp, C.out.trans' (((Chg.refl [g1] w5).put' 0 _).put' 1 _) (fun i hi => .inr (by have := Z.out; simp at hi; omega))⟩
  obtain rfl : v = (0, m, k) := by rw [LV.out, if_pos hk]
  rw [hk]
  clear hk
  have t0 := cell_of B1.out 0
  have t1 := cell_of B1.out 1
  have ft0 := free_of B1.out 0
  have ft1 := free_of B1.out 1
  simp only [List.getElem?_toArray, List.getElem?_cons_succ, List.getElem?_cons_zero] at t0 t1
  have z0 := cell_of B2.out 0
  have z1 := cell_of B2.out 1
  simp only [List.getElem?_toArray, List.getElem?_cons_succ, List.getElem?_cons_zero] at z0 z1
  go_wp2
  refine bodyPost_ret (v := .tuple #[.agg #[.int .i64 m, .slice A2 k.length c2], .int .i64 0]) (by simp [results, Tryz.results11, go_sem, t0, t1]) rfl ?_
  exact ⟨A2, c2, rfl, O.out.chg (((Chg.refl [g1] w5).put' 0 _).put' 1 _) (fun x hx => by have := N.out x hx; simp; omega), (fun x hx => by have := N.out x hx; have := Z.out; omega), C.out.trans' (((Chg.refl [g1] w5).put' 0 _).put' 1 _) (fun i hi => .inr (by have := Z.out; simp at hi; omega))⟩
end
section
open Go.RowKit Go.Lib
set_option linter.unusedSimpArgs false
set_option linter.unusedVariables false


theorem join4 {α β γ δ : Type} {F R : α → β → γ → δ → Prop} {G : Prop} (h1 : (∀ a b c d, F a b c d → R a b c d) → G) (h2 : ∀ a b c d, F a b c d → R a b c d) : G := h1 h2
theorem joinE_len (a b : List Sp) : (joinE a b).2.length ≤ a.length + b.length := by
  unfold joinE
  split
  · unfold boundP
    split
    · simp
    · have := tidy_len (a ++ b)
      rw [List.length_append] at this
      exact this
  · simp
theorem learnA_len (n : Int) (q : List Sp) (a s : Int) : (learnA n q a s).2.2.length ≤ q.length + 1 := by
  have := joinE_len q [(a, s, s)]
  unfold learnA
  split
  · split
    · exact this
    · simp
  · simp
theorem resetA_len (n : Int) (q : List Sp) (m : Int) (k : List Sp) : (resetA n q m k).2.2.length ≤ k.length := by
  unfold resetA
  split <;> simp
theorem newA_len (n : Int) : (newA n).2.2.length ≤ 0 := by
  unfold newA
  split <;> simp

set_option maxRecDepth 100000 in
set_option maxHeartbeats 32000000 in
theorem edgetells_yes (w : World) (n : Int) (B : Option Addr) (bl bc : Nat) (q : List Sp) (a s m : Int) (Ks : Option Addr) (kl kc : Nat) (k : List Sp) (ha : RdK spanTy w B bl q) (hq : bl * 24 ≤ 140737488351232) (hk : RdK spanTy w Ks kl k) (hn : kl * 24 ≤ 140737488351232) :
    Calls Tryz.prog 3 #[.agg #[.int .i64 n, .slice B bl bc], .agg #[.int .i64 a, .int .i64 s], .int .i64 m, .slice Ks kl kc] w fun r w' => r = .returned (.bool true) ∧ Chg [] w w' := by
  have hl := ha.len
  subst hl
  have hl2 := hk.len
  subst hl2
  obtain ⟨w1, hw, hc, b0, b1⟩ := news2 w (.cells #[.int .i64 n, .slice B q.length bc] 24) (.cells #[.int .i64 a, .int .i64 s] 26)
  have W1 := Lib.hid hw
  have B0 := Lib.hid b0
  have B1 := Lib.hid b1
  have ha0 := Lib.hid ha
  have hk0 := Lib.hid hk
  have HA := Lib.hid (ha.chg hc (by simp))
  have HK := Lib.hid (hk.chg hc (by simp))
  have C := Lib.hid hc
  clear hw hc b0 b1 ha hk hq hn
  go_enter Tryz.func3, Tryz.ntmps3
  go_upto_region 1 with fail
  rw [← W1.out]
  generalize hz1 : w.heap.size + 1 = g1 at *
  generalize hz0 : w.heap.size = g0 at *
  have Z0 := Lib.hid hz0
  clear W1 hz0 hz1
  have z0 := cell_of B0.out 0
  have z1 := cell_of B0.out 1
  simp only [List.getElem?_toArray, List.getElem?_cons_succ, List.getElem?_cons_zero] at z0 z1
  by_cases h1 : 100 < q.length
  · skip
    have h1 : (100 : Int) < (q.length : Int) := by omega
    go_wp2_with fail
    refine (edgeAwake_run _).mono ?_
    rintro r w2 ⟨rfl, hc⟩
    replace C := Lib.hid (C.out.trans hc)
    go_wp2
    go_ret
    exact ⟨rfl, C.out⟩
  have h1i : ¬ (100 : Int) < (q.length : Int) := by omega
  by_cases h2 : 100 < k.length
  · skip
    have h2 : (100 : Int) < (k.length : Int) := by omega
    go_wp2_with fail
    refine (edgeAwake_run _).mono ?_
    rintro r w2 ⟨rfl, hc⟩
    replace C := Lib.hid (C.out.trans hc)
    go_wp2
    go_ret
    exact ⟨rfl, C.out⟩
  have h2i : ¬ (100 : Int) < (k.length : Int) := by omega
  have HM : Hid (q.length ≤ 100 ∧ k.length ≤ 100) := Lib.hid (by omega)
  clear h1 h2
  go_upto_region 3 with fail
  clear h1i h2i
  clear z0 z1
  have DX : Hid (∀ w', Chg [] w1 w' → w'.cell? ⟨g0, 0, none⟩ = some (.int .i64 n) ∧ w'.cell? ⟨g0, 1, none⟩ = some (.slice B q.length bc)) := Lib.hid (fun w' hc => by
    have b0 := hc.at_ B0.out (by simp)
    exact ⟨cell_of b0 0, cell_of b0 1⟩)
  refine' join4 (F := fun (A1 : Option Addr) (c1 p : Nat) (w7 : World) => Hid (OwnK spanTy w7 A1 c1 k) ∧ Hid (∀ x, A1 = some x → x.block ≠ p) ∧ Hid (w7.heap[p]? = some (.cells #[.int .i64 n, .slice B q.length bc] 24 (0, 0))) ∧ Hid (Chg [] w1 w7 ∧ w1.heap.size ≤ p)) (R := _) (fun JOIN => ?leaf) ?rest
  case leaf =>
    refine wp_region_held_drew (S := fun w' => w'.cell? ⟨g0, 0, none⟩ = some (.int .i64 n) ∧ w'.cell? ⟨g0, 1, none⟩ = some (.slice B q.length bc)) (by kernel_rfl) (DX.out _ (Chg.refl [] w1).drew) (fun hHeld => ?_)
    have CC : Hid (Chg [] w1 w1.drew) := Lib.hid (Chg.refl [] w1).drew
    clear hHeld
    obtain ⟨wc, hwc⟩ : ∃ wc, w1.drew = wc := ⟨_, rfl⟩
    rw [hwc] at CC ⊢
    clear hwc
    refine sy 0 37 rfl rfl ?_ (hS := (DX.out _ CC.out)) (hy := by (intro w hSw; (try dsimp only at hSw); obtain ⟨q0, q1⟩ := hSw; go_simp; try with_reducible rfl))
    try simp only [Act.put, sA, s0, s1]
    refine sy 1 38 rfl rfl ?_ (hS := (DX.out _ CC.out))
    try simp only [Act.put, sA, s0, s1]
    refine wpAnyH_ready (rs := [2, 3]) (by kernel_rfl) (by simp) ?_
    refine AllReadyH.cons rfl (fun K hK => ?_) (AllReadyH.cons rfl (fun K hK => ?_) AllReadyH.nil)
    · skip
      replace hK := Lib.hid hK
      go_simp
      refine (copyspan_any wc Ks k.length kc k (HK.out.chg CC.out (by simp)) (by have := HM.out; omega)).mono ?_
      rintro r wn ⟨A1, c1, rfl, ho, hnw, hc⟩
      have O1 := Lib.hid ho
      have L1 : Hid (∀ x, A1 = some x → x.block < wn.heap.size) := Lib.hid ho.lt_
      replace CC := Lib.hid (CC.out.trans hc)
      clear ho hnw hc
      refine hK.out _ _ (DX.out _ CC.out) (fun hHeld => ?_)
      clear hK K
      try simp only [Act.put, sA, s0, s1]
      refine wpAnyH_ready (rs := [3]) (by kernel_rfl) (by simp) ?_
      refine AllReadyH.cons rfl (fun K hK => ?_) AllReadyH.nil
      replace hK := Lib.hid hK
      go_simp
      obtain ⟨p, hp⟩ : ∃ n, n = wn.heap.size := ⟨_, rfl⟩
      have N1 : Hid (∀ x, A1 = some x → x.block ≠ p) := Lib.hid (fun x hx => by have := L1.out x hx; omega)
      have GP : Hid (w1.heap.size ≤ p) := Lib.hid (by have := CC.out.size; omega)
      obtain ⟨wp, hw, cn, bn⟩ := news1 wn (.cells #[.int .i64 0, .slice none 0 0] 24)
      rw [← hw, ← hp]
      rw [← hp] at bn
      replace O1 := Lib.hid (O1.out.chg cn (by simp))
      have BP := Lib.hid bn
      replace CC := Lib.hid (CC.out.trans cn)
      clear hw hp cn bn
      refine hK.out _ _ (DX.out _ CC.out) (fun hHeld => ?_)
      clear hK K
      try simp only [Act.put, sA, s0, s1]
      refine wpAnyH_ready (rs := [4]) (by kernel_rfl) (by simp) ?_
      refine AllReadyH.cons rfl (fun K hK => ?_) AllReadyH.nil
      replace hK := Lib.hid hK
      have f0 := free_of BP.out 0
      have f1 := free_of BP.out 1
      have v0 := cell_of BP.out 0
      have v1 := cell_of BP.out 1
      simp only [List.getElem?_toArray, List.getElem?_cons_succ, List.getElem?_cons_zero] at v0 v1
      go_simp
      clear f0 f1 v0 v1
      obtain ⟨bk, ok, ck⟩ := setE2 (.int .i64 n) (.slice B q.length bc) BP.out
      have o1 := O1.out.chg ck (fun x hx => by simp; exact N1.out x hx)
      have c1_ := CC.out.trans' ck (fun i hi => .inr (by have := GP.out; simp at hi; omega))
      generalize ((wp.setCell ⟨p, 0, none⟩ (.int .i64 n)).setCell ⟨p, 1, none⟩ (.slice B q.length bc)) = wz at bk ck o1 c1_ ⊢
      replace BP := Lib.hid bk
      replace O1 := Lib.hid o1
      replace CC := Lib.hid c1_
      clear bk ok ck o1 c1_
      refine hK.out _ _ (DX.out _ CC.out) (fun hHeld => ?_)
      clear hK K
      try simp only [Act.put, sA, s0, s1]
      refine sy 5 10 rfl rfl ?_ (hS := (DX.out _ CC.out))
      try simp only [Act.put, sA, s0, s1]
      refine wpAnyH_done (by kernel_rfl) ?_ _
      clear hHeld
      exact JOIN A1 c1 p _ ⟨O1, N1, BP, Lib.hid ⟨CC.out, GP.out⟩⟩
    · skip
      replace hK := Lib.hid hK
      go_simp
      obtain ⟨p, hp⟩ : ∃ n, n = wc.heap.size := ⟨_, rfl⟩
      have GP : Hid (w1.heap.size ≤ p) := Lib.hid (by have := CC.out.size; omega)
      obtain ⟨wp, hw, cn, bn⟩ := news1 wc (.cells #[.int .i64 0, .slice none 0 0] 24)
      rw [← hw, ← hp]
      rw [← hp] at bn
      have BP := Lib.hid bn
      replace CC := Lib.hid (CC.out.trans cn)
      clear hw hp cn bn
      obtain ⟨wc, hwc⟩ : ∃ wc, wp = wc := ⟨_, rfl⟩
      rw [hwc] at CC BP ⊢
      clear hwc
      refine hK.out _ _ (DX.out _ CC.out) (fun hHeld => ?_)
      clear hK K
      try simp only [Act.put, sA, s0, s1]
      refine wpAnyH_ready (rs := [2]) (by kernel_rfl) (by simp) ?_
      refine AllReadyH.cons rfl (fun K hK => ?_) AllReadyH.nil
      replace hK := Lib.hid hK
      go_simp
      refine (copyspan_any wc Ks k.length kc k (HK.out.chg CC.out (by simp)) (by have := HM.out; omega)).mono ?_
      rintro r wn ⟨A1, c1, rfl, ho, hnw, hc⟩
      have O1 := Lib.hid ho
      have N1 : Hid (∀ x, A1 = some x → x.block ≠ p) := Lib.hid (fun x hx => by have := hnw x hx; have := lt_of_heap BP.out; omega)
      replace BP := Lib.hid (hc.at_ BP.out (by simp))
      replace CC := Lib.hid (CC.out.trans hc)
      clear ho hnw hc
      refine hK.out _ _ (DX.out _ CC.out) (fun hHeld => ?_)
      clear hK K
      try simp only [Act.put, sA, s0, s1]
      refine wpAnyH_ready (rs := [4]) (by kernel_rfl) (by simp) ?_
      refine AllReadyH.cons rfl (fun K hK => ?_) AllReadyH.nil
      replace hK := Lib.hid hK
      have f0 := free_of BP.out 0
      have f1 := free_of BP.out 1
      have v0 := cell_of BP.out 0
      have v1 := cell_of BP.out 1
      simp only [List.getElem?_toArray, List.getElem?_cons_succ, List.getElem?_cons_zero] at v0 v1
      go_simp
      clear f0 f1 v0 v1
      obtain ⟨bk, ok, ck⟩ := setE2 (.int .i64 n) (.slice B q.length bc) BP.out
      have o1 := O1.out.chg ck (fun x hx => by simp; exact N1.out x hx)
      have c1_ := CC.out.trans' ck (fun i hi => .inr (by have := GP.out; simp at hi; omega))
      generalize ((wn.setCell ⟨p, 0, none⟩ (.int .i64 n)).setCell ⟨p, 1, none⟩ (.slice B q.length bc)) = wz at bk ck o1 c1_ ⊢
      replace BP := Lib.hid bk
      replace O1 := Lib.hid o1
      replace CC := Lib.hid c1_
      clear bk ok ck o1 c1_
      refine hK.out _ _ (DX.out _ CC.out) (fun hHeld => ?_)
      clear hK K
      try simp only [Act.put, sA, s0, s1]
      refine sy 5 10 rfl rfl ?_ (hS := (DX.out _ CC.out))
      try simp only [Act.put, sA, s0, s1]
      refine wpAnyH_done (by kernel_rfl) ?_ _
      clear hHeld
      exact JOIN A1 c1 p _ ⟨O1, N1, BP, Lib.hid ⟨CC.out, GP.out⟩⟩
  case rest =>
    rintro A1 c1 g9 w2 ⟨O1, N1, B9, hcc⟩
    have hc := hcc.out.1
    have G9 : Hid (g0 < g9 ∧ g1 < g9) := Lib.hid (by have := hcc.out.2; have := lt_of_heap B0.out; have := lt_of_heap B1.out; omega)
    replace C := Lib.hid (C.out.trans hc)
    replace HA := Lib.hid (HA.out.chg hc (by simp))
    replace HK := Lib.hid (HK.out.chg hc (by simp))
    replace B0 := Lib.hid (hc.at_ B0.out (by simp))
    replace B1 := Lib.hid (hc.at_ B1.out (by simp))
    clear hc hcc
    have GZ := Lib.hid (lt_of_heap B9.out)
    have z0 := cell_of B0.out 0
    have z1 := cell_of B0.out 1
    simp only [List.getElem?_toArray, List.getElem?_cons_succ, List.getElem?_cons_zero] at z0 z1
    go_wp2_with fail
    clear z0 z1
    refine (copyspan_any w2 B q.length bc q HA.out (by have := HM.out; omega)).mono ?_
    rintro r w3 ⟨A2, c2, rfl, ho, hnw, hc⟩
    have O2 := Lib.hid ho
    have N2 : Hid (∀ x, A2 = some x → x.block ≠ g9) := Lib.hid (fun x hx => by have := hnw x hx; have := GZ.out; omega)
    replace C := Lib.hid (C.out.trans hc)
    replace HA := Lib.hid (HA.out.chg hc (by simp))
    replace HK := Lib.hid (HK.out.chg hc (by simp))
    replace B0 := Lib.hid (hc.at_ B0.out (by simp))
    replace B1 := Lib.hid (hc.at_ B1.out (by simp))
    replace O1 := Lib.hid (O1.out.chg hc (by simp))
    replace B9 := Lib.hid (hc.at_ B9.out (by simp))
    clear ho hnw hc
    have z0 := cell_of B9.out 0
    have z1 := cell_of B9.out 1
    have fz0 := free_of B9.out 0
    have fz1 := free_of B9.out 1
    simp only [List.getElem?_toArray, List.getElem?_cons_succ, List.getElem?_cons_zero] at z0 z1
    go_upto_region 5 with fail
    clear z0 z1 fz0 fz1
    have p0 : (w3.setCell ⟨g9, 1, none⟩ (.slice A2 q.length c2)).heap[g9]? = some (.cells #[.int .i64 n, .slice A2 q.length c2] 24 (0, 0)) := heap_setCell_same _ g9 1 _ _ (.slice A2 q.length c2) B9.out
    have k0 := (Chg.refl [g9] w3).put' 1 (.slice A2 q.length c2)
    have pp0 := k0.at_ B0.out (by have := G9.out; simp; omega)
    have pp1 := k0.at_ B1.out (by have := G9.out; simp; omega)
    have o1 := O1.out.chg k0 (fun x hx => by simp; exact N1.out x hx)
    have o2 := O2.out.chg k0 (fun x hx => by simp; exact N2.out x hx)
    have c3 := C.out.trans' k0 (fun i hi => .inr (by have := G9.out; have := Z0.out; simp at hi; omega))
    generalize (w3.setCell ⟨g9, 1, none⟩ (.slice A2 q.length c2)) = w5 at *
    have HA5 := Lib.hid (ha0.out.chg c3 (by simp))
    have HK5 := Lib.hid (hk0.out.chg c3 (by simp))
    replace B9 := Lib.hid p0
    replace B0 := Lib.hid pp0
    replace B1 := Lib.hid pp1
    replace O1 := Lib.hid o1
    replace O2 := Lib.hid o2
    replace C := Lib.hid c3
    clear p0 pp0 pp1 o1 o2 c3 k0 HA HK
    have D := Lib.hid (Chg.refl [] w5)
    obtain ⟨L, hL⟩ : ∃ L, learnA n q a s = L := ⟨_, rfl⟩
    obtain ⟨R, hR⟩ : ∃ R, resetA n q m k = R := ⟨_, rfl⟩
    obtain ⟨V, hV⟩ : ∃ V, newA m = V := ⟨_, rfl⟩
    obtain ⟨bs, hbs⟩ : ∃ x, (bytesA n q).1 = x := ⟨_, rfl⟩
    obtain ⟨be, hbe⟩ : ∃ x, (bytesA n q).2 = x := ⟨_, rfl⟩
    obtain ⟨ck, hck⟩ : ∃ x, chkA n q = x := ⟨_, rfl⟩
    have LL := Lib.hid hL
    have RR := Lib.hid hR
    have VV := Lib.hid hV
    have BS := Lib.hid hbs
    have BE := Lib.hid hbe
    have CK := Lib.hid hck
    have QL : Hid (L.2.2.length ≤ 1000 ∧ R.2.2.length ≤ 1000 ∧ V.2.2.length ≤ 1000) := Lib.hid ⟨by rw [← hL]; have := learnA_len n q a s; have := HM.out; omega, by rw [← hR]; have := resetA_len n q m k; have := HM.out; omega, by rw [← hV]; have := newA_len m; omega⟩
    clear hL hR hV hbs hbe hck
    have B9X := Lib.hid (D.out.at_ B9.out (by simp))
    have z0 := cell_of B9X.out 0
    have z1 := cell_of B9X.out 1
    simp only [List.getElem?_toArray, List.getElem?_cons_succ, List.getElem?_cons_zero] at z0 z1
    have B1X := Lib.hid (D.out.at_ B1.out (by simp))
    have y0 := cell_of B1X.out 0
    have y1 := cell_of B1X.out 1
    simp only [List.getElem?_toArray, List.getElem?_cons_succ, List.getElem?_cons_zero] at y0 y1
    go_wp2_with fail
    clear z0 z1
    clear B9X
    clear y0 y1
    clear B1X
    refine (edlearn_any w5 n A2 c2 q a s (O2.out.reads.chg D.out (by simp)) (by have q := O2.out.cap; exact q) (fun x hx => Nat.lt_of_lt_of_le (O2.out.lt_ x hx) D.out.size) (by have := HM.out; omega)).mono ?_
    rintro r w6 ⟨A3, c3, rfl, ho, hnw, hc⟩
    rw [LL.out] at ho ⊢
    have O3 := Lib.hid ho
    have NO3 : Hid (∀ x, A3 = some x → w5.heap.size ≤ x.block ∧ w5.heap.size ≤ x.block ∧ x.block < w6.heap.size) := Lib.hid (fun x hx => ⟨hnw x hx, by have := hnw x hx; have := D.out.size; omega, ho.lt_ x hx⟩)
    replace D := Lib.hid (D.out.trans hc)
    clear ho hnw hc
    have T3 : Hid (w6.heap.size ≤ w6.heap.size) := Lib.hid (Nat.le_refl _)
    obtain ⟨w7, hw, hc, bb⟩ := news1 w6 (.cells #[.int .i64 L.2.1, .slice A3 L.2.2.length c3] 24)
    have WW := Lib.hid hw
    have B11 := Lib.hid bb
    clear hw bb
    replace D := Lib.hid (D.out.trans hc)
    replace O3 := Lib.hid (O3.out.chg hc (by simp))
    replace T3 := Lib.hid (Nat.le_trans T3.out hc.size)
    clear hc
    go_upto_region 6 with fail
    rw [← WW.out]
    generalize w6.heap.size = g11 at B11 ⊢
    clear WW
    have B0X := Lib.hid (D.out.at_ B0.out (by simp))
    have z0 := cell_of B0X.out 0
    have z1 := cell_of B0X.out 1
    simp only [List.getElem?_toArray, List.getElem?_cons_succ, List.getElem?_cons_zero] at z0 z1
    have B1X := Lib.hid (D.out.at_ B1.out (by simp))
    have y0 := cell_of B1X.out 0
    have y1 := cell_of B1X.out 1
    simp only [List.getElem?_toArray, List.getElem?_cons_succ, List.getElem?_cons_zero] at y0 y1
    go_wp2_with fail
    clear z0 z1
    clear B0X
    clear y0 y1
    clear B1X
    refine (fdlearn_any w7 n B bc q a s (HA5.out.chg D.out (by simp)) (by have := HM.out; omega)).mono ?_
    rintro r w8 ⟨A4, c4, rfl, ho, hnw, hc⟩
    rw [LL.out] at ho ⊢
    have O4 := Lib.hid ho
    replace D := Lib.hid (D.out.trans hc)
    replace O3 := Lib.hid (O3.out.chg hc (by simp))
    replace T3 := Lib.hid (Nat.le_trans T3.out hc.size)
    replace B11 := Lib.hid (hc.at_ B11.out (by simp))
    clear ho hnw hc
    obtain ⟨w9, hw, hc, bb⟩ := news1 w8 (.cells #[.int .i64 L.2.1, .slice A4 L.2.2.length c4] 24)
    have WW := Lib.hid hw
    have B13 := Lib.hid bb
    clear hw bb
    replace D := Lib.hid (D.out.trans hc)
    replace O3 := Lib.hid (O3.out.chg hc (by simp))
    replace T3 := Lib.hid (Nat.le_trans T3.out hc.size)
    replace B11 := Lib.hid (hc.at_ B11.out (by simp))
    replace O4 := Lib.hid (O4.out.chg hc (by simp))
    clear hc
    go_upto_region 7 with fail
    rw [← WW.out]
    generalize w8.heap.size = g13 at B13 ⊢
    clear WW
    have B9X := Lib.hid (D.out.at_ B9.out (by simp))
    have z0 := cell_of B9X.out 0
    have z1 := cell_of B9X.out 1
    simp only [List.getElem?_toArray, List.getElem?_cons_succ, List.getElem?_cons_zero] at z0 z1
    go_wp2_with fail
    clear z0 z1
    clear B9X
    have SZ35 := T3
    refine (edreset_any w9 n A2 c2 q m A1 c1 k (O2.out.reads.chg D.out (by simp)) (by have := HM.out; omega) (O1.out.reads.chg D.out (by simp)) (by have := HM.out; omega)).mono ?_
    rintro r w10 ⟨A5, c5, rfl, ho, hnw, hc⟩
    rw [RR.out] at ho ⊢
    have O5 := Lib.hid ho
    have NO5 : Hid (∀ x, A5 = some x → w9.heap.size ≤ x.block ∧ w5.heap.size ≤ x.block ∧ x.block < w10.heap.size) := Lib.hid (fun x hx => ⟨hnw x hx, by have := hnw x hx; have := D.out.size; omega, ho.lt_ x hx⟩)
    replace D := Lib.hid (D.out.trans hc)
    replace O3 := Lib.hid (O3.out.chg hc (by simp))
    replace T3 := Lib.hid (Nat.le_trans T3.out hc.size)
    replace B11 := Lib.hid (hc.at_ B11.out (by simp))
    replace O4 := Lib.hid (O4.out.chg hc (by simp))
    replace B13 := Lib.hid (hc.at_ B13.out (by simp))
    clear ho hnw hc
    have T5 : Hid (w10.heap.size ≤ w10.heap.size) := Lib.hid (Nat.le_refl _)
    have GE15 := T3
    obtain ⟨w11, hw, hc, bb⟩ := news1 w10 (.cells #[.int .i64 R.2.1, .slice A5 R.2.2.length c5] 24)
    have WW := Lib.hid hw
    have B15 := Lib.hid bb
    clear hw bb
    replace D := Lib.hid (D.out.trans hc)
    replace O3 := Lib.hid (O3.out.chg hc (by simp))
    replace T3 := Lib.hid (Nat.le_trans T3.out hc.size)
    replace B11 := Lib.hid (hc.at_ B11.out (by simp))
    replace O4 := Lib.hid (O4.out.chg hc (by simp))
    replace B13 := Lib.hid (hc.at_ B13.out (by simp))
    replace O5 := Lib.hid (O5.out.chg hc (by simp))
    replace T5 := Lib.hid (Nat.le_trans T5.out hc.size)
    clear hc
    go_upto_region 8 with fail
    rw [← WW.out]
    generalize w10.heap.size = g15 at B15 GE15 ⊢
    clear WW
    have B0X := Lib.hid (D.out.at_ B0.out (by simp))
    have z0 := cell_of B0X.out 0
    have z1 := cell_of B0X.out 1
    simp only [List.getElem?_toArray, List.getElem?_cons_succ, List.getElem?_cons_zero] at z0 z1
    go_wp2_with fail
    clear z0 z1
    clear B0X
    refine (fdreset_any w11 n B bc q m Ks kc k (HA5.out.chg D.out (by simp)) (by have := HM.out; omega) (HK5.out.chg D.out (by simp)) (by have := HM.out; omega)).mono ?_
    rintro r w12 ⟨A6, c6, rfl, ho, hnw, hc⟩
    rw [RR.out] at ho ⊢
    have O6 := Lib.hid ho
    replace D := Lib.hid (D.out.trans hc)
    replace O3 := Lib.hid (O3.out.chg hc (by simp))
    replace T3 := Lib.hid (Nat.le_trans T3.out hc.size)
    replace B11 := Lib.hid (hc.at_ B11.out (by simp))
    replace O4 := Lib.hid (O4.out.chg hc (by simp))
    replace B13 := Lib.hid (hc.at_ B13.out (by simp))
    replace O5 := Lib.hid (O5.out.chg hc (by simp))
    replace T5 := Lib.hid (Nat.le_trans T5.out hc.size)
    replace B15 := Lib.hid (hc.at_ B15.out (by simp))
    clear ho hnw hc
    obtain ⟨w13, hw, hc, bb⟩ := news1 w12 (.cells #[.int .i64 R.2.1, .slice A6 R.2.2.length c6] 24)
    have WW := Lib.hid hw
    have B17 := Lib.hid bb
    clear hw bb
    replace D := Lib.hid (D.out.trans hc)
    replace O3 := Lib.hid (O3.out.chg hc (by simp))
    replace T3 := Lib.hid (Nat.le_trans T3.out hc.size)
    replace B11 := Lib.hid (hc.at_ B11.out (by simp))
    replace O4 := Lib.hid (O4.out.chg hc (by simp))
    replace B13 := Lib.hid (hc.at_ B13.out (by simp))
    replace O5 := Lib.hid (O5.out.chg hc (by simp))
    replace T5 := Lib.hid (Nat.le_trans T5.out hc.size)
    replace B15 := Lib.hid (hc.at_ B15.out (by simp))
    replace O6 := Lib.hid (O6.out.chg hc (by simp))
    clear hc
    go_upto_region 9 with fail
    rw [← WW.out]
    generalize w12.heap.size = g17 at B17 ⊢
    clear WW
    go_wp2_with fail
    refine (ednew_any w13 m).mono ?_
    rintro r w14 ⟨A7, c7, rfl, ho, hnw, hc⟩
    rw [VV.out] at ho ⊢
    have O7 := Lib.hid ho
    replace D := Lib.hid (D.out.trans hc)
    replace O3 := Lib.hid (O3.out.chg hc (by simp))
    replace T3 := Lib.hid (Nat.le_trans T3.out hc.size)
    replace B11 := Lib.hid (hc.at_ B11.out (by simp))
    replace O4 := Lib.hid (O4.out.chg hc (by simp))
    replace B13 := Lib.hid (hc.at_ B13.out (by simp))
    replace O5 := Lib.hid (O5.out.chg hc (by simp))
    replace T5 := Lib.hid (Nat.le_trans T5.out hc.size)
    replace B15 := Lib.hid (hc.at_ B15.out (by simp))
    replace O6 := Lib.hid (O6.out.chg hc (by simp))
    replace B17 := Lib.hid (hc.at_ B17.out (by simp))
    clear ho hnw hc
    obtain ⟨w15, hw, hc, bb⟩ := news1 w14 (.cells #[.int .i64 V.2.1, .slice A7 V.2.2.length c7] 24)
    have WW := Lib.hid hw
    have B19 := Lib.hid bb
    clear hw bb
    replace D := Lib.hid (D.out.trans hc)
    replace O3 := Lib.hid (O3.out.chg hc (by simp))
    replace T3 := Lib.hid (Nat.le_trans T3.out hc.size)
    replace B11 := Lib.hid (hc.at_ B11.out (by simp))
    replace O4 := Lib.hid (O4.out.chg hc (by simp))
    replace B13 := Lib.hid (hc.at_ B13.out (by simp))
    replace O5 := Lib.hid (O5.out.chg hc (by simp))
    replace T5 := Lib.hid (Nat.le_trans T5.out hc.size)
    replace B15 := Lib.hid (hc.at_ B15.out (by simp))
    replace O6 := Lib.hid (O6.out.chg hc (by simp))
    replace B17 := Lib.hid (hc.at_ B17.out (by simp))
    replace O7 := Lib.hid (O7.out.chg hc (by simp))
    clear hc
    go_upto_region 10 with fail
    rw [← WW.out]
    generalize w14.heap.size = g19 at B19 ⊢
    clear WW
    go_wp2_with fail
    refine (fdnew_any w15 m).mono ?_
    rintro r w16 ⟨A8, c8, rfl, ho, hnw, hc⟩
    rw [VV.out] at ho ⊢
    have O8 := Lib.hid ho
    replace D := Lib.hid (D.out.trans hc)
    replace O3 := Lib.hid (O3.out.chg hc (by simp))
    replace T3 := Lib.hid (Nat.le_trans T3.out hc.size)
    replace B11 := Lib.hid (hc.at_ B11.out (by simp))
    replace O4 := Lib.hid (O4.out.chg hc (by simp))
    replace B13 := Lib.hid (hc.at_ B13.out (by simp))
    replace O5 := Lib.hid (O5.out.chg hc (by simp))
    replace T5 := Lib.hid (Nat.le_trans T5.out hc.size)
    replace B15 := Lib.hid (hc.at_ B15.out (by simp))
    replace O6 := Lib.hid (O6.out.chg hc (by simp))
    replace B17 := Lib.hid (hc.at_ B17.out (by simp))
    replace O7 := Lib.hid (O7.out.chg hc (by simp))
    replace B19 := Lib.hid (hc.at_ B19.out (by simp))
    clear ho hnw hc
    obtain ⟨w17, hw, hc, bb⟩ := news1 w16 (.cells #[.int .i64 V.2.1, .slice A8 V.2.2.length c8] 24)
    have WW := Lib.hid hw
    have B21 := Lib.hid bb
    clear hw bb
    replace D := Lib.hid (D.out.trans hc)
    replace O3 := Lib.hid (O3.out.chg hc (by simp))
    replace T3 := Lib.hid (Nat.le_trans T3.out hc.size)
    replace B11 := Lib.hid (hc.at_ B11.out (by simp))
    replace O4 := Lib.hid (O4.out.chg hc (by simp))
    replace B13 := Lib.hid (hc.at_ B13.out (by simp))
    replace O5 := Lib.hid (O5.out.chg hc (by simp))
    replace T5 := Lib.hid (Nat.le_trans T5.out hc.size)
    replace B15 := Lib.hid (hc.at_ B15.out (by simp))
    replace O6 := Lib.hid (O6.out.chg hc (by simp))
    replace B17 := Lib.hid (hc.at_ B17.out (by simp))
    replace O7 := Lib.hid (O7.out.chg hc (by simp))
    replace B19 := Lib.hid (hc.at_ B19.out (by simp))
    replace O8 := Lib.hid (O8.out.chg hc (by simp))
    clear hc
    go_upto_region 11 with fail
    rw [← WW.out]
    generalize w16.heap.size = g21 at B21 ⊢
    clear WW
    have B9X := Lib.hid (D.out.at_ B9.out (by simp))
    have z0 := cell_of B9X.out 0
    have z1 := cell_of B9X.out 1
    simp only [List.getElem?_toArray, List.getElem?_cons_succ, List.getElem?_cons_zero] at z0 z1
    go_wp2_with fail
    clear z0 z1
    clear B9X
    have SZ3x := T3
    have SZ5x := T5
    refine (edbytes_any w17 n A2 c2 q (O2.out.reads.chg D.out (by simp)) (by have := HM.out; omega)).mono ?_
    rintro r w18 ⟨Ax, cx, rfl, h5⟩
    rw [BS.out] at h5 ⊢
    rw [BE.out]
    have Ox := Lib.hid h5.1
    have hc := h5.2.2
    have NOx : Hid (∀ x, Ax = some x → w17.heap.size ≤ x.block ∧ w5.heap.size ≤ x.block) := Lib.hid (fun x hx => ⟨h5.2.1 x hx, by have := h5.2.1 x hx; have := D.out.size; omega⟩)
    clear h5
    replace D := Lib.hid (D.out.trans hc)
    replace O3 := Lib.hid (O3.out.chg hc (by simp))
    replace T3 := Lib.hid (Nat.le_trans T3.out hc.size)
    replace B11 := Lib.hid (hc.at_ B11.out (by simp))
    replace O4 := Lib.hid (O4.out.chg hc (by simp))
    replace B13 := Lib.hid (hc.at_ B13.out (by simp))
    replace O5 := Lib.hid (O5.out.chg hc (by simp))
    replace T5 := Lib.hid (Nat.le_trans T5.out hc.size)
    replace B15 := Lib.hid (hc.at_ B15.out (by simp))
    replace O6 := Lib.hid (O6.out.chg hc (by simp))
    replace B17 := Lib.hid (hc.at_ B17.out (by simp))
    replace O7 := Lib.hid (O7.out.chg hc (by simp))
    replace B19 := Lib.hid (hc.at_ B19.out (by simp))
    replace O8 := Lib.hid (O8.out.chg hc (by simp))
    replace B21 := Lib.hid (hc.at_ B21.out (by simp))
    clear hc
    have B0X := Lib.hid (D.out.at_ B0.out (by simp))
    have z0 := cell_of B0X.out 0
    have z1 := cell_of B0X.out 1
    simp only [List.getElem?_toArray, List.getElem?_cons_succ, List.getElem?_cons_zero] at z0 z1
    go_wp2_with fail
    clear z0 z1
    clear B0X
    refine (fdbytes_any w18 n B bc q (HA5.out.chg D.out (by simp)) (by have := HM.out; omega)).mono ?_
    rintro r w19 ⟨Ay, cy, rfl, h5⟩
    rw [BS.out] at h5 ⊢
    rw [BE.out]
    have Oy := Lib.hid h5.1
    have hc := h5.2.2
    clear h5
    replace D := Lib.hid (D.out.trans hc)
    replace O3 := Lib.hid (O3.out.chg hc (by simp))
    replace T3 := Lib.hid (Nat.le_trans T3.out hc.size)
    replace B11 := Lib.hid (hc.at_ B11.out (by simp))
    replace O4 := Lib.hid (O4.out.chg hc (by simp))
    replace B13 := Lib.hid (hc.at_ B13.out (by simp))
    replace O5 := Lib.hid (O5.out.chg hc (by simp))
    replace T5 := Lib.hid (Nat.le_trans T5.out hc.size)
    replace B15 := Lib.hid (hc.at_ B15.out (by simp))
    replace O6 := Lib.hid (O6.out.chg hc (by simp))
    replace B17 := Lib.hid (hc.at_ B17.out (by simp))
    replace O7 := Lib.hid (O7.out.chg hc (by simp))
    replace B19 := Lib.hid (hc.at_ B19.out (by simp))
    replace O8 := Lib.hid (O8.out.chg hc (by simp))
    replace B21 := Lib.hid (hc.at_ B21.out (by simp))
    replace Ox := Lib.hid (Ox.out.chg hc (by simp))
    clear hc
    go_upto_region 13 with fail
    have E0 := Lib.hid (Chg.refl [] w19)
    have DX2 : Hid (∀ w', Chg [] w19 w' → w'.cell? ⟨g9, 0, none⟩ = some (.int .i64 n) ∧ w'.cell? ⟨g9, 1, none⟩ = some (.slice A2 q.length c2) ∧ w'.cell? ⟨g0, 0, none⟩ = some (.int .i64 n) ∧ w'.cell? ⟨g0, 1, none⟩ = some (.slice B q.length bc) ∧ w'.cell? ⟨g11, 0, none⟩ = some (.int .i64 L.2.1) ∧ w'.cell? ⟨g11, 1, none⟩ = some (.slice A3 L.2.2.length c3) ∧ w'.cell? ⟨g13, 0, none⟩ = some (.int .i64 L.2.1) ∧ w'.cell? ⟨g13, 1, none⟩ = some (.slice A4 L.2.2.length c4) ∧ w'.cell? ⟨g15, 0, none⟩ = some (.int .i64 R.2.1) ∧ w'.cell? ⟨g15, 1, none⟩ = some (.slice A5 R.2.2.length c5) ∧ w'.cell? ⟨g17, 0, none⟩ = some (.int .i64 R.2.1) ∧ w'.cell? ⟨g17, 1, none⟩ = some (.slice A6 R.2.2.length c6) ∧ w'.cell? ⟨g19, 0, none⟩ = some (.int .i64 V.2.1) ∧ w'.cell? ⟨g19, 1, none⟩ = some (.slice A7 V.2.2.length c7) ∧ w'.cell? ⟨g21, 0, none⟩ = some (.int .i64 V.2.1) ∧ w'.cell? ⟨g21, 1, none⟩ = some (.slice A8 V.2.2.length c8)) := Lib.hid (fun w' hc => by
      have b_g9 := hc.at_ (D.out.at_ B9.out (by simp)) (by simp)
      have b_g0 := hc.at_ (D.out.at_ B0.out (by simp)) (by simp)
      have b_g11 := hc.at_ B11.out (by simp)
      have b_g13 := hc.at_ B13.out (by simp)
      have b_g15 := hc.at_ B15.out (by simp)
      have b_g17 := hc.at_ B17.out (by simp)
      have b_g19 := hc.at_ B19.out (by simp)
      have b_g21 := hc.at_ B21.out (by simp)
      exact ⟨cell_of b_g9 0, cell_of b_g9 1, cell_of b_g0 0, cell_of b_g0 1, cell_of b_g11 0, cell_of b_g11 1, cell_of b_g13 0, cell_of b_g13 1, cell_of b_g15 0, cell_of b_g15 1, cell_of b_g17 0, cell_of b_g17 1, cell_of b_g19 0, cell_of b_g19 1, cell_of b_g21 0, cell_of b_g21 1⟩)
    refine wp_region_held_drew (S := fun w' => w'.cell? ⟨g9, 0, none⟩ = some (.int .i64 n) ∧ w'.cell? ⟨g9, 1, none⟩ = some (.slice A2 q.length c2) ∧ w'.cell? ⟨g0, 0, none⟩ = some (.int .i64 n) ∧ w'.cell? ⟨g0, 1, none⟩ = some (.slice B q.length bc) ∧ w'.cell? ⟨g11, 0, none⟩ = some (.int .i64 L.2.1) ∧ w'.cell? ⟨g11, 1, none⟩ = some (.slice A3 L.2.2.length c3) ∧ w'.cell? ⟨g13, 0, none⟩ = some (.int .i64 L.2.1) ∧ w'.cell? ⟨g13, 1, none⟩ = some (.slice A4 L.2.2.length c4) ∧ w'.cell? ⟨g15, 0, none⟩ = some (.int .i64 R.2.1) ∧ w'.cell? ⟨g15, 1, none⟩ = some (.slice A5 R.2.2.length c5) ∧ w'.cell? ⟨g17, 0, none⟩ = some (.int .i64 R.2.1) ∧ w'.cell? ⟨g17, 1, none⟩ = some (.slice A6 R.2.2.length c6) ∧ w'.cell? ⟨g19, 0, none⟩ = some (.int .i64 V.2.1) ∧ w'.cell? ⟨g19, 1, none⟩ = some (.slice A7 V.2.2.length c7) ∧ w'.cell? ⟨g21, 0, none⟩ = some (.int .i64 V.2.1) ∧ w'.cell? ⟨g21, 1, none⟩ = some (.slice A8 V.2.2.length c8)) (by kernel_rfl) (DX2.out _ (Chg.refl [] w19).drew) (fun hHeld => ?_)
    have EC : Hid (Chg [] w19 w19.drew) := Lib.hid (Chg.refl [] w19).drew
    clear hHeld
    obtain ⟨wc, hwc⟩ : ∃ wc, w19.drew = wc := ⟨_, rfl⟩
    rw [hwc] at EC ⊢
    clear hwc E0
    have e1 : ((ck != ck) : Bool) = false := by simp
    have e2 : ((L.1 != L.1) : Bool) = false := by simp
    have e3 : ((R.1 != R.1) : Bool) = false := by simp
    have e4 : ((V.1 != V.1) : Bool) = false := by simp
    have e5 : ((be != be) : Bool) = false := by simp
    refine sy 0 90 rfl rfl ?_ (hS := (DX2.out _ EC.out)) (hy := by (intro w hSw; (try dsimp only at hSw); obtain ⟨q0, q1, q2, q3, q4, q5, q6, q7, q8, q9, q10, q11, q12, q13, q14, q15⟩ := hSw; go_simp; try with_reducible rfl))
    try simp only [Act.put, sA, s0, s1]
    refine sy 2 92 rfl rfl ?_ (hS := (DX2.out _ EC.out)) (hy := by (intro w hSw; (try dsimp only at hSw); obtain ⟨q0, q1, q2, q3, q4, q5, q6, q7, q8, q9, q10, q11, q12, q13, q14, q15⟩ := hSw; go_simp; try with_reducible rfl))
    try simp only [Act.put, sA, s0, s1]
    refine wpAnyH_ready (rs := [1]) (by kernel_rfl) (by simp) ?_
    refine AllReadyH.cons rfl (fun K hK => ?_) AllReadyH.nil
    replace hK := Lib.hid hK
    go_simp
    refine (edcheck_any wc n A2 _ c2 q (O2.out.reads.chg (D.out.trans EC.out) (by simp)) (by have := HM.out; omega)).mono ?_
    rintro r wc ⟨rfl, hc⟩
    rw [CK.out]
    replace EC := Lib.hid (EC.out.trans hc)
    clear hc
    refine hK.out _ _ (DX2.out _ EC.out) (fun hHeld => ?_)
    clear hK K
    try simp only [Act.put, sA, s0, s1]
    refine wpAnyH_ready (rs := [3]) (by kernel_rfl) (by simp) ?_
    refine AllReadyH.cons rfl (fun K hK => ?_) AllReadyH.nil
    replace hK := Lib.hid hK
    go_simp
    refine (fdcheck_any wc n B _ bc q (HA5.out.chg (D.out.trans EC.out) (by simp)) (by have := HM.out; omega)).mono ?_
    rintro r wc ⟨rfl, hc⟩
    rw [CK.out]
    replace EC := Lib.hid (EC.out.trans hc)
    clear hc
    refine hK.out _ _ (DX2.out _ EC.out) (fun hHeld => ?_)
    clear hK K
    try simp only [Act.put, sA, s0, s1]
    refine sy 4 94 rfl rfl ?_ (hS := (DX2.out _ EC.out))
    try simp only [Act.put, sA, s0, s1]
    refine sy 5 95 rfl rfl ?_ (hS := (DX2.out _ EC.out))
    try simp only [Act.put, sA, s0, s1]
    refine sy 6 96 rfl rfl ?_ (hS := (DX2.out _ EC.out)) (hy := by (intro w hSw; (try dsimp only at hSw); obtain ⟨q0, q1, q2, q3, q4, q5, q6, q7, q8, q9, q10, q11, q12, q13, q14, q15⟩ := hSw; go_simp; try with_reducible rfl))
    try simp only [Act.put, sA, s0, s1]
    refine sy 7 97 rfl rfl ?_ (hS := (DX2.out _ EC.out)) (hy := by (intro w hSw; (try dsimp only at hSw); obtain ⟨q0, q1, q2, q3, q4, q5, q6, q7, q8, q9, q10, q11, q12, q13, q14, q15⟩ := hSw; go_simp; try with_reducible rfl))
    try simp only [Act.put, sA, s0, s1]
    refine wpAnyH_ready (rs := [8]) (by kernel_rfl) (by simp) ?_
    refine AllReadyH.cons rfl (fun K hK => ?_) AllReadyH.nil
    replace hK := Lib.hid hK
    go_simp
    refine (edsame_any wc L.2.1 A3 _ c3 L.2.2 L.2.1 A4 _ c4 L.2.2 (O3.out.reads.chg EC.out (by simp)) (O4.out.reads.chg EC.out (by simp)) (by have := QL.out; omega) (by have := QL.out; omega)).mono ?_
    rintro r wc ⟨rfl, hc⟩
    rw [decide_eq_true rfl, beq_self_eq_true, Bool.and_self]
    replace EC := Lib.hid (EC.out.trans hc)
    clear hc
    refine hK.out _ _ (DX2.out _ EC.out) (fun hHeld => ?_)
    clear hK K
    try simp only [Act.put, sA, s0, s1]
    refine sy 9 99 rfl rfl ?_ (hS := (DX2.out _ EC.out))
    try simp only [Act.put, sA, s0, s1]
    refine sy 10 100 rfl rfl ?_ (hS := (DX2.out _ EC.out))
    try simp only [Act.put, sA, s0, s1]
    refine sy 11 101 rfl rfl ?_ (hS := (DX2.out _ EC.out))
    try simp only [Act.put, sA, s0, s1]
    refine sy 12 102 rfl rfl ?_ (hS := (DX2.out _ EC.out))
    try simp only [Act.put, sA, s0, s1]
    refine sy 13 103 rfl rfl ?_ (hS := (DX2.out _ EC.out))
    try simp only [Act.put, sA, s0, s1]
    refine sy 14 104 rfl rfl ?_ (hS := (DX2.out _ EC.out))
    try simp only [Act.put, sA, s0, s1]
    refine sy 15 105 rfl rfl ?_ (hS := (DX2.out _ EC.out))
    try simp only [Act.put, sA, s0, s1]
    refine sy 16 106 rfl rfl ?_ (hS := (DX2.out _ EC.out))
    try simp only [Act.put, sA, s0, s1]
    refine sy 17 107 rfl rfl ?_ (hS := (DX2.out _ EC.out)) (hy := by (intro w hSw; (try dsimp only at hSw); obtain ⟨q0, q1, q2, q3, q4, q5, q6, q7, q8, q9, q10, q11, q12, q13, q14, q15⟩ := hSw; go_simp; try with_reducible rfl))
    try simp only [Act.put, sA, s0, s1]
    refine sy 18 108 rfl rfl ?_ (hS := (DX2.out _ EC.out)) (hy := by (intro w hSw; (try dsimp only at hSw); obtain ⟨q0, q1, q2, q3, q4, q5, q6, q7, q8, q9, q10, q11, q12, q13, q14, q15⟩ := hSw; go_simp; try with_reducible rfl))
    try simp only [Act.put, sA, s0, s1]
    refine wpAnyH_ready (rs := [19]) (by kernel_rfl) (by simp) ?_
    refine AllReadyH.cons rfl (fun K hK => ?_) AllReadyH.nil
    replace hK := Lib.hid hK
    go_simp
    refine (edsame_any wc R.2.1 A5 _ c5 R.2.2 R.2.1 A6 _ c6 R.2.2 (O5.out.reads.chg EC.out (by simp)) (O6.out.reads.chg EC.out (by simp)) (by have := QL.out; omega) (by have := QL.out; omega)).mono ?_
    rintro r wc ⟨rfl, hc⟩
    rw [decide_eq_true rfl, beq_self_eq_true, Bool.and_self]
    replace EC := Lib.hid (EC.out.trans hc)
    clear hc
    refine hK.out _ _ (DX2.out _ EC.out) (fun hHeld => ?_)
    clear hK K
    try simp only [Act.put, sA, s0, s1]
    refine sy 20 110 rfl rfl ?_ (hS := (DX2.out _ EC.out))
    try simp only [Act.put, sA, s0, s1]
    refine sy 21 111 rfl rfl ?_ (hS := (DX2.out _ EC.out))
    try simp only [Act.put, sA, s0, s1]
    refine sy 22 112 rfl rfl ?_ (hS := (DX2.out _ EC.out))
    try simp only [Act.put, sA, s0, s1]
    refine sy 23 113 rfl rfl ?_ (hS := (DX2.out _ EC.out))
    try simp only [Act.put, sA, s0, s1]
    refine sy 24 114 rfl rfl ?_ (hS := (DX2.out _ EC.out))
    try simp only [Act.put, sA, s0, s1]
    refine sy 25 115 rfl rfl ?_ (hS := (DX2.out _ EC.out))
    try simp only [Act.put, sA, s0, s1]
    refine sy 26 116 rfl rfl ?_ (hS := (DX2.out _ EC.out))
    try simp only [Act.put, sA, s0, s1]
    refine sy 27 117 rfl rfl ?_ (hS := (DX2.out _ EC.out))
    try simp only [Act.put, sA, s0, s1]
    refine sy 28 118 rfl rfl ?_ (hS := (DX2.out _ EC.out)) (hy := by (intro w hSw; (try dsimp only at hSw); obtain ⟨q0, q1, q2, q3, q4, q5, q6, q7, q8, q9, q10, q11, q12, q13, q14, q15⟩ := hSw; go_simp; try with_reducible rfl))
    try simp only [Act.put, sA, s0, s1]
    refine sy 29 119 rfl rfl ?_ (hS := (DX2.out _ EC.out)) (hy := by (intro w hSw; (try dsimp only at hSw); obtain ⟨q0, q1, q2, q3, q4, q5, q6, q7, q8, q9, q10, q11, q12, q13, q14, q15⟩ := hSw; go_simp; try with_reducible rfl))
    try simp only [Act.put, sA, s0, s1]
    refine wpAnyH_ready (rs := [30]) (by kernel_rfl) (by simp) ?_
    refine AllReadyH.cons rfl (fun K hK => ?_) AllReadyH.nil
    replace hK := Lib.hid hK
    go_simp
    refine (edsame_any wc V.2.1 A7 _ c7 V.2.2 V.2.1 A8 _ c8 V.2.2 (O7.out.reads.chg EC.out (by simp)) (O8.out.reads.chg EC.out (by simp)) (by have := QL.out; omega) (by have := QL.out; omega)).mono ?_
    rintro r wc ⟨rfl, hc⟩
    rw [decide_eq_true rfl, beq_self_eq_true, Bool.and_self]
    replace EC := Lib.hid (EC.out.trans hc)
    clear hc
    refine hK.out _ _ (DX2.out _ EC.out) (fun hHeld => ?_)
    clear hK K
    try simp only [Act.put, sA, s0, s1]
    refine sy 31 121 rfl rfl ?_ (hS := (DX2.out _ EC.out))
    try simp only [Act.put, sA, s0, s1]
    refine sy 32 122 rfl rfl ?_ (hS := (DX2.out _ EC.out))
    try simp only [Act.put, sA, s0, s1]
    refine sy 33 123 rfl rfl ?_ (hS := (DX2.out _ EC.out))
    try simp only [Act.put, sA, s0, s1]
    refine sy 34 124 rfl rfl ?_ (hS := (DX2.out _ EC.out))
    try simp only [Act.put, sA, s0, s1]
    refine sy 35 125 rfl rfl ?_ (hS := (DX2.out _ EC.out))
    try simp only [Act.put, sA, s0, s1]
    refine sy 36 126 rfl rfl ?_ (hS := (DX2.out _ EC.out))
    try simp only [Act.put, sA, s0, s1]
    refine sy 37 127 rfl rfl ?_ (hS := (DX2.out _ EC.out))
    try simp only [Act.put, sA, s0, s1]
    refine sy 38 128 rfl rfl ?_ (hS := (DX2.out _ EC.out))
    try simp only [Act.put, sA, s0, s1]
    refine sy 39 129 rfl rfl ?_ (hS := (DX2.out _ EC.out))
    try simp only [Act.put, sA, s0, s1]
    refine sy 40 130 rfl rfl ?_ (hS := (DX2.out _ EC.out))
    try simp only [Act.put, sA, s0, s1]
    refine wpAnyH_ready (rs := [41]) (by kernel_rfl) (by simp) ?_
    refine AllReadyH.cons rfl (fun K hK => ?_) AllReadyH.nil
    replace hK := Lib.hid hK
    go_simp
    refine (same_any wc Ax Ay _ _ cx cy bs bs (Ox.out.reads.chg EC.out (by simp)) (Oy.out.reads.chg EC.out (by simp))).mono ?_
    rintro r wd ⟨rfl, rfl⟩
    rw [beq_self_eq_true]
    refine hK.out _ _ (DX2.out _ EC.out) (fun hHeld => ?_)
    clear hK K
    try simp only [Act.put, sA, s0, s1]
    refine sy 42 132 rfl rfl ?_ (hS := (DX2.out _ EC.out))
    try simp only [Act.put, sA, s0, s1]
    refine sy 43 133 rfl rfl ?_ (hS := (DX2.out _ EC.out))
    try simp only [Act.put, sA, s0, s1]
    refine sy 44 134 rfl rfl ?_ (hS := (DX2.out _ EC.out))
    try simp only [Act.put, sA, s0, s1]
    refine sy 45 135 rfl rfl ?_ (hS := (DX2.out _ EC.out))
    try simp only [Act.put, sA, s0, s1]
    refine sy 46 136 rfl rfl ?_ (hS := (DX2.out _ EC.out))
    try simp only [Act.put, sA, s0, s1]
    refine sy 47 137 rfl rfl ?_ (hS := (DX2.out _ EC.out))
    try simp only [Act.put, sA, s0, s1]
    refine sy 48 138 rfl rfl ?_ (hS := (DX2.out _ EC.out))
    try simp only [Act.put, sA, s0, s1]
    refine wpAnyH_done (by kernel_rfl) ?_ _
    clear hHeld DX2 e1 e2 e3 e4 e5
    replace D := Lib.hid (D.out.trans EC.out)
    replace O3 := Lib.hid (O3.out.chg EC.out (by simp))
    replace T3 := Lib.hid (Nat.le_trans T3.out EC.out.size)
    replace B11 := Lib.hid (EC.out.at_ B11.out (by simp))
    replace O4 := Lib.hid (O4.out.chg EC.out (by simp))
    replace B13 := Lib.hid (EC.out.at_ B13.out (by simp))
    replace O5 := Lib.hid (O5.out.chg EC.out (by simp))
    replace T5 := Lib.hid (Nat.le_trans T5.out EC.out.size)
    replace B15 := Lib.hid (EC.out.at_ B15.out (by simp))
    replace O6 := Lib.hid (O6.out.chg EC.out (by simp))
    replace B17 := Lib.hid (EC.out.at_ B17.out (by simp))
    replace O7 := Lib.hid (O7.out.chg EC.out (by simp))
    replace B19 := Lib.hid (EC.out.at_ B19.out (by simp))
    replace O8 := Lib.hid (O8.out.chg EC.out (by simp))
    replace B21 := Lib.hid (EC.out.at_ B21.out (by simp))
    replace Ox := Lib.hid (Ox.out.chg EC.out (by simp))
    replace Oy := Lib.hid (Oy.out.chg EC.out (by simp))
    clear EC
    have z0 := cell_of B11.out 0
    have z1 := cell_of B11.out 1
    simp only [List.getElem?_toArray, List.getElem?_cons_succ, List.getElem?_cons_zero] at z0 z1
    go_wp2_with fail
    clear z0 z1
    refine (overspan_own wc A3 _ c3 L.2.2 O3.out rfl).mono ?_
    rintro r wo1 ⟨rfl, h9⟩
    obtain ⟨S, hS, h9⟩ := over_only h9
    have hS2 : ∀ i ∈ S, w5.heap.size ≤ i := fun i hi => by obtain ⟨x, hx, e⟩ := hS i hi; rw [← e]; exact (NO3.out x hx).2.1
    have d9 := D.out.trans' h9 (fun i hi => .inr (hS2 i hi))
    have bb15 := h9.at_ B15.out (fun hi => by obtain ⟨x, hx, e⟩ := hS _ hi; have := (NO3.out x hx).2.2; have := GE15.out; omega)
    have oo5 := O5.out.chg h9 (fun y hy hi => by obtain ⟨x, hx, e⟩ := hS _ hi; have := (NO3.out x hx).2.2; have := (NO5.out y hy).1; have := SZ35.out; omega)
    have oox := Ox.out.chg h9 (fun y hy hi => by obtain ⟨x, hx, e⟩ := hS _ hi; have := (NO3.out x hx).2.2; have := (NOx.out y hy).1; have := SZ3x.out; omega)
    clear h9 hS hS2
    replace D := Lib.hid d9
    replace Ox := Lib.hid oox
    replace B15 := Lib.hid bb15
    replace O5 := Lib.hid oo5
    clear bb15 oo5
    clear d9 oox
    have z0 := cell_of B15.out 0
    have z1 := cell_of B15.out 1
    simp only [List.getElem?_toArray, List.getElem?_cons_succ, List.getElem?_cons_zero] at z0 z1
    go_wp2_with fail
    clear z0 z1
    refine (overspan_own wo1 A5 _ c5 R.2.2 O5.out rfl).mono ?_
    rintro r wo2 ⟨rfl, h9⟩
    obtain ⟨S, hS, h9⟩ := over_only h9
    have hS2 : ∀ i ∈ S, w5.heap.size ≤ i := fun i hi => by obtain ⟨x, hx, e⟩ := hS i hi; rw [← e]; exact (NO5.out x hx).2.1
    have d9 := D.out.trans' h9 (fun i hi => .inr (hS2 i hi))
    have oox := Ox.out.chg h9 (fun y hy hi => by obtain ⟨x, hx, e⟩ := hS _ hi; have := (NO5.out x hx).2.2; have := (NOx.out y hy).1; have := SZ5x.out; omega)
    clear h9 hS hS2
    replace D := Lib.hid d9
    replace Ox := Lib.hid oox
    clear d9 oox
    go_wp2_with fail
    refine (over_own wo2 Ax cx _ bs Ox.out rfl).mono ?_
    rintro r wo3 ⟨rfl, h9⟩
    obtain ⟨S, hS, h9⟩ := over_only h9
    have d9 := D.out.trans' h9 (fun i hi => .inr (by obtain ⟨x, hx, e⟩ := hS i hi; rw [← e]; exact (NOx.out x hx).2))
    clear h9 hS
    replace D := Lib.hid d9
    clear d9
    have B9X := Lib.hid (D.out.at_ B9.out (by simp))
    have z0 := cell_of B9X.out 0
    have z1 := cell_of B9X.out 1
    simp only [List.getElem?_toArray, List.getElem?_cons_succ, List.getElem?_cons_zero] at z0 z1
    have B0X := Lib.hid (D.out.at_ B0.out (by simp))
    have y0 := cell_of B0X.out 0
    have y1 := cell_of B0X.out 1
    simp only [List.getElem?_toArray, List.getElem?_cons_succ, List.getElem?_cons_zero] at y0 y1
    go_wp2_with fail
    clear z0 z1
    clear B9X
    clear y0 y1
    clear B0X
    refine (edsame_any wo3 n A2 _ c2 q n B _ bc q (O2.out.reads.chg D.out (by simp)) (HA5.out.chg D.out (by simp)) (by have := HM.out; omega) (by have := HM.out; omega)).mono ?_
    rintro r wp1 ⟨rfl, hc⟩
    rw [decide_eq_true rfl, beq_self_eq_true, Bool.and_self]
    replace D := Lib.hid (D.out.trans hc)
    clear hc
    go_wp2_with fail
    refine (samespan_any wp1 A1 Ks _ _ c1 kc k k (O1.out.reads.chg D.out (by simp)) (HK5.out.chg D.out (by simp)) (by have := HM.out; omega) (by have := HM.out; omega)).mono ?_
    rintro r wp2 ⟨rfl, hc⟩
    rw [beq_self_eq_true]
    replace D := Lib.hid (D.out.trans hc)
    clear hc
    go_wp2_with fail
    refine (edgeAwake_run _).mono ?_
    rintro r wp3 ⟨rfl, hc⟩
    replace D := Lib.hid (D.out.trans hc)
    clear hc
    go_wp2
    go_ret
    exact ⟨(by first | rfl | simp), C.out.trans D.out⟩
end
section
open Go.RowKit Go.WideShapes Go.ChangeShapes Go.Deep
set_option linter.unusedSimpArgs false
section
variable {H : Type} {enc : TypeId × Value → H} {w : World} {base : Nat} {spare : Nat → Bool} {held : Bool}
end
end
end Go.Proofs.YtgafkaigkaghcaaGreatDoor
