/- The document's Receive: a way. The document's Receive: a way. The document's Receive: a way. -/
import Derived.Test.YtmblalcigbghfaaSgi
namespace Go.Proofs.Ytmblalcigbghfaa
section
open Go.RowKit Go.Lib
set_option linter.unusedSimpArgs false
set_option linter.unusedVariables false


set_option maxHeartbeats 8000000 in
set_option maxRecDepth 100000 in
theorem drecv_oldfhi (w : World) (b : Nat) (d : DV) (h : DH w b d) (f t m a : Int) (B : Option Addr) (n e : Nat) (hn : n ≤ 140737488351232) (h0 : ¬ f < 1) (h1 : ¬ 1099511627776 < f) (h2 : ¬ f < d.ot) (h3 : ¬ t < 0) (h4 : ¬ m < 0) (h5 : ¬ 1099511627776 < m) (h6 : ¬ a < 0) (h7 : ¬ (400 : Int) < (n : Int)) (ht : 0 ≤ d.turned ∧ d.turned ≤ 4611686018427387904) (hpf : ¬ d.ot < f) (hbs : ∀ s5, s5 = meetD d f → 1 ≤ s5.base ∧ s5.base ≤ 2000000 ∧ s5.n ≤ 8 ∧ s5.n ≤ s5.c) (hte : t = d.ep) (hmz : ¬ m = 0) (hcm : ∀ s7, s7 = dropD (meetD d f) a → (0 ≤ s7.came ∧ s7.came ≤ 1000000) ∧ ¬ s7.came + 1 = m) (hdr : ∀ s5, s5 = meetD d f → s5.base ≤ a ∧ s5.base + s5.n ≤ a) : Calls Try.prog 37 #[.pointer (some ⟨b, 0, none⟩), .agg #[.int .i64 f, .int .i64 t, .int .i64 m, .int .i64 a, .slice B n e]] w fun r w' => r = .returned (.tuple #[]) ∧ DH w' b { dropD (meetD d f) a with owes := true } ∧ Chg [b] w w' := by
  have HPF := Lib.hid hpf
  have HBS := Lib.hid hbs
  have HTE := Lib.hid hte
  have HT := Lib.hid ht
  clear hpf hbs hte ht
  have HMZ := Lib.hid hmz
  have HDR := Lib.hid hdr
  clear hmz hdr
  have HCM := Lib.hid hcm
  clear hcm
  have d0 : decide (f < 1) = false := decide_eq_false h0
  have d1 : decide (1099511627776 < f) = false := decide_eq_false h1
  have d2 : decide (f < d.ot) = false := decide_eq_false h2
  have d3 : decide (t < 0) = false := decide_eq_false h3
  have d4 : decide (m < 0) = false := decide_eq_false h4
  have d5 : decide (1099511627776 < m) = false := decide_eq_false h5
  have d6 : decide (a < 0) = false := decide_eq_false h6
  have d7 : decide ((400 : Int) < (n : Int)) = false := decide_eq_false h7
  clear h0 h1 h2 h3 h4 h5 h6 h7
  obtain ⟨w1, hw1, c1, b1⟩ := news1 w (.cells #[.int .i64 f, .int .i64 t, .int .i64 m, .int .i64 a, .slice B n e] 35)
  have W1 := Lib.hid hw1
  have C1 := Lib.hid c1
  have B1 := Lib.hid b1
  have BL := Lib.hid h.lt
  have GL := Lib.hid (lt_of_heap b1)
  have H1 := Lib.hid (h.chg c1 (by simp))
  have HNN := Lib.hid hn
  have y0 := cell_of b1 0
  have y1 := cell_of b1 1
  have y2 := cell_of b1 2
  have y3 := cell_of b1 3
  have y4 := cell_of b1 4
  simp only [List.getElem?_toArray, List.getElem?_cons_succ, List.getElem?_cons_zero] at y0 y1 y2 y3 y4
  have z1 := H1.out.get.2.1
  clear hw1 c1 b1 h
  go_enter Try.func37, Try.ntmps37
  go_upto_region 1 with fail
  rw [← W1.out]
  have GG := Lib.hid (Nat.le_refl w.heap.size)
  generalize hg : w.heap.size = g at *
  go_quiet (fail)
  have hq := (Chg.refl [] w1).drewN nq
  generalize w1.drewN nq = w3 at *
  have H3 := Lib.hid (H1.out.chg hq (by simp))
  have B3 := Lib.hid (hq.at_ B1.out (by simp))
  have C3 := Lib.hid (C1.out.trans hq)
  clear hq W1 y0 y1 y2 y3 y4 z1 H1 B1 C1
  clear d0 d1 d2 d3 d4 d5 d6 d7
  replace C3 := Lib.hid (C3.out.mono (S' := [b]) (by simp))
  have hbg : g ≠ b := by have := BL.out; omega
  have HBG := Lib.hid hbg
  clear hbg
  have y0 := cell_of B3.out 0
  simp only [List.getElem?_toArray, List.getElem?_cons_succ, List.getElem?_cons_zero] at y0
  have z1 := H3.out.get.2.1
  have hdp : decide (d.ot < f) = false := decide_eq_false (by have := HPF.out; omega)
  go_upto_region 2 with fail
  go_quiet (fail)
  have hq := (Chg.refl [] w3).drewN nq
  generalize w3.drewN nq = w4 at *
  have H4 := Lib.hid (H3.out.chg hq (by simp))
  have B4 := Lib.hid (hq.at_ B3.out (by simp))
  have C4 := Lib.hid (C3.out.trans (hq.mono (S' := [b]) (by simp)))
  clear hq H3 B3 C3
  clear y0 z1 hdp
  have H5 : Hid (DH w4 b (meetD d f)) := Lib.hid (by unfold meetD; rw [if_neg (by have := HPF.out; omega)]; exact H4.out)
  have B5 := B4
  have C5 := C4
  clear H4 B4 C4
  generalize w4 = w5 at *
  have EE := Lib.hid (meetD_same d f).1
  have ME := Lib.hid (meetD_same d f)
  obtain ⟨s5, hs5⟩ : ∃ x, meetD d f = x := ⟨_, rfl⟩
  have h5 := H5.out
  have ee := EE.out
  rw [hs5] at h5 ee
  have H5 := Lib.hid h5
  have EE := Lib.hid ee
  have HQ := Lib.hid hs5
  clear h5 ee hs5
  have y1 := cell_of B5.out 1
  simp only [List.getElem?_toArray, List.getElem?_cons_succ, List.getElem?_cons_zero] at y1
  have z0 := H5.out.get.1
  rw [EE.out] at z0
  have hde : (t != d.ep) = false := by rw [HTE.out]; simp
  go_upto_region 9 with fail
  go_quiet (fail)
  have hq := (Chg.refl [] w5).drewN nq
  generalize w5.drewN nq = w6 at *
  have H6 := Lib.hid (H5.out.chg hq (by simp))
  have B6 := Lib.hid (hq.at_ B5.out (by simp))
  have C6 := Lib.hid (C5.out.trans (hq.mono (S' := [b]) (by simp)))
  clear hq H5 B5 C5
  clear y1 z0 hde
  have hbx := HBS.out s5 HQ.out.symm
  have HBX := Lib.hid hbx
  have y3 := cell_of B6.out 3
  simp only [List.getElem?_toArray, List.getElem?_cons_succ, List.getElem?_cons_zero] at y3
  have z2 := H6.out.get.2.2.1
  have z3 := H6.out.get.2.2.2.1
  have hdx := HDR.out s5 HQ.out.symm
  have HDX := Lib.hid hdx
  have ib : IntKind.i64.wrap (s5.base + (s5.n : Int)) = s5.base + (s5.n : Int) := IntWalk.i64_in _ (by omega)
  have g1 : decide (s5.base ≤ a) = true := decide_eq_true (by omega)
  have g2 : decide (a < s5.base + (s5.n : Int)) = false := decide_eq_false (by omega)
  clear hbx hdx
  go_upto_region 11 with fail
  go_quiet (fail)
  have hq := (Chg.refl [] w6).drewN nq
  generalize w6.drewN nq = w7 at *
  have H7 := Lib.hid (H6.out.chg hq (by simp))
  have B7 := Lib.hid (hq.at_ B6.out (by simp))
  have C7 := Lib.hid (C6.out.trans (hq.mono (S' := [b]) (by simp)))
  clear hq H6 B6 C6
  clear y3 z2 z3 g1 g2
  have H9 : Hid (DH w7 b (dropD s5 a)) := Lib.hid (by unfold dropD; rw [if_neg (by have := HDX.out; omega)]; exact H7.out)
  have B9 := B7
  have C9 := C7
  clear H7 B7 C7 ib
  generalize w7 = w9 at *
  obtain ⟨s7, hs7⟩ : ∃ x, dropD s5 a = x := ⟨_, rfl⟩
  have h9 := H9.out
  rw [hs7] at h9
  replace H9 := Lib.hid h9
  have DQ := Lib.hid hs7
  clear h9 hs7
  have y2 := cell_of B9.out 2
  simp only [List.getElem?_toArray, List.getElem?_cons_succ, List.getElem?_cons_zero] at y2
  have hm0 : ¬ m = 0 := HMZ.out
  have z6 := H9.out.get.2.2.2.2.2.2.1
  have f6 := H9.out.free 6
  have H10 := Lib.hid (H9.out.sOwes true)
  have cc : Chg [b] w9 (w9.setCell ⟨b, 6, none⟩ (.bool true)) := (Chg.refl [b] w9).setCell (.inl (List.mem_singleton.2 rfl)) _
  have B10 := Lib.hid (cc.at_ B9.out (by simpa using HBG.out))
  have C10 := Lib.hid (C9.out.trans cc)
  clear cc
  go_upto_region 16 with fail
  clear y2 hm0 z6 f6 H9 B9 C9
  generalize w9.setCell ⟨b, 6, none⟩ (.bool true) = w10 at *
  have y2 := cell_of B10.out 2
  simp only [List.getElem?_toArray, List.getElem?_cons_succ, List.getElem?_cons_zero] at y2
  have hcb := HCM.out s7 (by rw [HQ.out, DQ.out])
  have z4 := H10.out.get.2.2.2.2.1
  have i9 : IntKind.i64.wrap (s7.came + 1) = s7.came + 1 := IntWalk.i64_in _ (by omega)
  have hd9 : decide (m = s7.came + 1) = false := decide_eq_false (by omega)
  have hd8 : (m == s7.came + 1) = false := by rw [beq_eq_false_iff_ne]; omega
  clear hcb
  go_upto_region 16 with fail
  go_quiet (fail)
  have hq := (Chg.refl [] w10).drewN nq
  generalize w10.drewN nq = w11 at *
  have H11 := Lib.hid (H10.out.chg hq (by simp))
  have B11 := Lib.hid (hq.at_ B10.out (by simp))
  have C11 := Lib.hid (C10.out.trans (hq.mono (S' := [b]) (by simp)))
  clear hq H10 B10 C10
  clear y2 z4
  go_wp2
  go_end0
  exact ⟨rfl, by rw [HQ.out, DQ.out]; exact H11.out, C11.out⟩
end
section
open Go.RowKit Go.Lib
set_option linter.unusedSimpArgs false
set_option linter.unusedVariables false


set_option maxHeartbeats 8000000 in
set_option maxRecDepth 100000 in
theorem drecv_oldfin (w : World) (b : Nat) (d : DV) (h : DH w b d) (f t m a : Int) (B : Option Addr) (n e : Nat) (hn : n ≤ 140737488351232) (h0 : ¬ f < 1) (h1 : ¬ 1099511627776 < f) (h2 : ¬ f < d.ot) (h3 : ¬ t < 0) (h4 : ¬ m < 0) (h5 : ¬ 1099511627776 < m) (h6 : ¬ a < 0) (h7 : ¬ (400 : Int) < (n : Int)) (ht : 0 ≤ d.turned ∧ d.turned ≤ 4611686018427387904) (hpf : ¬ d.ot < f) (hbs : ∀ s5, s5 = meetD d f → 1 ≤ s5.base ∧ s5.base ≤ 2000000 ∧ s5.n ≤ 8 ∧ s5.n ≤ s5.c) (hte : t = d.ep) (hmz : ¬ m = 0) (hcm : ∀ s7, s7 = dropD (meetD d f) a → (0 ≤ s7.came ∧ s7.came ≤ 1000000) ∧ ¬ s7.came + 1 = m) (hdr : ∀ s5, s5 = meetD d f → s5.base ≤ a ∧ a < s5.base + s5.n) : Calls Try.prog 37 #[.pointer (some ⟨b, 0, none⟩), .agg #[.int .i64 f, .int .i64 t, .int .i64 m, .int .i64 a, .slice B n e]] w fun r w' => r = .returned (.tuple #[]) ∧ DH w' b { dropD (meetD d f) a with owes := true } ∧ Chg [b] w w' := by
  have HPF := Lib.hid hpf
  have HBS := Lib.hid hbs
  have HTE := Lib.hid hte
  have HT := Lib.hid ht
  clear hpf hbs hte ht
  have HMZ := Lib.hid hmz
  have HDR := Lib.hid hdr
  clear hmz hdr
  have HCM := Lib.hid hcm
  clear hcm
  have d0 : decide (f < 1) = false := decide_eq_false h0
  have d1 : decide (1099511627776 < f) = false := decide_eq_false h1
  have d2 : decide (f < d.ot) = false := decide_eq_false h2
  have d3 : decide (t < 0) = false := decide_eq_false h3
  have d4 : decide (m < 0) = false := decide_eq_false h4
  have d5 : decide (1099511627776 < m) = false := decide_eq_false h5
  have d6 : decide (a < 0) = false := decide_eq_false h6
  have d7 : decide ((400 : Int) < (n : Int)) = false := decide_eq_false h7
  clear h0 h1 h2 h3 h4 h5 h6 h7
  obtain ⟨w1, hw1, c1, b1⟩ := news1 w (.cells #[.int .i64 f, .int .i64 t, .int .i64 m, .int .i64 a, .slice B n e] 35)
  have W1 := Lib.hid hw1
  have C1 := Lib.hid c1
  have B1 := Lib.hid b1
  have BL := Lib.hid h.lt
  have GL := Lib.hid (lt_of_heap b1)
  have H1 := Lib.hid (h.chg c1 (by simp))
  have HNN := Lib.hid hn
  have y0 := cell_of b1 0
  have y1 := cell_of b1 1
  have y2 := cell_of b1 2
  have y3 := cell_of b1 3
  have y4 := cell_of b1 4
  simp only [List.getElem?_toArray, List.getElem?_cons_succ, List.getElem?_cons_zero] at y0 y1 y2 y3 y4
  have z1 := H1.out.get.2.1
  clear hw1 c1 b1 h
  go_enter Try.func37, Try.ntmps37
  go_upto_region 1 with fail
  rw [← W1.out]
  have GG := Lib.hid (Nat.le_refl w.heap.size)
  generalize hg : w.heap.size = g at *
  go_quiet (fail)
  have hq := (Chg.refl [] w1).drewN nq
  generalize w1.drewN nq = w3 at *
  have H3 := Lib.hid (H1.out.chg hq (by simp))
  have B3 := Lib.hid (hq.at_ B1.out (by simp))
  have C3 := Lib.hid (C1.out.trans hq)
  clear hq W1 y0 y1 y2 y3 y4 z1 H1 B1 C1
  clear d0 d1 d2 d3 d4 d5 d6 d7
  replace C3 := Lib.hid (C3.out.mono (S' := [b]) (by simp))
  have hbg : g ≠ b := by have := BL.out; omega
  have HBG := Lib.hid hbg
  clear hbg
  have y0 := cell_of B3.out 0
  simp only [List.getElem?_toArray, List.getElem?_cons_succ, List.getElem?_cons_zero] at y0
  have z1 := H3.out.get.2.1
  have hdp : decide (d.ot < f) = false := decide_eq_false (by have := HPF.out; omega)
  go_upto_region 2 with fail
  go_quiet (fail)
  have hq := (Chg.refl [] w3).drewN nq
  generalize w3.drewN nq = w4 at *
  have H4 := Lib.hid (H3.out.chg hq (by simp))
  have B4 := Lib.hid (hq.at_ B3.out (by simp))
  have C4 := Lib.hid (C3.out.trans (hq.mono (S' := [b]) (by simp)))
  clear hq H3 B3 C3
  clear y0 z1 hdp
  have H5 : Hid (DH w4 b (meetD d f)) := Lib.hid (by unfold meetD; rw [if_neg (by have := HPF.out; omega)]; exact H4.out)
  have B5 := B4
  have C5 := C4
  clear H4 B4 C4
  generalize w4 = w5 at *
  have EE := Lib.hid (meetD_same d f).1
  have ME := Lib.hid (meetD_same d f)
  obtain ⟨s5, hs5⟩ : ∃ x, meetD d f = x := ⟨_, rfl⟩
  have h5 := H5.out
  have ee := EE.out
  rw [hs5] at h5 ee
  have H5 := Lib.hid h5
  have EE := Lib.hid ee
  have HQ := Lib.hid hs5
  clear h5 ee hs5
  have y1 := cell_of B5.out 1
  simp only [List.getElem?_toArray, List.getElem?_cons_succ, List.getElem?_cons_zero] at y1
  have z0 := H5.out.get.1
  rw [EE.out] at z0
  have hde : (t != d.ep) = false := by rw [HTE.out]; simp
  go_upto_region 9 with fail
  go_quiet (fail)
  have hq := (Chg.refl [] w5).drewN nq
  generalize w5.drewN nq = w6 at *
  have H6 := Lib.hid (H5.out.chg hq (by simp))
  have B6 := Lib.hid (hq.at_ B5.out (by simp))
  have C6 := Lib.hid (C5.out.trans (hq.mono (S' := [b]) (by simp)))
  clear hq H5 B5 C5
  clear y1 z0 hde
  have hbx := HBS.out s5 HQ.out.symm
  have HBX := Lib.hid hbx
  have y3 := cell_of B6.out 3
  simp only [List.getElem?_toArray, List.getElem?_cons_succ, List.getElem?_cons_zero] at y3
  have z2 := H6.out.get.2.2.1
  have z3 := H6.out.get.2.2.2.1
  have hdx := HDR.out s5 HQ.out.symm
  have HDX := Lib.hid hdx
  have ib : IntKind.i64.wrap (s5.base + (s5.n : Int)) = s5.base + (s5.n : Int) := IntWalk.i64_in _ (by omega)
  have g1 : decide (s5.base ≤ a) = true := decide_eq_true (by omega)
  have g2 : decide (a < s5.base + (s5.n : Int)) = true := decide_eq_true (by omega)
  clear hbx hdx
  go_upto_region 11 with fail
  go_quiet (fail)
  have hq := (Chg.refl [] w6).drewN nq
  generalize w6.drewN nq = w7 at *
  have H7 := Lib.hid (H6.out.chg hq (by simp))
  have B7 := Lib.hid (hq.at_ B6.out (by simp))
  have C7 := Lib.hid (C6.out.trans (hq.mono (S' := [b]) (by simp)))
  clear hq H6 B6 C6
  clear y3 z2 z3 g1 g2
  obtain ⟨mm, hmm⟩ : ∃ mm : Nat, (a - s5.base + 1).toNat = mm := ⟨_, rfl⟩
  have e4 : IntKind.i64.wrap (a - s5.base) = a - s5.base := IntWalk.i64_in _ (by have := HBX.out; have := HDX.out; omega)
  have e5 : IntKind.i64.wrap (a - s5.base + 1) = a - s5.base + 1 := IntWalk.i64_in _ (by have := HBX.out; have := HDX.out; omega)
  have e7 : (0 : Int) ≤ a - s5.base + 1 := by have := HDX.out; omega
  have e8 : a - s5.base + 1 ≤ (s5.n : Int) := by have := HDX.out; omega
  have HMM := Lib.hid hmm
  have y3 := cell_of B7.out 3
  simp only [List.getElem?_toArray, List.getElem?_cons_succ, List.getElem?_cons_zero] at y3
  go_upto_region 12 with fail
  refine wp_region_held_drew (S := fun w' => w'.cell? ⟨g, 3, none⟩ = some (.int .i64 a) ∧ w'.cell? ⟨b, 3, none⟩ = some (.int .i64 s5.base)) (by kernel_rfl) ⟨y3, H7.out.get.2.2.2.1⟩ (fun hHeld => ?_)
  have D7 := Lib.hid (Chg.refl [] w7).drew
  replace H7 := Lib.hid (H7.out.chg D7.out (by simp))
  replace B7 := Lib.hid (D7.out.at_ B7.out (by simp))
  replace C7 := Lib.hid (C7.out.trans (D7.out.mono (S' := [b]) (by simp)))
  clear y3
  generalize w7.drew = wd at *
  refine sy 0 110 rfl rfl ?_
  try simp only [Act.put, sA, s0, s1]
  refine sy 1 111 rfl rfl ?_
  try simp only [Act.put, sA, s0, s1]
  refine sy 2 112 rfl rfl ?_
  try simp only [Act.put, sA, s0, s1]
  refine sy 3 113 rfl rfl ?_
  try simp only [Act.put, sA, s0, s1]
  refine sy 5 115 rfl rfl ?_
  try simp only [Act.put, sA, s0, s1]
  refine sy 6 116 rfl rfl ?_ (hy := by (intro w hSw; (try dsimp only at hSw); (obtain ⟨q1, q2⟩ := hSw); go_simp; try with_reducible rfl))
  try simp only [Act.put, sA, s0, s1]
  refine sy 7 117 rfl rfl ?_
  try simp only [Act.put, sA, s0, s1]
  refine sy 8 118 rfl rfl ?_
  try simp only [Act.put, sA, s0, s1]
  refine sy 9 119 rfl rfl ?_
  try simp only [Act.put, sA, s0, s1]
  refine sy 10 120 rfl rfl ?_ (hy := by (intro w hSw; (try dsimp only at hSw); (obtain ⟨q1, q2⟩ := hSw); go_simp; try with_reducible rfl))
  try simp only [Act.put, sA, s0, s1]
  refine sy 11 121 rfl rfl ?_
  try simp only [Act.put, sA, s0, s1]
  refine sy 12 122 rfl rfl ?_
  try simp only [Act.put, sA, s0, s1]
  refine wpAnyH_ready (rs := [4]) (by kernel_rfl) (by simp) ?_
  refine AllReadyH.cons rfl (fun K hK => ?_) AllReadyH.nil
  replace hK := Lib.hid hK
  have z2 := H7.out.get.2.2.1
  go_simp
  clear z2
  refine hK.out _ _ hHeld (fun hHeld => ?_)
  clear hK K
  try simp only [Act.put, sA, s0, s1]
  refine sy 13 123 rfl rfl ?_
  try simp only [Act.put, sA, s0, s1]
  refine sy 14 124 rfl rfl ?_
  try simp only [Act.put, sA, s0, s1]
  refine sy 15 125 rfl rfl ?_
  try simp only [Act.put, sA, s0, s1]
  refine wpAnyH_ready (rs := [16]) (by kernel_rfl) (by simp) ?_
  refine AllReadyH.cons rfl (fun K hK => ?_) AllReadyH.nil
  replace hK := Lib.hid hK
  have z2 := H7.out.get.2.2.1
  have f2 := H7.out.free 2
  go_simp
  clear z2 f2
  have H8 := Lib.hid (H7.out.sQ (if s5.c = mm then s5.A else s5.A.map (·.add (mm * 2))) (s5.n - mm) (s5.c - mm))
  have cc : Chg [b] wd (wd.setCell ⟨b, 2, none⟩ (.slice (if s5.c = mm then s5.A else s5.A.map (·.add (mm * 2))) (s5.n - mm) (s5.c - mm))) := (Chg.refl [b] wd).setCell (.inl (List.mem_singleton.2 rfl)) _
  have B8 := Lib.hid (cc.at_ B7.out (by simpa using HBG.out))
  have C8 := Lib.hid (C7.out.trans cc)
  have hh1 := cell_of B8.out 3
  simp only [List.getElem?_toArray, List.getElem?_cons_succ, List.getElem?_cons_zero] at hh1
  have hh2 := H8.out.get.2.2.2.1
  clear cc
  refine hK.out _ _ ⟨hh1, hh2⟩ (fun hHeld => ?_)
  clear hK K
  try simp only [Act.put, sA, s0, s1]
  refine wpAnyH_done (by kernel_rfl) ?_ _
  clear hh1 hh2 hHeld
  generalize wd.setCell ⟨b, 2, none⟩ (.slice (if s5.c = mm then s5.A else s5.A.map (·.add (mm * 2))) (s5.n - mm) (s5.c - mm)) = w8 at *
  have y3 := cell_of B8.out 3
  simp only [List.getElem?_toArray, List.getElem?_cons_succ, List.getElem?_cons_zero] at y3
  have z3 := H8.out.get.2.2.2.1
  have f3 := H8.out.free 3
  have i13 : IntKind.i64.wrap (a + 1) = a + 1 := IntWalk.i64_in _ (by have := HBX.out; have := HDX.out; omega)
  have H9 : Hid (DH (w8.setCell ⟨b, 3, none⟩ (.int .i64 (a + 1))) b (dropD s5 a)) := Lib.hid (by unfold dropD; rw [if_pos (by have := HDX.out; omega), HMM.out]; exact H8.out.sBase (a + 1))
  have cc : Chg [b] w8 (w8.setCell ⟨b, 3, none⟩ (.int .i64 (a + 1))) := (Chg.refl [b] w8).setCell (.inl (List.mem_singleton.2 rfl)) _
  have B9 := Lib.hid (cc.at_ B8.out (by simpa using HBG.out))
  have C9 := Lib.hid (C8.out.trans cc)
  clear cc H8 B8 C8
  go_upto_region 14 with fail
  clear y3 z3 f3 i13
  generalize w8.setCell ⟨b, 3, none⟩ (.int .i64 (a + 1)) = w9 at *
  generalize (if s5.c = mm then s5.A else s5.A.map (·.add (mm * 2))) = sA at *
  obtain ⟨s7, hs7⟩ : ∃ x, dropD s5 a = x := ⟨_, rfl⟩
  have h9 := H9.out
  rw [hs7] at h9
  replace H9 := Lib.hid h9
  have DQ := Lib.hid hs7
  clear h9 hs7
  have y2 := cell_of B9.out 2
  simp only [List.getElem?_toArray, List.getElem?_cons_succ, List.getElem?_cons_zero] at y2
  have hm0 : ¬ m = 0 := HMZ.out
  have z6 := H9.out.get.2.2.2.2.2.2.1
  have f6 := H9.out.free 6
  have H10 := Lib.hid (H9.out.sOwes true)
  have cc : Chg [b] w9 (w9.setCell ⟨b, 6, none⟩ (.bool true)) := (Chg.refl [b] w9).setCell (.inl (List.mem_singleton.2 rfl)) _
  have B10 := Lib.hid (cc.at_ B9.out (by simpa using HBG.out))
  have C10 := Lib.hid (C9.out.trans cc)
  clear cc
  go_upto_region 16 with fail
  clear y2 hm0 z6 f6 H9 B9 C9
  generalize w9.setCell ⟨b, 6, none⟩ (.bool true) = w10 at *
  have y2 := cell_of B10.out 2
  simp only [List.getElem?_toArray, List.getElem?_cons_succ, List.getElem?_cons_zero] at y2
  have hcb := HCM.out s7 (by rw [HQ.out, DQ.out])
  have z4 := H10.out.get.2.2.2.2.1
  have i9 : IntKind.i64.wrap (s7.came + 1) = s7.came + 1 := IntWalk.i64_in _ (by omega)
  have hd9 : decide (m = s7.came + 1) = false := decide_eq_false (by omega)
  have hd8 : (m == s7.came + 1) = false := by rw [beq_eq_false_iff_ne]; omega
  clear hcb
  go_upto_region 16 with fail
  go_quiet (fail)
  have hq := (Chg.refl [] w10).drewN nq
  generalize w10.drewN nq = w11 at *
  have H11 := Lib.hid (H10.out.chg hq (by simp))
  have B11 := Lib.hid (hq.at_ B10.out (by simp))
  have C11 := Lib.hid (C10.out.trans (hq.mono (S' := [b]) (by simp)))
  clear hq H10 B10 C10
  clear y2 z4
  go_wp2
  go_end0
  exact ⟨rfl, by rw [HQ.out, DQ.out]; exact H11.out, C11.out⟩
end
section
open Go.RowKit Go.Lib
set_option linter.unusedSimpArgs false
set_option linter.unusedVariables false


set_option maxHeartbeats 8000000 in
set_option maxRecDepth 100000 in
theorem drecv_cometlo (w : World) (b : Nat) (d : DV) (h : DH w b d) (f t m a : Int) (B : Option Addr) (n e : Nat) (hn : n ≤ 140737488351232) (h0 : ¬ f < 1) (h1 : ¬ 1099511627776 < f) (h2 : ¬ f < d.ot) (h3 : ¬ t < 0) (h4 : ¬ m < 0) (h5 : ¬ 1099511627776 < m) (h6 : ¬ a < 0) (h7 : ¬ (400 : Int) < (n : Int)) (ht : 0 ≤ d.turned ∧ d.turned ≤ 4611686018427387904) (hpf :  d.ot < f) (hbs : ∀ s5, s5 = meetD d f → 1 ≤ s5.base ∧ s5.base ≤ 2000000 ∧ s5.n ≤ 8 ∧ s5.n ≤ s5.c) (hte : t = d.ep) (hmz : ¬ m = 0) (hcm : ∀ s7, s7 = dropD (meetD d f) a → (0 ≤ s7.came ∧ s7.came ≤ 1000000) ∧ s7.came + 1 = m ∧ s7.iA = d.iA ∧ s7.iN = d.iN ∧ s7.iC = d.iC) (lt : List SlV) (ho : OwnK lstTy w d.iA d.iC lt) (hlt : d.iN = lt.length ∧ lt.length ≤ 1000000) (hfar : ∀ x, d.iA = some x → x.block ≠ b) (ys : List UInt8) (hr : Bs w B n ys) (hB : ∀ x, B = some x → x.block ≠ b) (hdr : ∀ s5, s5 = meetD d f → a < s5.base) : Calls Try.prog 37 #[.pointer (some ⟨b, 0, none⟩), .agg #[.int .i64 f, .int .i64 t, .int .i64 m, .int .i64 a, .slice B n e]] w fun r w' => r = .returned (.tuple #[]) ∧ ∃ A2 c2 A3 c3, DH w' b { dropD (meetD d f) a with owes := true, came := (dropD (meetD d f) a).came + 1, iA := A3, iN := lt.length + 1, iC := c3 } ∧ OwnK lstTy w' A3 c3 (lt ++ [(A2, n, c2)]) ∧ OwnB w' A2 c2 ys ∧ (∀ x, A2 = some x → w.heap.size ≤ x.block) ∧ (∀ x, A3 = some x → d.iA = some x ∨ w.heap.size ≤ x.block) ∧ Chg (b :: blkOf d.iA) w w' := by
  have HPF := Lib.hid hpf
  have HBS := Lib.hid hbs
  have HTE := Lib.hid hte
  have HT := Lib.hid ht
  clear hpf hbs hte ht
  have HMZ := Lib.hid hmz
  have HDR := Lib.hid hdr
  clear hmz hdr
  have HCM := Lib.hid hcm
  clear hcm
  have HO := Lib.hid ho
  have HLT := Lib.hid hlt
  have HFAR := Lib.hid hfar
  have HR := Lib.hid hr
  have HB := Lib.hid hB
  clear ho hlt hfar hr hB
  have d0 : decide (f < 1) = false := decide_eq_false h0
  have d1 : decide (1099511627776 < f) = false := decide_eq_false h1
  have d2 : decide (f < d.ot) = false := decide_eq_false h2
  have d3 : decide (t < 0) = false := decide_eq_false h3
  have d4 : decide (m < 0) = false := decide_eq_false h4
  have d5 : decide (1099511627776 < m) = false := decide_eq_false h5
  have d6 : decide (a < 0) = false := decide_eq_false h6
  have d7 : decide ((400 : Int) < (n : Int)) = false := decide_eq_false h7
  clear h0 h1 h2 h3 h4 h5 h6 h7
  obtain ⟨w1, hw1, c1, b1⟩ := news1 w (.cells #[.int .i64 f, .int .i64 t, .int .i64 m, .int .i64 a, .slice B n e] 35)
  have W1 := Lib.hid hw1
  have C1 := Lib.hid c1
  have B1 := Lib.hid b1
  have BL := Lib.hid h.lt
  have GL := Lib.hid (lt_of_heap b1)
  have H1 := Lib.hid (h.chg c1 (by simp))
  have HNN := Lib.hid hn
  have y0 := cell_of b1 0
  have y1 := cell_of b1 1
  have y2 := cell_of b1 2
  have y3 := cell_of b1 3
  have y4 := cell_of b1 4
  simp only [List.getElem?_toArray, List.getElem?_cons_succ, List.getElem?_cons_zero] at y0 y1 y2 y3 y4
  have z1 := H1.out.get.2.1
  clear hw1 c1 b1 h
  go_enter Try.func37, Try.ntmps37
  go_upto_region 1 with fail
  rw [← W1.out]
  have GG := Lib.hid (Nat.le_refl w.heap.size)
  generalize hg : w.heap.size = g at *
  go_quiet (fail)
  have hq := (Chg.refl [] w1).drewN nq
  generalize w1.drewN nq = w3 at *
  have H3 := Lib.hid (H1.out.chg hq (by simp))
  have B3 := Lib.hid (hq.at_ B1.out (by simp))
  have C3 := Lib.hid (C1.out.trans hq)
  clear hq W1 y0 y1 y2 y3 y4 z1 H1 B1 C1
  clear d0 d1 d2 d3 d4 d5 d6 d7
  replace C3 := Lib.hid (C3.out.mono (S' := [b]) (by simp))
  have hbg : g ≠ b := by have := BL.out; omega
  have HBG := Lib.hid hbg
  clear hbg
  have y0 := cell_of B3.out 0
  simp only [List.getElem?_toArray, List.getElem?_cons_succ, List.getElem?_cons_zero] at y0
  have z1 := H3.out.get.2.1
  have hdp : decide (d.ot < f) = true := decide_eq_true HPF.out
  go_upto_region 2 with fail
  go_quiet (fail)
  have hq := (Chg.refl [] w3).drewN nq
  generalize w3.drewN nq = w4 at *
  have H4 := Lib.hid (H3.out.chg hq (by simp))
  have B4 := Lib.hid (hq.at_ B3.out (by simp))
  have C4 := Lib.hid (C3.out.trans (hq.mono (S' := [b]) (by simp)))
  clear hq H3 B3 C3
  clear y0 z1 hdp
  have y0 := cell_of B4.out 0
  simp only [List.getElem?_toArray, List.getElem?_cons_succ, List.getElem?_cons_zero] at y0
  have z := H4.out.get
  obtain ⟨-, z1, z2, z3, z4, -, z6, z7⟩ := z
  have fr := fun j => H4.out.free j
  have i7 : IntKind.i64.wrap (d.turned + 1) = d.turned + 1 := IntWalk.i64_in _ (by have := HT.out; omega)
  have H5 : Hid (DH ((((((w4.setCell ⟨b, 1, none⟩ (.int .i64 f)).setCell ⟨b, 2, none⟩ (.slice none 0 0)).setCell ⟨b, 3, none⟩ (.int .i64 1)).setCell ⟨b, 4, none⟩ (.int .i64 0)).setCell ⟨b, 6, none⟩ (.bool true)).setCell ⟨b, 7, none⟩ (.int .i64 (d.turned + 1))) b (meetD d f)) := Lib.hid (by unfold meetD; rw [if_pos HPF.out]; exact ((((((H4.out.sOt f).sQ none 0 0).sBase 1).sCame 0).sOwes true).sTurned (d.turned + 1)))
  have c5 : Chg [b] w4 ((((((w4.setCell ⟨b, 1, none⟩ (.int .i64 f)).setCell ⟨b, 2, none⟩ (.slice none 0 0)).setCell ⟨b, 3, none⟩ (.int .i64 1)).setCell ⟨b, 4, none⟩ (.int .i64 0)).setCell ⟨b, 6, none⟩ (.bool true)).setCell ⟨b, 7, none⟩ (.int .i64 (d.turned + 1))) := (((((((Chg.refl [b] w4).setCell (.inl (List.mem_singleton.2 rfl)) _).setCell (.inl (List.mem_singleton.2 rfl)) _).setCell (.inl (List.mem_singleton.2 rfl)) _).setCell (.inl (List.mem_singleton.2 rfl)) _).setCell (.inl (List.mem_singleton.2 rfl)) _).setCell (.inl (List.mem_singleton.2 rfl)) _)
  have B5 := Lib.hid (c5.at_ B4.out (by simpa using HBG.out))
  have C5 := Lib.hid (C4.out.trans c5)
  clear c5 H4 B4 C4
  go_upto_region 9 with fail
  clear y0 z1 z2 z3 z4 z6 z7 fr i7
  generalize ((((((w4.setCell ⟨b, 1, none⟩ (.int .i64 f)).setCell ⟨b, 2, none⟩ (.slice none 0 0)).setCell ⟨b, 3, none⟩ (.int .i64 1)).setCell ⟨b, 4, none⟩ (.int .i64 0)).setCell ⟨b, 6, none⟩ (.bool true)).setCell ⟨b, 7, none⟩ (.int .i64 (d.turned + 1))) = w5 at *
  have EE := Lib.hid (meetD_same d f).1
  have ME := Lib.hid (meetD_same d f)
  obtain ⟨s5, hs5⟩ : ∃ x, meetD d f = x := ⟨_, rfl⟩
  have h5 := H5.out
  have ee := EE.out
  rw [hs5] at h5 ee
  have H5 := Lib.hid h5
  have EE := Lib.hid ee
  have HQ := Lib.hid hs5
  clear h5 ee hs5
  have y1 := cell_of B5.out 1
  simp only [List.getElem?_toArray, List.getElem?_cons_succ, List.getElem?_cons_zero] at y1
  have z0 := H5.out.get.1
  rw [EE.out] at z0
  have hde : (t != d.ep) = false := by rw [HTE.out]; simp
  go_upto_region 9 with fail
  go_quiet (fail)
  have hq := (Chg.refl [] w5).drewN nq
  generalize w5.drewN nq = w6 at *
  have H6 := Lib.hid (H5.out.chg hq (by simp))
  have B6 := Lib.hid (hq.at_ B5.out (by simp))
  have C6 := Lib.hid (C5.out.trans (hq.mono (S' := [b]) (by simp)))
  clear hq H5 B5 C5
  clear y1 z0 hde
  have hbx := HBS.out s5 HQ.out.symm
  have HBX := Lib.hid hbx
  have y3 := cell_of B6.out 3
  simp only [List.getElem?_toArray, List.getElem?_cons_succ, List.getElem?_cons_zero] at y3
  have z2 := H6.out.get.2.2.1
  have z3 := H6.out.get.2.2.2.1
  have hdx := HDR.out s5 HQ.out.symm
  have HDX := Lib.hid hdx
  have ib : IntKind.i64.wrap (s5.base + (s5.n : Int)) = s5.base + (s5.n : Int) := IntWalk.i64_in _ (by omega)
  have g1 : decide (s5.base ≤ a) = false := decide_eq_false (by omega)
  clear hbx hdx
  go_upto_region 11 with fail
  go_quiet (fail)
  have hq := (Chg.refl [] w6).drewN nq
  generalize w6.drewN nq = w7 at *
  have H7 := Lib.hid (H6.out.chg hq (by simp))
  have B7 := Lib.hid (hq.at_ B6.out (by simp))
  have C7 := Lib.hid (C6.out.trans (hq.mono (S' := [b]) (by simp)))
  clear hq H6 B6 C6
  clear y3 z2 z3 g1
  have H9 : Hid (DH w7 b (dropD s5 a)) := Lib.hid (by unfold dropD; rw [if_neg (by have := HDX.out; omega)]; exact H7.out)
  have B9 := B7
  have C9 := C7
  clear H7 B7 C7 ib
  generalize w7 = w9 at *
  obtain ⟨s7, hs7⟩ : ∃ x, dropD s5 a = x := ⟨_, rfl⟩
  have h9 := H9.out
  rw [hs7] at h9
  replace H9 := Lib.hid h9
  have DQ := Lib.hid hs7
  clear h9 hs7
  have y2 := cell_of B9.out 2
  simp only [List.getElem?_toArray, List.getElem?_cons_succ, List.getElem?_cons_zero] at y2
  have hm0 : ¬ m = 0 := HMZ.out
  have z6 := H9.out.get.2.2.2.2.2.2.1
  have f6 := H9.out.free 6
  have H10 := Lib.hid (H9.out.sOwes true)
  have cc : Chg [b] w9 (w9.setCell ⟨b, 6, none⟩ (.bool true)) := (Chg.refl [b] w9).setCell (.inl (List.mem_singleton.2 rfl)) _
  have B10 := Lib.hid (cc.at_ B9.out (by simpa using HBG.out))
  have C10 := Lib.hid (C9.out.trans cc)
  clear cc
  go_upto_region 16 with fail
  clear y2 hm0 z6 f6 H9 B9 C9
  generalize w9.setCell ⟨b, 6, none⟩ (.bool true) = w10 at *
  have y2 := cell_of B10.out 2
  simp only [List.getElem?_toArray, List.getElem?_cons_succ, List.getElem?_cons_zero] at y2
  have hcb := HCM.out s7 (by rw [HQ.out, DQ.out])
  have z4 := H10.out.get.2.2.2.2.1
  have i9 : IntKind.i64.wrap (s7.came + 1) = s7.came + 1 := IntWalk.i64_in _ (by omega)
  have hd9 : decide (m = s7.came + 1) = true := decide_eq_true (by omega)
  have hd8 : (m == s7.came + 1) = true := by rw [beq_iff_eq]; omega
  clear hcb
  go_upto_region 16 with fail
  go_quiet (fail)
  have hq := (Chg.refl [] w10).drewN nq
  generalize w10.drewN nq = w11 at *
  have H11 := Lib.hid (H10.out.chg hq (by simp))
  have B11 := Lib.hid (hq.at_ B10.out (by simp))
  have C11 := Lib.hid (C10.out.trans (hq.mono (S' := [b]) (by simp)))
  clear hq H10 B10 C10
  clear y2 z4
  have CM := Lib.hid (HCM.out s7 (by rw [HQ.out, DQ.out]))
  have z4 := H11.out.get.2.2.2.2.1
  have f4 := H11.out.free 4
  have H12 : Hid (DH (w11.setCell ⟨b, 4, none⟩ (.int .i64 (s7.came + 1))) b { s7 with owes := true, came := s7.came + 1 }) := Lib.hid (H11.out.sCame (s7.came + 1))
  have cc : Chg [b] w11 (w11.setCell ⟨b, 4, none⟩ (.int .i64 (s7.came + 1))) := (Chg.refl [b] w11).setCell (.inl (List.mem_singleton.2 rfl)) _
  have B12 := Lib.hid (cc.at_ B11.out (by simpa using HBG.out))
  have C12 := Lib.hid (C11.out.trans cc)
  clear cc H11 B11 C11
  go_upto_region 18 with fail
  clear z4 f4 i9 hd8 hd9
  generalize w11.setCell ⟨b, 4, none⟩ (.int .i64 (s7.came + 1)) = w12 at *
  have O12 : Hid (OwnK lstTy w12 s7.iA s7.iC lt) := Lib.hid (by
    have hA := CM.out.2.2
    rw [hA.1, hA.2.2]
    exact HO.out.chg C12.out (fun x hx hm => HFAR.out x hx (by simpa using hm)))
  have R12 : Hid (Bs w12 B n ys) := Lib.hid (HR.out.chg C12.out (fun x hx hm => HB.out x hx (by simpa using hm)))
  have LN := Lib.hid (show lt.length ≤ 1000000 ∧ s7.iN = lt.length ∧ n ≤ 140737488351232 ∧ s7.iA = d.iA from ⟨HLT.out.2, by rw [CM.out.2.2.2.1]; exact HLT.out.1, HNN.out, CM.out.2.2.1⟩)
  have OL := Lib.hid HO.out.lt
  have NB := HFAR
  have WL := Lib.hid C12.out.size
  have GIA : Hid (g ∉ blkOf s7.iA) := Lib.hid (fun hm => by obtain ⟨x, hx, ex⟩ := of_blkOf hm; have := OL.out x (LN.out.2.2.2 ▸ hx); omega)
  have zz := cell_of B12.out 4
  simp only [List.getElem?_toArray, List.getElem?_cons_succ, List.getElem?_cons_zero] at zz
  refine wp_region_held_drew (S := fun w' => w'.cell? ⟨g, 4, none⟩ = some (.slice B n e)) (by kernel_rfl) (by exact zz) (fun hHeld => ?_)
  clear zz
  have D := Lib.hid (Chg.refl [] w12).drew
  replace H12 := Lib.hid (H12.out.chg D.out (by simp))
  replace B12 := Lib.hid (D.out.at_ B12.out (by simp))
  replace C12 := Lib.hid (C12.out.trans (D.out.mono (S' := [b]) (by simp)))
  replace O12 := Lib.hid (O12.out.chg D.out (by simp))
  replace R12 := Lib.hid (R12.out.chg D.out (by simp))
  replace WL := Lib.hid (Nat.le_trans WL.out D.out.size)
  generalize w12.drew = wf at *
  refine sy 0 153 rfl rfl ?_
  try simp only [Act.put, sA, s0, s1]
  refine sy 1 154 rfl rfl ?_
  try simp only [Act.put, sA, s0, s1]
  refine sy 2 155 rfl rfl ?_
  try simp only [Act.put, sA, s0, s1]
  refine sy 3 156 rfl rfl ?_
  try simp only [Act.put, sA, s0, s1]
  refine sy 6 159 rfl rfl ?_
  try simp only [Act.put, sA, s0, s1]
  refine sy 7 160 rfl rfl ?_ (hy := by (intro w hSw; (try dsimp only at hSw); have q := hSw; go_simp; try with_reducible rfl))
  try simp only [Act.put, sA, s0, s1]
  refine wpAnyH_ready (rs := [4, 5]) (by kernel_rfl) (by simp) ?_
  refine AllReadyH.cons rfl (fun K hK => ?_) (AllReadyH.cons rfl (fun K hK => ?_) AllReadyH.nil)
  · skip
    replace hK := Lib.hid hK
    have z5 := (H12.out.chg (Chg.refl [] wf) (by simp)).get.2.2.2.2.2.1
    rw [LN.out.2.1] at z5
    go_simp
    clear z5
    refine hK.out _ _ (by have z := cell_of (Chg.at_ (Chg.refl [] wf) B12.out (by simp)) 4; simpa using z) (fun hHeld => ?_)
    clear hK K
    try simp only [Act.put, sA, s0, s1]
    refine wpAnyH_ready (rs := [5]) (by kernel_rfl) (by simp) ?_
    refine AllReadyH.cons rfl (fun K hK => ?_) AllReadyH.nil
    replace hK := Lib.hid hK
    obtain ⟨w13, hw13, c13, m13⟩ := news1 wf (.cells #[] 5)
    have W13 := Lib.hid hw13
    have O13 := Lib.hid (show OwnB w13 (some ⟨wf.heap.size, 0, none⟩) 0 [] from (by rw [hw13]; exact OwnB.empty wf))
    have C13 := Lib.hid c13
    clear hw13 c13 m13
    go_simp
    rw [← W13.out]
    clear W13 hHeld
    refine hK.out _ _ (by have z := cell_of (Chg.at_ C13.out B12.out (by simp)) 4; simpa using z) (fun hHeld => ?_)
    clear hK K
    try simp only [Act.put, sA, s0, s1]
    refine wpAnyH_ready (rs := [8]) (by kernel_rfl) (by simp) ?_
    refine AllReadyH.cons rfl (fun K hK => ?_) AllReadyH.nil
    replace hK := Lib.hid hK
    refine step_app rfl (.tmp 158) (.tmp 160) rfl rfl (A := some ⟨wf.heap.size, 0, none⟩) (B := B) (n := 0) (m := n) (c := 0) (d := e) (xs := []) (ys := ys) O13.out rfl rfl (R12.out.chg C13.out (by simp)) (by have := LN.out; omega) ?_
    intro A2 c2 w14 o4 g4 e4
    have O14 : Hid (OwnB w14 A2 c2 ys) := Lib.hid (by simpa using o4)
    have C14 : Hid (Chg [] wf w14) := Lib.hid (C13.out.grown g4 (fun k hk => .inr (by simp at hk; omega)))
    have N14 : Hid (∀ x, A2 = some x → wf.heap.size ≤ x.block) := Lib.hid (fun x hx => by rcases e4 with e | e <;> rw [e] at hx <;> cases hx <;> have := C13.out.size <;> simp <;> omega)
    simp only [Nat.zero_add]
    clear o4 g4 e4 O13 hHeld
    refine hK.out _ _ (by have z := cell_of (Chg.at_ C14.out B12.out (by simp)) 4; simpa using z) (fun hHeld => ?_)
    clear hK K
    try simp only [Act.put, sA, s0, s1]
    refine wpAnyH_ready (rs := [9]) (by kernel_rfl) (by simp) ?_
    refine AllReadyH.cons rfl (fun K hK => ?_) AllReadyH.nil
    replace hK := Lib.hid hK
    obtain ⟨w15, hw15, c15, m15⟩ := news1 w14 (.cells #[.slice A2 n c2] 33)
    have W15 := Lib.hid hw15
    have M15 : Hid (RdK lstTy w15 (some ⟨w14.heap.size, 0, none⟩) 1 [((A2, n, c2) : SlV)]) := Lib.hid (row_one m15)
    have C145 := Lib.hid c15
    have C15 := Lib.hid (C14.out.trans c15)
    clear hw15 c15 m15
    go_simp
    rw [← W15.out]
    clear hHeld W15
    refine hK.out _ _ (by have z := cell_of (Chg.at_ C15.out B12.out (by simp)) 4; simpa using z) (fun hHeld => ?_)
    clear hK K
    try simp only [Act.put, sA, s0, s1]
    refine wpAnyH_ready (rs := [10]) (by kernel_rfl) (by simp) ?_
    refine AllReadyH.cons rfl (fun K hK => ?_) AllReadyH.nil
    replace hK := Lib.hid hK
    refine step_appK (R := lstTy) rfl (.tmp 157) (.tmp 162) rfl rfl (A := s7.iA) (B := some ⟨w14.heap.size, 0, none⟩) (n := lt.length) (m := 1) (c := s7.iC) (d := 1) (xs := lt) (ys := [((A2, n, c2) : SlV)]) (O12.out.chg C15.out (by simp)) rfl rfl M15.out (by have := LN.out.1; omega) ?_
    intro A3 c3 w16 o2 g2 e2
    have O16 := Lib.hid o2
    have C16 : Hid (Chg (blkOf s7.iA) w15 w16) := Lib.hid ((Chg.refl (blkOf s7.iA) w15).grown g2 (fun k hk => .inl (by simpa [blkOf] using hk)))
    have E16 := Lib.hid e2
    clear o2 g2 e2 hHeld
    have NBA : Hid (b ∉ blkOf s7.iA) := Lib.hid (fun hm => by obtain ⟨x, hx, e⟩ := of_blkOf hm; exact NB.out x (LN.out.2.2.2 ▸ hx) e)
    have H16 := Lib.hid ((H12.out.chg C15.out (by simp)).chg C16.out NBA.out)
    refine hK.out _ _ (by have z := cell_of (C16.out.at_ (C15.out.at_ B12.out (by simp)) GIA.out) 4; simpa using z) (fun hHeld => ?_)
    clear hK K
    try simp only [Act.put, sA, s0, s1]
    refine sy 11 164 rfl rfl ?_
    try simp only [Act.put, sA, s0, s1]
    refine sy 12 165 rfl rfl ?_
    try simp only [Act.put, sA, s0, s1]
    refine wpAnyH_ready (rs := [13]) (by kernel_rfl) (by simp) ?_
    refine AllReadyH.cons rfl (fun K hK => ?_) AllReadyH.nil
    replace hK := Lib.hid hK
    have z5 := H16.out.get.2.2.2.2.2.1
    have f5 := H16.out.free 5
    go_simp
    clear z5 f5 hHeld
    refine hK.out _ _ (by have z := cell_of (((Chg.refl [b] w16).setCell (p := ⟨b, 5, none⟩) (.inl (List.mem_singleton.2 rfl)) (.slice A3 (lt.length + 1) c3)).at_ (C16.out.at_ (C15.out.at_ B12.out (by simp)) GIA.out) (by simpa using HBG.out)) 4; simpa using z) (fun hHeld => ?_)
    clear hK K
    try simp only [Act.put, sA, s0, s1]
    refine wpAnyH_done (by kernel_rfl) ?_ _
    go_wp2
    go_end0
    have CC : Chg (blkOf d.iA) wf w16 := by
      have := ((C15.out.mono (S' := blkOf s7.iA) (by simp)).trans C16.out)
      rwa [LN.out.2.2.2] at this
    have A3N : ∀ x, A3 = some x → x.block ≠ b := fun x hx => by
      rcases E16.out with e | e
      · exact NB.out x (by rw [← LN.out.2.2.2, ← e]; exact hx)
      · rw [e] at hx
        cases hx
        have := C15.out.size
        have := WL.out
        have := BL.out
        simp only
        omega
    have n2 : ∀ x, A2 = some x → g ≤ x.block := fun x hx => by have := N14.out x hx; have := WL.out; omega
    refine ⟨rfl, A2, c2, A3, c3, by rw [HQ.out, DQ.out]; exact H16.out.sIn A3 (lt.length + 1) c3, O16.out.chg ((Chg.refl [b] w16).setCell (p := ⟨b, 5, none⟩) (.inl (List.mem_singleton.2 rfl)) _) (fun x hx hm => A3N x hx (by simpa using hm)), ?_, (fun x hx => by have := n2 x hx; omega), ?_, ?_⟩
    · refine ((O14.out.chg C145.out (by simp)).chg C16.out (fun x hx hm => ?_)).chg ((Chg.refl [b] w16).setCell (p := ⟨b, 5, none⟩) (.inl (List.mem_singleton.2 rfl)) _) (fun x hx hm => ?_)
      · obtain ⟨x', hx', e⟩ := of_blkOf hm
        have := OL.out x' (LN.out.2.2.2 ▸ hx')
        have := n2 x hx
        omega
      · have := n2 x hx
        have := BL.out
        simp at hm
        omega
    · intro x hx
      rcases E16.out with e | e
      · left
        rw [← LN.out.2.2.2, ← e]
        exact hx
      · right
        rw [e] at hx
        cases hx
        have := C15.out.size
        have := WL.out
        simp only
        omega
    · exact ((C12.out.mono (S' := b :: blkOf d.iA) (fun i hi => .inl (by simp at hi; simp [hi]))).trans (CC.mono (fun i hi => .inl (List.mem_cons_of_mem _ hi)))).setCell (.inl (List.mem_cons_self ..)) _
  · skip
    replace hK := Lib.hid hK
    obtain ⟨w13, hw13, c13, m13⟩ := news1 wf (.cells #[] 5)
    have W13 := Lib.hid hw13
    have O13 := Lib.hid (show OwnB w13 (some ⟨wf.heap.size, 0, none⟩) 0 [] from (by rw [hw13]; exact OwnB.empty wf))
    have C13 := Lib.hid c13
    clear hw13 c13 m13
    go_simp
    rw [← W13.out]
    clear W13 hHeld
    refine hK.out _ _ (by have z := cell_of (Chg.at_ C13.out B12.out (by simp)) 4; simpa using z) (fun hHeld => ?_)
    clear hK K
    try simp only [Act.put, sA, s0, s1]
    refine wpAnyH_ready (rs := [4, 8]) (by kernel_rfl) (by simp) ?_
    refine AllReadyH.cons rfl (fun K hK => ?_) (AllReadyH.cons rfl (fun K hK => ?_) AllReadyH.nil)
    · skip
      replace hK := Lib.hid hK
      have z5 := (H12.out.chg C13.out (by simp)).get.2.2.2.2.2.1
      rw [LN.out.2.1] at z5
      go_simp
      clear z5
      refine hK.out _ _ (by have z := cell_of (Chg.at_ C13.out B12.out (by simp)) 4; simpa using z) (fun hHeld => ?_)
      clear hK K
      try simp only [Act.put, sA, s0, s1]
      refine wpAnyH_ready (rs := [8]) (by kernel_rfl) (by simp) ?_
      refine AllReadyH.cons rfl (fun K hK => ?_) AllReadyH.nil
      replace hK := Lib.hid hK
      refine step_app rfl (.tmp 158) (.tmp 160) rfl rfl (A := some ⟨wf.heap.size, 0, none⟩) (B := B) (n := 0) (m := n) (c := 0) (d := e) (xs := []) (ys := ys) O13.out rfl rfl (R12.out.chg C13.out (by simp)) (by have := LN.out; omega) ?_
      intro A2 c2 w14 o4 g4 e4
      have O14 : Hid (OwnB w14 A2 c2 ys) := Lib.hid (by simpa using o4)
      have C14 : Hid (Chg [] wf w14) := Lib.hid (C13.out.grown g4 (fun k hk => .inr (by simp at hk; omega)))
      have N14 : Hid (∀ x, A2 = some x → wf.heap.size ≤ x.block) := Lib.hid (fun x hx => by rcases e4 with e | e <;> rw [e] at hx <;> cases hx <;> have := C13.out.size <;> simp <;> omega)
      simp only [Nat.zero_add]
      clear o4 g4 e4 O13 hHeld
      refine hK.out _ _ (by have z := cell_of (Chg.at_ C14.out B12.out (by simp)) 4; simpa using z) (fun hHeld => ?_)
      clear hK K
      try simp only [Act.put, sA, s0, s1]
      refine wpAnyH_ready (rs := [9]) (by kernel_rfl) (by simp) ?_
      refine AllReadyH.cons rfl (fun K hK => ?_) AllReadyH.nil
      replace hK := Lib.hid hK
      obtain ⟨w15, hw15, c15, m15⟩ := news1 w14 (.cells #[.slice A2 n c2] 33)
      have W15 := Lib.hid hw15
      have M15 : Hid (RdK lstTy w15 (some ⟨w14.heap.size, 0, none⟩) 1 [((A2, n, c2) : SlV)]) := Lib.hid (row_one m15)
      have C145 := Lib.hid c15
      have C15 := Lib.hid (C14.out.trans c15)
      clear hw15 c15 m15
      go_simp
      rw [← W15.out]
      clear hHeld W15
      refine hK.out _ _ (by have z := cell_of (Chg.at_ C15.out B12.out (by simp)) 4; simpa using z) (fun hHeld => ?_)
      clear hK K
      try simp only [Act.put, sA, s0, s1]
      refine wpAnyH_ready (rs := [10]) (by kernel_rfl) (by simp) ?_
      refine AllReadyH.cons rfl (fun K hK => ?_) AllReadyH.nil
      replace hK := Lib.hid hK
      refine step_appK (R := lstTy) rfl (.tmp 157) (.tmp 162) rfl rfl (A := s7.iA) (B := some ⟨w14.heap.size, 0, none⟩) (n := lt.length) (m := 1) (c := s7.iC) (d := 1) (xs := lt) (ys := [((A2, n, c2) : SlV)]) (O12.out.chg C15.out (by simp)) rfl rfl M15.out (by have := LN.out.1; omega) ?_
      intro A3 c3 w16 o2 g2 e2
      have O16 := Lib.hid o2
      have C16 : Hid (Chg (blkOf s7.iA) w15 w16) := Lib.hid ((Chg.refl (blkOf s7.iA) w15).grown g2 (fun k hk => .inl (by simpa [blkOf] using hk)))
      have E16 := Lib.hid e2
      clear o2 g2 e2 hHeld
      have NBA : Hid (b ∉ blkOf s7.iA) := Lib.hid (fun hm => by obtain ⟨x, hx, e⟩ := of_blkOf hm; exact NB.out x (LN.out.2.2.2 ▸ hx) e)
      have H16 := Lib.hid ((H12.out.chg C15.out (by simp)).chg C16.out NBA.out)
      refine hK.out _ _ (by have z := cell_of (C16.out.at_ (C15.out.at_ B12.out (by simp)) GIA.out) 4; simpa using z) (fun hHeld => ?_)
      clear hK K
      try simp only [Act.put, sA, s0, s1]
      refine sy 11 164 rfl rfl ?_
      try simp only [Act.put, sA, s0, s1]
      refine sy 12 165 rfl rfl ?_
      try simp only [Act.put, sA, s0, s1]
      refine wpAnyH_ready (rs := [13]) (by kernel_rfl) (by simp) ?_
      refine AllReadyH.cons rfl (fun K hK => ?_) AllReadyH.nil
      replace hK := Lib.hid hK
      have z5 := H16.out.get.2.2.2.2.2.1
      have f5 := H16.out.free 5
      go_simp
      clear z5 f5 hHeld
      refine hK.out _ _ (by have z := cell_of (((Chg.refl [b] w16).setCell (p := ⟨b, 5, none⟩) (.inl (List.mem_singleton.2 rfl)) (.slice A3 (lt.length + 1) c3)).at_ (C16.out.at_ (C15.out.at_ B12.out (by simp)) GIA.out) (by simpa using HBG.out)) 4; simpa using z) (fun hHeld => ?_)
      clear hK K
      try simp only [Act.put, sA, s0, s1]
      refine wpAnyH_done (by kernel_rfl) ?_ _
      go_wp2
      go_end0
      have CC : Chg (blkOf d.iA) wf w16 := by
        have := ((C15.out.mono (S' := blkOf s7.iA) (by simp)).trans C16.out)
        rwa [LN.out.2.2.2] at this
      have A3N : ∀ x, A3 = some x → x.block ≠ b := fun x hx => by
        rcases E16.out with e | e
        · exact NB.out x (by rw [← LN.out.2.2.2, ← e]; exact hx)
        · rw [e] at hx
          cases hx
          have := C15.out.size
          have := WL.out
          have := BL.out
          simp only
          omega
      have n2 : ∀ x, A2 = some x → g ≤ x.block := fun x hx => by have := N14.out x hx; have := WL.out; omega
      refine ⟨rfl, A2, c2, A3, c3, by rw [HQ.out, DQ.out]; exact H16.out.sIn A3 (lt.length + 1) c3, O16.out.chg ((Chg.refl [b] w16).setCell (p := ⟨b, 5, none⟩) (.inl (List.mem_singleton.2 rfl)) _) (fun x hx hm => A3N x hx (by simpa using hm)), ?_, (fun x hx => by have := n2 x hx; omega), ?_, ?_⟩
      · refine ((O14.out.chg C145.out (by simp)).chg C16.out (fun x hx hm => ?_)).chg ((Chg.refl [b] w16).setCell (p := ⟨b, 5, none⟩) (.inl (List.mem_singleton.2 rfl)) _) (fun x hx hm => ?_)
        · obtain ⟨x', hx', e⟩ := of_blkOf hm
          have := OL.out x' (LN.out.2.2.2 ▸ hx')
          have := n2 x hx
          omega
        · have := n2 x hx
          have := BL.out
          simp at hm
          omega
      · intro x hx
        rcases E16.out with e | e
        · left
          rw [← LN.out.2.2.2, ← e]
          exact hx
        · right
          rw [e] at hx
          cases hx
          have := C15.out.size
          have := WL.out
          simp only
          omega
      · exact ((C12.out.mono (S' := b :: blkOf d.iA) (fun i hi => .inl (by simp at hi; simp [hi]))).trans (CC.mono (fun i hi => .inl (List.mem_cons_of_mem _ hi)))).setCell (.inl (List.mem_cons_self ..)) _
    · skip
      replace hK := Lib.hid hK
      refine step_app rfl (.tmp 158) (.tmp 160) rfl rfl (A := some ⟨wf.heap.size, 0, none⟩) (B := B) (n := 0) (m := n) (c := 0) (d := e) (xs := []) (ys := ys) O13.out rfl rfl (R12.out.chg C13.out (by simp)) (by have := LN.out; omega) ?_
      intro A2 c2 w14 o4 g4 e4
      have O14 : Hid (OwnB w14 A2 c2 ys) := Lib.hid (by simpa using o4)
      have C14 : Hid (Chg [] wf w14) := Lib.hid (C13.out.grown g4 (fun k hk => .inr (by simp at hk; omega)))
      have N14 : Hid (∀ x, A2 = some x → wf.heap.size ≤ x.block) := Lib.hid (fun x hx => by rcases e4 with e | e <;> rw [e] at hx <;> cases hx <;> have := C13.out.size <;> simp <;> omega)
      simp only [Nat.zero_add]
      clear o4 g4 e4 O13 hHeld
      refine hK.out _ _ (by have z := cell_of (Chg.at_ C14.out B12.out (by simp)) 4; simpa using z) (fun hHeld => ?_)
      clear hK K
      try simp only [Act.put, sA, s0, s1]
      refine wpAnyH_ready (rs := [4, 9]) (by kernel_rfl) (by simp) ?_
      refine AllReadyH.cons rfl (fun K hK => ?_) (AllReadyH.cons rfl (fun K hK => ?_) AllReadyH.nil)
      · skip
        replace hK := Lib.hid hK
        have z5 := (H12.out.chg C14.out (by simp)).get.2.2.2.2.2.1
        rw [LN.out.2.1] at z5
        go_simp
        clear z5
        refine hK.out _ _ (by have z := cell_of (Chg.at_ C14.out B12.out (by simp)) 4; simpa using z) (fun hHeld => ?_)
        clear hK K
        try simp only [Act.put, sA, s0, s1]
        refine wpAnyH_ready (rs := [9]) (by kernel_rfl) (by simp) ?_
        refine AllReadyH.cons rfl (fun K hK => ?_) AllReadyH.nil
        replace hK := Lib.hid hK
        obtain ⟨w15, hw15, c15, m15⟩ := news1 w14 (.cells #[.slice A2 n c2] 33)
        have W15 := Lib.hid hw15
        have M15 : Hid (RdK lstTy w15 (some ⟨w14.heap.size, 0, none⟩) 1 [((A2, n, c2) : SlV)]) := Lib.hid (row_one m15)
        have C145 := Lib.hid c15
        have C15 := Lib.hid (C14.out.trans c15)
        clear hw15 c15 m15
        go_simp
        rw [← W15.out]
        clear hHeld W15
        refine hK.out _ _ (by have z := cell_of (Chg.at_ C15.out B12.out (by simp)) 4; simpa using z) (fun hHeld => ?_)
        clear hK K
        try simp only [Act.put, sA, s0, s1]
        refine wpAnyH_ready (rs := [10]) (by kernel_rfl) (by simp) ?_
        refine AllReadyH.cons rfl (fun K hK => ?_) AllReadyH.nil
        replace hK := Lib.hid hK
        refine step_appK (R := lstTy) rfl (.tmp 157) (.tmp 162) rfl rfl (A := s7.iA) (B := some ⟨w14.heap.size, 0, none⟩) (n := lt.length) (m := 1) (c := s7.iC) (d := 1) (xs := lt) (ys := [((A2, n, c2) : SlV)]) (O12.out.chg C15.out (by simp)) rfl rfl M15.out (by have := LN.out.1; omega) ?_
        intro A3 c3 w16 o2 g2 e2
        have O16 := Lib.hid o2
        have C16 : Hid (Chg (blkOf s7.iA) w15 w16) := Lib.hid ((Chg.refl (blkOf s7.iA) w15).grown g2 (fun k hk => .inl (by simpa [blkOf] using hk)))
        have E16 := Lib.hid e2
        clear o2 g2 e2 hHeld
        have NBA : Hid (b ∉ blkOf s7.iA) := Lib.hid (fun hm => by obtain ⟨x, hx, e⟩ := of_blkOf hm; exact NB.out x (LN.out.2.2.2 ▸ hx) e)
        have H16 := Lib.hid ((H12.out.chg C15.out (by simp)).chg C16.out NBA.out)
        refine hK.out _ _ (by have z := cell_of (C16.out.at_ (C15.out.at_ B12.out (by simp)) GIA.out) 4; simpa using z) (fun hHeld => ?_)
        clear hK K
        try simp only [Act.put, sA, s0, s1]
        refine sy 11 164 rfl rfl ?_
        try simp only [Act.put, sA, s0, s1]
        refine sy 12 165 rfl rfl ?_
        try simp only [Act.put, sA, s0, s1]
        refine wpAnyH_ready (rs := [13]) (by kernel_rfl) (by simp) ?_
        refine AllReadyH.cons rfl (fun K hK => ?_) AllReadyH.nil
        replace hK := Lib.hid hK
        have z5 := H16.out.get.2.2.2.2.2.1
        have f5 := H16.out.free 5
        go_simp
        clear z5 f5 hHeld
        refine hK.out _ _ (by have z := cell_of (((Chg.refl [b] w16).setCell (p := ⟨b, 5, none⟩) (.inl (List.mem_singleton.2 rfl)) (.slice A3 (lt.length + 1) c3)).at_ (C16.out.at_ (C15.out.at_ B12.out (by simp)) GIA.out) (by simpa using HBG.out)) 4; simpa using z) (fun hHeld => ?_)
        clear hK K
        try simp only [Act.put, sA, s0, s1]
        refine wpAnyH_done (by kernel_rfl) ?_ _
        go_wp2
        go_end0
        have CC : Chg (blkOf d.iA) wf w16 := by
          have := ((C15.out.mono (S' := blkOf s7.iA) (by simp)).trans C16.out)
          rwa [LN.out.2.2.2] at this
        have A3N : ∀ x, A3 = some x → x.block ≠ b := fun x hx => by
          rcases E16.out with e | e
          · exact NB.out x (by rw [← LN.out.2.2.2, ← e]; exact hx)
          · rw [e] at hx
            cases hx
            have := C15.out.size
            have := WL.out
            have := BL.out
            simp only
            omega
        have n2 : ∀ x, A2 = some x → g ≤ x.block := fun x hx => by have := N14.out x hx; have := WL.out; omega
        refine ⟨rfl, A2, c2, A3, c3, by rw [HQ.out, DQ.out]; exact H16.out.sIn A3 (lt.length + 1) c3, O16.out.chg ((Chg.refl [b] w16).setCell (p := ⟨b, 5, none⟩) (.inl (List.mem_singleton.2 rfl)) _) (fun x hx hm => A3N x hx (by simpa using hm)), ?_, (fun x hx => by have := n2 x hx; omega), ?_, ?_⟩
        · refine ((O14.out.chg C145.out (by simp)).chg C16.out (fun x hx hm => ?_)).chg ((Chg.refl [b] w16).setCell (p := ⟨b, 5, none⟩) (.inl (List.mem_singleton.2 rfl)) _) (fun x hx hm => ?_)
          · obtain ⟨x', hx', e⟩ := of_blkOf hm
            have := OL.out x' (LN.out.2.2.2 ▸ hx')
            have := n2 x hx
            omega
          · have := n2 x hx
            have := BL.out
            simp at hm
            omega
        · intro x hx
          rcases E16.out with e | e
          · left
            rw [← LN.out.2.2.2, ← e]
            exact hx
          · right
            rw [e] at hx
            cases hx
            have := C15.out.size
            have := WL.out
            simp only
            omega
        · exact ((C12.out.mono (S' := b :: blkOf d.iA) (fun i hi => .inl (by simp at hi; simp [hi]))).trans (CC.mono (fun i hi => .inl (List.mem_cons_of_mem _ hi)))).setCell (.inl (List.mem_cons_self ..)) _
      · skip
        replace hK := Lib.hid hK
        obtain ⟨w15, hw15, c15, m15⟩ := news1 w14 (.cells #[.slice A2 n c2] 33)
        have W15 := Lib.hid hw15
        have M15 : Hid (RdK lstTy w15 (some ⟨w14.heap.size, 0, none⟩) 1 [((A2, n, c2) : SlV)]) := Lib.hid (row_one m15)
        have C145 := Lib.hid c15
        have C15 := Lib.hid (C14.out.trans c15)
        clear hw15 c15 m15
        go_simp
        rw [← W15.out]
        clear hHeld W15
        refine hK.out _ _ (by have z := cell_of (Chg.at_ C15.out B12.out (by simp)) 4; simpa using z) (fun hHeld => ?_)
        clear hK K
        try simp only [Act.put, sA, s0, s1]
        refine wpAnyH_ready (rs := [4]) (by kernel_rfl) (by simp) ?_
        refine AllReadyH.cons rfl (fun K hK => ?_) AllReadyH.nil
        replace hK := Lib.hid hK
        have z5 := (H12.out.chg C15.out (by simp)).get.2.2.2.2.2.1
        rw [LN.out.2.1] at z5
        go_simp
        clear z5
        refine hK.out _ _ (by have z := cell_of (Chg.at_ C15.out B12.out (by simp)) 4; simpa using z) (fun hHeld => ?_)
        clear hK K
        try simp only [Act.put, sA, s0, s1]
        refine wpAnyH_ready (rs := [10]) (by kernel_rfl) (by simp) ?_
        refine AllReadyH.cons rfl (fun K hK => ?_) AllReadyH.nil
        replace hK := Lib.hid hK
        refine step_appK (R := lstTy) rfl (.tmp 157) (.tmp 162) rfl rfl (A := s7.iA) (B := some ⟨w14.heap.size, 0, none⟩) (n := lt.length) (m := 1) (c := s7.iC) (d := 1) (xs := lt) (ys := [((A2, n, c2) : SlV)]) (O12.out.chg C15.out (by simp)) rfl rfl M15.out (by have := LN.out.1; omega) ?_
        intro A3 c3 w16 o2 g2 e2
        have O16 := Lib.hid o2
        have C16 : Hid (Chg (blkOf s7.iA) w15 w16) := Lib.hid ((Chg.refl (blkOf s7.iA) w15).grown g2 (fun k hk => .inl (by simpa [blkOf] using hk)))
        have E16 := Lib.hid e2
        clear o2 g2 e2 hHeld
        have NBA : Hid (b ∉ blkOf s7.iA) := Lib.hid (fun hm => by obtain ⟨x, hx, e⟩ := of_blkOf hm; exact NB.out x (LN.out.2.2.2 ▸ hx) e)
        have H16 := Lib.hid ((H12.out.chg C15.out (by simp)).chg C16.out NBA.out)
        refine hK.out _ _ (by have z := cell_of (C16.out.at_ (C15.out.at_ B12.out (by simp)) GIA.out) 4; simpa using z) (fun hHeld => ?_)
        clear hK K
        try simp only [Act.put, sA, s0, s1]
        refine sy 11 164 rfl rfl ?_
        try simp only [Act.put, sA, s0, s1]
        refine sy 12 165 rfl rfl ?_
        try simp only [Act.put, sA, s0, s1]
        refine wpAnyH_ready (rs := [13]) (by kernel_rfl) (by simp) ?_
        refine AllReadyH.cons rfl (fun K hK => ?_) AllReadyH.nil
        replace hK := Lib.hid hK
        have z5 := H16.out.get.2.2.2.2.2.1
        have f5 := H16.out.free 5
        go_simp
        clear z5 f5 hHeld
        refine hK.out _ _ (by have z := cell_of (((Chg.refl [b] w16).setCell (p := ⟨b, 5, none⟩) (.inl (List.mem_singleton.2 rfl)) (.slice A3 (lt.length + 1) c3)).at_ (C16.out.at_ (C15.out.at_ B12.out (by simp)) GIA.out) (by simpa using HBG.out)) 4; simpa using z) (fun hHeld => ?_)
        clear hK K
        try simp only [Act.put, sA, s0, s1]
        refine wpAnyH_done (by kernel_rfl) ?_ _
        go_wp2
        go_end0
        have CC : Chg (blkOf d.iA) wf w16 := by
          have := ((C15.out.mono (S' := blkOf s7.iA) (by simp)).trans C16.out)
          rwa [LN.out.2.2.2] at this
        have A3N : ∀ x, A3 = some x → x.block ≠ b := fun x hx => by
          rcases E16.out with e | e
          · exact NB.out x (by rw [← LN.out.2.2.2, ← e]; exact hx)
          · rw [e] at hx
            cases hx
            have := C15.out.size
            have := WL.out
            have := BL.out
            simp only
            omega
        have n2 : ∀ x, A2 = some x → g ≤ x.block := fun x hx => by have := N14.out x hx; have := WL.out; omega
        refine ⟨rfl, A2, c2, A3, c3, by rw [HQ.out, DQ.out]; exact H16.out.sIn A3 (lt.length + 1) c3, O16.out.chg ((Chg.refl [b] w16).setCell (p := ⟨b, 5, none⟩) (.inl (List.mem_singleton.2 rfl)) _) (fun x hx hm => A3N x hx (by simpa using hm)), ?_, (fun x hx => by have := n2 x hx; omega), ?_, ?_⟩
        · refine ((O14.out.chg C145.out (by simp)).chg C16.out (fun x hx hm => ?_)).chg ((Chg.refl [b] w16).setCell (p := ⟨b, 5, none⟩) (.inl (List.mem_singleton.2 rfl)) _) (fun x hx hm => ?_)
          · obtain ⟨x', hx', e⟩ := of_blkOf hm
            have := OL.out x' (LN.out.2.2.2 ▸ hx')
            have := n2 x hx
            omega
          · have := n2 x hx
            have := BL.out
            simp at hm
            omega
        · intro x hx
          rcases E16.out with e | e
          · left
            rw [← LN.out.2.2.2, ← e]
            exact hx
          · right
            rw [e] at hx
            cases hx
            have := C15.out.size
            have := WL.out
            simp only
            omega
        · exact ((C12.out.mono (S' := b :: blkOf d.iA) (fun i hi => .inl (by simp at hi; simp [hi]))).trans (CC.mono (fun i hi => .inl (List.mem_cons_of_mem _ hi)))).setCell (.inl (List.mem_cons_self ..)) _
end
end Go.Proofs.Ytmblalcigbghfaa
