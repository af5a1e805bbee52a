/- Receive: a way. Receive: a way. -/
import Derived.Test.YtmblalcigbghfaaSge
namespace Go.Proofs.Ytmblalcigbghfaa
section
open Go.RowKit Go.Lib
set_option linter.unusedSimpArgs false
set_option linter.unusedVariables false


set_option maxHeartbeats 8000000 in
set_option maxRecDepth 100000 in
theorem serecv_come_t (w : World) (b : Nat) (s : SQ) (h : QH w b s) (f t m a : Int) (B : Option Addr) (n d : Nat) (hn : n ≤ 140737488351232) (hp : 0 ≤ s.peer) (hM : MindsQ s.peer f t m a n) (ht : 0 ≤ s.turns ∧ s.turns ≤ 4611686018427387904) (hbs : 1 ≤ s.base ∧ s.base ≤ 2000000) (hpf :  s.peer < f) (hte : t = s.ep) (hmz : ¬ m = 0) (hcm : ∀ s7, s7 = dropQ (meetQ s f) a → (0 ≤ s7.came ∧ s7.came ≤ 1000000) ∧ s7.came + 1 = m ∧ s7.A = s.A ∧ s7.n = s.n ∧ s7.c = s.c) (lt : List SlV) (ho : OwnK lstTy w s.A s.c lt) (hlt : s.n = lt.length ∧ lt.length ≤ 1000000) (hfar : ∀ x, s.A = some x → x.block ≠ b) (ys : List UInt8) (hr : Bs w B n ys) (hB : ∀ x, B = some x → x.block ≠ b) : Calls Try.prog 28 #[.pointer (some ⟨b, 0, none⟩), .agg #[.int .i64 f, .int .i64 t, .int .i64 m, .int .i64 a, .slice B n d]] w fun e w' => e = .returned (.tuple #[]) ∧ ∃ A2 c2 A3 c3, QH w' b { dropQ (meetQ s f) a with owes := true, came := (dropQ (meetQ s f) a).came + 1, A := A3, n := lt.length + 1, c := c3 } ∧ OwnK lstTy w' A3 c3 (lt ++ [(A2, n, c2)]) ∧ OwnB w' A2 c2 ys ∧ (∀ x, A2 = some x → w.heap.size ≤ x.block) ∧ (∀ x, A3 = some x → s.A = some x ∨ w.heap.size ≤ x.block) ∧ Chg (b :: blkOf s.A) w w' := by
  have HPF := Lib.hid hpf
  have HBS := Lib.hid hbs
  have HTE := Lib.hid hte
  have HT := Lib.hid ht
  clear hpf hbs hte ht
  have HMZ := Lib.hid hmz
  clear hmz
  have HCM := Lib.hid hcm
  clear hcm
  have HO := Lib.hid ho
  have HLT := Lib.hid hlt
  have HFAR := Lib.hid hfar
  have HR := Lib.hid hr
  have HB := Lib.hid hB
  clear ho hlt hfar hr hB
  obtain ⟨w1, hw1, c1, b1⟩ := news1 w (.cells #[.int .i64 f, .int .i64 t, .int .i64 m, .int .i64 a, .slice B n d] 35)
  have W1 := Lib.hid hw1
  have C1 := Lib.hid c1
  have B1 := Lib.hid b1
  have BL := Lib.hid h.lt
  have GL := Lib.hid (lt_of_heap b1)
  have H1 := Lib.hid (h.chg c1 (by simp))
  have MI := Lib.hid (fun (w' : World) (hc : Chg [] w1 w') => seminds_any w' b s ((h.chg c1 (by simp)).chg hc (by simp)) f t m a B n d hn hp)
  rw [decide_eq_true hM] at MI
  have y0 := cell_of b1 0
  have y1 := cell_of b1 1
  have y2 := cell_of b1 2
  have y3 := cell_of b1 3
  have y4 := cell_of b1 4
  simp only [List.getElem?_toArray, List.getElem?_cons_succ, List.getElem?_cons_zero] at y0 y1 y2 y3 y4
  have HPP := Lib.hid hp
  have HNN := Lib.hid hn
  clear hw1 c1 b1 h hn hp hM
  go_enter Try.func28, Try.ntmps28
  go_upto_region 1 with fail
  rw [← W1.out]
  have GG := Lib.hid (Nat.le_refl w.heap.size)
  generalize hg : w.heap.size = g at *
  go_wp2_with fail
  refine (semade_any w1 b s H1.out).mono ?_
  rintro e w2 ⟨rfl, rfl⟩
  go_wp2_with fail
  refine (MI.out w2 (Chg.refl [] w2)).mono ?_
  rintro e w3 ⟨rfl, hc⟩
  have H3 := Lib.hid (H1.out.chg hc (by simp))
  have B3 := Lib.hid (hc.at_ B1.out (by simp))
  have C3 := Lib.hid (C1.out.trans hc)
  clear hc MI W1 y0 y1 y2 y3 y4 H1 B1 C1
  have y0 := cell_of B3.out 0
  simp only [List.getElem?_toArray, List.getElem?_cons_succ, List.getElem?_cons_zero] at y0
  have z2 := H3.out.get.2.2.1
  have hdp : decide (s.peer < f) = true := decide_eq_true HPF.out
  go_upto_region 2 with fail
  go_quiet (fail)
  have hq := (Chg.refl [] w3).drewN nq
  generalize w3.drewN nq = w4 at *
  have H4 := Lib.hid (H3.out.chg hq (by simp))
  have B4 := Lib.hid (hq.at_ B3.out (by simp))
  have C4 := Lib.hid ((Lib.hid (C3.out.mono (S' := [b]) (by simp))).out.trans (hq.mono (S' := [b]) (by simp)))
  clear hq y0 z2 hdp H3 B3 C3
  have y0 := cell_of B4.out 0
  simp only [List.getElem?_toArray, List.getElem?_cons_succ, List.getElem?_cons_zero] at y0
  go_wp2_with fail
  refine (turn_any w4 b s H4.out f HT.out).mono ?_
  rintro e w5 ⟨rfl, hq5, hc5⟩
  have hbg : g ≠ b := by have := BL.out; omega
  have H5 := Lib.hid hq5
  have B5 := Lib.hid (hc5.at_ B4.out (by simpa using hbg))
  have C5 := Lib.hid (C4.out.trans hc5)
  have S5 := Lib.hid (show turnQ s f = meetQ s f from (by unfold meetQ; rw [if_pos HPF.out]))
  clear hq5 hc5 hbg y0 H4 B4 C4
  rw [S5.out] at H5
  have ba5 := meetQ_base (f := f) HBS.out
  have ee := (meetQ_same s f).1
  obtain ⟨s5, hs5⟩ : ∃ x, meetQ s f = x := ⟨_, rfl⟩
  have h5 := H5.out
  rw [hs5] at h5 ba5 ee
  have H5 := Lib.hid h5
  have BA5 := Lib.hid ba5
  have EE := Lib.hid ee
  have HQ := Lib.hid hs5
  clear h5 ba5 ee hs5
  have y1 := cell_of B5.out 1
  simp only [List.getElem?_toArray, List.getElem?_cons_succ, List.getElem?_cons_zero] at y1
  have z1 := H5.out.get.2.1
  rw [EE.out] at z1
  have hde : (t != s.ep) = false := by rw [HTE.out]; simp
  go_upto_region 4 with fail
  go_quiet (fail)
  have hq := (Chg.refl [] w5).drewN nq
  generalize w5.drewN nq = w6 at *
  have H6 := Lib.hid (H5.out.chg hq (by simp))
  have B6 := Lib.hid (hq.at_ B5.out (by simp))
  have C6 := Lib.hid (C5.out.trans (hq.mono (S' := [b]) (by simp)))
  clear hq y1 z1 hde H5 B5 C5
  have y3 := cell_of B6.out 3
  simp only [List.getElem?_toArray, List.getElem?_cons_succ, List.getElem?_cons_zero] at y3
  go_upto_region 6 with fail
  refine wp_region_held_drew (S := fun w' => w'.cell? ⟨g, 3, none⟩ = some (.int .i64 a)) (by kernel_rfl) (by exact y3) (fun hHeld => ?_)
  have D6 := Lib.hid (Chg.refl [] w6).drew
  replace H6 := Lib.hid (H6.out.chg D6.out (by simp))
  replace B6 := Lib.hid (D6.out.at_ B6.out (by simp))
  replace C6 := Lib.hid (C6.out.trans (D6.out.mono (S' := [b]) (by simp)))
  clear y3
  generalize w6.drew = wd at *
  refine sy 0 33 rfl rfl ?_
  try simp only [Act.put, sA, s0, s1]
  refine sy 1 34 rfl rfl ?_
  try simp only [Act.put, sA, s0, s1]
  refine sy 2 35 rfl rfl ?_
  try simp only [Act.put, sA, s0, s1]
  refine sy 3 36 rfl rfl ?_
  try simp only [Act.put, sA, s0, s1]
  refine sy 4 37 rfl rfl ?_
  try simp only [Act.put, sA, s0, s1]
  refine wpAnyH_ready (rs := [5]) (by kernel_rfl) (by simp) ?_
  refine AllReadyH.cons rfl (fun K hK => ?_) AllReadyH.nil
  replace hK := Lib.hid hK
  go_simp
  refine (drop_any wd b s5 H6.out a (by have := BA5.out; omega) (by have := BA5.out; omega)).mono ?_
  rintro e w7 ⟨rfl, hq7, hc7⟩
  have hbg : g ≠ b := by have := BL.out; omega
  have H7 := Lib.hid hq7
  have B7 := Lib.hid (hc7.at_ B6.out (by simpa using hbg))
  have C7 := Lib.hid (C6.out.trans hc7)
  clear hq7 hc7 hbg H6 B6 C6 hHeld
  refine hK.out _ _ (by have z := cell_of B7.out 3; simpa using z) (fun hHeld => ?_)
  clear hK K
  try simp only [Act.put, sA, s0, s1]
  refine wpAnyH_done (by kernel_rfl) ?_ _
  obtain ⟨s7, hs7⟩ : ∃ x, dropQ s5 a = x := ⟨_, rfl⟩
  have h7 := H7.out
  rw [hs7] at h7
  have H7 := Lib.hid h7
  have DQ := Lib.hid hs7
  clear h7 hs7
  have y2 := cell_of B7.out 2
  simp only [List.getElem?_toArray, List.getElem?_cons_succ, List.getElem?_cons_zero] at y2
  have hm0 : ¬ m = 0 := HMZ.out
  go_wp2_with fail
  clear y2 hm0
  refine (owe_any w7 b s7 H7.out).mono ?_
  rintro e w8 ⟨rfl, hq8, hc8⟩
  have hbg : g ≠ b := by have := BL.out; omega
  have H8 := Lib.hid hq8
  have B8 := Lib.hid (hc8.at_ B7.out (by simpa using hbg))
  have C8 := Lib.hid (C7.out.trans hc8)
  clear hq8 hc8 hbg H7 B7 C7
  have y2 := cell_of B8.out 2
  simp only [List.getElem?_toArray, List.getElem?_cons_succ, List.getElem?_cons_zero] at y2
  have hcb := HCM.out s7 (by rw [HQ.out, DQ.out])
  have i9 : IntKind.i64.wrap (s7.came + 1) = s7.came + 1 := IntWalk.i64_in _ (by omega)
  clear hcb
  go_upto_region 9 with fail
  refine wp_region_held_drew (S := fun w' => w'.cell? ⟨g, 2, none⟩ = some (.int .i64 m)) (by kernel_rfl) (by exact y2) (fun hHeld => ?_)
  have D8 := Lib.hid (Chg.refl [] w8).drew
  replace H8 := Lib.hid (H8.out.chg D8.out (by simp))
  replace B8 := Lib.hid (D8.out.at_ B8.out (by simp))
  replace C8 := Lib.hid (C8.out.trans (D8.out.mono (S' := [b]) (by simp)))
  clear y2
  generalize w8.drew = we at *
  refine sy 0 44 rfl rfl ?_
  try simp only [Act.put, sA, s0, s1]
  refine sy 1 45 rfl rfl ?_
  try simp only [Act.put, sA, s0, s1]
  refine sy 2 46 rfl rfl ?_
  try simp only [Act.put, sA, s0, s1]
  refine sy 5 49 rfl rfl ?_
  try simp only [Act.put, sA, s0, s1]
  refine sy 6 50 rfl rfl ?_
  try simp only [Act.put, sA, s0, s1]
  refine wpAnyH_ready (rs := [3]) (by kernel_rfl) (by simp) ?_
  refine AllReadyH.cons rfl (fun K hK => ?_) AllReadyH.nil
  replace hK := Lib.hid hK
  go_simp
  refine (iload_any we b 32 s7.came H8.out.get.2.2.2.2.2.2.2.1).mono ?_
  rintro e w9 ⟨rfl, rfl⟩
  have hHeld2 := hHeld
  refine hK.out _ _ hHeld2 (fun hHeld => ?_)
  clear hK K
  try simp only [Act.put, sA, s0, s1]
  refine sy 4 48 rfl rfl ?_
  try simp only [Act.put, sA, s0, s1]
  refine sy 7 51 rfl rfl ?_
  try simp only [Act.put, sA, s0, s1]
  refine wpAnyH_done (by kernel_rfl) ?_ _
  have hee := (HCM.out s7 (by rw [HQ.out, DQ.out])).2.1
  have h00 := (HCM.out s7 (by rw [HQ.out, DQ.out])).1
  have CM := Lib.hid (HCM.out s7 (by rw [HQ.out, DQ.out]))
  rw [hee] at i9
  go_wp2_with fail
  refine (iadd_one w9 b 32 s7.came H8.out.get.2.2.2.2.2.2.2.1 (H8.out.free 32) (by omega) (by omega)).mono ?_
  rintro e w10 ⟨rfl, rfl⟩
  have hbg : g ≠ b := by have := BL.out; omega
  have H10 : Hid (QH (w9.setCell ⟨b, 32, none⟩ (.int .i64 (s7.came + 1))) b { s7 with owes := true, came := s7.came + 1 }) := Lib.hid (by
    obtain ⟨r, q, h1, h2⟩ := H8.out
    exact ⟨r, q, h1.came _, h2⟩)
  have ch := (Chg.refl [b] w9).setCell (p := ⟨b, 32, none⟩) (.inl (List.mem_singleton.2 rfl)) (.int .i64 (s7.came + 1))
  have B10 := Lib.hid (ch.at_ B8.out (by simpa using hbg))
  have C10 := Lib.hid (C8.out.trans ch)
  clear ch hbg H8 B8 C8 hee h00
  generalize w9.setCell ⟨b, 32, none⟩ (.int .i64 (s7.came + 1)) = w10 at *
  have O10 : Hid (OwnK lstTy w10 s7.A s7.c lt) := Lib.hid (by
    have hA := CM.out.2.2
    rw [hA.1, hA.2.2]
    exact HO.out.chg C10.out (fun x hx hm => HFAR.out x hx (by simpa using hm)))
  have R10 : Hid (Bs w10 B n ys) := Lib.hid (HR.out.chg C10.out (fun x hx hm => HB.out x hx (by simpa using hm)))
  have NB := HFAR
  have LN := Lib.hid (show lt.length ≤ 1000000 ∧ s7.n = lt.length ∧ n ≤ 140737488351232 ∧ s7.A = s.A from ⟨HLT.out.2, by rw [CM.out.2.2.2.1]; exact HLT.out.1, HNN.out, CM.out.2.2.1⟩)
  have OL := Lib.hid HO.out.lt
  have WL := Lib.hid C10.out.size
  skip
  go_upto_region 11 with fail
  have GIA : Hid (g ∉ blkOf s7.A ∧ g ≠ b) := Lib.hid ⟨fun hm => by obtain ⟨x, hx, ex⟩ := of_blkOf hm; have := OL.out x (LN.out.2.2.2 ▸ hx); omega, by have := BL.out; omega⟩
  have zz := cell_of B10.out 4
  simp only [List.getElem?_toArray, List.getElem?_cons_succ, List.getElem?_cons_zero] at zz
  refine wp_region_held_drew (S := fun w' => w'.cell? ⟨g, 4, none⟩ = some (.slice B n d)) (by kernel_rfl) (by exact zz) (fun hHeld => ?_)
  clear zz
  have D10 := Lib.hid (Chg.refl [] w10).drew
  replace H10 := Lib.hid (H10.out.chg D10.out (by simp))
  replace B10 := Lib.hid (D10.out.at_ B10.out (by simp))
  replace C10 := Lib.hid (C10.out.trans (D10.out.mono (S' := [b]) (by simp)))
  replace O10 := Lib.hid (O10.out.chg D10.out (by simp))
  replace R10 := Lib.hid (R10.out.chg D10.out (by simp))
  replace WL := Lib.hid (Nat.le_trans WL.out D10.out.size)
  generalize w10.drew = wf at *
  refine sy 0 56 rfl rfl ?_
  try simp only [Act.put, sA, s0, s1]
  refine sy 1 57 rfl rfl ?_
  try simp only [Act.put, sA, s0, s1]
  refine sy 2 58 rfl rfl ?_
  try simp only [Act.put, sA, s0, s1]
  refine sy 3 59 rfl rfl ?_
  try simp only [Act.put, sA, s0, s1]
  refine sy 5 61 rfl rfl ?_
  try simp only [Act.put, sA, s0, s1]
  refine sy 6 62 rfl rfl ?_ (hy := by (intro w hSw; (try dsimp only at hSw); have q := hSw; go_simp; try with_reducible rfl))
  try simp only [Act.put, sA, s0, s1]
  refine wpAnyH_ready (rs := [4, 7]) (by kernel_rfl) (by simp) ?_
  refine AllReadyH.cons rfl (fun K hK => ?_) (AllReadyH.cons rfl (fun K hK => ?_) AllReadyH.nil)
  · skip
    replace hK := Lib.hid hK
    have z31 := H10.out.get.2.2.2.2.2.2.1
    rw [LN.out.2.1] at z31
    go_simp
    clear z31
    refine hK.out _ _ (by have z := cell_of (Chg.at_ (Chg.refl [] wf) B10.out (by simp)) 4; simpa using z) (fun hHeld => ?_)
    clear hK K
    try simp only [Act.put, sA, s0, s1]
    refine wpAnyH_ready (rs := [7]) (by kernel_rfl) (by simp) ?_
    refine AllReadyH.cons rfl (fun K hK => ?_) AllReadyH.nil
    replace hK := Lib.hid hK
    go_simp
    refine (clone_any wf B n d ys R10.out LN.out.2.2.1).mono ?_
    rintro e w12 ⟨A2, c2, rfl, hO, hA, hC⟩
    have O12 := Lib.hid hO
    have N12 := Lib.hid hA
    have C12 := Lib.hid hC
    clear hO hA hC hHeld
    refine hK.out _ _ (by have z := cell_of (Chg.at_ C12.out B10.out (by simp)) 4; simpa using z) (fun hHeld => ?_)
    clear hK K
    try simp only [Act.put, sA, s0, s1]
    refine wpAnyH_ready (rs := [8]) (by kernel_rfl) (by simp) ?_
    refine AllReadyH.cons rfl (fun K hK => ?_) AllReadyH.nil
    replace hK := Lib.hid hK
    obtain ⟨w13, hw13, c13, m13⟩ := news1 w12 (.cells #[.slice A2 n c2] 33)
    have W13 := Lib.hid hw13
    have M13 : Hid (RdK lstTy w13 (some ⟨w12.heap.size, 0, none⟩) 1 [((A2, n, c2) : SlV)]) := Lib.hid (row_one m13)
    have C13 := Lib.hid c13
    clear hw13 c13 m13
    go_simp
    rw [← W13.out]
    clear hHeld W13
    refine hK.out _ _ (by have z := cell_of (Chg.at_ (C12.out.trans C13.out) B10.out (by simp)) 4; simpa using z) (fun hHeld => ?_)
    clear hK K
    try simp only [Act.put, sA, s0, s1]
    refine wpAnyH_ready (rs := [9]) (by kernel_rfl) (by simp) ?_
    refine AllReadyH.cons rfl (fun K hK => ?_) AllReadyH.nil
    replace hK := Lib.hid hK
    refine step_appK (R := lstTy) rfl (.tmp 60) (.tmp 64) rfl rfl (A := s7.A) (B := some ⟨w12.heap.size, 0, none⟩) (n := lt.length) (m := 1) (c := s7.c) (d := 1) (xs := lt) (ys := [((A2, n, c2) : SlV)]) (O10.out.chg (C12.out.trans C13.out) (by simp)) rfl rfl M13.out (by have := LN.out.1; omega) ?_
    intro A3 c3 w14 o2 g2 e2
    have O14 := Lib.hid o2
    have C14 : Hid (Chg (blkOf s7.A) w13 w14) := Lib.hid ((Chg.refl (blkOf s7.A) w13).grown g2 (fun k hk => .inl (by simpa [blkOf] using hk)))
    have E14 := Lib.hid e2
    clear o2 g2 e2 hHeld
    have NBA : Hid (b ∉ blkOf s7.A) := Lib.hid (fun hm => by obtain ⟨x, hx, e⟩ := of_blkOf hm; exact NB.out x (LN.out.2.2.2 ▸ hx) e)
    have H14 := Lib.hid (((H10.out.chg (C12.out.trans C13.out) (by simp))).chg C14.out NBA.out)
    refine hK.out _ _ (by have z := cell_of (C14.out.at_ ((C12.out.trans C13.out).at_ B10.out (by simp)) GIA.out.1) 4; simpa using z) (fun hHeld => ?_)
    clear hK K
    try simp only [Act.put, sA, s0, s1]
    refine sy 10 66 rfl rfl ?_
    try simp only [Act.put, sA, s0, s1]
    refine sy 11 67 rfl rfl ?_
    try simp only [Act.put, sA, s0, s1]
    refine wpAnyH_ready (rs := [12]) (by kernel_rfl) (by simp) ?_
    refine AllReadyH.cons rfl (fun K hK => ?_) AllReadyH.nil
    replace hK := Lib.hid hK
    have z31 := H14.out.get.2.2.2.2.2.2.1
    have f31 := H14.out.free 31
    go_simp
    clear z31 f31 hHeld
    refine hK.out _ _ (by have z := cell_of (((Chg.refl [b] w14).setCell (p := ⟨b, 31, none⟩) (.inl (List.mem_singleton.2 rfl)) (.slice A3 (lt.length + 1) c3)).at_ (C14.out.at_ ((C12.out.trans C13.out).at_ B10.out (by simp)) GIA.out.1) (by simpa using GIA.out.2)) 4; simpa using z) (fun hHeld => ?_)
    clear hK K
    try simp only [Act.put, sA, s0, s1]
    refine wpAnyH_done (by kernel_rfl) ?_ _
    go_wp2
    go_end0
    have CC : Chg (blkOf s.A) wf w14 := by
      have := (((C12.out.trans C13.out).mono (S' := blkOf s7.A) (by simp)).trans C14.out)
      rwa [LN.out.2.2.2] at this
    have A3N : ∀ x, A3 = some x → x.block ≠ b := fun x hx => by
      rcases E14.out with e | e
      · exact NB.out x (by rw [← LN.out.2.2.2, ← e]; exact hx)
      · rw [e] at hx
        cases hx
        have := C13.out.size
        have := C12.out.size
        have := WL.out
        have := BL.out
        simp only
        omega
    have n2 : ∀ x, A2 = some x → w.heap.size ≤ x.block := fun x hx => by have := N12.out x hx; have := WL.out; omega
    refine ⟨rfl, A2, c2, A3, c3, ?_, O14.out.chg ((Chg.refl [b] w14).setCell (p := ⟨b, 31, none⟩) (.inl (List.mem_singleton.2 rfl)) _) (fun x hx hm => A3N x hx (by simpa using hm)), ?_, n2, ?_, ?_⟩
    · obtain ⟨r, q, h1, h2⟩ := H14.out
      have e1 := h1.taken A3 (lt.length + 1) c3
      refine ⟨r, q, ?_, ?_⟩
      · rw [HQ.out, DQ.out]
        exact e1
      · rw [HQ.out, DQ.out]
        exact h2
    · refine ((O12.out.chg C13.out (by simp)).chg C14.out (fun x hx hm => ?_)).chg ((Chg.refl [b] w14).setCell (p := ⟨b, 31, none⟩) (.inl (List.mem_singleton.2 rfl)) _) (fun x hx hm => ?_)
      · obtain ⟨x', hx', e⟩ := of_blkOf hm
        have := OL.out x' (LN.out.2.2.2 ▸ hx')
        have := n2 x hx
        omega
      · have := n2 x hx
        have := BL.out
        simp at hm
        omega
    · intro x hx
      rcases E14.out with e | e
      · left
        rw [← LN.out.2.2.2, ← e]
        exact hx
      · right
        rw [e] at hx
        cases hx
        have := C13.out.size
        have := C12.out.size
        have := WL.out
        simp only
        omega
    · exact ((C10.out.mono (S' := b :: blkOf s.A) (fun i hi => .inl (by simp at hi; simp [hi]))).trans (CC.mono (fun i hi => .inl (List.mem_cons_of_mem _ hi)))).setCell (.inl (List.mem_cons_self ..)) _
  · skip
    replace hK := Lib.hid hK
    go_simp
    refine (clone_any wf B n d ys R10.out LN.out.2.2.1).mono ?_
    rintro e w12 ⟨A2, c2, rfl, hO, hA, hC⟩
    have O12 := Lib.hid hO
    have N12 := Lib.hid hA
    have C12 := Lib.hid hC
    clear hO hA hC hHeld
    refine hK.out _ _ (by have z := cell_of (Chg.at_ C12.out B10.out (by simp)) 4; simpa using z) (fun hHeld => ?_)
    clear hK K
    try simp only [Act.put, sA, s0, s1]
    refine wpAnyH_ready (rs := [4, 8]) (by kernel_rfl) (by simp) ?_
    refine AllReadyH.cons rfl (fun K hK => ?_) (AllReadyH.cons rfl (fun K hK => ?_) AllReadyH.nil)
    · skip
      replace hK := Lib.hid hK
      have z31 := (H10.out.chg C12.out (by simp)).get.2.2.2.2.2.2.1
      rw [LN.out.2.1] at z31
      go_simp
      clear z31
      refine hK.out _ _ (by have z := cell_of (Chg.at_ C12.out B10.out (by simp)) 4; simpa using z) (fun hHeld => ?_)
      clear hK K
      try simp only [Act.put, sA, s0, s1]
      refine wpAnyH_ready (rs := [8]) (by kernel_rfl) (by simp) ?_
      refine AllReadyH.cons rfl (fun K hK => ?_) AllReadyH.nil
      replace hK := Lib.hid hK
      obtain ⟨w13, hw13, c13, m13⟩ := news1 w12 (.cells #[.slice A2 n c2] 33)
      have W13 := Lib.hid hw13
      have M13 : Hid (RdK lstTy w13 (some ⟨w12.heap.size, 0, none⟩) 1 [((A2, n, c2) : SlV)]) := Lib.hid (row_one m13)
      have C13 := Lib.hid c13
      clear hw13 c13 m13
      go_simp
      rw [← W13.out]
      clear hHeld W13
      refine hK.out _ _ (by have z := cell_of (Chg.at_ (C12.out.trans C13.out) B10.out (by simp)) 4; simpa using z) (fun hHeld => ?_)
      clear hK K
      try simp only [Act.put, sA, s0, s1]
      refine wpAnyH_ready (rs := [9]) (by kernel_rfl) (by simp) ?_
      refine AllReadyH.cons rfl (fun K hK => ?_) AllReadyH.nil
      replace hK := Lib.hid hK
      refine step_appK (R := lstTy) rfl (.tmp 60) (.tmp 64) rfl rfl (A := s7.A) (B := some ⟨w12.heap.size, 0, none⟩) (n := lt.length) (m := 1) (c := s7.c) (d := 1) (xs := lt) (ys := [((A2, n, c2) : SlV)]) (O10.out.chg (C12.out.trans C13.out) (by simp)) rfl rfl M13.out (by have := LN.out.1; omega) ?_
      intro A3 c3 w14 o2 g2 e2
      have O14 := Lib.hid o2
      have C14 : Hid (Chg (blkOf s7.A) w13 w14) := Lib.hid ((Chg.refl (blkOf s7.A) w13).grown g2 (fun k hk => .inl (by simpa [blkOf] using hk)))
      have E14 := Lib.hid e2
      clear o2 g2 e2 hHeld
      have NBA : Hid (b ∉ blkOf s7.A) := Lib.hid (fun hm => by obtain ⟨x, hx, e⟩ := of_blkOf hm; exact NB.out x (LN.out.2.2.2 ▸ hx) e)
      have H14 := Lib.hid (((H10.out.chg (C12.out.trans C13.out) (by simp))).chg C14.out NBA.out)
      refine hK.out _ _ (by have z := cell_of (C14.out.at_ ((C12.out.trans C13.out).at_ B10.out (by simp)) GIA.out.1) 4; simpa using z) (fun hHeld => ?_)
      clear hK K
      try simp only [Act.put, sA, s0, s1]
      refine sy 10 66 rfl rfl ?_
      try simp only [Act.put, sA, s0, s1]
      refine sy 11 67 rfl rfl ?_
      try simp only [Act.put, sA, s0, s1]
      refine wpAnyH_ready (rs := [12]) (by kernel_rfl) (by simp) ?_
      refine AllReadyH.cons rfl (fun K hK => ?_) AllReadyH.nil
      replace hK := Lib.hid hK
      have z31 := H14.out.get.2.2.2.2.2.2.1
      have f31 := H14.out.free 31
      go_simp
      clear z31 f31 hHeld
      refine hK.out _ _ (by have z := cell_of (((Chg.refl [b] w14).setCell (p := ⟨b, 31, none⟩) (.inl (List.mem_singleton.2 rfl)) (.slice A3 (lt.length + 1) c3)).at_ (C14.out.at_ ((C12.out.trans C13.out).at_ B10.out (by simp)) GIA.out.1) (by simpa using GIA.out.2)) 4; simpa using z) (fun hHeld => ?_)
      clear hK K
      try simp only [Act.put, sA, s0, s1]
      refine wpAnyH_done (by kernel_rfl) ?_ _
      go_wp2
      go_end0
      have CC : Chg (blkOf s.A) wf w14 := by
        have := (((C12.out.trans C13.out).mono (S' := blkOf s7.A) (by simp)).trans C14.out)
        rwa [LN.out.2.2.2] at this
      have A3N : ∀ x, A3 = some x → x.block ≠ b := fun x hx => by
        rcases E14.out with e | e
        · exact NB.out x (by rw [← LN.out.2.2.2, ← e]; exact hx)
        · rw [e] at hx
          cases hx
          have := C13.out.size
          have := C12.out.size
          have := WL.out
          have := BL.out
          simp only
          omega
      have n2 : ∀ x, A2 = some x → w.heap.size ≤ x.block := fun x hx => by have := N12.out x hx; have := WL.out; omega
      refine ⟨rfl, A2, c2, A3, c3, ?_, O14.out.chg ((Chg.refl [b] w14).setCell (p := ⟨b, 31, none⟩) (.inl (List.mem_singleton.2 rfl)) _) (fun x hx hm => A3N x hx (by simpa using hm)), ?_, n2, ?_, ?_⟩
      · obtain ⟨r, q, h1, h2⟩ := H14.out
        have e1 := h1.taken A3 (lt.length + 1) c3
        refine ⟨r, q, ?_, ?_⟩
        · rw [HQ.out, DQ.out]
          exact e1
        · rw [HQ.out, DQ.out]
          exact h2
      · refine ((O12.out.chg C13.out (by simp)).chg C14.out (fun x hx hm => ?_)).chg ((Chg.refl [b] w14).setCell (p := ⟨b, 31, none⟩) (.inl (List.mem_singleton.2 rfl)) _) (fun x hx hm => ?_)
        · obtain ⟨x', hx', e⟩ := of_blkOf hm
          have := OL.out x' (LN.out.2.2.2 ▸ hx')
          have := n2 x hx
          omega
        · have := n2 x hx
          have := BL.out
          simp at hm
          omega
      · intro x hx
        rcases E14.out with e | e
        · left
          rw [← LN.out.2.2.2, ← e]
          exact hx
        · right
          rw [e] at hx
          cases hx
          have := C13.out.size
          have := C12.out.size
          have := WL.out
          simp only
          omega
      · exact ((C10.out.mono (S' := b :: blkOf s.A) (fun i hi => .inl (by simp at hi; simp [hi]))).trans (CC.mono (fun i hi => .inl (List.mem_cons_of_mem _ hi)))).setCell (.inl (List.mem_cons_self ..)) _
    · skip
      replace hK := Lib.hid hK
      obtain ⟨w13, hw13, c13, m13⟩ := news1 w12 (.cells #[.slice A2 n c2] 33)
      have W13 := Lib.hid hw13
      have M13 : Hid (RdK lstTy w13 (some ⟨w12.heap.size, 0, none⟩) 1 [((A2, n, c2) : SlV)]) := Lib.hid (row_one m13)
      have C13 := Lib.hid c13
      clear hw13 c13 m13
      go_simp
      rw [← W13.out]
      clear hHeld W13
      refine hK.out _ _ (by have z := cell_of (Chg.at_ (C12.out.trans C13.out) B10.out (by simp)) 4; simpa using z) (fun hHeld => ?_)
      clear hK K
      try simp only [Act.put, sA, s0, s1]
      refine wpAnyH_ready (rs := [4]) (by kernel_rfl) (by simp) ?_
      refine AllReadyH.cons rfl (fun K hK => ?_) AllReadyH.nil
      replace hK := Lib.hid hK
      have z31 := (H10.out.chg (C12.out.trans C13.out) (by simp)).get.2.2.2.2.2.2.1
      rw [LN.out.2.1] at z31
      go_simp
      clear z31
      refine hK.out _ _ (by have z := cell_of (Chg.at_ (C12.out.trans C13.out) B10.out (by simp)) 4; simpa using z) (fun hHeld => ?_)
      clear hK K
      try simp only [Act.put, sA, s0, s1]
      refine wpAnyH_ready (rs := [9]) (by kernel_rfl) (by simp) ?_
      refine AllReadyH.cons rfl (fun K hK => ?_) AllReadyH.nil
      replace hK := Lib.hid hK
      refine step_appK (R := lstTy) rfl (.tmp 60) (.tmp 64) rfl rfl (A := s7.A) (B := some ⟨w12.heap.size, 0, none⟩) (n := lt.length) (m := 1) (c := s7.c) (d := 1) (xs := lt) (ys := [((A2, n, c2) : SlV)]) (O10.out.chg (C12.out.trans C13.out) (by simp)) rfl rfl M13.out (by have := LN.out.1; omega) ?_
      intro A3 c3 w14 o2 g2 e2
      have O14 := Lib.hid o2
      have C14 : Hid (Chg (blkOf s7.A) w13 w14) := Lib.hid ((Chg.refl (blkOf s7.A) w13).grown g2 (fun k hk => .inl (by simpa [blkOf] using hk)))
      have E14 := Lib.hid e2
      clear o2 g2 e2 hHeld
      have NBA : Hid (b ∉ blkOf s7.A) := Lib.hid (fun hm => by obtain ⟨x, hx, e⟩ := of_blkOf hm; exact NB.out x (LN.out.2.2.2 ▸ hx) e)
      have H14 := Lib.hid (((H10.out.chg (C12.out.trans C13.out) (by simp))).chg C14.out NBA.out)
      refine hK.out _ _ (by have z := cell_of (C14.out.at_ ((C12.out.trans C13.out).at_ B10.out (by simp)) GIA.out.1) 4; simpa using z) (fun hHeld => ?_)
      clear hK K
      try simp only [Act.put, sA, s0, s1]
      refine sy 10 66 rfl rfl ?_
      try simp only [Act.put, sA, s0, s1]
      refine sy 11 67 rfl rfl ?_
      try simp only [Act.put, sA, s0, s1]
      refine wpAnyH_ready (rs := [12]) (by kernel_rfl) (by simp) ?_
      refine AllReadyH.cons rfl (fun K hK => ?_) AllReadyH.nil
      replace hK := Lib.hid hK
      have z31 := H14.out.get.2.2.2.2.2.2.1
      have f31 := H14.out.free 31
      go_simp
      clear z31 f31 hHeld
      refine hK.out _ _ (by have z := cell_of (((Chg.refl [b] w14).setCell (p := ⟨b, 31, none⟩) (.inl (List.mem_singleton.2 rfl)) (.slice A3 (lt.length + 1) c3)).at_ (C14.out.at_ ((C12.out.trans C13.out).at_ B10.out (by simp)) GIA.out.1) (by simpa using GIA.out.2)) 4; simpa using z) (fun hHeld => ?_)
      clear hK K
      try simp only [Act.put, sA, s0, s1]
      refine wpAnyH_done (by kernel_rfl) ?_ _
      go_wp2
      go_end0
      have CC : Chg (blkOf s.A) wf w14 := by
        have := (((C12.out.trans C13.out).mono (S' := blkOf s7.A) (by simp)).trans C14.out)
        rwa [LN.out.2.2.2] at this
      have A3N : ∀ x, A3 = some x → x.block ≠ b := fun x hx => by
        rcases E14.out with e | e
        · exact NB.out x (by rw [← LN.out.2.2.2, ← e]; exact hx)
        · rw [e] at hx
          cases hx
          have := C13.out.size
          have := C12.out.size
          have := WL.out
          have := BL.out
          simp only
          omega
      have n2 : ∀ x, A2 = some x → w.heap.size ≤ x.block := fun x hx => by have := N12.out x hx; have := WL.out; omega
      refine ⟨rfl, A2, c2, A3, c3, ?_, O14.out.chg ((Chg.refl [b] w14).setCell (p := ⟨b, 31, none⟩) (.inl (List.mem_singleton.2 rfl)) _) (fun x hx hm => A3N x hx (by simpa using hm)), ?_, n2, ?_, ?_⟩
      · obtain ⟨r, q, h1, h2⟩ := H14.out
        have e1 := h1.taken A3 (lt.length + 1) c3
        refine ⟨r, q, ?_, ?_⟩
        · rw [HQ.out, DQ.out]
          exact e1
        · rw [HQ.out, DQ.out]
          exact h2
      · refine ((O12.out.chg C13.out (by simp)).chg C14.out (fun x hx hm => ?_)).chg ((Chg.refl [b] w14).setCell (p := ⟨b, 31, none⟩) (.inl (List.mem_singleton.2 rfl)) _) (fun x hx hm => ?_)
        · obtain ⟨x', hx', e⟩ := of_blkOf hm
          have := OL.out x' (LN.out.2.2.2 ▸ hx')
          have := n2 x hx
          omega
        · have := n2 x hx
          have := BL.out
          simp at hm
          omega
      · intro x hx
        rcases E14.out with e | e
        · left
          rw [← LN.out.2.2.2, ← e]
          exact hx
        · right
          rw [e] at hx
          cases hx
          have := C13.out.size
          have := C12.out.size
          have := WL.out
          simp only
          omega
      · exact ((C10.out.mono (S' := b :: blkOf s.A) (fun i hi => .inl (by simp at hi; simp [hi]))).trans (CC.mono (fun i hi => .inl (List.mem_cons_of_mem _ hi)))).setCell (.inl (List.mem_cons_self ..)) _
end
section
open Go.RowKit Go.Lib
set_option linter.unusedSimpArgs false
set_option linter.unusedVariables false


set_option maxHeartbeats 8000000 in
set_option maxRecDepth 100000 in
theorem serecv_come_f (w : World) (b : Nat) (s : SQ) (h : QH w b s) (f t m a : Int) (B : Option Addr) (n d : Nat) (hn : n ≤ 140737488351232) (hp : 0 ≤ s.peer) (hM : MindsQ s.peer f t m a n) (ht : 0 ≤ s.turns ∧ s.turns ≤ 4611686018427387904) (hbs : 1 ≤ s.base ∧ s.base ≤ 2000000) (hpf : ¬ s.peer < f) (hte : t = s.ep) (hmz : ¬ m = 0) (hcm : ∀ s7, s7 = dropQ (meetQ s f) a → (0 ≤ s7.came ∧ s7.came ≤ 1000000) ∧ s7.came + 1 = m ∧ s7.A = s.A ∧ s7.n = s.n ∧ s7.c = s.c) (lt : List SlV) (ho : OwnK lstTy w s.A s.c lt) (hlt : s.n = lt.length ∧ lt.length ≤ 1000000) (hfar : ∀ x, s.A = some x → x.block ≠ b) (ys : List UInt8) (hr : Bs w B n ys) (hB : ∀ x, B = some x → x.block ≠ b) : Calls Try.prog 28 #[.pointer (some ⟨b, 0, none⟩), .agg #[.int .i64 f, .int .i64 t, .int .i64 m, .int .i64 a, .slice B n d]] w fun e w' => e = .returned (.tuple #[]) ∧ ∃ A2 c2 A3 c3, QH w' b { dropQ (meetQ s f) a with owes := true, came := (dropQ (meetQ s f) a).came + 1, A := A3, n := lt.length + 1, c := c3 } ∧ OwnK lstTy w' A3 c3 (lt ++ [(A2, n, c2)]) ∧ OwnB w' A2 c2 ys ∧ (∀ x, A2 = some x → w.heap.size ≤ x.block) ∧ (∀ x, A3 = some x → s.A = some x ∨ w.heap.size ≤ x.block) ∧ Chg (b :: blkOf s.A) w w' := by
  have HPF := Lib.hid hpf
  have HBS := Lib.hid hbs
  have HTE := Lib.hid hte
  have HT := Lib.hid ht
  clear hpf hbs hte ht
  have HMZ := Lib.hid hmz
  clear hmz
  have HCM := Lib.hid hcm
  clear hcm
  have HO := Lib.hid ho
  have HLT := Lib.hid hlt
  have HFAR := Lib.hid hfar
  have HR := Lib.hid hr
  have HB := Lib.hid hB
  clear ho hlt hfar hr hB
  obtain ⟨w1, hw1, c1, b1⟩ := news1 w (.cells #[.int .i64 f, .int .i64 t, .int .i64 m, .int .i64 a, .slice B n d] 35)
  have W1 := Lib.hid hw1
  have C1 := Lib.hid c1
  have B1 := Lib.hid b1
  have BL := Lib.hid h.lt
  have GL := Lib.hid (lt_of_heap b1)
  have H1 := Lib.hid (h.chg c1 (by simp))
  have MI := Lib.hid (fun (w' : World) (hc : Chg [] w1 w') => seminds_any w' b s ((h.chg c1 (by simp)).chg hc (by simp)) f t m a B n d hn hp)
  rw [decide_eq_true hM] at MI
  have y0 := cell_of b1 0
  have y1 := cell_of b1 1
  have y2 := cell_of b1 2
  have y3 := cell_of b1 3
  have y4 := cell_of b1 4
  simp only [List.getElem?_toArray, List.getElem?_cons_succ, List.getElem?_cons_zero] at y0 y1 y2 y3 y4
  have HPP := Lib.hid hp
  have HNN := Lib.hid hn
  clear hw1 c1 b1 h hn hp hM
  go_enter Try.func28, Try.ntmps28
  go_upto_region 1 with fail
  rw [← W1.out]
  have GG := Lib.hid (Nat.le_refl w.heap.size)
  generalize hg : w.heap.size = g at *
  go_wp2_with fail
  refine (semade_any w1 b s H1.out).mono ?_
  rintro e w2 ⟨rfl, rfl⟩
  go_wp2_with fail
  refine (MI.out w2 (Chg.refl [] w2)).mono ?_
  rintro e w3 ⟨rfl, hc⟩
  have H3 := Lib.hid (H1.out.chg hc (by simp))
  have B3 := Lib.hid (hc.at_ B1.out (by simp))
  have C3 := Lib.hid (C1.out.trans hc)
  clear hc MI W1 y0 y1 y2 y3 y4 H1 B1 C1
  have y0 := cell_of B3.out 0
  simp only [List.getElem?_toArray, List.getElem?_cons_succ, List.getElem?_cons_zero] at y0
  have z2 := H3.out.get.2.2.1
  have hdp : decide (s.peer < f) = false := decide_eq_false (by have := HPF.out; omega)
  go_upto_region 2 with fail
  go_quiet (fail)
  have hq := (Chg.refl [] w3).drewN nq
  generalize w3.drewN nq = w4 at *
  have H4 := Lib.hid (H3.out.chg hq (by simp))
  have B4 := Lib.hid (hq.at_ B3.out (by simp))
  have C4 := Lib.hid ((Lib.hid (C3.out.mono (S' := [b]) (by simp))).out.trans (hq.mono (S' := [b]) (by simp)))
  clear hq y0 z2 hdp H3 B3 C3
  have S5 := Lib.hid (show s = meetQ s f from (by unfold meetQ; rw [if_neg (by have := HPF.out; omega)]))
  have H5 : Hid (QH w4 b (meetQ s f)) := Lib.hid (by rw [← S5.out]; exact H4.out)
  have B5 := B4
  have C5 := C4
  clear H4 B4 C4
  generalize w4 = w5 at *
  have ba5 := meetQ_base (f := f) HBS.out
  have ee := (meetQ_same s f).1
  obtain ⟨s5, hs5⟩ : ∃ x, meetQ s f = x := ⟨_, rfl⟩
  have h5 := H5.out
  rw [hs5] at h5 ba5 ee
  have H5 := Lib.hid h5
  have BA5 := Lib.hid ba5
  have EE := Lib.hid ee
  have HQ := Lib.hid hs5
  clear h5 ba5 ee hs5
  have y1 := cell_of B5.out 1
  simp only [List.getElem?_toArray, List.getElem?_cons_succ, List.getElem?_cons_zero] at y1
  have z1 := H5.out.get.2.1
  rw [EE.out] at z1
  have hde : (t != s.ep) = false := by rw [HTE.out]; simp
  go_upto_region 4 with fail
  go_quiet (fail)
  have hq := (Chg.refl [] w5).drewN nq
  generalize w5.drewN nq = w6 at *
  have H6 := Lib.hid (H5.out.chg hq (by simp))
  have B6 := Lib.hid (hq.at_ B5.out (by simp))
  have C6 := Lib.hid (C5.out.trans (hq.mono (S' := [b]) (by simp)))
  clear hq y1 z1 hde H5 B5 C5
  have y3 := cell_of B6.out 3
  simp only [List.getElem?_toArray, List.getElem?_cons_succ, List.getElem?_cons_zero] at y3
  go_upto_region 6 with fail
  refine wp_region_held_drew (S := fun w' => w'.cell? ⟨g, 3, none⟩ = some (.int .i64 a)) (by kernel_rfl) (by exact y3) (fun hHeld => ?_)
  have D6 := Lib.hid (Chg.refl [] w6).drew
  replace H6 := Lib.hid (H6.out.chg D6.out (by simp))
  replace B6 := Lib.hid (D6.out.at_ B6.out (by simp))
  replace C6 := Lib.hid (C6.out.trans (D6.out.mono (S' := [b]) (by simp)))
  clear y3
  generalize w6.drew = wd at *
  refine sy 0 33 rfl rfl ?_
  try simp only [Act.put, sA, s0, s1]
  refine sy 1 34 rfl rfl ?_
  try simp only [Act.put, sA, s0, s1]
  refine sy 2 35 rfl rfl ?_
  try simp only [Act.put, sA, s0, s1]
  refine sy 3 36 rfl rfl ?_
  try simp only [Act.put, sA, s0, s1]
  refine sy 4 37 rfl rfl ?_
  try simp only [Act.put, sA, s0, s1]
  refine wpAnyH_ready (rs := [5]) (by kernel_rfl) (by simp) ?_
  refine AllReadyH.cons rfl (fun K hK => ?_) AllReadyH.nil
  replace hK := Lib.hid hK
  go_simp
  refine (drop_any wd b s5 H6.out a (by have := BA5.out; omega) (by have := BA5.out; omega)).mono ?_
  rintro e w7 ⟨rfl, hq7, hc7⟩
  have hbg : g ≠ b := by have := BL.out; omega
  have H7 := Lib.hid hq7
  have B7 := Lib.hid (hc7.at_ B6.out (by simpa using hbg))
  have C7 := Lib.hid (C6.out.trans hc7)
  clear hq7 hc7 hbg H6 B6 C6 hHeld
  refine hK.out _ _ (by have z := cell_of B7.out 3; simpa using z) (fun hHeld => ?_)
  clear hK K
  try simp only [Act.put, sA, s0, s1]
  refine wpAnyH_done (by kernel_rfl) ?_ _
  obtain ⟨s7, hs7⟩ : ∃ x, dropQ s5 a = x := ⟨_, rfl⟩
  have h7 := H7.out
  rw [hs7] at h7
  have H7 := Lib.hid h7
  have DQ := Lib.hid hs7
  clear h7 hs7
  have y2 := cell_of B7.out 2
  simp only [List.getElem?_toArray, List.getElem?_cons_succ, List.getElem?_cons_zero] at y2
  have hm0 : ¬ m = 0 := HMZ.out
  go_wp2_with fail
  clear y2 hm0
  refine (owe_any w7 b s7 H7.out).mono ?_
  rintro e w8 ⟨rfl, hq8, hc8⟩
  have hbg : g ≠ b := by have := BL.out; omega
  have H8 := Lib.hid hq8
  have B8 := Lib.hid (hc8.at_ B7.out (by simpa using hbg))
  have C8 := Lib.hid (C7.out.trans hc8)
  clear hq8 hc8 hbg H7 B7 C7
  have y2 := cell_of B8.out 2
  simp only [List.getElem?_toArray, List.getElem?_cons_succ, List.getElem?_cons_zero] at y2
  have hcb := HCM.out s7 (by rw [HQ.out, DQ.out])
  have i9 : IntKind.i64.wrap (s7.came + 1) = s7.came + 1 := IntWalk.i64_in _ (by omega)
  clear hcb
  go_upto_region 9 with fail
  refine wp_region_held_drew (S := fun w' => w'.cell? ⟨g, 2, none⟩ = some (.int .i64 m)) (by kernel_rfl) (by exact y2) (fun hHeld => ?_)
  have D8 := Lib.hid (Chg.refl [] w8).drew
  replace H8 := Lib.hid (H8.out.chg D8.out (by simp))
  replace B8 := Lib.hid (D8.out.at_ B8.out (by simp))
  replace C8 := Lib.hid (C8.out.trans (D8.out.mono (S' := [b]) (by simp)))
  clear y2
  generalize w8.drew = we at *
  refine sy 0 44 rfl rfl ?_
  try simp only [Act.put, sA, s0, s1]
  refine sy 1 45 rfl rfl ?_
  try simp only [Act.put, sA, s0, s1]
  refine sy 2 46 rfl rfl ?_
  try simp only [Act.put, sA, s0, s1]
  refine sy 5 49 rfl rfl ?_
  try simp only [Act.put, sA, s0, s1]
  refine sy 6 50 rfl rfl ?_
  try simp only [Act.put, sA, s0, s1]
  refine wpAnyH_ready (rs := [3]) (by kernel_rfl) (by simp) ?_
  refine AllReadyH.cons rfl (fun K hK => ?_) AllReadyH.nil
  replace hK := Lib.hid hK
  go_simp
  refine (iload_any we b 32 s7.came H8.out.get.2.2.2.2.2.2.2.1).mono ?_
  rintro e w9 ⟨rfl, rfl⟩
  have hHeld2 := hHeld
  refine hK.out _ _ hHeld2 (fun hHeld => ?_)
  clear hK K
  try simp only [Act.put, sA, s0, s1]
  refine sy 4 48 rfl rfl ?_
  try simp only [Act.put, sA, s0, s1]
  refine sy 7 51 rfl rfl ?_
  try simp only [Act.put, sA, s0, s1]
  refine wpAnyH_done (by kernel_rfl) ?_ _
  have hee := (HCM.out s7 (by rw [HQ.out, DQ.out])).2.1
  have h00 := (HCM.out s7 (by rw [HQ.out, DQ.out])).1
  have CM := Lib.hid (HCM.out s7 (by rw [HQ.out, DQ.out]))
  rw [hee] at i9
  go_wp2_with fail
  refine (iadd_one w9 b 32 s7.came H8.out.get.2.2.2.2.2.2.2.1 (H8.out.free 32) (by omega) (by omega)).mono ?_
  rintro e w10 ⟨rfl, rfl⟩
  have hbg : g ≠ b := by have := BL.out; omega
  have H10 : Hid (QH (w9.setCell ⟨b, 32, none⟩ (.int .i64 (s7.came + 1))) b { s7 with owes := true, came := s7.came + 1 }) := Lib.hid (by
    obtain ⟨r, q, h1, h2⟩ := H8.out
    exact ⟨r, q, h1.came _, h2⟩)
  have ch := (Chg.refl [b] w9).setCell (p := ⟨b, 32, none⟩) (.inl (List.mem_singleton.2 rfl)) (.int .i64 (s7.came + 1))
  have B10 := Lib.hid (ch.at_ B8.out (by simpa using hbg))
  have C10 := Lib.hid (C8.out.trans ch)
  clear ch hbg H8 B8 C8 hee h00
  generalize w9.setCell ⟨b, 32, none⟩ (.int .i64 (s7.came + 1)) = w10 at *
  have O10 : Hid (OwnK lstTy w10 s7.A s7.c lt) := Lib.hid (by
    have hA := CM.out.2.2
    rw [hA.1, hA.2.2]
    exact HO.out.chg C10.out (fun x hx hm => HFAR.out x hx (by simpa using hm)))
  have R10 : Hid (Bs w10 B n ys) := Lib.hid (HR.out.chg C10.out (fun x hx hm => HB.out x hx (by simpa using hm)))
  have NB := HFAR
  have LN := Lib.hid (show lt.length ≤ 1000000 ∧ s7.n = lt.length ∧ n ≤ 140737488351232 ∧ s7.A = s.A from ⟨HLT.out.2, by rw [CM.out.2.2.2.1]; exact HLT.out.1, HNN.out, CM.out.2.2.1⟩)
  have OL := Lib.hid HO.out.lt
  have WL := Lib.hid C10.out.size
  skip
  go_upto_region 11 with fail
  have GIA : Hid (g ∉ blkOf s7.A ∧ g ≠ b) := Lib.hid ⟨fun hm => by obtain ⟨x, hx, ex⟩ := of_blkOf hm; have := OL.out x (LN.out.2.2.2 ▸ hx); omega, by have := BL.out; omega⟩
  have zz := cell_of B10.out 4
  simp only [List.getElem?_toArray, List.getElem?_cons_succ, List.getElem?_cons_zero] at zz
  refine wp_region_held_drew (S := fun w' => w'.cell? ⟨g, 4, none⟩ = some (.slice B n d)) (by kernel_rfl) (by exact zz) (fun hHeld => ?_)
  clear zz
  have D10 := Lib.hid (Chg.refl [] w10).drew
  replace H10 := Lib.hid (H10.out.chg D10.out (by simp))
  replace B10 := Lib.hid (D10.out.at_ B10.out (by simp))
  replace C10 := Lib.hid (C10.out.trans (D10.out.mono (S' := [b]) (by simp)))
  replace O10 := Lib.hid (O10.out.chg D10.out (by simp))
  replace R10 := Lib.hid (R10.out.chg D10.out (by simp))
  replace WL := Lib.hid (Nat.le_trans WL.out D10.out.size)
  generalize w10.drew = wf at *
  refine sy 0 56 rfl rfl ?_
  try simp only [Act.put, sA, s0, s1]
  refine sy 1 57 rfl rfl ?_
  try simp only [Act.put, sA, s0, s1]
  refine sy 2 58 rfl rfl ?_
  try simp only [Act.put, sA, s0, s1]
  refine sy 3 59 rfl rfl ?_
  try simp only [Act.put, sA, s0, s1]
  refine sy 5 61 rfl rfl ?_
  try simp only [Act.put, sA, s0, s1]
  refine sy 6 62 rfl rfl ?_ (hy := by (intro w hSw; (try dsimp only at hSw); have q := hSw; go_simp; try with_reducible rfl))
  try simp only [Act.put, sA, s0, s1]
  refine wpAnyH_ready (rs := [4, 7]) (by kernel_rfl) (by simp) ?_
  refine AllReadyH.cons rfl (fun K hK => ?_) (AllReadyH.cons rfl (fun K hK => ?_) AllReadyH.nil)
  · skip
    replace hK := Lib.hid hK
    have z31 := H10.out.get.2.2.2.2.2.2.1
    rw [LN.out.2.1] at z31
    go_simp
    clear z31
    refine hK.out _ _ (by have z := cell_of (Chg.at_ (Chg.refl [] wf) B10.out (by simp)) 4; simpa using z) (fun hHeld => ?_)
    clear hK K
    try simp only [Act.put, sA, s0, s1]
    refine wpAnyH_ready (rs := [7]) (by kernel_rfl) (by simp) ?_
    refine AllReadyH.cons rfl (fun K hK => ?_) AllReadyH.nil
    replace hK := Lib.hid hK
    go_simp
    refine (clone_any wf B n d ys R10.out LN.out.2.2.1).mono ?_
    rintro e w12 ⟨A2, c2, rfl, hO, hA, hC⟩
    have O12 := Lib.hid hO
    have N12 := Lib.hid hA
    have C12 := Lib.hid hC
    clear hO hA hC hHeld
    refine hK.out _ _ (by have z := cell_of (Chg.at_ C12.out B10.out (by simp)) 4; simpa using z) (fun hHeld => ?_)
    clear hK K
    try simp only [Act.put, sA, s0, s1]
    refine wpAnyH_ready (rs := [8]) (by kernel_rfl) (by simp) ?_
    refine AllReadyH.cons rfl (fun K hK => ?_) AllReadyH.nil
    replace hK := Lib.hid hK
    obtain ⟨w13, hw13, c13, m13⟩ := news1 w12 (.cells #[.slice A2 n c2] 33)
    have W13 := Lib.hid hw13
    have M13 : Hid (RdK lstTy w13 (some ⟨w12.heap.size, 0, none⟩) 1 [((A2, n, c2) : SlV)]) := Lib.hid (row_one m13)
    have C13 := Lib.hid c13
    clear hw13 c13 m13
    go_simp
    rw [← W13.out]
    clear hHeld W13
    refine hK.out _ _ (by have z := cell_of (Chg.at_ (C12.out.trans C13.out) B10.out (by simp)) 4; simpa using z) (fun hHeld => ?_)
    clear hK K
    try simp only [Act.put, sA, s0, s1]
    refine wpAnyH_ready (rs := [9]) (by kernel_rfl) (by simp) ?_
    refine AllReadyH.cons rfl (fun K hK => ?_) AllReadyH.nil
    replace hK := Lib.hid hK
    refine step_appK (R := lstTy) rfl (.tmp 60) (.tmp 64) rfl rfl (A := s7.A) (B := some ⟨w12.heap.size, 0, none⟩) (n := lt.length) (m := 1) (c := s7.c) (d := 1) (xs := lt) (ys := [((A2, n, c2) : SlV)]) (O10.out.chg (C12.out.trans C13.out) (by simp)) rfl rfl M13.out (by have := LN.out.1; omega) ?_
    intro A3 c3 w14 o2 g2 e2
    have O14 := Lib.hid o2
    have C14 : Hid (Chg (blkOf s7.A) w13 w14) := Lib.hid ((Chg.refl (blkOf s7.A) w13).grown g2 (fun k hk => .inl (by simpa [blkOf] using hk)))
    have E14 := Lib.hid e2
    clear o2 g2 e2 hHeld
    have NBA : Hid (b ∉ blkOf s7.A) := Lib.hid (fun hm => by obtain ⟨x, hx, e⟩ := of_blkOf hm; exact NB.out x (LN.out.2.2.2 ▸ hx) e)
    have H14 := Lib.hid (((H10.out.chg (C12.out.trans C13.out) (by simp))).chg C14.out NBA.out)
    refine hK.out _ _ (by have z := cell_of (C14.out.at_ ((C12.out.trans C13.out).at_ B10.out (by simp)) GIA.out.1) 4; simpa using z) (fun hHeld => ?_)
    clear hK K
    try simp only [Act.put, sA, s0, s1]
    refine sy 10 66 rfl rfl ?_
    try simp only [Act.put, sA, s0, s1]
    refine sy 11 67 rfl rfl ?_
    try simp only [Act.put, sA, s0, s1]
    refine wpAnyH_ready (rs := [12]) (by kernel_rfl) (by simp) ?_
    refine AllReadyH.cons rfl (fun K hK => ?_) AllReadyH.nil
    replace hK := Lib.hid hK
    have z31 := H14.out.get.2.2.2.2.2.2.1
    have f31 := H14.out.free 31
    go_simp
    clear z31 f31 hHeld
    refine hK.out _ _ (by have z := cell_of (((Chg.refl [b] w14).setCell (p := ⟨b, 31, none⟩) (.inl (List.mem_singleton.2 rfl)) (.slice A3 (lt.length + 1) c3)).at_ (C14.out.at_ ((C12.out.trans C13.out).at_ B10.out (by simp)) GIA.out.1) (by simpa using GIA.out.2)) 4; simpa using z) (fun hHeld => ?_)
    clear hK K
    try simp only [Act.put, sA, s0, s1]
    refine wpAnyH_done (by kernel_rfl) ?_ _
    go_wp2
    go_end0
    have CC : Chg (blkOf s.A) wf w14 := by
      have := (((C12.out.trans C13.out).mono (S' := blkOf s7.A) (by simp)).trans C14.out)
      rwa [LN.out.2.2.2] at this
    have A3N : ∀ x, A3 = some x → x.block ≠ b := fun x hx => by
      rcases E14.out with e | e
      · exact NB.out x (by rw [← LN.out.2.2.2, ← e]; exact hx)
      · rw [e] at hx
        cases hx
        have := C13.out.size
        have := C12.out.size
        have := WL.out
        have := BL.out
        simp only
        omega
    have n2 : ∀ x, A2 = some x → w.heap.size ≤ x.block := fun x hx => by have := N12.out x hx; have := WL.out; omega
    refine ⟨rfl, A2, c2, A3, c3, ?_, O14.out.chg ((Chg.refl [b] w14).setCell (p := ⟨b, 31, none⟩) (.inl (List.mem_singleton.2 rfl)) _) (fun x hx hm => A3N x hx (by simpa using hm)), ?_, n2, ?_, ?_⟩
    · obtain ⟨r, q, h1, h2⟩ := H14.out
      have e1 := h1.taken A3 (lt.length + 1) c3
      refine ⟨r, q, ?_, ?_⟩
      · rw [HQ.out, DQ.out]
        exact e1
      · rw [HQ.out, DQ.out]
        exact h2
    · refine ((O12.out.chg C13.out (by simp)).chg C14.out (fun x hx hm => ?_)).chg ((Chg.refl [b] w14).setCell (p := ⟨b, 31, none⟩) (.inl (List.mem_singleton.2 rfl)) _) (fun x hx hm => ?_)
      · obtain ⟨x', hx', e⟩ := of_blkOf hm
        have := OL.out x' (LN.out.2.2.2 ▸ hx')
        have := n2 x hx
        omega
      · have := n2 x hx
        have := BL.out
        simp at hm
        omega
    · intro x hx
      rcases E14.out with e | e
      · left
        rw [← LN.out.2.2.2, ← e]
        exact hx
      · right
        rw [e] at hx
        cases hx
        have := C13.out.size
        have := C12.out.size
        have := WL.out
        simp only
        omega
    · exact ((C10.out.mono (S' := b :: blkOf s.A) (fun i hi => .inl (by simp at hi; simp [hi]))).trans (CC.mono (fun i hi => .inl (List.mem_cons_of_mem _ hi)))).setCell (.inl (List.mem_cons_self ..)) _
  · skip
    replace hK := Lib.hid hK
    go_simp
    refine (clone_any wf B n d ys R10.out LN.out.2.2.1).mono ?_
    rintro e w12 ⟨A2, c2, rfl, hO, hA, hC⟩
    have O12 := Lib.hid hO
    have N12 := Lib.hid hA
    have C12 := Lib.hid hC
    clear hO hA hC hHeld
    refine hK.out _ _ (by have z := cell_of (Chg.at_ C12.out B10.out (by simp)) 4; simpa using z) (fun hHeld => ?_)
    clear hK K
    try simp only [Act.put, sA, s0, s1]
    refine wpAnyH_ready (rs := [4, 8]) (by kernel_rfl) (by simp) ?_
    refine AllReadyH.cons rfl (fun K hK => ?_) (AllReadyH.cons rfl (fun K hK => ?_) AllReadyH.nil)
    · skip
      replace hK := Lib.hid hK
      have z31 := (H10.out.chg C12.out (by simp)).get.2.2.2.2.2.2.1
      rw [LN.out.2.1] at z31
      go_simp
      clear z31
      refine hK.out _ _ (by have z := cell_of (Chg.at_ C12.out B10.out (by simp)) 4; simpa using z) (fun hHeld => ?_)
      clear hK K
      try simp only [Act.put, sA, s0, s1]
      refine wpAnyH_ready (rs := [8]) (by kernel_rfl) (by simp) ?_
      refine AllReadyH.cons rfl (fun K hK => ?_) AllReadyH.nil
      replace hK := Lib.hid hK
      obtain ⟨w13, hw13, c13, m13⟩ := news1 w12 (.cells #[.slice A2 n c2] 33)
      have W13 := Lib.hid hw13
      have M13 : Hid (RdK lstTy w13 (some ⟨w12.heap.size, 0, none⟩) 1 [((A2, n, c2) : SlV)]) := Lib.hid (row_one m13)
      have C13 := Lib.hid c13
      clear hw13 c13 m13
      go_simp
      rw [← W13.out]
      clear hHeld W13
      refine hK.out _ _ (by have z := cell_of (Chg.at_ (C12.out.trans C13.out) B10.out (by simp)) 4; simpa using z) (fun hHeld => ?_)
      clear hK K
      try simp only [Act.put, sA, s0, s1]
      refine wpAnyH_ready (rs := [9]) (by kernel_rfl) (by simp) ?_
      refine AllReadyH.cons rfl (fun K hK => ?_) AllReadyH.nil
      replace hK := Lib.hid hK
      refine step_appK (R := lstTy) rfl (.tmp 60) (.tmp 64) rfl rfl (A := s7.A) (B := some ⟨w12.heap.size, 0, none⟩) (n := lt.length) (m := 1) (c := s7.c) (d := 1) (xs := lt) (ys := [((A2, n, c2) : SlV)]) (O10.out.chg (C12.out.trans C13.out) (by simp)) rfl rfl M13.out (by have := LN.out.1; omega) ?_
      intro A3 c3 w14 o2 g2 e2
      have O14 := Lib.hid o2
      have C14 : Hid (Chg (blkOf s7.A) w13 w14) := Lib.hid ((Chg.refl (blkOf s7.A) w13).grown g2 (fun k hk => .inl (by simpa [blkOf] using hk)))
      have E14 := Lib.hid e2
      clear o2 g2 e2 hHeld
      have NBA : Hid (b ∉ blkOf s7.A) := Lib.hid (fun hm => by obtain ⟨x, hx, e⟩ := of_blkOf hm; exact NB.out x (LN.out.2.2.2 ▸ hx) e)
      have H14 := Lib.hid (((H10.out.chg (C12.out.trans C13.out) (by simp))).chg C14.out NBA.out)
      refine hK.out _ _ (by have z := cell_of (C14.out.at_ ((C12.out.trans C13.out).at_ B10.out (by simp)) GIA.out.1) 4; simpa using z) (fun hHeld => ?_)
      clear hK K
      try simp only [Act.put, sA, s0, s1]
      refine sy 10 66 rfl rfl ?_
      try simp only [Act.put, sA, s0, s1]
      refine sy 11 67 rfl rfl ?_
      try simp only [Act.put, sA, s0, s1]
      refine wpAnyH_ready (rs := [12]) (by kernel_rfl) (by simp) ?_
      refine AllReadyH.cons rfl (fun K hK => ?_) AllReadyH.nil
      replace hK := Lib.hid hK
      have z31 := H14.out.get.2.2.2.2.2.2.1
      have f31 := H14.out.free 31
      go_simp
      clear z31 f31 hHeld
      refine hK.out _ _ (by have z := cell_of (((Chg.refl [b] w14).setCell (p := ⟨b, 31, none⟩) (.inl (List.mem_singleton.2 rfl)) (.slice A3 (lt.length + 1) c3)).at_ (C14.out.at_ ((C12.out.trans C13.out).at_ B10.out (by simp)) GIA.out.1) (by simpa using GIA.out.2)) 4; simpa using z) (fun hHeld => ?_)
      clear hK K
      try simp only [Act.put, sA, s0, s1]
      refine wpAnyH_done (by kernel_rfl) ?_ _
      go_wp2
      go_end0
      have CC : Chg (blkOf s.A) wf w14 := by
        have := (((C12.out.trans C13.out).mono (S' := blkOf s7.A) (by simp)).trans C14.out)
        rwa [LN.out.2.2.2] at this
      have A3N : ∀ x, A3 = some x → x.block ≠ b := fun x hx => by
        rcases E14.out with e | e
        · exact NB.out x (by rw [← LN.out.2.2.2, ← e]; exact hx)
        · rw [e] at hx
          cases hx
          have := C13.out.size
          have := C12.out.size
          have := WL.out
          have := BL.out
          simp only
          omega
      have n2 : ∀ x, A2 = some x → w.heap.size ≤ x.block := fun x hx => by have := N12.out x hx; have := WL.out; omega
      refine ⟨rfl, A2, c2, A3, c3, ?_, O14.out.chg ((Chg.refl [b] w14).setCell (p := ⟨b, 31, none⟩) (.inl (List.mem_singleton.2 rfl)) _) (fun x hx hm => A3N x hx (by simpa using hm)), ?_, n2, ?_, ?_⟩
      · obtain ⟨r, q, h1, h2⟩ := H14.out
        have e1 := h1.taken A3 (lt.length + 1) c3
        refine ⟨r, q, ?_, ?_⟩
        · rw [HQ.out, DQ.out]
          exact e1
        · rw [HQ.out, DQ.out]
          exact h2
      · refine ((O12.out.chg C13.out (by simp)).chg C14.out (fun x hx hm => ?_)).chg ((Chg.refl [b] w14).setCell (p := ⟨b, 31, none⟩) (.inl (List.mem_singleton.2 rfl)) _) (fun x hx hm => ?_)
        · obtain ⟨x', hx', e⟩ := of_blkOf hm
          have := OL.out x' (LN.out.2.2.2 ▸ hx')
          have := n2 x hx
          omega
        · have := n2 x hx
          have := BL.out
          simp at hm
          omega
      · intro x hx
        rcases E14.out with e | e
        · left
          rw [← LN.out.2.2.2, ← e]
          exact hx
        · right
          rw [e] at hx
          cases hx
          have := C13.out.size
          have := C12.out.size
          have := WL.out
          simp only
          omega
      · exact ((C10.out.mono (S' := b :: blkOf s.A) (fun i hi => .inl (by simp at hi; simp [hi]))).trans (CC.mono (fun i hi => .inl (List.mem_cons_of_mem _ hi)))).setCell (.inl (List.mem_cons_self ..)) _
    · skip
      replace hK := Lib.hid hK
      obtain ⟨w13, hw13, c13, m13⟩ := news1 w12 (.cells #[.slice A2 n c2] 33)
      have W13 := Lib.hid hw13
      have M13 : Hid (RdK lstTy w13 (some ⟨w12.heap.size, 0, none⟩) 1 [((A2, n, c2) : SlV)]) := Lib.hid (row_one m13)
      have C13 := Lib.hid c13
      clear hw13 c13 m13
      go_simp
      rw [← W13.out]
      clear hHeld W13
      refine hK.out _ _ (by have z := cell_of (Chg.at_ (C12.out.trans C13.out) B10.out (by simp)) 4; simpa using z) (fun hHeld => ?_)
      clear hK K
      try simp only [Act.put, sA, s0, s1]
      refine wpAnyH_ready (rs := [4]) (by kernel_rfl) (by simp) ?_
      refine AllReadyH.cons rfl (fun K hK => ?_) AllReadyH.nil
      replace hK := Lib.hid hK
      have z31 := (H10.out.chg (C12.out.trans C13.out) (by simp)).get.2.2.2.2.2.2.1
      rw [LN.out.2.1] at z31
      go_simp
      clear z31
      refine hK.out _ _ (by have z := cell_of (Chg.at_ (C12.out.trans C13.out) B10.out (by simp)) 4; simpa using z) (fun hHeld => ?_)
      clear hK K
      try simp only [Act.put, sA, s0, s1]
      refine wpAnyH_ready (rs := [9]) (by kernel_rfl) (by simp) ?_
      refine AllReadyH.cons rfl (fun K hK => ?_) AllReadyH.nil
      replace hK := Lib.hid hK
      refine step_appK (R := lstTy) rfl (.tmp 60) (.tmp 64) rfl rfl (A := s7.A) (B := some ⟨w12.heap.size, 0, none⟩) (n := lt.length) (m := 1) (c := s7.c) (d := 1) (xs := lt) (ys := [((A2, n, c2) : SlV)]) (O10.out.chg (C12.out.trans C13.out) (by simp)) rfl rfl M13.out (by have := LN.out.1; omega) ?_
      intro A3 c3 w14 o2 g2 e2
      have O14 := Lib.hid o2
      have C14 : Hid (Chg (blkOf s7.A) w13 w14) := Lib.hid ((Chg.refl (blkOf s7.A) w13).grown g2 (fun k hk => .inl (by simpa [blkOf] using hk)))
      have E14 := Lib.hid e2
      clear o2 g2 e2 hHeld
      have NBA : Hid (b ∉ blkOf s7.A) := Lib.hid (fun hm => by obtain ⟨x, hx, e⟩ := of_blkOf hm; exact NB.out x (LN.out.2.2.2 ▸ hx) e)
      have H14 := Lib.hid (((H10.out.chg (C12.out.trans C13.out) (by simp))).chg C14.out NBA.out)
      refine hK.out _ _ (by have z := cell_of (C14.out.at_ ((C12.out.trans C13.out).at_ B10.out (by simp)) GIA.out.1) 4; simpa using z) (fun hHeld => ?_)
      clear hK K
      try simp only [Act.put, sA, s0, s1]
      refine sy 10 66 rfl rfl ?_
      try simp only [Act.put, sA, s0, s1]
      refine sy 11 67 rfl rfl ?_
      try simp only [Act.put, sA, s0, s1]
      refine wpAnyH_ready (rs := [12]) (by kernel_rfl) (by simp) ?_
      refine AllReadyH.cons rfl (fun K hK => ?_) AllReadyH.nil
      replace hK := Lib.hid hK
      have z31 := H14.out.get.2.2.2.2.2.2.1
      have f31 := H14.out.free 31
      go_simp
      clear z31 f31 hHeld
      refine hK.out _ _ (by have z := cell_of (((Chg.refl [b] w14).setCell (p := ⟨b, 31, none⟩) (.inl (List.mem_singleton.2 rfl)) (.slice A3 (lt.length + 1) c3)).at_ (C14.out.at_ ((C12.out.trans C13.out).at_ B10.out (by simp)) GIA.out.1) (by simpa using GIA.out.2)) 4; simpa using z) (fun hHeld => ?_)
      clear hK K
      try simp only [Act.put, sA, s0, s1]
      refine wpAnyH_done (by kernel_rfl) ?_ _
      go_wp2
      go_end0
      have CC : Chg (blkOf s.A) wf w14 := by
        have := (((C12.out.trans C13.out).mono (S' := blkOf s7.A) (by simp)).trans C14.out)
        rwa [LN.out.2.2.2] at this
      have A3N : ∀ x, A3 = some x → x.block ≠ b := fun x hx => by
        rcases E14.out with e | e
        · exact NB.out x (by rw [← LN.out.2.2.2, ← e]; exact hx)
        · rw [e] at hx
          cases hx
          have := C13.out.size
          have := C12.out.size
          have := WL.out
          have := BL.out
          simp only
          omega
      have n2 : ∀ x, A2 = some x → w.heap.size ≤ x.block := fun x hx => by have := N12.out x hx; have := WL.out; omega
      refine ⟨rfl, A2, c2, A3, c3, ?_, O14.out.chg ((Chg.refl [b] w14).setCell (p := ⟨b, 31, none⟩) (.inl (List.mem_singleton.2 rfl)) _) (fun x hx hm => A3N x hx (by simpa using hm)), ?_, n2, ?_, ?_⟩
      · obtain ⟨r, q, h1, h2⟩ := H14.out
        have e1 := h1.taken A3 (lt.length + 1) c3
        refine ⟨r, q, ?_, ?_⟩
        · rw [HQ.out, DQ.out]
          exact e1
        · rw [HQ.out, DQ.out]
          exact h2
      · refine ((O12.out.chg C13.out (by simp)).chg C14.out (fun x hx hm => ?_)).chg ((Chg.refl [b] w14).setCell (p := ⟨b, 31, none⟩) (.inl (List.mem_singleton.2 rfl)) _) (fun x hx hm => ?_)
        · obtain ⟨x', hx', e⟩ := of_blkOf hm
          have := OL.out x' (LN.out.2.2.2 ▸ hx')
          have := n2 x hx
          omega
        · have := n2 x hx
          have := BL.out
          simp at hm
          omega
      · intro x hx
        rcases E14.out with e | e
        · left
          rw [← LN.out.2.2.2, ← e]
          exact hx
        · right
          rw [e] at hx
          cases hx
          have := C13.out.size
          have := C12.out.size
          have := WL.out
          simp only
          omega
      · exact ((C10.out.mono (S' := b :: blkOf s.A) (fun i hi => .inl (by simp at hi; simp [hi]))).trans (CC.mono (fun i hi => .inl (List.mem_cons_of_mem _ hi)))).setCell (.inl (List.mem_cons_self ..)) _
end
end Go.Proofs.Ytmblalcigbghfaa
