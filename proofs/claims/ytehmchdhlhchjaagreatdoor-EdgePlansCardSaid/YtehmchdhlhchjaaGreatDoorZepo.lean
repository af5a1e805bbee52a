/- past: a sweep's step. -/
import Derived.Test.YtehmchdhlhchjaaGreatDoorZepn
set_option linter.unusedSimpArgs false
set_option linter.unusedVariables false
set_option maxHeartbeats 32000000
namespace Go.Proofs.YtehmchdhlhchjaaGreatDoor
section
open Go.RowKit Go.Lib


set_option maxRecDepth 100000 in
theorem step_both_lt (w : World) (g : Nat) (X : List Nat) (kf : Nat) (A : Option Addr) (c : Nat) (B : Option Addr) (d : Nat) (x y : Sp) (r r2 : List Sp) (e1 : x.1 = y.1) (e2 : x.2.1 = y.2.1) (hm : x.2.2 ≤ y.2.2) (h : SwQ w g X (x :: r) (y :: r2) kf A c B d) (hX : ∀ z ∈ X, z < w.heap.size) (HTO : Hid (0 ≤ x.2.2 ∧ x.2.2 ≤ 2147483647)) : Calls Tryz.prog 192 #[.pointer (some ⟨g, 0, none⟩)] w fun e w' => e = .returned (.tuple #[.agg #[.int .i64 x.1, .int .i64 x.2.1, .int .i64 x.2.2], .bool true, .bool true]) ∧ SwP w' g X (passP (x :: r) x.2.2) (passP (y :: r2) x.2.2) kf ∧ Chg [g] w w' := by
 have E1H := h_ e1
 have E2H := h_ e2
 have HMH := h_ hm
 clear e1 e2 hm
 have H := h_ h
 clear h
 have hmin : min x.2.2 y.2.2 = x.2.2 := by have := HMH.out; omega
 have HG : Hid (w.heap[g]? = some (.cells #[.int .i64 x.1, .int .i64 x.2.1, .int .i64 x.2.2, .slice A r.length c, .int .i64 y.1, .int .i64 y.2.1, .int .i64 y.2.2, .slice B r2.length d, .func (.func kf) #[] #[]] 214 (0, 0))) := h_ (H.out.hg)
 obtain ⟨w1, hw1, c1, b1⟩ := news1 w (.cells #[.int .i64 0, .int .i64 0, .int .i64 0] 81)
 have W1 := h_ hw1
 have C1 := h_ c1
 have B1 := h_ b1
 have L1 := h_ (show w.heap.size < w1.heap.size from lt_of_heap b1)
 have G1 := h_ (c1.at_ HG.out (by simp))
 have GL := h_ (lt_of_heap HG.out)
 clear hw1 c1 b1
 go_enter Tryz.func192, Tryz.ntmps192
 go_upto_region 1 with fail
 rw [← W1.out]
 generalize hg0 : w.heap.size = g0 at *
 obtain ⟨z0, z1, z2⟩ := ce3 G1.out
 have z4 := cell_of G1.out 4
 have z5 := cell_of G1.out 5
 have z6 := cell_of G1.out 6
 simp only [gA, gY, gZ] at z4 z5 z6
 refine wp_region_held_drew (S := fun w' => w'.cell? ⟨g, 0, none⟩ = some (.int .i64 x.1) ∧ w'.cell? ⟨g, 1, none⟩ = some (.int .i64 x.2.1) ∧ w'.cell? ⟨g, 2, none⟩ = some (.int .i64 x.2.2) ∧ w'.cell? ⟨g, 4, none⟩ = some (.int .i64 y.1) ∧ w'.cell? ⟨g, 5, none⟩ = some (.int .i64 y.2.1) ∧ w'.cell? ⟨g, 6, none⟩ = some (.int .i64 y.2.2)) (by kernel_rfl) ⟨z0, z1, z2, z4, z5, z6⟩ (fun hHeld => ?_)
 have CD := h_ (Chg.refl [] w1).drew
 have HH := h_ (fun (w' : World) (hc : Chg [] w1.drew w') => (⟨(CD.out.trans hc).cell z0 (by simp), (CD.out.trans hc).cell z1 (by simp), (CD.out.trans hc).cell z2 (by simp), (CD.out.trans hc).cell z4 (by simp), (CD.out.trans hc).cell z5 (by simp), (CD.out.trans hc).cell z6 (by simp)⟩ : w'.cell? ⟨g, 0, none⟩ = some (.int .i64 x.1) ∧ w'.cell? ⟨g, 1, none⟩ = some (.int .i64 x.2.1) ∧ w'.cell? ⟨g, 2, none⟩ = some (.int .i64 x.2.2) ∧ w'.cell? ⟨g, 4, none⟩ = some (.int .i64 y.1) ∧ w'.cell? ⟨g, 5, none⟩ = some (.int .i64 y.2.1) ∧ w'.cell? ⟨g, 6, none⟩ = some (.int .i64 y.2.2)))
 have CD2 := h_ (C1.out.trans CD.out)
 replace B1 := h_ (show w1.drew.heap[g0]? = _ from B1.out)
 replace L1 : Hid (g0 < w1.drew.heap.size) := h_ (Nat.lt_of_lt_of_le L1.out CD.out.size)
 clear z0 z1 z2 z4 z5 z6
 generalize w1.drew = wd at *
 refine' join3 (F := fun (p q : Nat) (w' : World) => Hid (w'.heap[p]? = some (.cells #[.int .i64 x.1, .int .i64 x.2.1, .int .i64 x.2.2] 81 (0, 0))) ∧ Hid (w'.heap[q]? = some (.cells #[.int .i64 y.1, .int .i64 y.2.1, .int .i64 y.2.2] 81 (0, 0))) ∧ Hid (g0 < p ∧ g0 < q ∧ p ≠ q) ∧ Hid (Chg [] wd w')) (R := _) (fun JOIN => ?leaf) ?rest
 case leaf =>
  have hHeld := HH.out wd (Chg.refl [] wd)
  have C_wd := h_ (Chg.refl [] wd)
  refine sy 0 7 rfl rfl ?_; try simp only [Act.put, sA, s0, s1]
  refine sy 1 8 rfl rfl ?_; try simp only [Act.put, sA, s0, s1]
  refine sy 2 9 rfl rfl ?_; try simp only [Act.put, sA, s0, s1]
  refine sy 3 10 rfl rfl ?_; try simp only [Act.put, sA, s0, s1]
  refine sy 4 11 rfl rfl ?_ (hy := by (intro w hSw; (try dsimp only at hSw); obtain ⟨q0, q1, q2, q3, q4, q5⟩ := hSw; go_simp; try with_reducible rfl))
  try simp only [Act.put, sA, s0, s1]
  refine sy 5 12 rfl rfl ?_; try simp only [Act.put, sA, s0, s1]
  refine sy 6 13 rfl rfl ?_; try simp only [Act.put, sA, s0, s1]
  refine sy 7 14 rfl rfl ?_; try simp only [Act.put, sA, s0, s1]
  refine sy 8 15 rfl rfl ?_; try simp only [Act.put, sA, s0, s1]
  refine sy 9 16 rfl rfl ?_ (hy := by (intro w hSw; (try dsimp only at hSw); obtain ⟨q0, q1, q2, q3, q4, q5⟩ := hSw; go_simp; try with_reducible rfl))
  try simp only [Act.put, sA, s0, s1]
  refine wpAnyH_ready (rs := [10, 11]) (by kernel_rfl) (by simp) ?_
  refine AllReadyH.cons rfl (fun K hK => ?_) (AllReadyH.cons rfl (fun K hK => ?_) AllReadyH.nil)
  ·
   skip
   replace hK := h_ hK
   go_simp
   obtain ⟨wx, hw, cn, bn⟩ := news1 wd (.cells #[.int .i64 0, .int .i64 0, .int .i64 0] 81)
   rw [← hw]
   have PB := h_ bn
   have PL := h_ (show wd.heap.size < wx.heap.size from lt_of_heap bn)
   have C_wx := h_ (C_wd.out.trans cn)
   clear hw cn bn hHeld
   refine hK.out _ _ (HH.out wx C_wx.out) (fun hHeld => ?_)
   clear hK K; try simp only [Act.put, sA, s0, s1]
   refine on1 11 rfl (fun K hK => ?_)
   go_simp
   obtain ⟨wxy, hw, cn, bn⟩ := news1 wx (.cells #[.int .i64 0, .int .i64 0, .int .i64 0] 81)
   rw [← hw]
   have QB := h_ bn
   have QL := h_ (show wx.heap.size < wxy.heap.size from lt_of_heap bn)
   have C_wxy := h_ (C_wx.out.trans cn)
   replace PB := h_ (cn.at_ PB.out (by simp))
   clear hw cn bn hHeld
   refine hK.out _ _ (HH.out wxy C_wxy.out) (fun hHeld => ?_)
   clear hK K; try simp only [Act.put, sA, s0, s1]
   refine on1 12 rfl (fun K hK => ?_)
   have z0 := cell_of PB.out 0
   have z1 := cell_of PB.out 1
   have z2 := cell_of PB.out 2
   have fz0 := free_of PB.out 0
   have fz1 := free_of PB.out 1
   have fz2 := free_of PB.out 2
   simp only [gA, gY, gZ] at z0 z1 z2
   have p0 := heap_setCell_same wxy (wd.heap.size) 0 _ _ (.int .i64 x.1) PB.out
   have p1 := heap_setCell_same ((wxy.setCell ⟨wd.heap.size, 0, none⟩ (.int .i64 x.1))) (wd.heap.size) 1 _ _ (.int .i64 x.2.1) p0
   have p2 := heap_setCell_same (((wxy.setCell ⟨wd.heap.size, 0, none⟩ (.int .i64 x.1)).setCell ⟨wd.heap.size, 1, none⟩ (.int .i64 x.2.1))) (wd.heap.size) 2 _ _ (.int .i64 x.2.2) p1
   simp only [sA, s0, s1] at p2
   have NB := h_ p2
   have C_wxys := h_ (((C_wxy.out.setCell (p := ⟨wd.heap.size, 0, none⟩) (.inr (Nat.le_refl _)) (.int .i64 x.1)).setCell (p := ⟨wd.heap.size, 1, none⟩) (.inr (Nat.le_refl _)) (.int .i64 x.2.1)).setCell (p := ⟨wd.heap.size, 2, none⟩) (.inr (Nat.le_refl _)) (.int .i64 x.2.2))
   have OB := h_ (((heap_setCell_other ((wxy.setCell ⟨wd.heap.size, 0, none⟩ (.int .i64 x.1)).setCell ⟨wd.heap.size, 1, none⟩ (.int .i64 x.2.1)) ⟨wd.heap.size, 2, none⟩ (wx.heap.size) (.int .i64 x.2.2) (by simp; have := PL.out; have := QL.out; omega)).trans ((heap_setCell_other (wxy.setCell ⟨wd.heap.size, 0, none⟩ (.int .i64 x.1)) ⟨wd.heap.size, 1, none⟩ (wx.heap.size) (.int .i64 x.2.1) (by simp; have := PL.out; have := QL.out; omega)).trans ((heap_setCell_other (wxy) ⟨wd.heap.size, 0, none⟩ (wx.heap.size) (.int .i64 x.1) (by simp; have := PL.out; have := QL.out; omega)).trans QB.out))))
   go_simp; clear z0 z1 z2 fz0 fz1 fz2 p0 p1 p2 hHeld PB QB
   generalize (((wxy.setCell ⟨wd.heap.size, 0, none⟩ (.int .i64 x.1)).setCell ⟨wd.heap.size, 1, none⟩ (.int .i64 x.2.1)).setCell ⟨wd.heap.size, 2, none⟩ (.int .i64 x.2.2)) = wxys at *
   have PB := NB
   have QB := OB
   clear NB OB
   refine hK.out _ _ (HH.out wxys C_wxys.out) (fun hHeld => ?_)
   clear hK K; try simp only [Act.put, sA, s0, s1]
   refine on1 13 rfl (fun K hK => ?_)
   have z0 := cell_of QB.out 0
   have z1 := cell_of QB.out 1
   have z2 := cell_of QB.out 2
   have fz0 := free_of QB.out 0
   have fz1 := free_of QB.out 1
   have fz2 := free_of QB.out 2
   simp only [gA, gY, gZ] at z0 z1 z2
   have p0 := heap_setCell_same wxys (wx.heap.size) 0 _ _ (.int .i64 y.1) QB.out
   have p1 := heap_setCell_same ((wxys.setCell ⟨wx.heap.size, 0, none⟩ (.int .i64 y.1))) (wx.heap.size) 1 _ _ (.int .i64 y.2.1) p0
   have p2 := heap_setCell_same (((wxys.setCell ⟨wx.heap.size, 0, none⟩ (.int .i64 y.1)).setCell ⟨wx.heap.size, 1, none⟩ (.int .i64 y.2.1))) (wx.heap.size) 2 _ _ (.int .i64 y.2.2) p1
   simp only [sA, s0, s1] at p2
   have NB := h_ p2
   have C_wxyss := h_ (((C_wxys.out.setCell (p := ⟨wx.heap.size, 0, none⟩) (.inr (C_wx.out.size)) (.int .i64 y.1)).setCell (p := ⟨wx.heap.size, 1, none⟩) (.inr (C_wx.out.size)) (.int .i64 y.2.1)).setCell (p := ⟨wx.heap.size, 2, none⟩) (.inr (C_wx.out.size)) (.int .i64 y.2.2))
   have OB := h_ (((heap_setCell_other ((wxys.setCell ⟨wx.heap.size, 0, none⟩ (.int .i64 y.1)).setCell ⟨wx.heap.size, 1, none⟩ (.int .i64 y.2.1)) ⟨wx.heap.size, 2, none⟩ (wd.heap.size) (.int .i64 y.2.2) (by simp; have := PL.out; have := QL.out; omega)).trans ((heap_setCell_other (wxys.setCell ⟨wx.heap.size, 0, none⟩ (.int .i64 y.1)) ⟨wx.heap.size, 1, none⟩ (wd.heap.size) (.int .i64 y.2.1) (by simp; have := PL.out; have := QL.out; omega)).trans ((heap_setCell_other (wxys) ⟨wx.heap.size, 0, none⟩ (wd.heap.size) (.int .i64 y.1) (by simp; have := PL.out; have := QL.out; omega)).trans PB.out))))
   go_simp; clear z0 z1 z2 fz0 fz1 fz2 p0 p1 p2 hHeld QB PB
   generalize (((wxys.setCell ⟨wx.heap.size, 0, none⟩ (.int .i64 y.1)).setCell ⟨wx.heap.size, 1, none⟩ (.int .i64 y.2.1)).setCell ⟨wx.heap.size, 2, none⟩ (.int .i64 y.2.2)) = wxyss at *
   have QB := NB
   have PB := OB
   clear NB OB
   refine hK.out _ _ (HH.out wxyss C_wxyss.out) (fun hHeld => ?_)
   clear hK K; try simp only [Act.put, sA, s0, s1]
   refine wpAnyH_done (by kernel_rfl) ?_ _
   have FACTS : Hid (wxyss.heap[wd.heap.size]? = some (.cells #[.int .i64 x.1, .int .i64 x.2.1, .int .i64 x.2.2] 81 (0, 0))) ∧ Hid (wxyss.heap[wx.heap.size]? = some (.cells #[.int .i64 y.1, .int .i64 y.2.1, .int .i64 y.2.2] 81 (0, 0))) ∧ Hid (g0 < wd.heap.size ∧ g0 < wx.heap.size ∧ wd.heap.size ≠ wx.heap.size) ∧ Hid (Chg [] wd wxyss) := ⟨PB, QB, h_ (by have := PL.out; have := QL.out; have := L1.out; have := C_wx.out.size; refine ⟨?_, ?_, ?_⟩ <;> omega), C_wxyss⟩
   generalize wd.heap.size = p at FACTS ⊢
   generalize wx.heap.size = q at FACTS ⊢
   exact JOIN p q wxyss FACTS
  ·
   skip
   replace hK := h_ hK
   go_simp
   obtain ⟨wy, hw, cn, bn⟩ := news1 wd (.cells #[.int .i64 0, .int .i64 0, .int .i64 0] 81)
   rw [← hw]
   have QB := h_ bn
   have QL := h_ (show wd.heap.size < wy.heap.size from lt_of_heap bn)
   have C_wy := h_ (C_wd.out.trans cn)
   clear hw cn bn hHeld
   refine hK.out _ _ (HH.out wy C_wy.out) (fun hHeld => ?_)
   clear hK K; try simp only [Act.put, sA, s0, s1]
   refine on1 10 rfl (fun K hK => ?_)
   go_simp
   obtain ⟨wyx, hw, cn, bn⟩ := news1 wy (.cells #[.int .i64 0, .int .i64 0, .int .i64 0] 81)
   rw [← hw]
   have PB := h_ bn
   have PL := h_ (show wy.heap.size < wyx.heap.size from lt_of_heap bn)
   have C_wyx := h_ (C_wy.out.trans cn)
   replace QB := h_ (cn.at_ QB.out (by simp))
   clear hw cn bn hHeld
   refine hK.out _ _ (HH.out wyx C_wyx.out) (fun hHeld => ?_)
   clear hK K; try simp only [Act.put, sA, s0, s1]
   refine on1 12 rfl (fun K hK => ?_)
   have z0 := cell_of PB.out 0
   have z1 := cell_of PB.out 1
   have z2 := cell_of PB.out 2
   have fz0 := free_of PB.out 0
   have fz1 := free_of PB.out 1
   have fz2 := free_of PB.out 2
   simp only [gA, gY, gZ] at z0 z1 z2
   have p0 := heap_setCell_same wyx (wy.heap.size) 0 _ _ (.int .i64 x.1) PB.out
   have p1 := heap_setCell_same ((wyx.setCell ⟨wy.heap.size, 0, none⟩ (.int .i64 x.1))) (wy.heap.size) 1 _ _ (.int .i64 x.2.1) p0
   have p2 := heap_setCell_same (((wyx.setCell ⟨wy.heap.size, 0, none⟩ (.int .i64 x.1)).setCell ⟨wy.heap.size, 1, none⟩ (.int .i64 x.2.1))) (wy.heap.size) 2 _ _ (.int .i64 x.2.2) p1
   simp only [sA, s0, s1] at p2
   have NB := h_ p2
   have C_wyxs := h_ (((C_wyx.out.setCell (p := ⟨wy.heap.size, 0, none⟩) (.inr (C_wy.out.size)) (.int .i64 x.1)).setCell (p := ⟨wy.heap.size, 1, none⟩) (.inr (C_wy.out.size)) (.int .i64 x.2.1)).setCell (p := ⟨wy.heap.size, 2, none⟩) (.inr (C_wy.out.size)) (.int .i64 x.2.2))
   have OB := h_ (((heap_setCell_other ((wyx.setCell ⟨wy.heap.size, 0, none⟩ (.int .i64 x.1)).setCell ⟨wy.heap.size, 1, none⟩ (.int .i64 x.2.1)) ⟨wy.heap.size, 2, none⟩ (wd.heap.size) (.int .i64 x.2.2) (by simp; have := PL.out; have := QL.out; omega)).trans ((heap_setCell_other (wyx.setCell ⟨wy.heap.size, 0, none⟩ (.int .i64 x.1)) ⟨wy.heap.size, 1, none⟩ (wd.heap.size) (.int .i64 x.2.1) (by simp; have := PL.out; have := QL.out; omega)).trans ((heap_setCell_other (wyx) ⟨wy.heap.size, 0, none⟩ (wd.heap.size) (.int .i64 x.1) (by simp; have := PL.out; have := QL.out; omega)).trans QB.out))))
   go_simp; clear z0 z1 z2 fz0 fz1 fz2 p0 p1 p2 hHeld PB QB
   generalize (((wyx.setCell ⟨wy.heap.size, 0, none⟩ (.int .i64 x.1)).setCell ⟨wy.heap.size, 1, none⟩ (.int .i64 x.2.1)).setCell ⟨wy.heap.size, 2, none⟩ (.int .i64 x.2.2)) = wyxs at *
   have PB := NB
   have QB := OB
   clear NB OB
   refine hK.out _ _ (HH.out wyxs C_wyxs.out) (fun hHeld => ?_)
   clear hK K; try simp only [Act.put, sA, s0, s1]
   refine on1 13 rfl (fun K hK => ?_)
   have z0 := cell_of QB.out 0
   have z1 := cell_of QB.out 1
   have z2 := cell_of QB.out 2
   have fz0 := free_of QB.out 0
   have fz1 := free_of QB.out 1
   have fz2 := free_of QB.out 2
   simp only [gA, gY, gZ] at z0 z1 z2
   have p0 := heap_setCell_same wyxs (wd.heap.size) 0 _ _ (.int .i64 y.1) QB.out
   have p1 := heap_setCell_same ((wyxs.setCell ⟨wd.heap.size, 0, none⟩ (.int .i64 y.1))) (wd.heap.size) 1 _ _ (.int .i64 y.2.1) p0
   have p2 := heap_setCell_same (((wyxs.setCell ⟨wd.heap.size, 0, none⟩ (.int .i64 y.1)).setCell ⟨wd.heap.size, 1, none⟩ (.int .i64 y.2.1))) (wd.heap.size) 2 _ _ (.int .i64 y.2.2) p1
   simp only [sA, s0, s1] at p2
   have NB := h_ p2
   have C_wyxss := h_ (((C_wyxs.out.setCell (p := ⟨wd.heap.size, 0, none⟩) (.inr (Nat.le_refl _)) (.int .i64 y.1)).setCell (p := ⟨wd.heap.size, 1, none⟩) (.inr (Nat.le_refl _)) (.int .i64 y.2.1)).setCell (p := ⟨wd.heap.size, 2, none⟩) (.inr (Nat.le_refl _)) (.int .i64 y.2.2))
   have OB := h_ (((heap_setCell_other ((wyxs.setCell ⟨wd.heap.size, 0, none⟩ (.int .i64 y.1)).setCell ⟨wd.heap.size, 1, none⟩ (.int .i64 y.2.1)) ⟨wd.heap.size, 2, none⟩ (wy.heap.size) (.int .i64 y.2.2) (by simp; have := PL.out; have := QL.out; omega)).trans ((heap_setCell_other (wyxs.setCell ⟨wd.heap.size, 0, none⟩ (.int .i64 y.1)) ⟨wd.heap.size, 1, none⟩ (wy.heap.size) (.int .i64 y.2.1) (by simp; have := PL.out; have := QL.out; omega)).trans ((heap_setCell_other (wyxs) ⟨wd.heap.size, 0, none⟩ (wy.heap.size) (.int .i64 y.1) (by simp; have := PL.out; have := QL.out; omega)).trans PB.out))))
   go_simp; clear z0 z1 z2 fz0 fz1 fz2 p0 p1 p2 hHeld QB PB
   generalize (((wyxs.setCell ⟨wd.heap.size, 0, none⟩ (.int .i64 y.1)).setCell ⟨wd.heap.size, 1, none⟩ (.int .i64 y.2.1)).setCell ⟨wd.heap.size, 2, none⟩ (.int .i64 y.2.2)) = wyxss at *
   have QB := NB
   have PB := OB
   clear NB OB
   refine hK.out _ _ (HH.out wyxss C_wyxss.out) (fun hHeld => ?_)
   clear hK K; try simp only [Act.put, sA, s0, s1]
   refine wpAnyH_done (by kernel_rfl) ?_ _
   have FACTS : Hid (wyxss.heap[wy.heap.size]? = some (.cells #[.int .i64 x.1, .int .i64 x.2.1, .int .i64 x.2.2] 81 (0, 0))) ∧ Hid (wyxss.heap[wd.heap.size]? = some (.cells #[.int .i64 y.1, .int .i64 y.2.1, .int .i64 y.2.2] 81 (0, 0))) ∧ Hid (g0 < wy.heap.size ∧ g0 < wd.heap.size ∧ wy.heap.size ≠ wd.heap.size) ∧ Hid (Chg [] wd wyxss) := ⟨PB, QB, h_ (by have := PL.out; have := QL.out; have := L1.out; have := C_wy.out.size; refine ⟨?_, ?_, ?_⟩ <;> omega), C_wyxss⟩
   generalize wy.heap.size = p at FACTS ⊢
   generalize wd.heap.size = q at FACTS ⊢
   exact JOIN p q wyxss FACTS
 case rest =>
  rintro p q w2 ⟨PB, QB, PQ, C2⟩
  clear HH
  have R2 := h_ (C2.out.at_ B1.out (by simp))
  have CW := h_ (CD2.out.trans C2.out)
  replace H := h_ (H.out.chg CW.out (by simp) (by simp))
  clear G1 B1 CD2 C2 CD HG
  obtain ⟨x0, x1, x2⟩ := ce3 PB.out
  obtain ⟨y0, y1, y2⟩ := ce3 QB.out
  have e1 := E1H.out
  have e2 := E2H.out
  have hm := HMH.out
  have f1 : ¬ x.1 < y.1 := by omega
  have f2 : ¬ y.1 < x.1 := by omega
  have f3 : ((x.1 == y.1) : Bool) = true := by simpa using e1
  have f4 : ((y.1 == x.1) : Bool) = true := by simpa using e1.symm
  have f5 : x.2.1 ≤ y.2.1 := by omega
  have f6 : y.2.1 ≤ x.2.1 := by omega
  clear e1 e2
  have z0 := cell_of R2.out 0
  have z1 := cell_of R2.out 1
  have z2 := cell_of R2.out 2
  have fz0 := free_of R2.out 0
  have fz1 := free_of R2.out 1
  have fz2 := free_of R2.out 2
  simp only [gA, gY, gZ] at z0 z1 z2
  have p0 := heap_setCell_same w2 g0 0 _ _ (.int .i64 x.1) R2.out
  have p1 := heap_setCell_same ((w2.setCell ⟨g0, 0, none⟩ (.int .i64 x.1))) g0 1 _ _ (.int .i64 x.2.1) p0
  have p2 := heap_setCell_same (((w2.setCell ⟨g0, 0, none⟩ (.int .i64 x.1)).setCell ⟨g0, 1, none⟩ (.int .i64 x.2.1))) g0 2 _ _ (.int .i64 x.2.2) p1
  simp only [sA, s0, s1] at p2
  have RB := h_ p2
  have CS := h_ ((((Chg.refl [g0] w2).setCell (p := ⟨g0, 0, none⟩) (.inl (by simp)) (.int .i64 x.1)).setCell (p := ⟨g0, 1, none⟩) (.inl (by simp)) (.int .i64 x.2.1)).setCell (p := ⟨g0, 2, none⟩) (.inl (by simp)) (.int .i64 x.2.2))
  clear p0 p1 p2
  go_upto_region 10 with fail
  generalize (((w2.setCell ⟨g0, 0, none⟩ (.int .i64 x.1)).setCell ⟨g0, 1, none⟩ (.int .i64 x.2.1)).setCell ⟨g0, 2, none⟩ (.int .i64 x.2.2)) = w3 at *
  replace CW := h_ (CW.out.trans' CS.out (fun z hz => by simp at hz; subst hz; exact .inr (Nat.le_of_eq hg0)))
  have NG : Hid (g0 ∉ [g]) := h_ (by simp; have := GL.out; omega)
  have NG2 : Hid (g ∉ [g0] ∧ ∀ z ∈ X, z ∉ [g0]) := h_ ⟨by simp; have := GL.out; omega, fun z hz => by have := hX z hz; simp; omega⟩
  replace H := h_ (H.out.chg CS.out NG2.out.1 NG2.out.2)
  clear CS
  have CG := h_ (CW.out.mono (S' := [g]) (by simp))
  clear CW; clear z0 z1 z2 fz0 fz1 fz2
  have z2 := cell_of RB.out 2
  simp only [gA, gY, gZ] at z2
  refine wp_region_held_drew (S := fun w' => w'.cell? ⟨g0, 2, none⟩ = some (.int .i64 x.2.2)) (by kernel_rfl) z2 (fun hHeld => ?_)
  have CD := h_ (Chg.refl [] w3).drew
  replace H := h_ (H.out.chg CD.out (by simp) (by simp))
  replace RB := h_ (CD.out.at_ RB.out (by simp))
  replace CG := h_ (CG.out.trans (CD.out.mono (by simp)))
  clear CD z2
  generalize w3.drew = wd10 at *
  refine sy 0 79 rfl rfl ?_; try simp only [Act.put, sA, s0, s1]
  refine sy 1 80 rfl rfl ?_; try simp only [Act.put, sA, s0, s1]
  refine sy 2 81 rfl rfl ?_; try simp only [Act.put, sA, s0, s1]
  refine sy 3 82 rfl rfl ?_; try simp only [Act.put, sA, s0, s1]
  refine sy 4 83 rfl rfl ?_ (hy := by (intro w hSw; (try dsimp only at hSw); have q := hSw; go_simp; try with_reducible rfl))
  try simp only [Act.put, sA, s0, s1]
  refine on1 5 rfl (fun K hK => ?_)
  go_simp
  refine (pass_a wd10 g _ _ _ _ _ A c x r _ HTO.out H.out.hg H.out.ra H.out.ca (fun a ha e => H.out.gx (e ▸ H.out.na.resolve_left (by simp) a ha))).mono ?_
  rintro e wp10 ⟨rfl, A', c', h1, h2, h3, h4, h5⟩
  have HN : Hid (SwQ wp10 g X (passP (x :: r) _) _ kf A' c' _ _) := h_ ⟨h1, h2, h3, .inr (fun a ha => by obtain ⟨b, hb, e⟩ := h4 a ha; rw [e]; exact H.out.na.resolve_left (by simp) b hb), H.out.rbchg h5, H.out.cb, H.out.nb, H.out.gx⟩
  replace RB := h_ (h5.at_ RB.out NG.out)
  replace CG := h_ (CG.out.trans h5)
  clear h1 h2 h3 h4 h5 hHeld H
  have H := HN
  clear HN
  refine hK.out _ _ (by have z := cell_of RB.out 2; simp only [gA, gY, gZ] at z; exact z) (fun hHeld => ?_)
  clear hK K; try simp only [Act.put, sA, s0, s1]
  refine wpAnyH_done (by kernel_rfl) ?_ _; clear hHeld
  go_upto_region 12 with fail
  have z2 := cell_of RB.out 2
  simp only [gA, gY, gZ] at z2
  refine wp_region_held_drew (S := fun w' => w'.cell? ⟨g0, 2, none⟩ = some (.int .i64 x.2.2)) (by kernel_rfl) z2 (fun hHeld => ?_)
  have CD := h_ (Chg.refl [] wp10).drew
  replace H := h_ (H.out.chg CD.out (by simp) (by simp))
  replace RB := h_ (CD.out.at_ RB.out (by simp))
  replace CG := h_ (CG.out.trans (CD.out.mono (by simp)))
  clear CD z2
  generalize wp10.drew = wd12 at *
  refine sy 0 86 rfl rfl ?_; try simp only [Act.put, sA, s0, s1]
  refine sy 1 87 rfl rfl ?_; try simp only [Act.put, sA, s0, s1]
  refine sy 2 88 rfl rfl ?_; try simp only [Act.put, sA, s0, s1]
  refine sy 3 89 rfl rfl ?_; try simp only [Act.put, sA, s0, s1]
  refine sy 4 90 rfl rfl ?_ (hy := by (intro w hSw; (try dsimp only at hSw); have q := hSw; go_simp; try with_reducible rfl))
  try simp only [Act.put, sA, s0, s1]
  refine on1 5 rfl (fun K hK => ?_)
  go_simp
  refine (pass_b wd12 g _ _ _ _ _ B d y r2 _ HTO.out H.out.hg H.out.rb H.out.cb (fun a ha e => H.out.gx (e ▸ H.out.nb.resolve_left (by simp) a ha))).mono ?_
  rintro e wp12 ⟨rfl, B', d', h1, h2, h3, h4, h5⟩
  have HN : Hid (SwQ wp12 g X _ (passP (y :: r2) _) kf _ _ B' d') := h_ ⟨h1, H.out.rachg h5, H.out.ca, H.out.na, h2, h3, .inr (fun a ha => by obtain ⟨b, hb, e⟩ := h4 a ha; rw [e]; exact H.out.nb.resolve_left (by simp) b hb), H.out.gx⟩
  replace RB := h_ (h5.at_ RB.out NG.out)
  replace CG := h_ (CG.out.trans h5)
  clear h1 h2 h3 h4 h5 hHeld H
  have H := HN
  clear HN
  refine hK.out _ _ (by have z := cell_of RB.out 2; simp only [gA, gY, gZ] at z; exact z) (fun hHeld => ?_)
  clear hK K; try simp only [Act.put, sA, s0, s1]
  refine wpAnyH_done (by kernel_rfl) ?_ _; clear hHeld
  have z0 := cell_of RB.out 0
  have z1 := cell_of RB.out 1
  have z2 := cell_of RB.out 2
  have fz0 := free_of RB.out 0
  have fz1 := free_of RB.out 1
  have fz2 := free_of RB.out 2
  simp only [gA, gY, gZ] at z0 z1 z2
  have p0 := heap_setCell_same wp12 g0 0 _ _ (.int .i64 x.1) RB.out
  have p1 := heap_setCell_same ((wp12.setCell ⟨g0, 0, none⟩ (.int .i64 x.1))) g0 1 _ _ (.int .i64 x.2.1) p0
  have p2 := heap_setCell_same (((wp12.setCell ⟨g0, 0, none⟩ (.int .i64 x.1)).setCell ⟨g0, 1, none⟩ (.int .i64 x.2.1))) g0 2 _ _ (.int .i64 x.2.2) p1
  simp only [sA, s0, s1] at p2
  have RF := h_ p2
  have CF := h_ ((((Chg.refl [g0] wp12).setCell (p := ⟨g0, 0, none⟩) (.inl (by simp)) (.int .i64 x.1)).setCell (p := ⟨g0, 1, none⟩) (.inl (by simp)) (.int .i64 x.2.1)).setCell (p := ⟨g0, 2, none⟩) (.inl (by simp)) (.int .i64 x.2.2))
  clear p0 p1 p2; go_wp2
  generalize (((wp12.setCell ⟨g0, 0, none⟩ (.int .i64 x.1)).setCell ⟨g0, 1, none⟩ (.int .i64 x.2.1)).setCell ⟨g0, 2, none⟩ (.int .i64 x.2.2)) = wf at *
  clear z0 z1 z2 fz0 fz1 fz2
  obtain ⟨z0, z1, z2⟩ := ce3 RF.out
  refine bodyPost_ret (v := .tuple #[.agg #[.int .i64 x.1, .int .i64 x.2.1, .int .i64 x.2.2], .bool true, .bool true]) (by simp [results, Tryz.results192, go_sem, z0, z1, z2]) rfl ?_
  exact ⟨rfl, ⟨_, _, _, _, H.out.chg CF.out NG2.out.1 NG2.out.2⟩, CG.out.trans' CF.out (fun z hz => by simp at hz; subst hz; exact .inr (Nat.le_of_eq hg0))⟩
set_option maxRecDepth 100000 in
theorem step_both_ge (w : World) (g : Nat) (X : List Nat) (kf : Nat) (A : Option Addr) (c : Nat) (B : Option Addr) (d : Nat) (x y : Sp) (r r2 : List Sp) (e1 : x.1 = y.1) (e2 : x.2.1 = y.2.1) (hm : ¬ x.2.2 ≤ y.2.2) (h : SwQ w g X (x :: r) (y :: r2) kf A c B d) (hX : ∀ z ∈ X, z < w.heap.size) (HTO : Hid (0 ≤ y.2.2 ∧ y.2.2 ≤ 2147483647)) : Calls Tryz.prog 192 #[.pointer (some ⟨g, 0, none⟩)] w fun e w' => e = .returned (.tuple #[.agg #[.int .i64 x.1, .int .i64 x.2.1, .int .i64 y.2.2], .bool true, .bool true]) ∧ SwP w' g X (passP (x :: r) y.2.2) (passP (y :: r2) y.2.2) kf ∧ Chg [g] w w' := by
 have E1H := h_ e1
 have E2H := h_ e2
 have HMH := h_ hm
 clear e1 e2 hm
 have H := h_ h
 clear h
 have hmin : min x.2.2 y.2.2 = y.2.2 := by have := HMH.out; omega
 have HG : Hid (w.heap[g]? = some (.cells #[.int .i64 x.1, .int .i64 x.2.1, .int .i64 x.2.2, .slice A r.length c, .int .i64 y.1, .int .i64 y.2.1, .int .i64 y.2.2, .slice B r2.length d, .func (.func kf) #[] #[]] 214 (0, 0))) := h_ (H.out.hg)
 obtain ⟨w1, hw1, c1, b1⟩ := news1 w (.cells #[.int .i64 0, .int .i64 0, .int .i64 0] 81)
 have W1 := h_ hw1
 have C1 := h_ c1
 have B1 := h_ b1
 have L1 := h_ (show w.heap.size < w1.heap.size from lt_of_heap b1)
 have G1 := h_ (c1.at_ HG.out (by simp))
 have GL := h_ (lt_of_heap HG.out)
 clear hw1 c1 b1
 go_enter Tryz.func192, Tryz.ntmps192
 go_upto_region 1 with fail
 rw [← W1.out]
 generalize hg0 : w.heap.size = g0 at *
 obtain ⟨z0, z1, z2⟩ := ce3 G1.out
 have z4 := cell_of G1.out 4
 have z5 := cell_of G1.out 5
 have z6 := cell_of G1.out 6
 simp only [gA, gY, gZ] at z4 z5 z6
 refine wp_region_held_drew (S := fun w' => w'.cell? ⟨g, 0, none⟩ = some (.int .i64 x.1) ∧ w'.cell? ⟨g, 1, none⟩ = some (.int .i64 x.2.1) ∧ w'.cell? ⟨g, 2, none⟩ = some (.int .i64 x.2.2) ∧ w'.cell? ⟨g, 4, none⟩ = some (.int .i64 y.1) ∧ w'.cell? ⟨g, 5, none⟩ = some (.int .i64 y.2.1) ∧ w'.cell? ⟨g, 6, none⟩ = some (.int .i64 y.2.2)) (by kernel_rfl) ⟨z0, z1, z2, z4, z5, z6⟩ (fun hHeld => ?_)
 have CD := h_ (Chg.refl [] w1).drew
 have HH := h_ (fun (w' : World) (hc : Chg [] w1.drew w') => (⟨(CD.out.trans hc).cell z0 (by simp), (CD.out.trans hc).cell z1 (by simp), (CD.out.trans hc).cell z2 (by simp), (CD.out.trans hc).cell z4 (by simp), (CD.out.trans hc).cell z5 (by simp), (CD.out.trans hc).cell z6 (by simp)⟩ : w'.cell? ⟨g, 0, none⟩ = some (.int .i64 x.1) ∧ w'.cell? ⟨g, 1, none⟩ = some (.int .i64 x.2.1) ∧ w'.cell? ⟨g, 2, none⟩ = some (.int .i64 x.2.2) ∧ w'.cell? ⟨g, 4, none⟩ = some (.int .i64 y.1) ∧ w'.cell? ⟨g, 5, none⟩ = some (.int .i64 y.2.1) ∧ w'.cell? ⟨g, 6, none⟩ = some (.int .i64 y.2.2)))
 have CD2 := h_ (C1.out.trans CD.out)
 replace B1 := h_ (show w1.drew.heap[g0]? = _ from B1.out)
 replace L1 : Hid (g0 < w1.drew.heap.size) := h_ (Nat.lt_of_lt_of_le L1.out CD.out.size)
 clear z0 z1 z2 z4 z5 z6
 generalize w1.drew = wd at *
 refine' join3 (F := fun (p q : Nat) (w' : World) => Hid (w'.heap[p]? = some (.cells #[.int .i64 x.1, .int .i64 x.2.1, .int .i64 x.2.2] 81 (0, 0))) ∧ Hid (w'.heap[q]? = some (.cells #[.int .i64 y.1, .int .i64 y.2.1, .int .i64 y.2.2] 81 (0, 0))) ∧ Hid (g0 < p ∧ g0 < q ∧ p ≠ q) ∧ Hid (Chg [] wd w')) (R := _) (fun JOIN => ?leaf) ?rest
 case leaf =>
  have hHeld := HH.out wd (Chg.refl [] wd)
  have C_wd := h_ (Chg.refl [] wd)
  refine sy 0 7 rfl rfl ?_; try simp only [Act.put, sA, s0, s1]
  refine sy 1 8 rfl rfl ?_; try simp only [Act.put, sA, s0, s1]
  refine sy 2 9 rfl rfl ?_; try simp only [Act.put, sA, s0, s1]
  refine sy 3 10 rfl rfl ?_; try simp only [Act.put, sA, s0, s1]
  refine sy 4 11 rfl rfl ?_ (hy := by (intro w hSw; (try dsimp only at hSw); obtain ⟨q0, q1, q2, q3, q4, q5⟩ := hSw; go_simp; try with_reducible rfl))
  try simp only [Act.put, sA, s0, s1]
  refine sy 5 12 rfl rfl ?_; try simp only [Act.put, sA, s0, s1]
  refine sy 6 13 rfl rfl ?_; try simp only [Act.put, sA, s0, s1]
  refine sy 7 14 rfl rfl ?_; try simp only [Act.put, sA, s0, s1]
  refine sy 8 15 rfl rfl ?_; try simp only [Act.put, sA, s0, s1]
  refine sy 9 16 rfl rfl ?_ (hy := by (intro w hSw; (try dsimp only at hSw); obtain ⟨q0, q1, q2, q3, q4, q5⟩ := hSw; go_simp; try with_reducible rfl))
  try simp only [Act.put, sA, s0, s1]
  refine wpAnyH_ready (rs := [10, 11]) (by kernel_rfl) (by simp) ?_
  refine AllReadyH.cons rfl (fun K hK => ?_) (AllReadyH.cons rfl (fun K hK => ?_) AllReadyH.nil)
  ·
   skip
   replace hK := h_ hK
   go_simp
   obtain ⟨wx, hw, cn, bn⟩ := news1 wd (.cells #[.int .i64 0, .int .i64 0, .int .i64 0] 81)
   rw [← hw]
   have PB := h_ bn
   have PL := h_ (show wd.heap.size < wx.heap.size from lt_of_heap bn)
   have C_wx := h_ (C_wd.out.trans cn)
   clear hw cn bn hHeld
   refine hK.out _ _ (HH.out wx C_wx.out) (fun hHeld => ?_)
   clear hK K; try simp only [Act.put, sA, s0, s1]
   refine on1 11 rfl (fun K hK => ?_)
   go_simp
   obtain ⟨wxy, hw, cn, bn⟩ := news1 wx (.cells #[.int .i64 0, .int .i64 0, .int .i64 0] 81)
   rw [← hw]
   have QB := h_ bn
   have QL := h_ (show wx.heap.size < wxy.heap.size from lt_of_heap bn)
   have C_wxy := h_ (C_wx.out.trans cn)
   replace PB := h_ (cn.at_ PB.out (by simp))
   clear hw cn bn hHeld
   refine hK.out _ _ (HH.out wxy C_wxy.out) (fun hHeld => ?_)
   clear hK K; try simp only [Act.put, sA, s0, s1]
   refine on1 12 rfl (fun K hK => ?_)
   have z0 := cell_of PB.out 0
   have z1 := cell_of PB.out 1
   have z2 := cell_of PB.out 2
   have fz0 := free_of PB.out 0
   have fz1 := free_of PB.out 1
   have fz2 := free_of PB.out 2
   simp only [gA, gY, gZ] at z0 z1 z2
   have p0 := heap_setCell_same wxy (wd.heap.size) 0 _ _ (.int .i64 x.1) PB.out
   have p1 := heap_setCell_same ((wxy.setCell ⟨wd.heap.size, 0, none⟩ (.int .i64 x.1))) (wd.heap.size) 1 _ _ (.int .i64 x.2.1) p0
   have p2 := heap_setCell_same (((wxy.setCell ⟨wd.heap.size, 0, none⟩ (.int .i64 x.1)).setCell ⟨wd.heap.size, 1, none⟩ (.int .i64 x.2.1))) (wd.heap.size) 2 _ _ (.int .i64 x.2.2) p1
   simp only [sA, s0, s1] at p2
   have NB := h_ p2
   have C_wxys := h_ (((C_wxy.out.setCell (p := ⟨wd.heap.size, 0, none⟩) (.inr (Nat.le_refl _)) (.int .i64 x.1)).setCell (p := ⟨wd.heap.size, 1, none⟩) (.inr (Nat.le_refl _)) (.int .i64 x.2.1)).setCell (p := ⟨wd.heap.size, 2, none⟩) (.inr (Nat.le_refl _)) (.int .i64 x.2.2))
   have OB := h_ (((heap_setCell_other ((wxy.setCell ⟨wd.heap.size, 0, none⟩ (.int .i64 x.1)).setCell ⟨wd.heap.size, 1, none⟩ (.int .i64 x.2.1)) ⟨wd.heap.size, 2, none⟩ (wx.heap.size) (.int .i64 x.2.2) (by simp; have := PL.out; have := QL.out; omega)).trans ((heap_setCell_other (wxy.setCell ⟨wd.heap.size, 0, none⟩ (.int .i64 x.1)) ⟨wd.heap.size, 1, none⟩ (wx.heap.size) (.int .i64 x.2.1) (by simp; have := PL.out; have := QL.out; omega)).trans ((heap_setCell_other (wxy) ⟨wd.heap.size, 0, none⟩ (wx.heap.size) (.int .i64 x.1) (by simp; have := PL.out; have := QL.out; omega)).trans QB.out))))
   go_simp; clear z0 z1 z2 fz0 fz1 fz2 p0 p1 p2 hHeld PB QB
   generalize (((wxy.setCell ⟨wd.heap.size, 0, none⟩ (.int .i64 x.1)).setCell ⟨wd.heap.size, 1, none⟩ (.int .i64 x.2.1)).setCell ⟨wd.heap.size, 2, none⟩ (.int .i64 x.2.2)) = wxys at *
   have PB := NB
   have QB := OB
   clear NB OB
   refine hK.out _ _ (HH.out wxys C_wxys.out) (fun hHeld => ?_)
   clear hK K; try simp only [Act.put, sA, s0, s1]
   refine on1 13 rfl (fun K hK => ?_)
   have z0 := cell_of QB.out 0
   have z1 := cell_of QB.out 1
   have z2 := cell_of QB.out 2
   have fz0 := free_of QB.out 0
   have fz1 := free_of QB.out 1
   have fz2 := free_of QB.out 2
   simp only [gA, gY, gZ] at z0 z1 z2
   have p0 := heap_setCell_same wxys (wx.heap.size) 0 _ _ (.int .i64 y.1) QB.out
   have p1 := heap_setCell_same ((wxys.setCell ⟨wx.heap.size, 0, none⟩ (.int .i64 y.1))) (wx.heap.size) 1 _ _ (.int .i64 y.2.1) p0
   have p2 := heap_setCell_same (((wxys.setCell ⟨wx.heap.size, 0, none⟩ (.int .i64 y.1)).setCell ⟨wx.heap.size, 1, none⟩ (.int .i64 y.2.1))) (wx.heap.size) 2 _ _ (.int .i64 y.2.2) p1
   simp only [sA, s0, s1] at p2
   have NB := h_ p2
   have C_wxyss := h_ (((C_wxys.out.setCell (p := ⟨wx.heap.size, 0, none⟩) (.inr (C_wx.out.size)) (.int .i64 y.1)).setCell (p := ⟨wx.heap.size, 1, none⟩) (.inr (C_wx.out.size)) (.int .i64 y.2.1)).setCell (p := ⟨wx.heap.size, 2, none⟩) (.inr (C_wx.out.size)) (.int .i64 y.2.2))
   have OB := h_ (((heap_setCell_other ((wxys.setCell ⟨wx.heap.size, 0, none⟩ (.int .i64 y.1)).setCell ⟨wx.heap.size, 1, none⟩ (.int .i64 y.2.1)) ⟨wx.heap.size, 2, none⟩ (wd.heap.size) (.int .i64 y.2.2) (by simp; have := PL.out; have := QL.out; omega)).trans ((heap_setCell_other (wxys.setCell ⟨wx.heap.size, 0, none⟩ (.int .i64 y.1)) ⟨wx.heap.size, 1, none⟩ (wd.heap.size) (.int .i64 y.2.1) (by simp; have := PL.out; have := QL.out; omega)).trans ((heap_setCell_other (wxys) ⟨wx.heap.size, 0, none⟩ (wd.heap.size) (.int .i64 y.1) (by simp; have := PL.out; have := QL.out; omega)).trans PB.out))))
   go_simp; clear z0 z1 z2 fz0 fz1 fz2 p0 p1 p2 hHeld QB PB
   generalize (((wxys.setCell ⟨wx.heap.size, 0, none⟩ (.int .i64 y.1)).setCell ⟨wx.heap.size, 1, none⟩ (.int .i64 y.2.1)).setCell ⟨wx.heap.size, 2, none⟩ (.int .i64 y.2.2)) = wxyss at *
   have QB := NB
   have PB := OB
   clear NB OB
   refine hK.out _ _ (HH.out wxyss C_wxyss.out) (fun hHeld => ?_)
   clear hK K; try simp only [Act.put, sA, s0, s1]
   refine wpAnyH_done (by kernel_rfl) ?_ _
   have FACTS : Hid (wxyss.heap[wd.heap.size]? = some (.cells #[.int .i64 x.1, .int .i64 x.2.1, .int .i64 x.2.2] 81 (0, 0))) ∧ Hid (wxyss.heap[wx.heap.size]? = some (.cells #[.int .i64 y.1, .int .i64 y.2.1, .int .i64 y.2.2] 81 (0, 0))) ∧ Hid (g0 < wd.heap.size ∧ g0 < wx.heap.size ∧ wd.heap.size ≠ wx.heap.size) ∧ Hid (Chg [] wd wxyss) := ⟨PB, QB, h_ (by have := PL.out; have := QL.out; have := L1.out; have := C_wx.out.size; refine ⟨?_, ?_, ?_⟩ <;> omega), C_wxyss⟩
   generalize wd.heap.size = p at FACTS ⊢
   generalize wx.heap.size = q at FACTS ⊢
   exact JOIN p q wxyss FACTS
  ·
   skip
   replace hK := h_ hK
   go_simp
   obtain ⟨wy, hw, cn, bn⟩ := news1 wd (.cells #[.int .i64 0, .int .i64 0, .int .i64 0] 81)
   rw [← hw]
   have QB := h_ bn
   have QL := h_ (show wd.heap.size < wy.heap.size from lt_of_heap bn)
   have C_wy := h_ (C_wd.out.trans cn)
   clear hw cn bn hHeld
   refine hK.out _ _ (HH.out wy C_wy.out) (fun hHeld => ?_)
   clear hK K; try simp only [Act.put, sA, s0, s1]
   refine on1 10 rfl (fun K hK => ?_)
   go_simp
   obtain ⟨wyx, hw, cn, bn⟩ := news1 wy (.cells #[.int .i64 0, .int .i64 0, .int .i64 0] 81)
   rw [← hw]
   have PB := h_ bn
   have PL := h_ (show wy.heap.size < wyx.heap.size from lt_of_heap bn)
   have C_wyx := h_ (C_wy.out.trans cn)
   replace QB := h_ (cn.at_ QB.out (by simp))
   clear hw cn bn hHeld
   refine hK.out _ _ (HH.out wyx C_wyx.out) (fun hHeld => ?_)
   clear hK K; try simp only [Act.put, sA, s0, s1]
   refine on1 12 rfl (fun K hK => ?_)
   have z0 := cell_of PB.out 0
   have z1 := cell_of PB.out 1
   have z2 := cell_of PB.out 2
   have fz0 := free_of PB.out 0
   have fz1 := free_of PB.out 1
   have fz2 := free_of PB.out 2
   simp only [gA, gY, gZ] at z0 z1 z2
   have p0 := heap_setCell_same wyx (wy.heap.size) 0 _ _ (.int .i64 x.1) PB.out
   have p1 := heap_setCell_same ((wyx.setCell ⟨wy.heap.size, 0, none⟩ (.int .i64 x.1))) (wy.heap.size) 1 _ _ (.int .i64 x.2.1) p0
   have p2 := heap_setCell_same (((wyx.setCell ⟨wy.heap.size, 0, none⟩ (.int .i64 x.1)).setCell ⟨wy.heap.size, 1, none⟩ (.int .i64 x.2.1))) (wy.heap.size) 2 _ _ (.int .i64 x.2.2) p1
   simp only [sA, s0, s1] at p2
   have NB := h_ p2
   have C_wyxs := h_ (((C_wyx.out.setCell (p := ⟨wy.heap.size, 0, none⟩) (.inr (C_wy.out.size)) (.int .i64 x.1)).setCell (p := ⟨wy.heap.size, 1, none⟩) (.inr (C_wy.out.size)) (.int .i64 x.2.1)).setCell (p := ⟨wy.heap.size, 2, none⟩) (.inr (C_wy.out.size)) (.int .i64 x.2.2))
   have OB := h_ (((heap_setCell_other ((wyx.setCell ⟨wy.heap.size, 0, none⟩ (.int .i64 x.1)).setCell ⟨wy.heap.size, 1, none⟩ (.int .i64 x.2.1)) ⟨wy.heap.size, 2, none⟩ (wd.heap.size) (.int .i64 x.2.2) (by simp; have := PL.out; have := QL.out; omega)).trans ((heap_setCell_other (wyx.setCell ⟨wy.heap.size, 0, none⟩ (.int .i64 x.1)) ⟨wy.heap.size, 1, none⟩ (wd.heap.size) (.int .i64 x.2.1) (by simp; have := PL.out; have := QL.out; omega)).trans ((heap_setCell_other (wyx) ⟨wy.heap.size, 0, none⟩ (wd.heap.size) (.int .i64 x.1) (by simp; have := PL.out; have := QL.out; omega)).trans QB.out))))
   go_simp; clear z0 z1 z2 fz0 fz1 fz2 p0 p1 p2 hHeld PB QB
   generalize (((wyx.setCell ⟨wy.heap.size, 0, none⟩ (.int .i64 x.1)).setCell ⟨wy.heap.size, 1, none⟩ (.int .i64 x.2.1)).setCell ⟨wy.heap.size, 2, none⟩ (.int .i64 x.2.2)) = wyxs at *
   have PB := NB
   have QB := OB
   clear NB OB
   refine hK.out _ _ (HH.out wyxs C_wyxs.out) (fun hHeld => ?_)
   clear hK K; try simp only [Act.put, sA, s0, s1]
   refine on1 13 rfl (fun K hK => ?_)
   have z0 := cell_of QB.out 0
   have z1 := cell_of QB.out 1
   have z2 := cell_of QB.out 2
   have fz0 := free_of QB.out 0
   have fz1 := free_of QB.out 1
   have fz2 := free_of QB.out 2
   simp only [gA, gY, gZ] at z0 z1 z2
   have p0 := heap_setCell_same wyxs (wd.heap.size) 0 _ _ (.int .i64 y.1) QB.out
   have p1 := heap_setCell_same ((wyxs.setCell ⟨wd.heap.size, 0, none⟩ (.int .i64 y.1))) (wd.heap.size) 1 _ _ (.int .i64 y.2.1) p0
   have p2 := heap_setCell_same (((wyxs.setCell ⟨wd.heap.size, 0, none⟩ (.int .i64 y.1)).setCell ⟨wd.heap.size, 1, none⟩ (.int .i64 y.2.1))) (wd.heap.size) 2 _ _ (.int .i64 y.2.2) p1
   simp only [sA, s0, s1] at p2
   have NB := h_ p2
   have C_wyxss := h_ (((C_wyxs.out.setCell (p := ⟨wd.heap.size, 0, none⟩) (.inr (Nat.le_refl _)) (.int .i64 y.1)).setCell (p := ⟨wd.heap.size, 1, none⟩) (.inr (Nat.le_refl _)) (.int .i64 y.2.1)).setCell (p := ⟨wd.heap.size, 2, none⟩) (.inr (Nat.le_refl _)) (.int .i64 y.2.2))
   have OB := h_ (((heap_setCell_other ((wyxs.setCell ⟨wd.heap.size, 0, none⟩ (.int .i64 y.1)).setCell ⟨wd.heap.size, 1, none⟩ (.int .i64 y.2.1)) ⟨wd.heap.size, 2, none⟩ (wy.heap.size) (.int .i64 y.2.2) (by simp; have := PL.out; have := QL.out; omega)).trans ((heap_setCell_other (wyxs.setCell ⟨wd.heap.size, 0, none⟩ (.int .i64 y.1)) ⟨wd.heap.size, 1, none⟩ (wy.heap.size) (.int .i64 y.2.1) (by simp; have := PL.out; have := QL.out; omega)).trans ((heap_setCell_other (wyxs) ⟨wd.heap.size, 0, none⟩ (wy.heap.size) (.int .i64 y.1) (by simp; have := PL.out; have := QL.out; omega)).trans PB.out))))
   go_simp; clear z0 z1 z2 fz0 fz1 fz2 p0 p1 p2 hHeld QB PB
   generalize (((wyxs.setCell ⟨wd.heap.size, 0, none⟩ (.int .i64 y.1)).setCell ⟨wd.heap.size, 1, none⟩ (.int .i64 y.2.1)).setCell ⟨wd.heap.size, 2, none⟩ (.int .i64 y.2.2)) = wyxss at *
   have QB := NB
   have PB := OB
   clear NB OB
   refine hK.out _ _ (HH.out wyxss C_wyxss.out) (fun hHeld => ?_)
   clear hK K; try simp only [Act.put, sA, s0, s1]
   refine wpAnyH_done (by kernel_rfl) ?_ _
   have FACTS : Hid (wyxss.heap[wy.heap.size]? = some (.cells #[.int .i64 x.1, .int .i64 x.2.1, .int .i64 x.2.2] 81 (0, 0))) ∧ Hid (wyxss.heap[wd.heap.size]? = some (.cells #[.int .i64 y.1, .int .i64 y.2.1, .int .i64 y.2.2] 81 (0, 0))) ∧ Hid (g0 < wy.heap.size ∧ g0 < wd.heap.size ∧ wy.heap.size ≠ wd.heap.size) ∧ Hid (Chg [] wd wyxss) := ⟨PB, QB, h_ (by have := PL.out; have := QL.out; have := L1.out; have := C_wy.out.size; refine ⟨?_, ?_, ?_⟩ <;> omega), C_wyxss⟩
   generalize wy.heap.size = p at FACTS ⊢
   generalize wd.heap.size = q at FACTS ⊢
   exact JOIN p q wyxss FACTS
 case rest =>
  rintro p q w2 ⟨PB, QB, PQ, C2⟩
  clear HH
  have R2 := h_ (C2.out.at_ B1.out (by simp))
  have CW := h_ (CD2.out.trans C2.out)
  replace H := h_ (H.out.chg CW.out (by simp) (by simp))
  clear G1 B1 CD2 C2 CD HG
  obtain ⟨x0, x1, x2⟩ := ce3 PB.out
  obtain ⟨y0, y1, y2⟩ := ce3 QB.out
  have e1 := E1H.out
  have e2 := E2H.out
  have hm := HMH.out
  have f1 : ¬ x.1 < y.1 := by omega
  have f2 : ¬ y.1 < x.1 := by omega
  have f3 : ((x.1 == y.1) : Bool) = true := by simpa using e1
  have f4 : ((y.1 == x.1) : Bool) = true := by simpa using e1.symm
  have f5 : x.2.1 ≤ y.2.1 := by omega
  have f6 : y.2.1 ≤ x.2.1 := by omega
  clear e1 e2
  have z0 := cell_of R2.out 0
  have z1 := cell_of R2.out 1
  have z2 := cell_of R2.out 2
  have fz0 := free_of R2.out 0
  have fz1 := free_of R2.out 1
  have fz2 := free_of R2.out 2
  simp only [gA, gY, gZ] at z0 z1 z2
  have p0 := heap_setCell_same w2 g0 0 _ _ (.int .i64 x.1) R2.out
  have p1 := heap_setCell_same ((w2.setCell ⟨g0, 0, none⟩ (.int .i64 x.1))) g0 1 _ _ (.int .i64 x.2.1) p0
  have p2 := heap_setCell_same (((w2.setCell ⟨g0, 0, none⟩ (.int .i64 x.1)).setCell ⟨g0, 1, none⟩ (.int .i64 x.2.1))) g0 2 _ _ (.int .i64 y.2.2) p1
  simp only [sA, s0, s1] at p2
  have RB := h_ p2
  have CS := h_ ((((Chg.refl [g0] w2).setCell (p := ⟨g0, 0, none⟩) (.inl (by simp)) (.int .i64 x.1)).setCell (p := ⟨g0, 1, none⟩) (.inl (by simp)) (.int .i64 x.2.1)).setCell (p := ⟨g0, 2, none⟩) (.inl (by simp)) (.int .i64 y.2.2))
  clear p0 p1 p2
  go_upto_region 10 with fail
  generalize (((w2.setCell ⟨g0, 0, none⟩ (.int .i64 x.1)).setCell ⟨g0, 1, none⟩ (.int .i64 x.2.1)).setCell ⟨g0, 2, none⟩ (.int .i64 y.2.2)) = w3 at *
  replace CW := h_ (CW.out.trans' CS.out (fun z hz => by simp at hz; subst hz; exact .inr (Nat.le_of_eq hg0)))
  have NG : Hid (g0 ∉ [g]) := h_ (by simp; have := GL.out; omega)
  have NG2 : Hid (g ∉ [g0] ∧ ∀ z ∈ X, z ∉ [g0]) := h_ ⟨by simp; have := GL.out; omega, fun z hz => by have := hX z hz; simp; omega⟩
  replace H := h_ (H.out.chg CS.out NG2.out.1 NG2.out.2)
  clear CS
  have CG := h_ (CW.out.mono (S' := [g]) (by simp))
  clear CW; clear z0 z1 z2 fz0 fz1 fz2
  have z2 := cell_of RB.out 2
  simp only [gA, gY, gZ] at z2
  refine wp_region_held_drew (S := fun w' => w'.cell? ⟨g0, 2, none⟩ = some (.int .i64 y.2.2)) (by kernel_rfl) z2 (fun hHeld => ?_)
  have CD := h_ (Chg.refl [] w3).drew
  replace H := h_ (H.out.chg CD.out (by simp) (by simp))
  replace RB := h_ (CD.out.at_ RB.out (by simp))
  replace CG := h_ (CG.out.trans (CD.out.mono (by simp)))
  clear CD z2
  generalize w3.drew = wd10 at *
  refine sy 0 79 rfl rfl ?_; try simp only [Act.put, sA, s0, s1]
  refine sy 1 80 rfl rfl ?_; try simp only [Act.put, sA, s0, s1]
  refine sy 2 81 rfl rfl ?_; try simp only [Act.put, sA, s0, s1]
  refine sy 3 82 rfl rfl ?_; try simp only [Act.put, sA, s0, s1]
  refine sy 4 83 rfl rfl ?_ (hy := by (intro w hSw; (try dsimp only at hSw); have q := hSw; go_simp; try with_reducible rfl))
  try simp only [Act.put, sA, s0, s1]
  refine on1 5 rfl (fun K hK => ?_)
  go_simp
  refine (pass_a wd10 g _ _ _ _ _ A c x r _ HTO.out H.out.hg H.out.ra H.out.ca (fun a ha e => H.out.gx (e ▸ H.out.na.resolve_left (by simp) a ha))).mono ?_
  rintro e wp10 ⟨rfl, A', c', h1, h2, h3, h4, h5⟩
  have HN : Hid (SwQ wp10 g X (passP (x :: r) _) _ kf A' c' _ _) := h_ ⟨h1, h2, h3, .inr (fun a ha => by obtain ⟨b, hb, e⟩ := h4 a ha; rw [e]; exact H.out.na.resolve_left (by simp) b hb), H.out.rbchg h5, H.out.cb, H.out.nb, H.out.gx⟩
  replace RB := h_ (h5.at_ RB.out NG.out)
  replace CG := h_ (CG.out.trans h5)
  clear h1 h2 h3 h4 h5 hHeld H
  have H := HN
  clear HN
  refine hK.out _ _ (by have z := cell_of RB.out 2; simp only [gA, gY, gZ] at z; exact z) (fun hHeld => ?_)
  clear hK K; try simp only [Act.put, sA, s0, s1]
  refine wpAnyH_done (by kernel_rfl) ?_ _; clear hHeld
  go_upto_region 12 with fail
  have z2 := cell_of RB.out 2
  simp only [gA, gY, gZ] at z2
  refine wp_region_held_drew (S := fun w' => w'.cell? ⟨g0, 2, none⟩ = some (.int .i64 y.2.2)) (by kernel_rfl) z2 (fun hHeld => ?_)
  have CD := h_ (Chg.refl [] wp10).drew
  replace H := h_ (H.out.chg CD.out (by simp) (by simp))
  replace RB := h_ (CD.out.at_ RB.out (by simp))
  replace CG := h_ (CG.out.trans (CD.out.mono (by simp)))
  clear CD z2
  generalize wp10.drew = wd12 at *
  refine sy 0 86 rfl rfl ?_; try simp only [Act.put, sA, s0, s1]
  refine sy 1 87 rfl rfl ?_; try simp only [Act.put, sA, s0, s1]
  refine sy 2 88 rfl rfl ?_; try simp only [Act.put, sA, s0, s1]
  refine sy 3 89 rfl rfl ?_; try simp only [Act.put, sA, s0, s1]
  refine sy 4 90 rfl rfl ?_ (hy := by (intro w hSw; (try dsimp only at hSw); have q := hSw; go_simp; try with_reducible rfl))
  try simp only [Act.put, sA, s0, s1]
  refine on1 5 rfl (fun K hK => ?_)
  go_simp
  refine (pass_b wd12 g _ _ _ _ _ B d y r2 _ HTO.out H.out.hg H.out.rb H.out.cb (fun a ha e => H.out.gx (e ▸ H.out.nb.resolve_left (by simp) a ha))).mono ?_
  rintro e wp12 ⟨rfl, B', d', h1, h2, h3, h4, h5⟩
  have HN : Hid (SwQ wp12 g X _ (passP (y :: r2) _) kf _ _ B' d') := h_ ⟨h1, H.out.rachg h5, H.out.ca, H.out.na, h2, h3, .inr (fun a ha => by obtain ⟨b, hb, e⟩ := h4 a ha; rw [e]; exact H.out.nb.resolve_left (by simp) b hb), H.out.gx⟩
  replace RB := h_ (h5.at_ RB.out NG.out)
  replace CG := h_ (CG.out.trans h5)
  clear h1 h2 h3 h4 h5 hHeld H
  have H := HN
  clear HN
  refine hK.out _ _ (by have z := cell_of RB.out 2; simp only [gA, gY, gZ] at z; exact z) (fun hHeld => ?_)
  clear hK K; try simp only [Act.put, sA, s0, s1]
  refine wpAnyH_done (by kernel_rfl) ?_ _; clear hHeld
  have z0 := cell_of RB.out 0
  have z1 := cell_of RB.out 1
  have z2 := cell_of RB.out 2
  have fz0 := free_of RB.out 0
  have fz1 := free_of RB.out 1
  have fz2 := free_of RB.out 2
  simp only [gA, gY, gZ] at z0 z1 z2
  have p0 := heap_setCell_same wp12 g0 0 _ _ (.int .i64 x.1) RB.out
  have p1 := heap_setCell_same ((wp12.setCell ⟨g0, 0, none⟩ (.int .i64 x.1))) g0 1 _ _ (.int .i64 x.2.1) p0
  have p2 := heap_setCell_same (((wp12.setCell ⟨g0, 0, none⟩ (.int .i64 x.1)).setCell ⟨g0, 1, none⟩ (.int .i64 x.2.1))) g0 2 _ _ (.int .i64 y.2.2) p1
  simp only [sA, s0, s1] at p2
  have RF := h_ p2
  have CF := h_ ((((Chg.refl [g0] wp12).setCell (p := ⟨g0, 0, none⟩) (.inl (by simp)) (.int .i64 x.1)).setCell (p := ⟨g0, 1, none⟩) (.inl (by simp)) (.int .i64 x.2.1)).setCell (p := ⟨g0, 2, none⟩) (.inl (by simp)) (.int .i64 y.2.2))
  clear p0 p1 p2; go_wp2
  generalize (((wp12.setCell ⟨g0, 0, none⟩ (.int .i64 x.1)).setCell ⟨g0, 1, none⟩ (.int .i64 x.2.1)).setCell ⟨g0, 2, none⟩ (.int .i64 y.2.2)) = wf at *
  clear z0 z1 z2 fz0 fz1 fz2
  obtain ⟨z0, z1, z2⟩ := ce3 RF.out
  refine bodyPost_ret (v := .tuple #[.agg #[.int .i64 x.1, .int .i64 x.2.1, .int .i64 y.2.2], .bool true, .bool true]) (by simp [results, Tryz.results192, go_sem, z0, z1, z2]) rfl ?_
  exact ⟨rfl, ⟨_, _, _, _, H.out.chg CF.out NG2.out.1 NG2.out.2⟩, CG.out.trans' CF.out (fun z hz => by simp at hz; subst hz; exact .inr (Nat.le_of_eq hg0))⟩
end
end Go.Proofs.YtehmchdhlhchjaaGreatDoor
