/- The kit's CopyEvent. A run of the program on marks in the place of blocks: plain functions that the kernel can run. No program is named here. What a mark stands for: values, rows and worlds against their marks. No program is named here. Worlds against marks: what holds of each mark, and a step from one to the next. No program is named here. -/
import Derived.Test.YtehmchdhlhchjaaGreatDoorZepd
import Derived.Deep.Cut
import Derived.Test.YtehmchdhlhchjaaGreatDoorRows
import Derived.RangeFuncLeaves
import Derived.OrdersIn
import Derived.LoopNIn
import Derived.WalkKit
import Derived.Below
set_option linter.unusedSimpArgs false
set_option linter.unusedVariables false
namespace Go.Proofs.YtehmchdhlhchjaaGreatDoor
section
open Go.RowKit Go.Lib


set_option maxRecDepth 100000 in
set_option maxHeartbeats 8000000 in
theorem copyev_any (w : World) (x : EvT) (e : EvP) (h : EvR w x e) (hs : e.b.length ≤ 140737488351232 ∧ e.q.length ≤ 100000) :
  Calls Tryz.prog 30 #[.agg #[.int .i64 x.n, .int .i64 x.s, .string x.p, .int .i64 x.k, .int .i64 x.m, .slice x.A x.l x.c, .slice x.B x.bl x.bc]] w fun r w' => ∃ A' c' B' d', r = .returned (.agg #[.int .i64 x.n, .int .i64 x.s, .string x.p, .int .i64 x.k, .int .i64 x.m, .slice A' x.l c', .slice B' x.bl d']) ∧ EvR w' ⟨x.n, x.s, x.p, x.k, x.m, A', x.l, c', B', x.bl, d'⟩ e ∧ OwnB w' A' c' e.b ∧ OwnK spanTy w' B' d' e.q ∧ (∀ a, A' = some a → w.heap.size ≤ a.block) ∧ (∀ a, B' = some a → w.heap.size ≤ a.block) ∧ (∀ a b, A' = some a → B' = some b → a.block ≠ b.block) ∧ Chg [] w w' := by
 obtain ⟨w2, hw, hc, b0, b1⟩ := news2 w (.cells #[.int .i64 x.n, .int .i64 x.s, .string x.p, .int .i64 x.k, .int .i64 x.m, .slice x.A x.l x.c, .slice x.B x.bl x.bc] 40) (.cells #[.int .i64 0, .int .i64 0, .string ⟨#[]⟩, .int .i64 0, .int .i64 0, .slice none 0 0, .slice none 0 0] 40)
 have W2 := h_ hw
 have HR := h_ (h.chg hc)
 have HR0 := h_ h
 have C := h_ hc
 have HS := h_ hs
 obtain ⟨g0, hg0⟩ : ∃ g, w.heap.size = g := ⟨_, rfl⟩
 obtain ⟨g1, hg1⟩ : ∃ g, w.heap.size + 1 = g := ⟨_, rfl⟩
 have SZ := h_ hg0
 have S1 := h_ hg1
 rw [hg0] at b0
 rw [hg1] at b1
 have B0 := h_ b0
 have B1 := h_ b1
 have L0 := h_ (lt_of_heap b0)
 have L1 := h_ (lt_of_heap b1)
 have NEg0 : Hid (g0 ≠ g1) := h_ (by omega)
 have NEg1 : Hid (g1 ≠ g0) := h_ (by omega)
 have LZg0 : Hid (g0 ≤ g0) := h_ (Nat.le_refl _)
 have LZg1 : Hid (g0 ≤ g1) := h_ (by omega)
 clear hw hc b0 b1 h hs hg0 hg1
 go_enter Tryz.func30, Tryz.ntmps30
 go_upto_region 1 with fail
 rw [← W2.out, S1.out, SZ.out]
 have z0 := cell_of B0.out 0
 have fz0 := free_of B0.out 0
 have z1 := cell_of B0.out 1
 have fz1 := free_of B0.out 1
 have z2 := cell_of B0.out 2
 have fz2 := free_of B0.out 2
 have z3 := cell_of B0.out 3
 have fz3 := free_of B0.out 3
 have z4 := cell_of B0.out 4
 have fz4 := free_of B0.out 4
 have z5 := cell_of B0.out 5
 have fz5 := free_of B0.out 5
 have z6 := cell_of B0.out 6
 have fz6 := free_of B0.out 6
 simp only [gA, gY, gZ] at z0 z1 z2 z3 z4 z5 z6
 go_wp2_with fail
 refine (copyeff_any w2 x.k x.m x.A x.l x.c e.b HR.out.A (by rw [HR.out.l]; exact HS.out.1)).mono ?_
 rintro r w3 ⟨A3, c3, rfl, h3⟩
 clear z0 z1 z2 z3 z4 z5 z6 fz0 fz1 fz2 fz3 fz4 fz5 fz6
 replace B0 := h_ (h3.2.2.at_ B0.out (by simp))
 replace B1 := h_ (h3.2.2.at_ B1.out (by simp))
 have O3 := h_ h3.1
 have N3 := h_ h3.2.1
 have S2 := h_ C.out.size
 have LB : Hid (w2.heap.size ≤ w3.heap.size) := h_ h3.2.2.size
 replace C := h_ (C.out.trans h3.2.2)
 have LT3 : Hid (∀ a, A3 = some a → a.block ≠ g0 ∧ a.block ≠ g1) := h_ (fun a ha => by
  have q := N3.out a ha
  have r0 := L0.out
  have r1 := L1.out
  omega)
 have LX3 : Hid (∀ a, A3 = some a → a.block < w3.heap.size) := h_ (fun a ha => by
  obtain ⟨g, hg⟩ : ∃ g, a.block = g := ⟨_, rfl⟩
  rcases O3.out with ⟨q, _⟩ | ⟨g, full, q, hh, _⟩
  ·
   rw [q] at ha; cases ha
  ·
   rw [q] at ha; cases ha; exact lt_of_heap hh)
 clear h3
 have z0 := cell_of B0.out 0
 have fz0 := free_of B0.out 0
 have z1 := cell_of B0.out 1
 have fz1 := free_of B0.out 1
 have z2 := cell_of B0.out 2
 have fz2 := free_of B0.out 2
 have z3 := cell_of B0.out 3
 have fz3 := free_of B0.out 3
 have z4 := cell_of B0.out 4
 have fz4 := free_of B0.out 4
 have z5 := cell_of B0.out 5
 have fz5 := free_of B0.out 5
 have z6 := cell_of B0.out 6
 have fz6 := free_of B0.out 6
 simp only [gA, gY, gZ] at z0 z1 z2 z3 z4 z5 z6
 go_upto_region 2 with fail
 clear z0 z1 z2 z3 z4 z5 z6 fz0 fz1 fz2 fz3 fz4 fz5 fz6
 obtain ⟨p0, p1, p2⟩ := set7_3 (.int .i64 x.k) (.int .i64 x.m) (.slice A3 x.l c3) B0.out B1.out NEg0.out LZg0.out C.out SZ.out
 generalize hW : (((w3.setCell ⟨g0, 3, none⟩ (.int .i64 x.k)).setCell ⟨g0, 4, none⟩ (.int .i64 x.m)).setCell ⟨g0, 5, none⟩ (.slice A3 x.l c3)) = w4 at *
 have O4 := h_ (O3.out.chg (S := [g0]) (hW ▸ (((Chg.refl [g0] w3).put' 3 _).put' 4 _).put' 5 _) (fun a ha => by simp; exact (LT3.out a ha).1))
 replace B0 := h_ p0
 replace B1 := h_ p1
 have LW : Hid (w3.heap.size ≤ w4.heap.size) := h_ (by rw [← hW]; simp [World.setCell])
 replace C := h_ p2
 have RBp := h_ (HR0.out.B.chg C.out (by simp))
 clear p0 p1 p2 hW O3
 have z0 := cell_of B0.out 0
 have fz0 := free_of B0.out 0
 have z1 := cell_of B0.out 1
 have fz1 := free_of B0.out 1
 have z2 := cell_of B0.out 2
 have fz2 := free_of B0.out 2
 have z3 := cell_of B0.out 3
 have fz3 := free_of B0.out 3
 have z4 := cell_of B0.out 4
 have fz4 := free_of B0.out 4
 have z5 := cell_of B0.out 5
 have fz5 := free_of B0.out 5
 have z6 := cell_of B0.out 6
 have fz6 := free_of B0.out 6
 simp only [gA, gY, gZ] at z0 z1 z2 z3 z4 z5 z6
 go_wp2_with fail
 refine (copyspan_any w4 x.B x.bl x.bc e.q RBp.out (by have := HS.out.2; rw [HR.out.bl]; omega)).mono ?_
 rintro r w5 ⟨A5, c5, rfl, h5, hN5, hc5⟩
 clear z0 z1 z2 z3 z4 z5 z6 fz0 fz1 fz2 fz3 fz4 fz5 fz6
 replace B0 := h_ (hc5.at_ B0.out (by simp))
 replace B1 := h_ (hc5.at_ B1.out (by simp))
 replace O4 := h_ (O4.out.chg hc5 (by simp))
 have P5 := h_ h5
 have N5 : Hid (∀ a, A5 = some a → w3.heap.size ≤ a.block) := h_ (fun a ha => Nat.le_trans LW.out (hN5 a ha))
 replace C := h_ (C.out.trans hc5)
 have LT5 : Hid (∀ a, A5 = some a → a.block ≠ g0 ∧ a.block ≠ g1) := h_ (fun a ha => by
  have q := N5.out a ha
  have r0 := L0.out
  have r1 := L1.out
  have r2 := LB.out
  omega)
 clear h5 hN5 hc5 RBp
 have z0 := cell_of B0.out 0
 have fz0 := free_of B0.out 0
 have z1 := cell_of B0.out 1
 have fz1 := free_of B0.out 1
 have z2 := cell_of B0.out 2
 have fz2 := free_of B0.out 2
 have z3 := cell_of B0.out 3
 have fz3 := free_of B0.out 3
 have z4 := cell_of B0.out 4
 have fz4 := free_of B0.out 4
 have z5 := cell_of B0.out 5
 have fz5 := free_of B0.out 5
 have z6 := cell_of B0.out 6
 have fz6 := free_of B0.out 6
 simp only [gA, gY, gZ] at z0 z1 z2 z3 z4 z5 z6
 go_upto_region 3 with fail
 clear z0 z1 z2 z3 z4 z5 z6 fz0 fz1 fz2 fz3 fz4 fz5 fz6
 obtain ⟨p0, p1, p2⟩ := set7_1 (.slice A5 x.bl c5) B0.out B1.out NEg0.out LZg0.out C.out SZ.out
 generalize hW : (w5.setCell ⟨g0, 6, none⟩ (.slice A5 x.bl c5)) = w6 at *
 have O6 := h_ (O4.out.chg (S := [g0]) (hW ▸ (Chg.refl [g0] w5).put' 6 _) (fun a ha => by simp; exact (LT3.out a ha).1))
 have P6 := h_ (P5.out.chg (S := [g0]) (hW ▸ (Chg.refl [g0] w5).put' 6 _) (fun a ha => by simp; exact (LT5.out a ha).1))
 replace B0 := h_ p0
 replace B1 := h_ p1
 replace C := h_ p2
 clear p0 p1 p2 hW O4 P5
 have z0 := cell_of B0.out 0
 have fz0 := free_of B0.out 0
 have z1 := cell_of B0.out 1
 have fz1 := free_of B0.out 1
 have z2 := cell_of B0.out 2
 have fz2 := free_of B0.out 2
 have z3 := cell_of B0.out 3
 have fz3 := free_of B0.out 3
 have z4 := cell_of B0.out 4
 have fz4 := free_of B0.out 4
 have z5 := cell_of B0.out 5
 have fz5 := free_of B0.out 5
 have z6 := cell_of B0.out 6
 have fz6 := free_of B0.out 6
 simp only [gA, gY, gZ] at z0 z1 z2 z3 z4 z5 z6
 have y0 := cell_of B1.out 0
 have fy0 := free_of B1.out 0
 have y1 := cell_of B1.out 1
 have fy1 := free_of B1.out 1
 have y2 := cell_of B1.out 2
 have fy2 := free_of B1.out 2
 have y3 := cell_of B1.out 3
 have fy3 := free_of B1.out 3
 have y4 := cell_of B1.out 4
 have fy4 := free_of B1.out 4
 have y5 := cell_of B1.out 5
 have fy5 := free_of B1.out 5
 have y6 := cell_of B1.out 6
 have fy6 := free_of B1.out 6
 simp only [gA, gY, gZ] at y0 y1 y2 y3 y4 y5 y6
 go_wp2; clear z0 z1 z2 z3 z4 z5 z6 fz0 fz1 fz2 fz3 fz4 fz5 fz6; clear y0 y1 y2 y3 y4 y5 y6 fy0 fy1 fy2 fy3 fy4 fy5 fy6
 obtain ⟨p0, p1, p2⟩ := set7_all (.int .i64 x.n) (.int .i64 x.s) (.string x.p) (.int .i64 x.k) (.int .i64 x.m) (.slice A3 x.l c3) (.slice A5 x.bl c5) B1.out B0.out NEg1.out LZg1.out C.out SZ.out
 generalize hW : (((((((w6.setCell ⟨g1, 0, none⟩ (.int .i64 x.n)).setCell ⟨g1, 1, none⟩ (.int .i64 x.s)).setCell ⟨g1, 2, none⟩ (.string x.p)).setCell ⟨g1, 3, none⟩ (.int .i64 x.k)).setCell ⟨g1, 4, none⟩ (.int .i64 x.m)).setCell ⟨g1, 5, none⟩ (.slice A3 x.l c3)).setCell ⟨g1, 6, none⟩ (.slice A5 x.bl c5)) = w7 at *
 have O7 := h_ (O6.out.chg (S := [g1]) (hW ▸ (((((((Chg.refl [g1] w6).put' 0 _).put' 1 _).put' 2 _).put' 3 _).put' 4 _).put' 5 _).put' 6 _) (fun a ha => by simp; exact (LT3.out a ha).2))
 have P7 := h_ (P6.out.chg (S := [g1]) (hW ▸ (((((((Chg.refl [g1] w6).put' 0 _).put' 1 _).put' 2 _).put' 3 _).put' 4 _).put' 5 _).put' 6 _) (fun a ha => by simp; exact (LT5.out a ha).2))
 replace B1 := h_ p0
 replace C := h_ p2
 clear p0 p1 p2 hW O6 P6
 obtain ⟨y0, y1, y2, y3, y4, y5, y6⟩ := ce7 B1.out
 refine bodyPost_ret (v := .agg #[.int .i64 x.n, .int .i64 x.s, .string x.p, .int .i64 x.k, .int .i64 x.m, .slice A3 x.l c3, .slice A5 x.bl c5]) (by simp [results, Tryz.results30, go_sem, y0, y1, y2, y3, y4, y5, y6]) rfl ?_
 refine ⟨A3, c3, A5, c5, rfl, ⟨HR.out.n, HR.out.s, HR.out.p, HR.out.k, HR.out.m, HR.out.l, HR.out.bl, ?_, ?_⟩, O7.out, P7.out, fun a ha => Nat.le_trans S2.out (N3.out a ha), fun a ha => Nat.le_trans S2.out (Nat.le_trans LB.out (N5.out a ha)), fun a b ha hb => by have := LX3.out a ha; have := N5.out b hb; omega, C.out⟩
 ·
  have := O7.out.reads
  rw [← HR.out.l] at this
  exact this
 ·
  have := P7.out.reads
  rw [← HR.out.bl] at this
  exact this
end
end Go.Proofs.YtehmchdhlhchjaaGreatDoor
