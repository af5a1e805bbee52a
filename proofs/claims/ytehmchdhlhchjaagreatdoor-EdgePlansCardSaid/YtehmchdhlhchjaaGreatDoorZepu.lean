/- fresh.Effect, fresh.Event. fresh.list of events. What a shelf's Check has seen, purely. shelf.Check. shelf.find. shelf.without. -/
import Derived.Test.YtehmchdhlhchjaaGreatDoorZepd
import Derived.Test.YtehmchdhlhchjaaGreatDoorZepe
import Derived.Test.YtehmchdhlhchjaaGreatDoorZept
import Derived.Test.YtehmchdhlhchjaaGreatDoorZepa
import Derived.Deep.Cut
import Derived.Test.YtehmchdhlhchjaaGreatDoorZepj
import Derived.Test.YtehmchdhlhchjaaGreatDoorZepr
import Derived.Test.YtehmchdhlhchjaaGreatDoorZeps
import Derived.BigQuiet
import Derived.Test.YtehmchdhlhchjaaGreatDoorZepm
set_option linter.unusedSimpArgs false
set_option linter.unusedVariables false
set_option maxHeartbeats 32000000
namespace Go.Proofs.YtehmchdhlhchjaaGreatDoor
section
open Go.RowKit Go.Lib


set_option maxRecDepth 100000 in
theorem freff_any (w : World) (k m : Int) (A : Option Addr) (n c : Nat) (ys : List UInt8) (h : Bs w A n ys) (hn : n ≤ 140737488351232) :
  Calls Tryz.prog 165 #[.agg #[.int .i64 k, .int .i64 m, .slice A n c]] w fun r w' => ∃ A' c', r = .returned (.agg #[.int .i64 k, .int .i64 m, .slice A' n c']) ∧ Fresh w w' A' c' ys := by
 obtain ⟨w2, hw, hc, b0, b1⟩ := news2 w (.cells #[.int .i64 k, .int .i64 m, .slice A n c] 38) (.cells #[.int .i64 0, .int .i64 0, .slice none 0 0] 38)
 have W2 := h_ hw
 have H := h_ (h.chg hc (by simp))
 have C := h_ hc
 have HN := h_ hn
 obtain ⟨g0, hg0⟩ : ∃ g, w.heap.size = g := ⟨_, rfl⟩
 obtain ⟨g1, hg1⟩ : ∃ g, w.heap.size + 1 = g := ⟨_, rfl⟩
 have SZ := h_ hg0
 have S1 := h_ hg1
 rw [hg0] at b0
 rw [hg1] at b1
 have B0 := h_ b0
 have B1 := h_ b1
 have NEg0 : Hid (g0 ≠ g1) := h_ (by omega)
 have NEg1 : Hid (g1 ≠ g0) := h_ (by omega)
 have LZg0 : Hid (g0 ≤ g0) := h_ (Nat.le_refl _)
 have LZg1 : Hid (g0 ≤ g1) := h_ (by omega)
 have L0 := h_ (lt_of_heap b0)
 have L1 := h_ (lt_of_heap b1)
 clear hw hc b0 b1 h hn hg0 hg1
 go_enter Tryz.func165, Tryz.ntmps165
 go_upto_region 1 with fail
 rw [← W2.out, S1.out, SZ.out]
 have z0 := cell_of B0.out 0
 have fz0 := free_of B0.out 0
 have z1 := cell_of B0.out 1
 have fz1 := free_of B0.out 1
 have z2 := cell_of B0.out 2
 have fz2 := free_of B0.out 2
 simp only [gA, gY, gZ] at z0 z1 z2
 go_wp2_with fail
 refine (clone_any w2 A n c ys H.out HN.out).mono ?_
 rintro r w3 ⟨A3, c3, rfl, h3⟩
 clear z0 z1 z2 fz0 fz1 fz2
 replace B0 := h_ (h3.2.2.at_ B0.out (by simp))
 replace B1 := h_ (h3.2.2.at_ B1.out (by simp))
 have O3 := h_ h3.1
 have N3 := h_ h3.2.1
 have S2 := h_ C.out.size
 replace C := h_ (C.out.trans h3.2.2)
 have LT3 : Hid (∀ a, A3 = some a → a.block ≠ g0 ∧ a.block ≠ g1) := h_ (fun a ha => by
  have q := N3.out a ha
  have r0 := L0.out
  have r1 := L1.out
  omega)
 clear h3
 have z0 := cell_of B0.out 0
 have fz0 := free_of B0.out 0
 have z1 := cell_of B0.out 1
 have fz1 := free_of B0.out 1
 have z2 := cell_of B0.out 2
 have fz2 := free_of B0.out 2
 simp only [gA, gY, gZ] at z0 z1 z2
 go_upto_region 2 with fail
 clear z0 z1 z2 fz0 fz1 fz2
 obtain ⟨p0, p1, p2⟩ := set3_2 (.slice A3 n c3) B0.out B1.out NEg0.out LZg0.out C.out SZ.out
 generalize hW : (w3.setCell ⟨g0, 2, none⟩ (.slice A3 n c3)) = w4 at *
 replace B0 := h_ p0
 replace B1 := h_ p1
 have O4 := h_ (O3.out.chg (S := [g0]) (hW ▸ (Chg.refl [g0] w3).put' 2 _) (fun a ha => by simp; exact (LT3.out a ha).1))
 replace C := h_ p2
 clear p0 p1 p2 hW O3
 have z0 := cell_of B0.out 0
 have fz0 := free_of B0.out 0
 have z1 := cell_of B0.out 1
 have fz1 := free_of B0.out 1
 have z2 := cell_of B0.out 2
 have fz2 := free_of B0.out 2
 simp only [gA, gY, gZ] at z0 z1 z2
 have y0 := cell_of B1.out 0
 have fy0 := free_of B1.out 0
 have y1 := cell_of B1.out 1
 have fy1 := free_of B1.out 1
 have y2 := cell_of B1.out 2
 have fy2 := free_of B1.out 2
 simp only [gA, gY, gZ] at y0 y1 y2
 go_wp2; clear z0 z1 z2 fz0 fz1 fz2; clear y0 y1 y2 fy0 fy1 fy2
 obtain ⟨p0, p1, p2⟩ := set3_all (.int .i64 k) (.int .i64 m) (.slice A3 n c3) B1.out B0.out NEg1.out LZg1.out C.out SZ.out
 generalize hW : (((w4.setCell ⟨g1, 0, none⟩ (.int .i64 k)).setCell ⟨g1, 1, none⟩ (.int .i64 m)).setCell ⟨g1, 2, none⟩ (.slice A3 n c3)) = w5 at *
 have O5 := h_ (O4.out.chg (S := [g1]) (hW ▸ (((Chg.refl [g1] w4).put' 0 _).put' 1 _).put' 2 _) (fun a ha => by simp; exact (LT3.out a ha).2))
 replace B1 := h_ p0
 replace C := h_ p2
 clear p0 p1 p2 hW O4
 obtain ⟨y0, y1, y2⟩ := ce3 B1.out
 refine bodyPost_ret (v := .agg #[.int .i64 k, .int .i64 m, .slice A3 n c3]) (by simp [results, Tryz.results165, go_sem, y0, y1, y2]) rfl ?_
 exact ⟨A3, c3, rfl, O5.out, fun a ha => Nat.le_trans S2.out (N3.out a ha), C.out⟩

set_option maxRecDepth 100000 in
theorem frev_any (w : World) (x : EvT) (e : EvP) (h : EvR w x e) (hs : e.b.length ≤ 140737488351232 ∧ e.q.length ≤ 100000) :
  Calls Tryz.prog 109 #[.agg #[.int .i64 x.n, .int .i64 x.s, .string x.p, .int .i64 x.k, .int .i64 x.m, .slice x.A x.l x.c, .slice x.B x.bl x.bc]] w fun r w' => ∃ A' c' B' d', r = .returned (.agg #[.int .i64 x.n, .int .i64 x.s, .string x.p, .int .i64 x.k, .int .i64 x.m, .slice A' x.l c', .slice B' x.bl d']) ∧ EvR w' ⟨x.n, x.s, x.p, x.k, x.m, A', x.l, c', B', x.bl, d'⟩ e ∧ OwnB w' A' c' e.b ∧ OwnK spanTy w' B' d' e.q ∧ (∀ a, A' = some a → w.heap.size ≤ a.block) ∧ (∀ a, B' = some a → w.heap.size ≤ a.block) ∧ (∀ a b, A' = some a → B' = some b → a.block ≠ b.block) ∧ Chg [] w w' := by
 obtain ⟨w2, hw, hc, b0, b1⟩ := news2 w (.cells #[.int .i64 x.n, .int .i64 x.s, .string x.p, .int .i64 x.k, .int .i64 x.m, .slice x.A x.l x.c, .slice x.B x.bl x.bc] 40) (.cells #[.int .i64 0, .int .i64 0, .string ⟨#[]⟩, .int .i64 0, .int .i64 0, .slice none 0 0, .slice none 0 0] 40)
 have W2 := h_ hw
 have HR := h_ (h.chg hc)
 have HR0 := h_ h
 have C := h_ hc
 have HS := h_ hs
 obtain ⟨g0, hg0⟩ : ∃ g, w.heap.size = g := ⟨_, rfl⟩
 obtain ⟨g1, hg1⟩ : ∃ g, w.heap.size + 1 = g := ⟨_, rfl⟩
 have SZ := h_ hg0
 have S1 := h_ hg1
 rw [hg0] at b0
 rw [hg1] at b1
 have B0 := h_ b0
 have B1 := h_ b1
 have L0 := h_ (lt_of_heap b0)
 have L1 := h_ (lt_of_heap b1)
 have NEg0 : Hid (g0 ≠ g1) := h_ (by omega)
 have NEg1 : Hid (g1 ≠ g0) := h_ (by omega)
 have LZg0 : Hid (g0 ≤ g0) := h_ (Nat.le_refl _)
 have LZg1 : Hid (g0 ≤ g1) := h_ (by omega)
 clear hw hc b0 b1 h hs hg0 hg1
 go_enter Tryz.func109, Tryz.ntmps109
 go_upto_region 1 with fail
 rw [← W2.out, S1.out, SZ.out]
 have z0 := cell_of B0.out 0
 have fz0 := free_of B0.out 0
 have z1 := cell_of B0.out 1
 have fz1 := free_of B0.out 1
 have z2 := cell_of B0.out 2
 have fz2 := free_of B0.out 2
 have z3 := cell_of B0.out 3
 have fz3 := free_of B0.out 3
 have z4 := cell_of B0.out 4
 have fz4 := free_of B0.out 4
 have z5 := cell_of B0.out 5
 have fz5 := free_of B0.out 5
 have z6 := cell_of B0.out 6
 have fz6 := free_of B0.out 6
 simp only [gA, gY, gZ] at z0 z1 z2 z3 z4 z5 z6
 go_wp2_with fail
 refine (freff_any w2 x.k x.m x.A x.l x.c e.b HR.out.A (by rw [HR.out.l]; exact HS.out.1)).mono ?_
 rintro r w3 ⟨A3, c3, rfl, h3⟩
 clear z0 z1 z2 z3 z4 z5 z6 fz0 fz1 fz2 fz3 fz4 fz5 fz6
 replace B0 := h_ (h3.2.2.at_ B0.out (by simp))
 replace B1 := h_ (h3.2.2.at_ B1.out (by simp))
 have O3 := h_ h3.1
 have N3 := h_ h3.2.1
 have S2 := h_ C.out.size
 have LB : Hid (w2.heap.size ≤ w3.heap.size) := h_ h3.2.2.size
 replace C := h_ (C.out.trans h3.2.2)
 have LT3 : Hid (∀ a, A3 = some a → a.block ≠ g0 ∧ a.block ≠ g1) := h_ (fun a ha => by
  have q := N3.out a ha
  have r0 := L0.out
  have r1 := L1.out
  omega)
 have LX3 : Hid (∀ a, A3 = some a → a.block < w3.heap.size) := h_ (fun a ha => by
  obtain ⟨g, hg⟩ : ∃ g, a.block = g := ⟨_, rfl⟩
  rcases O3.out with ⟨q, _⟩ | ⟨g, full, q, hh, _⟩
  ·
   rw [q] at ha; cases ha
  ·
   rw [q] at ha; cases ha; exact lt_of_heap hh)
 clear h3
 have z0 := cell_of B0.out 0
 have fz0 := free_of B0.out 0
 have z1 := cell_of B0.out 1
 have fz1 := free_of B0.out 1
 have z2 := cell_of B0.out 2
 have fz2 := free_of B0.out 2
 have z3 := cell_of B0.out 3
 have fz3 := free_of B0.out 3
 have z4 := cell_of B0.out 4
 have fz4 := free_of B0.out 4
 have z5 := cell_of B0.out 5
 have fz5 := free_of B0.out 5
 have z6 := cell_of B0.out 6
 have fz6 := free_of B0.out 6
 simp only [gA, gY, gZ] at z0 z1 z2 z3 z4 z5 z6
 go_upto_region 2 with fail
 clear z0 z1 z2 z3 z4 z5 z6 fz0 fz1 fz2 fz3 fz4 fz5 fz6
 obtain ⟨p0, p1, p2⟩ := set7_3 (.int .i64 x.k) (.int .i64 x.m) (.slice A3 x.l c3) B0.out B1.out NEg0.out LZg0.out C.out SZ.out
 generalize hW : (((w3.setCell ⟨g0, 3, none⟩ (.int .i64 x.k)).setCell ⟨g0, 4, none⟩ (.int .i64 x.m)).setCell ⟨g0, 5, none⟩ (.slice A3 x.l c3)) = w4 at *
 have O4 := h_ (O3.out.chg (S := [g0]) (hW ▸ (((Chg.refl [g0] w3).put' 3 _).put' 4 _).put' 5 _) (fun a ha => by simp; exact (LT3.out a ha).1))
 replace B0 := h_ p0
 replace B1 := h_ p1
 have LW : Hid (w3.heap.size ≤ w4.heap.size) := h_ (by rw [← hW]; simp [World.setCell])
 replace C := h_ p2
 have RBp := h_ (HR0.out.B.chg C.out (by simp))
 clear p0 p1 p2 hW O3
 have z0 := cell_of B0.out 0
 have fz0 := free_of B0.out 0
 have z1 := cell_of B0.out 1
 have fz1 := free_of B0.out 1
 have z2 := cell_of B0.out 2
 have fz2 := free_of B0.out 2
 have z3 := cell_of B0.out 3
 have fz3 := free_of B0.out 3
 have z4 := cell_of B0.out 4
 have fz4 := free_of B0.out 4
 have z5 := cell_of B0.out 5
 have fz5 := free_of B0.out 5
 have z6 := cell_of B0.out 6
 have fz6 := free_of B0.out 6
 simp only [gA, gY, gZ] at z0 z1 z2 z3 z4 z5 z6
 go_wp2_with fail
 refine (cloneSpan_any w4 x.B x.bl x.bc e.q RBp.out (by have := HS.out.2; rw [HR.out.bl]; omega)).mono ?_
 rintro r w5 ⟨A5, c5, rfl, h5, hN5, hc5⟩
 clear z0 z1 z2 z3 z4 z5 z6 fz0 fz1 fz2 fz3 fz4 fz5 fz6
 replace B0 := h_ (hc5.at_ B0.out (by simp))
 replace B1 := h_ (hc5.at_ B1.out (by simp))
 replace O4 := h_ (O4.out.chg hc5 (by simp))
 have P5 := h_ h5
 have N5 : Hid (∀ a, A5 = some a → w3.heap.size ≤ a.block) := h_ (fun a ha => Nat.le_trans LW.out (hN5 a ha))
 replace C := h_ (C.out.trans hc5)
 have LT5 : Hid (∀ a, A5 = some a → a.block ≠ g0 ∧ a.block ≠ g1) := h_ (fun a ha => by
  have q := N5.out a ha
  have r0 := L0.out
  have r1 := L1.out
  have r2 := LB.out
  omega)
 clear h5 hN5 hc5 RBp
 have z0 := cell_of B0.out 0
 have fz0 := free_of B0.out 0
 have z1 := cell_of B0.out 1
 have fz1 := free_of B0.out 1
 have z2 := cell_of B0.out 2
 have fz2 := free_of B0.out 2
 have z3 := cell_of B0.out 3
 have fz3 := free_of B0.out 3
 have z4 := cell_of B0.out 4
 have fz4 := free_of B0.out 4
 have z5 := cell_of B0.out 5
 have fz5 := free_of B0.out 5
 have z6 := cell_of B0.out 6
 have fz6 := free_of B0.out 6
 simp only [gA, gY, gZ] at z0 z1 z2 z3 z4 z5 z6
 go_upto_region 3 with fail
 clear z0 z1 z2 z3 z4 z5 z6 fz0 fz1 fz2 fz3 fz4 fz5 fz6
 obtain ⟨p0, p1, p2⟩ := set7_1 (.slice A5 x.bl c5) B0.out B1.out NEg0.out LZg0.out C.out SZ.out
 generalize hW : (w5.setCell ⟨g0, 6, none⟩ (.slice A5 x.bl c5)) = w6 at *
 have O6 := h_ (O4.out.chg (S := [g0]) (hW ▸ (Chg.refl [g0] w5).put' 6 _) (fun a ha => by simp; exact (LT3.out a ha).1))
 have P6 := h_ (P5.out.chg (S := [g0]) (hW ▸ (Chg.refl [g0] w5).put' 6 _) (fun a ha => by simp; exact (LT5.out a ha).1))
 replace B0 := h_ p0
 replace B1 := h_ p1
 replace C := h_ p2
 clear p0 p1 p2 hW O4 P5
 have z0 := cell_of B0.out 0
 have fz0 := free_of B0.out 0
 have z1 := cell_of B0.out 1
 have fz1 := free_of B0.out 1
 have z2 := cell_of B0.out 2
 have fz2 := free_of B0.out 2
 have z3 := cell_of B0.out 3
 have fz3 := free_of B0.out 3
 have z4 := cell_of B0.out 4
 have fz4 := free_of B0.out 4
 have z5 := cell_of B0.out 5
 have fz5 := free_of B0.out 5
 have z6 := cell_of B0.out 6
 have fz6 := free_of B0.out 6
 simp only [gA, gY, gZ] at z0 z1 z2 z3 z4 z5 z6
 have y0 := cell_of B1.out 0
 have fy0 := free_of B1.out 0
 have y1 := cell_of B1.out 1
 have fy1 := free_of B1.out 1
 have y2 := cell_of B1.out 2
 have fy2 := free_of B1.out 2
 have y3 := cell_of B1.out 3
 have fy3 := free_of B1.out 3
 have y4 := cell_of B1.out 4
 have fy4 := free_of B1.out 4
 have y5 := cell_of B1.out 5
 have fy5 := free_of B1.out 5
 have y6 := cell_of B1.out 6
 have fy6 := free_of B1.out 6
 simp only [gA, gY, gZ] at y0 y1 y2 y3 y4 y5 y6
 go_wp2; clear z0 z1 z2 z3 z4 z5 z6 fz0 fz1 fz2 fz3 fz4 fz5 fz6; clear y0 y1 y2 y3 y4 y5 y6 fy0 fy1 fy2 fy3 fy4 fy5 fy6
 obtain ⟨p0, p1, p2⟩ := set7_all (.int .i64 x.n) (.int .i64 x.s) (.string x.p) (.int .i64 x.k) (.int .i64 x.m) (.slice A3 x.l c3) (.slice A5 x.bl c5) B1.out B0.out NEg1.out LZg1.out C.out SZ.out
 generalize hW : (((((((w6.setCell ⟨g1, 0, none⟩ (.int .i64 x.n)).setCell ⟨g1, 1, none⟩ (.int .i64 x.s)).setCell ⟨g1, 2, none⟩ (.string x.p)).setCell ⟨g1, 3, none⟩ (.int .i64 x.k)).setCell ⟨g1, 4, none⟩ (.int .i64 x.m)).setCell ⟨g1, 5, none⟩ (.slice A3 x.l c3)).setCell ⟨g1, 6, none⟩ (.slice A5 x.bl c5)) = w7 at *
 have O7 := h_ (O6.out.chg (S := [g1]) (hW ▸ (((((((Chg.refl [g1] w6).put' 0 _).put' 1 _).put' 2 _).put' 3 _).put' 4 _).put' 5 _).put' 6 _) (fun a ha => by simp; exact (LT3.out a ha).2))
 have P7 := h_ (P6.out.chg (S := [g1]) (hW ▸ (((((((Chg.refl [g1] w6).put' 0 _).put' 1 _).put' 2 _).put' 3 _).put' 4 _).put' 5 _).put' 6 _) (fun a ha => by simp; exact (LT5.out a ha).2))
 replace B1 := h_ p0
 replace C := h_ p2
 clear p0 p1 p2 hW O6 P6
 obtain ⟨y0, y1, y2, y3, y4, y5, y6⟩ := ce7 B1.out
 refine bodyPost_ret (v := .agg #[.int .i64 x.n, .int .i64 x.s, .string x.p, .int .i64 x.k, .int .i64 x.m, .slice A3 x.l c3, .slice A5 x.bl c5]) (by simp [results, Tryz.results109, go_sem, y0, y1, y2, y3, y4, y5, y6]) rfl ?_
 refine ⟨A3, c3, A5, c5, rfl, ⟨HR.out.n, HR.out.s, HR.out.p, HR.out.k, HR.out.m, HR.out.l, HR.out.bl, ?_, ?_⟩, O7.out, P7.out, fun a ha => Nat.le_trans S2.out (N3.out a ha), fun a ha => Nat.le_trans S2.out (Nat.le_trans LB.out (N5.out a ha)), fun a b ha hb => by have := LX3.out a ha; have := N5.out b hb; omega, C.out⟩
 ·
  have := O7.out.reads
  rw [← HR.out.l] at this
  exact this
 ·
  have := P7.out.reads
  rw [← HR.out.bl] at this
  exact this
end
section
open Go.RowKit Go.Lib

set_option maxRecDepth 100000 in
theorem frlist_any (w : World) (A : Option Addr) (c : Nat) (xs : List EvT) (es : List EvP) (h : RdK evTy w A xs.length xs) (hx : EvsR w xs es) (hn : xs.length ≤ 100000) (hq : ∀ e ∈ es, e.b.length ≤ 140737488351232 ∧ e.q.length ≤ 100000) :
  Calls Tryz.prog 108 #[.slice A xs.length c, .func (.func 109) #[] #[]] w fun r w' => ∃ (A' : Option Addr) (c' : Nat) (ys : List EvT), r = .returned (.slice A' ys.length c') ∧ ys.length = xs.length ∧ EsF w' w.heap.size w'.heap.size A' c' ys es ∧ Chg [] w w' := by
 have HA := h_ h
 have HX := h_ hx
 have HN := h_ hn
 have HQ := h_ hq
 by_cases h0 : xs.length = 0
 ·
  have hx0 : xs = [] := List.length_eq_zero_iff.1 h0
  subst hx0
  have he : es = [] := List.length_eq_zero_iff.1 (by have := hx.1; simpa using this.symm)
  subst he; clear HA HX HN HQ h hx hn hq h0
  go_enter Tryz.func108, Tryz.ntmps108
  go_wp2; go_ret
  exact ⟨none, 0, [], rfl, rfl, EsF.nil _ _ _, Chg.refl _ _⟩
 ·
  have hn0 : ¬ (xs.length : Int) = 0 := by omega
  have HP := h_ h0
  have hmk : ∀ w : World, (Instr.makeSlice 22 (.int .i64 (xs.length : Int)) (.int .i64 (xs.length : Int))).run Tryz.prog w = .ok (.slice (some ⟨w.heap.size, 0, none⟩) xs.length xs.length) (w.alloc (.cells (evTy.flat (List.replicate xs.length evTy.z)).toArray 40)) := evTy.run_mk xs.length (by omega)
  obtain ⟨w1, hw1, c1, b1⟩ := news1 w (.cells (evTy.flat (List.replicate xs.length evTy.z)).toArray 40)
  have W1 := h_ hw1
  have C1 := h_ c1
  have O1 : Hid (OwnK evTy w1 (some ⟨w.heap.size, 0, none⟩) xs.length (List.replicate xs.length evTy.z)) := h_ (OwnK.of (full := List.replicate xs.length evTy.z) b1 (by simp) (by unfold maxLen; omega) (by simp) (by simp))
  have SZ1 : Hid (w.heap.size + 1 ≤ w1.heap.size) := h_ (lt_of_heap b1)
  clear h hx hn hq hw1 c1 b1 h0
  go_enter Tryz.func108, Tryz.ntmps108
  go_upto_region 4 with fail
  rw [← W1.out]
  obtain ⟨g, hg⟩ : ∃ g, w.heap.size = g := ⟨_, rfl⟩
  have HG := h_ hg
  rw [hg] at O1 SZ1 ⊢
  clear W1 hmk hg; go_wp2
  have h0b : (((xs.length : Int) == 0) : Bool) = false := by simpa using hn0
  rw [h0b]
  clear h0b
  go_loopw [16] (fun v16 wr => ∃ (k : Nat) (ys : List EvT), k ≤ xs.length ∧ ys.length = k ∧ v16 = .int .i64 k ∧ Hid (OwnK evTy wr (some ⟨g, 0, none⟩) xs.length (ys ++ List.replicate (xs.length - k) evTy.z)) ∧ Hid (OwnEs wr g wr.heap.size (some ⟨g, 0, none⟩) ys (es.take k)) ∧ Hid (g + 1 ≤ wr.heap.size) ∧ Hid (Chg [] w wr)) (fun v16 _ => xs.length - (RowKit.intOf v16).toNat)
  case atStart => exact ⟨0, [], Nat.zero_le _, rfl, rfl, h_ (by simpa using O1.out), h_ (by simpa using OwnEs.nil _ _ _ _), SZ1, C1⟩
  case round =>
   obtain ⟨k, ys, hk, hyl, rfl, RO, RE, RS, RC⟩ := hrel
   have i0 : (0 : Int) ≤ (k : Int) := by omega
   by_cases hlt : k < xs.length
   ·
    have i1 : (k : Int) < (xs.length : Int) := by omega
    have i3 : IntKind.i64.wrap ((k : Int) + 1) = (k : Int) + 1 := IntWalk.i64_in _ (by have := HN.out; omega)
    obtain ⟨g2, o2, eA, _⟩ := HA.out.line (by omega)
    subst eA
    obtain ⟨x, e, ex, ee, rx⟩ := HX.out.at_ hlt
    obtain ⟨z0, z1, z2, z3, z4, z5, z6⟩ := evCells (HA.out.chg RC.out (by simp)) ex
    have RX := h_ rx
    have ET : Hid (es.take (k + 1) = es.take k ++ [e]) := h_ (by rw [List.take_add_one, ee]; rfl)
    have EQ := h_ (HQ.out e (List.mem_of_getElem? ee))
    have YL := h_ hyl
    clear ex ee rx hyl
    go_upto_region 7 with fail
    clear z0 z1 z2 z3 z4 z5 z6
    obtain ⟨w2, hw2, c2, b2⟩ := news1 wr (.cells #[.int .i64 x.n, .int .i64 x.s, .string x.p, .int .i64 x.k, .int .i64 x.m, .slice x.A x.l x.c, .slice x.B x.bl x.bc] 40)
    have W2 := h_ hw2
    have RO2 := h_ (RO.out.chg c2 (by simp))
    have RE2 := h_ ((RE.out.chg c2 (by simp)).mono c2.size)
    have RS2 : Hid (g + 1 ≤ w2.heap.size) := h_ (Nat.le_trans RS.out c2.size)
    have RC2 := h_ (RC.out.trans c2)
    obtain ⟨y0, y1, y2, y3, y4, y5, y6⟩ := ce7 b2
    clear hw2 c2 b2 RO RE RS RC
    rw [← W2.out]
    generalize wr.heap.size = s2 at *
    clear W2; go_wp2_with fail; clear y0 y1 y2 y3 y4 y5 y6
    refine (frev_any w2 x e (RX.out.chg RC2.out) EQ.out).mono ?_
    rintro r w3 ⟨A', c', B', d', rfl, hR, hA, hB, hnA, hnB, hne, hc⟩
    obtain ⟨X, hX⟩ : ∃ X : EvT, X = ⟨x.n, x.s, x.p, x.k, x.m, A', x.l, c', B', x.bl, d'⟩ := ⟨_, rfl⟩
    rw [← hX] at hR
    have fX : X.A = A' ∧ X.B = B' ∧ X.c = c' ∧ X.bc = d' := by rw [hX]; exact ⟨rfl, rfl, rfl, rfl⟩
    have EX : Hid (Value.agg #[.int .i64 x.n, .int .i64 x.s, .string x.p, .int .i64 x.k, .int .i64 x.m, .slice A' x.l c', .slice B' x.bl d'] = .agg #[.int .i64 X.n, .int .i64 X.s, .string X.p, .int .i64 X.k, .int .i64 X.m, .slice X.A X.l X.c, .slice X.B X.bl X.bc]) := h_ (by rw [hX])
    have hsz := hc.size
    have RE3 : Hid (OwnEs w3 g w3.heap.size (some ⟨g, 0, none⟩) (ys ++ [X]) (es.take (k + 1))) := h_ (by
     rw [ET.out]
     refine (RE2.out.chg hc (by simp)).snoc ⟨by have := RS2.out; omega, hsz⟩ hR (by rw [fX.1, fX.2.2.1]; exact hA) (by rw [fX.2.1, fX.2.2.2]; exact hB) (fun a ha => ?_) (fun a b ha hb => hne a b (by rw [← fX.1]; exact ha) (by rw [← fX.2.1]; exact hb))
     have lo : w2.heap.size ≤ a.block ∧ a.block < w3.heap.size := by
      rcases ha with q | q
      ·
       rw [fX.1] at q; exact ⟨hnA a q, hA.lt a q⟩
      ·
       rw [fX.2.1] at q; exact ⟨hnB a q, hB.lt_ a q⟩
     refine ⟨lo.1, lo.2, fun b hb e => ?_⟩
     cases hb
     have e : a.block = g := e
     have := RS2.out
     have := lo.1
     omega)
    have RO3 := h_ (RO2.out.chg hc (by simp))
    have RS3 : Hid (g + 1 ≤ w3.heap.size) := h_ (Nat.le_trans RS2.out hsz)
    have RC3 := h_ (RC2.out.trans hc)
    rw [EX.out]
    clear hR hA hB hnA hnB hne hc hX fX EX hsz RO2 RE2 RS2 RC2 EQ RX ET
    have kz : (ys ++ List.replicate (xs.length - k) evTy.z)[k]? = some evTy.z := by
     rw [List.getElem?_append_right (by rw [YL.out]; exact Nat.le_refl _), YL.out, Nat.sub_self, List.getElem?_replicate]
     simp
     omega
    obtain ⟨z0, z1, z2, z3, z4, z5, z6⟩ := evCells RO3.out.reads kz
    rw [Nat.zero_add] at z0 z1 z2 z3 z4 z5 z6
    have F3 : ∀ j, w3.frozen? ⟨g, j, none⟩ = false := fun j => by
     rcases RO3.out with ⟨h, _⟩ | ⟨g', full, e, hg, _⟩
     ·
      cases h
     ·
      cases e; exact free_of hg j
    have f0 := F3 (k * 7)
    have f1 := F3 (k * 7 + 1)
    have f2 := F3 (k * 7 + 2)
    have f3 := F3 (k * 7 + 3)
    have f4 := F3 (k * 7 + 4)
    have f5 := F3 (k * 7 + 5)
    have f6 := F3 (k * 7 + 6)
    have KZ := h_ kz
    clear kz F3
    have RO4 := h_ (RO3.out.set7 k _ X KZ.out)
    have C4 := h_ ((Chg.refl [g] w3).set7 (g := g) (.inl (by simp)) (k * 7) (.int .i64 X.n) (.int .i64 X.s) (.string X.p) (.int .i64 X.k) (.int .i64 X.m) (.slice X.A X.l X.c) (.slice X.B X.bl X.bc))
    have RC4 := h_ (RC3.out.set7 (g := g) (.inr (by rw [HG.out]; exact Nat.le_refl _)) (k * 7) (.int .i64 X.n) (.int .i64 X.s) (.string X.p) (.int .i64 X.k) (.int .i64 X.m) (.slice X.A X.l X.c) (.slice X.B X.bl X.bc))
    go_upto_region 8 with fail
    clear z0 z1 z2 z3 z4 z5 z6 f0 f1 f2 f3 f4 f5 f6
    generalize (((((((w3.setCell ⟨g, k * 7, none⟩ (.int .i64 X.n)).setCell ⟨g, k * 7 + 1, none⟩ (.int .i64 X.s)).setCell ⟨g, k * 7 + 2, none⟩ (.string X.p)).setCell ⟨g, k * 7 + 3, none⟩ (.int .i64 X.k)).setCell ⟨g, k * 7 + 4, none⟩ (.int .i64 X.m)).setCell ⟨g, k * 7 + 5, none⟩ (.slice X.A X.l X.c)).setCell ⟨g, k * 7 + 6, none⟩ (.slice X.B X.bl X.bc)) = w4 at *
    have SZ4 := C4.out.size
    have RE4 : Hid (OwnEs w4 g w4.heap.size (some ⟨g, 0, none⟩) (ys ++ [X]) (es.take (k + 1))) := h_ ((RE3.out.chg C4.out (fun i hi _ => ⟨⟨g, 0, none⟩, rfl, by simp at hi; exact hi.symm⟩)).mono SZ4)
    have RS4 : Hid (g + 1 ≤ w4.heap.size) := h_ (Nat.le_trans RS3.out SZ4)
    have SET : Hid ((ys ++ List.replicate (xs.length - k) evTy.z).set k X = (ys ++ [X]) ++ List.replicate (xs.length - (k + 1)) evTy.z) := h_ (by
     have hr : xs.length - k = (xs.length - (k + 1)) + 1 := by omega
     rw [hr, List.replicate_succ, List.set_append_right _ _ (by rw [YL.out]; exact Nat.le_refl _), YL.out, Nat.sub_self]
     simp)
    rw [SET.out] at RO4
    clear SZ4 C4 RC3 RE3 RO3 RS3 KZ SET; go_wp2; go_round
    case rel => exact ⟨k + 1, ys ++ [X], by omega, by simp [YL.out], by go_num, RO4, RE4, RS4, RC4⟩
    case measure => simp [RowKit.intOf]; omega
   ·
    obtain rfl : k = xs.length := by omega
    have i1 : ¬ (xs.length : Int) < (xs.length : Int) := by omega
    have ET : es.take xs.length = es := by rw [HX.out.1]; exact List.take_length
    rw [ET, HG.out.symm] at RE
    rw [Nat.sub_self, List.replicate_zero, List.append_nil] at RO
    have YL := h_ hyl
    clear hyl ET; go_wp2; go_ret
    refine ⟨some ⟨g, 0, none⟩, xs.length, ys, by rw [YL.out]; rfl, YL.out, ⟨RO.out, fun a ha => ?_, ?_⟩, RC.out⟩
    ·
     cases ha
     exact ⟨by rw [HG.out]; exact Nat.le_refl _, RS.out⟩
    ·
     have := RE.out
     rw [HG.out] at this ⊢
     exact this
set_option maxRecDepth 100000 in
theorem frevents_any (w : World) (A : Option Addr) (c : Nat) (xs : List EvT) (es : List EvP) (h : RdK evTy w A xs.length xs) (hx : EvsR w xs es) (hn : xs.length ≤ 100000) (hq : ∀ e ∈ es, e.b.length ≤ 140737488351232 ∧ e.q.length ≤ 100000) :
  Calls Tryz.prog 61 #[.slice A xs.length c] w fun r w' => ∃ (A' : Option Addr) (c' : Nat) (ys : List EvT), r = .returned (.slice A' ys.length c') ∧ ys.length = xs.length ∧ EsF w' w.heap.size w'.heap.size A' c' ys es ∧ Chg [] w w' := by
 have CC := h_ (frlist_any w A c xs es h hx hn hq)
 clear h hx hn hq
 go_enter Tryz.func61, Tryz.ntmps61
 go_wp2_with fail
 refine CC.out.mono ?_
 rintro r w2 ⟨A', c', ys, rfl, hl, he, hc⟩
 have P := h_ (And.intro hl (And.intro he hc))
 clear CC hl he hc; go_wp2; go_ret
 exact ⟨A', c', ys, rfl, P.out.1, P.out.2.1, P.out.2.2⟩
end
section
open Go.RowKit Go.Lib

def ShTo (es : List EvP) (k : Nat) : Prop := (∀ e ∈ es.take k, chkEv e = 0 ∧ ∀ f, es[0]? = some f → e.p = f.p) ∧ (es.take k).Pairwise LtEv
theorem shTo_zero (es : List EvP) : ShTo es 0 := ⟨fun e h => by simp at h, by simp⟩
theorem shE_no {es : List EvP} (h : ¬ ShOk es) : shE es = 2 := if_neg h
theorem shE_yes {es : List EvP} (h : ShOk es) : shE es = 0 := if_pos h
theorem sh_no_chk {es : List EvP} {k : Nat} {e : EvP} (he : es[k]? = some e) (h : chkEv e ≠ 0) : shE es = 2 := shE_no (fun q => h (q.1 e (List.mem_of_getElem? he)))
theorem sh_no_path {es : List EvP} {k j : Nat} {e f : EvP} (he : es[k]? = some e) (hf : es[j]? = some f) (h : ¬ e.p = f.p) : shE es = 2 := shE_no (fun q => h (q.2.1 e (List.mem_of_getElem? he) f (List.mem_of_getElem? hf)))
theorem sh_no_lt {es : List EvP} {k j : Nat} {e f : EvP} (he : es[k]? = some e) (hf : es[j]? = some f) (hj : j < k) (h : ¬ LtEv f e) : shE es = 2 := shE_no (fun q => by
 obtain ⟨l1, e1⟩ := List.getElem?_eq_some_iff.1 he
 obtain ⟨l2, e2⟩ := List.getElem?_eq_some_iff.1 hf
 have := List.pairwise_iff_getElem.1 q.2.2.1 j k l2 l1 hj
 rw [e1, e2] at this
 exact h this)
theorem sh_no_ahead {es : List EvP} {k : Nat} {e : EvP} (he : es[k]? = some e) (h : es.any (fun x => aheadP e x) = true) : shE es = 2 := shE_no (fun q => by
 obtain ⟨x, hx, ha⟩ := List.any_eq_true.1 h
 have := q.2.2.2 e (List.mem_of_getElem? he) x hx
 rw [this] at ha
 cases ha)
theorem shTo_next {es : List EvP} {k : Nat} {e : EvP} (h : ShTo es k) (he : es[k]? = some e) (hc : chkEv e = 0) (hp : ∀ f, es[0]? = some f → e.p = f.p) (hl : k = 0 ∨ ∀ d, es[k - 1]? = some d → LtEv d e) : ShTo es (k + 1) := by
 have et : es.take (k + 1) = es.take k ++ [e] := by rw [List.take_add_one, he]; rfl
 refine ⟨fun x hx => ?_, ?_⟩
 ·
  rw [et] at hx
  rcases List.mem_append.1 hx with q | q
  ·
   exact h.1 x q
  ·
   simp at q; subst q; exact ⟨hc, hp⟩
 ·
  rw [et, List.pairwise_append]
  refine ⟨h.2, List.pairwise_singleton _ _, fun x hx y hy => ?_⟩
  simp at hy
  subst hy
  rcases hl with rfl | hl
  ·
   simp at hx
  ·
   have hk := (List.getElem?_eq_some_iff.1 he).1
   obtain ⟨i, hi⟩ := List.getElem?_of_mem hx
   have hik := (List.getElem?_eq_some_iff.1 hi).1
   rw [List.length_take] at hik
   by_cases k0 : k = 0
   ·
    subst k0; simp at hx
   ·
    obtain ⟨d, hd⟩ : ∃ d, es[k - 1]? = some d := ⟨_, List.getElem?_eq_getElem (by omega)⟩
    have hde := hl d hd
    by_cases q : i = k - 1
    ·
     subst q
     rw [List.getElem?_take, if_pos (by omega), hd] at hi
     cases hi
     exact hde
    ·
     have hd2 : (es.take k)[k - 1]? = some d := by rw [List.getElem?_take, if_pos (by omega)]; exact hd
     obtain ⟨l1, e1⟩ := List.getElem?_eq_some_iff.1 hi
     obtain ⟨l2, e2⟩ := List.getElem?_eq_some_iff.1 hd2
     have := List.pairwise_iff_getElem.1 h.2 i (k - 1) l1 l2 (by omega)
     rw [e1, e2] at this
     exact this.tr hde
theorem sh_done {es : List EvP} (h : ShTo es es.length) (ha : ∀ e ∈ es, es.any (fun x => aheadP e x) = false) : shE es = 0 := by
 have et : es.take es.length = es := List.take_length
 unfold ShTo at h
 rw [et] at h
 refine shE_yes ⟨fun e he => (h.1 e he).1, fun e he f hf => ?_, h.2, fun e he f hf => ?_⟩
 ·
  obtain ⟨d, hd⟩ : ∃ d, es[0]? = some d := ⟨_, List.getElem?_eq_getElem (List.length_pos_of_mem he)⟩
  rw [(h.1 e he).2 d hd, (h.1 f hf).2 d hd]
 ·
  have := List.any_eq_false.1 (ha e he) f hf
  simpa using this
end
section
open Go.RowKit Go.Lib


theorem strOf_lists (l : List UInt8) : (strOf l).toList = l := by rw [ByteArray.toList_eq]; rfl
theorem strOf_ne3s {a b : List UInt8} (h : a ≠ b) : ¬ (strOf a).toList = (strOf b).toList := by rw [strOf_lists, strOf_lists]; exact h
set_option maxRecDepth 100000 in
theorem shcheck_any (w : World) (A : Option Addr) (c : Nat) (xs : List EvT) (es : List EvP) (h : RdK evTy w A xs.length xs) (hx : EvsR w xs es) (hn : xs.length ≤ 100000) (hs : ∀ e ∈ es, EvSm e) :
  Calls Tryz.prog 65 #[.slice A xs.length c] w fun r w' => r = .returned (.int .i64 (shE es)) ∧ Chg [] w w' := by

 have HX := h_ hx
 have HN := h_ hn
 have HS := h_ hs
 have HA := h_ h
 clear h hx hn hs
 go_enter Tryz.func65, Tryz.ntmps65
 go_wp2
 go_loopw [9] (fun v9 wr => ∃ (k : Nat), k ≤ xs.length ∧ v9 = .int .i64 k ∧ Hid (ShTo es k) ∧ Hid (Chg [] w wr)) (fun v9 _ => xs.length - (RowKit.intOf v9).toNat)
 case atStart => exact ⟨0, Nat.zero_le _, rfl, h_ (shTo_zero _), Chg.refl _ _⟩
 case round =>
  obtain ⟨k, hk, rfl, ST, PC⟩ := hrel
  have j0 : (0 : Int) ≤ (k : Int) := by omega
  by_cases hlt : k < xs.length
  ·
   have j1 : (k : Int) < (xs.length : Int) := by omega
   have j3 : IntKind.i64.wrap ((k : Int) + 1) = (k : Int) + 1 := IntWalk.i64_in _ (by have := HN.out; omega)
   obtain ⟨g3, o3, eA, _⟩ := HA.out.line (by omega)
   subst eA
   obtain ⟨x, e, ex, ee, rx⟩ := HX.out.at_ hlt
   obtain ⟨y0, f0, ey0, ef0, ry0⟩ := HX.out.at_ (show 0 < xs.length by omega)
   obtain ⟨z0, z1, z2, z3, z4, z5, z6⟩ := evCells (HA.out.chg PC.out (by simp)) ex
   have EX := h_ ex
   have EE := h_ ee
   have RX1 := h_ rx
   have EF0 := h_ ef0
   have XP : Hid (x.p = strOf e.p ∧ y0.p = strOf f0.p) := h_ ⟨rx.p, ry0.p⟩
   have EY0 := h_ ey0
   have ES1 := h_ (HS.out e (List.mem_of_getElem? ee))
   clear ex ee rx ey0 ef0 ry0
   obtain ⟨w5, hw5, c5, b5⟩ := news1 wr (.cells #[.int .i64 x.n, .int .i64 x.s, .string x.p, .int .i64 x.k, .int .i64 x.m, .slice x.A x.l x.c, .slice x.B x.bl x.bc] 40)
   have W5 := h_ hw5
   have B5 := h_ b5
   replace PC := h_ (PC.out.trans c5)
   clear hw5 c5 b5
   go_upto_region 4 with fail
   rw [← W5.out]
   generalize wr.heap.size = g6 at *
   clear W5 z0 z1 z2 z3 z4 z5 z6
   have HB : Hid (∀ w', Chg [] w5 w' → (w'.cell? ⟨g6, 0, none⟩ = some (.int .i64 x.n) ∧ w'.cell? ⟨g6, 1, none⟩ = some (.int .i64 x.s) ∧ w'.cell? ⟨g6, 2, none⟩ = some (.string x.p) ∧ w'.cell? ⟨g6, 3, none⟩ = some (.int .i64 x.k) ∧ w'.cell? ⟨g6, 4, none⟩ = some (.int .i64 x.m) ∧ w'.cell? ⟨g6, 5, none⟩ = some (.slice x.A x.l x.c) ∧ w'.cell? ⟨g6, 6, none⟩ = some (.slice x.B x.bl x.bc))) := h_ (fun w' hc => by
    have b := hc.at_ B5.out (by simp)
    exact ⟨cell_of b 0, cell_of b 1, cell_of b 2, cell_of b 3, cell_of b 4, cell_of b 5, cell_of b 6⟩)
   have HR : Hid (∀ w', Chg [] w5 w' → ∀ y, xs[k - 1]? = some y → w'.cell? ⟨g3, o3 + (k - 1) * 7, none⟩ = some (.int .i64 y.n) ∧ w'.cell? ⟨g3, o3 + (k - 1) * 7 + 1, none⟩ = some (.int .i64 y.s)) := h_ (fun w' hc y hy => by
    have q := evCells (HA.out.chg (PC.out.trans hc) (by simp)) hy
    exact ⟨q.1, q.2.1⟩)
   have H0 : Hid (∀ w', Chg [] w5 w' → w'.cell? ⟨g3, o3 + 2, none⟩ = some (.string y0.p)) := h_ (fun w' hc => by
    have q := evCells (HA.out.chg (PC.out.trans hc) (by simp)) EY0.out
    rw [Nat.zero_mul, Nat.add_zero] at q
    exact q.2.2.1)
   have CHK : Hid (∀ w', Chg [] w5 w' → Calls Tryz.prog 56 #[.agg #[.int .i64 x.n, .int .i64 x.s, .string x.p, .int .i64 x.k, .int .i64 x.m, .slice x.A x.l x.c, .slice x.B x.bl x.bc]] w' fun r w2 => r = .returned (.int .i64 (chkEv e)) ∧ Chg [] w' w2) := h_ (fun w' hc => evcheck_any w' x e (RX1.out.chg (PC.out.trans hc)) ES1.out)
   rcases chkEv_two e with e1 | e1
   rotate_left
   ·
    have NO : Hid (shE es = 2) := h_ (sh_no_chk EE.out (by omega))
    refine wp_region_held_drew (S := fun w' => Chg [] w5 w') (by kernel_rfl) (Chg.refl [] w5).drew (fun hHeld => ?_)
    refine sy 0 14 rfl rfl ?_ (hy := by (intro w hSw; (try dsimp only at hSw); have hq := HB.out _ hSw; obtain ⟨q0, q1, q2, q3, q4, q5, q6⟩ := hq; go_simp; try with_reducible rfl))
    try simp only [Act.put, sA, s0, s1]
    refine on1 1 rfl (fun K hK => ?_)
    go_simp
    refine (CHK.out _ hHeld).mono ?_
    rintro r w9 ⟨rfl, hc⟩
    rw [e1]
    have C9 := h_ (hHeld.trans hc)
    clear hc hHeld
    refine hK.out _ _ C9.out (fun hHeld => ?_)
    clear hK K; try simp only [Act.put, sA, s0, s1]
    refine sy 2 16 rfl rfl ?_; try simp only [Act.put, sA, s0, s1]
    refine sy 3 17 rfl rfl ?_; try simp only [Act.put, sA, s0, s1]
    refine sn 4 18 rfl rfl ?_; try simp only [Act.put, sA, s0, s1]
    refine sn 5 19 rfl rfl ?_; try simp only [Act.put, sA, s0, s1]
    refine sn 6 20 rfl rfl ?_; try simp only [Act.put, sA, s0, s1]
    refine sn 7 21 rfl rfl ?_; try simp only [Act.put, sA, s0, s1]
    refine sn 8 22 rfl rfl ?_; try simp only [Act.put, sA, s0, s1]
    refine sn 9 23 rfl rfl ?_; try simp only [Act.put, sA, s0, s1]
    refine sn 10 24 rfl rfl ?_; try simp only [Act.put, sA, s0, s1]
    refine sn 11 25 rfl rfl ?_; try simp only [Act.put, sA, s0, s1]
    refine sn 12 26 rfl rfl ?_; try simp only [Act.put, sA, s0, s1]
    refine sn 13 27 rfl rfl ?_; try simp only [Act.put, sA, s0, s1]
    refine sn 14 28 rfl rfl ?_; try simp only [Act.put, sA, s0, s1]
    refine sn 15 29 rfl rfl ?_; try simp only [Act.put, sA, s0, s1]
    refine sn 16 30 rfl rfl ?_; try simp only [Act.put, sA, s0, s1]
    refine sn 17 31 rfl rfl ?_; try simp only [Act.put, sA, s0, s1]
    refine sn 18 32 rfl rfl ?_; try simp only [Act.put, sA, s0, s1]
    refine sn 19 33 rfl rfl ?_; try simp only [Act.put, sA, s0, s1]
    refine sn 20 34 rfl rfl ?_; try simp only [Act.put, sA, s0, s1]
    refine sn 21 35 rfl rfl ?_; try simp only [Act.put, sA, s0, s1]
    refine sn 22 36 rfl rfl ?_; try simp only [Act.put, sA, s0, s1]
    refine sn 23 37 rfl rfl ?_; try simp only [Act.put, sA, s0, s1]
    refine sn 24 38 rfl rfl ?_; try simp only [Act.put, sA, s0, s1]
    refine sn 25 39 rfl rfl ?_; try simp only [Act.put, sA, s0, s1]
    refine sn 26 40 rfl rfl ?_; try simp only [Act.put, sA, s0, s1]
    refine sy 27 41 rfl rfl ?_; try simp only [Act.put, sA, s0, s1]
    refine wpAnyH_done (by kernel_rfl) ?_ _; clear hHeld HB HR H0 CHK; go_wp2; go_ret
    rw [NO.out]
    exact ⟨rfl, PC.out.trans C9.out⟩
   by_cases k0 : k = 0
   ·
    subst k0
    have OT : Hid (ShTo es (0 + 1)) := h_ (shTo_next ST.out EE.out e1 (fun f hf => by rw [EE.out] at hf; cases hf; rfl) (.inl rfl))
    refine wp_region_held_drew (S := fun w' => Chg [] w5 w') (by kernel_rfl) (Chg.refl [] w5).drew (fun hHeld => ?_)
    refine sy 0 14 rfl rfl ?_ (hy := by (intro w hSw; (try dsimp only at hSw); have hq := HB.out _ hSw; obtain ⟨q0, q1, q2, q3, q4, q5, q6⟩ := hq; go_simp; try with_reducible rfl))
    try simp only [Act.put, sA, s0, s1]
    refine on1 1 rfl (fun K hK => ?_)
    go_simp
    refine (CHK.out _ hHeld).mono ?_
    rintro r w9 ⟨rfl, hc⟩
    rw [e1]
    have C9 := h_ (hHeld.trans hc)
    clear hc hHeld
    refine hK.out _ _ C9.out (fun hHeld => ?_)
    clear hK K; try simp only [Act.put, sA, s0, s1]
    refine sy 2 16 rfl rfl ?_; try simp only [Act.put, sA, s0, s1]
    refine sy 3 17 rfl rfl ?_; try simp only [Act.put, sA, s0, s1]
    refine sy 4 18 rfl rfl ?_; try simp only [Act.put, sA, s0, s1]
    refine sy 5 19 rfl rfl ?_; try simp only [Act.put, sA, s0, s1]
    refine sy 6 20 rfl rfl ?_; try simp only [Act.put, sA, s0, s1]
    refine sn 7 21 rfl rfl ?_; try simp only [Act.put, sA, s0, s1]
    refine sn 8 22 rfl rfl ?_; try simp only [Act.put, sA, s0, s1]
    refine sn 9 23 rfl rfl ?_; try simp only [Act.put, sA, s0, s1]
    refine sn 10 24 rfl rfl ?_; try simp only [Act.put, sA, s0, s1]
    refine sn 11 25 rfl rfl ?_; try simp only [Act.put, sA, s0, s1]
    refine sn 12 26 rfl rfl ?_; try simp only [Act.put, sA, s0, s1]
    refine sn 13 27 rfl rfl ?_; try simp only [Act.put, sA, s0, s1]
    refine sn 14 28 rfl rfl ?_; try simp only [Act.put, sA, s0, s1]
    refine sn 15 29 rfl rfl ?_; try simp only [Act.put, sA, s0, s1]
    refine sn 16 30 rfl rfl ?_; try simp only [Act.put, sA, s0, s1]
    refine sn 17 31 rfl rfl ?_; try simp only [Act.put, sA, s0, s1]
    refine sn 18 32 rfl rfl ?_; try simp only [Act.put, sA, s0, s1]
    refine sn 19 33 rfl rfl ?_; try simp only [Act.put, sA, s0, s1]
    refine sn 20 34 rfl rfl ?_; try simp only [Act.put, sA, s0, s1]
    refine sn 21 35 rfl rfl ?_; try simp only [Act.put, sA, s0, s1]
    refine sn 22 36 rfl rfl ?_; try simp only [Act.put, sA, s0, s1]
    refine sn 23 37 rfl rfl ?_; try simp only [Act.put, sA, s0, s1]
    refine sn 24 38 rfl rfl ?_; try simp only [Act.put, sA, s0, s1]
    refine sn 25 39 rfl rfl ?_; try simp only [Act.put, sA, s0, s1]
    refine sy 26 40 rfl rfl ?_; try simp only [Act.put, sA, s0, s1]
    refine sy 27 41 rfl rfl ?_; try simp only [Act.put, sA, s0, s1]
    refine wpAnyH_done (by kernel_rfl) ?_ _; clear hHeld HB HR H0 CHK
    have RC9 := h_ (PC.out.trans C9.out)
    go_wp2; go_round
    case rel => exact ⟨0 + 1, by omega, by go_num, OT, RC9⟩
    case measure => simp [RowKit.intOf]; omega
   obtain ⟨y, f, ey, ef, ry⟩ := HX.out.at_ (show k - 1 < xs.length by omega)
   have EY := h_ ey
   have EF := h_ ef
   have YD : Hid (y.n = f.n ∧ y.s = f.s ∧ x.n = e.n ∧ x.s = e.s) := h_ ⟨ry.n, ry.s, RX1.out.n, RX1.out.s⟩
   clear ey ef ry
   have l0 : (0 : Int) < (xs.length : Int) := by omega
   have l1 : 0 < xs.length := by omega
   have g1 : (0 : Int) < (k : Int) := by omega
   have g2 : 0 < k := by omega
   have g3' : decide ((0 : Int) < (k : Int)) = true := by simp; omega
   have g4 : decide (0 < k) = true := by simp; omega
   have w1' : IntKind.i64.wrap ((k : Int) - 1) = ((k - 1 : Nat) : Int) := by rw [IntWalk.i64_in _ (by have := HN.out; omega)]; omega
   have g5 : (0 : Int) ≤ ((k - 1 : Nat) : Int) := by omega
   have g6' : ((k - 1 : Nat) : Int) < (xs.length : Int) := by omega
   have g7 : k - 1 < xs.length := by omega
   by_cases hp : e.p = f0.p
   rotate_left
   ·
    have NO : Hid (shE es = 2) := h_ (sh_no_path EE.out EF0.out hp)
    have p1' : ((x.p == y0.p) : Bool) = false := by rw [XP.out.1, XP.out.2]; exact strOf_ne hp
    have p2' : ¬ x.p = y0.p := by rw [XP.out.1, XP.out.2]; exact strOf_ne2 hp
    have p3' : ¬ x.p.toList = y0.p.toList := by rw [XP.out.1, XP.out.2]; exact strOf_ne3s hp
    have p4' : ((x.p.toList == y0.p.toList) : Bool) = false := by simpa using p3' 
    refine wp_region_held_drew (S := fun w' => Chg [] w5 w') (by kernel_rfl) (Chg.refl [] w5).drew (fun hHeld => ?_)
    refine sy 0 14 rfl rfl ?_ (hy := by (intro w hSw; (try dsimp only at hSw); have hq := HB.out _ hSw; obtain ⟨q0, q1, q2, q3, q4, q5, q6⟩ := hq; go_simp; try with_reducible rfl))
    try simp only [Act.put, sA, s0, s1]
    refine on1 1 rfl (fun K hK => ?_)
    go_simp
    refine (CHK.out _ hHeld).mono ?_
    rintro r w9 ⟨rfl, hc⟩
    rw [e1]
    have C9 := h_ (hHeld.trans hc)
    clear hc hHeld
    refine hK.out _ _ C9.out (fun hHeld => ?_)
    clear hK K; try simp only [Act.put, sA, s0, s1]
    refine sy 2 16 rfl rfl ?_; try simp only [Act.put, sA, s0, s1]
    refine sy 3 17 rfl rfl ?_; try simp only [Act.put, sA, s0, s1]
    refine sy 4 18 rfl rfl ?_; try simp only [Act.put, sA, s0, s1]
    refine sy 5 19 rfl rfl ?_; try simp only [Act.put, sA, s0, s1]
    refine sy 6 20 rfl rfl ?_; try simp only [Act.put, sA, s0, s1]
    refine sy 7 21 rfl rfl ?_; try simp only [Act.put, sA, s0, s1]
    refine sy 8 22 rfl rfl ?_ (hy := by (intro w hSw; (try dsimp only at hSw); have hq := HB.out _ hSw; obtain ⟨q0, q1, q2, q3, q4, q5, q6⟩ := hq; go_simp; try with_reducible rfl))
    try simp only [Act.put, sA, s0, s1]
    refine sy 9 23 rfl rfl ?_; try simp only [Act.put, sA, s0, s1]
    refine sy 10 24 rfl rfl ?_; try simp only [Act.put, sA, s0, s1]
    refine sy 11 25 rfl rfl ?_; try simp only [Act.put, sA, s0, s1]
    refine sy 12 26 rfl rfl ?_ (hy := by (intro w hSw; (try dsimp only at hSw); have hq := H0.out _ hSw; go_simp; try with_reducible rfl))
    try simp only [Act.put, sA, s0, s1]
    refine sy 13 27 rfl rfl ?_; try simp only [Act.put, sA, s0, s1]
    refine sy 14 28 rfl rfl ?_; try simp only [Act.put, sA, s0, s1]
    refine sn 15 29 rfl rfl ?_; try simp only [Act.put, sA, s0, s1]
    refine sn 16 30 rfl rfl ?_; try simp only [Act.put, sA, s0, s1]
    refine sn 17 31 rfl rfl ?_; try simp only [Act.put, sA, s0, s1]
    refine sn 18 32 rfl rfl ?_; try simp only [Act.put, sA, s0, s1]
    refine sn 19 33 rfl rfl ?_; try simp only [Act.put, sA, s0, s1]
    refine sn 20 34 rfl rfl ?_; try simp only [Act.put, sA, s0, s1]
    refine sn 21 35 rfl rfl ?_; try simp only [Act.put, sA, s0, s1]
    refine sn 22 36 rfl rfl ?_; try simp only [Act.put, sA, s0, s1]
    refine sn 23 37 rfl rfl ?_; try simp only [Act.put, sA, s0, s1]
    refine sn 24 38 rfl rfl ?_; try simp only [Act.put, sA, s0, s1]
    refine sy 25 39 rfl rfl ?_; try simp only [Act.put, sA, s0, s1]
    refine sy 26 40 rfl rfl ?_; try simp only [Act.put, sA, s0, s1]
    refine sy 27 41 rfl rfl ?_; try simp only [Act.put, sA, s0, s1]
    refine wpAnyH_done (by kernel_rfl) ?_ _; clear hHeld HB HR H0 CHK; go_wp2; go_ret
    rw [NO.out]
    exact ⟨rfl, PC.out.trans C9.out⟩
   have HP := h_ hp
   have p1' : ((x.p == y0.p) : Bool) = true := by rw [XP.out.1, XP.out.2, hp]; show ((f0.p.toArray == f0.p.toArray) : Bool) = true; simp
   have p4' : ((x.p.toList == y0.p.toList) : Bool) = true := by rw [XP.out.1, XP.out.2, hp]; simp
   clear hp
   by_cases hl : LtD y.n y.s x.n x.s
   rotate_left
   ·
    have NO : Hid (shE es = 2) := h_ (sh_no_lt EE.out EF.out (by omega) (fun q => hl (by rw [YD.out.1, YD.out.2.1, YD.out.2.2.1, YD.out.2.2.2]; exact q)))
    have dl := decide_eq_false hl
    clear hl
    refine wp_region_held_drew (S := fun w' => Chg [] w5 w') (by kernel_rfl) (Chg.refl [] w5).drew (fun hHeld => ?_)
    refine sy 0 14 rfl rfl ?_ (hy := by (intro w hSw; (try dsimp only at hSw); have hq := HB.out _ hSw; obtain ⟨q0, q1, q2, q3, q4, q5, q6⟩ := hq; go_simp; try with_reducible rfl))
    try simp only [Act.put, sA, s0, s1]
    refine on1 1 rfl (fun K hK => ?_)
    go_simp
    refine (CHK.out _ hHeld).mono ?_
    rintro r w9 ⟨rfl, hc⟩
    rw [e1]
    have C9 := h_ (hHeld.trans hc)
    clear hc hHeld
    refine hK.out _ _ C9.out (fun hHeld => ?_)
    clear hK K; try simp only [Act.put, sA, s0, s1]
    refine sy 2 16 rfl rfl ?_; try simp only [Act.put, sA, s0, s1]
    refine sy 3 17 rfl rfl ?_; try simp only [Act.put, sA, s0, s1]
    refine sy 4 18 rfl rfl ?_; try simp only [Act.put, sA, s0, s1]
    refine sy 5 19 rfl rfl ?_; try simp only [Act.put, sA, s0, s1]
    refine sy 6 20 rfl rfl ?_; try simp only [Act.put, sA, s0, s1]
    refine sy 7 21 rfl rfl ?_; try simp only [Act.put, sA, s0, s1]
    refine sy 8 22 rfl rfl ?_ (hy := by (intro w hSw; (try dsimp only at hSw); have hq := HB.out _ hSw; obtain ⟨q0, q1, q2, q3, q4, q5, q6⟩ := hq; go_simp; try with_reducible rfl))
    try simp only [Act.put, sA, s0, s1]
    refine sy 9 23 rfl rfl ?_; try simp only [Act.put, sA, s0, s1]
    refine sy 10 24 rfl rfl ?_; try simp only [Act.put, sA, s0, s1]
    refine sy 11 25 rfl rfl ?_; try simp only [Act.put, sA, s0, s1]
    refine sy 12 26 rfl rfl ?_ (hy := by (intro w hSw; (try dsimp only at hSw); have hq := H0.out _ hSw; go_simp; try with_reducible rfl))
    try simp only [Act.put, sA, s0, s1]
    refine sy 13 27 rfl rfl ?_; try simp only [Act.put, sA, s0, s1]
    refine sy 14 28 rfl rfl ?_; try simp only [Act.put, sA, s0, s1]
    refine sy 15 29 rfl rfl ?_; try simp only [Act.put, sA, s0, s1]
    refine sy 16 30 rfl rfl ?_; try simp only [Act.put, sA, s0, s1]
    refine sy 17 31 rfl rfl ?_; try simp only [Act.put, sA, s0, s1]
    refine sy 18 32 rfl rfl ?_; try simp only [Act.put, sA, s0, s1]
    refine sy 19 33 rfl rfl ?_; try simp only [Act.put, sA, s0, s1]
    refine sy 20 34 rfl rfl ?_ (hy := by (intro w hSw; (try dsimp only at hSw); have hq := HR.out _ hSw y EY.out; obtain ⟨p0, p1⟩ := hq; go_simp; try with_reducible rfl))
    try simp only [Act.put, sA, s0, s1]
    refine sy 21 35 rfl rfl ?_; try simp only [Act.put, sA, s0, s1]
    refine sy 22 36 rfl rfl ?_ (hy := by (intro w hSw; (try dsimp only at hSw); have hq := HB.out _ hSw; obtain ⟨q0, q1, q2, q3, q4, q5, q6⟩ := hq; go_simp; try with_reducible rfl))
    try simp only [Act.put, sA, s0, s1]
    refine on1 23 rfl (fun K hK => ?_)
    go_simp
    refine (dless_any _ _ _ _ _).mono ?_
    rintro r w8 ⟨rfl, hc⟩
    rw [dl]
    have C8 := h_ (hHeld.trans hc)
    clear hc hHeld
    refine hK.out _ _ C8.out (fun hHeld => ?_)
    clear hK K; try simp only [Act.put, sA, s0, s1]
    refine sy 24 38 rfl rfl ?_; try simp only [Act.put, sA, s0, s1]
    refine sy 25 39 rfl rfl ?_; try simp only [Act.put, sA, s0, s1]
    refine sy 26 40 rfl rfl ?_; try simp only [Act.put, sA, s0, s1]
    refine sy 27 41 rfl rfl ?_; try simp only [Act.put, sA, s0, s1]
    refine wpAnyH_done (by kernel_rfl) ?_ _; clear hHeld HB HR H0 CHK; go_wp2; go_ret
    rw [NO.out]
    exact ⟨rfl, PC.out.trans C8.out⟩
   have OT : Hid (ShTo es (k + 1)) := h_ (shTo_next ST.out EE.out e1 (fun d hd => by rw [EF0.out] at hd; cases hd; exact HP.out) (.inr (fun d hd => by rw [EF.out] at hd; cases hd; unfold LtEv; rw [← YD.out.1, ← YD.out.2.1, ← YD.out.2.2.1, ← YD.out.2.2.2]; exact hl)))
   have dl := decide_eq_true hl
   clear hl
   refine wp_region_held_drew (S := fun w' => Chg [] w5 w') (by kernel_rfl) (Chg.refl [] w5).drew (fun hHeld => ?_)
   refine sy 0 14 rfl rfl ?_ (hy := by (intro w hSw; (try dsimp only at hSw); have hq := HB.out _ hSw; obtain ⟨q0, q1, q2, q3, q4, q5, q6⟩ := hq; go_simp; try with_reducible rfl))
   try simp only [Act.put, sA, s0, s1]
   refine on1 1 rfl (fun K hK => ?_)
   go_simp
   refine (CHK.out _ hHeld).mono ?_
   rintro r w9 ⟨rfl, hc⟩
   rw [e1]
   have C9 := h_ (hHeld.trans hc)
   clear hc hHeld
   refine hK.out _ _ C9.out (fun hHeld => ?_)
   clear hK K; try simp only [Act.put, sA, s0, s1]
   refine sy 2 16 rfl rfl ?_; try simp only [Act.put, sA, s0, s1]
   refine sy 3 17 rfl rfl ?_; try simp only [Act.put, sA, s0, s1]
   refine sy 4 18 rfl rfl ?_; try simp only [Act.put, sA, s0, s1]
   refine sy 5 19 rfl rfl ?_; try simp only [Act.put, sA, s0, s1]
   refine sy 6 20 rfl rfl ?_; try simp only [Act.put, sA, s0, s1]
   refine sy 7 21 rfl rfl ?_; try simp only [Act.put, sA, s0, s1]
   refine sy 8 22 rfl rfl ?_ (hy := by (intro w hSw; (try dsimp only at hSw); have hq := HB.out _ hSw; obtain ⟨q0, q1, q2, q3, q4, q5, q6⟩ := hq; go_simp; try with_reducible rfl))
   try simp only [Act.put, sA, s0, s1]
   refine sy 9 23 rfl rfl ?_; try simp only [Act.put, sA, s0, s1]
   refine sy 10 24 rfl rfl ?_; try simp only [Act.put, sA, s0, s1]
   refine sy 11 25 rfl rfl ?_; try simp only [Act.put, sA, s0, s1]
   refine sy 12 26 rfl rfl ?_ (hy := by (intro w hSw; (try dsimp only at hSw); have hq := H0.out _ hSw; go_simp; try with_reducible rfl))
   try simp only [Act.put, sA, s0, s1]
   refine sy 13 27 rfl rfl ?_; try simp only [Act.put, sA, s0, s1]
   refine sy 14 28 rfl rfl ?_; try simp only [Act.put, sA, s0, s1]
   refine sy 15 29 rfl rfl ?_; try simp only [Act.put, sA, s0, s1]
   refine sy 16 30 rfl rfl ?_; try simp only [Act.put, sA, s0, s1]
   refine sy 17 31 rfl rfl ?_; try simp only [Act.put, sA, s0, s1]
   refine sy 18 32 rfl rfl ?_; try simp only [Act.put, sA, s0, s1]
   refine sy 19 33 rfl rfl ?_; try simp only [Act.put, sA, s0, s1]
   refine sy 20 34 rfl rfl ?_ (hy := by (intro w hSw; (try dsimp only at hSw); have hq := HR.out _ hSw y EY.out; obtain ⟨p0, p1⟩ := hq; go_simp; try with_reducible rfl))
   try simp only [Act.put, sA, s0, s1]
   refine sy 21 35 rfl rfl ?_; try simp only [Act.put, sA, s0, s1]
   refine sy 22 36 rfl rfl ?_ (hy := by (intro w hSw; (try dsimp only at hSw); have hq := HB.out _ hSw; obtain ⟨q0, q1, q2, q3, q4, q5, q6⟩ := hq; go_simp; try with_reducible rfl))
   try simp only [Act.put, sA, s0, s1]
   refine on1 23 rfl (fun K hK => ?_)
   go_simp
   refine (dless_any _ _ _ _ _).mono ?_
   rintro r w8 ⟨rfl, hc⟩
   rw [dl]
   have C8 := h_ (hHeld.trans hc)
   clear hc hHeld
   refine hK.out _ _ C8.out (fun hHeld => ?_)
   clear hK K; try simp only [Act.put, sA, s0, s1]
   refine sy 24 38 rfl rfl ?_; try simp only [Act.put, sA, s0, s1]
   refine sy 25 39 rfl rfl ?_; try simp only [Act.put, sA, s0, s1]
   refine sy 26 40 rfl rfl ?_; try simp only [Act.put, sA, s0, s1]
   refine sy 27 41 rfl rfl ?_; try simp only [Act.put, sA, s0, s1]
   refine wpAnyH_done (by kernel_rfl) ?_ _; clear hHeld HB HR H0 CHK
   have RC9 := h_ (PC.out.trans C8.out)
   go_wp2; go_round
   case rel => exact ⟨k + 1, by omega, by go_num, OT, RC9⟩
   case measure => simp [RowKit.intOf]; omega
  ·
   obtain rfl : k = xs.length := by omega
   have j1 : ¬ (xs.length : Int) < (xs.length : Int) := by omega
   have SL : Hid (ShTo es es.length) := h_ (by rw [← HX.out.1]; exact ST.out)
   clear ST; go_wp2
   go_loopw [45] (fun v45 wr => ∃ (k : Nat), k ≤ xs.length ∧ v45 = .int .i64 k ∧ Hid (∀ e ∈ es.take k, es.any (fun x => aheadP e x) = false) ∧ Hid (Chg [] w wr)) (fun v45 _ => xs.length - (RowKit.intOf v45).toNat)
   case atStart => exact ⟨0, Nat.zero_le _, rfl, h_ (by simp), PC⟩
   case round =>
    obtain ⟨k, hk, rfl, NA, PD⟩ := hrel
    have i0 : (0 : Int) ≤ (k : Int) := by omega
    by_cases hlt : k < xs.length
    ·
     have i1 : (k : Int) < (xs.length : Int) := by omega
     have i3 : IntKind.i64.wrap ((k : Int) + 1) = (k : Int) + 1 := IntWalk.i64_in _ (by have := HN.out; omega)
     obtain ⟨g3, o3, eA, _⟩ := HA.out.line (by omega)
     subst eA
     obtain ⟨x, e, ex, ee, rx⟩ := HX.out.at_ hlt
     obtain ⟨z0, z1, z2, z3, z4, z5, z6⟩ := evCells (HA.out.chg PD.out (by simp)) ex
     have EE := h_ ee
     have RX1 := h_ rx
     have ES1 := h_ (HS.out e (List.mem_of_getElem? ee))
     clear ex ee rx
     obtain ⟨w5, hw5, c5, b5⟩ := news1 wr (.cells #[.int .i64 x.n, .int .i64 x.s, .string x.p, .int .i64 x.k, .int .i64 x.m, .slice x.A x.l x.c, .slice x.B x.bl x.bc] 40)
     have W5 := h_ hw5
     replace PD := h_ (PD.out.trans c5)
     obtain ⟨y0, y1, y2, y3, y4, y5, y6⟩ := ce7 b5
     clear hw5 c5 b5
     go_upto_region 10 with fail
     rw [← W5.out]
     generalize wr.heap.size = g6 at *
     clear W5 z0 z1 z2 z3 z4 z5 z6
     have CA := h_ (shahead_any w5 (some ⟨g3, o3, none⟩) c xs es x e (HA.out.chg PD.out (by simp)) (HX.out.chg PD.out) HN.out (RX1.out.chg PD.out) HS.out ES1.out)
     go_wp2_with fail; clear y0 y1 y2 y3 y4 y5 y6
     refine CA.out.mono ?_
     rintro r w7 ⟨rfl, hc⟩
     replace PD := h_ (PD.out.trans hc)
     clear hc CA
     rcases ha : es.any (fun x => aheadP e x) with _ | _
     ·
      have NA1 : Hid (∀ f ∈ es.take (k + 1), es.any (fun x => aheadP f x) = false) := h_ (fun f hf => by
       rw [List.take_add_one, EE.out] at hf
       rcases List.mem_append.1 hf with q | q
       ·
        exact NA.out f q
       ·
        simp at q; subst q; exact ha)
      clear ha NA; go_wp2; go_round
      case rel => exact ⟨k + 1, by omega, by go_num, NA1, PD⟩
      case measure => simp [RowKit.intOf]; omega
     ·
      have NO : Hid (shE es = 2) := h_ (sh_no_ahead EE.out ha)
      clear ha; go_wp2; go_ret
      rw [NO.out]
      exact ⟨rfl, PD.out⟩
    ·
     obtain rfl : k = xs.length := by omega
     have i1 : ¬ (xs.length : Int) < (xs.length : Int) := by omega
     have OK : Hid (shE es = 0) := h_ (sh_done SL.out (by
      have := NA.out
      rw [HX.out.1, List.take_length] at this
      exact this))
     clear NA; go_wp2; go_ret
     rw [OK.out]
     exact ⟨rfl, PD.out⟩
end
end Go.Proofs.YtehmchdhlhchjaaGreatDoor
