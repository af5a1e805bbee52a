/- The document's Check of an event. The document's Ahead. The document's Check of a shelf. The document's Less. -/
import Derived.Test.YtehmchdhlhchjaaGreatDoorZepd
import Derived.Test.YtehmchdhlhchjaaGreatDoorZepr
import Derived.Test.YtehmchdhlhchjaaGreatDoorZepz
import Derived.Test.YtehmchdhlhchjaaGreatDoorZepk
import Derived.Deep.RegionHeld3
import Derived.Test.YtehmchdhlhchjaaGreatDoorZepm
import Derived.Deep.Cut
import Derived.Test.YtehmchdhlhchjaaGreatDoorZepu
import Derived.BigQuiet
set_option linter.unusedSimpArgs false
set_option linter.unusedVariables false
set_option maxHeartbeats 32000000
namespace Go.Proofs.YtehmchdhlhchjaaGreatDoor
section
open Go.RowKit Go.Lib


set_option maxRecDepth 100000 in
theorem vecheck_0 (w : World) (x : EvT) (e : EvP) (h : EvR w x e) (hs : EvSm e) (hk : ∀ i, i < 0 → evOk e i) (hn : ¬ evOk e 0) :
  Calls Tryz.prog 124 #[.agg #[.int .i64 x.n, .int .i64 x.s, .string x.p, .int .i64 x.k, .int .i64 x.m, .slice x.A x.l x.c, .slice x.B x.bl x.bc]] w fun r w' => r = .returned (.int .i64 2) ∧ Chg [] w w' := by
 obtain ⟨w1, hw1, c1, b1⟩ := news1 w (.cells #[.int .i64 x.n, .int .i64 x.s, .string x.p, .int .i64 x.k, .int .i64 x.m, .slice x.A x.l x.c, .slice x.B x.bl x.bc] 40)
 have W1 := h_ hw1
 have HR := h_ (h.chg c1)
 have C := h_ c1
 have HS := h_ hs
 have k0 : Hid (¬ evOk e 0) := h_ hn
 have hxn := h.n
 have hxs := h.s
 have hxp := h.p
 have hxk := h.k
 have hxm := h.m
 have hxl := h.l
 have hxbl := h.bl
 rw [hxn, hxs, hxp, hxk, hxm, hxl, hxbl] at b1 W1
 rw [hxn, hxs, hxp, hxk, hxm, hxl, hxbl]
 clear hxn hxs hxp hxk hxm hxl hxbl
 obtain ⟨z0, z1, z2, z3, z4, z5, z6⟩ := ce7 b1
 clear hw1 c1 h hs hk hn b1
 go_enter Tryz.func124, Tryz.ntmps124
 go_upto_region 1 with fail
 rw [← W1.out]
 generalize w.heap.size = g0 at *
 refine wp_region_held_drew (S := fun w' => w'.cell? ⟨g0, 0, none⟩ = some (.int .i64 e.n) ∧ w'.cell? ⟨g0, 1, none⟩ = some (.int .i64 e.s) ∧ w'.cell? ⟨g0, 2, none⟩ = some (.string (strOf e.p)) ∧ w'.cell? ⟨g0, 3, none⟩ = some (.int .i64 e.k) ∧ w'.cell? ⟨g0, 4, none⟩ = some (.int .i64 e.m) ∧ w'.cell? ⟨g0, 5, none⟩ = some (.slice x.A e.b.length x.c) ∧ w'.cell? ⟨g0, 6, none⟩ = some (.slice x.B e.q.length x.bc)) (by kernel_rfl) ⟨z0, z1, z2, z3, z4, z5, z6⟩ (fun hHeld => ?_)
 have CC : Hid (Chg [] w1 w1.drew) := h_ (Chg.refl [] w1).drew
 have DX : Hid (∀ w', Chg [] w1 w' → w'.cell? ⟨g0, 0, none⟩ = some (.int .i64 e.n) ∧ w'.cell? ⟨g0, 1, none⟩ = some (.int .i64 e.s) ∧ w'.cell? ⟨g0, 2, none⟩ = some (.string (strOf e.p)) ∧ w'.cell? ⟨g0, 3, none⟩ = some (.int .i64 e.k) ∧ w'.cell? ⟨g0, 4, none⟩ = some (.int .i64 e.m) ∧ w'.cell? ⟨g0, 5, none⟩ = some (.slice x.A e.b.length x.c) ∧ w'.cell? ⟨g0, 6, none⟩ = some (.slice x.B e.q.length x.bc)) := h_ (fun w' hc => ⟨hc.cell z0 (by simp), hc.cell z1 (by simp), hc.cell z2 (by simp), hc.cell z3 (by simp), hc.cell z4 (by simp), hc.cell z5 (by simp), hc.cell z6 (by simp)⟩)
 clear z0 z1 z2 z3 z4 z5 z6 hHeld W1
 generalize w1.drew = wc at *
 refine sy 0 3 rfl rfl ?_ (hS := (DX.out _ CC.out))
 try simp only [Act.put, sA, s0, s1]
 refine sy 1 4 rfl rfl ?_ (hS := (DX.out _ CC.out)) (hy := by (intro w hSw; (try dsimp only at hSw); obtain ⟨q0, q1, q2, q3, q4, q5, q6⟩ := hSw; go_simp; try with_reducible rfl))
 try simp only [Act.put, sA, s0, s1]
 refine on1 2 rfl (fun K hK => ?_)
 go_simp
 refine (hcheck_dot wc e.n e.s).mono ?_
 rintro r wc ⟨rfl, hc⟩
 rw [chk_dot, if_neg (show ¬ FineQ e.n e.s from fun q => k0.out (chkD_fine q))]
 replace CC := h_ (CC.out.trans hc)
 clear hc
 refine hK.out _ _ (DX.out _ CC.out) (fun hHeld => ?_)
 clear hK K; try simp only [Act.put, sA, s0, s1]
 refine sy 3 6 rfl rfl ?_ (hS := (DX.out _ CC.out))
 try simp only [Act.put, sA, s0, s1]
 refine sy 4 7 rfl rfl ?_ (hS := (DX.out _ CC.out))
 try simp only [Act.put, sA, s0, s1]
 refine sn 5 8 rfl rfl ?_ (hS := (DX.out _ CC.out))
 try simp only [Act.put, sA, s0, s1]
 refine sn 6 9 rfl rfl ?_ (hS := (DX.out _ CC.out))
 try simp only [Act.put, sA, s0, s1]
 refine sn 7 10 rfl rfl ?_ (hS := (DX.out _ CC.out))
 try simp only [Act.put, sA, s0, s1]
 refine sn 8 11 rfl rfl ?_ (hS := (DX.out _ CC.out))
 try simp only [Act.put, sA, s0, s1]
 refine sy 9 12 rfl rfl ?_ (hS := (DX.out _ CC.out))
 try simp only [Act.put, sA, s0, s1]
 refine sy 10 13 rfl rfl ?_ (hS := (DX.out _ CC.out))
 try simp only [Act.put, sA, s0, s1]
 refine sn 11 14 rfl rfl ?_ (hS := (DX.out _ CC.out))
 try simp only [Act.put, sA, s0, s1]
 refine sn 12 15 rfl rfl ?_ (hS := (DX.out _ CC.out))
 try simp only [Act.put, sA, s0, s1]
 refine sn 13 16 rfl rfl ?_ (hS := (DX.out _ CC.out))
 try simp only [Act.put, sA, s0, s1]
 refine sn 14 17 rfl rfl ?_ (hS := (DX.out _ CC.out))
 try simp only [Act.put, sA, s0, s1]
 refine sy 15 18 rfl rfl ?_ (hS := (DX.out _ CC.out))
 try simp only [Act.put, sA, s0, s1]
 refine sy 16 19 rfl rfl ?_ (hS := (DX.out _ CC.out))
 try simp only [Act.put, sA, s0, s1]
 refine sn 17 20 rfl rfl ?_ (hS := (DX.out _ CC.out))
 try simp only [Act.put, sA, s0, s1]
 refine sn 18 21 rfl rfl ?_ (hS := (DX.out _ CC.out))
 try simp only [Act.put, sA, s0, s1]
 refine sn 19 22 rfl rfl ?_ (hS := (DX.out _ CC.out))
 try simp only [Act.put, sA, s0, s1]
 refine sn 20 23 rfl rfl ?_ (hS := (DX.out _ CC.out))
 try simp only [Act.put, sA, s0, s1]
 refine sy 21 24 rfl rfl ?_ (hS := (DX.out _ CC.out))
 try simp only [Act.put, sA, s0, s1]
 refine sy 22 25 rfl rfl ?_ (hS := (DX.out _ CC.out))
 try simp only [Act.put, sA, s0, s1]
 refine sn 23 26 rfl rfl ?_ (hS := (DX.out _ CC.out))
 try simp only [Act.put, sA, s0, s1]
 refine sn 24 27 rfl rfl ?_ (hS := (DX.out _ CC.out))
 try simp only [Act.put, sA, s0, s1]
 refine sn 25 28 rfl rfl ?_ (hS := (DX.out _ CC.out))
 try simp only [Act.put, sA, s0, s1]
 refine sn 26 29 rfl rfl ?_ (hS := (DX.out _ CC.out))
 try simp only [Act.put, sA, s0, s1]
 refine sn 27 30 rfl rfl ?_ (hS := (DX.out _ CC.out))
 try simp only [Act.put, sA, s0, s1]
 refine sn 28 31 rfl rfl ?_ (hS := (DX.out _ CC.out))
 try simp only [Act.put, sA, s0, s1]
 refine sn 29 32 rfl rfl ?_ (hS := (DX.out _ CC.out))
 try simp only [Act.put, sA, s0, s1]
 refine sn 30 33 rfl rfl ?_ (hS := (DX.out _ CC.out))
 try simp only [Act.put, sA, s0, s1]
 refine sn 31 34 rfl rfl ?_ (hS := (DX.out _ CC.out))
 try simp only [Act.put, sA, s0, s1]
 refine sn 32 35 rfl rfl ?_ (hS := (DX.out _ CC.out))
 try simp only [Act.put, sA, s0, s1]
 refine sy 33 36 rfl rfl ?_ (hS := (DX.out _ CC.out))
 try simp only [Act.put, sA, s0, s1]
 refine wpAnyH_done (by kernel_rfl) ?_ _; clear hHeld; go_wp2; go_ret
 exact ⟨rfl, C.out.trans CC.out⟩

set_option maxRecDepth 100000 in
theorem vecheck_1 (w : World) (x : EvT) (e : EvP) (h : EvR w x e) (hs : EvSm e) (hk : ∀ i, i < 1 → evOk e i) (hn : ¬ evOk e 1) :
  Calls Tryz.prog 124 #[.agg #[.int .i64 x.n, .int .i64 x.s, .string x.p, .int .i64 x.k, .int .i64 x.m, .slice x.A x.l x.c, .slice x.B x.bl x.bc]] w fun r w' => r = .returned (.int .i64 2) ∧ Chg [] w w' := by
 obtain ⟨w1, hw1, c1, b1⟩ := news1 w (.cells #[.int .i64 x.n, .int .i64 x.s, .string x.p, .int .i64 x.k, .int .i64 x.m, .slice x.A x.l x.c, .slice x.B x.bl x.bc] 40)
 have W1 := h_ hw1
 have HR := h_ (h.chg c1)
 have C := h_ c1
 have HS := h_ hs
 have k0 : Hid (evOk e 0) := h_ (hk 0 (by omega))
 have k1 : Hid (¬ evOk e 1) := h_ hn
 have hxn := h.n
 have hxs := h.s
 have hxp := h.p
 have hxk := h.k
 have hxm := h.m
 have hxl := h.l
 have hxbl := h.bl
 rw [hxn, hxs, hxp, hxk, hxm, hxl, hxbl] at b1 W1
 rw [hxn, hxs, hxp, hxk, hxm, hxl, hxbl]
 clear hxn hxs hxp hxk hxm hxl hxbl
 obtain ⟨z0, z1, z2, z3, z4, z5, z6⟩ := ce7 b1
 clear hw1 c1 h hs hk hn b1
 go_enter Tryz.func124, Tryz.ntmps124
 go_upto_region 1 with fail
 rw [← W1.out]
 generalize w.heap.size = g0 at *
 refine wp_region_held_drew (S := fun w' => w'.cell? ⟨g0, 0, none⟩ = some (.int .i64 e.n) ∧ w'.cell? ⟨g0, 1, none⟩ = some (.int .i64 e.s) ∧ w'.cell? ⟨g0, 2, none⟩ = some (.string (strOf e.p)) ∧ w'.cell? ⟨g0, 3, none⟩ = some (.int .i64 e.k) ∧ w'.cell? ⟨g0, 4, none⟩ = some (.int .i64 e.m) ∧ w'.cell? ⟨g0, 5, none⟩ = some (.slice x.A e.b.length x.c) ∧ w'.cell? ⟨g0, 6, none⟩ = some (.slice x.B e.q.length x.bc)) (by kernel_rfl) ⟨z0, z1, z2, z3, z4, z5, z6⟩ (fun hHeld => ?_)
 have CC : Hid (Chg [] w1 w1.drew) := h_ (Chg.refl [] w1).drew
 have DX : Hid (∀ w', Chg [] w1 w' → w'.cell? ⟨g0, 0, none⟩ = some (.int .i64 e.n) ∧ w'.cell? ⟨g0, 1, none⟩ = some (.int .i64 e.s) ∧ w'.cell? ⟨g0, 2, none⟩ = some (.string (strOf e.p)) ∧ w'.cell? ⟨g0, 3, none⟩ = some (.int .i64 e.k) ∧ w'.cell? ⟨g0, 4, none⟩ = some (.int .i64 e.m) ∧ w'.cell? ⟨g0, 5, none⟩ = some (.slice x.A e.b.length x.c) ∧ w'.cell? ⟨g0, 6, none⟩ = some (.slice x.B e.q.length x.bc)) := h_ (fun w' hc => ⟨hc.cell z0 (by simp), hc.cell z1 (by simp), hc.cell z2 (by simp), hc.cell z3 (by simp), hc.cell z4 (by simp), hc.cell z5 (by simp), hc.cell z6 (by simp)⟩)
 clear z0 z1 z2 z3 z4 z5 z6 hHeld W1
 generalize w1.drew = wc at *
 refine sy 0 3 rfl rfl ?_ (hS := (DX.out _ CC.out))
 try simp only [Act.put, sA, s0, s1]
 refine sy 1 4 rfl rfl ?_ (hS := (DX.out _ CC.out)) (hy := by (intro w hSw; (try dsimp only at hSw); obtain ⟨q0, q1, q2, q3, q4, q5, q6⟩ := hSw; go_simp; try with_reducible rfl))
 try simp only [Act.put, sA, s0, s1]
 refine on1 2 rfl (fun K hK => ?_)
 go_simp
 refine (hcheck_dot wc e.n e.s).mono ?_
 rintro r wc ⟨rfl, hc⟩
 rw [chk_dot, if_pos (show FineQ e.n e.s from Decidable.byContradiction (fun q => absurd k0.out (by show ¬ chkD e.n e.s = 0; rw [chkD_odd q]; decide)))]
 replace CC := h_ (CC.out.trans hc)
 clear hc
 refine hK.out _ _ (DX.out _ CC.out) (fun hHeld => ?_)
 clear hK K; try simp only [Act.put, sA, s0, s1]
 refine sy 3 6 rfl rfl ?_ (hS := (DX.out _ CC.out))
 try simp only [Act.put, sA, s0, s1]
 refine sy 4 7 rfl rfl ?_ (hS := (DX.out _ CC.out))
 try simp only [Act.put, sA, s0, s1]
 refine sy 5 8 rfl rfl ?_ (hS := (DX.out _ CC.out))
 try simp only [Act.put, sA, s0, s1]
 refine sy 6 9 rfl rfl ?_ (hS := (DX.out _ CC.out)) (hy := by (intro w hSw; (try dsimp only at hSw); obtain ⟨q0, q1, q2, q3, q4, q5, q6⟩ := hSw; go_simp; try with_reducible rfl))
 try simp only [Act.put, sA, s0, s1]
 refine on1 7 rfl (fun K hK => ?_)
 go_simp
 refine (qcheck_any wc e.p HS.out.1).mono ?_
 rintro r wc ⟨rfl, hc⟩
 rw [if_neg (show ¬ checkL 6 12 e.p = true from k1.out)]
 replace CC := h_ (CC.out.trans hc)
 clear hc
 refine hK.out _ _ (DX.out _ CC.out) (fun hHeld => ?_)
 clear hK K; try simp only [Act.put, sA, s0, s1]
 refine sy 8 11 rfl rfl ?_ (hS := (DX.out _ CC.out))
 try simp only [Act.put, sA, s0, s1]
 refine sy 9 12 rfl rfl ?_ (hS := (DX.out _ CC.out))
 try simp only [Act.put, sA, s0, s1]
 refine sy 10 13 rfl rfl ?_ (hS := (DX.out _ CC.out))
 try simp only [Act.put, sA, s0, s1]
 refine sn 11 14 rfl rfl ?_ (hS := (DX.out _ CC.out))
 try simp only [Act.put, sA, s0, s1]
 refine sn 12 15 rfl rfl ?_ (hS := (DX.out _ CC.out))
 try simp only [Act.put, sA, s0, s1]
 refine sn 13 16 rfl rfl ?_ (hS := (DX.out _ CC.out))
 try simp only [Act.put, sA, s0, s1]
 refine sn 14 17 rfl rfl ?_ (hS := (DX.out _ CC.out))
 try simp only [Act.put, sA, s0, s1]
 refine sy 15 18 rfl rfl ?_ (hS := (DX.out _ CC.out))
 try simp only [Act.put, sA, s0, s1]
 refine sy 16 19 rfl rfl ?_ (hS := (DX.out _ CC.out))
 try simp only [Act.put, sA, s0, s1]
 refine sn 17 20 rfl rfl ?_ (hS := (DX.out _ CC.out))
 try simp only [Act.put, sA, s0, s1]
 refine sn 18 21 rfl rfl ?_ (hS := (DX.out _ CC.out))
 try simp only [Act.put, sA, s0, s1]
 refine sn 19 22 rfl rfl ?_ (hS := (DX.out _ CC.out))
 try simp only [Act.put, sA, s0, s1]
 refine sn 20 23 rfl rfl ?_ (hS := (DX.out _ CC.out))
 try simp only [Act.put, sA, s0, s1]
 refine sy 21 24 rfl rfl ?_ (hS := (DX.out _ CC.out))
 try simp only [Act.put, sA, s0, s1]
 refine sy 22 25 rfl rfl ?_ (hS := (DX.out _ CC.out))
 try simp only [Act.put, sA, s0, s1]
 refine sn 23 26 rfl rfl ?_ (hS := (DX.out _ CC.out))
 try simp only [Act.put, sA, s0, s1]
 refine sn 24 27 rfl rfl ?_ (hS := (DX.out _ CC.out))
 try simp only [Act.put, sA, s0, s1]
 refine sn 25 28 rfl rfl ?_ (hS := (DX.out _ CC.out))
 try simp only [Act.put, sA, s0, s1]
 refine sn 26 29 rfl rfl ?_ (hS := (DX.out _ CC.out))
 try simp only [Act.put, sA, s0, s1]
 refine sn 27 30 rfl rfl ?_ (hS := (DX.out _ CC.out))
 try simp only [Act.put, sA, s0, s1]
 refine sn 28 31 rfl rfl ?_ (hS := (DX.out _ CC.out))
 try simp only [Act.put, sA, s0, s1]
 refine sn 29 32 rfl rfl ?_ (hS := (DX.out _ CC.out))
 try simp only [Act.put, sA, s0, s1]
 refine sn 30 33 rfl rfl ?_ (hS := (DX.out _ CC.out))
 try simp only [Act.put, sA, s0, s1]
 refine sn 31 34 rfl rfl ?_ (hS := (DX.out _ CC.out))
 try simp only [Act.put, sA, s0, s1]
 refine sn 32 35 rfl rfl ?_ (hS := (DX.out _ CC.out))
 try simp only [Act.put, sA, s0, s1]
 refine sy 33 36 rfl rfl ?_ (hS := (DX.out _ CC.out))
 try simp only [Act.put, sA, s0, s1]
 refine wpAnyH_done (by kernel_rfl) ?_ _; clear hHeld; go_wp2; go_ret
 exact ⟨rfl, C.out.trans CC.out⟩

set_option maxRecDepth 100000 in
theorem vecheck_2 (w : World) (x : EvT) (e : EvP) (h : EvR w x e) (hs : EvSm e) (hk : ∀ i, i < 2 → evOk e i) (hn : ¬ evOk e 2) :
  Calls Tryz.prog 124 #[.agg #[.int .i64 x.n, .int .i64 x.s, .string x.p, .int .i64 x.k, .int .i64 x.m, .slice x.A x.l x.c, .slice x.B x.bl x.bc]] w fun r w' => r = .returned (.int .i64 2) ∧ Chg [] w w' := by
 obtain ⟨w1, hw1, c1, b1⟩ := news1 w (.cells #[.int .i64 x.n, .int .i64 x.s, .string x.p, .int .i64 x.k, .int .i64 x.m, .slice x.A x.l x.c, .slice x.B x.bl x.bc] 40)
 have W1 := h_ hw1
 have HR := h_ (h.chg c1)
 have C := h_ c1
 have HS := h_ hs
 have k0 : Hid (evOk e 0) := h_ (hk 0 (by omega))
 have k1 : Hid (evOk e 1) := h_ (hk 1 (by omega))
 have k2 : Hid (¬ evOk e 2) := h_ hn
 have hxn := h.n
 have hxs := h.s
 have hxp := h.p
 have hxk := h.k
 have hxm := h.m
 have hxl := h.l
 have hxbl := h.bl
 rw [hxn, hxs, hxp, hxk, hxm, hxl, hxbl] at b1 W1
 rw [hxn, hxs, hxp, hxk, hxm, hxl, hxbl]
 clear hxn hxs hxp hxk hxm hxl hxbl
 obtain ⟨z0, z1, z2, z3, z4, z5, z6⟩ := ce7 b1
 clear hw1 c1 h hs hk hn b1
 go_enter Tryz.func124, Tryz.ntmps124
 go_upto_region 1 with fail
 rw [← W1.out]
 generalize w.heap.size = g0 at *
 refine wp_region_held_drew (S := fun w' => w'.cell? ⟨g0, 0, none⟩ = some (.int .i64 e.n) ∧ w'.cell? ⟨g0, 1, none⟩ = some (.int .i64 e.s) ∧ w'.cell? ⟨g0, 2, none⟩ = some (.string (strOf e.p)) ∧ w'.cell? ⟨g0, 3, none⟩ = some (.int .i64 e.k) ∧ w'.cell? ⟨g0, 4, none⟩ = some (.int .i64 e.m) ∧ w'.cell? ⟨g0, 5, none⟩ = some (.slice x.A e.b.length x.c) ∧ w'.cell? ⟨g0, 6, none⟩ = some (.slice x.B e.q.length x.bc)) (by kernel_rfl) ⟨z0, z1, z2, z3, z4, z5, z6⟩ (fun hHeld => ?_)
 have CC : Hid (Chg [] w1 w1.drew) := h_ (Chg.refl [] w1).drew
 have DX : Hid (∀ w', Chg [] w1 w' → w'.cell? ⟨g0, 0, none⟩ = some (.int .i64 e.n) ∧ w'.cell? ⟨g0, 1, none⟩ = some (.int .i64 e.s) ∧ w'.cell? ⟨g0, 2, none⟩ = some (.string (strOf e.p)) ∧ w'.cell? ⟨g0, 3, none⟩ = some (.int .i64 e.k) ∧ w'.cell? ⟨g0, 4, none⟩ = some (.int .i64 e.m) ∧ w'.cell? ⟨g0, 5, none⟩ = some (.slice x.A e.b.length x.c) ∧ w'.cell? ⟨g0, 6, none⟩ = some (.slice x.B e.q.length x.bc)) := h_ (fun w' hc => ⟨hc.cell z0 (by simp), hc.cell z1 (by simp), hc.cell z2 (by simp), hc.cell z3 (by simp), hc.cell z4 (by simp), hc.cell z5 (by simp), hc.cell z6 (by simp)⟩)
 clear z0 z1 z2 z3 z4 z5 z6 hHeld W1
 generalize w1.drew = wc at *
 refine sy 0 3 rfl rfl ?_ (hS := (DX.out _ CC.out))
 try simp only [Act.put, sA, s0, s1]
 refine sy 1 4 rfl rfl ?_ (hS := (DX.out _ CC.out)) (hy := by (intro w hSw; (try dsimp only at hSw); obtain ⟨q0, q1, q2, q3, q4, q5, q6⟩ := hSw; go_simp; try with_reducible rfl))
 try simp only [Act.put, sA, s0, s1]
 refine on1 2 rfl (fun K hK => ?_)
 go_simp
 refine (hcheck_dot wc e.n e.s).mono ?_
 rintro r wc ⟨rfl, hc⟩
 rw [chk_dot, if_pos (show FineQ e.n e.s from Decidable.byContradiction (fun q => absurd k0.out (by show ¬ chkD e.n e.s = 0; rw [chkD_odd q]; decide)))]
 replace CC := h_ (CC.out.trans hc)
 clear hc
 refine hK.out _ _ (DX.out _ CC.out) (fun hHeld => ?_)
 clear hK K; try simp only [Act.put, sA, s0, s1]
 refine sy 3 6 rfl rfl ?_ (hS := (DX.out _ CC.out))
 try simp only [Act.put, sA, s0, s1]
 refine sy 4 7 rfl rfl ?_ (hS := (DX.out _ CC.out))
 try simp only [Act.put, sA, s0, s1]
 refine sy 5 8 rfl rfl ?_ (hS := (DX.out _ CC.out))
 try simp only [Act.put, sA, s0, s1]
 refine sy 6 9 rfl rfl ?_ (hS := (DX.out _ CC.out)) (hy := by (intro w hSw; (try dsimp only at hSw); obtain ⟨q0, q1, q2, q3, q4, q5, q6⟩ := hSw; go_simp; try with_reducible rfl))
 try simp only [Act.put, sA, s0, s1]
 refine on1 7 rfl (fun K hK => ?_)
 go_simp
 refine (qcheck_any wc e.p HS.out.1).mono ?_
 rintro r wc ⟨rfl, hc⟩
 rw [if_pos (show checkL 6 12 e.p = true from k1.out)]
 replace CC := h_ (CC.out.trans hc)
 clear hc
 refine hK.out _ _ (DX.out _ CC.out) (fun hHeld => ?_)
 clear hK K; try simp only [Act.put, sA, s0, s1]
 refine sy 8 11 rfl rfl ?_ (hS := (DX.out _ CC.out))
 try simp only [Act.put, sA, s0, s1]
 refine sy 9 12 rfl rfl ?_ (hS := (DX.out _ CC.out))
 try simp only [Act.put, sA, s0, s1]
 refine sy 10 13 rfl rfl ?_ (hS := (DX.out _ CC.out))
 try simp only [Act.put, sA, s0, s1]
 refine sy 11 14 rfl rfl ?_ (hS := (DX.out _ CC.out))
 try simp only [Act.put, sA, s0, s1]
 refine sy 12 15 rfl rfl ?_ (hS := (DX.out _ CC.out)) (hy := by (intro w hSw; (try dsimp only at hSw); obtain ⟨q0, q1, q2, q3, q4, q5, q6⟩ := hSw; go_simp; try with_reducible rfl))
 try simp only [Act.put, sA, s0, s1]
 refine on1 13 rfl (fun K hK => ?_)
 go_simp
 refine (fcheck_any wc e.k e.m x.A e.b.length x.c HS.out.2.1).mono ?_
 rintro r wc ⟨rfl, hc⟩
 rw [show chkE e.k e.m e.b.length = 2 by unfold chkE; rw [if_neg]; exact fun q => k2.out (chkE_fine q)]
 replace CC := h_ (CC.out.trans hc)
 clear hc
 refine hK.out _ _ (DX.out _ CC.out) (fun hHeld => ?_)
 clear hK K; try simp only [Act.put, sA, s0, s1]
 refine sy 14 17 rfl rfl ?_ (hS := (DX.out _ CC.out))
 try simp only [Act.put, sA, s0, s1]
 refine sy 15 18 rfl rfl ?_ (hS := (DX.out _ CC.out))
 try simp only [Act.put, sA, s0, s1]
 refine sy 16 19 rfl rfl ?_ (hS := (DX.out _ CC.out))
 try simp only [Act.put, sA, s0, s1]
 refine sn 17 20 rfl rfl ?_ (hS := (DX.out _ CC.out))
 try simp only [Act.put, sA, s0, s1]
 refine sn 18 21 rfl rfl ?_ (hS := (DX.out _ CC.out))
 try simp only [Act.put, sA, s0, s1]
 refine sn 19 22 rfl rfl ?_ (hS := (DX.out _ CC.out))
 try simp only [Act.put, sA, s0, s1]
 refine sn 20 23 rfl rfl ?_ (hS := (DX.out _ CC.out))
 try simp only [Act.put, sA, s0, s1]
 refine sy 21 24 rfl rfl ?_ (hS := (DX.out _ CC.out))
 try simp only [Act.put, sA, s0, s1]
 refine sy 22 25 rfl rfl ?_ (hS := (DX.out _ CC.out))
 try simp only [Act.put, sA, s0, s1]
 refine sn 23 26 rfl rfl ?_ (hS := (DX.out _ CC.out))
 try simp only [Act.put, sA, s0, s1]
 refine sn 24 27 rfl rfl ?_ (hS := (DX.out _ CC.out))
 try simp only [Act.put, sA, s0, s1]
 refine sn 25 28 rfl rfl ?_ (hS := (DX.out _ CC.out))
 try simp only [Act.put, sA, s0, s1]
 refine sn 26 29 rfl rfl ?_ (hS := (DX.out _ CC.out))
 try simp only [Act.put, sA, s0, s1]
 refine sn 27 30 rfl rfl ?_ (hS := (DX.out _ CC.out))
 try simp only [Act.put, sA, s0, s1]
 refine sn 28 31 rfl rfl ?_ (hS := (DX.out _ CC.out))
 try simp only [Act.put, sA, s0, s1]
 refine sn 29 32 rfl rfl ?_ (hS := (DX.out _ CC.out))
 try simp only [Act.put, sA, s0, s1]
 refine sn 30 33 rfl rfl ?_ (hS := (DX.out _ CC.out))
 try simp only [Act.put, sA, s0, s1]
 refine sn 31 34 rfl rfl ?_ (hS := (DX.out _ CC.out))
 try simp only [Act.put, sA, s0, s1]
 refine sn 32 35 rfl rfl ?_ (hS := (DX.out _ CC.out))
 try simp only [Act.put, sA, s0, s1]
 refine sy 33 36 rfl rfl ?_ (hS := (DX.out _ CC.out))
 try simp only [Act.put, sA, s0, s1]
 refine wpAnyH_done (by kernel_rfl) ?_ _; clear hHeld; go_wp2; go_ret
 exact ⟨rfl, C.out.trans CC.out⟩

set_option maxRecDepth 100000 in
theorem vecheck_3 (w : World) (x : EvT) (e : EvP) (h : EvR w x e) (hs : EvSm e) (hk : ∀ i, i < 3 → evOk e i) (hn : ¬ evOk e 3) :
  Calls Tryz.prog 124 #[.agg #[.int .i64 x.n, .int .i64 x.s, .string x.p, .int .i64 x.k, .int .i64 x.m, .slice x.A x.l x.c, .slice x.B x.bl x.bc]] w fun r w' => r = .returned (.int .i64 2) ∧ Chg [] w w' := by
 obtain ⟨w1, hw1, c1, b1⟩ := news1 w (.cells #[.int .i64 x.n, .int .i64 x.s, .string x.p, .int .i64 x.k, .int .i64 x.m, .slice x.A x.l x.c, .slice x.B x.bl x.bc] 40)
 have W1 := h_ hw1
 have HR := h_ (h.chg c1)
 have C := h_ c1
 have HS := h_ hs
 have k0 : Hid (evOk e 0) := h_ (hk 0 (by omega))
 have k1 : Hid (evOk e 1) := h_ (hk 1 (by omega))
 have k2 : Hid (evOk e 2) := h_ (hk 2 (by omega))
 have k3 : Hid (¬ evOk e 3) := h_ hn
 have hxn := h.n
 have hxs := h.s
 have hxp := h.p
 have hxk := h.k
 have hxm := h.m
 have hxl := h.l
 have hxbl := h.bl
 rw [hxn, hxs, hxp, hxk, hxm, hxl, hxbl] at b1 W1
 rw [hxn, hxs, hxp, hxk, hxm, hxl, hxbl]
 clear hxn hxs hxp hxk hxm hxl hxbl
 obtain ⟨z0, z1, z2, z3, z4, z5, z6⟩ := ce7 b1
 clear hw1 c1 h hs hk hn b1
 go_enter Tryz.func124, Tryz.ntmps124
 go_upto_region 1 with fail
 rw [← W1.out]
 generalize w.heap.size = g0 at *
 refine wp_region_held_drew (S := fun w' => w'.cell? ⟨g0, 0, none⟩ = some (.int .i64 e.n) ∧ w'.cell? ⟨g0, 1, none⟩ = some (.int .i64 e.s) ∧ w'.cell? ⟨g0, 2, none⟩ = some (.string (strOf e.p)) ∧ w'.cell? ⟨g0, 3, none⟩ = some (.int .i64 e.k) ∧ w'.cell? ⟨g0, 4, none⟩ = some (.int .i64 e.m) ∧ w'.cell? ⟨g0, 5, none⟩ = some (.slice x.A e.b.length x.c) ∧ w'.cell? ⟨g0, 6, none⟩ = some (.slice x.B e.q.length x.bc)) (by kernel_rfl) ⟨z0, z1, z2, z3, z4, z5, z6⟩ (fun hHeld => ?_)
 have CC : Hid (Chg [] w1 w1.drew) := h_ (Chg.refl [] w1).drew
 have DX : Hid (∀ w', Chg [] w1 w' → w'.cell? ⟨g0, 0, none⟩ = some (.int .i64 e.n) ∧ w'.cell? ⟨g0, 1, none⟩ = some (.int .i64 e.s) ∧ w'.cell? ⟨g0, 2, none⟩ = some (.string (strOf e.p)) ∧ w'.cell? ⟨g0, 3, none⟩ = some (.int .i64 e.k) ∧ w'.cell? ⟨g0, 4, none⟩ = some (.int .i64 e.m) ∧ w'.cell? ⟨g0, 5, none⟩ = some (.slice x.A e.b.length x.c) ∧ w'.cell? ⟨g0, 6, none⟩ = some (.slice x.B e.q.length x.bc)) := h_ (fun w' hc => ⟨hc.cell z0 (by simp), hc.cell z1 (by simp), hc.cell z2 (by simp), hc.cell z3 (by simp), hc.cell z4 (by simp), hc.cell z5 (by simp), hc.cell z6 (by simp)⟩)
 clear z0 z1 z2 z3 z4 z5 z6 hHeld W1
 generalize w1.drew = wc at *
 refine sy 0 3 rfl rfl ?_ (hS := (DX.out _ CC.out))
 try simp only [Act.put, sA, s0, s1]
 refine sy 1 4 rfl rfl ?_ (hS := (DX.out _ CC.out)) (hy := by (intro w hSw; (try dsimp only at hSw); obtain ⟨q0, q1, q2, q3, q4, q5, q6⟩ := hSw; go_simp; try with_reducible rfl))
 try simp only [Act.put, sA, s0, s1]
 refine on1 2 rfl (fun K hK => ?_)
 go_simp
 refine (hcheck_dot wc e.n e.s).mono ?_
 rintro r wc ⟨rfl, hc⟩
 rw [chk_dot, if_pos (show FineQ e.n e.s from Decidable.byContradiction (fun q => absurd k0.out (by show ¬ chkD e.n e.s = 0; rw [chkD_odd q]; decide)))]
 replace CC := h_ (CC.out.trans hc)
 clear hc
 refine hK.out _ _ (DX.out _ CC.out) (fun hHeld => ?_)
 clear hK K; try simp only [Act.put, sA, s0, s1]
 refine sy 3 6 rfl rfl ?_ (hS := (DX.out _ CC.out))
 try simp only [Act.put, sA, s0, s1]
 refine sy 4 7 rfl rfl ?_ (hS := (DX.out _ CC.out))
 try simp only [Act.put, sA, s0, s1]
 refine sy 5 8 rfl rfl ?_ (hS := (DX.out _ CC.out))
 try simp only [Act.put, sA, s0, s1]
 refine sy 6 9 rfl rfl ?_ (hS := (DX.out _ CC.out)) (hy := by (intro w hSw; (try dsimp only at hSw); obtain ⟨q0, q1, q2, q3, q4, q5, q6⟩ := hSw; go_simp; try with_reducible rfl))
 try simp only [Act.put, sA, s0, s1]
 refine on1 7 rfl (fun K hK => ?_)
 go_simp
 refine (qcheck_any wc e.p HS.out.1).mono ?_
 rintro r wc ⟨rfl, hc⟩
 rw [if_pos (show checkL 6 12 e.p = true from k1.out)]
 replace CC := h_ (CC.out.trans hc)
 clear hc
 refine hK.out _ _ (DX.out _ CC.out) (fun hHeld => ?_)
 clear hK K; try simp only [Act.put, sA, s0, s1]
 refine sy 8 11 rfl rfl ?_ (hS := (DX.out _ CC.out))
 try simp only [Act.put, sA, s0, s1]
 refine sy 9 12 rfl rfl ?_ (hS := (DX.out _ CC.out))
 try simp only [Act.put, sA, s0, s1]
 refine sy 10 13 rfl rfl ?_ (hS := (DX.out _ CC.out))
 try simp only [Act.put, sA, s0, s1]
 refine sy 11 14 rfl rfl ?_ (hS := (DX.out _ CC.out))
 try simp only [Act.put, sA, s0, s1]
 refine sy 12 15 rfl rfl ?_ (hS := (DX.out _ CC.out)) (hy := by (intro w hSw; (try dsimp only at hSw); obtain ⟨q0, q1, q2, q3, q4, q5, q6⟩ := hSw; go_simp; try with_reducible rfl))
 try simp only [Act.put, sA, s0, s1]
 refine on1 13 rfl (fun K hK => ?_)
 go_simp
 refine (fcheck_any wc e.k e.m x.A e.b.length x.c HS.out.2.1).mono ?_
 rintro r wc ⟨rfl, hc⟩
 rw [show chkE e.k e.m e.b.length = 0 from k2.out]
 replace CC := h_ (CC.out.trans hc)
 clear hc
 refine hK.out _ _ (DX.out _ CC.out) (fun hHeld => ?_)
 clear hK K; try simp only [Act.put, sA, s0, s1]
 refine sy 14 17 rfl rfl ?_ (hS := (DX.out _ CC.out))
 try simp only [Act.put, sA, s0, s1]
 refine sy 15 18 rfl rfl ?_ (hS := (DX.out _ CC.out))
 try simp only [Act.put, sA, s0, s1]
 refine sy 16 19 rfl rfl ?_ (hS := (DX.out _ CC.out))
 try simp only [Act.put, sA, s0, s1]
 refine sy 17 20 rfl rfl ?_ (hS := (DX.out _ CC.out))
 try simp only [Act.put, sA, s0, s1]
 refine sy 18 21 rfl rfl ?_ (hS := (DX.out _ CC.out)) (hy := by (intro w hSw; (try dsimp only at hSw); obtain ⟨q0, q1, q2, q3, q4, q5, q6⟩ := hSw; go_simp; try with_reducible rfl))
 try simp only [Act.put, sA, s0, s1]
 refine on1 19 rfl (fun K hK => ?_)
 go_simp
 refine (qacheck_any wc x.B e.q.length x.bc e.q (by have := HR.out.B.chg CC.out (by simp); rw [HR.out.bl] at this; exact this) HS.out.2.2).mono ?_
 rintro r wc ⟨rfl, hc⟩
 rw [show chkS e.q = 2 from (chk_two e.q).resolve_left k3.out]
 replace CC := h_ (CC.out.trans hc)
 clear hc
 refine hK.out _ _ (DX.out _ CC.out) (fun hHeld => ?_)
 clear hK K; try simp only [Act.put, sA, s0, s1]
 refine sy 20 23 rfl rfl ?_ (hS := (DX.out _ CC.out))
 try simp only [Act.put, sA, s0, s1]
 refine sy 21 24 rfl rfl ?_ (hS := (DX.out _ CC.out))
 try simp only [Act.put, sA, s0, s1]
 refine sy 22 25 rfl rfl ?_ (hS := (DX.out _ CC.out))
 try simp only [Act.put, sA, s0, s1]
 refine sn 23 26 rfl rfl ?_ (hS := (DX.out _ CC.out))
 try simp only [Act.put, sA, s0, s1]
 refine sn 24 27 rfl rfl ?_ (hS := (DX.out _ CC.out))
 try simp only [Act.put, sA, s0, s1]
 refine sn 25 28 rfl rfl ?_ (hS := (DX.out _ CC.out))
 try simp only [Act.put, sA, s0, s1]
 refine sn 26 29 rfl rfl ?_ (hS := (DX.out _ CC.out))
 try simp only [Act.put, sA, s0, s1]
 refine sn 27 30 rfl rfl ?_ (hS := (DX.out _ CC.out))
 try simp only [Act.put, sA, s0, s1]
 refine sn 28 31 rfl rfl ?_ (hS := (DX.out _ CC.out))
 try simp only [Act.put, sA, s0, s1]
 refine sn 29 32 rfl rfl ?_ (hS := (DX.out _ CC.out))
 try simp only [Act.put, sA, s0, s1]
 refine sn 30 33 rfl rfl ?_ (hS := (DX.out _ CC.out))
 try simp only [Act.put, sA, s0, s1]
 refine sn 31 34 rfl rfl ?_ (hS := (DX.out _ CC.out))
 try simp only [Act.put, sA, s0, s1]
 refine sn 32 35 rfl rfl ?_ (hS := (DX.out _ CC.out))
 try simp only [Act.put, sA, s0, s1]
 refine sy 33 36 rfl rfl ?_ (hS := (DX.out _ CC.out))
 try simp only [Act.put, sA, s0, s1]
 refine wpAnyH_done (by kernel_rfl) ?_ _; clear hHeld; go_wp2; go_ret
 exact ⟨rfl, C.out.trans CC.out⟩

set_option maxRecDepth 100000 in
theorem vecheck_4 (w : World) (x : EvT) (e : EvP) (h : EvR w x e) (hs : EvSm e) (hk : ∀ i, i < 4 → evOk e i) (hn : ¬ evOk e 4) :
  Calls Tryz.prog 124 #[.agg #[.int .i64 x.n, .int .i64 x.s, .string x.p, .int .i64 x.k, .int .i64 x.m, .slice x.A x.l x.c, .slice x.B x.bl x.bc]] w fun r w' => r = .returned (.int .i64 2) ∧ Chg [] w w' := by
 obtain ⟨w1, hw1, c1, b1⟩ := news1 w (.cells #[.int .i64 x.n, .int .i64 x.s, .string x.p, .int .i64 x.k, .int .i64 x.m, .slice x.A x.l x.c, .slice x.B x.bl x.bc] 40)
 have W1 := h_ hw1
 have HR := h_ (h.chg c1)
 have C := h_ c1
 have HS := h_ hs
 have k0 : Hid (evOk e 0) := h_ (hk 0 (by omega))
 have k1 : Hid (evOk e 1) := h_ (hk 1 (by omega))
 have k2 : Hid (evOk e 2) := h_ (hk 2 (by omega))
 have k3 : Hid (evOk e 3) := h_ (hk 3 (by omega))
 have k4 : Hid (¬ evOk e 4) := h_ hn
 have hxn := h.n
 have hxs := h.s
 have hxp := h.p
 have hxk := h.k
 have hxm := h.m
 have hxl := h.l
 have hxbl := h.bl
 rw [hxn, hxs, hxp, hxk, hxm, hxl, hxbl] at b1 W1
 rw [hxn, hxs, hxp, hxk, hxm, hxl, hxbl]
 clear hxn hxs hxp hxk hxm hxl hxbl
 obtain ⟨z0, z1, z2, z3, z4, z5, z6⟩ := ce7 b1
 clear hw1 c1 h hs hk hn b1
 generalize hlv : (if chkS e.q = 0 then lastL e.n e.q else 0) = lv
 have LV := h_ hlv
 have ge : decide (e.s ≤ lv) = true := by
  have q : ¬ lv < e.s := fun q => k4.out (by show _ < e.s; rw [hlv]; exact q)
  exact decide_eq_true (by omega)
 clear hlv
 go_enter Tryz.func124, Tryz.ntmps124
 go_upto_region 1 with fail
 rw [← W1.out]
 generalize w.heap.size = g0 at *
 refine wp_region_held_drew (S := fun w' => w'.cell? ⟨g0, 0, none⟩ = some (.int .i64 e.n) ∧ w'.cell? ⟨g0, 1, none⟩ = some (.int .i64 e.s) ∧ w'.cell? ⟨g0, 2, none⟩ = some (.string (strOf e.p)) ∧ w'.cell? ⟨g0, 3, none⟩ = some (.int .i64 e.k) ∧ w'.cell? ⟨g0, 4, none⟩ = some (.int .i64 e.m) ∧ w'.cell? ⟨g0, 5, none⟩ = some (.slice x.A e.b.length x.c) ∧ w'.cell? ⟨g0, 6, none⟩ = some (.slice x.B e.q.length x.bc)) (by kernel_rfl) ⟨z0, z1, z2, z3, z4, z5, z6⟩ (fun hHeld => ?_)
 have CC : Hid (Chg [] w1 w1.drew) := h_ (Chg.refl [] w1).drew
 have DX : Hid (∀ w', Chg [] w1 w' → w'.cell? ⟨g0, 0, none⟩ = some (.int .i64 e.n) ∧ w'.cell? ⟨g0, 1, none⟩ = some (.int .i64 e.s) ∧ w'.cell? ⟨g0, 2, none⟩ = some (.string (strOf e.p)) ∧ w'.cell? ⟨g0, 3, none⟩ = some (.int .i64 e.k) ∧ w'.cell? ⟨g0, 4, none⟩ = some (.int .i64 e.m) ∧ w'.cell? ⟨g0, 5, none⟩ = some (.slice x.A e.b.length x.c) ∧ w'.cell? ⟨g0, 6, none⟩ = some (.slice x.B e.q.length x.bc)) := h_ (fun w' hc => ⟨hc.cell z0 (by simp), hc.cell z1 (by simp), hc.cell z2 (by simp), hc.cell z3 (by simp), hc.cell z4 (by simp), hc.cell z5 (by simp), hc.cell z6 (by simp)⟩)
 clear z0 z1 z2 z3 z4 z5 z6 hHeld W1
 generalize w1.drew = wc at *
 refine sy 0 3 rfl rfl ?_ (hS := (DX.out _ CC.out))
 try simp only [Act.put, sA, s0, s1]
 refine sy 1 4 rfl rfl ?_ (hS := (DX.out _ CC.out)) (hy := by (intro w hSw; (try dsimp only at hSw); obtain ⟨q0, q1, q2, q3, q4, q5, q6⟩ := hSw; go_simp; try with_reducible rfl))
 try simp only [Act.put, sA, s0, s1]
 refine on1 2 rfl (fun K hK => ?_)
 go_simp
 refine (hcheck_dot wc e.n e.s).mono ?_
 rintro r wc ⟨rfl, hc⟩
 rw [chk_dot, if_pos (show FineQ e.n e.s from Decidable.byContradiction (fun q => absurd k0.out (by show ¬ chkD e.n e.s = 0; rw [chkD_odd q]; decide)))]
 replace CC := h_ (CC.out.trans hc)
 clear hc
 refine hK.out _ _ (DX.out _ CC.out) (fun hHeld => ?_)
 clear hK K; try simp only [Act.put, sA, s0, s1]
 refine sy 3 6 rfl rfl ?_ (hS := (DX.out _ CC.out))
 try simp only [Act.put, sA, s0, s1]
 refine sy 4 7 rfl rfl ?_ (hS := (DX.out _ CC.out))
 try simp only [Act.put, sA, s0, s1]
 refine sy 5 8 rfl rfl ?_ (hS := (DX.out _ CC.out))
 try simp only [Act.put, sA, s0, s1]
 refine sy 6 9 rfl rfl ?_ (hS := (DX.out _ CC.out)) (hy := by (intro w hSw; (try dsimp only at hSw); obtain ⟨q0, q1, q2, q3, q4, q5, q6⟩ := hSw; go_simp; try with_reducible rfl))
 try simp only [Act.put, sA, s0, s1]
 refine on1 7 rfl (fun K hK => ?_)
 go_simp
 refine (qcheck_any wc e.p HS.out.1).mono ?_
 rintro r wc ⟨rfl, hc⟩
 rw [if_pos (show checkL 6 12 e.p = true from k1.out)]
 replace CC := h_ (CC.out.trans hc)
 clear hc
 refine hK.out _ _ (DX.out _ CC.out) (fun hHeld => ?_)
 clear hK K; try simp only [Act.put, sA, s0, s1]
 refine sy 8 11 rfl rfl ?_ (hS := (DX.out _ CC.out))
 try simp only [Act.put, sA, s0, s1]
 refine sy 9 12 rfl rfl ?_ (hS := (DX.out _ CC.out))
 try simp only [Act.put, sA, s0, s1]
 refine sy 10 13 rfl rfl ?_ (hS := (DX.out _ CC.out))
 try simp only [Act.put, sA, s0, s1]
 refine sy 11 14 rfl rfl ?_ (hS := (DX.out _ CC.out))
 try simp only [Act.put, sA, s0, s1]
 refine sy 12 15 rfl rfl ?_ (hS := (DX.out _ CC.out)) (hy := by (intro w hSw; (try dsimp only at hSw); obtain ⟨q0, q1, q2, q3, q4, q5, q6⟩ := hSw; go_simp; try with_reducible rfl))
 try simp only [Act.put, sA, s0, s1]
 refine on1 13 rfl (fun K hK => ?_)
 go_simp
 refine (fcheck_any wc e.k e.m x.A e.b.length x.c HS.out.2.1).mono ?_
 rintro r wc ⟨rfl, hc⟩
 rw [show chkE e.k e.m e.b.length = 0 from k2.out]
 replace CC := h_ (CC.out.trans hc)
 clear hc
 refine hK.out _ _ (DX.out _ CC.out) (fun hHeld => ?_)
 clear hK K; try simp only [Act.put, sA, s0, s1]
 refine sy 14 17 rfl rfl ?_ (hS := (DX.out _ CC.out))
 try simp only [Act.put, sA, s0, s1]
 refine sy 15 18 rfl rfl ?_ (hS := (DX.out _ CC.out))
 try simp only [Act.put, sA, s0, s1]
 refine sy 16 19 rfl rfl ?_ (hS := (DX.out _ CC.out))
 try simp only [Act.put, sA, s0, s1]
 refine sy 17 20 rfl rfl ?_ (hS := (DX.out _ CC.out))
 try simp only [Act.put, sA, s0, s1]
 refine sy 18 21 rfl rfl ?_ (hS := (DX.out _ CC.out)) (hy := by (intro w hSw; (try dsimp only at hSw); obtain ⟨q0, q1, q2, q3, q4, q5, q6⟩ := hSw; go_simp; try with_reducible rfl))
 try simp only [Act.put, sA, s0, s1]
 refine on1 19 rfl (fun K hK => ?_)
 go_simp
 refine (qacheck_any wc x.B e.q.length x.bc e.q (by have := HR.out.B.chg CC.out (by simp); rw [HR.out.bl] at this; exact this) HS.out.2.2).mono ?_
 rintro r wc ⟨rfl, hc⟩
 rw [show chkS e.q = 0 from k3.out]
 replace CC := h_ (CC.out.trans hc)
 clear hc
 refine hK.out _ _ (DX.out _ CC.out) (fun hHeld => ?_)
 clear hK K; try simp only [Act.put, sA, s0, s1]
 refine sy 20 23 rfl rfl ?_ (hS := (DX.out _ CC.out))
 try simp only [Act.put, sA, s0, s1]
 refine sy 21 24 rfl rfl ?_ (hS := (DX.out _ CC.out))
 try simp only [Act.put, sA, s0, s1]
 refine sy 22 25 rfl rfl ?_ (hS := (DX.out _ CC.out))
 try simp only [Act.put, sA, s0, s1]
 refine sy 23 26 rfl rfl ?_ (hS := (DX.out _ CC.out))
 try simp only [Act.put, sA, s0, s1]
 refine sy 24 27 rfl rfl ?_ (hS := (DX.out _ CC.out)) (hy := by (intro w hSw; (try dsimp only at hSw); obtain ⟨q0, q1, q2, q3, q4, q5, q6⟩ := hSw; go_simp; try with_reducible rfl))
 try simp only [Act.put, sA, s0, s1]
 refine sy 25 28 rfl rfl ?_ (hS := (DX.out _ CC.out))
 try simp only [Act.put, sA, s0, s1]
 refine sy 26 29 rfl rfl ?_ (hS := (DX.out _ CC.out))
 try simp only [Act.put, sA, s0, s1]
 refine sy 27 30 rfl rfl ?_ (hS := (DX.out _ CC.out)) (hy := by (intro w hSw; (try dsimp only at hSw); obtain ⟨q0, q1, q2, q3, q4, q5, q6⟩ := hSw; go_simp; try with_reducible rfl))
 try simp only [Act.put, sA, s0, s1]
 refine sy 29 32 rfl rfl ?_ (hS := (DX.out _ CC.out))
 try simp only [Act.put, sA, s0, s1]
 refine sy 30 33 rfl rfl ?_ (hS := (DX.out _ CC.out))
 try simp only [Act.put, sA, s0, s1]
 refine sy 31 34 rfl rfl ?_ (hS := (DX.out _ CC.out)) (hy := by (intro w hSw; (try dsimp only at hSw); obtain ⟨q0, q1, q2, q3, q4, q5, q6⟩ := hSw; go_simp; try with_reducible rfl))
 try simp only [Act.put, sA, s0, s1]
 refine on1 28 rfl (fun K hK => ?_)
 go_simp
 refine (qlast_any wc x.B x.bc e.q e.n (by have := HR.out.B.chg CC.out (by simp); rw [HR.out.bl] at this; exact this) HS.out.2.2).mono ?_
 rintro r wc ⟨rfl, hc⟩
 rw [LV.out]
 replace CC := h_ (CC.out.trans hc)
 clear hc
 refine hK.out _ _ (DX.out _ CC.out) (fun hHeld => ?_)
 clear hK K; try simp only [Act.put, sA, s0, s1]
 refine sy 32 35 rfl rfl ?_ (hS := (DX.out _ CC.out))
 try simp only [Act.put, sA, s0, s1]
 refine sy 33 36 rfl rfl ?_ (hS := (DX.out _ CC.out))
 try simp only [Act.put, sA, s0, s1]
 refine wpAnyH_done (by kernel_rfl) ?_ _; clear hHeld; go_wp2; go_ret
 exact ⟨rfl, C.out.trans CC.out⟩

set_option maxRecDepth 100000 in
theorem vecheck_5 (w : World) (x : EvT) (e : EvP) (h : EvR w x e) (hs : EvSm e) (hk : ∀ i, i < 5 → evOk e i) :
  Calls Tryz.prog 124 #[.agg #[.int .i64 x.n, .int .i64 x.s, .string x.p, .int .i64 x.k, .int .i64 x.m, .slice x.A x.l x.c, .slice x.B x.bl x.bc]] w fun r w' => r = .returned (.int .i64 0) ∧ Chg [] w w' := by
 obtain ⟨w1, hw1, c1, b1⟩ := news1 w (.cells #[.int .i64 x.n, .int .i64 x.s, .string x.p, .int .i64 x.k, .int .i64 x.m, .slice x.A x.l x.c, .slice x.B x.bl x.bc] 40)
 have W1 := h_ hw1
 have HR := h_ (h.chg c1)
 have C := h_ c1
 have HS := h_ hs
 have k0 : Hid (evOk e 0) := h_ (hk 0 (by omega))
 have k1 : Hid (evOk e 1) := h_ (hk 1 (by omega))
 have k2 : Hid (evOk e 2) := h_ (hk 2 (by omega))
 have k3 : Hid (evOk e 3) := h_ (hk 3 (by omega))
 have k4 : Hid (evOk e 4) := h_ (hk 4 (by omega))
 have hxn := h.n
 have hxs := h.s
 have hxp := h.p
 have hxk := h.k
 have hxm := h.m
 have hxl := h.l
 have hxbl := h.bl
 rw [hxn, hxs, hxp, hxk, hxm, hxl, hxbl] at b1 W1
 rw [hxn, hxs, hxp, hxk, hxm, hxl, hxbl]
 clear hxn hxs hxp hxk hxm hxl hxbl
 obtain ⟨z0, z1, z2, z3, z4, z5, z6⟩ := ce7 b1
 clear hw1 c1 h hs hk b1
 generalize hlv : (if chkS e.q = 0 then lastL e.n e.q else 0) = lv
 have LV := h_ hlv
 have ge : decide (e.s ≤ lv) = false := by
  have q : lv < e.s := by rw [← hlv]; exact k4.out
  exact decide_eq_false (by omega)
 clear hlv
 go_enter Tryz.func124, Tryz.ntmps124
 go_upto_region 1 with fail
 rw [← W1.out]
 generalize w.heap.size = g0 at *
 refine wp_region_held_drew (S := fun w' => w'.cell? ⟨g0, 0, none⟩ = some (.int .i64 e.n) ∧ w'.cell? ⟨g0, 1, none⟩ = some (.int .i64 e.s) ∧ w'.cell? ⟨g0, 2, none⟩ = some (.string (strOf e.p)) ∧ w'.cell? ⟨g0, 3, none⟩ = some (.int .i64 e.k) ∧ w'.cell? ⟨g0, 4, none⟩ = some (.int .i64 e.m) ∧ w'.cell? ⟨g0, 5, none⟩ = some (.slice x.A e.b.length x.c) ∧ w'.cell? ⟨g0, 6, none⟩ = some (.slice x.B e.q.length x.bc)) (by kernel_rfl) ⟨z0, z1, z2, z3, z4, z5, z6⟩ (fun hHeld => ?_)
 have CC : Hid (Chg [] w1 w1.drew) := h_ (Chg.refl [] w1).drew
 have DX : Hid (∀ w', Chg [] w1 w' → w'.cell? ⟨g0, 0, none⟩ = some (.int .i64 e.n) ∧ w'.cell? ⟨g0, 1, none⟩ = some (.int .i64 e.s) ∧ w'.cell? ⟨g0, 2, none⟩ = some (.string (strOf e.p)) ∧ w'.cell? ⟨g0, 3, none⟩ = some (.int .i64 e.k) ∧ w'.cell? ⟨g0, 4, none⟩ = some (.int .i64 e.m) ∧ w'.cell? ⟨g0, 5, none⟩ = some (.slice x.A e.b.length x.c) ∧ w'.cell? ⟨g0, 6, none⟩ = some (.slice x.B e.q.length x.bc)) := h_ (fun w' hc => ⟨hc.cell z0 (by simp), hc.cell z1 (by simp), hc.cell z2 (by simp), hc.cell z3 (by simp), hc.cell z4 (by simp), hc.cell z5 (by simp), hc.cell z6 (by simp)⟩)
 clear z0 z1 z2 z3 z4 z5 z6 hHeld W1
 generalize w1.drew = wc at *
 refine sy 0 3 rfl rfl ?_ (hS := (DX.out _ CC.out))
 try simp only [Act.put, sA, s0, s1]
 refine sy 1 4 rfl rfl ?_ (hS := (DX.out _ CC.out)) (hy := by (intro w hSw; (try dsimp only at hSw); obtain ⟨q0, q1, q2, q3, q4, q5, q6⟩ := hSw; go_simp; try with_reducible rfl))
 try simp only [Act.put, sA, s0, s1]
 refine on1 2 rfl (fun K hK => ?_)
 go_simp
 refine (hcheck_dot wc e.n e.s).mono ?_
 rintro r wc ⟨rfl, hc⟩
 rw [chk_dot, if_pos (show FineQ e.n e.s from Decidable.byContradiction (fun q => absurd k0.out (by show ¬ chkD e.n e.s = 0; rw [chkD_odd q]; decide)))]
 replace CC := h_ (CC.out.trans hc)
 clear hc
 refine hK.out _ _ (DX.out _ CC.out) (fun hHeld => ?_)
 clear hK K; try simp only [Act.put, sA, s0, s1]
 refine sy 3 6 rfl rfl ?_ (hS := (DX.out _ CC.out))
 try simp only [Act.put, sA, s0, s1]
 refine sy 4 7 rfl rfl ?_ (hS := (DX.out _ CC.out))
 try simp only [Act.put, sA, s0, s1]
 refine sy 5 8 rfl rfl ?_ (hS := (DX.out _ CC.out))
 try simp only [Act.put, sA, s0, s1]
 refine sy 6 9 rfl rfl ?_ (hS := (DX.out _ CC.out)) (hy := by (intro w hSw; (try dsimp only at hSw); obtain ⟨q0, q1, q2, q3, q4, q5, q6⟩ := hSw; go_simp; try with_reducible rfl))
 try simp only [Act.put, sA, s0, s1]
 refine on1 7 rfl (fun K hK => ?_)
 go_simp
 refine (qcheck_any wc e.p HS.out.1).mono ?_
 rintro r wc ⟨rfl, hc⟩
 rw [if_pos (show checkL 6 12 e.p = true from k1.out)]
 replace CC := h_ (CC.out.trans hc)
 clear hc
 refine hK.out _ _ (DX.out _ CC.out) (fun hHeld => ?_)
 clear hK K; try simp only [Act.put, sA, s0, s1]
 refine sy 8 11 rfl rfl ?_ (hS := (DX.out _ CC.out))
 try simp only [Act.put, sA, s0, s1]
 refine sy 9 12 rfl rfl ?_ (hS := (DX.out _ CC.out))
 try simp only [Act.put, sA, s0, s1]
 refine sy 10 13 rfl rfl ?_ (hS := (DX.out _ CC.out))
 try simp only [Act.put, sA, s0, s1]
 refine sy 11 14 rfl rfl ?_ (hS := (DX.out _ CC.out))
 try simp only [Act.put, sA, s0, s1]
 refine sy 12 15 rfl rfl ?_ (hS := (DX.out _ CC.out)) (hy := by (intro w hSw; (try dsimp only at hSw); obtain ⟨q0, q1, q2, q3, q4, q5, q6⟩ := hSw; go_simp; try with_reducible rfl))
 try simp only [Act.put, sA, s0, s1]
 refine on1 13 rfl (fun K hK => ?_)
 go_simp
 refine (fcheck_any wc e.k e.m x.A e.b.length x.c HS.out.2.1).mono ?_
 rintro r wc ⟨rfl, hc⟩
 rw [show chkE e.k e.m e.b.length = 0 from k2.out]
 replace CC := h_ (CC.out.trans hc)
 clear hc
 refine hK.out _ _ (DX.out _ CC.out) (fun hHeld => ?_)
 clear hK K; try simp only [Act.put, sA, s0, s1]
 refine sy 14 17 rfl rfl ?_ (hS := (DX.out _ CC.out))
 try simp only [Act.put, sA, s0, s1]
 refine sy 15 18 rfl rfl ?_ (hS := (DX.out _ CC.out))
 try simp only [Act.put, sA, s0, s1]
 refine sy 16 19 rfl rfl ?_ (hS := (DX.out _ CC.out))
 try simp only [Act.put, sA, s0, s1]
 refine sy 17 20 rfl rfl ?_ (hS := (DX.out _ CC.out))
 try simp only [Act.put, sA, s0, s1]
 refine sy 18 21 rfl rfl ?_ (hS := (DX.out _ CC.out)) (hy := by (intro w hSw; (try dsimp only at hSw); obtain ⟨q0, q1, q2, q3, q4, q5, q6⟩ := hSw; go_simp; try with_reducible rfl))
 try simp only [Act.put, sA, s0, s1]
 refine on1 19 rfl (fun K hK => ?_)
 go_simp
 refine (qacheck_any wc x.B e.q.length x.bc e.q (by have := HR.out.B.chg CC.out (by simp); rw [HR.out.bl] at this; exact this) HS.out.2.2).mono ?_
 rintro r wc ⟨rfl, hc⟩
 rw [show chkS e.q = 0 from k3.out]
 replace CC := h_ (CC.out.trans hc)
 clear hc
 refine hK.out _ _ (DX.out _ CC.out) (fun hHeld => ?_)
 clear hK K; try simp only [Act.put, sA, s0, s1]
 refine sy 20 23 rfl rfl ?_ (hS := (DX.out _ CC.out))
 try simp only [Act.put, sA, s0, s1]
 refine sy 21 24 rfl rfl ?_ (hS := (DX.out _ CC.out))
 try simp only [Act.put, sA, s0, s1]
 refine sy 22 25 rfl rfl ?_ (hS := (DX.out _ CC.out))
 try simp only [Act.put, sA, s0, s1]
 refine sy 23 26 rfl rfl ?_ (hS := (DX.out _ CC.out))
 try simp only [Act.put, sA, s0, s1]
 refine sy 24 27 rfl rfl ?_ (hS := (DX.out _ CC.out)) (hy := by (intro w hSw; (try dsimp only at hSw); obtain ⟨q0, q1, q2, q3, q4, q5, q6⟩ := hSw; go_simp; try with_reducible rfl))
 try simp only [Act.put, sA, s0, s1]
 refine sy 25 28 rfl rfl ?_ (hS := (DX.out _ CC.out))
 try simp only [Act.put, sA, s0, s1]
 refine sy 26 29 rfl rfl ?_ (hS := (DX.out _ CC.out))
 try simp only [Act.put, sA, s0, s1]
 refine sy 27 30 rfl rfl ?_ (hS := (DX.out _ CC.out)) (hy := by (intro w hSw; (try dsimp only at hSw); obtain ⟨q0, q1, q2, q3, q4, q5, q6⟩ := hSw; go_simp; try with_reducible rfl))
 try simp only [Act.put, sA, s0, s1]
 refine sy 29 32 rfl rfl ?_ (hS := (DX.out _ CC.out))
 try simp only [Act.put, sA, s0, s1]
 refine sy 30 33 rfl rfl ?_ (hS := (DX.out _ CC.out))
 try simp only [Act.put, sA, s0, s1]
 refine sy 31 34 rfl rfl ?_ (hS := (DX.out _ CC.out)) (hy := by (intro w hSw; (try dsimp only at hSw); obtain ⟨q0, q1, q2, q3, q4, q5, q6⟩ := hSw; go_simp; try with_reducible rfl))
 try simp only [Act.put, sA, s0, s1]
 refine on1 28 rfl (fun K hK => ?_)
 go_simp
 refine (qlast_any wc x.B x.bc e.q e.n (by have := HR.out.B.chg CC.out (by simp); rw [HR.out.bl] at this; exact this) HS.out.2.2).mono ?_
 rintro r wc ⟨rfl, hc⟩
 rw [LV.out]
 replace CC := h_ (CC.out.trans hc)
 clear hc
 refine hK.out _ _ (DX.out _ CC.out) (fun hHeld => ?_)
 clear hK K; try simp only [Act.put, sA, s0, s1]
 refine sy 32 35 rfl rfl ?_ (hS := (DX.out _ CC.out))
 try simp only [Act.put, sA, s0, s1]
 refine sy 33 36 rfl rfl ?_ (hS := (DX.out _ CC.out))
 try simp only [Act.put, sA, s0, s1]
 refine wpAnyH_done (by kernel_rfl) ?_ _; clear hHeld; go_wp2; go_ret
 exact ⟨rfl, C.out.trans CC.out⟩

theorem vecheck_any (w : World) (x : EvT) (e : EvP) (h : EvR w x e) (hs : EvSm e) :
  Calls Tryz.prog 124 #[.agg #[.int .i64 x.n, .int .i64 x.s, .string x.p, .int .i64 x.k, .int .i64 x.m, .slice x.A x.l x.c, .slice x.B x.bl x.bc]] w fun r w' => r = .returned (.int .i64 (chkEv e)) ∧ Chg [] w w' := by
 by_cases h0 : evOk e 0
 rotate_left
 ·
  rw [chkEv_no 0 (by omega) h0]
  exact vecheck_0 w x e h hs (fun i hi => by omega) h0
 by_cases h1 : evOk e 1
 rotate_left
 ·
  rw [chkEv_no 1 (by omega) h1]
  exact vecheck_1 w x e h hs (fun i hi => by match i, hi with | 0, _ => exact h0) h1
 by_cases h2 : evOk e 2
 rotate_left
 ·
  rw [chkEv_no 2 (by omega) h2]
  exact vecheck_2 w x e h hs (fun i hi => by match i, hi with | 0, _ => exact h0 | 1, _ => exact h1) h2
 by_cases h3 : evOk e 3
 rotate_left
 ·
  rw [chkEv_no 3 (by omega) h3]
  exact vecheck_3 w x e h hs (fun i hi => by match i, hi with | 0, _ => exact h0 | 1, _ => exact h1 | 2, _ => exact h2) h3
 by_cases h4 : evOk e 4
 rotate_left
 ·
  rw [chkEv_no 4 (by omega) h4]
  exact vecheck_4 w x e h hs (fun i hi => by match i, hi with | 0, _ => exact h0 | 1, _ => exact h1 | 2, _ => exact h2 | 3, _ => exact h3) h4
 have ha : ∀ i, i < 5 → evOk e i := fun i hi => by match i, hi with | 0, _ => exact h0 | 1, _ => exact h1 | 2, _ => exact h2 | 3, _ => exact h3 | 4, _ => exact h4
 rw [chkEv_yes ha]
 exact vecheck_5 w x e h hs ha
end
section
open Go.RowKit Go.Lib


theorem qhasx_any (w : World) (x y : EvT) (e f : EvP) (hx : EvR w x e) (hy : EvR w y f) (hs : EvSm f) :
  Calls Tryz.prog 80 #[.slice y.B y.bl y.bc, .agg #[.int .i64 x.n, .int .i64 x.s]] w fun r w' => r = .returned (.bool (hasE f.q e.n e.s)) ∧ Chg [] w w' := by
 have h1 := hx.n
 have h2 := hx.s
 have h3 := hy.bl
 have h4 := hy.B
 rw [h3] at h4 ⊢
 rw [h1, h2]
 exact qhas_any w y.B y.bc f.q e.n e.s h4 hs.2.2

set_option maxRecDepth 100000 in
theorem veahead_any (w : World) (x y : EvT) (e f : EvP) (hx : EvR w x e) (hy : EvR w y f) (hs : EvSm e) (ht : EvSm f) :
  Calls Tryz.prog 125 #[.agg #[.int .i64 x.n, .int .i64 x.s, .string x.p, .int .i64 x.k, .int .i64 x.m, .slice x.A x.l x.c, .slice x.B x.bl x.bc], .agg #[.int .i64 y.n, .int .i64 y.s, .string y.p, .int .i64 y.k, .int .i64 y.m, .slice y.A y.l y.c, .slice y.B y.bl y.bc]] w fun r w' => r = .returned (.bool (aheadP e f)) ∧ Chg [] w w' := by
 obtain ⟨w2, hw, hc, b0, b1⟩ := news2 w (.cells #[.int .i64 x.n, .int .i64 x.s, .string x.p, .int .i64 x.k, .int .i64 x.m, .slice x.A x.l x.c, .slice x.B x.bl x.bc] 40) (.cells #[.int .i64 y.n, .int .i64 y.s, .string y.p, .int .i64 y.k, .int .i64 y.m, .slice y.A y.l y.c, .slice y.B y.bl y.bc] 40)
 have W2 := h_ hw
 have C := h_ hc
 have HX := h_ (hx.chg hc)
 have HY := h_ (hy.chg hc)
 have HS := h_ hs
 have HT := h_ ht
 have B0 := h_ b0
 have B1 := h_ b1
 generalize hv : aheadP e f = v
 have HV := h_ hv
 clear hv hw hc hx hy hs ht b0 b1
 go_enter Tryz.func125, Tryz.ntmps125
 go_upto_region 1 with fail
 rw [← W2.out]
 generalize w.heap.size + 1 = g1 at *
 generalize w.heap.size = g0 at *
 obtain ⟨z0, z1, z2, z3, z4, z5, z6⟩ := ce7 B0.out
 obtain ⟨y0, y1, y2, y3, y4, y5, y6⟩ := ce7 B1.out
 go_wp2_with fail
 refine (vecheck_any w2 x e HX.out HS.out).mono ?_
 rintro r w3 ⟨rfl, hc⟩
 clear z0 y0 z1 y1 z2 y2 z3 y3 z4 y4 z5 y5 z6 y6
 replace C := h_ (C.out.trans hc)
 replace HX := h_ (HX.out.chg hc)
 replace HY := h_ (HY.out.chg hc)
 replace B0 := h_ (hc.at_ B0.out (by simp))
 replace B1 := h_ (hc.at_ B1.out (by simp))
 clear hc
 rcases chkEv_two e with ha | ha
 rotate_left
 ·
  obtain rfl : v = false := by rw [← HV.out]; unfold aheadP; rw [ha]; simp
  rw [ha]
  go_wp2; go_ret
  exact ⟨rfl, C.out⟩
 rw [ha]
 obtain ⟨z0, z1, z2, z3, z4, z5, z6⟩ := ce7 B0.out
 obtain ⟨y0, y1, y2, y3, y4, y5, y6⟩ := ce7 B1.out
 go_wp2_with fail
 refine (vecheck_any w3 y f HY.out HT.out).mono ?_
 rintro r w4 ⟨rfl, hc⟩
 clear z0 y0 z1 y1 z2 y2 z3 y3 z4 y4 z5 y5 z6 y6
 replace C := h_ (C.out.trans hc)
 replace HX := h_ (HX.out.chg hc)
 replace HY := h_ (HY.out.chg hc)
 replace B0 := h_ (hc.at_ B0.out (by simp))
 replace B1 := h_ (hc.at_ B1.out (by simp))
 clear hc
 rcases chkEv_two f with hb | hb
 rotate_left
 ·
  obtain rfl : v = false := by rw [← HV.out]; unfold aheadP; rw [hb]; simp
  rw [hb]
  go_wp2; go_ret
  exact ⟨rfl, C.out⟩
 rw [hb]
 obtain ⟨z0, z1, z2, z3, z4, z5, z6⟩ := ce7 B0.out
 obtain ⟨y0, y1, y2, y3, y4, y5, y6⟩ := ce7 B1.out
 go_wp2_with fail
 refine (qhasx_any w4 x y e f HX.out HY.out HT.out).mono ?_
 rintro r w5 ⟨rfl, hc⟩
 clear z0 y0 z1 y1 z2 y2 z3 y3 z4 y4 z5 y5 z6 y6
 replace C := h_ (C.out.trans hc)
 replace HX := h_ (HX.out.chg hc)
 replace HY := h_ (HY.out.chg hc)
 replace B0 := h_ (hc.at_ B0.out (by simp))
 replace B1 := h_ (hc.at_ B1.out (by simp))
 clear hc
 rcases hh : hasE f.q e.n e.s with _ | _
 ·
  obtain rfl : v = false := by rw [← HV.out]; unfold aheadP; rw [hh]; rfl
  go_wp2; go_ret
  exact ⟨rfl, C.out⟩
 obtain rfl : v = true := by rw [← HV.out]; unfold aheadP; rw [hh, ha, hb]; rfl
 go_wp2; go_ret
 exact ⟨rfl, C.out⟩
end
section
open Go.RowKit Go.Lib


set_option maxRecDepth 100000 in
theorem kscheck_any (w : World) (A : Option Addr) (c : Nat) (xs : List EvT) (es : List EvP) (h : RdK evTy w A xs.length xs) (hx : EvsR w xs es) (hn : xs.length ≤ 100000) (hs : ∀ e ∈ es, EvSm e) :
  Calls Tryz.prog 77 #[.slice A xs.length c] w fun r w' => r = .returned (.int .i64 (shE es)) ∧ Chg [] w w' := by

 have HX := h_ hx
 have HN := h_ hn
 have HS := h_ hs
 have HA := h_ h
 clear h hx hn hs
 go_enter Tryz.func77, Tryz.ntmps77
 go_wp2
 go_loopw [3] (fun v3 wr => ∃ (k : Nat), k ≤ xs.length ∧ v3 = .int .i64 k ∧ Hid (ShTo es k) ∧ Hid (∀ e ∈ es.take k, es.any (fun x => aheadP e x) = false) ∧ Hid (Chg [] w wr)) (fun v3 _ => xs.length - (RowKit.intOf v3).toNat)
 case atStart => exact ⟨0, Nat.zero_le _, rfl, h_ (shTo_zero _), h_ (by simp), Chg.refl _ _⟩
 case round =>
  obtain ⟨k, hk, rfl, ST, NA, PC⟩ := hrel
  have j0 : (0 : Int) ≤ (k : Int) := by omega
  by_cases hlt : k < xs.length
  ·
   have j1 : (k : Int) < (xs.length : Int) := by omega
   have j3 : IntKind.i64.wrap ((k : Int) + 1) = (k : Int) + 1 := IntWalk.i64_in _ (by have := HN.out; omega)
   obtain ⟨g3, o3, eA, _⟩ := HA.out.line (by omega)
   subst eA
   obtain ⟨x, e, ex, ee, rx⟩ := HX.out.at_ hlt
   obtain ⟨y0, f0, ey0, ef0, ry0⟩ := HX.out.at_ (show 0 < xs.length by omega)
   have EX := h_ ex
   have EE := h_ ee
   have RX1 := h_ rx
   have EF0 := h_ ef0
   have XP : Hid (x.p = strOf e.p ∧ y0.p = strOf f0.p) := h_ ⟨rx.p, ry0.p⟩
   have EY0 := h_ ey0
   have ES1 := h_ (HS.out e (List.mem_of_getElem? ee))
   clear ex ee rx ey0 ef0 ry0
   go_upto_region 4 with fail
   have HB : Hid (∀ w', Chg [] wr w' → (w'.cell? ⟨g3, o3 + k * 7, none⟩ = some (.int .i64 x.n) ∧ w'.cell? ⟨g3, o3 + k * 7 + 1, none⟩ = some (.int .i64 x.s) ∧ w'.cell? ⟨g3, o3 + k * 7 + 2, none⟩ = some (.string x.p) ∧ w'.cell? ⟨g3, o3 + k * 7 + 3, none⟩ = some (.int .i64 x.k) ∧ w'.cell? ⟨g3, o3 + k * 7 + 4, none⟩ = some (.int .i64 x.m) ∧ w'.cell? ⟨g3, o3 + k * 7 + 5, none⟩ = some (.slice x.A x.l x.c) ∧ w'.cell? ⟨g3, o3 + k * 7 + 6, none⟩ = some (.slice x.B x.bl x.bc))) := h_ (fun w' hc => evCells (HA.out.chg (PC.out.trans hc) (by simp)) EX.out)
   have HR : Hid (∀ w', Chg [] wr w' → ∀ y, xs[k - 1]? = some y → w'.cell? ⟨g3, o3 + (k - 1) * 7, none⟩ = some (.int .i64 y.n) ∧ w'.cell? ⟨g3, o3 + (k - 1) * 7 + 1, none⟩ = some (.int .i64 y.s)) := h_ (fun w' hc y hy => by
    have q := evCells (HA.out.chg (PC.out.trans hc) (by simp)) hy
    exact ⟨q.1, q.2.1⟩)
   have H0 : Hid (∀ w', Chg [] wr w' → w'.cell? ⟨g3, o3 + 2, none⟩ = some (.string y0.p)) := h_ (fun w' hc => by
    have q := evCells (HA.out.chg (PC.out.trans hc) (by simp)) EY0.out
    rw [Nat.zero_mul, Nat.add_zero] at q
    exact q.2.2.1)
   have CHK : Hid (∀ w', Chg [] wr w' → Calls Tryz.prog 124 #[.agg #[.int .i64 x.n, .int .i64 x.s, .string x.p, .int .i64 x.k, .int .i64 x.m, .slice x.A x.l x.c, .slice x.B x.bl x.bc]] w' fun r w2 => r = .returned (.int .i64 (chkEv e)) ∧ Chg [] w' w2) := h_ (fun w' hc => vecheck_any w' x e (RX1.out.chg (PC.out.trans hc)) ES1.out)
   have l0 : (0 : Int) < (xs.length : Int) := by omega
   have l1 : 0 < xs.length := by omega
   rcases chkEv_two e with e1 | e1
   rotate_left
   ·
    have NO : Hid (shE es = 2) := h_ (sh_no_chk EE.out (by omega))
    refine wp_region_held_drew (S := fun w' => Chg [] wr w') (by kernel_rfl) (Chg.refl [] wr).drew (fun hHeld => ?_)
    refine sy 0 11 rfl rfl ?_; try simp only [Act.put, sA, s0, s1]
    refine sy 1 12 rfl rfl ?_; try simp only [Act.put, sA, s0, s1]
    refine sy 2 13 rfl rfl ?_; try simp only [Act.put, sA, s0, s1]
    refine sy 3 14 rfl rfl ?_ (hy := by (intro w hSw; (try dsimp only at hSw); have hq := HB.out _ hSw; obtain ⟨q0, q1, q2, q3, q4, q5, q6⟩ := hq; go_simp; try with_reducible rfl))
    try simp only [Act.put, sA, s0, s1]
    refine on1 4 rfl (fun K hK => ?_)
    go_simp
    refine (CHK.out _ hHeld).mono ?_
    rintro r w9 ⟨rfl, hc⟩
    rw [e1]
    have C9 := h_ (hHeld.trans hc)
    clear hc hHeld
    refine hK.out _ _ C9.out (fun hHeld => ?_)
    clear hK K; try simp only [Act.put, sA, s0, s1]
    refine sy 5 16 rfl rfl ?_; try simp only [Act.put, sA, s0, s1]
    refine sy 6 17 rfl rfl ?_; try simp only [Act.put, sA, s0, s1]
    refine sn 7 18 rfl rfl ?_; try simp only [Act.put, sA, s0, s1]
    refine sn 8 19 rfl rfl ?_; try simp only [Act.put, sA, s0, s1]
    refine sn 9 20 rfl rfl ?_; try simp only [Act.put, sA, s0, s1]
    refine sn 10 21 rfl rfl ?_; try simp only [Act.put, sA, s0, s1]
    refine sn 11 22 rfl rfl ?_; try simp only [Act.put, sA, s0, s1]
    refine sn 12 23 rfl rfl ?_; try simp only [Act.put, sA, s0, s1]
    refine sn 13 24 rfl rfl ?_; try simp only [Act.put, sA, s0, s1]
    refine sn 14 25 rfl rfl ?_; try simp only [Act.put, sA, s0, s1]
    refine sn 15 26 rfl rfl ?_; try simp only [Act.put, sA, s0, s1]
    refine sn 16 27 rfl rfl ?_; try simp only [Act.put, sA, s0, s1]
    refine sy 17 28 rfl rfl ?_; try simp only [Act.put, sA, s0, s1]
    refine sy 18 29 rfl rfl ?_; try simp only [Act.put, sA, s0, s1]
    refine sn 19 30 rfl rfl ?_; try simp only [Act.put, sA, s0, s1]
    refine sn 20 31 rfl rfl ?_; try simp only [Act.put, sA, s0, s1]
    refine sn 21 32 rfl rfl ?_; try simp only [Act.put, sA, s0, s1]
    refine sn 22 33 rfl rfl ?_; try simp only [Act.put, sA, s0, s1]
    refine sn 23 34 rfl rfl ?_; try simp only [Act.put, sA, s0, s1]
    refine sn 24 35 rfl rfl ?_; try simp only [Act.put, sA, s0, s1]
    refine sn 25 36 rfl rfl ?_; try simp only [Act.put, sA, s0, s1]
    refine sn 26 37 rfl rfl ?_; try simp only [Act.put, sA, s0, s1]
    refine sn 27 38 rfl rfl ?_; try simp only [Act.put, sA, s0, s1]
    refine sn 28 39 rfl rfl ?_; try simp only [Act.put, sA, s0, s1]
    refine sn 29 40 rfl rfl ?_; try simp only [Act.put, sA, s0, s1]
    refine sn 30 41 rfl rfl ?_; try simp only [Act.put, sA, s0, s1]
    refine sn 31 42 rfl rfl ?_; try simp only [Act.put, sA, s0, s1]
    refine sn 32 43 rfl rfl ?_; try simp only [Act.put, sA, s0, s1]
    refine sn 33 44 rfl rfl ?_; try simp only [Act.put, sA, s0, s1]
    refine sn 34 45 rfl rfl ?_; try simp only [Act.put, sA, s0, s1]
    refine sn 35 46 rfl rfl ?_; try simp only [Act.put, sA, s0, s1]
    refine sy 36 47 rfl rfl ?_; try simp only [Act.put, sA, s0, s1]
    refine wpAnyH_done (by kernel_rfl) ?_ _; clear hHeld HB HR H0 CHK; go_wp2; go_ret
    rw [NO.out]
    exact ⟨rfl, PC.out.trans C9.out⟩
   by_cases hp : e.p = f0.p
   rotate_left
   ·
    have NO : Hid (shE es = 2) := h_ (sh_no_path EE.out EF0.out hp)
    have p1' : ((x.p == y0.p) : Bool) = false := by rw [XP.out.1, XP.out.2]; exact strOf_ne hp
    have p2' : ¬ x.p = y0.p := by rw [XP.out.1, XP.out.2]; exact strOf_ne2 hp
    have p3' : ¬ x.p.toList = y0.p.toList := by rw [XP.out.1, XP.out.2]; exact strOf_ne3s hp
    have p4' : ((x.p.toList == y0.p.toList) : Bool) = false := by simpa using p3' 
    refine wp_region_held_drew (S := fun w' => Chg [] wr w') (by kernel_rfl) (Chg.refl [] wr).drew (fun hHeld => ?_)
    refine sy 0 11 rfl rfl ?_; try simp only [Act.put, sA, s0, s1]
    refine sy 1 12 rfl rfl ?_; try simp only [Act.put, sA, s0, s1]
    refine sy 2 13 rfl rfl ?_; try simp only [Act.put, sA, s0, s1]
    refine sy 3 14 rfl rfl ?_ (hy := by (intro w hSw; (try dsimp only at hSw); have hq := HB.out _ hSw; obtain ⟨q0, q1, q2, q3, q4, q5, q6⟩ := hq; go_simp; try with_reducible rfl))
    try simp only [Act.put, sA, s0, s1]
    refine on1 4 rfl (fun K hK => ?_)
    go_simp
    refine (CHK.out _ hHeld).mono ?_
    rintro r w9 ⟨rfl, hc⟩
    rw [e1]
    have C9 := h_ (hHeld.trans hc)
    clear hc hHeld
    refine hK.out _ _ C9.out (fun hHeld => ?_)
    clear hK K; try simp only [Act.put, sA, s0, s1]
    refine sy 5 16 rfl rfl ?_; try simp only [Act.put, sA, s0, s1]
    refine sy 6 17 rfl rfl ?_; try simp only [Act.put, sA, s0, s1]
    refine sy 7 18 rfl rfl ?_; try simp only [Act.put, sA, s0, s1]
    refine sy 8 19 rfl rfl ?_; try simp only [Act.put, sA, s0, s1]
    refine sy 9 20 rfl rfl ?_; try simp only [Act.put, sA, s0, s1]
    refine sy 10 21 rfl rfl ?_; try simp only [Act.put, sA, s0, s1]
    refine sy 11 22 rfl rfl ?_ (hy := by (intro w hSw; (try dsimp only at hSw); have hq := HB.out _ hSw; obtain ⟨q0, q1, q2, q3, q4, q5, q6⟩ := hq; go_simp; try with_reducible rfl))
    try simp only [Act.put, sA, s0, s1]
    refine sy 12 23 rfl rfl ?_; try simp only [Act.put, sA, s0, s1]
    refine sy 13 24 rfl rfl ?_; try simp only [Act.put, sA, s0, s1]
    refine sy 14 25 rfl rfl ?_; try simp only [Act.put, sA, s0, s1]
    refine sy 15 26 rfl rfl ?_ (hy := by (intro w hSw; (try dsimp only at hSw); have hq := H0.out _ hSw; go_simp; try with_reducible rfl))
    try simp only [Act.put, sA, s0, s1]
    refine sy 16 27 rfl rfl ?_; try simp only [Act.put, sA, s0, s1]
    refine sy 17 28 rfl rfl ?_; try simp only [Act.put, sA, s0, s1]
    refine sy 18 29 rfl rfl ?_; try simp only [Act.put, sA, s0, s1]
    refine sn 19 30 rfl rfl ?_; try simp only [Act.put, sA, s0, s1]
    refine sn 20 31 rfl rfl ?_; try simp only [Act.put, sA, s0, s1]
    refine sn 21 32 rfl rfl ?_; try simp only [Act.put, sA, s0, s1]
    refine sn 22 33 rfl rfl ?_; try simp only [Act.put, sA, s0, s1]
    refine sn 23 34 rfl rfl ?_; try simp only [Act.put, sA, s0, s1]
    refine sn 24 35 rfl rfl ?_; try simp only [Act.put, sA, s0, s1]
    refine sn 25 36 rfl rfl ?_; try simp only [Act.put, sA, s0, s1]
    refine sn 26 37 rfl rfl ?_; try simp only [Act.put, sA, s0, s1]
    refine sn 27 38 rfl rfl ?_; try simp only [Act.put, sA, s0, s1]
    refine sn 28 39 rfl rfl ?_; try simp only [Act.put, sA, s0, s1]
    refine sn 29 40 rfl rfl ?_; try simp only [Act.put, sA, s0, s1]
    refine sn 30 41 rfl rfl ?_; try simp only [Act.put, sA, s0, s1]
    refine sn 31 42 rfl rfl ?_; try simp only [Act.put, sA, s0, s1]
    refine sn 32 43 rfl rfl ?_; try simp only [Act.put, sA, s0, s1]
    refine sn 33 44 rfl rfl ?_; try simp only [Act.put, sA, s0, s1]
    refine sn 34 45 rfl rfl ?_; try simp only [Act.put, sA, s0, s1]
    refine sn 35 46 rfl rfl ?_; try simp only [Act.put, sA, s0, s1]
    refine sy 36 47 rfl rfl ?_; try simp only [Act.put, sA, s0, s1]
    refine wpAnyH_done (by kernel_rfl) ?_ _; clear hHeld HB HR H0 CHK; go_wp2; go_ret
    rw [NO.out]
    exact ⟨rfl, PC.out.trans C9.out⟩
   have HP := h_ hp
   have p1' : ((x.p == y0.p) : Bool) = true := by rw [XP.out.1, XP.out.2, hp]; show ((f0.p.toArray == f0.p.toArray) : Bool) = true; simp
   have p4' : ((x.p.toList == y0.p.toList) : Bool) = true := by rw [XP.out.1, XP.out.2, hp]; simp
   clear hp
   by_cases k0 : k = 0
   ·
    subst k0
    have OT : Hid (ShTo es (0 + 1)) := h_ (shTo_next ST.out EE.out e1 (fun f hf => by rw [EE.out] at hf; cases hf; rfl) (.inl rfl))
    refine wp_region_held_drew (S := fun w' => Chg [] wr w') (by kernel_rfl) (Chg.refl [] wr).drew (fun hHeld => ?_)
    refine sy 0 11 rfl rfl ?_; try simp only [Act.put, sA, s0, s1]
    refine sy 1 12 rfl rfl ?_; try simp only [Act.put, sA, s0, s1]
    refine sy 2 13 rfl rfl ?_; try simp only [Act.put, sA, s0, s1]
    refine sy 3 14 rfl rfl ?_ (hy := by (intro w hSw; (try dsimp only at hSw); have hq := HB.out _ hSw; obtain ⟨q0, q1, q2, q3, q4, q5, q6⟩ := hq; (try simp only [Nat.zero_mul, Nat.add_zero] at q0 q1 q2 q3 q4 q5 q6); go_simp; try with_reducible rfl))
    try simp only [Act.put, sA, s0, s1]
    refine on1 4 rfl (fun K hK => ?_)
    go_simp
    refine (CHK.out _ hHeld).mono ?_
    rintro r w9 ⟨rfl, hc⟩
    rw [e1]
    have C9 := h_ (hHeld.trans hc)
    clear hc hHeld
    refine hK.out _ _ C9.out (fun hHeld => ?_)
    clear hK K; try simp only [Act.put, sA, s0, s1]
    refine sy 5 16 rfl rfl ?_; try simp only [Act.put, sA, s0, s1]
    refine sy 6 17 rfl rfl ?_; try simp only [Act.put, sA, s0, s1]
    refine sy 7 18 rfl rfl ?_; try simp only [Act.put, sA, s0, s1]
    refine sy 8 19 rfl rfl ?_; try simp only [Act.put, sA, s0, s1]
    refine sy 9 20 rfl rfl ?_; try simp only [Act.put, sA, s0, s1]
    refine sy 10 21 rfl rfl ?_; try simp only [Act.put, sA, s0, s1]
    refine sy 11 22 rfl rfl ?_ (hy := by (intro w hSw; (try dsimp only at hSw); have hq := HB.out _ hSw; obtain ⟨q0, q1, q2, q3, q4, q5, q6⟩ := hq; (try simp only [Nat.zero_mul, Nat.add_zero] at q0 q1 q2 q3 q4 q5 q6); go_simp; try with_reducible rfl))
    try simp only [Act.put, sA, s0, s1]
    refine sy 12 23 rfl rfl ?_; try simp only [Act.put, sA, s0, s1]
    refine sy 13 24 rfl rfl ?_; try simp only [Act.put, sA, s0, s1]
    refine sy 14 25 rfl rfl ?_; try simp only [Act.put, sA, s0, s1]
    refine sy 15 26 rfl rfl ?_ (hy := by (intro w hSw; (try dsimp only at hSw); have hq := H0.out _ hSw; go_simp; try with_reducible rfl))
    try simp only [Act.put, sA, s0, s1]
    refine sy 16 27 rfl rfl ?_; try simp only [Act.put, sA, s0, s1]
    refine sy 17 28 rfl rfl ?_; try simp only [Act.put, sA, s0, s1]
    refine sy 18 29 rfl rfl ?_; try simp only [Act.put, sA, s0, s1]
    refine sy 19 30 rfl rfl ?_; try simp only [Act.put, sA, s0, s1]
    refine sy 20 31 rfl rfl ?_; try simp only [Act.put, sA, s0, s1]
    refine sy 21 32 rfl rfl ?_; try simp only [Act.put, sA, s0, s1]
    refine sn 22 33 rfl rfl ?_; try simp only [Act.put, sA, s0, s1]
    refine sn 23 34 rfl rfl ?_; try simp only [Act.put, sA, s0, s1]
    refine sn 24 35 rfl rfl ?_; try simp only [Act.put, sA, s0, s1]
    refine sn 25 36 rfl rfl ?_; try simp only [Act.put, sA, s0, s1]
    refine sn 26 37 rfl rfl ?_; try simp only [Act.put, sA, s0, s1]
    refine sn 27 38 rfl rfl ?_; try simp only [Act.put, sA, s0, s1]
    refine sn 28 39 rfl rfl ?_; try simp only [Act.put, sA, s0, s1]
    refine sn 29 40 rfl rfl ?_; try simp only [Act.put, sA, s0, s1]
    refine sn 30 41 rfl rfl ?_; try simp only [Act.put, sA, s0, s1]
    refine sn 31 42 rfl rfl ?_; try simp only [Act.put, sA, s0, s1]
    refine sn 32 43 rfl rfl ?_; try simp only [Act.put, sA, s0, s1]
    refine sn 33 44 rfl rfl ?_; try simp only [Act.put, sA, s0, s1]
    refine sn 34 45 rfl rfl ?_; try simp only [Act.put, sA, s0, s1]
    refine sy 35 46 rfl rfl ?_; try simp only [Act.put, sA, s0, s1]
    refine sy 36 47 rfl rfl ?_; try simp only [Act.put, sA, s0, s1]
    refine wpAnyH_done (by kernel_rfl) ?_ _; clear hHeld HB HR H0 CHK
    have PD := h_ (PC.out.trans C9.out)
    go_wp2
    go_loopw [4] (fun v4 wr => ∃ (j : Nat), j ≤ xs.length ∧ v4 = .int .i64 j ∧ Hid (∀ f ∈ es.take j, aheadP e f = false) ∧ Hid (Chg [] w wr)) (fun v4 _ => xs.length - (RowKit.intOf v4).toNat)
    case atStart => exact ⟨0, Nat.zero_le _, rfl, h_ (by simp), PD⟩
    case round =>
     obtain ⟨j, hj, rfl, NB, PD⟩ := hrel
     have u0 : (0 : Int) ≤ (j : Int) := by omega
     by_cases hjl : j < xs.length
     ·
      have u1 : (j : Int) < (xs.length : Int) := by omega
      have u3 : IntKind.i64.wrap ((j : Int) + 1) = (j : Int) + 1 := IntWalk.i64_in _ (by have := HN.out; omega)
      obtain ⟨z, d, ez, ed, rz⟩ := HX.out.at_ hjl
      have EZ := h_ ez
      have ED := h_ ed
      have RZ := h_ rz
      have ESZ := h_ (HS.out d (List.mem_of_getElem? ed))
      clear ez ed rz
      go_upto_region 9 with fail
      have HB : Hid (∀ w', Chg [] wr w' → (w'.cell? ⟨g3, o3 + 0 * 7, none⟩ = some (.int .i64 x.n) ∧ w'.cell? ⟨g3, o3 + 0 * 7 + 1, none⟩ = some (.int .i64 x.s) ∧ w'.cell? ⟨g3, o3 + 0 * 7 + 2, none⟩ = some (.string x.p) ∧ w'.cell? ⟨g3, o3 + 0 * 7 + 3, none⟩ = some (.int .i64 x.k) ∧ w'.cell? ⟨g3, o3 + 0 * 7 + 4, none⟩ = some (.int .i64 x.m) ∧ w'.cell? ⟨g3, o3 + 0 * 7 + 5, none⟩ = some (.slice x.A x.l x.c) ∧ w'.cell? ⟨g3, o3 + 0 * 7 + 6, none⟩ = some (.slice x.B x.bl x.bc))) := h_ (fun w' hc => evCells (HA.out.chg (PD.out.trans hc) (by simp)) EX.out)
      have HZ : Hid (∀ w', Chg [] wr w' → (w'.cell? ⟨g3, o3 + j * 7, none⟩ = some (.int .i64 z.n) ∧ w'.cell? ⟨g3, o3 + j * 7 + 1, none⟩ = some (.int .i64 z.s) ∧ w'.cell? ⟨g3, o3 + j * 7 + 2, none⟩ = some (.string z.p) ∧ w'.cell? ⟨g3, o3 + j * 7 + 3, none⟩ = some (.int .i64 z.k) ∧ w'.cell? ⟨g3, o3 + j * 7 + 4, none⟩ = some (.int .i64 z.m) ∧ w'.cell? ⟨g3, o3 + j * 7 + 5, none⟩ = some (.slice z.A z.l z.c) ∧ w'.cell? ⟨g3, o3 + j * 7 + 6, none⟩ = some (.slice z.B z.bl z.bc))) := h_ (fun w' hc => evCells (HA.out.chg (PD.out.trans hc) (by simp)) EZ.out)
      have AHD : Hid (∀ w', Chg [] wr w' → Calls Tryz.prog 125 #[.agg #[.int .i64 x.n, .int .i64 x.s, .string x.p, .int .i64 x.k, .int .i64 x.m, .slice x.A x.l x.c, .slice x.B x.bl x.bc], .agg #[.int .i64 z.n, .int .i64 z.s, .string z.p, .int .i64 z.k, .int .i64 z.m, .slice z.A z.l z.c, .slice z.B z.bl z.bc]] w' fun r w2 => r = .returned (.bool (aheadP e d)) ∧ Chg [] w' w2) := h_ (fun w' hc => veahead_any w' x z e d (RX1.out.chg (PD.out.trans hc)) (RZ.out.chg (PD.out.trans hc)) ES1.out ESZ.out)
      refine wp_region_held_drew (S := fun w' => Chg [] wr w') (by kernel_rfl) (Chg.refl [] wr).drew (fun hHeld => ?_)
      refine sy 0 54 rfl rfl ?_; try simp only [Act.put, sA, s0, s1]
      refine sy 1 55 rfl rfl ?_; try simp only [Act.put, sA, s0, s1]
      refine sy 2 56 rfl rfl ?_; try simp only [Act.put, sA, s0, s1]
      refine sy 3 57 rfl rfl ?_ (hy := by (intro w hSw; (try dsimp only at hSw); have hq := HB.out _ hSw; obtain ⟨q0, q1, q2, q3, q4, q5, q6⟩ := hq; (try simp only [Nat.zero_mul, Nat.add_zero] at q0 q1 q2 q3 q4 q5 q6); go_simp; try with_reducible rfl))
      try simp only [Act.put, sA, s0, s1]
      refine sy 4 58 rfl rfl ?_; try simp only [Act.put, sA, s0, s1]
      refine sy 5 59 rfl rfl ?_; try simp only [Act.put, sA, s0, s1]
      refine sy 6 60 rfl rfl ?_; try simp only [Act.put, sA, s0, s1]
      refine sy 7 61 rfl rfl ?_ (hy := by (intro w hSw; (try dsimp only at hSw); have hq := HZ.out _ hSw; obtain ⟨q0, q1, q2, q3, q4, q5, q6⟩ := hq; go_simp; try with_reducible rfl))
      try simp only [Act.put, sA, s0, s1]
      refine on1 8 rfl (fun K hK => ?_)
      go_simp
      refine (AHD.out _ hHeld).mono ?_
      rintro r w7 ⟨rfl, hc⟩
      have C7 := h_ (hHeld.trans hc)
      clear hc hHeld
      refine hK.out _ _ C7.out (fun hHeld => ?_)
      clear hK K; try simp only [Act.put, sA, s0, s1]
      refine wpAnyH_done (by kernel_rfl) ?_ _; clear hHeld HB HZ AHD
      have RC9 := h_ (PD.out.trans C7.out)
      rcases ha : aheadP e d with _ | _
      ·
       have NB1 : Hid (∀ f ∈ es.take (j + 1), aheadP e f = false) := h_ (fun f hf => by
        rw [List.take_add_one, ED.out] at hf
        rcases List.mem_append.1 hf with q | q
        ·
         exact NB.out f q
        ·
         simp at q; subst q; exact ha)
       clear ha NB; go_wp2; go_round
       case rel => exact ⟨j + 1, by omega, by go_num, NB1, RC9⟩
       case measure => simp [RowKit.intOf]; omega
      ·
       have NO : Hid (shE es = 2) := h_ (sh_no_ahead EE.out (List.any_eq_true.2 ⟨d, List.mem_of_getElem? ED.out, ha⟩))
       clear ha; go_wp2; go_ret
       rw [NO.out]
       exact ⟨rfl, RC9.out⟩
     ·
      obtain rfl : j = xs.length := by omega
      have u1 : ¬ (xs.length : Int) < (xs.length : Int) := by omega
      have NA1 : Hid (∀ f ∈ es.take (0 + 1), es.any (fun x => aheadP f x) = false) := h_ (fun f hf => by
       rw [List.take_add_one, EE.out] at hf
       rcases List.mem_append.1 hf with q | q
       ·
        exact NA.out f q
       ·
        simp at q
        subst q
        refine List.any_eq_false.2 (fun y hy => ?_)
        have := NB.out y (by rw [HX.out.1, List.take_length]; exact hy)
        rw [this]
        decide)
      clear NA NB; go_wp2; go_round
      case rel => exact ⟨0 + 1, by omega, by go_num, OT, NA1, PD⟩
      case measure => simp [RowKit.intOf]; omega
   obtain ⟨y, f, ey, ef, ry⟩ := HX.out.at_ (show k - 1 < xs.length by omega)
   have EY := h_ ey
   have EF := h_ ef
   have YD : Hid (y.n = f.n ∧ y.s = f.s ∧ x.n = e.n ∧ x.s = e.s) := h_ ⟨ry.n, ry.s, RX1.out.n, RX1.out.s⟩
   clear ey ef ry
   have g1 : (0 : Int) < (k : Int) := by omega
   have g2 : 0 < k := by omega
   have g3' : decide ((0 : Int) < (k : Int)) = true := by simp; omega
   have g4 : decide (0 < k) = true := by simp; omega
   have w1' : IntKind.i64.wrap ((k : Int) - 1) = ((k - 1 : Nat) : Int) := by rw [IntWalk.i64_in _ (by have := HN.out; omega)]; omega
   have g5 : (0 : Int) ≤ ((k - 1 : Nat) : Int) := by omega
   have g6' : ((k - 1 : Nat) : Int) < (xs.length : Int) := by omega
   have g7 : k - 1 < xs.length := by omega
   by_cases hl : LtD y.n y.s x.n x.s
   rotate_left
   ·
    have NO : Hid (shE es = 2) := h_ (sh_no_lt EE.out EF.out (by omega) (fun q => hl (by rw [YD.out.1, YD.out.2.1, YD.out.2.2.1, YD.out.2.2.2]; exact q)))
    have dl := decide_eq_false hl
    clear hl
    refine wp_region_held_drew (S := fun w' => Chg [] wr w') (by kernel_rfl) (Chg.refl [] wr).drew (fun hHeld => ?_)
    refine sy 0 11 rfl rfl ?_; try simp only [Act.put, sA, s0, s1]
    refine sy 1 12 rfl rfl ?_; try simp only [Act.put, sA, s0, s1]
    refine sy 2 13 rfl rfl ?_; try simp only [Act.put, sA, s0, s1]
    refine sy 3 14 rfl rfl ?_ (hy := by (intro w hSw; (try dsimp only at hSw); have hq := HB.out _ hSw; obtain ⟨q0, q1, q2, q3, q4, q5, q6⟩ := hq; go_simp; try with_reducible rfl))
    try simp only [Act.put, sA, s0, s1]
    refine on1 4 rfl (fun K hK => ?_)
    go_simp
    refine (CHK.out _ hHeld).mono ?_
    rintro r w9 ⟨rfl, hc⟩
    rw [e1]
    have C9 := h_ (hHeld.trans hc)
    clear hc hHeld
    refine hK.out _ _ C9.out (fun hHeld => ?_)
    clear hK K; try simp only [Act.put, sA, s0, s1]
    refine sy 5 16 rfl rfl ?_; try simp only [Act.put, sA, s0, s1]
    refine sy 6 17 rfl rfl ?_; try simp only [Act.put, sA, s0, s1]
    refine sy 7 18 rfl rfl ?_; try simp only [Act.put, sA, s0, s1]
    refine sy 8 19 rfl rfl ?_; try simp only [Act.put, sA, s0, s1]
    refine sy 9 20 rfl rfl ?_; try simp only [Act.put, sA, s0, s1]
    refine sy 10 21 rfl rfl ?_; try simp only [Act.put, sA, s0, s1]
    refine sy 11 22 rfl rfl ?_ (hy := by (intro w hSw; (try dsimp only at hSw); have hq := HB.out _ hSw; obtain ⟨q0, q1, q2, q3, q4, q5, q6⟩ := hq; go_simp; try with_reducible rfl))
    try simp only [Act.put, sA, s0, s1]
    refine sy 12 23 rfl rfl ?_; try simp only [Act.put, sA, s0, s1]
    refine sy 13 24 rfl rfl ?_; try simp only [Act.put, sA, s0, s1]
    refine sy 14 25 rfl rfl ?_; try simp only [Act.put, sA, s0, s1]
    refine sy 15 26 rfl rfl ?_ (hy := by (intro w hSw; (try dsimp only at hSw); have hq := H0.out _ hSw; go_simp; try with_reducible rfl))
    try simp only [Act.put, sA, s0, s1]
    refine sy 16 27 rfl rfl ?_; try simp only [Act.put, sA, s0, s1]
    refine sy 17 28 rfl rfl ?_; try simp only [Act.put, sA, s0, s1]
    refine sy 18 29 rfl rfl ?_; try simp only [Act.put, sA, s0, s1]
    refine sy 19 30 rfl rfl ?_; try simp only [Act.put, sA, s0, s1]
    refine sy 20 31 rfl rfl ?_; try simp only [Act.put, sA, s0, s1]
    refine sy 21 32 rfl rfl ?_; try simp only [Act.put, sA, s0, s1]
    refine sy 22 33 rfl rfl ?_; try simp only [Act.put, sA, s0, s1]
    refine sy 23 34 rfl rfl ?_; try simp only [Act.put, sA, s0, s1]
    refine sy 24 35 rfl rfl ?_; try simp only [Act.put, sA, s0, s1]
    refine sy 25 36 rfl rfl ?_; try simp only [Act.put, sA, s0, s1]
    refine sy 26 37 rfl rfl ?_; try simp only [Act.put, sA, s0, s1]
    refine sy 27 38 rfl rfl ?_ (hy := by (intro w hSw; (try dsimp only at hSw); have hq := HR.out _ hSw y EY.out; obtain ⟨p0, p1⟩ := hq; go_simp; try with_reducible rfl))
    try simp only [Act.put, sA, s0, s1]
    refine sy 28 39 rfl rfl ?_; try simp only [Act.put, sA, s0, s1]
    refine sy 29 40 rfl rfl ?_; try simp only [Act.put, sA, s0, s1]
    refine sy 30 41 rfl rfl ?_; try simp only [Act.put, sA, s0, s1]
    refine sy 31 42 rfl rfl ?_; try simp only [Act.put, sA, s0, s1]
    refine sy 32 43 rfl rfl ?_ (hy := by (intro w hSw; (try dsimp only at hSw); have hq := HB.out _ hSw; obtain ⟨q0, q1, q2, q3, q4, q5, q6⟩ := hq; go_simp; try with_reducible rfl))
    try simp only [Act.put, sA, s0, s1]
    refine on1 33 rfl (fun K hK => ?_)
    go_simp
    refine (hless_any _ _ _ _ _).mono ?_
    rintro r w8 ⟨rfl, hc⟩
    rw [dl]
    have C8 := h_ (hHeld.trans hc)
    clear hc hHeld
    refine hK.out _ _ C8.out (fun hHeld => ?_)
    clear hK K; try simp only [Act.put, sA, s0, s1]
    refine sy 34 45 rfl rfl ?_; try simp only [Act.put, sA, s0, s1]
    refine sy 35 46 rfl rfl ?_; try simp only [Act.put, sA, s0, s1]
    refine sy 36 47 rfl rfl ?_; try simp only [Act.put, sA, s0, s1]
    refine wpAnyH_done (by kernel_rfl) ?_ _; clear hHeld HB HR H0 CHK; go_wp2; go_ret
    rw [NO.out]
    exact ⟨rfl, PC.out.trans C8.out⟩
   have OT : Hid (ShTo es (k + 1)) := h_ (shTo_next ST.out EE.out e1 (fun d hd => by rw [EF0.out] at hd; cases hd; exact HP.out) (.inr (fun d hd => by rw [EF.out] at hd; cases hd; unfold LtEv; rw [← YD.out.1, ← YD.out.2.1, ← YD.out.2.2.1, ← YD.out.2.2.2]; exact hl)))
   have dl := decide_eq_true hl
   clear hl
   refine wp_region_held_drew (S := fun w' => Chg [] wr w') (by kernel_rfl) (Chg.refl [] wr).drew (fun hHeld => ?_)
   refine sy 0 11 rfl rfl ?_; try simp only [Act.put, sA, s0, s1]
   refine sy 1 12 rfl rfl ?_; try simp only [Act.put, sA, s0, s1]
   refine sy 2 13 rfl rfl ?_; try simp only [Act.put, sA, s0, s1]
   refine sy 3 14 rfl rfl ?_ (hy := by (intro w hSw; (try dsimp only at hSw); have hq := HB.out _ hSw; obtain ⟨q0, q1, q2, q3, q4, q5, q6⟩ := hq; go_simp; try with_reducible rfl))
   try simp only [Act.put, sA, s0, s1]
   refine on1 4 rfl (fun K hK => ?_)
   go_simp
   refine (CHK.out _ hHeld).mono ?_
   rintro r w9 ⟨rfl, hc⟩
   rw [e1]
   have C9 := h_ (hHeld.trans hc)
   clear hc hHeld
   refine hK.out _ _ C9.out (fun hHeld => ?_)
   clear hK K; try simp only [Act.put, sA, s0, s1]
   refine sy 5 16 rfl rfl ?_; try simp only [Act.put, sA, s0, s1]
   refine sy 6 17 rfl rfl ?_; try simp only [Act.put, sA, s0, s1]
   refine sy 7 18 rfl rfl ?_; try simp only [Act.put, sA, s0, s1]
   refine sy 8 19 rfl rfl ?_; try simp only [Act.put, sA, s0, s1]
   refine sy 9 20 rfl rfl ?_; try simp only [Act.put, sA, s0, s1]
   refine sy 10 21 rfl rfl ?_; try simp only [Act.put, sA, s0, s1]
   refine sy 11 22 rfl rfl ?_ (hy := by (intro w hSw; (try dsimp only at hSw); have hq := HB.out _ hSw; obtain ⟨q0, q1, q2, q3, q4, q5, q6⟩ := hq; go_simp; try with_reducible rfl))
   try simp only [Act.put, sA, s0, s1]
   refine sy 12 23 rfl rfl ?_; try simp only [Act.put, sA, s0, s1]
   refine sy 13 24 rfl rfl ?_; try simp only [Act.put, sA, s0, s1]
   refine sy 14 25 rfl rfl ?_; try simp only [Act.put, sA, s0, s1]
   refine sy 15 26 rfl rfl ?_ (hy := by (intro w hSw; (try dsimp only at hSw); have hq := H0.out _ hSw; go_simp; try with_reducible rfl))
   try simp only [Act.put, sA, s0, s1]
   refine sy 16 27 rfl rfl ?_; try simp only [Act.put, sA, s0, s1]
   refine sy 17 28 rfl rfl ?_; try simp only [Act.put, sA, s0, s1]
   refine sy 18 29 rfl rfl ?_; try simp only [Act.put, sA, s0, s1]
   refine sy 19 30 rfl rfl ?_; try simp only [Act.put, sA, s0, s1]
   refine sy 20 31 rfl rfl ?_; try simp only [Act.put, sA, s0, s1]
   refine sy 21 32 rfl rfl ?_; try simp only [Act.put, sA, s0, s1]
   refine sy 22 33 rfl rfl ?_; try simp only [Act.put, sA, s0, s1]
   refine sy 23 34 rfl rfl ?_; try simp only [Act.put, sA, s0, s1]
   refine sy 24 35 rfl rfl ?_; try simp only [Act.put, sA, s0, s1]
   refine sy 25 36 rfl rfl ?_; try simp only [Act.put, sA, s0, s1]
   refine sy 26 37 rfl rfl ?_; try simp only [Act.put, sA, s0, s1]
   refine sy 27 38 rfl rfl ?_ (hy := by (intro w hSw; (try dsimp only at hSw); have hq := HR.out _ hSw y EY.out; obtain ⟨p0, p1⟩ := hq; go_simp; try with_reducible rfl))
   try simp only [Act.put, sA, s0, s1]
   refine sy 28 39 rfl rfl ?_; try simp only [Act.put, sA, s0, s1]
   refine sy 29 40 rfl rfl ?_; try simp only [Act.put, sA, s0, s1]
   refine sy 30 41 rfl rfl ?_; try simp only [Act.put, sA, s0, s1]
   refine sy 31 42 rfl rfl ?_; try simp only [Act.put, sA, s0, s1]
   refine sy 32 43 rfl rfl ?_ (hy := by (intro w hSw; (try dsimp only at hSw); have hq := HB.out _ hSw; obtain ⟨q0, q1, q2, q3, q4, q5, q6⟩ := hq; go_simp; try with_reducible rfl))
   try simp only [Act.put, sA, s0, s1]
   refine on1 33 rfl (fun K hK => ?_)
   go_simp
   refine (hless_any _ _ _ _ _).mono ?_
   rintro r w8 ⟨rfl, hc⟩
   rw [dl]
   have C8 := h_ (hHeld.trans hc)
   clear hc hHeld
   refine hK.out _ _ C8.out (fun hHeld => ?_)
   clear hK K; try simp only [Act.put, sA, s0, s1]
   refine sy 34 45 rfl rfl ?_; try simp only [Act.put, sA, s0, s1]
   refine sy 35 46 rfl rfl ?_; try simp only [Act.put, sA, s0, s1]
   refine sy 36 47 rfl rfl ?_; try simp only [Act.put, sA, s0, s1]
   refine wpAnyH_done (by kernel_rfl) ?_ _; clear hHeld HB HR H0 CHK
   have PD := h_ (PC.out.trans C8.out)
   go_wp2
   go_loopw [4] (fun v4 wr => ∃ (j : Nat), j ≤ xs.length ∧ v4 = .int .i64 j ∧ Hid (∀ f ∈ es.take j, aheadP e f = false) ∧ Hid (Chg [] w wr)) (fun v4 _ => xs.length - (RowKit.intOf v4).toNat)
   case atStart => exact ⟨0, Nat.zero_le _, rfl, h_ (by simp), PD⟩
   case round =>
    obtain ⟨j, hj, rfl, NB, PD⟩ := hrel
    have u0 : (0 : Int) ≤ (j : Int) := by omega
    by_cases hjl : j < xs.length
    ·
     have u1 : (j : Int) < (xs.length : Int) := by omega
     have u3 : IntKind.i64.wrap ((j : Int) + 1) = (j : Int) + 1 := IntWalk.i64_in _ (by have := HN.out; omega)
     obtain ⟨z, d, ez, ed, rz⟩ := HX.out.at_ hjl
     have EZ := h_ ez
     have ED := h_ ed
     have RZ := h_ rz
     have ESZ := h_ (HS.out d (List.mem_of_getElem? ed))
     clear ez ed rz
     go_upto_region 9 with fail
     have HB : Hid (∀ w', Chg [] wr w' → (w'.cell? ⟨g3, o3 + k * 7, none⟩ = some (.int .i64 x.n) ∧ w'.cell? ⟨g3, o3 + k * 7 + 1, none⟩ = some (.int .i64 x.s) ∧ w'.cell? ⟨g3, o3 + k * 7 + 2, none⟩ = some (.string x.p) ∧ w'.cell? ⟨g3, o3 + k * 7 + 3, none⟩ = some (.int .i64 x.k) ∧ w'.cell? ⟨g3, o3 + k * 7 + 4, none⟩ = some (.int .i64 x.m) ∧ w'.cell? ⟨g3, o3 + k * 7 + 5, none⟩ = some (.slice x.A x.l x.c) ∧ w'.cell? ⟨g3, o3 + k * 7 + 6, none⟩ = some (.slice x.B x.bl x.bc))) := h_ (fun w' hc => evCells (HA.out.chg (PD.out.trans hc) (by simp)) EX.out)
     have HZ : Hid (∀ w', Chg [] wr w' → (w'.cell? ⟨g3, o3 + j * 7, none⟩ = some (.int .i64 z.n) ∧ w'.cell? ⟨g3, o3 + j * 7 + 1, none⟩ = some (.int .i64 z.s) ∧ w'.cell? ⟨g3, o3 + j * 7 + 2, none⟩ = some (.string z.p) ∧ w'.cell? ⟨g3, o3 + j * 7 + 3, none⟩ = some (.int .i64 z.k) ∧ w'.cell? ⟨g3, o3 + j * 7 + 4, none⟩ = some (.int .i64 z.m) ∧ w'.cell? ⟨g3, o3 + j * 7 + 5, none⟩ = some (.slice z.A z.l z.c) ∧ w'.cell? ⟨g3, o3 + j * 7 + 6, none⟩ = some (.slice z.B z.bl z.bc))) := h_ (fun w' hc => evCells (HA.out.chg (PD.out.trans hc) (by simp)) EZ.out)
     have AHD : Hid (∀ w', Chg [] wr w' → Calls Tryz.prog 125 #[.agg #[.int .i64 x.n, .int .i64 x.s, .string x.p, .int .i64 x.k, .int .i64 x.m, .slice x.A x.l x.c, .slice x.B x.bl x.bc], .agg #[.int .i64 z.n, .int .i64 z.s, .string z.p, .int .i64 z.k, .int .i64 z.m, .slice z.A z.l z.c, .slice z.B z.bl z.bc]] w' fun r w2 => r = .returned (.bool (aheadP e d)) ∧ Chg [] w' w2) := h_ (fun w' hc => veahead_any w' x z e d (RX1.out.chg (PD.out.trans hc)) (RZ.out.chg (PD.out.trans hc)) ES1.out ESZ.out)
     refine wp_region_held_drew (S := fun w' => Chg [] wr w') (by kernel_rfl) (Chg.refl [] wr).drew (fun hHeld => ?_)
     refine sy 0 54 rfl rfl ?_; try simp only [Act.put, sA, s0, s1]
     refine sy 1 55 rfl rfl ?_; try simp only [Act.put, sA, s0, s1]
     refine sy 2 56 rfl rfl ?_; try simp only [Act.put, sA, s0, s1]
     refine sy 3 57 rfl rfl ?_ (hy := by (intro w hSw; (try dsimp only at hSw); have hq := HB.out _ hSw; obtain ⟨q0, q1, q2, q3, q4, q5, q6⟩ := hq; go_simp; try with_reducible rfl))
     try simp only [Act.put, sA, s0, s1]
     refine sy 4 58 rfl rfl ?_; try simp only [Act.put, sA, s0, s1]
     refine sy 5 59 rfl rfl ?_; try simp only [Act.put, sA, s0, s1]
     refine sy 6 60 rfl rfl ?_; try simp only [Act.put, sA, s0, s1]
     refine sy 7 61 rfl rfl ?_ (hy := by (intro w hSw; (try dsimp only at hSw); have hq := HZ.out _ hSw; obtain ⟨q0, q1, q2, q3, q4, q5, q6⟩ := hq; go_simp; try with_reducible rfl))
     try simp only [Act.put, sA, s0, s1]
     refine on1 8 rfl (fun K hK => ?_)
     go_simp
     refine (AHD.out _ hHeld).mono ?_
     rintro r w7 ⟨rfl, hc⟩
     have C7 := h_ (hHeld.trans hc)
     clear hc hHeld
     refine hK.out _ _ C7.out (fun hHeld => ?_)
     clear hK K; try simp only [Act.put, sA, s0, s1]
     refine wpAnyH_done (by kernel_rfl) ?_ _; clear hHeld HB HZ AHD
     have RC9 := h_ (PD.out.trans C7.out)
     rcases ha : aheadP e d with _ | _
     ·
      have NB1 : Hid (∀ f ∈ es.take (j + 1), aheadP e f = false) := h_ (fun f hf => by
       rw [List.take_add_one, ED.out] at hf
       rcases List.mem_append.1 hf with q | q
       ·
        exact NB.out f q
       ·
        simp at q; subst q; exact ha)
      clear ha NB; go_wp2; go_round
      case rel => exact ⟨j + 1, by omega, by go_num, NB1, RC9⟩
      case measure => simp [RowKit.intOf]; omega
     ·
      have NO : Hid (shE es = 2) := h_ (sh_no_ahead EE.out (List.any_eq_true.2 ⟨d, List.mem_of_getElem? ED.out, ha⟩))
      clear ha; go_wp2; go_ret
      rw [NO.out]
      exact ⟨rfl, RC9.out⟩
    ·
     obtain rfl : j = xs.length := by omega
     have u1 : ¬ (xs.length : Int) < (xs.length : Int) := by omega
     have NA1 : Hid (∀ f ∈ es.take (k + 1), es.any (fun x => aheadP f x) = false) := h_ (fun f hf => by
      rw [List.take_add_one, EE.out] at hf
      rcases List.mem_append.1 hf with q | q
      ·
       exact NA.out f q
      ·
       simp at q
       subst q
       refine List.any_eq_false.2 (fun y hy => ?_)
       have := NB.out y (by rw [HX.out.1, List.take_length]; exact hy)
       rw [this]
       decide)
     clear NA NB; go_wp2; go_round
     case rel => exact ⟨k + 1, by omega, by go_num, OT, NA1, PD⟩
     case measure => simp [RowKit.intOf]; omega
  ·
   obtain rfl : k = xs.length := by omega
   have j1 : ¬ (xs.length : Int) < (xs.length : Int) := by omega
   have OK : Hid (shE es = 0) := h_ (sh_done (by rw [← HX.out.1]; exact ST.out) (by
    have := NA.out
    rw [HX.out.1, List.take_length] at this
    exact this))
   clear ST NA; go_wp2; go_ret
   rw [OK.out]
   exact ⟨rfl, PC.out⟩
end
section
open Go.RowKit
set_option maxRecDepth 100000 in
theorem qhless_any (w : World) (a b : List UInt8) (ha : a.length ≤ 10000000) (hb : b.length ≤ 10000000) :
  Calls Tryz.prog 75 #[.string (strOf a), .string (strOf b)] w fun e w' => e = .returned (.bool (lessL a b)) ∧ Chg [] w w' := by
 have S1 := h_ (fun w => qcut_any w a ha)
 have S2 := h_ (fun w => qcut_any w b hb)
 have L1 := h_ (show (cutL a).length ≤ 100000000 by have := cutA_len a []; show (cutA [] a).length ≤ _; omega)
 have L2 := h_ (show (cutL b).length ≤ 100000000 by have := cutA_len b []; show (cutA [] b).length ≤ _; omega)
 unfold lessL
 generalize cutL a = xs at *
 generalize cutL b = ys at *
 obtain ⟨R, hR⟩ : ∃ R, cmpT xs ys = R := ⟨_, rfl⟩
 rw [hR]
 have HR := h_ hR
 clear hR
 go_enter Tryz.func75, Tryz.ntmps75
 go_wp2_with fail
 refine (S1.out _).mono ?_
 rintro e w1 ⟨A, c, rfl, o1, _, hc1⟩
 have O1 := h_ o1
 have C1 := h_ hc1
 clear o1 hc1; go_wp2_with fail
 refine (S2.out _).mono ?_
 rintro e w2 ⟨B, d, rfl, o2, _, hc2⟩
 have HA := h_ (O1.out.chg hc2 (by simp)).reads
 have HB := h_ o2.reads
 have C2 := h_ (C1.out.trans hc2)
 clear o2 hc2
 have hx := L1.out
 have hy := L2.out
 go_wp2
 go_loopw [7] (fun v7 wr => ∃ k : Nat, k ≤ xs.length ∧ k ≤ ys.length ∧ v7 = .int .i64 (k : Int) ∧ Hid (cmpT (xs.drop k) (ys.drop k) = R) ∧ Hid (Chg [] w2 wr)) (fun v7 _ => xs.length - (RowKit.intOf v7).toNat)
 case atStart => exact ⟨0, Nat.zero_le _, Nat.zero_le _, rfl, HR, Chg.refl _ _⟩
 case round =>
  obtain ⟨k, hk, hk2, rfl, HC, HI⟩ := hrel
  have k1 : IntKind.i64.wrap ((k : Int) + 1) = (k : Int) + 1 := IntWalk.i64_in _ (by omega)
  have i0 : (0 : Int) ≤ (k : Int) := by omega
  by_cases hlt : k < xs.length
  ·
   have i1 : (k : Int) < (xs.length : Int) := by omega
   by_cases hlt2 : k < ys.length
   ·
    have i2 : (k : Int) < (ys.length : Int) := by omega
    obtain ⟨g, o, eA, _⟩ := HA.out.line (by omega)
    subst eA
    obtain ⟨g2, o2, eB, _⟩ := HB.out.line (by omega)
    subst eB
    have ex := List.getElem?_eq_getElem hlt
    have z := textCells (HA.out.chg HI.out (by simp)) ex
    have ey := List.getElem?_eq_getElem hlt2
    have z2 := textCells (HB.out.chg HI.out (by simp)) ey
    have HT := h_ (cmpT_at xs ys k hlt hlt2)
    generalize xs[k] = x at *
    generalize ys[k] = y at *
    clear ex ey
    by_cases hxy : x = y
    ·
     subst hxy
     have HQ := h_ (HC.out.symm.trans (HT.out.trans (if_pos (cb_self x))))
     have h1 : (x == x) = true := by simp
     go_wp2
     go_quiet (fail)
     go_wp2
     exact ⟨⟨k + 1, by omega, by omega, by simp, h_ HQ.out.symm, h_ (HI.out.drewN _)⟩, by simp [RowKit.intOf]; omega⟩
    ·
     have hcb : ¬ Lib.compareBytes x y = 0 := fun e => hxy (cb_zero x y e)
     have HQ := h_ (HC.out.symm.trans (HT.out.trans (if_neg hcb)))
     have h1 : (x == y) = false := by simpa using hxy
     have h2 := str_ne hxy
     have HL := h_ (cb_less x y)
     clear hcb; go_wp2
     go_quiet (fail)
     go_wp2
     go_quiet (fail)
     go_wp2; go_ret
     exact ⟨congrArg (fun v => Ending.returned (Value.bool v)) (by rw [HL.out, HQ.out]), ((C2.out.trans HI.out).drewN _).drewN _⟩
   ·
    have i2 : ¬ ((k : Int) < (ys.length : Int)) := by omega
    have i4 : ¬ ((xs.length : Int) < (ys.length : Int)) := by omega
    have HQ := h_ (HC.out.symm.trans (cmpT_end1 xs ys k hlt (by omega)))
    go_wp2; go_ret
    exact ⟨by rw [HQ.out]; rfl, C2.out.trans HI.out⟩
  ·
   have i1 : ¬ ((k : Int) < (xs.length : Int)) := by omega
   by_cases hl2 : xs.length < ys.length
   ·
    have i4 : (xs.length : Int) < (ys.length : Int) := by omega
    have HQ := h_ (HC.out.symm.trans (cmpT_endm xs ys k (by omega) (by omega)))
    go_wp2; go_ret
    exact ⟨by rw [HQ.out]; rfl, C2.out.trans HI.out⟩
   ·
    have i4 : ¬ ((xs.length : Int) < (ys.length : Int)) := by omega
    have HQ := h_ (HC.out.symm.trans (cmpT_end0 xs ys k (by omega) (by omega)))
    go_wp2; go_ret
    exact ⟨by rw [HQ.out]; rfl, C2.out.trans HI.out⟩
end
end Go.Proofs.YtehmchdhlhchjaaGreatDoor
