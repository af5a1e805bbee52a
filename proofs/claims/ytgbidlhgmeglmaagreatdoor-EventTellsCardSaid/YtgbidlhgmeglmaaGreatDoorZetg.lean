/- The document's Check of an event. The document's Ahead. Package past: Bytes; the document's. The document's Bytes of a past. The program's Bytes of a past. event.Bytes, Size. The document's Bytes, Size of an event. The kit's CopyEffect. -/
import Derived.Test.YtgbidlhgmeglmaaGreatDoorZetd
import Derived.Test.YtgbidlhgmeglmaaGreatDoorZetf
import Derived.Test.YtgbidlhgmeglmaaGreatDoorZete
import Derived.Deep.RegionHeld3
import Derived.Deep.Cut
import Derived.Test.YtgbidlhgmeglmaaGreatDoorZetc
import Derived.Test.YtgbidlhgmeglmaaGreatDoorZeta
import Derived.Laws.MakeOwn
namespace Go.Proofs.YtgbidlhgmeglmaaGreatDoor
section
open Go.RowKit Go.Lib
set_option linter.unusedSimpArgs false
set_option linter.unusedVariables false


set_option maxRecDepth 100000 in
set_option maxHeartbeats 8000000 in
theorem vecheck_0 (w : World) (x : EvT) (e : EvP) (h : EvR w x e) (hs : EvSm e) (hk : ∀ i, i < 0 → evOk e i) (hn : ¬ evOk e 0) :
    Calls Tryz.prog 15 #[.agg #[.int .i64 x.n, .int .i64 x.s, .string x.p, .int .i64 x.k, .int .i64 x.m, .slice x.A x.l x.c, .slice x.B x.bl x.bc]] w fun r w' => r = .returned (.int .i64 2) ∧ Chg [] w w' := by
  obtain ⟨w1, hw1, c1, b1⟩ := news1 w (.cells #[.int .i64 x.n, .int .i64 x.s, .string x.p, .int .i64 x.k, .int .i64 x.m, .slice x.A x.l x.c, .slice x.B x.bl x.bc] 29)
  have W1 := Lib.hid hw1
  have HR := Lib.hid (h.chg c1)
  have C := Lib.hid c1
  have HS := Lib.hid hs
  have k0 : Hid (¬ evOk e 0) := Lib.hid hn
  have hxn := h.n
  have hxs := h.s
  have hxp := h.p
  have hxk := h.k
  have hxm := h.m
  have hxl := h.l
  have hxbl := h.bl
  rw [hxn, hxs, hxp, hxk, hxm, hxl, hxbl] at b1 W1
  rw [hxn, hxs, hxp, hxk, hxm, hxl, hxbl]
  clear hxn hxs hxp hxk hxm hxl hxbl
  have z0 := cell_of b1 0
  have z1 := cell_of b1 1
  have z2 := cell_of b1 2
  have z3 := cell_of b1 3
  have z4 := cell_of b1 4
  have z5 := cell_of b1 5
  have z6 := cell_of b1 6
  simp only [List.getElem?_toArray, List.getElem?_cons_succ, List.getElem?_cons_zero] at z0 z1 z2 z3 z4 z5 z6
  clear hw1 c1 h hs hk hn b1
  go_enter Tryz.func15, Tryz.ntmps15
  go_upto_region 1 with fail
  rw [← W1.out]
  generalize w.heap.size = g0 at *
  refine wp_region_held_drew (S := fun w' => w'.cell? ⟨g0, 0, none⟩ = some (.int .i64 e.n) ∧ w'.cell? ⟨g0, 1, none⟩ = some (.int .i64 e.s) ∧ w'.cell? ⟨g0, 2, none⟩ = some (.string (strOf e.p)) ∧ w'.cell? ⟨g0, 3, none⟩ = some (.int .i64 e.k) ∧ w'.cell? ⟨g0, 4, none⟩ = some (.int .i64 e.m) ∧ w'.cell? ⟨g0, 5, none⟩ = some (.slice x.A e.b.length x.c) ∧ w'.cell? ⟨g0, 6, none⟩ = some (.slice x.B e.q.length x.bc)) (by kernel_rfl) ⟨z0, z1, z2, z3, z4, z5, z6⟩ (fun hHeld => ?_)
  have CC : Hid (Chg [] w1 w1.drew) := Lib.hid (Chg.refl [] w1).drew
  have DX : Hid (∀ w', Chg [] w1 w' → w'.cell? ⟨g0, 0, none⟩ = some (.int .i64 e.n) ∧ w'.cell? ⟨g0, 1, none⟩ = some (.int .i64 e.s) ∧ w'.cell? ⟨g0, 2, none⟩ = some (.string (strOf e.p)) ∧ w'.cell? ⟨g0, 3, none⟩ = some (.int .i64 e.k) ∧ w'.cell? ⟨g0, 4, none⟩ = some (.int .i64 e.m) ∧ w'.cell? ⟨g0, 5, none⟩ = some (.slice x.A e.b.length x.c) ∧ w'.cell? ⟨g0, 6, none⟩ = some (.slice x.B e.q.length x.bc)) := Lib.hid (fun w' hc => ⟨hc.cell z0 (by simp), hc.cell z1 (by simp), hc.cell z2 (by simp), hc.cell z3 (by simp), hc.cell z4 (by simp), hc.cell z5 (by simp), hc.cell z6 (by simp)⟩)
  clear z0 z1 z2 z3 z4 z5 z6 hHeld W1
  generalize w1.drew = wc at *
  refine sy 0 3 rfl rfl ?_ (hS := (DX.out _ CC.out))
  try simp only [Act.put, sA, s0, s1]
  refine sy 1 4 rfl rfl ?_ (hS := (DX.out _ CC.out)) (hy := by (intro w hSw; (try dsimp only at hSw); obtain ⟨q0, q1, q2, q3, q4, q5, q6⟩ := hSw; go_simp; try with_reducible rfl))
  try simp only [Act.put, sA, s0, s1]
  refine wpAnyH_ready (rs := [2]) (by kernel_rfl) (by simp) ?_
  refine AllReadyH.cons rfl (fun K hK => ?_) AllReadyH.nil
  replace hK := Lib.hid hK
  go_simp
  refine (hcheck_dot wc e.n e.s).mono ?_
  rintro r wc ⟨rfl, hc⟩
  rw [chk_dot, if_neg (show ¬ FineQ e.n e.s from fun q => k0.out (chkD_fine q))]
  replace CC := Lib.hid (CC.out.trans hc)
  clear hc
  refine hK.out _ _ (DX.out _ CC.out) (fun hHeld => ?_)
  clear hK K
  try simp only [Act.put, sA, s0, s1]
  refine sy 3 6 rfl rfl ?_ (hS := (DX.out _ CC.out))
  try simp only [Act.put, sA, s0, s1]
  refine sy 4 7 rfl rfl ?_ (hS := (DX.out _ CC.out))
  try simp only [Act.put, sA, s0, s1]
  refine sn 5 8 rfl rfl ?_ (hS := (DX.out _ CC.out))
  try simp only [Act.put, sA, s0, s1]
  refine sn 6 9 rfl rfl ?_ (hS := (DX.out _ CC.out))
  try simp only [Act.put, sA, s0, s1]
  refine sn 7 10 rfl rfl ?_ (hS := (DX.out _ CC.out))
  try simp only [Act.put, sA, s0, s1]
  refine sn 8 11 rfl rfl ?_ (hS := (DX.out _ CC.out))
  try simp only [Act.put, sA, s0, s1]
  refine sy 9 12 rfl rfl ?_ (hS := (DX.out _ CC.out))
  try simp only [Act.put, sA, s0, s1]
  refine sy 10 13 rfl rfl ?_ (hS := (DX.out _ CC.out))
  try simp only [Act.put, sA, s0, s1]
  refine sn 11 14 rfl rfl ?_ (hS := (DX.out _ CC.out))
  try simp only [Act.put, sA, s0, s1]
  refine sn 12 15 rfl rfl ?_ (hS := (DX.out _ CC.out))
  try simp only [Act.put, sA, s0, s1]
  refine sn 13 16 rfl rfl ?_ (hS := (DX.out _ CC.out))
  try simp only [Act.put, sA, s0, s1]
  refine sn 14 17 rfl rfl ?_ (hS := (DX.out _ CC.out))
  try simp only [Act.put, sA, s0, s1]
  refine sy 15 18 rfl rfl ?_ (hS := (DX.out _ CC.out))
  try simp only [Act.put, sA, s0, s1]
  refine sy 16 19 rfl rfl ?_ (hS := (DX.out _ CC.out))
  try simp only [Act.put, sA, s0, s1]
  refine sn 17 20 rfl rfl ?_ (hS := (DX.out _ CC.out))
  try simp only [Act.put, sA, s0, s1]
  refine sn 18 21 rfl rfl ?_ (hS := (DX.out _ CC.out))
  try simp only [Act.put, sA, s0, s1]
  refine sn 19 22 rfl rfl ?_ (hS := (DX.out _ CC.out))
  try simp only [Act.put, sA, s0, s1]
  refine sn 20 23 rfl rfl ?_ (hS := (DX.out _ CC.out))
  try simp only [Act.put, sA, s0, s1]
  refine sy 21 24 rfl rfl ?_ (hS := (DX.out _ CC.out))
  try simp only [Act.put, sA, s0, s1]
  refine sy 22 25 rfl rfl ?_ (hS := (DX.out _ CC.out))
  try simp only [Act.put, sA, s0, s1]
  refine sn 23 26 rfl rfl ?_ (hS := (DX.out _ CC.out))
  try simp only [Act.put, sA, s0, s1]
  refine sn 24 27 rfl rfl ?_ (hS := (DX.out _ CC.out))
  try simp only [Act.put, sA, s0, s1]
  refine sn 25 28 rfl rfl ?_ (hS := (DX.out _ CC.out))
  try simp only [Act.put, sA, s0, s1]
  refine sn 26 29 rfl rfl ?_ (hS := (DX.out _ CC.out))
  try simp only [Act.put, sA, s0, s1]
  refine sn 27 30 rfl rfl ?_ (hS := (DX.out _ CC.out))
  try simp only [Act.put, sA, s0, s1]
  refine sn 28 31 rfl rfl ?_ (hS := (DX.out _ CC.out))
  try simp only [Act.put, sA, s0, s1]
  refine sn 29 32 rfl rfl ?_ (hS := (DX.out _ CC.out))
  try simp only [Act.put, sA, s0, s1]
  refine sn 30 33 rfl rfl ?_ (hS := (DX.out _ CC.out))
  try simp only [Act.put, sA, s0, s1]
  refine sn 31 34 rfl rfl ?_ (hS := (DX.out _ CC.out))
  try simp only [Act.put, sA, s0, s1]
  refine sn 32 35 rfl rfl ?_ (hS := (DX.out _ CC.out))
  try simp only [Act.put, sA, s0, s1]
  refine sy 33 36 rfl rfl ?_ (hS := (DX.out _ CC.out))
  try simp only [Act.put, sA, s0, s1]
  refine wpAnyH_done (by kernel_rfl) ?_ _
  clear hHeld
  go_wp2
  go_ret
  exact ⟨rfl, C.out.trans CC.out⟩

set_option maxRecDepth 100000 in
set_option maxHeartbeats 8000000 in
theorem vecheck_1 (w : World) (x : EvT) (e : EvP) (h : EvR w x e) (hs : EvSm e) (hk : ∀ i, i < 1 → evOk e i) (hn : ¬ evOk e 1) :
    Calls Tryz.prog 15 #[.agg #[.int .i64 x.n, .int .i64 x.s, .string x.p, .int .i64 x.k, .int .i64 x.m, .slice x.A x.l x.c, .slice x.B x.bl x.bc]] w fun r w' => r = .returned (.int .i64 2) ∧ Chg [] w w' := by
  obtain ⟨w1, hw1, c1, b1⟩ := news1 w (.cells #[.int .i64 x.n, .int .i64 x.s, .string x.p, .int .i64 x.k, .int .i64 x.m, .slice x.A x.l x.c, .slice x.B x.bl x.bc] 29)
  have W1 := Lib.hid hw1
  have HR := Lib.hid (h.chg c1)
  have C := Lib.hid c1
  have HS := Lib.hid hs
  have k0 : Hid (evOk e 0) := Lib.hid (hk 0 (by omega))
  have k1 : Hid (¬ evOk e 1) := Lib.hid hn
  have hxn := h.n
  have hxs := h.s
  have hxp := h.p
  have hxk := h.k
  have hxm := h.m
  have hxl := h.l
  have hxbl := h.bl
  rw [hxn, hxs, hxp, hxk, hxm, hxl, hxbl] at b1 W1
  rw [hxn, hxs, hxp, hxk, hxm, hxl, hxbl]
  clear hxn hxs hxp hxk hxm hxl hxbl
  have z0 := cell_of b1 0
  have z1 := cell_of b1 1
  have z2 := cell_of b1 2
  have z3 := cell_of b1 3
  have z4 := cell_of b1 4
  have z5 := cell_of b1 5
  have z6 := cell_of b1 6
  simp only [List.getElem?_toArray, List.getElem?_cons_succ, List.getElem?_cons_zero] at z0 z1 z2 z3 z4 z5 z6
  clear hw1 c1 h hs hk hn b1
  go_enter Tryz.func15, Tryz.ntmps15
  go_upto_region 1 with fail
  rw [← W1.out]
  generalize w.heap.size = g0 at *
  refine wp_region_held_drew (S := fun w' => w'.cell? ⟨g0, 0, none⟩ = some (.int .i64 e.n) ∧ w'.cell? ⟨g0, 1, none⟩ = some (.int .i64 e.s) ∧ w'.cell? ⟨g0, 2, none⟩ = some (.string (strOf e.p)) ∧ w'.cell? ⟨g0, 3, none⟩ = some (.int .i64 e.k) ∧ w'.cell? ⟨g0, 4, none⟩ = some (.int .i64 e.m) ∧ w'.cell? ⟨g0, 5, none⟩ = some (.slice x.A e.b.length x.c) ∧ w'.cell? ⟨g0, 6, none⟩ = some (.slice x.B e.q.length x.bc)) (by kernel_rfl) ⟨z0, z1, z2, z3, z4, z5, z6⟩ (fun hHeld => ?_)
  have CC : Hid (Chg [] w1 w1.drew) := Lib.hid (Chg.refl [] w1).drew
  have DX : Hid (∀ w', Chg [] w1 w' → w'.cell? ⟨g0, 0, none⟩ = some (.int .i64 e.n) ∧ w'.cell? ⟨g0, 1, none⟩ = some (.int .i64 e.s) ∧ w'.cell? ⟨g0, 2, none⟩ = some (.string (strOf e.p)) ∧ w'.cell? ⟨g0, 3, none⟩ = some (.int .i64 e.k) ∧ w'.cell? ⟨g0, 4, none⟩ = some (.int .i64 e.m) ∧ w'.cell? ⟨g0, 5, none⟩ = some (.slice x.A e.b.length x.c) ∧ w'.cell? ⟨g0, 6, none⟩ = some (.slice x.B e.q.length x.bc)) := Lib.hid (fun w' hc => ⟨hc.cell z0 (by simp), hc.cell z1 (by simp), hc.cell z2 (by simp), hc.cell z3 (by simp), hc.cell z4 (by simp), hc.cell z5 (by simp), hc.cell z6 (by simp)⟩)
  clear z0 z1 z2 z3 z4 z5 z6 hHeld W1
  generalize w1.drew = wc at *
  refine sy 0 3 rfl rfl ?_ (hS := (DX.out _ CC.out))
  try simp only [Act.put, sA, s0, s1]
  refine sy 1 4 rfl rfl ?_ (hS := (DX.out _ CC.out)) (hy := by (intro w hSw; (try dsimp only at hSw); obtain ⟨q0, q1, q2, q3, q4, q5, q6⟩ := hSw; go_simp; try with_reducible rfl))
  try simp only [Act.put, sA, s0, s1]
  refine wpAnyH_ready (rs := [2]) (by kernel_rfl) (by simp) ?_
  refine AllReadyH.cons rfl (fun K hK => ?_) AllReadyH.nil
  replace hK := Lib.hid hK
  go_simp
  refine (hcheck_dot wc e.n e.s).mono ?_
  rintro r wc ⟨rfl, hc⟩
  rw [chk_dot, if_pos (show FineQ e.n e.s from Decidable.byContradiction (fun q => absurd k0.out (by show ¬ chkD e.n e.s = 0; rw [chkD_odd q]; decide)))]
  replace CC := Lib.hid (CC.out.trans hc)
  clear hc
  refine hK.out _ _ (DX.out _ CC.out) (fun hHeld => ?_)
  clear hK K
  try simp only [Act.put, sA, s0, s1]
  refine sy 3 6 rfl rfl ?_ (hS := (DX.out _ CC.out))
  try simp only [Act.put, sA, s0, s1]
  refine sy 4 7 rfl rfl ?_ (hS := (DX.out _ CC.out))
  try simp only [Act.put, sA, s0, s1]
  refine sy 5 8 rfl rfl ?_ (hS := (DX.out _ CC.out))
  try simp only [Act.put, sA, s0, s1]
  refine sy 6 9 rfl rfl ?_ (hS := (DX.out _ CC.out)) (hy := by (intro w hSw; (try dsimp only at hSw); obtain ⟨q0, q1, q2, q3, q4, q5, q6⟩ := hSw; go_simp; try with_reducible rfl))
  try simp only [Act.put, sA, s0, s1]
  refine wpAnyH_ready (rs := [7]) (by kernel_rfl) (by simp) ?_
  refine AllReadyH.cons rfl (fun K hK => ?_) AllReadyH.nil
  replace hK := Lib.hid hK
  go_simp
  refine (qcheck_any wc e.p HS.out.1).mono ?_
  rintro r wc ⟨rfl, hc⟩
  rw [if_neg (show ¬ checkL 6 12 e.p = true from k1.out)]
  replace CC := Lib.hid (CC.out.trans hc)
  clear hc
  refine hK.out _ _ (DX.out _ CC.out) (fun hHeld => ?_)
  clear hK K
  try simp only [Act.put, sA, s0, s1]
  refine sy 8 11 rfl rfl ?_ (hS := (DX.out _ CC.out))
  try simp only [Act.put, sA, s0, s1]
  refine sy 9 12 rfl rfl ?_ (hS := (DX.out _ CC.out))
  try simp only [Act.put, sA, s0, s1]
  refine sy 10 13 rfl rfl ?_ (hS := (DX.out _ CC.out))
  try simp only [Act.put, sA, s0, s1]
  refine sn 11 14 rfl rfl ?_ (hS := (DX.out _ CC.out))
  try simp only [Act.put, sA, s0, s1]
  refine sn 12 15 rfl rfl ?_ (hS := (DX.out _ CC.out))
  try simp only [Act.put, sA, s0, s1]
  refine sn 13 16 rfl rfl ?_ (hS := (DX.out _ CC.out))
  try simp only [Act.put, sA, s0, s1]
  refine sn 14 17 rfl rfl ?_ (hS := (DX.out _ CC.out))
  try simp only [Act.put, sA, s0, s1]
  refine sy 15 18 rfl rfl ?_ (hS := (DX.out _ CC.out))
  try simp only [Act.put, sA, s0, s1]
  refine sy 16 19 rfl rfl ?_ (hS := (DX.out _ CC.out))
  try simp only [Act.put, sA, s0, s1]
  refine sn 17 20 rfl rfl ?_ (hS := (DX.out _ CC.out))
  try simp only [Act.put, sA, s0, s1]
  refine sn 18 21 rfl rfl ?_ (hS := (DX.out _ CC.out))
  try simp only [Act.put, sA, s0, s1]
  refine sn 19 22 rfl rfl ?_ (hS := (DX.out _ CC.out))
  try simp only [Act.put, sA, s0, s1]
  refine sn 20 23 rfl rfl ?_ (hS := (DX.out _ CC.out))
  try simp only [Act.put, sA, s0, s1]
  refine sy 21 24 rfl rfl ?_ (hS := (DX.out _ CC.out))
  try simp only [Act.put, sA, s0, s1]
  refine sy 22 25 rfl rfl ?_ (hS := (DX.out _ CC.out))
  try simp only [Act.put, sA, s0, s1]
  refine sn 23 26 rfl rfl ?_ (hS := (DX.out _ CC.out))
  try simp only [Act.put, sA, s0, s1]
  refine sn 24 27 rfl rfl ?_ (hS := (DX.out _ CC.out))
  try simp only [Act.put, sA, s0, s1]
  refine sn 25 28 rfl rfl ?_ (hS := (DX.out _ CC.out))
  try simp only [Act.put, sA, s0, s1]
  refine sn 26 29 rfl rfl ?_ (hS := (DX.out _ CC.out))
  try simp only [Act.put, sA, s0, s1]
  refine sn 27 30 rfl rfl ?_ (hS := (DX.out _ CC.out))
  try simp only [Act.put, sA, s0, s1]
  refine sn 28 31 rfl rfl ?_ (hS := (DX.out _ CC.out))
  try simp only [Act.put, sA, s0, s1]
  refine sn 29 32 rfl rfl ?_ (hS := (DX.out _ CC.out))
  try simp only [Act.put, sA, s0, s1]
  refine sn 30 33 rfl rfl ?_ (hS := (DX.out _ CC.out))
  try simp only [Act.put, sA, s0, s1]
  refine sn 31 34 rfl rfl ?_ (hS := (DX.out _ CC.out))
  try simp only [Act.put, sA, s0, s1]
  refine sn 32 35 rfl rfl ?_ (hS := (DX.out _ CC.out))
  try simp only [Act.put, sA, s0, s1]
  refine sy 33 36 rfl rfl ?_ (hS := (DX.out _ CC.out))
  try simp only [Act.put, sA, s0, s1]
  refine wpAnyH_done (by kernel_rfl) ?_ _
  clear hHeld
  go_wp2
  go_ret
  exact ⟨rfl, C.out.trans CC.out⟩

set_option maxRecDepth 100000 in
set_option maxHeartbeats 8000000 in
theorem vecheck_2 (w : World) (x : EvT) (e : EvP) (h : EvR w x e) (hs : EvSm e) (hk : ∀ i, i < 2 → evOk e i) (hn : ¬ evOk e 2) :
    Calls Tryz.prog 15 #[.agg #[.int .i64 x.n, .int .i64 x.s, .string x.p, .int .i64 x.k, .int .i64 x.m, .slice x.A x.l x.c, .slice x.B x.bl x.bc]] w fun r w' => r = .returned (.int .i64 2) ∧ Chg [] w w' := by
  obtain ⟨w1, hw1, c1, b1⟩ := news1 w (.cells #[.int .i64 x.n, .int .i64 x.s, .string x.p, .int .i64 x.k, .int .i64 x.m, .slice x.A x.l x.c, .slice x.B x.bl x.bc] 29)
  have W1 := Lib.hid hw1
  have HR := Lib.hid (h.chg c1)
  have C := Lib.hid c1
  have HS := Lib.hid hs
  have k0 : Hid (evOk e 0) := Lib.hid (hk 0 (by omega))
  have k1 : Hid (evOk e 1) := Lib.hid (hk 1 (by omega))
  have k2 : Hid (¬ evOk e 2) := Lib.hid hn
  have hxn := h.n
  have hxs := h.s
  have hxp := h.p
  have hxk := h.k
  have hxm := h.m
  have hxl := h.l
  have hxbl := h.bl
  rw [hxn, hxs, hxp, hxk, hxm, hxl, hxbl] at b1 W1
  rw [hxn, hxs, hxp, hxk, hxm, hxl, hxbl]
  clear hxn hxs hxp hxk hxm hxl hxbl
  have z0 := cell_of b1 0
  have z1 := cell_of b1 1
  have z2 := cell_of b1 2
  have z3 := cell_of b1 3
  have z4 := cell_of b1 4
  have z5 := cell_of b1 5
  have z6 := cell_of b1 6
  simp only [List.getElem?_toArray, List.getElem?_cons_succ, List.getElem?_cons_zero] at z0 z1 z2 z3 z4 z5 z6
  clear hw1 c1 h hs hk hn b1
  go_enter Tryz.func15, Tryz.ntmps15
  go_upto_region 1 with fail
  rw [← W1.out]
  generalize w.heap.size = g0 at *
  refine wp_region_held_drew (S := fun w' => w'.cell? ⟨g0, 0, none⟩ = some (.int .i64 e.n) ∧ w'.cell? ⟨g0, 1, none⟩ = some (.int .i64 e.s) ∧ w'.cell? ⟨g0, 2, none⟩ = some (.string (strOf e.p)) ∧ w'.cell? ⟨g0, 3, none⟩ = some (.int .i64 e.k) ∧ w'.cell? ⟨g0, 4, none⟩ = some (.int .i64 e.m) ∧ w'.cell? ⟨g0, 5, none⟩ = some (.slice x.A e.b.length x.c) ∧ w'.cell? ⟨g0, 6, none⟩ = some (.slice x.B e.q.length x.bc)) (by kernel_rfl) ⟨z0, z1, z2, z3, z4, z5, z6⟩ (fun hHeld => ?_)
  have CC : Hid (Chg [] w1 w1.drew) := Lib.hid (Chg.refl [] w1).drew
  have DX : Hid (∀ w', Chg [] w1 w' → w'.cell? ⟨g0, 0, none⟩ = some (.int .i64 e.n) ∧ w'.cell? ⟨g0, 1, none⟩ = some (.int .i64 e.s) ∧ w'.cell? ⟨g0, 2, none⟩ = some (.string (strOf e.p)) ∧ w'.cell? ⟨g0, 3, none⟩ = some (.int .i64 e.k) ∧ w'.cell? ⟨g0, 4, none⟩ = some (.int .i64 e.m) ∧ w'.cell? ⟨g0, 5, none⟩ = some (.slice x.A e.b.length x.c) ∧ w'.cell? ⟨g0, 6, none⟩ = some (.slice x.B e.q.length x.bc)) := Lib.hid (fun w' hc => ⟨hc.cell z0 (by simp), hc.cell z1 (by simp), hc.cell z2 (by simp), hc.cell z3 (by simp), hc.cell z4 (by simp), hc.cell z5 (by simp), hc.cell z6 (by simp)⟩)
  clear z0 z1 z2 z3 z4 z5 z6 hHeld W1
  generalize w1.drew = wc at *
  refine sy 0 3 rfl rfl ?_ (hS := (DX.out _ CC.out))
  try simp only [Act.put, sA, s0, s1]
  refine sy 1 4 rfl rfl ?_ (hS := (DX.out _ CC.out)) (hy := by (intro w hSw; (try dsimp only at hSw); obtain ⟨q0, q1, q2, q3, q4, q5, q6⟩ := hSw; go_simp; try with_reducible rfl))
  try simp only [Act.put, sA, s0, s1]
  refine wpAnyH_ready (rs := [2]) (by kernel_rfl) (by simp) ?_
  refine AllReadyH.cons rfl (fun K hK => ?_) AllReadyH.nil
  replace hK := Lib.hid hK
  go_simp
  refine (hcheck_dot wc e.n e.s).mono ?_
  rintro r wc ⟨rfl, hc⟩
  rw [chk_dot, if_pos (show FineQ e.n e.s from Decidable.byContradiction (fun q => absurd k0.out (by show ¬ chkD e.n e.s = 0; rw [chkD_odd q]; decide)))]
  replace CC := Lib.hid (CC.out.trans hc)
  clear hc
  refine hK.out _ _ (DX.out _ CC.out) (fun hHeld => ?_)
  clear hK K
  try simp only [Act.put, sA, s0, s1]
  refine sy 3 6 rfl rfl ?_ (hS := (DX.out _ CC.out))
  try simp only [Act.put, sA, s0, s1]
  refine sy 4 7 rfl rfl ?_ (hS := (DX.out _ CC.out))
  try simp only [Act.put, sA, s0, s1]
  refine sy 5 8 rfl rfl ?_ (hS := (DX.out _ CC.out))
  try simp only [Act.put, sA, s0, s1]
  refine sy 6 9 rfl rfl ?_ (hS := (DX.out _ CC.out)) (hy := by (intro w hSw; (try dsimp only at hSw); obtain ⟨q0, q1, q2, q3, q4, q5, q6⟩ := hSw; go_simp; try with_reducible rfl))
  try simp only [Act.put, sA, s0, s1]
  refine wpAnyH_ready (rs := [7]) (by kernel_rfl) (by simp) ?_
  refine AllReadyH.cons rfl (fun K hK => ?_) AllReadyH.nil
  replace hK := Lib.hid hK
  go_simp
  refine (qcheck_any wc e.p HS.out.1).mono ?_
  rintro r wc ⟨rfl, hc⟩
  rw [if_pos (show checkL 6 12 e.p = true from k1.out)]
  replace CC := Lib.hid (CC.out.trans hc)
  clear hc
  refine hK.out _ _ (DX.out _ CC.out) (fun hHeld => ?_)
  clear hK K
  try simp only [Act.put, sA, s0, s1]
  refine sy 8 11 rfl rfl ?_ (hS := (DX.out _ CC.out))
  try simp only [Act.put, sA, s0, s1]
  refine sy 9 12 rfl rfl ?_ (hS := (DX.out _ CC.out))
  try simp only [Act.put, sA, s0, s1]
  refine sy 10 13 rfl rfl ?_ (hS := (DX.out _ CC.out))
  try simp only [Act.put, sA, s0, s1]
  refine sy 11 14 rfl rfl ?_ (hS := (DX.out _ CC.out))
  try simp only [Act.put, sA, s0, s1]
  refine sy 12 15 rfl rfl ?_ (hS := (DX.out _ CC.out)) (hy := by (intro w hSw; (try dsimp only at hSw); obtain ⟨q0, q1, q2, q3, q4, q5, q6⟩ := hSw; go_simp; try with_reducible rfl))
  try simp only [Act.put, sA, s0, s1]
  refine wpAnyH_ready (rs := [13]) (by kernel_rfl) (by simp) ?_
  refine AllReadyH.cons rfl (fun K hK => ?_) AllReadyH.nil
  replace hK := Lib.hid hK
  go_simp
  refine (fcheck_any wc e.k e.m x.A e.b.length x.c HS.out.2.1).mono ?_
  rintro r wc ⟨rfl, hc⟩
  rw [show chkE e.k e.m e.b.length = 2 by unfold chkE; rw [if_neg]; exact fun q => k2.out (chkE_fine q)]
  replace CC := Lib.hid (CC.out.trans hc)
  clear hc
  refine hK.out _ _ (DX.out _ CC.out) (fun hHeld => ?_)
  clear hK K
  try simp only [Act.put, sA, s0, s1]
  refine sy 14 17 rfl rfl ?_ (hS := (DX.out _ CC.out))
  try simp only [Act.put, sA, s0, s1]
  refine sy 15 18 rfl rfl ?_ (hS := (DX.out _ CC.out))
  try simp only [Act.put, sA, s0, s1]
  refine sy 16 19 rfl rfl ?_ (hS := (DX.out _ CC.out))
  try simp only [Act.put, sA, s0, s1]
  refine sn 17 20 rfl rfl ?_ (hS := (DX.out _ CC.out))
  try simp only [Act.put, sA, s0, s1]
  refine sn 18 21 rfl rfl ?_ (hS := (DX.out _ CC.out))
  try simp only [Act.put, sA, s0, s1]
  refine sn 19 22 rfl rfl ?_ (hS := (DX.out _ CC.out))
  try simp only [Act.put, sA, s0, s1]
  refine sn 20 23 rfl rfl ?_ (hS := (DX.out _ CC.out))
  try simp only [Act.put, sA, s0, s1]
  refine sy 21 24 rfl rfl ?_ (hS := (DX.out _ CC.out))
  try simp only [Act.put, sA, s0, s1]
  refine sy 22 25 rfl rfl ?_ (hS := (DX.out _ CC.out))
  try simp only [Act.put, sA, s0, s1]
  refine sn 23 26 rfl rfl ?_ (hS := (DX.out _ CC.out))
  try simp only [Act.put, sA, s0, s1]
  refine sn 24 27 rfl rfl ?_ (hS := (DX.out _ CC.out))
  try simp only [Act.put, sA, s0, s1]
  refine sn 25 28 rfl rfl ?_ (hS := (DX.out _ CC.out))
  try simp only [Act.put, sA, s0, s1]
  refine sn 26 29 rfl rfl ?_ (hS := (DX.out _ CC.out))
  try simp only [Act.put, sA, s0, s1]
  refine sn 27 30 rfl rfl ?_ (hS := (DX.out _ CC.out))
  try simp only [Act.put, sA, s0, s1]
  refine sn 28 31 rfl rfl ?_ (hS := (DX.out _ CC.out))
  try simp only [Act.put, sA, s0, s1]
  refine sn 29 32 rfl rfl ?_ (hS := (DX.out _ CC.out))
  try simp only [Act.put, sA, s0, s1]
  refine sn 30 33 rfl rfl ?_ (hS := (DX.out _ CC.out))
  try simp only [Act.put, sA, s0, s1]
  refine sn 31 34 rfl rfl ?_ (hS := (DX.out _ CC.out))
  try simp only [Act.put, sA, s0, s1]
  refine sn 32 35 rfl rfl ?_ (hS := (DX.out _ CC.out))
  try simp only [Act.put, sA, s0, s1]
  refine sy 33 36 rfl rfl ?_ (hS := (DX.out _ CC.out))
  try simp only [Act.put, sA, s0, s1]
  refine wpAnyH_done (by kernel_rfl) ?_ _
  clear hHeld
  go_wp2
  go_ret
  exact ⟨rfl, C.out.trans CC.out⟩

set_option maxRecDepth 100000 in
set_option maxHeartbeats 8000000 in
theorem vecheck_3 (w : World) (x : EvT) (e : EvP) (h : EvR w x e) (hs : EvSm e) (hk : ∀ i, i < 3 → evOk e i) (hn : ¬ evOk e 3) :
    Calls Tryz.prog 15 #[.agg #[.int .i64 x.n, .int .i64 x.s, .string x.p, .int .i64 x.k, .int .i64 x.m, .slice x.A x.l x.c, .slice x.B x.bl x.bc]] w fun r w' => r = .returned (.int .i64 2) ∧ Chg [] w w' := by
  obtain ⟨w1, hw1, c1, b1⟩ := news1 w (.cells #[.int .i64 x.n, .int .i64 x.s, .string x.p, .int .i64 x.k, .int .i64 x.m, .slice x.A x.l x.c, .slice x.B x.bl x.bc] 29)
  have W1 := Lib.hid hw1
  have HR := Lib.hid (h.chg c1)
  have C := Lib.hid c1
  have HS := Lib.hid hs
  have k0 : Hid (evOk e 0) := Lib.hid (hk 0 (by omega))
  have k1 : Hid (evOk e 1) := Lib.hid (hk 1 (by omega))
  have k2 : Hid (evOk e 2) := Lib.hid (hk 2 (by omega))
  have k3 : Hid (¬ evOk e 3) := Lib.hid hn
  have hxn := h.n
  have hxs := h.s
  have hxp := h.p
  have hxk := h.k
  have hxm := h.m
  have hxl := h.l
  have hxbl := h.bl
  rw [hxn, hxs, hxp, hxk, hxm, hxl, hxbl] at b1 W1
  rw [hxn, hxs, hxp, hxk, hxm, hxl, hxbl]
  clear hxn hxs hxp hxk hxm hxl hxbl
  have z0 := cell_of b1 0
  have z1 := cell_of b1 1
  have z2 := cell_of b1 2
  have z3 := cell_of b1 3
  have z4 := cell_of b1 4
  have z5 := cell_of b1 5
  have z6 := cell_of b1 6
  simp only [List.getElem?_toArray, List.getElem?_cons_succ, List.getElem?_cons_zero] at z0 z1 z2 z3 z4 z5 z6
  clear hw1 c1 h hs hk hn b1
  go_enter Tryz.func15, Tryz.ntmps15
  go_upto_region 1 with fail
  rw [← W1.out]
  generalize w.heap.size = g0 at *
  refine wp_region_held_drew (S := fun w' => w'.cell? ⟨g0, 0, none⟩ = some (.int .i64 e.n) ∧ w'.cell? ⟨g0, 1, none⟩ = some (.int .i64 e.s) ∧ w'.cell? ⟨g0, 2, none⟩ = some (.string (strOf e.p)) ∧ w'.cell? ⟨g0, 3, none⟩ = some (.int .i64 e.k) ∧ w'.cell? ⟨g0, 4, none⟩ = some (.int .i64 e.m) ∧ w'.cell? ⟨g0, 5, none⟩ = some (.slice x.A e.b.length x.c) ∧ w'.cell? ⟨g0, 6, none⟩ = some (.slice x.B e.q.length x.bc)) (by kernel_rfl) ⟨z0, z1, z2, z3, z4, z5, z6⟩ (fun hHeld => ?_)
  have CC : Hid (Chg [] w1 w1.drew) := Lib.hid (Chg.refl [] w1).drew
  have DX : Hid (∀ w', Chg [] w1 w' → w'.cell? ⟨g0, 0, none⟩ = some (.int .i64 e.n) ∧ w'.cell? ⟨g0, 1, none⟩ = some (.int .i64 e.s) ∧ w'.cell? ⟨g0, 2, none⟩ = some (.string (strOf e.p)) ∧ w'.cell? ⟨g0, 3, none⟩ = some (.int .i64 e.k) ∧ w'.cell? ⟨g0, 4, none⟩ = some (.int .i64 e.m) ∧ w'.cell? ⟨g0, 5, none⟩ = some (.slice x.A e.b.length x.c) ∧ w'.cell? ⟨g0, 6, none⟩ = some (.slice x.B e.q.length x.bc)) := Lib.hid (fun w' hc => ⟨hc.cell z0 (by simp), hc.cell z1 (by simp), hc.cell z2 (by simp), hc.cell z3 (by simp), hc.cell z4 (by simp), hc.cell z5 (by simp), hc.cell z6 (by simp)⟩)
  clear z0 z1 z2 z3 z4 z5 z6 hHeld W1
  generalize w1.drew = wc at *
  refine sy 0 3 rfl rfl ?_ (hS := (DX.out _ CC.out))
  try simp only [Act.put, sA, s0, s1]
  refine sy 1 4 rfl rfl ?_ (hS := (DX.out _ CC.out)) (hy := by (intro w hSw; (try dsimp only at hSw); obtain ⟨q0, q1, q2, q3, q4, q5, q6⟩ := hSw; go_simp; try with_reducible rfl))
  try simp only [Act.put, sA, s0, s1]
  refine wpAnyH_ready (rs := [2]) (by kernel_rfl) (by simp) ?_
  refine AllReadyH.cons rfl (fun K hK => ?_) AllReadyH.nil
  replace hK := Lib.hid hK
  go_simp
  refine (hcheck_dot wc e.n e.s).mono ?_
  rintro r wc ⟨rfl, hc⟩
  rw [chk_dot, if_pos (show FineQ e.n e.s from Decidable.byContradiction (fun q => absurd k0.out (by show ¬ chkD e.n e.s = 0; rw [chkD_odd q]; decide)))]
  replace CC := Lib.hid (CC.out.trans hc)
  clear hc
  refine hK.out _ _ (DX.out _ CC.out) (fun hHeld => ?_)
  clear hK K
  try simp only [Act.put, sA, s0, s1]
  refine sy 3 6 rfl rfl ?_ (hS := (DX.out _ CC.out))
  try simp only [Act.put, sA, s0, s1]
  refine sy 4 7 rfl rfl ?_ (hS := (DX.out _ CC.out))
  try simp only [Act.put, sA, s0, s1]
  refine sy 5 8 rfl rfl ?_ (hS := (DX.out _ CC.out))
  try simp only [Act.put, sA, s0, s1]
  refine sy 6 9 rfl rfl ?_ (hS := (DX.out _ CC.out)) (hy := by (intro w hSw; (try dsimp only at hSw); obtain ⟨q0, q1, q2, q3, q4, q5, q6⟩ := hSw; go_simp; try with_reducible rfl))
  try simp only [Act.put, sA, s0, s1]
  refine wpAnyH_ready (rs := [7]) (by kernel_rfl) (by simp) ?_
  refine AllReadyH.cons rfl (fun K hK => ?_) AllReadyH.nil
  replace hK := Lib.hid hK
  go_simp
  refine (qcheck_any wc e.p HS.out.1).mono ?_
  rintro r wc ⟨rfl, hc⟩
  rw [if_pos (show checkL 6 12 e.p = true from k1.out)]
  replace CC := Lib.hid (CC.out.trans hc)
  clear hc
  refine hK.out _ _ (DX.out _ CC.out) (fun hHeld => ?_)
  clear hK K
  try simp only [Act.put, sA, s0, s1]
  refine sy 8 11 rfl rfl ?_ (hS := (DX.out _ CC.out))
  try simp only [Act.put, sA, s0, s1]
  refine sy 9 12 rfl rfl ?_ (hS := (DX.out _ CC.out))
  try simp only [Act.put, sA, s0, s1]
  refine sy 10 13 rfl rfl ?_ (hS := (DX.out _ CC.out))
  try simp only [Act.put, sA, s0, s1]
  refine sy 11 14 rfl rfl ?_ (hS := (DX.out _ CC.out))
  try simp only [Act.put, sA, s0, s1]
  refine sy 12 15 rfl rfl ?_ (hS := (DX.out _ CC.out)) (hy := by (intro w hSw; (try dsimp only at hSw); obtain ⟨q0, q1, q2, q3, q4, q5, q6⟩ := hSw; go_simp; try with_reducible rfl))
  try simp only [Act.put, sA, s0, s1]
  refine wpAnyH_ready (rs := [13]) (by kernel_rfl) (by simp) ?_
  refine AllReadyH.cons rfl (fun K hK => ?_) AllReadyH.nil
  replace hK := Lib.hid hK
  go_simp
  refine (fcheck_any wc e.k e.m x.A e.b.length x.c HS.out.2.1).mono ?_
  rintro r wc ⟨rfl, hc⟩
  rw [show chkE e.k e.m e.b.length = 0 from k2.out]
  replace CC := Lib.hid (CC.out.trans hc)
  clear hc
  refine hK.out _ _ (DX.out _ CC.out) (fun hHeld => ?_)
  clear hK K
  try simp only [Act.put, sA, s0, s1]
  refine sy 14 17 rfl rfl ?_ (hS := (DX.out _ CC.out))
  try simp only [Act.put, sA, s0, s1]
  refine sy 15 18 rfl rfl ?_ (hS := (DX.out _ CC.out))
  try simp only [Act.put, sA, s0, s1]
  refine sy 16 19 rfl rfl ?_ (hS := (DX.out _ CC.out))
  try simp only [Act.put, sA, s0, s1]
  refine sy 17 20 rfl rfl ?_ (hS := (DX.out _ CC.out))
  try simp only [Act.put, sA, s0, s1]
  refine sy 18 21 rfl rfl ?_ (hS := (DX.out _ CC.out)) (hy := by (intro w hSw; (try dsimp only at hSw); obtain ⟨q0, q1, q2, q3, q4, q5, q6⟩ := hSw; go_simp; try with_reducible rfl))
  try simp only [Act.put, sA, s0, s1]
  refine wpAnyH_ready (rs := [19]) (by kernel_rfl) (by simp) ?_
  refine AllReadyH.cons rfl (fun K hK => ?_) AllReadyH.nil
  replace hK := Lib.hid hK
  go_simp
  refine (qacheck_any wc x.B e.q.length x.bc e.q (by have := HR.out.B.chg CC.out (by simp); rw [HR.out.bl] at this; exact this) HS.out.2.2).mono ?_
  rintro r wc ⟨rfl, hc⟩
  rw [show chkS e.q = 2 from (chk_two e.q).resolve_left k3.out]
  replace CC := Lib.hid (CC.out.trans hc)
  clear hc
  refine hK.out _ _ (DX.out _ CC.out) (fun hHeld => ?_)
  clear hK K
  try simp only [Act.put, sA, s0, s1]
  refine sy 20 23 rfl rfl ?_ (hS := (DX.out _ CC.out))
  try simp only [Act.put, sA, s0, s1]
  refine sy 21 24 rfl rfl ?_ (hS := (DX.out _ CC.out))
  try simp only [Act.put, sA, s0, s1]
  refine sy 22 25 rfl rfl ?_ (hS := (DX.out _ CC.out))
  try simp only [Act.put, sA, s0, s1]
  refine sn 23 26 rfl rfl ?_ (hS := (DX.out _ CC.out))
  try simp only [Act.put, sA, s0, s1]
  refine sn 24 27 rfl rfl ?_ (hS := (DX.out _ CC.out))
  try simp only [Act.put, sA, s0, s1]
  refine sn 25 28 rfl rfl ?_ (hS := (DX.out _ CC.out))
  try simp only [Act.put, sA, s0, s1]
  refine sn 26 29 rfl rfl ?_ (hS := (DX.out _ CC.out))
  try simp only [Act.put, sA, s0, s1]
  refine sn 27 30 rfl rfl ?_ (hS := (DX.out _ CC.out))
  try simp only [Act.put, sA, s0, s1]
  refine sn 28 31 rfl rfl ?_ (hS := (DX.out _ CC.out))
  try simp only [Act.put, sA, s0, s1]
  refine sn 29 32 rfl rfl ?_ (hS := (DX.out _ CC.out))
  try simp only [Act.put, sA, s0, s1]
  refine sn 30 33 rfl rfl ?_ (hS := (DX.out _ CC.out))
  try simp only [Act.put, sA, s0, s1]
  refine sn 31 34 rfl rfl ?_ (hS := (DX.out _ CC.out))
  try simp only [Act.put, sA, s0, s1]
  refine sn 32 35 rfl rfl ?_ (hS := (DX.out _ CC.out))
  try simp only [Act.put, sA, s0, s1]
  refine sy 33 36 rfl rfl ?_ (hS := (DX.out _ CC.out))
  try simp only [Act.put, sA, s0, s1]
  refine wpAnyH_done (by kernel_rfl) ?_ _
  clear hHeld
  go_wp2
  go_ret
  exact ⟨rfl, C.out.trans CC.out⟩

set_option maxRecDepth 100000 in
set_option maxHeartbeats 8000000 in
theorem vecheck_4 (w : World) (x : EvT) (e : EvP) (h : EvR w x e) (hs : EvSm e) (hk : ∀ i, i < 4 → evOk e i) (hn : ¬ evOk e 4) :
    Calls Tryz.prog 15 #[.agg #[.int .i64 x.n, .int .i64 x.s, .string x.p, .int .i64 x.k, .int .i64 x.m, .slice x.A x.l x.c, .slice x.B x.bl x.bc]] w fun r w' => r = .returned (.int .i64 2) ∧ Chg [] w w' := by
  obtain ⟨w1, hw1, c1, b1⟩ := news1 w (.cells #[.int .i64 x.n, .int .i64 x.s, .string x.p, .int .i64 x.k, .int .i64 x.m, .slice x.A x.l x.c, .slice x.B x.bl x.bc] 29)
  have W1 := Lib.hid hw1
  have HR := Lib.hid (h.chg c1)
  have C := Lib.hid c1
  have HS := Lib.hid hs
  have k0 : Hid (evOk e 0) := Lib.hid (hk 0 (by omega))
  have k1 : Hid (evOk e 1) := Lib.hid (hk 1 (by omega))
  have k2 : Hid (evOk e 2) := Lib.hid (hk 2 (by omega))
  have k3 : Hid (evOk e 3) := Lib.hid (hk 3 (by omega))
  have k4 : Hid (¬ evOk e 4) := Lib.hid hn
  have hxn := h.n
  have hxs := h.s
  have hxp := h.p
  have hxk := h.k
  have hxm := h.m
  have hxl := h.l
  have hxbl := h.bl
  rw [hxn, hxs, hxp, hxk, hxm, hxl, hxbl] at b1 W1
  rw [hxn, hxs, hxp, hxk, hxm, hxl, hxbl]
  clear hxn hxs hxp hxk hxm hxl hxbl
  have z0 := cell_of b1 0
  have z1 := cell_of b1 1
  have z2 := cell_of b1 2
  have z3 := cell_of b1 3
  have z4 := cell_of b1 4
  have z5 := cell_of b1 5
  have z6 := cell_of b1 6
  simp only [List.getElem?_toArray, List.getElem?_cons_succ, List.getElem?_cons_zero] at z0 z1 z2 z3 z4 z5 z6
  clear hw1 c1 h hs hk hn b1
  generalize hlv : (if chkS e.q = 0 then lastL e.n e.q else 0) = lv
  have LV := Lib.hid hlv
  have ge : decide (e.s ≤ lv) = true := by
    have q : ¬ lv < e.s := fun q => k4.out (by show _ < e.s; rw [hlv]; exact q)
    exact decide_eq_true (by omega)
  clear hlv
  go_enter Tryz.func15, Tryz.ntmps15
  go_upto_region 1 with fail
  rw [← W1.out]
  generalize w.heap.size = g0 at *
  refine wp_region_held_drew (S := fun w' => w'.cell? ⟨g0, 0, none⟩ = some (.int .i64 e.n) ∧ w'.cell? ⟨g0, 1, none⟩ = some (.int .i64 e.s) ∧ w'.cell? ⟨g0, 2, none⟩ = some (.string (strOf e.p)) ∧ w'.cell? ⟨g0, 3, none⟩ = some (.int .i64 e.k) ∧ w'.cell? ⟨g0, 4, none⟩ = some (.int .i64 e.m) ∧ w'.cell? ⟨g0, 5, none⟩ = some (.slice x.A e.b.length x.c) ∧ w'.cell? ⟨g0, 6, none⟩ = some (.slice x.B e.q.length x.bc)) (by kernel_rfl) ⟨z0, z1, z2, z3, z4, z5, z6⟩ (fun hHeld => ?_)
  have CC : Hid (Chg [] w1 w1.drew) := Lib.hid (Chg.refl [] w1).drew
  have DX : Hid (∀ w', Chg [] w1 w' → w'.cell? ⟨g0, 0, none⟩ = some (.int .i64 e.n) ∧ w'.cell? ⟨g0, 1, none⟩ = some (.int .i64 e.s) ∧ w'.cell? ⟨g0, 2, none⟩ = some (.string (strOf e.p)) ∧ w'.cell? ⟨g0, 3, none⟩ = some (.int .i64 e.k) ∧ w'.cell? ⟨g0, 4, none⟩ = some (.int .i64 e.m) ∧ w'.cell? ⟨g0, 5, none⟩ = some (.slice x.A e.b.length x.c) ∧ w'.cell? ⟨g0, 6, none⟩ = some (.slice x.B e.q.length x.bc)) := Lib.hid (fun w' hc => ⟨hc.cell z0 (by simp), hc.cell z1 (by simp), hc.cell z2 (by simp), hc.cell z3 (by simp), hc.cell z4 (by simp), hc.cell z5 (by simp), hc.cell z6 (by simp)⟩)
  clear z0 z1 z2 z3 z4 z5 z6 hHeld W1
  generalize w1.drew = wc at *
  refine sy 0 3 rfl rfl ?_ (hS := (DX.out _ CC.out))
  try simp only [Act.put, sA, s0, s1]
  refine sy 1 4 rfl rfl ?_ (hS := (DX.out _ CC.out)) (hy := by (intro w hSw; (try dsimp only at hSw); obtain ⟨q0, q1, q2, q3, q4, q5, q6⟩ := hSw; go_simp; try with_reducible rfl))
  try simp only [Act.put, sA, s0, s1]
  refine wpAnyH_ready (rs := [2]) (by kernel_rfl) (by simp) ?_
  refine AllReadyH.cons rfl (fun K hK => ?_) AllReadyH.nil
  replace hK := Lib.hid hK
  go_simp
  refine (hcheck_dot wc e.n e.s).mono ?_
  rintro r wc ⟨rfl, hc⟩
  rw [chk_dot, if_pos (show FineQ e.n e.s from Decidable.byContradiction (fun q => absurd k0.out (by show ¬ chkD e.n e.s = 0; rw [chkD_odd q]; decide)))]
  replace CC := Lib.hid (CC.out.trans hc)
  clear hc
  refine hK.out _ _ (DX.out _ CC.out) (fun hHeld => ?_)
  clear hK K
  try simp only [Act.put, sA, s0, s1]
  refine sy 3 6 rfl rfl ?_ (hS := (DX.out _ CC.out))
  try simp only [Act.put, sA, s0, s1]
  refine sy 4 7 rfl rfl ?_ (hS := (DX.out _ CC.out))
  try simp only [Act.put, sA, s0, s1]
  refine sy 5 8 rfl rfl ?_ (hS := (DX.out _ CC.out))
  try simp only [Act.put, sA, s0, s1]
  refine sy 6 9 rfl rfl ?_ (hS := (DX.out _ CC.out)) (hy := by (intro w hSw; (try dsimp only at hSw); obtain ⟨q0, q1, q2, q3, q4, q5, q6⟩ := hSw; go_simp; try with_reducible rfl))
  try simp only [Act.put, sA, s0, s1]
  refine wpAnyH_ready (rs := [7]) (by kernel_rfl) (by simp) ?_
  refine AllReadyH.cons rfl (fun K hK => ?_) AllReadyH.nil
  replace hK := Lib.hid hK
  go_simp
  refine (qcheck_any wc e.p HS.out.1).mono ?_
  rintro r wc ⟨rfl, hc⟩
  rw [if_pos (show checkL 6 12 e.p = true from k1.out)]
  replace CC := Lib.hid (CC.out.trans hc)
  clear hc
  refine hK.out _ _ (DX.out _ CC.out) (fun hHeld => ?_)
  clear hK K
  try simp only [Act.put, sA, s0, s1]
  refine sy 8 11 rfl rfl ?_ (hS := (DX.out _ CC.out))
  try simp only [Act.put, sA, s0, s1]
  refine sy 9 12 rfl rfl ?_ (hS := (DX.out _ CC.out))
  try simp only [Act.put, sA, s0, s1]
  refine sy 10 13 rfl rfl ?_ (hS := (DX.out _ CC.out))
  try simp only [Act.put, sA, s0, s1]
  refine sy 11 14 rfl rfl ?_ (hS := (DX.out _ CC.out))
  try simp only [Act.put, sA, s0, s1]
  refine sy 12 15 rfl rfl ?_ (hS := (DX.out _ CC.out)) (hy := by (intro w hSw; (try dsimp only at hSw); obtain ⟨q0, q1, q2, q3, q4, q5, q6⟩ := hSw; go_simp; try with_reducible rfl))
  try simp only [Act.put, sA, s0, s1]
  refine wpAnyH_ready (rs := [13]) (by kernel_rfl) (by simp) ?_
  refine AllReadyH.cons rfl (fun K hK => ?_) AllReadyH.nil
  replace hK := Lib.hid hK
  go_simp
  refine (fcheck_any wc e.k e.m x.A e.b.length x.c HS.out.2.1).mono ?_
  rintro r wc ⟨rfl, hc⟩
  rw [show chkE e.k e.m e.b.length = 0 from k2.out]
  replace CC := Lib.hid (CC.out.trans hc)
  clear hc
  refine hK.out _ _ (DX.out _ CC.out) (fun hHeld => ?_)
  clear hK K
  try simp only [Act.put, sA, s0, s1]
  refine sy 14 17 rfl rfl ?_ (hS := (DX.out _ CC.out))
  try simp only [Act.put, sA, s0, s1]
  refine sy 15 18 rfl rfl ?_ (hS := (DX.out _ CC.out))
  try simp only [Act.put, sA, s0, s1]
  refine sy 16 19 rfl rfl ?_ (hS := (DX.out _ CC.out))
  try simp only [Act.put, sA, s0, s1]
  refine sy 17 20 rfl rfl ?_ (hS := (DX.out _ CC.out))
  try simp only [Act.put, sA, s0, s1]
  refine sy 18 21 rfl rfl ?_ (hS := (DX.out _ CC.out)) (hy := by (intro w hSw; (try dsimp only at hSw); obtain ⟨q0, q1, q2, q3, q4, q5, q6⟩ := hSw; go_simp; try with_reducible rfl))
  try simp only [Act.put, sA, s0, s1]
  refine wpAnyH_ready (rs := [19]) (by kernel_rfl) (by simp) ?_
  refine AllReadyH.cons rfl (fun K hK => ?_) AllReadyH.nil
  replace hK := Lib.hid hK
  go_simp
  refine (qacheck_any wc x.B e.q.length x.bc e.q (by have := HR.out.B.chg CC.out (by simp); rw [HR.out.bl] at this; exact this) HS.out.2.2).mono ?_
  rintro r wc ⟨rfl, hc⟩
  rw [show chkS e.q = 0 from k3.out]
  replace CC := Lib.hid (CC.out.trans hc)
  clear hc
  refine hK.out _ _ (DX.out _ CC.out) (fun hHeld => ?_)
  clear hK K
  try simp only [Act.put, sA, s0, s1]
  refine sy 20 23 rfl rfl ?_ (hS := (DX.out _ CC.out))
  try simp only [Act.put, sA, s0, s1]
  refine sy 21 24 rfl rfl ?_ (hS := (DX.out _ CC.out))
  try simp only [Act.put, sA, s0, s1]
  refine sy 22 25 rfl rfl ?_ (hS := (DX.out _ CC.out))
  try simp only [Act.put, sA, s0, s1]
  refine sy 23 26 rfl rfl ?_ (hS := (DX.out _ CC.out))
  try simp only [Act.put, sA, s0, s1]
  refine sy 24 27 rfl rfl ?_ (hS := (DX.out _ CC.out)) (hy := by (intro w hSw; (try dsimp only at hSw); obtain ⟨q0, q1, q2, q3, q4, q5, q6⟩ := hSw; go_simp; try with_reducible rfl))
  try simp only [Act.put, sA, s0, s1]
  refine sy 25 28 rfl rfl ?_ (hS := (DX.out _ CC.out))
  try simp only [Act.put, sA, s0, s1]
  refine sy 26 29 rfl rfl ?_ (hS := (DX.out _ CC.out))
  try simp only [Act.put, sA, s0, s1]
  refine sy 27 30 rfl rfl ?_ (hS := (DX.out _ CC.out)) (hy := by (intro w hSw; (try dsimp only at hSw); obtain ⟨q0, q1, q2, q3, q4, q5, q6⟩ := hSw; go_simp; try with_reducible rfl))
  try simp only [Act.put, sA, s0, s1]
  refine sy 29 32 rfl rfl ?_ (hS := (DX.out _ CC.out))
  try simp only [Act.put, sA, s0, s1]
  refine sy 30 33 rfl rfl ?_ (hS := (DX.out _ CC.out))
  try simp only [Act.put, sA, s0, s1]
  refine sy 31 34 rfl rfl ?_ (hS := (DX.out _ CC.out)) (hy := by (intro w hSw; (try dsimp only at hSw); obtain ⟨q0, q1, q2, q3, q4, q5, q6⟩ := hSw; go_simp; try with_reducible rfl))
  try simp only [Act.put, sA, s0, s1]
  refine wpAnyH_ready (rs := [28]) (by kernel_rfl) (by simp) ?_
  refine AllReadyH.cons rfl (fun K hK => ?_) AllReadyH.nil
  replace hK := Lib.hid hK
  go_simp
  refine (qlast_any wc x.B x.bc e.q e.n (by have := HR.out.B.chg CC.out (by simp); rw [HR.out.bl] at this; exact this) HS.out.2.2).mono ?_
  rintro r wc ⟨rfl, hc⟩
  rw [LV.out]
  replace CC := Lib.hid (CC.out.trans hc)
  clear hc
  refine hK.out _ _ (DX.out _ CC.out) (fun hHeld => ?_)
  clear hK K
  try simp only [Act.put, sA, s0, s1]
  refine sy 32 35 rfl rfl ?_ (hS := (DX.out _ CC.out))
  try simp only [Act.put, sA, s0, s1]
  refine sy 33 36 rfl rfl ?_ (hS := (DX.out _ CC.out))
  try simp only [Act.put, sA, s0, s1]
  refine wpAnyH_done (by kernel_rfl) ?_ _
  clear hHeld
  go_wp2
  go_ret
  exact ⟨rfl, C.out.trans CC.out⟩

set_option maxRecDepth 100000 in
set_option maxHeartbeats 8000000 in
theorem vecheck_5 (w : World) (x : EvT) (e : EvP) (h : EvR w x e) (hs : EvSm e) (hk : ∀ i, i < 5 → evOk e i) :
    Calls Tryz.prog 15 #[.agg #[.int .i64 x.n, .int .i64 x.s, .string x.p, .int .i64 x.k, .int .i64 x.m, .slice x.A x.l x.c, .slice x.B x.bl x.bc]] w fun r w' => r = .returned (.int .i64 0) ∧ Chg [] w w' := by
  obtain ⟨w1, hw1, c1, b1⟩ := news1 w (.cells #[.int .i64 x.n, .int .i64 x.s, .string x.p, .int .i64 x.k, .int .i64 x.m, .slice x.A x.l x.c, .slice x.B x.bl x.bc] 29)
  have W1 := Lib.hid hw1
  have HR := Lib.hid (h.chg c1)
  have C := Lib.hid c1
  have HS := Lib.hid hs
  have k0 : Hid (evOk e 0) := Lib.hid (hk 0 (by omega))
  have k1 : Hid (evOk e 1) := Lib.hid (hk 1 (by omega))
  have k2 : Hid (evOk e 2) := Lib.hid (hk 2 (by omega))
  have k3 : Hid (evOk e 3) := Lib.hid (hk 3 (by omega))
  have k4 : Hid (evOk e 4) := Lib.hid (hk 4 (by omega))
  have hxn := h.n
  have hxs := h.s
  have hxp := h.p
  have hxk := h.k
  have hxm := h.m
  have hxl := h.l
  have hxbl := h.bl
  rw [hxn, hxs, hxp, hxk, hxm, hxl, hxbl] at b1 W1
  rw [hxn, hxs, hxp, hxk, hxm, hxl, hxbl]
  clear hxn hxs hxp hxk hxm hxl hxbl
  have z0 := cell_of b1 0
  have z1 := cell_of b1 1
  have z2 := cell_of b1 2
  have z3 := cell_of b1 3
  have z4 := cell_of b1 4
  have z5 := cell_of b1 5
  have z6 := cell_of b1 6
  simp only [List.getElem?_toArray, List.getElem?_cons_succ, List.getElem?_cons_zero] at z0 z1 z2 z3 z4 z5 z6
  clear hw1 c1 h hs hk b1
  generalize hlv : (if chkS e.q = 0 then lastL e.n e.q else 0) = lv
  have LV := Lib.hid hlv
  have ge : decide (e.s ≤ lv) = false := by
    have q : lv < e.s := by rw [← hlv]; exact k4.out
    exact decide_eq_false (by omega)
  clear hlv
  go_enter Tryz.func15, Tryz.ntmps15
  go_upto_region 1 with fail
  rw [← W1.out]
  generalize w.heap.size = g0 at *
  refine wp_region_held_drew (S := fun w' => w'.cell? ⟨g0, 0, none⟩ = some (.int .i64 e.n) ∧ w'.cell? ⟨g0, 1, none⟩ = some (.int .i64 e.s) ∧ w'.cell? ⟨g0, 2, none⟩ = some (.string (strOf e.p)) ∧ w'.cell? ⟨g0, 3, none⟩ = some (.int .i64 e.k) ∧ w'.cell? ⟨g0, 4, none⟩ = some (.int .i64 e.m) ∧ w'.cell? ⟨g0, 5, none⟩ = some (.slice x.A e.b.length x.c) ∧ w'.cell? ⟨g0, 6, none⟩ = some (.slice x.B e.q.length x.bc)) (by kernel_rfl) ⟨z0, z1, z2, z3, z4, z5, z6⟩ (fun hHeld => ?_)
  have CC : Hid (Chg [] w1 w1.drew) := Lib.hid (Chg.refl [] w1).drew
  have DX : Hid (∀ w', Chg [] w1 w' → w'.cell? ⟨g0, 0, none⟩ = some (.int .i64 e.n) ∧ w'.cell? ⟨g0, 1, none⟩ = some (.int .i64 e.s) ∧ w'.cell? ⟨g0, 2, none⟩ = some (.string (strOf e.p)) ∧ w'.cell? ⟨g0, 3, none⟩ = some (.int .i64 e.k) ∧ w'.cell? ⟨g0, 4, none⟩ = some (.int .i64 e.m) ∧ w'.cell? ⟨g0, 5, none⟩ = some (.slice x.A e.b.length x.c) ∧ w'.cell? ⟨g0, 6, none⟩ = some (.slice x.B e.q.length x.bc)) := Lib.hid (fun w' hc => ⟨hc.cell z0 (by simp), hc.cell z1 (by simp), hc.cell z2 (by simp), hc.cell z3 (by simp), hc.cell z4 (by simp), hc.cell z5 (by simp), hc.cell z6 (by simp)⟩)
  clear z0 z1 z2 z3 z4 z5 z6 hHeld W1
  generalize w1.drew = wc at *
  refine sy 0 3 rfl rfl ?_ (hS := (DX.out _ CC.out))
  try simp only [Act.put, sA, s0, s1]
  refine sy 1 4 rfl rfl ?_ (hS := (DX.out _ CC.out)) (hy := by (intro w hSw; (try dsimp only at hSw); obtain ⟨q0, q1, q2, q3, q4, q5, q6⟩ := hSw; go_simp; try with_reducible rfl))
  try simp only [Act.put, sA, s0, s1]
  refine wpAnyH_ready (rs := [2]) (by kernel_rfl) (by simp) ?_
  refine AllReadyH.cons rfl (fun K hK => ?_) AllReadyH.nil
  replace hK := Lib.hid hK
  go_simp
  refine (hcheck_dot wc e.n e.s).mono ?_
  rintro r wc ⟨rfl, hc⟩
  rw [chk_dot, if_pos (show FineQ e.n e.s from Decidable.byContradiction (fun q => absurd k0.out (by show ¬ chkD e.n e.s = 0; rw [chkD_odd q]; decide)))]
  replace CC := Lib.hid (CC.out.trans hc)
  clear hc
  refine hK.out _ _ (DX.out _ CC.out) (fun hHeld => ?_)
  clear hK K
  try simp only [Act.put, sA, s0, s1]
  refine sy 3 6 rfl rfl ?_ (hS := (DX.out _ CC.out))
  try simp only [Act.put, sA, s0, s1]
  refine sy 4 7 rfl rfl ?_ (hS := (DX.out _ CC.out))
  try simp only [Act.put, sA, s0, s1]
  refine sy 5 8 rfl rfl ?_ (hS := (DX.out _ CC.out))
  try simp only [Act.put, sA, s0, s1]
  refine sy 6 9 rfl rfl ?_ (hS := (DX.out _ CC.out)) (hy := by (intro w hSw; (try dsimp only at hSw); obtain ⟨q0, q1, q2, q3, q4, q5, q6⟩ := hSw; go_simp; try with_reducible rfl))
  try simp only [Act.put, sA, s0, s1]
  refine wpAnyH_ready (rs := [7]) (by kernel_rfl) (by simp) ?_
  refine AllReadyH.cons rfl (fun K hK => ?_) AllReadyH.nil
  replace hK := Lib.hid hK
  go_simp
  refine (qcheck_any wc e.p HS.out.1).mono ?_
  rintro r wc ⟨rfl, hc⟩
  rw [if_pos (show checkL 6 12 e.p = true from k1.out)]
  replace CC := Lib.hid (CC.out.trans hc)
  clear hc
  refine hK.out _ _ (DX.out _ CC.out) (fun hHeld => ?_)
  clear hK K
  try simp only [Act.put, sA, s0, s1]
  refine sy 8 11 rfl rfl ?_ (hS := (DX.out _ CC.out))
  try simp only [Act.put, sA, s0, s1]
  refine sy 9 12 rfl rfl ?_ (hS := (DX.out _ CC.out))
  try simp only [Act.put, sA, s0, s1]
  refine sy 10 13 rfl rfl ?_ (hS := (DX.out _ CC.out))
  try simp only [Act.put, sA, s0, s1]
  refine sy 11 14 rfl rfl ?_ (hS := (DX.out _ CC.out))
  try simp only [Act.put, sA, s0, s1]
  refine sy 12 15 rfl rfl ?_ (hS := (DX.out _ CC.out)) (hy := by (intro w hSw; (try dsimp only at hSw); obtain ⟨q0, q1, q2, q3, q4, q5, q6⟩ := hSw; go_simp; try with_reducible rfl))
  try simp only [Act.put, sA, s0, s1]
  refine wpAnyH_ready (rs := [13]) (by kernel_rfl) (by simp) ?_
  refine AllReadyH.cons rfl (fun K hK => ?_) AllReadyH.nil
  replace hK := Lib.hid hK
  go_simp
  refine (fcheck_any wc e.k e.m x.A e.b.length x.c HS.out.2.1).mono ?_
  rintro r wc ⟨rfl, hc⟩
  rw [show chkE e.k e.m e.b.length = 0 from k2.out]
  replace CC := Lib.hid (CC.out.trans hc)
  clear hc
  refine hK.out _ _ (DX.out _ CC.out) (fun hHeld => ?_)
  clear hK K
  try simp only [Act.put, sA, s0, s1]
  refine sy 14 17 rfl rfl ?_ (hS := (DX.out _ CC.out))
  try simp only [Act.put, sA, s0, s1]
  refine sy 15 18 rfl rfl ?_ (hS := (DX.out _ CC.out))
  try simp only [Act.put, sA, s0, s1]
  refine sy 16 19 rfl rfl ?_ (hS := (DX.out _ CC.out))
  try simp only [Act.put, sA, s0, s1]
  refine sy 17 20 rfl rfl ?_ (hS := (DX.out _ CC.out))
  try simp only [Act.put, sA, s0, s1]
  refine sy 18 21 rfl rfl ?_ (hS := (DX.out _ CC.out)) (hy := by (intro w hSw; (try dsimp only at hSw); obtain ⟨q0, q1, q2, q3, q4, q5, q6⟩ := hSw; go_simp; try with_reducible rfl))
  try simp only [Act.put, sA, s0, s1]
  refine wpAnyH_ready (rs := [19]) (by kernel_rfl) (by simp) ?_
  refine AllReadyH.cons rfl (fun K hK => ?_) AllReadyH.nil
  replace hK := Lib.hid hK
  go_simp
  refine (qacheck_any wc x.B e.q.length x.bc e.q (by have := HR.out.B.chg CC.out (by simp); rw [HR.out.bl] at this; exact this) HS.out.2.2).mono ?_
  rintro r wc ⟨rfl, hc⟩
  rw [show chkS e.q = 0 from k3.out]
  replace CC := Lib.hid (CC.out.trans hc)
  clear hc
  refine hK.out _ _ (DX.out _ CC.out) (fun hHeld => ?_)
  clear hK K
  try simp only [Act.put, sA, s0, s1]
  refine sy 20 23 rfl rfl ?_ (hS := (DX.out _ CC.out))
  try simp only [Act.put, sA, s0, s1]
  refine sy 21 24 rfl rfl ?_ (hS := (DX.out _ CC.out))
  try simp only [Act.put, sA, s0, s1]
  refine sy 22 25 rfl rfl ?_ (hS := (DX.out _ CC.out))
  try simp only [Act.put, sA, s0, s1]
  refine sy 23 26 rfl rfl ?_ (hS := (DX.out _ CC.out))
  try simp only [Act.put, sA, s0, s1]
  refine sy 24 27 rfl rfl ?_ (hS := (DX.out _ CC.out)) (hy := by (intro w hSw; (try dsimp only at hSw); obtain ⟨q0, q1, q2, q3, q4, q5, q6⟩ := hSw; go_simp; try with_reducible rfl))
  try simp only [Act.put, sA, s0, s1]
  refine sy 25 28 rfl rfl ?_ (hS := (DX.out _ CC.out))
  try simp only [Act.put, sA, s0, s1]
  refine sy 26 29 rfl rfl ?_ (hS := (DX.out _ CC.out))
  try simp only [Act.put, sA, s0, s1]
  refine sy 27 30 rfl rfl ?_ (hS := (DX.out _ CC.out)) (hy := by (intro w hSw; (try dsimp only at hSw); obtain ⟨q0, q1, q2, q3, q4, q5, q6⟩ := hSw; go_simp; try with_reducible rfl))
  try simp only [Act.put, sA, s0, s1]
  refine sy 29 32 rfl rfl ?_ (hS := (DX.out _ CC.out))
  try simp only [Act.put, sA, s0, s1]
  refine sy 30 33 rfl rfl ?_ (hS := (DX.out _ CC.out))
  try simp only [Act.put, sA, s0, s1]
  refine sy 31 34 rfl rfl ?_ (hS := (DX.out _ CC.out)) (hy := by (intro w hSw; (try dsimp only at hSw); obtain ⟨q0, q1, q2, q3, q4, q5, q6⟩ := hSw; go_simp; try with_reducible rfl))
  try simp only [Act.put, sA, s0, s1]
  refine wpAnyH_ready (rs := [28]) (by kernel_rfl) (by simp) ?_
  refine AllReadyH.cons rfl (fun K hK => ?_) AllReadyH.nil
  replace hK := Lib.hid hK
  go_simp
  refine (qlast_any wc x.B x.bc e.q e.n (by have := HR.out.B.chg CC.out (by simp); rw [HR.out.bl] at this; exact this) HS.out.2.2).mono ?_
  rintro r wc ⟨rfl, hc⟩
  rw [LV.out]
  replace CC := Lib.hid (CC.out.trans hc)
  clear hc
  refine hK.out _ _ (DX.out _ CC.out) (fun hHeld => ?_)
  clear hK K
  try simp only [Act.put, sA, s0, s1]
  refine sy 32 35 rfl rfl ?_ (hS := (DX.out _ CC.out))
  try simp only [Act.put, sA, s0, s1]
  refine sy 33 36 rfl rfl ?_ (hS := (DX.out _ CC.out))
  try simp only [Act.put, sA, s0, s1]
  refine wpAnyH_done (by kernel_rfl) ?_ _
  clear hHeld
  go_wp2
  go_ret
  exact ⟨rfl, C.out.trans CC.out⟩

/-- The document's Check of an event, whatever comes. -/
theorem vecheck_any (w : World) (x : EvT) (e : EvP) (h : EvR w x e) (hs : EvSm e) :
    Calls Tryz.prog 15 #[.agg #[.int .i64 x.n, .int .i64 x.s, .string x.p, .int .i64 x.k, .int .i64 x.m, .slice x.A x.l x.c, .slice x.B x.bl x.bc]] w fun r w' => r = .returned (.int .i64 (chkEv e)) ∧ Chg [] w w' := by
  by_cases h0 : evOk e 0
  rotate_left
  · rw [chkEv_no 0 (by omega) h0]
    exact vecheck_0 w x e h hs (fun i hi => by omega) h0
  by_cases h1 : evOk e 1
  rotate_left
  · rw [chkEv_no 1 (by omega) h1]
    exact vecheck_1 w x e h hs (fun i hi => by match i, hi with | 0, _ => exact h0) h1
  by_cases h2 : evOk e 2
  rotate_left
  · rw [chkEv_no 2 (by omega) h2]
    exact vecheck_2 w x e h hs (fun i hi => by match i, hi with | 0, _ => exact h0 | 1, _ => exact h1) h2
  by_cases h3 : evOk e 3
  rotate_left
  · rw [chkEv_no 3 (by omega) h3]
    exact vecheck_3 w x e h hs (fun i hi => by match i, hi with | 0, _ => exact h0 | 1, _ => exact h1 | 2, _ => exact h2) h3
  by_cases h4 : evOk e 4
  rotate_left
  · rw [chkEv_no 4 (by omega) h4]
    exact vecheck_4 w x e h hs (fun i hi => by match i, hi with | 0, _ => exact h0 | 1, _ => exact h1 | 2, _ => exact h2 | 3, _ => exact h3) h4
  have ha : ∀ i, i < 5 → evOk e i := fun i hi => by match i, hi with | 0, _ => exact h0 | 1, _ => exact h1 | 2, _ => exact h2 | 3, _ => exact h3 | 4, _ => exact h4
  rw [chkEv_yes ha]
  exact vecheck_5 w x e h hs ha
end
section
open Go.RowKit Go.Lib
set_option linter.unusedSimpArgs false
set_option linter.unusedVariables false


theorem qhasx_any (w : World) (x y : EvT) (e f : EvP) (hx : EvR w x e) (hy : EvR w y f) (hs : EvSm f) :
    Calls Tryz.prog 69 #[.slice y.B y.bl y.bc, .agg #[.int .i64 x.n, .int .i64 x.s]] w fun r w' => r = .returned (.bool (hasE f.q e.n e.s)) ∧ Chg [] w w' := by
  have h1 := hx.n
  have h2 := hx.s
  have h3 := hy.bl
  have h4 := hy.B
  rw [h3] at h4 ⊢
  rw [h1, h2]
  exact qhas_any w y.B y.bc f.q e.n e.s h4 hs.2.2

set_option maxRecDepth 100000 in
set_option maxHeartbeats 8000000 in
theorem veahead_any (w : World) (x y : EvT) (e f : EvP) (hx : EvR w x e) (hy : EvR w y f) (hs : EvSm e) (ht : EvSm f) :
    Calls Tryz.prog 20 #[.agg #[.int .i64 x.n, .int .i64 x.s, .string x.p, .int .i64 x.k, .int .i64 x.m, .slice x.A x.l x.c, .slice x.B x.bl x.bc], .agg #[.int .i64 y.n, .int .i64 y.s, .string y.p, .int .i64 y.k, .int .i64 y.m, .slice y.A y.l y.c, .slice y.B y.bl y.bc]] w fun r w' => r = .returned (.bool (aheadP e f)) ∧ Chg [] w w' := by
  obtain ⟨w2, hw, hc, b0, b1⟩ := news2 w (.cells #[.int .i64 x.n, .int .i64 x.s, .string x.p, .int .i64 x.k, .int .i64 x.m, .slice x.A x.l x.c, .slice x.B x.bl x.bc] 29) (.cells #[.int .i64 y.n, .int .i64 y.s, .string y.p, .int .i64 y.k, .int .i64 y.m, .slice y.A y.l y.c, .slice y.B y.bl y.bc] 29)
  have W2 := Lib.hid hw
  have C := Lib.hid hc
  have HX := Lib.hid (hx.chg hc)
  have HY := Lib.hid (hy.chg hc)
  have HS := Lib.hid hs
  have HT := Lib.hid ht
  have B0 := Lib.hid b0
  have B1 := Lib.hid b1
  generalize hv : aheadP e f = v
  have HV := Lib.hid hv
  clear hv hw hc hx hy hs ht b0 b1
  go_enter Tryz.func20, Tryz.ntmps20
  go_upto_region 1 with fail
  rw [← W2.out]
  generalize w.heap.size + 1 = g1 at *
  generalize w.heap.size = g0 at *
  have z0 := cell_of B0.out 0
  have z1 := cell_of B0.out 1
  have z2 := cell_of B0.out 2
  have z3 := cell_of B0.out 3
  have z4 := cell_of B0.out 4
  have z5 := cell_of B0.out 5
  have z6 := cell_of B0.out 6
  have y0 := cell_of B1.out 0
  have y1 := cell_of B1.out 1
  have y2 := cell_of B1.out 2
  have y3 := cell_of B1.out 3
  have y4 := cell_of B1.out 4
  have y5 := cell_of B1.out 5
  have y6 := cell_of B1.out 6
  simp only [List.getElem?_toArray, List.getElem?_cons_succ, List.getElem?_cons_zero] at z0 y0 z1 y1 z2 y2 z3 y3 z4 y4 z5 y5 z6 y6
  go_wp2_with fail
  refine (vecheck_any w2 x e HX.out HS.out).mono ?_
  rintro r w3 ⟨rfl, hc⟩
  clear z0 y0 z1 y1 z2 y2 z3 y3 z4 y4 z5 y5 z6 y6
  replace C := Lib.hid (C.out.trans hc)
  replace HX := Lib.hid (HX.out.chg hc)
  replace HY := Lib.hid (HY.out.chg hc)
  replace B0 := Lib.hid (hc.at_ B0.out (by simp))
  replace B1 := Lib.hid (hc.at_ B1.out (by simp))
  clear hc
  rcases chkEv_two e with ha | ha
  rotate_left
  · obtain rfl : v = false := by rw [← HV.out]; unfold aheadP; rw [ha]; simp
    rw [ha]
    go_wp2
    go_ret
    exact ⟨rfl, C.out⟩
  rw [ha]
  have z0 := cell_of B0.out 0
  have z1 := cell_of B0.out 1
  have z2 := cell_of B0.out 2
  have z3 := cell_of B0.out 3
  have z4 := cell_of B0.out 4
  have z5 := cell_of B0.out 5
  have z6 := cell_of B0.out 6
  have y0 := cell_of B1.out 0
  have y1 := cell_of B1.out 1
  have y2 := cell_of B1.out 2
  have y3 := cell_of B1.out 3
  have y4 := cell_of B1.out 4
  have y5 := cell_of B1.out 5
  have y6 := cell_of B1.out 6
  simp only [List.getElem?_toArray, List.getElem?_cons_succ, List.getElem?_cons_zero] at z0 y0 z1 y1 z2 y2 z3 y3 z4 y4 z5 y5 z6 y6
  go_wp2_with fail
  refine (vecheck_any w3 y f HY.out HT.out).mono ?_
  rintro r w4 ⟨rfl, hc⟩
  clear z0 y0 z1 y1 z2 y2 z3 y3 z4 y4 z5 y5 z6 y6
  replace C := Lib.hid (C.out.trans hc)
  replace HX := Lib.hid (HX.out.chg hc)
  replace HY := Lib.hid (HY.out.chg hc)
  replace B0 := Lib.hid (hc.at_ B0.out (by simp))
  replace B1 := Lib.hid (hc.at_ B1.out (by simp))
  clear hc
  rcases chkEv_two f with hb | hb
  rotate_left
  · obtain rfl : v = false := by rw [← HV.out]; unfold aheadP; rw [hb]; simp
    rw [hb]
    go_wp2
    go_ret
    exact ⟨rfl, C.out⟩
  rw [hb]
  have z0 := cell_of B0.out 0
  have z1 := cell_of B0.out 1
  have z2 := cell_of B0.out 2
  have z3 := cell_of B0.out 3
  have z4 := cell_of B0.out 4
  have z5 := cell_of B0.out 5
  have z6 := cell_of B0.out 6
  have y0 := cell_of B1.out 0
  have y1 := cell_of B1.out 1
  have y2 := cell_of B1.out 2
  have y3 := cell_of B1.out 3
  have y4 := cell_of B1.out 4
  have y5 := cell_of B1.out 5
  have y6 := cell_of B1.out 6
  simp only [List.getElem?_toArray, List.getElem?_cons_succ, List.getElem?_cons_zero] at z0 y0 z1 y1 z2 y2 z3 y3 z4 y4 z5 y5 z6 y6
  go_wp2_with fail
  refine (qhasx_any w4 x y e f HX.out HY.out HT.out).mono ?_
  rintro r w5 ⟨rfl, hc⟩
  clear z0 y0 z1 y1 z2 y2 z3 y3 z4 y4 z5 y5 z6 y6
  replace C := Lib.hid (C.out.trans hc)
  replace HX := Lib.hid (HX.out.chg hc)
  replace HY := Lib.hid (HY.out.chg hc)
  replace B0 := Lib.hid (hc.at_ B0.out (by simp))
  replace B1 := Lib.hid (hc.at_ B1.out (by simp))
  clear hc
  rcases hh : hasE f.q e.n e.s with _ | _
  · obtain rfl : v = false := by rw [← HV.out]; unfold aheadP; rw [hh]; rfl
    go_wp2
    go_ret
    exact ⟨rfl, C.out⟩
  obtain rfl : v = true := by rw [← HV.out]; unfold aheadP; rw [hh, ha, hb]; rfl
  go_wp2
  go_ret
  exact ⟨rfl, C.out⟩
end
section
open Go.RowKit Go.Lib
set_option linter.unusedSimpArgs false
set_option linter.unusedVariables false

/-- A span's bytes. -/
def spanB (x : Int × Int × Int) : List UInt8 := UInt8.ofNat x.1.toNat :: (be 4 x.2.1.toNat ++ be 4 x.2.2.toNat)
theorem spanB_len (x : Int × Int × Int) : (spanB x).length = 9 := by simp [spanB, be_len]
/-- A past's bytes. -/
def spansB (xs : List (Int × Int × Int)) : List UInt8 := UInt8.ofNat (xs.length / 256) :: UInt8.ofNat xs.length :: xs.flatMap spanB
theorem four_cells {n : Int} (h0 : 0 ≤ n) (h1 : n ≤ 2147483647) : [Value.int .u8 (n / 16777216 % 256), Value.int .u8 (n / 65536 % 256), Value.int .u8 (n / 256 % 256), Value.int .u8 (n % 256)] = (be 4 n.toNat).map bv := by
  have e : ∀ a b : Int, a = b → Value.int .u8 a = Value.int .u8 b := fun _ _ h => by rw [h]
  simp only [be, List.map_cons, List.map_nil, bv, UInt8.toNat_ofNat']
  rw [e (n / 16777216 % 256) _ (show n / 16777216 % 256 = ((n.toNat / 256 ^ 3 % 2 ^ 8 : Nat) : Int) by omega), e (n / 65536 % 256) _ (show n / 65536 % 256 = ((n.toNat / 256 ^ 2 % 2 ^ 8 : Nat) : Int) by omega),
    e (n / 256 % 256) _ (show n / 256 % 256 = ((n.toNat / 256 ^ 1 % 2 ^ 8 : Nat) : Int) by omega), e (n % 256) _ (show n % 256 = ((n.toNat / 256 ^ 0 % 2 ^ 8 : Nat) : Int) by omega)]
theorem Bs.row {w : World} {g : Nat} {ys : List UInt8} (h : w.heap[g]? = some (.cells (ys.map bv).toArray 5 (0, 0))) (hl : ys.length ≤ maxLen) : Bs w (some ⟨g, 0, none⟩) ys.length ys :=
  (OwnB.of (full := ys) (c := ys.length) h (Nat.le_refl _) hl rfl (List.take_length)).reads
theorem pafour_any (w : World) (n : Int) (h0 : 0 ≤ n) (h1 : n ≤ 2147483647) :
    Calls Tryz.prog 104 #[.int .i64 n] w fun e w' => e = .returned (.slice (some ⟨w.heap.size, 0, none⟩) 4 4) ∧ Bs w' (some ⟨w.heap.size, 0, none⟩) 4 (be 4 n.toNat) ∧ Chg [] w w' := by
  have HC := Lib.hid (four_cells h0 h1)
  clear h0 h1
  go_enter Tryz.func104, Tryz.ntmps104
  go_wp2
  go_ret
  refine ⟨rfl, ?_, (Chg.refl _ _).alloc _⟩
  have := Bs.row (ys := be 4 n.toNat) (w := w.alloc (.cells ((be 4 n.toNat).map bv).toArray 5)) (g := w.heap.size) (heap_alloc_new w _) (by rw [be_len]; decide)
  rw [be_len] at this
  have e := HC.out
  rw [← e] at this
  exact this
end
section
open Go.RowKit Go.Lib
set_option linter.unusedSimpArgs false
set_option linter.unusedVariables false

theorem okFrom_fine : ∀ (p : Option (Int × Int × Int)) (xs : List (Int × Int × Int)), okFrom p xs = true → ∀ x ∈ xs, FineS x.1 x.2.1 x.2.2
  | _, [], _, x, hx => by simp at hx
  | none, y :: l, h, x, hx => by
    simp only [okFrom, Bool.and_eq_true, decide_eq_true_eq] at h
    rcases List.mem_cons.1 hx with rfl | hx
    · exact h.1
    · exact okFrom_fine _ l h.2 x hx
  | some _, y :: l, h, x, hx => by
    simp only [okFrom, Bool.and_eq_true, decide_eq_true_eq] at h
    rcases List.mem_cons.1 hx with rfl | hx
    · exact h.1.1
    · exact okFrom_fine _ l h.2 x hx
theorem chkS_zero {xs : List (Int × Int × Int)} (h : chkS xs = 0) : xs.length ≤ 4000 ∧ ∀ x ∈ xs, FineS x.1 x.2.1 x.2.2 := by
  unfold chkS at h
  split at h
  · rename_i hc; exact ⟨hc.1, okFrom_fine _ _ hc.2⟩
  · cases h
theorem chkS_odd {xs : List (Int × Int × Int)} (h : chkS xs ≠ 0) : chkS xs = 2 := by
  unfold chkS at h ⊢
  split at h
  · exact absurd rfl h
  · rename_i hc; rw [if_neg hc]
def bytesO (xs : List (Int × Int × Int)) : List UInt8 := if chkS xs = 0 then spansB xs else []
theorem span_cells {x : Int × Int × Int} (h : FineS x.1 x.2.1 x.2.2) : [Value.int .u8 (x.1 % 256), .int .u8 (x.2.1 / 16777216 % 256), .int .u8 (x.2.1 / 65536 % 256), .int .u8 (x.2.1 / 256 % 256), .int .u8 (x.2.1 % 256), .int .u8 (x.2.2 / 16777216 % 256), .int .u8 (x.2.2 / 65536 % 256), .int .u8 (x.2.2 / 256 % 256), .int .u8 (x.2.2 % 256)] = (spanB x).map bv := by
  obtain ⟨h1, h2, h3, h4, h5⟩ := h
  have e1 := four_cells (n := x.2.1) (by omega) (by omega)
  have e2 := four_cells (n := x.2.2) (by omega) (by omega)
  have e0 : Value.int .u8 (x.1 % 256) = bv (UInt8.ofNat x.1.toNat) := by
    unfold bv
    rw [UInt8.toNat_ofNat']
    congr 1
    omega
  rw [spanB, List.map_cons, List.map_append, ← e1, ← e2, e0]
  rfl
/-- The first two bytes: how many spans. -/
def headB (n : Nat) : List UInt8 := [UInt8.ofNat (n / 256), UInt8.ofNat n]
theorem head_cells {n : Nat} (h : n ≤ 4000) : [Value.int .u8 ((n : Int) / 256), Value.int .u8 ((n : Int) % 256)] = (headB n).map bv := by
  have e : ∀ a b : Int, a = b → Value.int .u8 a = Value.int .u8 b := fun _ _ h => by rw [h]
  simp only [headB, List.map_cons, List.map_nil, bv, UInt8.toNat_ofNat']
  rw [e ((n : Int) / 256) _ (show (n : Int) / 256 = ((n / 256 % 2 ^ 8 : Nat) : Int) by omega), e ((n : Int) % 256) _ (show (n : Int) % 256 = ((n % 2 ^ 8 : Nat) : Int) by omega)]
theorem takeB {xs : List (Int × Int × Int)} {k : Nat} {x : Int × Int × Int} (h : xs[k]? = some x) (hd : List UInt8) : hd ++ (xs.take (k + 1)).flatMap spanB = (hd ++ (xs.take k).flatMap spanB) ++ spanB x := by
  rw [List.take_add_one, h]
  simp
theorem flat_len (l : List (Int × Int × Int)) : (l.flatMap spanB).length = 9 * l.length := by
  induction l with
  | nil => rfl
  | cons x l ih => rw [List.flatMap_cons, List.length_append, spanB_len, ih, List.length_cons]; omega
set_option maxHeartbeats 4000000 in
set_option maxRecDepth 100000 in
theorem qbytes_any (w : World) (A : Option Addr) (n c : Nat) (xs : List (Int × Int × Int)) (h : RdK spanTy w A n xs) (hn : n ≤ 140737488351232) :
    Calls Tryz.prog 53 #[.slice A n c] w fun e w' => ∃ A' c', e = .returned (.tuple #[.slice A' (bytesO xs).length c', .int .i64 (chkS xs)]) ∧ Fresh w w' A' c' (bytesO xs) := by
  have hl := h.len
  subst hl
  have r1 := qacheck_any w A xs.length c xs h hn
  by_cases hk : chkS xs = 0
  · have hx := chkS_zero hk
    rw [hk] at r1
    rw [show bytesO xs = spansB xs by unfold bytesO; rw [if_pos hk], hk]
    have HX := Lib.hid h
    have HF := Lib.hid hx.2
    have hlen := hx.1
    have R1 := Lib.hid r1
    clear h hk hx r1 hn
    go_enter Tryz.func53, Tryz.ntmps53
    go_wp2_with fail
    refine R1.out.mono ?_
    rintro e w1 ⟨rfl, hc⟩
    have C := Lib.hid hc
    clear hc R1
    obtain ⟨w2, hw2, c2, b2⟩ := news1 w1 (.cells #[.int .u8 ((xs.length : Int) / 256), .int .u8 ((xs.length : Int) % 256)] 5)
    go_upto_region 4 with fail
    rw [← hw2]
    have ho : OwnB w2 (some ⟨w1.heap.size, 0, none⟩) 2 (headB xs.length) := by
      refine .of (full := headB xs.length) ?_ (by simp [headB]) (by decide) rfl rfl
      rw [← head_cells hlen]
      exact b2
    have HO := Lib.hid ho
    have CW := Lib.hid (C.out.trans c2)
    have SZ := Lib.hid C.out.size
    clear hw2 c2 b2 ho C
    generalize w1.heap.size = s1 at *
    go_wp2
    go_loopw [4, 5] (fun v4 v5 wr => ∃ (k : Nat) (B : Option Addr) (cc : Nat), k ≤ xs.length ∧ v4 = .slice B (2 + 9 * k) cc ∧ v5 = .int .i64 k ∧ Hid (OwnB wr B cc (headB xs.length ++ (xs.take k).flatMap spanB) ∧ (∀ a, B = some a → w.heap.size ≤ a.block) ∧ Chg [] w wr)) (fun _ v5 _ => xs.length - (RowKit.intOf v5).toNat)
    case atStart => exact ⟨0, some ⟨s1, 0, none⟩, 2, Nat.zero_le _, rfl, rfl, by simpa using HO.out, by rintro a ⟨⟩; exact SZ.out, CW.out⟩
    case round =>
      obtain ⟨k, B, cc, hk, rfl, rfl, HI⟩ := hrel
      generalize wr = w4 at *
      clear wr
      by_cases hlt : k < xs.length
      · obtain ⟨g, o, eA, _⟩ := HX.out.line (by omega)
        subst eA
        have ex := List.getElem?_eq_getElem hlt
        have hfin := HF.out _ (List.getElem_mem hlt)
        generalize xs[k] = x at *
        have EX := Lib.hid ex
        have HS := Lib.hid (span_cells hfin)
        obtain ⟨p0, p1, p2⟩ := spanCells (HX.out.chg HI.out.2.2 (by simp)) ex
        have i0 : (0 : Int) ≤ (k : Int) := by omega
        have i1 : (k : Int) < (xs.length : Int) := by omega
        clear ex hfin
        obtain ⟨w5, hw5, c5, b5⟩ := news1 w4 (.cells #[.int .i64 x.1, .int .i64 x.2.1, .int .i64 x.2.2] 62)
        go_upto_region 8 with fail
        rw [← hw5]
        have z0 := cell_of b5 0
        have z1 := cell_of b5 1
        have z2 := cell_of b5 2
        simp only [List.getElem?_toArray, List.getElem?_cons_succ, List.getElem?_cons_zero] at z0 z1 z2
        have HI5 := Lib.hid c5
        clear hw5 c5 b5 p0 p1 p2
        generalize w4.heap.size = s5 at *
        obtain ⟨w6, hw6, c6, b6⟩ := news1 w5 (.cells #[.int .u8 (x.1 % 256), .int .u8 (x.2.1 / 16777216 % 256), .int .u8 (x.2.1 / 65536 % 256), .int .u8 (x.2.1 / 256 % 256), .int .u8 (x.2.1 % 256), .int .u8 (x.2.2 / 16777216 % 256), .int .u8 (x.2.2 / 65536 % 256), .int .u8 (x.2.2 / 256 % 256), .int .u8 (x.2.2 % 256)] 5)
        have W6 := Lib.hid hw6
        have C6 := Lib.hid (HI5.out.trans c6)
        have LN := Lib.hid (show (headB xs.length ++ (xs.take k).flatMap spanB).length = 2 + 9 * k by rw [List.length_append, flat_len, List.length_take, Nat.min_eq_left hk]; rfl)
        have OW := Lib.hid (HI.out.1.chg C6.out (by simp))
        have RD := Lib.hid (show Bs w6 (some ⟨w5.heap.size, 0, none⟩) 9 (spanB x) by
          have := Bs.row (ys := spanB x) (w := w6) (g := w5.heap.size) (by rw [← HS.out]; exact b6) (by rw [spanB_len]; decide)
          rwa [spanB_len] at this)
        have BD := Lib.hid (show 2 + 9 * k + 9 ≤ 140737488355327 by omega)
        clear hw6 c6 b6
        go_wp2_with (at_builtin; rw [← W6.out]; refine wpList_app rfl _ _ rfl rfl OW.out LN.out rfl RD.out BD.out ?_; intro A2 c2 w7 u2 d2 e2)
        have CE := Lib.hid ((HI.out.2.2.trans C6.out).grown d2 (fun i hi => by
          cases B with
          | none => simp at hi
          | some a => simp at hi; subst hi; exact .inr (HI.out.2.1 a rfl)))
        have HE : Hid (∀ a, A2 = some a → w.heap.size ≤ a.block) := Lib.hid (by
          rcases e2 with rfl | rfl
          · exact HI.out.2.1
          · rintro a ⟨⟩; exact (HI.out.2.2.trans C6.out).size)
        have U2 := Lib.hid u2
        clear u2 d2 e2 z0 z1 z2
        go_wp2
        go_round
        case rel => exact ⟨k + 1, A2, c2, by omega, by congr 1, by go_num, by rw [takeB EX.out]; exact U2.out, HE.out, CE.out⟩
        case measure => simp [RowKit.intOf]; omega
      · obtain rfl : k = xs.length := by omega
        have hb : headB xs.length ++ (xs.take xs.length).flatMap spanB = spansB xs := by rw [List.take_length]; rfl
        have hl2 : (spansB xs).length = 2 + 9 * xs.length := by rw [← hb, List.length_append, flat_len, List.take_length]; rfl
        have HR := HI.out
        rw [hb] at HR
        rw [← hl2] at *
        have HR := Lib.hid HR
        clear hb hl2
        go_wp2
        go_ret2
        exact ⟨B, cc, rfl, HR.out⟩
  · have h2 := chkS_odd hk
    rw [h2] at r1
    rw [show bytesO xs = [] by unfold bytesO; rw [if_neg hk], h2]
    have R1 := Lib.hid r1
    clear h hk r1 hn h2
    go_enter Tryz.func53, Tryz.ntmps53
    go_wp2_with fail
    refine R1.out.mono ?_
    rintro e w1 ⟨rfl, hc⟩
    have C := Lib.hid hc
    clear hc R1
    go_wp2
    go_ret2
    exact ⟨none, 0, rfl, OwnB.none_ _, by simp, C.out⟩
end
section
open Go.RowKit Go.Lib
set_option linter.unusedSimpArgs false
set_option linter.unusedVariables false
/-- So many zeros. -/
def zeroRowP (n : Nat) : Array Value := ((List.replicate n (0 : UInt8)).map bv).toArray
theorem run_mkP (n : Nat) (c : Int) (hc : c = (n : Int)) (h : n ≤ 140737488351232) (w : World) : (Instr.makeSlice 24 (.int .i64 0) (.int .i64 c)).run Tryz.prog w = .ok (.slice (some ⟨w.heap.size, 0, none⟩) 0 n) (w.alloc (.cells (zeroRowP n) 5)) := by
  subst hc
  obtain ⟨i0, hi, hz0, hz1, hz2⟩ := info_parts info8
  have hr := run_make (P := Tryz.prog) w 24 5 i0 (.int .u8 0) Tryz.underlying24 hi hz0 .i64 .i64 0 n (by omega) (by omega) (by rw [hz2]; omega) (by omega)
  rw [hr, hz1, Int.toNat_natCast, Nat.mul_one]
  have e : madeCells (Value.int .u8 0).cells n = zeroRowP n := by
    apply Array.toList_inj.1
    show (madeCells #[.int .u8 0] n).toList = _
    rw [toList_madeCells_one]
    simp [zeroRowP, bv]
  rw [e]
  rfl
theorem OwnB.zeros {w : World} (n : Nat) (h : n ≤ maxLen) : OwnB (w.alloc (.cells (zeroRowP n) 5)) (some ⟨w.heap.size, 0, none⟩) n [] :=
  .of (full := List.replicate n 0) (heap_alloc_new w _) (Nat.zero_le _) h (by simp) rfl
/-- What an append makes of a row of one's own. -/
theorem app_own {w w6 w7 : World} {B A2 : Option Addr} (hB : ∀ a, B = some a → w.heap.size ≤ a.block) (hC : Chg [] w w6) (d2 : w6.grownBy w7 (B.map (·.block))) (e2 : A2 = B ∨ A2 = some ⟨w6.heap.size, 0, none⟩) : (∀ a, A2 = some a → w.heap.size ≤ a.block) ∧ Chg [] w w7 := by
  refine ⟨?_, hC.grown d2 (fun i hi => ?_)⟩
  · rcases e2 with rfl | rfl
    · exact hB
    · rintro a ⟨⟩; exact hC.size
  · cases B with
    | none => simp at hi
    | some a => simp at hi; subst hi; exact .inr (hB a rfl)
theorem Bs.byte {w : World} {g : Nat} {v : Int} {c : UInt8} (hv : Value.int .u8 v = bv c) (h : w.heap[g]? = some (.cells #[.int .u8 v] 5 (0, 0))) : Bs w (some ⟨g, 0, none⟩) 1 [c] := by
  refine Bs.row (ys := [c]) ?_ (show 1 ≤ maxLen by decide)
  rw [h, hv]
  rfl
set_option maxHeartbeats 8000000 in
set_option maxRecDepth 100000 in
theorem pabytes_any (w : World) (A : Option Addr) (n c : Nat) (xs : List (Int × Int × Int)) (h : RdK spanTy w A n xs) (hn : n ≤ 140737488351232) :
    Calls Tryz.prog 46 #[.slice A n c] w fun e w' => ∃ A' c', e = .returned (.tuple #[.slice A' (bytesO xs).length c', .int .i64 (chkS xs)]) ∧ Fresh w w' A' c' (bytesO xs) := by
  have hl := h.len
  subst hl
  have r1 := pacheck_any w A xs.length c xs h hn
  by_cases hk : chkS xs = 0
  · have hx := chkS_zero hk
    rw [hk] at r1
    rw [show bytesO xs = spansB xs by unfold bytesO; rw [if_pos hk], hk]
    have HX := Lib.hid h
    have HF := Lib.hid hx.2
    have hlen := hx.1
    have R1 := Lib.hid r1
    have hmk := fun W => run_mkP (2 + 9 * xs.length) (2 + 9 * (xs.length : Int)) (by omega) (by omega) W
    clear h hk hx r1 hn
    go_enter Tryz.func46, Tryz.ntmps46
    go_wp2_with fail
    refine R1.out.mono ?_
    rintro e w1 ⟨rfl, hc⟩
    have C := Lib.hid hc
    clear hc R1
    obtain ⟨w2, hw2, c2, b2⟩ := news1 w1 (.cells (zeroRowP (2 + 9 * xs.length)) 5)
    have W2 := Lib.hid hw2
    have O2 : Hid (OwnB w2 (some ⟨w1.heap.size, 0, none⟩) (2 + 9 * xs.length) []) := Lib.hid (by rw [hw2]; exact OwnB.zeros _ (by unfold maxLen; omega))
    have C2 := Lib.hid (C.out.trans c2)
    have SZ := Lib.hid C.out.size
    clear hw2 c2 b2 C
    go_upto_region 5 with fail
    rw [← W2.out]
    clear W2 hmk
    generalize w1.heap.size = s1 at *
    obtain ⟨w3, hw3, c3, b3⟩ := news1 w2 (.cells #[.int .u8 ((xs.length : Int) / 256), .int .u8 ((xs.length : Int) % 256)] 5)
    have W3 := Lib.hid hw3
    have C3 := Lib.hid (C2.out.trans c3)
    have O3 := Lib.hid (O2.out.chg c3 (by simp))
    have RD := Lib.hid (show Bs w3 (some ⟨w2.heap.size, 0, none⟩) 2 (headB xs.length) from Bs.row (ys := headB xs.length) (by rw [← head_cells hlen]; exact b3) (show 2 ≤ maxLen by decide))
    have BD : Hid (0 + 2 ≤ 140737488355327) := Lib.hid (by decide)
    clear hw3 c3 b3
    go_wp2_with (at_builtin; rw [← W3.out]; refine wpList_app rfl _ _ rfl rfl O3.out rfl rfl RD.out BD.out ?_; intro A2 c2 w4 u2 d2 e2)
    have AO := app_own (w := w) (by rintro a ⟨⟩; exact SZ.out) C3.out d2 e2
    have OI := Lib.hid (And.intro u2 AO)
    clear u2 d2 e2 AO W3 C3 O3 RD BD C2 O2
    go_wp2
    go_loopw [5, 30] (fun v5 v30 wr => ∃ (k : Nat) (B : Option Addr) (cc : Nat), k ≤ xs.length ∧ v5 = .slice B (2 + 9 * k) cc ∧ v30 = .int .i64 k ∧ Hid (OwnB wr B cc (headB xs.length ++ (xs.take k).flatMap spanB) ∧ (∀ a, B = some a → w.heap.size ≤ a.block) ∧ Chg [] w wr)) (fun _ v30 _ => xs.length - (RowKit.intOf v30).toNat)
    case atStart => exact ⟨0, A2, c2, Nat.zero_le _, rfl, rfl, by simpa using OI.out.1, OI.out.2.1, OI.out.2.2⟩
    case round =>
      clear OI
      obtain ⟨k, B, cc, hk, rfl, rfl, HI⟩ := hrel
      generalize wr = w5 at *
      clear wr
      by_cases hlt : k < xs.length
      · obtain ⟨g, o, eA, _⟩ := HX.out.line (by omega)
        subst eA
        have ex := List.getElem?_eq_getElem hlt
        have hfin := HF.out _ (List.getElem_mem hlt)
        generalize xs[k] = x at *
        have EX := Lib.hid ex
        have FN := Lib.hid hfin
        obtain ⟨p0, p1, p2⟩ := spanCells (HX.out.chg HI.out.2.2 (by simp)) ex
        have i0 : (0 : Int) ≤ (k : Int) := by omega
        have i1 : (k : Int) < (xs.length : Int) := by omega
        clear ex hfin
        obtain ⟨w6, hw6, c6, b6⟩ := news1 w5 (.cells #[.int .i64 x.1, .int .i64 x.2.1, .int .i64 x.2.2] 62)
        go_upto_region 9 with fail
        rw [← hw6]
        have P6 := Lib.hid b6
        have C6 := Lib.hid (HI.out.2.2.trans c6)
        have O6 := Lib.hid (HI.out.1.chg c6 (by simp))
        have B6 := Lib.hid HI.out.2.1
        have L6 := Lib.hid (show (headB xs.length ++ (xs.take k).flatMap spanB).length = 2 + 9 * k by rw [List.length_append, flat_len, List.length_take, Nat.min_eq_left hk]; rfl)
        clear hw6 c6 b6 p0 p1 p2
        generalize w5.heap.size = s5 at *
        generalize hy : headB xs.length ++ (xs.take k).flatMap spanB = ys at *
        have HY := Lib.hid hy
        clear hy
        have z0 := cell_of P6.out 0
        simp only [List.getElem?_toArray, List.getElem?_cons_succ, List.getElem?_cons_zero] at z0
        obtain ⟨w7, hw, c7, b7⟩ := news1 w6 (.cells #[.int .u8 (x.1 % 256)] 5)
        have WN := Lib.hid hw
        have RD := Lib.hid (show Bs w7 (some ⟨w6.heap.size, 0, none⟩) 1 [UInt8.ofNat x.1.toNat] from Bs.byte (by
          have hf := FN.out
          unfold FineS at hf
          unfold bv
          rw [UInt8.toNat_ofNat']
          congr 1
          omega) b7)
        have C7 := Lib.hid (C6.out.trans c7)
        have O7 := Lib.hid (O6.out.chg c7 (by simp))
        have P7 := Lib.hid (c7.at_ P6.out (by simp))
        clear hw c7 b7
        have BD := Lib.hid (show 2 + 9 * k + 1 ≤ 140737488355327 by omega)
        go_wp2_with (at_builtin; rw [← WN.out]; refine wpList_app rfl _ _ rfl rfl O7.out L6.out rfl RD.out BD.out ?_; intro A3 cc0 w8 u2 d2 e2; have P6 := Lib.hid (grown_at d2 P7.out (O7.out.ne P7.out (by decide))); have z1 := cell_of P6.out 1; simp only [List.getElem?_toArray, List.getElem?_cons_succ, List.getElem?_cons_zero] at z1)
        have AO := app_own (w := w) B6.out C7.out d2 e2
        have O6 := Lib.hid u2
        have L6 := Lib.hid (show (ys ++ [UInt8.ofNat x.1.toNat]).length = 2 + 9 * k + 1 by rw [List.length_append, L6.out]; simp [be_len])
        have B6 := Lib.hid AO.1
        have C6 := Lib.hid AO.2
        clear u2 d2 e2 AO C7 O7 P7 RD BD z0 WN
        refine (pafour_any _ x.2.1 (by have := FN.out; unfold FineS at this; omega) (by have := FN.out; unfold FineS at this; omega)).mono ?_
        rintro e w9 ⟨rfl, hb, c7⟩
        have RD := Lib.hid hb
        have C7 := Lib.hid (C6.out.trans c7)
        have O7 := Lib.hid (O6.out.chg c7 (by simp))
        have P7 := Lib.hid (c7.at_ P6.out (by simp))
        clear hb c7
        have BD := Lib.hid (show 2 + 9 * k + 1 + 4 ≤ 140737488355327 by omega)
        go_wp2_with (at_builtin; refine wpList_app rfl _ _ rfl rfl O7.out L6.out rfl RD.out BD.out ?_; intro A4 cc1 w10 u2 d2 e2; have P6 := Lib.hid (grown_at d2 P7.out (O7.out.ne P7.out (by decide))); have z2 := cell_of P6.out 2; simp only [List.getElem?_toArray, List.getElem?_cons_succ, List.getElem?_cons_zero] at z2)
        have AO := app_own (w := w) B6.out C7.out d2 e2
        have O6 := Lib.hid u2
        have L6 := Lib.hid (show (ys ++ [UInt8.ofNat x.1.toNat] ++ be 4 x.2.1.toNat).length = 2 + 9 * k + 1 + 4 by rw [List.length_append, L6.out]; simp [be_len])
        have B6 := Lib.hid AO.1
        have C6 := Lib.hid AO.2
        clear u2 d2 e2 AO C7 O7 P7 RD BD z1
        refine (pafour_any _ x.2.2 (by have := FN.out; unfold FineS at this; omega) (by have := FN.out; unfold FineS at this; omega)).mono ?_
        rintro e w11 ⟨rfl, hb, c7⟩
        have RD := Lib.hid hb
        have C7 := Lib.hid (C6.out.trans c7)
        have O7 := Lib.hid (O6.out.chg c7 (by simp))
        have P7 := Lib.hid (c7.at_ P6.out (by simp))
        clear hb c7
        have BD := Lib.hid (show 2 + 9 * k + 1 + 4 + 4 ≤ 140737488355327 by omega)
        go_wp2_with (at_builtin; refine wpList_app rfl _ _ rfl rfl O7.out L6.out rfl RD.out BD.out ?_; intro A5 cc2 w12 u2 d2 e2; have P6 := Lib.hid (grown_at d2 P7.out (O7.out.ne P7.out (by decide))))
        have AO := app_own (w := w) B6.out C7.out d2 e2
        have O6 := Lib.hid u2
        have L6 := Lib.hid (show (ys ++ [UInt8.ofNat x.1.toNat] ++ be 4 x.2.1.toNat ++ be 4 x.2.2.toNat).length = 2 + 9 * k + 1 + 4 + 4 by rw [List.length_append, L6.out]; simp [be_len])
        have B6 := Lib.hid AO.1
        have C6 := Lib.hid AO.2
        clear u2 d2 e2 AO C7 O7 P7 RD BD z2
        refine ⟨⟨k + 1, A5, cc2, by omega, by congr 1, by go_num, ?_, B6.out, C6.out⟩, by simp [RowKit.intOf]; omega⟩
        rw [takeB EX.out, HY.out]
        have hq := O6.out
        simpa [spanB] using hq
      · obtain rfl : k = xs.length := by omega
        have hb : headB xs.length ++ (xs.take xs.length).flatMap spanB = spansB xs := by rw [List.take_length]; rfl
        have hl2 : (spansB xs).length = 2 + 9 * xs.length := by rw [← hb, List.length_append, flat_len, List.take_length]; rfl
        have HR := HI.out
        rw [hb] at HR
        rw [← hl2] at *
        have HR := Lib.hid HR
        clear hb hl2
        go_wp2
        go_ret2
        exact ⟨B, cc, rfl, HR.out⟩
  · have h2 := chkS_odd hk
    rw [h2] at r1
    rw [show bytesO xs = [] by unfold bytesO; rw [if_neg hk], h2]
    have R1 := Lib.hid r1
    clear h hk r1 hn h2
    go_enter Tryz.func46, Tryz.ntmps46
    go_wp2_with fail
    refine R1.out.mono ?_
    rintro e w1 ⟨rfl, hc⟩
    have C := Lib.hid hc
    clear hc R1
    go_wp2
    go_ret2
    exact ⟨none, 0, rfl, OwnB.none_ _, by simp, C.out⟩
end
section
open Go.RowKit Go.Lib
set_option linter.unusedSimpArgs false
set_option linter.unusedVariables false


/-- What a writer has behind each part of an event. -/
def evW0 (e : EvP) : List UInt8 × Int := wNum [] 0 e.n
def evW1 (e : EvP) : List UInt8 × Int := wNum (evW0 e).1 (evW0 e).2 e.s
def evW2 (e : EvP) : List UInt8 × Int := wRaw (evW1 e).1 (evW1 e).2 e.p
def evW3 (e : EvP) : List UInt8 × Int := wRaw (evW2 e).1 (evW2 e).2 (effO e.k e.m e.b)
def evW4 (e : EvP) : List UInt8 × Int := wRaw (evW3 e).1 (evW3 e).2 (bytesO e.q)
theorem evW_len (e : EvP) : (evW0 e).1.length ≤ 1048576 ∧ (evW1 e).1.length ≤ 1048576 ∧ (evW2 e).1.length ≤ 1048576 ∧ (evW3 e).1.length ≤ 1048576 ∧ (evW4 e).1.length ≤ 1048576 := by
  have h0 : (evW0 e).1.length ≤ 1048576 := wNum_len (by simp)
  have h1 : (evW1 e).1.length ≤ 1048576 := wNum_len h0
  have h2 : (evW2 e).1.length ≤ 1048576 := wRaw_len h1
  have h3 : (evW3 e).1.length ≤ 1048576 := wRaw_len h2
  have h4 : (evW4 e).1.length ≤ 1048576 := wRaw_len h3
  exact ⟨h0, h1, h2, h3, h4⟩
/-- An event's bytes, and what is wrong. -/
def bytesEv (e : EvP) : List UInt8 × Int := if chkEv e = 0 then (outs (evW4 e).1 (evW4 e).2, (evW4 e).2) else ([], 2)
theorem effO_len (k m : Int) (ys : List UInt8) : (effO k m ys).length ≤ 2000 := by
  unfold effO
  split
  · rename_i h
    have := fine_len h
    unfold effB
    rw [List.length_append, List.length_append, List.length_append, enc_len, enc_len, enc_len]
    have n1 := nb_le k.toNat (by omega)
    have n2 := nb_le m.toNat (by omega)
    have n3 := nb_le ys.length (by omega)
    omega
  · simp
theorem bytesO_len (xs : List (Int × Int × Int)) : (bytesO xs).length ≤ 40000 := by
  unfold bytesO
  split
  · rename_i h
    have := (chkS_zero h).1
    show (UInt8.ofNat (xs.length / 256) :: UInt8.ofNat xs.length :: xs.flatMap spanB).length ≤ 40000
    rw [List.length_cons, List.length_cons, flat_len]
    omega
  · simp

set_option maxRecDepth 100000 in
set_option maxHeartbeats 8000000 in
theorem evbytes_any (w : World) (x : EvT) (e : EvP) (h : EvR w x e) (hs : EvSm e) :
    Calls Tryz.prog 11 #[.agg #[.int .i64 x.n, .int .i64 x.s, .string x.p, .int .i64 x.k, .int .i64 x.m, .slice x.A x.l x.c, .slice x.B x.bl x.bc]] w fun r w' => ∃ A' c', r = .returned (.tuple #[.slice A' (bytesEv e).1.length c', .int .i64 (bytesEv e).2]) ∧ Fresh w w' A' c' (bytesEv e).1 := by
  obtain ⟨w1, hw1, c1, b1⟩ := news1 w (.cells #[.int .i64 x.n, .int .i64 x.s, .string x.p, .int .i64 x.k, .int .i64 x.m, .slice x.A x.l x.c, .slice x.B x.bl x.bc] 29)
  have W1 := Lib.hid hw1
  have HR := Lib.hid (h.chg c1)
  have C0 := Lib.hid c1
  have HS := Lib.hid hs
  have z0 := cell_of b1 0
  have z1 := cell_of b1 1
  have z2 := cell_of b1 2
  have z3 := cell_of b1 3
  have z4 := cell_of b1 4
  have z5 := cell_of b1 5
  have z6 := cell_of b1 6
  simp only [List.getElem?_toArray, List.getElem?_cons_succ, List.getElem?_cons_zero] at z0 z1 z2 z3 z4 z5 z6
  have hck := evcheck_any w1 x e (h.chg c1) hs
  rcases chkEv_two e with hk | hk
  rotate_left
  · have EB : Hid (bytesEv e = ([], 2)) := Lib.hid (by unfold bytesEv; rw [hk]; rfl)
    rw [hk] at hck
    have HC := Lib.hid hck
    clear hck hk hw1 c1 b1 h hs
    rw [EB.out]
    go_enter Tryz.func11, Tryz.ntmps11
    go_upto_region 1 with fail
    rw [← W1.out]
    generalize w.heap.size = g0 at *
    go_wp2_with fail
    refine HC.out.mono ?_
    rintro r w2 ⟨rfl, hc⟩
    have C := Lib.hid (C0.out.trans hc)
    clear hc z0 z1 z2 z3 z4 z5 z6
    go_wp2
    go_ret2
    exact ⟨none, 0, rfl, OwnB.none_ _, by simp, C.out⟩
  have EB : Hid (bytesEv e = (outs (evW4 e).1 (evW4 e).2, (evW4 e).2)) := Lib.hid (by unfold bytesEv; rw [if_pos hk])
  rw [hk] at hck
  have HC := Lib.hid hck
  rw [EB.out]
  obtain ⟨g0, hg0⟩ : ∃ g, w.heap.size = g := ⟨_, rfl⟩
  rw [hg0] at z0 z1 z2 z3 z4 z5 z6
  have G0 := Lib.hid hg0
  have DX : Hid (∀ w', Chg [] w1 w' → w'.cell? ⟨g0, 0, none⟩ = some (.int .i64 x.n) ∧ w'.cell? ⟨g0, 1, none⟩ = some (.int .i64 x.s) ∧ w'.cell? ⟨g0, 2, none⟩ = some (.string x.p) ∧ w'.cell? ⟨g0, 3, none⟩ = some (.int .i64 x.k) ∧ w'.cell? ⟨g0, 4, none⟩ = some (.int .i64 x.m) ∧ w'.cell? ⟨g0, 5, none⟩ = some (.slice x.A x.l x.c) ∧ w'.cell? ⟨g0, 6, none⟩ = some (.slice x.B x.bl x.bc)) := Lib.hid (fun w' hc => ⟨hc.cell z0 (by simp), hc.cell z1 (by simp), hc.cell z2 (by simp), hc.cell z3 (by simp), hc.cell z4 (by simp), hc.cell z5 (by simp), hc.cell z6 (by simp)⟩)
  have xn := Lib.hid h.n
  have xs := Lib.hid h.s
  have xp := Lib.hid h.p
  have xk := Lib.hid h.k
  have xm := Lib.hid h.m
  have EL := Lib.hid (evW_len e)
  clear hck hk hw1 c1 b1 h hs hg0
  go_enter Tryz.func11, Tryz.ntmps11
  go_upto_region 1 with fail
  rw [← W1.out, G0.out]
  go_wp2_with fail
  refine HC.out.mono ?_
  rintro r w2 ⟨rfl, hc⟩
  have C := Lib.hid hc
  clear hc z0 z1 z2 z3 z4 z5 z6
  obtain ⟨z0, z1, z2, z3, z4, z5, z6⟩ := DX.out _ C.out
  go_wp2_with fail
  refine (ebytes_any w2 x.k x.m x.A x.l x.c e.b (HR.out.A.chg C.out (by simp)) (by rw [HR.out.l]; exact HS.out.2.1)).mono ?_
  rintro r w3 ⟨A3, c3, rfl, h3⟩
  clear z0 z1 z2 z3 z4 z5 z6
  rw [xk.out, xm.out] at h3
  rw [xk.out, xm.out]
  have O3 := Lib.hid h3.1
  replace C := Lib.hid (C.out.trans h3.2.2)
  clear h3
  obtain ⟨z0, z1, z2, z3, z4, z5, z6⟩ := DX.out _ C.out
  go_wp2_with fail
  refine (pabytes_any w3 x.B x.bl x.bc e.q (HR.out.B.chg C.out (by simp)) (by rw [HR.out.bl]; exact HS.out.2.2)).mono ?_
  rintro r w4 ⟨A4, c4, rfl, h4⟩
  clear z0 z1 z2 z3 z4 z5 z6
  have O4 := Lib.hid h4.1
  replace O3 := Lib.hid (O3.out.chg h4.2.2 (by simp))
  replace C := Lib.hid (C.out.trans h4.2.2)
  clear h4
  have DX4 : Hid (∀ w', Chg [] w4 w' → w'.cell? ⟨g0, 0, none⟩ = some (.int .i64 x.n) ∧ w'.cell? ⟨g0, 1, none⟩ = some (.int .i64 x.s) ∧ w'.cell? ⟨g0, 2, none⟩ = some (.string x.p) ∧ w'.cell? ⟨g0, 3, none⟩ = some (.int .i64 x.k) ∧ w'.cell? ⟨g0, 4, none⟩ = some (.int .i64 x.m) ∧ w'.cell? ⟨g0, 5, none⟩ = some (.slice x.A x.l x.c) ∧ w'.cell? ⟨g0, 6, none⟩ = some (.slice x.B x.bl x.bc)) := Lib.hid (fun w' hc => DX.out _ (C.out.trans hc))
  have P4 := xp
  go_wp2_with fail
  refine (ws_new w4 w4 (Chg.refl [] w4)).mono ?_
  rintro r w5 ⟨b, rfl, h5⟩
  have K := Lib.hid h5
  clear h5
  obtain ⟨z0, z1, z2, z3, z4, z5, z6⟩ := DX4.out _ K.out.chg
  go_wp2_with fail
  refine (ws_num w4 w5 b [] 0 x.n K.out (by simp)).mono ?_
  rintro r w6 ⟨rfl, h⟩
  rw [xn.out] at h
  clear z0 z1 z2 z3 z4 z5 z6
  replace K : Hid (Ws w4 w6 b (evW0 e).1 (evW0 e).2) := Lib.hid h
  clear h
  obtain ⟨z0, z1, z2, z3, z4, z5, z6⟩ := DX4.out _ K.out.chg
  go_wp2_with fail
  refine (ws_num w4 w6 b _ _ x.s K.out EL.out.1).mono ?_
  rintro r w7 ⟨rfl, h⟩
  rw [xs.out] at h
  clear z0 z1 z2 z3 z4 z5 z6
  replace K : Hid (Ws w4 w7 b (evW1 e).1 (evW1 e).2) := Lib.hid h
  clear h
  obtain ⟨z0, z1, z2, z3, z4, z5, z6⟩ := DX4.out _ K.out.chg
  go_wp2_with fail
  refine (ws_text w4 w7 b _ _ x.p K.out (EL.out.2.1) (by rw [xp.out, strOf_size]; have := HS.out.1; omega)).mono ?_
  rintro r w8 ⟨rfl, h⟩
  rw [xp.out, strOf_data] at h
  clear z0 z1 z2 z3 z4 z5 z6
  replace K : Hid (Ws w4 w8 b (evW2 e).1 (evW2 e).2) := Lib.hid h
  clear h
  obtain ⟨z0, z1, z2, z3, z4, z5, z6⟩ := DX4.out _ K.out.chg
  go_wp2_with fail
  refine (ws_raw w4 w8 b _ _ A3 _ c3 (effO e.k e.m e.b) K.out (EL.out.2.2.1) (by have := effO_len e.k e.m e.b; omega) O3.out.reads).mono ?_
  rintro r w9 ⟨rfl, h⟩
  clear z0 z1 z2 z3 z4 z5 z6
  replace K : Hid (Ws w4 w9 b (evW3 e).1 (evW3 e).2) := Lib.hid h
  clear h
  obtain ⟨z0, z1, z2, z3, z4, z5, z6⟩ := DX4.out _ K.out.chg
  go_wp2_with fail
  refine (ws_raw w4 w9 b _ _ A4 _ c4 (bytesO e.q) K.out (EL.out.2.2.2.1) (by have := bytesO_len e.q; omega) O4.out.reads).mono ?_
  rintro r w10 ⟨rfl, h⟩
  clear z0 z1 z2 z3 z4 z5 z6
  replace K : Hid (Ws w4 w10 b (evW4 e).1 (evW4 e).2) := Lib.hid h
  clear h
  obtain ⟨z0, z1, z2, z3, z4, z5, z6⟩ := DX4.out _ K.out.chg
  go_wp2_with fail
  refine (ws_out w4 w10 b _ _ K.out (EL.out.2.2.2.2)).mono ?_
  rintro r w11 ⟨A9, c9, rfl, h9⟩
  have F := Lib.hid (h9.since (C0.out.trans C.out))
  clear h9 z0 z1 z2 z3 z4 z5 z6
  go_wp2
  go_ret2
  exact ⟨A9, c9, rfl, F.out⟩

set_option maxRecDepth 100000 in
set_option maxHeartbeats 4000000 in
theorem evsize_any (w : World) (x : EvT) (e : EvP) (h : EvR w x e) (hs : EvSm e) :
    Calls Tryz.prog 16 #[.agg #[.int .i64 x.n, .int .i64 x.s, .string x.p, .int .i64 x.k, .int .i64 x.m, .slice x.A x.l x.c, .slice x.B x.bl x.bc]] w fun r w' => r = .returned (.int .i64 ((bytesEv e).1.length : Int)) ∧ Chg [] w w' := by
  obtain ⟨w1, hw1, c1, b1⟩ := news1 w (.cells #[.int .i64 x.n, .int .i64 x.s, .string x.p, .int .i64 x.k, .int .i64 x.m, .slice x.A x.l x.c, .slice x.B x.bl x.bc] 29)
  have W1 := Lib.hid hw1
  have HR := Lib.hid (h.chg c1)
  have C0 := Lib.hid c1
  have HS := Lib.hid hs
  have z0 := cell_of b1 0
  have z1 := cell_of b1 1
  have z2 := cell_of b1 2
  have z3 := cell_of b1 3
  have z4 := cell_of b1 4
  have z5 := cell_of b1 5
  have z6 := cell_of b1 6
  simp only [List.getElem?_toArray, List.getElem?_cons_succ, List.getElem?_cons_zero] at z0 z1 z2 z3 z4 z5 z6
  clear hw1 c1 b1 h hs
  generalize hB : bytesEv e = B
  have HB := Lib.hid hB
  clear hB
  go_enter Tryz.func16, Tryz.ntmps16
  go_upto_region 1 with fail
  rw [← W1.out]
  generalize w.heap.size = g0 at *
  go_wp2_with fail
  refine (evbytes_any w1 x e HR.out HS.out).mono ?_
  rintro r w2 ⟨A2, c2, rfl, hf⟩
  rw [HB.out]
  have C := Lib.hid (C0.out.trans hf.2.2)
  clear hf z0 z1 z2 z3 z4 z5 z6
  go_wp2
  go_ret
  exact ⟨rfl, C.out⟩
end
section
open Go.RowKit Go.Lib
set_option linter.unusedSimpArgs false
set_option linter.unusedVariables false


set_option maxRecDepth 100000 in
set_option maxHeartbeats 8000000 in
theorem vebytes_any (w : World) (x : EvT) (e : EvP) (h : EvR w x e) (hs : EvSm e) (hi : -9223372036854775808 ≤ e.n ∧ e.n ≤ 9223372036854775807 ∧ -9223372036854775808 ≤ e.s ∧ e.s ≤ 9223372036854775807) :
    Calls Tryz.prog 12 #[.agg #[.int .i64 x.n, .int .i64 x.s, .string x.p, .int .i64 x.k, .int .i64 x.m, .slice x.A x.l x.c, .slice x.B x.bl x.bc]] w fun r w' => ∃ A' c', r = .returned (.tuple #[.slice A' (bytesEv e).1.length c', .int .i64 (bytesEv e).2]) ∧ Fresh w w' A' c' (bytesEv e).1 := by
  obtain ⟨w1, hw1, c1, b1⟩ := news1 w (.cells #[.int .i64 x.n, .int .i64 x.s, .string x.p, .int .i64 x.k, .int .i64 x.m, .slice x.A x.l x.c, .slice x.B x.bl x.bc] 29)
  have W1 := Lib.hid hw1
  have HR := Lib.hid (h.chg c1)
  have C0 := Lib.hid c1
  have HS := Lib.hid hs
  have HI := Lib.hid hi
  clear hi
  have z0 := cell_of b1 0
  have z1 := cell_of b1 1
  have z2 := cell_of b1 2
  have z3 := cell_of b1 3
  have z4 := cell_of b1 4
  have z5 := cell_of b1 5
  have z6 := cell_of b1 6
  simp only [List.getElem?_toArray, List.getElem?_cons_succ, List.getElem?_cons_zero] at z0 z1 z2 z3 z4 z5 z6
  have hck := vecheck_any w1 x e (h.chg c1) hs
  rcases chkEv_two e with hk | hk
  rotate_left
  · have EB : Hid (bytesEv e = ([], 2)) := Lib.hid (by unfold bytesEv; rw [hk]; rfl)
    rw [hk] at hck
    have HC := Lib.hid hck
    clear hck hk hw1 c1 b1 h hs
    rw [EB.out]
    go_enter Tryz.func12, Tryz.ntmps12
    go_upto_region 1 with fail
    rw [← W1.out]
    generalize w.heap.size = g0 at *
    go_wp2_with fail
    refine HC.out.mono ?_
    rintro r w2 ⟨rfl, hc⟩
    have C := Lib.hid (C0.out.trans hc)
    clear hc z0 z1 z2 z3 z4 z5 z6
    go_wp2
    go_ret2
    exact ⟨none, 0, rfl, OwnB.none_ _, by simp, C.out⟩
  have EB : Hid (bytesEv e = (outs (evW4 e).1 (evW4 e).2, (evW4 e).2)) := Lib.hid (by unfold bytesEv; rw [if_pos hk])
  rw [hk] at hck
  have HC := Lib.hid hck
  rw [EB.out]
  obtain ⟨g0, hg0⟩ : ∃ g, w.heap.size = g := ⟨_, rfl⟩
  rw [hg0] at z0 z1 z2 z3 z4 z5 z6
  have G0 := Lib.hid hg0
  have DX : Hid (∀ w', Chg [] w1 w' → w'.cell? ⟨g0, 0, none⟩ = some (.int .i64 x.n) ∧ w'.cell? ⟨g0, 1, none⟩ = some (.int .i64 x.s) ∧ w'.cell? ⟨g0, 2, none⟩ = some (.string x.p) ∧ w'.cell? ⟨g0, 3, none⟩ = some (.int .i64 x.k) ∧ w'.cell? ⟨g0, 4, none⟩ = some (.int .i64 x.m) ∧ w'.cell? ⟨g0, 5, none⟩ = some (.slice x.A x.l x.c) ∧ w'.cell? ⟨g0, 6, none⟩ = some (.slice x.B x.bl x.bc)) := Lib.hid (fun w' hc => ⟨hc.cell z0 (by simp), hc.cell z1 (by simp), hc.cell z2 (by simp), hc.cell z3 (by simp), hc.cell z4 (by simp), hc.cell z5 (by simp), hc.cell z6 (by simp)⟩)
  have xn := Lib.hid h.n
  have xs := Lib.hid h.s
  have xp := Lib.hid h.p
  have xk := Lib.hid h.k
  have xm := Lib.hid h.m
  have EL := Lib.hid (evW_len e)
  clear hck hk hw1 c1 b1 h hs hg0
  go_enter Tryz.func12, Tryz.ntmps12
  go_upto_region 1 with fail
  rw [← W1.out, G0.out]
  go_wp2_with fail
  refine HC.out.mono ?_
  rintro r w2 ⟨rfl, hc⟩
  have C := Lib.hid hc
  clear hc z0 z1 z2 z3 z4 z5 z6
  obtain ⟨z0, z1, z2, z3, z4, z5, z6⟩ := DX.out _ C.out
  go_wp2_with fail
  refine (fbytes_any w2 x.k x.m x.A x.l x.c e.b (HR.out.A.chg C.out (by simp)) (by rw [HR.out.l]; exact HS.out.2.1)).mono ?_
  rintro r w3 ⟨A3, c3, rfl, h3⟩
  clear z0 z1 z2 z3 z4 z5 z6
  rw [xk.out, xm.out] at h3
  rw [xk.out, xm.out]
  have O3 := Lib.hid h3.1
  replace C := Lib.hid (C.out.trans h3.2.2)
  clear h3
  obtain ⟨z0, z1, z2, z3, z4, z5, z6⟩ := DX.out _ C.out
  go_wp2_with fail
  refine (qbytes_any w3 x.B x.bl x.bc e.q (HR.out.B.chg C.out (by simp)) (by rw [HR.out.bl]; exact HS.out.2.2)).mono ?_
  rintro r w4 ⟨A4, c4, rfl, h4⟩
  clear z0 z1 z2 z3 z4 z5 z6
  have O4 := Lib.hid h4.1
  replace O3 := Lib.hid (O3.out.chg h4.2.2 (by simp))
  replace C := Lib.hid (C.out.trans h4.2.2)
  clear h4
  have DX4 : Hid (∀ w', Chg [] w4 w' → w'.cell? ⟨g0, 0, none⟩ = some (.int .i64 x.n) ∧ w'.cell? ⟨g0, 1, none⟩ = some (.int .i64 x.s) ∧ w'.cell? ⟨g0, 2, none⟩ = some (.string x.p) ∧ w'.cell? ⟨g0, 3, none⟩ = some (.int .i64 x.k) ∧ w'.cell? ⟨g0, 4, none⟩ = some (.int .i64 x.m) ∧ w'.cell? ⟨g0, 5, none⟩ = some (.slice x.A x.l x.c) ∧ w'.cell? ⟨g0, 6, none⟩ = some (.slice x.B x.bl x.bc)) := Lib.hid (fun w' hc => DX.out _ (C.out.trans hc))
  have P4 := xp
  have K := Lib.hid (vs_new w4 w4 (Chg.refl [] w4))
  obtain ⟨w5, hw5⟩ : ∃ w5, w5 = w4.alloc (.cells #[.slice none 0 0, .int .i64 0] 74) := ⟨_, rfl⟩
  rw [← hw5] at K
  have W5 := Lib.hid hw5.symm
  clear hw5
  obtain ⟨b, hb⟩ : ∃ b, w4.heap.size = b := ⟨_, rfl⟩
  rw [hb] at K
  have HB := Lib.hid hb
  clear hb
  obtain ⟨z0, z1, z2, z3, z4, z5, z6⟩ := DX4.out _ K.out.chg
  go_upto_region 6 with fail
  rw [W5.out, HB.out]
  clear W5
  go_wp2_with fail
  refine (vs_num w4 w5 b [] 0 x.n K.out (by simp) (by rw [xn.out]; exact HI.out.1) (by rw [xn.out]; exact HI.out.2.1)).mono ?_
  rintro r w6 ⟨rfl, h⟩
  rw [xn.out] at h
  clear z0 z1 z2 z3 z4 z5 z6
  replace K : Hid (Vs w4 w6 b (evW0 e).1 (evW0 e).2) := Lib.hid h
  clear h
  obtain ⟨z0, z1, z2, z3, z4, z5, z6⟩ := DX4.out _ K.out.chg
  go_wp2_with fail
  refine (vs_num w4 w6 b _ _ x.s K.out EL.out.1 (by rw [xs.out]; exact HI.out.2.2.1) (by rw [xs.out]; exact HI.out.2.2.2)).mono ?_
  rintro r w7 ⟨rfl, h⟩
  rw [xs.out] at h
  clear z0 z1 z2 z3 z4 z5 z6
  replace K : Hid (Vs w4 w7 b (evW1 e).1 (evW1 e).2) := Lib.hid h
  clear h
  obtain ⟨z0, z1, z2, z3, z4, z5, z6⟩ := DX4.out _ K.out.chg
  go_wp2_with fail
  refine (vs_text w4 w7 b _ _ x.p K.out (EL.out.2.1) (by rw [xp.out, strOf_size]; have := HS.out.1; omega)).mono ?_
  rintro r w8 ⟨rfl, h⟩
  rw [xp.out, strOf_data] at h
  clear z0 z1 z2 z3 z4 z5 z6
  replace K : Hid (Vs w4 w8 b (evW2 e).1 (evW2 e).2) := Lib.hid h
  clear h
  obtain ⟨z0, z1, z2, z3, z4, z5, z6⟩ := DX4.out _ K.out.chg
  go_wp2_with fail
  refine (vs_raw w4 w8 b _ _ A3 _ c3 (effO e.k e.m e.b) K.out (EL.out.2.2.1) (by have := effO_len e.k e.m e.b; omega) O3.out.reads).mono ?_
  rintro r w9 ⟨rfl, h⟩
  clear z0 z1 z2 z3 z4 z5 z6
  replace K : Hid (Vs w4 w9 b (evW3 e).1 (evW3 e).2) := Lib.hid h
  clear h
  obtain ⟨z0, z1, z2, z3, z4, z5, z6⟩ := DX4.out _ K.out.chg
  go_wp2_with fail
  refine (vs_raw w4 w9 b _ _ A4 _ c4 (bytesO e.q) K.out (EL.out.2.2.2.1) (by have := bytesO_len e.q; omega) O4.out.reads).mono ?_
  rintro r w10 ⟨rfl, h⟩
  clear z0 z1 z2 z3 z4 z5 z6
  replace K : Hid (Vs w4 w10 b (evW4 e).1 (evW4 e).2) := Lib.hid h
  clear h
  obtain ⟨z0, z1, z2, z3, z4, z5, z6⟩ := DX4.out _ K.out.chg
  go_wp2_with fail
  refine (vs_out w4 w10 b _ _ K.out (EL.out.2.2.2.2)).mono ?_
  rintro r w11 ⟨A9, c9, rfl, h9⟩
  have F := Lib.hid (h9.since (C0.out.trans C.out))
  clear h9 z0 z1 z2 z3 z4 z5 z6
  go_wp2
  go_ret2
  exact ⟨A9, c9, rfl, F.out⟩

set_option maxRecDepth 100000 in
set_option maxHeartbeats 4000000 in
theorem vesize_any (w : World) (x : EvT) (e : EvP) (h : EvR w x e) (hs : EvSm e) (hi : -9223372036854775808 ≤ e.n ∧ e.n ≤ 9223372036854775807 ∧ -9223372036854775808 ≤ e.s ∧ e.s ≤ 9223372036854775807) :
    Calls Tryz.prog 17 #[.agg #[.int .i64 x.n, .int .i64 x.s, .string x.p, .int .i64 x.k, .int .i64 x.m, .slice x.A x.l x.c, .slice x.B x.bl x.bc]] w fun r w' => r = .returned (.int .i64 ((bytesEv e).1.length : Int)) ∧ Chg [] w w' := by
  obtain ⟨w1, hw1, c1, b1⟩ := news1 w (.cells #[.int .i64 x.n, .int .i64 x.s, .string x.p, .int .i64 x.k, .int .i64 x.m, .slice x.A x.l x.c, .slice x.B x.bl x.bc] 29)
  have W1 := Lib.hid hw1
  have HR := Lib.hid (h.chg c1)
  have C0 := Lib.hid c1
  have HS := Lib.hid hs
  have HI := Lib.hid hi
  clear hi
  have z0 := cell_of b1 0
  have z1 := cell_of b1 1
  have z2 := cell_of b1 2
  have z3 := cell_of b1 3
  have z4 := cell_of b1 4
  have z5 := cell_of b1 5
  have z6 := cell_of b1 6
  simp only [List.getElem?_toArray, List.getElem?_cons_succ, List.getElem?_cons_zero] at z0 z1 z2 z3 z4 z5 z6
  clear hw1 c1 b1 h hs
  generalize hB : bytesEv e = B
  have HB := Lib.hid hB
  clear hB
  go_enter Tryz.func17, Tryz.ntmps17
  go_upto_region 1 with fail
  rw [← W1.out]
  generalize w.heap.size = g0 at *
  go_wp2_with fail
  refine (vebytes_any w1 x e HR.out HS.out HI.out).mono ?_
  rintro r w2 ⟨A2, c2, rfl, hf⟩
  rw [HB.out]
  have C := Lib.hid (C0.out.trans hf.2.2)
  clear hf z0 z1 z2 z3 z4 z5 z6
  go_wp2
  go_ret
  exact ⟨rfl, C.out⟩
end
section
open Go.RowKit Go.Lib
set_option linter.unusedSimpArgs false
set_option linter.unusedVariables false


set_option maxHeartbeats 4000000 in
theorem set3_2 {w w0 : World} {z : Nat} {s0 s1 : Nat} {a0 a1 a2 : Value} {T : TypeId} {o : Obj} (v2 : Value) (q0 : w.heap[s0]? = some (.cells #[a0, a1, a2] T (0, 0))) (q1 : w.heap[s1]? = some o) (h : s0 ≠ s1) (hz : z ≤ s0) (C : Chg [] w0 w) (hw0 : w0.heap.size = z) :
    (w.setCell ⟨s0, 2, none⟩ v2).heap[s0]? = some (.cells #[a0, a1, v2] T (0, 0)) ∧ (w.setCell ⟨s0, 2, none⟩ v2).heap[s1]? = some o ∧ Chg [] w0 (w.setCell ⟨s0, 2, none⟩ v2) := by
  have p0 := heap_setCell_same _ s0 2 _ _ v2 q0
  refine ⟨p0, ?_, ?_⟩
  · rw [Below.heap_setCell _ _ _ _ (by simp; exact fun e => h e.symm)]
    exact q1
  · exact (C.put (by omega) 2 v2)
set_option maxHeartbeats 4000000 in
theorem set3_all {w w0 : World} {z : Nat} {s0 s1 : Nat} {a0 a1 a2 : Value} {T : TypeId} {o : Obj} (v0 v1 v2 : Value) (q0 : w.heap[s0]? = some (.cells #[a0, a1, a2] T (0, 0))) (q1 : w.heap[s1]? = some o) (h : s0 ≠ s1) (hz : z ≤ s0) (C : Chg [] w0 w) (hw0 : w0.heap.size = z) :
    (((w.setCell ⟨s0, 0, none⟩ v0).setCell ⟨s0, 1, none⟩ v1).setCell ⟨s0, 2, none⟩ v2).heap[s0]? = some (.cells #[v0, v1, v2] T (0, 0)) ∧ (((w.setCell ⟨s0, 0, none⟩ v0).setCell ⟨s0, 1, none⟩ v1).setCell ⟨s0, 2, none⟩ v2).heap[s1]? = some o ∧ Chg [] w0 (((w.setCell ⟨s0, 0, none⟩ v0).setCell ⟨s0, 1, none⟩ v1).setCell ⟨s0, 2, none⟩ v2) := by
  have p0 := heap_setCell_same _ s0 0 _ _ v0 q0
  have p1 := heap_setCell_same _ s0 1 _ _ v1 p0
  have p2 := heap_setCell_same _ s0 2 _ _ v2 p1
  refine ⟨p2, ?_, ?_⟩
  · rw [Below.heap_setCell _ _ _ _ (by simp; exact fun e => h e.symm), Below.heap_setCell _ _ _ _ (by simp; exact fun e => h e.symm), Below.heap_setCell _ _ _ _ (by simp; exact fun e => h e.symm)]
    exact q1
  · exact (((C.put (by omega) 0 v0).put (by omega) 1 v1).put (by omega) 2 v2)
set_option maxHeartbeats 4000000 in
theorem set7_3 {w w0 : World} {z : Nat} {s0 s1 : Nat} {a0 a1 a2 a3 a4 a5 a6 : Value} {T : TypeId} {o : Obj} (v3 v4 v5 : Value) (q0 : w.heap[s0]? = some (.cells #[a0, a1, a2, a3, a4, a5, a6] T (0, 0))) (q1 : w.heap[s1]? = some o) (h : s0 ≠ s1) (hz : z ≤ s0) (C : Chg [] w0 w) (hw0 : w0.heap.size = z) :
    (((w.setCell ⟨s0, 3, none⟩ v3).setCell ⟨s0, 4, none⟩ v4).setCell ⟨s0, 5, none⟩ v5).heap[s0]? = some (.cells #[a0, a1, a2, v3, v4, v5, a6] T (0, 0)) ∧ (((w.setCell ⟨s0, 3, none⟩ v3).setCell ⟨s0, 4, none⟩ v4).setCell ⟨s0, 5, none⟩ v5).heap[s1]? = some o ∧ Chg [] w0 (((w.setCell ⟨s0, 3, none⟩ v3).setCell ⟨s0, 4, none⟩ v4).setCell ⟨s0, 5, none⟩ v5) := by
  have p0 := heap_setCell_same _ s0 3 _ _ v3 q0
  have p1 := heap_setCell_same _ s0 4 _ _ v4 p0
  have p2 := heap_setCell_same _ s0 5 _ _ v5 p1
  refine ⟨p2, ?_, ?_⟩
  · rw [Below.heap_setCell _ _ _ _ (by simp; exact fun e => h e.symm), Below.heap_setCell _ _ _ _ (by simp; exact fun e => h e.symm), Below.heap_setCell _ _ _ _ (by simp; exact fun e => h e.symm)]
    exact q1
  · exact (((C.put (by omega) 3 v3).put (by omega) 4 v4).put (by omega) 5 v5)
set_option maxHeartbeats 4000000 in
theorem set7_1 {w w0 : World} {z : Nat} {s0 s1 : Nat} {a0 a1 a2 a3 a4 a5 a6 : Value} {T : TypeId} {o : Obj} (v6 : Value) (q0 : w.heap[s0]? = some (.cells #[a0, a1, a2, a3, a4, a5, a6] T (0, 0))) (q1 : w.heap[s1]? = some o) (h : s0 ≠ s1) (hz : z ≤ s0) (C : Chg [] w0 w) (hw0 : w0.heap.size = z) :
    (w.setCell ⟨s0, 6, none⟩ v6).heap[s0]? = some (.cells #[a0, a1, a2, a3, a4, a5, v6] T (0, 0)) ∧ (w.setCell ⟨s0, 6, none⟩ v6).heap[s1]? = some o ∧ Chg [] w0 (w.setCell ⟨s0, 6, none⟩ v6) := by
  have p0 := heap_setCell_same _ s0 6 _ _ v6 q0
  refine ⟨p0, ?_, ?_⟩
  · rw [Below.heap_setCell _ _ _ _ (by simp; exact fun e => h e.symm)]
    exact q1
  · exact (C.put (by omega) 6 v6)
set_option maxHeartbeats 4000000 in
theorem set7_all {w w0 : World} {z : Nat} {s0 s1 : Nat} {a0 a1 a2 a3 a4 a5 a6 : Value} {T : TypeId} {o : Obj} (v0 v1 v2 v3 v4 v5 v6 : Value) (q0 : w.heap[s0]? = some (.cells #[a0, a1, a2, a3, a4, a5, a6] T (0, 0))) (q1 : w.heap[s1]? = some o) (h : s0 ≠ s1) (hz : z ≤ s0) (C : Chg [] w0 w) (hw0 : w0.heap.size = z) :
    (((((((w.setCell ⟨s0, 0, none⟩ v0).setCell ⟨s0, 1, none⟩ v1).setCell ⟨s0, 2, none⟩ v2).setCell ⟨s0, 3, none⟩ v3).setCell ⟨s0, 4, none⟩ v4).setCell ⟨s0, 5, none⟩ v5).setCell ⟨s0, 6, none⟩ v6).heap[s0]? = some (.cells #[v0, v1, v2, v3, v4, v5, v6] T (0, 0)) ∧ (((((((w.setCell ⟨s0, 0, none⟩ v0).setCell ⟨s0, 1, none⟩ v1).setCell ⟨s0, 2, none⟩ v2).setCell ⟨s0, 3, none⟩ v3).setCell ⟨s0, 4, none⟩ v4).setCell ⟨s0, 5, none⟩ v5).setCell ⟨s0, 6, none⟩ v6).heap[s1]? = some o ∧ Chg [] w0 (((((((w.setCell ⟨s0, 0, none⟩ v0).setCell ⟨s0, 1, none⟩ v1).setCell ⟨s0, 2, none⟩ v2).setCell ⟨s0, 3, none⟩ v3).setCell ⟨s0, 4, none⟩ v4).setCell ⟨s0, 5, none⟩ v5).setCell ⟨s0, 6, none⟩ v6) := by
  have p0 := heap_setCell_same _ s0 0 _ _ v0 q0
  have p1 := heap_setCell_same _ s0 1 _ _ v1 p0
  have p2 := heap_setCell_same _ s0 2 _ _ v2 p1
  have p3 := heap_setCell_same _ s0 3 _ _ v3 p2
  have p4 := heap_setCell_same _ s0 4 _ _ v4 p3
  have p5 := heap_setCell_same _ s0 5 _ _ v5 p4
  have p6 := heap_setCell_same _ s0 6 _ _ v6 p5
  refine ⟨p6, ?_, ?_⟩
  · rw [Below.heap_setCell _ _ _ _ (by simp; exact fun e => h e.symm), Below.heap_setCell _ _ _ _ (by simp; exact fun e => h e.symm), Below.heap_setCell _ _ _ _ (by simp; exact fun e => h e.symm), Below.heap_setCell _ _ _ _ (by simp; exact fun e => h e.symm), Below.heap_setCell _ _ _ _ (by simp; exact fun e => h e.symm), Below.heap_setCell _ _ _ _ (by simp; exact fun e => h e.symm), Below.heap_setCell _ _ _ _ (by simp; exact fun e => h e.symm)]
    exact q1
  · exact (((((((C.put (by omega) 0 v0).put (by omega) 1 v1).put (by omega) 2 v2).put (by omega) 3 v3).put (by omega) 4 v4).put (by omega) 5 v5).put (by omega) 6 v6)

set_option maxRecDepth 100000 in
set_option maxHeartbeats 4000000 in
theorem copyeff_any (w : World) (k m : Int) (A : Option Addr) (n c : Nat) (ys : List UInt8) (h : Bs w A n ys) (hn : n ≤ 140737488351232) :
    Calls Tryz.prog 43 #[.agg #[.int .i64 k, .int .i64 m, .slice A n c]] w fun r w' => ∃ A' c', r = .returned (.agg #[.int .i64 k, .int .i64 m, .slice A' n c']) ∧ Fresh w w' A' c' ys := by
  obtain ⟨w2, hw, hc, b0, b1⟩ := news2 w (.cells #[.int .i64 k, .int .i64 m, .slice A n c] 26) (.cells #[.int .i64 0, .int .i64 0, .slice none 0 0] 26)
  have W2 := Lib.hid hw
  have H := Lib.hid (h.chg hc (by simp))
  have C := Lib.hid hc
  have HN := Lib.hid hn
  obtain ⟨g0, hg0⟩ : ∃ g, w.heap.size = g := ⟨_, rfl⟩
  obtain ⟨g1, hg1⟩ : ∃ g, w.heap.size + 1 = g := ⟨_, rfl⟩
  have SZ := Lib.hid hg0
  have S1 := Lib.hid hg1
  rw [hg0] at b0
  rw [hg1] at b1
  have B0 := Lib.hid b0
  have B1 := Lib.hid b1
  have NEg0 : Hid (g0 ≠ g1) := Lib.hid (by omega)
  have NEg1 : Hid (g1 ≠ g0) := Lib.hid (by omega)
  have LZg0 : Hid (g0 ≤ g0) := Lib.hid (Nat.le_refl _)
  have LZg1 : Hid (g0 ≤ g1) := Lib.hid (by omega)
  have L0 := Lib.hid (lt_of_heap b0)
  have L1 := Lib.hid (lt_of_heap b1)
  clear hw hc b0 b1 h hn hg0 hg1
  go_enter Tryz.func43, Tryz.ntmps43
  go_upto_region 1 with fail
  rw [← W2.out, S1.out, SZ.out]
  have z0 := cell_of B0.out 0
  have fz0 := free_of B0.out 0
  have z1 := cell_of B0.out 1
  have fz1 := free_of B0.out 1
  have z2 := cell_of B0.out 2
  have fz2 := free_of B0.out 2
  simp only [List.getElem?_toArray, List.getElem?_cons_succ, List.getElem?_cons_zero] at z0 z1 z2
  go_wp2_with fail
  refine (copy_any w2 A n c ys H.out HN.out).mono ?_
  rintro r w3 ⟨A3, c3, rfl, h3⟩
  clear z0 z1 z2 fz0 fz1 fz2
  replace B0 := Lib.hid (h3.2.2.at_ B0.out (by simp))
  replace B1 := Lib.hid (h3.2.2.at_ B1.out (by simp))
  have O3 := Lib.hid h3.1
  have N3 := Lib.hid h3.2.1
  have S2 := Lib.hid C.out.size
  replace C := Lib.hid (C.out.trans h3.2.2)
  have LT3 : Hid (∀ a, A3 = some a → a.block ≠ g0 ∧ a.block ≠ g1) := Lib.hid (fun a ha => by
    have q := N3.out a ha
    have r0 := L0.out
    have r1 := L1.out
    omega)
  clear h3
  have z0 := cell_of B0.out 0
  have fz0 := free_of B0.out 0
  have z1 := cell_of B0.out 1
  have fz1 := free_of B0.out 1
  have z2 := cell_of B0.out 2
  have fz2 := free_of B0.out 2
  simp only [List.getElem?_toArray, List.getElem?_cons_succ, List.getElem?_cons_zero] at z0 z1 z2
  go_upto_region 2 with fail
  clear z0 z1 z2 fz0 fz1 fz2
  obtain ⟨p0, p1, p2⟩ := set3_2 (.slice A3 n c3) B0.out B1.out NEg0.out LZg0.out C.out SZ.out
  generalize hW : (w3.setCell ⟨g0, 2, none⟩ (.slice A3 n c3)) = w4 at *
  replace B0 := Lib.hid p0
  replace B1 := Lib.hid p1
  have O4 := Lib.hid (O3.out.chg (S := [g0]) (hW ▸ (Chg.refl [g0] w3).put' 2 _) (fun a ha => by simp; exact (LT3.out a ha).1))
  replace C := Lib.hid p2
  clear p0 p1 p2 hW O3
  have z0 := cell_of B0.out 0
  have fz0 := free_of B0.out 0
  have z1 := cell_of B0.out 1
  have fz1 := free_of B0.out 1
  have z2 := cell_of B0.out 2
  have fz2 := free_of B0.out 2
  simp only [List.getElem?_toArray, List.getElem?_cons_succ, List.getElem?_cons_zero] at z0 z1 z2
  have y0 := cell_of B1.out 0
  have fy0 := free_of B1.out 0
  have y1 := cell_of B1.out 1
  have fy1 := free_of B1.out 1
  have y2 := cell_of B1.out 2
  have fy2 := free_of B1.out 2
  simp only [List.getElem?_toArray, List.getElem?_cons_succ, List.getElem?_cons_zero] at y0 y1 y2
  go_wp2
  clear z0 z1 z2 fz0 fz1 fz2
  clear y0 y1 y2 fy0 fy1 fy2
  obtain ⟨p0, p1, p2⟩ := set3_all (.int .i64 k) (.int .i64 m) (.slice A3 n c3) B1.out B0.out NEg1.out LZg1.out C.out SZ.out
  generalize hW : (((w4.setCell ⟨g1, 0, none⟩ (.int .i64 k)).setCell ⟨g1, 1, none⟩ (.int .i64 m)).setCell ⟨g1, 2, none⟩ (.slice A3 n c3)) = w5 at *
  have O5 := Lib.hid (O4.out.chg (S := [g1]) (hW ▸ (((Chg.refl [g1] w4).put' 0 _).put' 1 _).put' 2 _) (fun a ha => by simp; exact (LT3.out a ha).2))
  replace B1 := Lib.hid p0
  replace C := Lib.hid p2
  clear p0 p1 p2 hW O4
  have y0 := cell_of B1.out 0
  have y1 := cell_of B1.out 1
  have y2 := cell_of B1.out 2
  simp only [List.getElem?_toArray, List.getElem?_cons_succ, List.getElem?_cons_zero] at y0 y1 y2
  refine bodyPost_ret (v := .agg #[.int .i64 k, .int .i64 m, .slice A3 n c3]) (by simp [results, Tryz.results43, go_sem, y0, y1, y2]) rfl ?_
  exact ⟨A3, c3, rfl, O5.out, fun a ha => Nat.le_trans S2.out (N3.out a ha), C.out⟩
end
end Go.Proofs.YtgbidlhgmeglmaaGreatDoor
