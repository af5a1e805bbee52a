/- EventTells. Nothing is asked of the variables. -/
import Derived.Test.YtgbidlhgmeglmaaGreatDoorZetf
import Derived.Test.YtgbidlhgmeglmaaGreatDoorZetg
import Derived.Test.YtgbidlhgmeglmaaGreatDoorZeth
import Derived.Test.YtgbidlhgmeglmaaGreatDoorZetm
import Derived.Test.YtgbidlhgmeglmaaGreatDoorZeta
import Derived.Deep.Cut
import Derived.Deep.RegionHeld3
import Derived.Test.YtgbidlhgmeglmaaGreatDoorLaid0
namespace Go.Proofs.YtgbidlhgmeglmaaGreatDoor
section
open Go.RowKit Go.Lib
set_option linter.unusedSimpArgs false
set_option linter.unusedVariables false


theorem rd_twoE {w : World} {g : Nat} {x y : EvT} (h : w.heap[g]? = some (.cells #[.int .i64 x.n, .int .i64 x.s, .string x.p, .int .i64 x.k, .int .i64 x.m, .slice x.A x.l x.c, .slice x.B x.bl x.bc, .int .i64 y.n, .int .i64 y.s, .string y.p, .int .i64 y.k, .int .i64 y.m, .slice y.A y.l y.c, .slice y.B y.bl y.bc] 29)) : RdK evTy w (some ⟨g, 0, none⟩) 2 [x, y] :=
  ⟨rfl, fun j v hj => ⟨_, rfl, by rw [add_zero_lit, cell_of h j]; simpa [RowTy.flat, evTy] using hj⟩⟩
theorem copyev_x (w : World) (x : EvT) (e : EvP) (h : EvR w x e) (hs : e.b.length ≤ 140737488351232 ∧ e.q.length ≤ 100000) :
    Calls Tryz.prog 10 #[.agg #[.int .i64 x.n, .int .i64 x.s, .string x.p, .int .i64 x.k, .int .i64 x.m, .slice x.A x.l x.c, .slice x.B x.bl x.bc]] w fun r w' => ∃ X : EvT, r = .returned (.agg #[.int .i64 X.n, .int .i64 X.s, .string X.p, .int .i64 X.k, .int .i64 X.m, .slice X.A X.l X.c, .slice X.B X.bl X.bc]) ∧ EvR w' X e ∧ OwnB w' X.A X.c e.b ∧ OwnK spanTy w' X.B X.bc e.q ∧ (∀ a, X.A = some a → w.heap.size ≤ a.block) ∧ (∀ a, X.B = some a → w.heap.size ≤ a.block) ∧ (∀ a b, X.A = some a → X.B = some b → a.block ≠ b.block) ∧ Chg [] w w' :=
  (copyev_any w x e h hs).mono fun r w' ⟨A', c', B', d', e1, e2, e3, e4, e5, e6, e7, e8⟩ => ⟨⟨x.n, x.s, x.p, x.k, x.m, A', x.l, c', B', x.bl, d'⟩, e1, e2, e3, e4, e5, e6, e7, e8⟩
theorem same_yesC (w : World) (A B : Option Addr) (n m c d : Nat) (xs ys : List UInt8) (h : Bs w A n xs) (k : Bs w B m ys) (e : xs = ys) :
    Calls Tryz.prog 13 #[.slice A n c, .slice B m d] w fun e w' => e = .returned (.bool true) ∧ Chg [] w w' :=
  (same_yes w A B n m c d xs ys h k e).mono fun r w' ⟨h1, h2⟩ => ⟨h1, h2 ▸ Chg.refl _ _⟩
set_option maxRecDepth 100000 in
set_option maxHeartbeats 16000000 in
theorem eventtells_yes (w : World) (x y : EvT) (e f : EvP) (hx : EvR w x e) (hy : EvR w y f) (hzx : EvZ x e) (hzy : EvZ y f) :
    Calls Tryz.prog 3 #[.agg #[.int .i64 x.n, .int .i64 x.s, .string x.p, .int .i64 x.k, .int .i64 x.m, .slice x.A x.l x.c, .slice x.B x.bl x.bc], .agg #[.int .i64 y.n, .int .i64 y.s, .string y.p, .int .i64 y.k, .int .i64 y.m, .slice y.A y.l y.c, .slice y.B y.bl y.bc]] w fun r w' => r = .returned (.bool true) ∧ Chg [] w w' := by

  obtain ⟨w1, hw, hc, b0, b1⟩ := news2 w (.cells #[.int .i64 x.n, .int .i64 x.s, .string x.p, .int .i64 x.k, .int .i64 x.m, .slice x.A x.l x.c, .slice x.B x.bl x.bc] 29) (.cells #[.int .i64 y.n, .int .i64 y.s, .string y.p, .int .i64 y.k, .int .i64 y.m, .slice y.A y.l y.c, .slice y.B y.bl y.bc] 29)
  obtain ⟨w2, hw2, hc2, b2⟩ := news1 w1 (.cells #[.int .i64 x.n, .int .i64 x.s, .string x.p, .int .i64 x.k, .int .i64 x.m, .slice x.A x.l x.c, .slice x.B x.bl x.bc, .int .i64 y.n, .int .i64 y.s, .string y.p, .int .i64 y.k, .int .i64 y.m, .slice y.A y.l y.c, .slice y.B y.bl y.bc] 29)
  have W1 := Lib.hid hw
  have W2 := Lib.hid hw2
  have R2 := Lib.hid (rd_twoE b2)
  have z2 := b0
  have B0 := Lib.hid (hc2.at_ b0 (by simp))
  have B1 := Lib.hid (hc2.at_ b1 (by simp))
  have HX := Lib.hid (hx.chg (hc.trans hc2))
  have HY := Lib.hid (hy.chg (hc.trans hc2))
  have C := Lib.hid (hc.trans hc2)
  have ZX := Lib.hid hzx
  have ZY := Lib.hid hzy
  clear z2
  have z0 := cell_of b0 0
  have z1 := cell_of b0 1
  have z2 := cell_of b0 2
  have z3 := cell_of b0 3
  have z4 := cell_of b0 4
  have z5 := cell_of b0 5
  have z6 := cell_of b0 6
  have y0 := cell_of b1 0
  have y1 := cell_of b1 1
  have y2 := cell_of b1 2
  have y3 := cell_of b1 3
  have y4 := cell_of b1 4
  have y5 := cell_of b1 5
  have y6 := cell_of b1 6
  simp only [List.getElem?_toArray, List.getElem?_cons_succ, List.getElem?_cons_zero] at z0 z1 z2 z3 z4 z5 z6 y0 y1 y2 y3 y4 y5 y6
  clear hw hc hw2 hc2 b0 b1 b2 hx hy hzx hzy
  go_enter Tryz.func3, Tryz.ntmps3
  go_upto_region 1 with fail
  rw [← W1.out]
  generalize w.heap.size + 1 = g1 at *
  generalize w.heap.size = g0 at *
  go_wp2_with fail
  rw [← W2.out]
  generalize w1.heap.size = g2 at *
  clear z0 z1 z2 z3 z4 z5 z6 y0 y1 y2 y3 y4 y5 y6
  have lv := longevs_any w2 (some ⟨g2, 0, none⟩) 2 [x, y] 2 R2.out (by simp) (by omega) (by intro u hu; simp at hu; rcases hu with rfl | rfl; exact (by have := HX.out.l; have := ZX.out.1; omega); exact (by have := HY.out.l; have := ZY.out.1; omega))
  rw [show ([x, y] : List EvT).length = 2 from rfl, show ((2 : Nat) : Int) = 2 from rfl] at lv
  have LV := Lib.hid lv
  clear lv
  refine LV.out.mono ?_
  rintro r w3 ⟨rfl, hc⟩
  replace C := Lib.hid (C.out.trans hc)
  replace B0 := Lib.hid (hc.at_ B0.out (by simp))
  replace B1 := Lib.hid (hc.at_ B1.out (by simp))
  replace HX := Lib.hid (HX.out.chg hc)
  replace HY := Lib.hid (HY.out.chg hc)
  clear hc LV R2
  rcases hlong : longE [x, y] 2 with _ | _
  rotate_left
  · go_wp2_with fail
    refine (l8awake_run _).mono ?_
    rintro r w4 ⟨rfl, hc⟩
    replace C := Lib.hid (C.out.trans hc)
    clear hc
    go_wp2
    go_ret
    exact ⟨rfl, C.out⟩
  have sm := (longE_no hlong).2
  have SX : Hid (EvSm e) := Lib.hid (by
    have q := sm x (by simp)
    have a1 := HX.out.l
    have a2 := HX.out.bl
    have a3 := HX.out.p
    have a4 : x.p.size = e.p.length := by rw [a3, strOf_size]
    unfold bigE at q
    unfold EvSm
    omega)
  have SY : Hid (EvSm f) := Lib.hid (by
    have q := sm y (by simp)
    have a1 := HY.out.l
    have a2 := HY.out.bl
    have a3 := HY.out.p
    have a4 : y.p.size = f.p.length := by rw [a3, strOf_size]
    unfold bigE at q
    unfold EvSm
    omega)
  have QX : Hid (e.q.length ≤ 100000) := Lib.hid (by
    have q := sm x (by simp)
    have a2 := HX.out.bl
    unfold bigE at q
    omega)
  clear sm hlong
  have z0 := cell_of B0.out 0
  have z1 := cell_of B0.out 1
  have z2 := cell_of B0.out 2
  have z3 := cell_of B0.out 3
  have z4 := cell_of B0.out 4
  have z5 := cell_of B0.out 5
  have z6 := cell_of B0.out 6
  simp only [List.getElem?_toArray, List.getElem?_cons_succ, List.getElem?_cons_zero] at z0 z1 z2 z3 z4 z5 z6
  go_wp2_with fail
  clear z0 z1 z2 z3 z4 z5 z6
  refine (copyev_x w3 x e HX.out ⟨SX.out.2.1, QX.out⟩).mono ?_
  rintro r w4 ⟨X, rfl, hX, hA, hB, hnA, hnB, hne, hc⟩
  have HI := Lib.hid hX
  replace C := Lib.hid (C.out.trans hc)
  replace B0 := Lib.hid (hc.at_ B0.out (by simp))
  replace B1 := Lib.hid (hc.at_ B1.out (by simp))
  replace HX := Lib.hid (HX.out.chg hc)
  replace HY := Lib.hid (HY.out.chg hc)
  clear hA hB hnA hnB hne hc hX
  obtain ⟨w5, hw, hc, b5⟩ := news1 w4 (.cells #[.int .i64 X.n, .int .i64 X.s, .string X.p, .int .i64 X.k, .int .i64 X.m, .slice X.A X.l X.c, .slice X.B X.bl X.bc] 29)
  have W5 := Lib.hid hw
  have B5 := Lib.hid b5
  clear hw b5
  replace C := Lib.hid (C.out.trans hc)
  replace B0 := Lib.hid (hc.at_ B0.out (by simp))
  replace B1 := Lib.hid (hc.at_ B1.out (by simp))
  replace HX := Lib.hid (HX.out.chg hc)
  replace HY := Lib.hid (HY.out.chg hc)
  replace HI := Lib.hid (HI.out.chg hc)
  clear hc
  go_upto_region 4 with fail
  rw [← W5.out]
  generalize w4.heap.size = g5 at *
  clear W5
  have t0 := cell_of B5.out 0
  have t1 := cell_of B5.out 1
  have t2 := cell_of B5.out 2
  have t3 := cell_of B5.out 3
  have t4 := cell_of B5.out 4
  have t5 := cell_of B5.out 5
  have t6 := cell_of B5.out 6
  simp only [List.getElem?_toArray, List.getElem?_cons_succ, List.getElem?_cons_zero] at t0 t1 t2 t3 t4 t5 t6
  go_wp2_with fail
  clear t0 t1 t2 t3 t4 t5 t6
  refine (evbytes_any w5 X e HI.out SX.out).mono ?_
  rintro r w6 ⟨A6, c6, rfl, h6⟩
  have O6 := Lib.hid h6.1
  have N6 := Lib.hid h6.2.1
  have hc := h6.2.2
  have SZ6 : Hid (g0 < w5.heap.size ∧ g1 < w5.heap.size ∧ g5 < w5.heap.size) := Lib.hid ⟨lt_of_heap B0.out, lt_of_heap B1.out, lt_of_heap B5.out⟩
  have C5 := C
  have C59 := Lib.hid (Chg.refl [] w5)
  have HX5 := HX
  have HY5 := HY
  have HI5 := HI
  replace C := Lib.hid (C.out.trans hc)
  replace C59 := Lib.hid (C59.out.trans hc)
  replace B0 := Lib.hid (hc.at_ B0.out (by simp))
  replace B1 := Lib.hid (hc.at_ B1.out (by simp))
  replace HX := Lib.hid (HX.out.chg hc)
  replace HY := Lib.hid (HY.out.chg hc)
  replace HI := Lib.hid (HI.out.chg hc)
  replace B5 := Lib.hid (hc.at_ B5.out (by simp))
  clear hc h6
  have z0 := cell_of B0.out 0
  have z1 := cell_of B0.out 1
  have z2 := cell_of B0.out 2
  have z3 := cell_of B0.out 3
  have z4 := cell_of B0.out 4
  have z5 := cell_of B0.out 5
  have z6 := cell_of B0.out 6
  simp only [List.getElem?_toArray, List.getElem?_cons_succ, List.getElem?_cons_zero] at z0 z1 z2 z3 z4 z5 z6
  go_wp2_with fail
  clear z0 z1 z2 z3 z4 z5 z6
  refine (vebytes_any w6 x e HX.out SX.out ZX.out.2.2.2.2).mono ?_
  rintro r w7 ⟨A7, c7, rfl, h7⟩
  have O7 := Lib.hid h7.1
  have hc := h7.2.2
  replace C := Lib.hid (C.out.trans hc)
  replace C59 := Lib.hid (C59.out.trans hc)
  replace B0 := Lib.hid (hc.at_ B0.out (by simp))
  replace B1 := Lib.hid (hc.at_ B1.out (by simp))
  replace HX := Lib.hid (HX.out.chg hc)
  replace HY := Lib.hid (HY.out.chg hc)
  replace HI := Lib.hid (HI.out.chg hc)
  replace B5 := Lib.hid (hc.at_ B5.out (by simp))
  replace O6 := Lib.hid (O6.out.chg hc (by simp))
  clear hc h7
  obtain ⟨bs, hbs⟩ : ∃ bs, (bytesEv e).1 = bs := ⟨_, rfl⟩
  obtain ⟨be, hbe⟩ : ∃ be, (bytesEv e).2 = be := ⟨_, rfl⟩
  obtain ⟨bn, hbn⟩ : ∃ bn, (bytesEv e).1.length = bn := ⟨_, rfl⟩
  obtain ⟨ck, hck⟩ : ∃ ck, chkEv e = ck := ⟨_, rfl⟩
  have BN := Lib.hid hbn
  have CK := Lib.hid hck
  have HBS := Lib.hid hbs
  rw [hbn, hbe]
  clear hbs hbe hbn hck
  have z0 := cell_of B0.out 0
  have z1 := cell_of B0.out 1
  have z2 := cell_of B0.out 2
  have z3 := cell_of B0.out 3
  have z4 := cell_of B0.out 4
  have z5 := cell_of B0.out 5
  have z6 := cell_of B0.out 6
  have t0 := cell_of B5.out 0
  have t1 := cell_of B5.out 1
  have t2 := cell_of B5.out 2
  have t3 := cell_of B5.out 3
  have t4 := cell_of B5.out 4
  have t5 := cell_of B5.out 5
  have t6 := cell_of B5.out 6
  simp only [List.getElem?_toArray, List.getElem?_cons_succ, List.getElem?_cons_zero] at z0 z1 z2 z3 z4 z5 z6 t0 t1 t2 t3 t4 t5 t6
  go_upto_region 6 with fail
  refine wp_region_held_drew (S := fun w' => w'.cell? ⟨g0, 0, none⟩ = some (.int .i64 x.n) ∧ w'.cell? ⟨g0, 1, none⟩ = some (.int .i64 x.s) ∧ w'.cell? ⟨g0, 2, none⟩ = some (.string x.p) ∧ w'.cell? ⟨g0, 3, none⟩ = some (.int .i64 x.k) ∧ w'.cell? ⟨g0, 4, none⟩ = some (.int .i64 x.m) ∧ w'.cell? ⟨g0, 5, none⟩ = some (.slice x.A x.l x.c) ∧ w'.cell? ⟨g0, 6, none⟩ = some (.slice x.B x.bl x.bc) ∧ w'.cell? ⟨g5, 0, none⟩ = some (.int .i64 X.n) ∧ w'.cell? ⟨g5, 1, none⟩ = some (.int .i64 X.s) ∧ w'.cell? ⟨g5, 2, none⟩ = some (.string X.p) ∧ w'.cell? ⟨g5, 3, none⟩ = some (.int .i64 X.k) ∧ w'.cell? ⟨g5, 4, none⟩ = some (.int .i64 X.m) ∧ w'.cell? ⟨g5, 5, none⟩ = some (.slice X.A X.l X.c) ∧ w'.cell? ⟨g5, 6, none⟩ = some (.slice X.B X.bl X.bc)) (by kernel_rfl) ⟨z0, z1, z2, z3, z4, z5, z6, t0, t1, t2, t3, t4, t5, t6⟩ (fun hHeld => ?_)
  have CD := Lib.hid (Chg.refl [] w7).drew
  clear z0 z1 z2 z3 z4 z5 z6 t0 t1 t2 t3 t4 t5 t6
  clear hHeld
  replace C := Lib.hid (C.out.trans CD.out)
  replace C59 := Lib.hid (C59.out.trans CD.out)
  replace B0 := Lib.hid (CD.out.at_ B0.out (by simp))
  replace B1 := Lib.hid (CD.out.at_ B1.out (by simp))
  replace HX := Lib.hid (HX.out.chg CD.out)
  replace HY := Lib.hid (HY.out.chg CD.out)
  replace HI := Lib.hid (HI.out.chg CD.out)
  replace B5 := Lib.hid (CD.out.at_ B5.out (by simp))
  replace O6 := Lib.hid (O6.out.chg CD.out (by simp))
  replace O7 := Lib.hid (O7.out.chg CD.out (by simp))
  clear CD
  generalize w7.drew = w8 at *
  have DX : Hid (∀ w', Chg [] w8 w' → (fun w' => w'.cell? ⟨g0, 0, none⟩ = some (.int .i64 x.n) ∧ w'.cell? ⟨g0, 1, none⟩ = some (.int .i64 x.s) ∧ w'.cell? ⟨g0, 2, none⟩ = some (.string x.p) ∧ w'.cell? ⟨g0, 3, none⟩ = some (.int .i64 x.k) ∧ w'.cell? ⟨g0, 4, none⟩ = some (.int .i64 x.m) ∧ w'.cell? ⟨g0, 5, none⟩ = some (.slice x.A x.l x.c) ∧ w'.cell? ⟨g0, 6, none⟩ = some (.slice x.B x.bl x.bc) ∧ w'.cell? ⟨g5, 0, none⟩ = some (.int .i64 X.n) ∧ w'.cell? ⟨g5, 1, none⟩ = some (.int .i64 X.s) ∧ w'.cell? ⟨g5, 2, none⟩ = some (.string X.p) ∧ w'.cell? ⟨g5, 3, none⟩ = some (.int .i64 X.k) ∧ w'.cell? ⟨g5, 4, none⟩ = some (.int .i64 X.m) ∧ w'.cell? ⟨g5, 5, none⟩ = some (.slice X.A X.l X.c) ∧ w'.cell? ⟨g5, 6, none⟩ = some (.slice X.B X.bl X.bc)) w') := Lib.hid (fun w' hc => by
    have b0 := hc.at_ B0.out (by simp)
    have b5 := hc.at_ B5.out (by simp)
    exact ⟨cell_of b0 0, cell_of b0 1, cell_of b0 2, cell_of b0 3, cell_of b0 4, cell_of b0 5, cell_of b0 6, cell_of b5 0, cell_of b5 1, cell_of b5 2, cell_of b5 3, cell_of b5 4, cell_of b5 5, cell_of b5 6⟩)
  obtain ⟨wc, hwc⟩ : ∃ wc, w8 = wc := ⟨_, rfl⟩
  have CC : Hid (Chg [] w8 wc) := Lib.hid (hwc ▸ Chg.refl [] w8)
  rw [hwc]
  clear hwc
  skip
  refine sy 0 28 rfl rfl ?_ (hS := (DX.out _ CC.out))
  try simp only [Act.put, sA, s0, s1]
  refine sy 1 29 rfl rfl ?_ (hS := (DX.out _ CC.out))
  try simp only [Act.put, sA, s0, s1]
  refine wpAnyH_ready (rs := [2]) (by kernel_rfl) (by simp) ?_
  refine AllReadyH.cons rfl (fun K hK => ?_) AllReadyH.nil
  replace hK := Lib.hid hK
  go_simp
  refine (same_yesC wc A6 A7 bn bn c6 c7 bs bs (by have q := O6.out.reads.chg CC.out (by simp); rw [BN.out, HBS.out] at q; exact q) (by have q := O7.out.reads.chg CC.out (by simp); rw [BN.out, HBS.out] at q; exact q) rfl).mono ?_
  rintro r wc ⟨rfl, hc⟩
  replace CC := Lib.hid (CC.out.trans hc)
  clear hc
  refine hK.out _ _ (DX.out _ CC.out) (fun hHeld => ?_)
  clear hK K
  try simp only [Act.put, sA, s0, s1]
  refine sy 3 31 rfl rfl ?_ (hS := (DX.out _ CC.out))
  try simp only [Act.put, sA, s0, s1]
  refine sy 4 32 rfl rfl ?_ (hS := (DX.out _ CC.out))
  try simp only [Act.put, sA, s0, s1]
  refine sy 5 33 rfl rfl ?_ (hS := (DX.out _ CC.out))
  try simp only [Act.put, sA, s0, s1]
  refine sy 6 34 rfl rfl ?_ (hS := (DX.out _ CC.out))
  try simp only [Act.put, sA, s0, s1]
  refine sy 7 35 rfl rfl ?_ (hS := (DX.out _ CC.out))
  try simp only [Act.put, sA, s0, s1]
  refine sy 8 36 rfl rfl ?_ (hS := (DX.out _ CC.out))
  try simp only [Act.put, sA, s0, s1]
  refine sy 9 37 rfl rfl ?_ (hS := (DX.out _ CC.out)) (hy := by (intro w hSw; (try dsimp only at hSw); obtain ⟨q0, q1, q2, q3, q4, q5, q6, q7, q8, q9, q10, q11, q12, q13⟩ := hSw; go_simp; try with_reducible rfl))
  try simp only [Act.put, sA, s0, s1]
  refine sy 11 39 rfl rfl ?_ (hS := (DX.out _ CC.out)) (hy := by (intro w hSw; (try dsimp only at hSw); obtain ⟨q0, q1, q2, q3, q4, q5, q6, q7, q8, q9, q10, q11, q12, q13⟩ := hSw; go_simp; try with_reducible rfl))
  try simp only [Act.put, sA, s0, s1]
  refine wpAnyH_ready (rs := [10]) (by kernel_rfl) (by simp) ?_
  refine AllReadyH.cons rfl (fun K hK => ?_) AllReadyH.nil
  replace hK := Lib.hid hK
  go_simp
  refine (evcheck_any wc X e (HI.out.chg CC.out) SX.out).mono ?_
  rintro r wc ⟨rfl, hc⟩
  rw [CK.out]
  replace CC := Lib.hid (CC.out.trans hc)
  clear hc
  refine hK.out _ _ (DX.out _ CC.out) (fun hHeld => ?_)
  clear hK K
  try simp only [Act.put, sA, s0, s1]
  refine wpAnyH_ready (rs := [12]) (by kernel_rfl) (by simp) ?_
  refine AllReadyH.cons rfl (fun K hK => ?_) AllReadyH.nil
  replace hK := Lib.hid hK
  go_simp
  refine (vecheck_any wc x e (HX.out.chg CC.out) SX.out).mono ?_
  rintro r wc ⟨rfl, hc⟩
  rw [CK.out]
  replace CC := Lib.hid (CC.out.trans hc)
  clear hc
  refine hK.out _ _ (DX.out _ CC.out) (fun hHeld => ?_)
  clear hK K
  try simp only [Act.put, sA, s0, s1]
  refine sy 13 41 rfl rfl ?_ (hS := (DX.out _ CC.out))
  try simp only [Act.put, sA, s0, s1]
  refine sy 14 42 rfl rfl ?_ (hS := (DX.out _ CC.out))
  try simp only [Act.put, sA, s0, s1]
  refine sy 15 43 rfl rfl ?_ (hS := (DX.out _ CC.out))
  try simp only [Act.put, sA, s0, s1]
  refine sy 16 44 rfl rfl ?_ (hS := (DX.out _ CC.out)) (hy := by (intro w hSw; (try dsimp only at hSw); obtain ⟨q0, q1, q2, q3, q4, q5, q6, q7, q8, q9, q10, q11, q12, q13⟩ := hSw; go_simp; try with_reducible rfl))
  try simp only [Act.put, sA, s0, s1]
  refine sy 18 46 rfl rfl ?_ (hS := (DX.out _ CC.out)) (hy := by (intro w hSw; (try dsimp only at hSw); obtain ⟨q0, q1, q2, q3, q4, q5, q6, q7, q8, q9, q10, q11, q12, q13⟩ := hSw; go_simp; try with_reducible rfl))
  try simp only [Act.put, sA, s0, s1]
  refine wpAnyH_ready (rs := [17]) (by kernel_rfl) (by simp) ?_
  refine AllReadyH.cons rfl (fun K hK => ?_) AllReadyH.nil
  replace hK := Lib.hid hK
  go_simp
  refine (evsize_any wc X e (HI.out.chg CC.out) SX.out).mono ?_
  rintro r wc ⟨rfl, hc⟩
  rw [BN.out]
  replace CC := Lib.hid (CC.out.trans hc)
  clear hc
  refine hK.out _ _ (DX.out _ CC.out) (fun hHeld => ?_)
  clear hK K
  try simp only [Act.put, sA, s0, s1]
  refine wpAnyH_ready (rs := [19]) (by kernel_rfl) (by simp) ?_
  refine AllReadyH.cons rfl (fun K hK => ?_) AllReadyH.nil
  replace hK := Lib.hid hK
  go_simp
  refine (vesize_any wc x e (HX.out.chg CC.out) SX.out ZX.out.2.2.2.2).mono ?_
  rintro r wc ⟨rfl, hc⟩
  rw [BN.out]
  replace CC := Lib.hid (CC.out.trans hc)
  clear hc
  refine hK.out _ _ (DX.out _ CC.out) (fun hHeld => ?_)
  clear hK K
  try simp only [Act.put, sA, s0, s1]
  refine sy 20 48 rfl rfl ?_ (hS := (DX.out _ CC.out))
  try simp only [Act.put, sA, s0, s1]
  refine sy 21 49 rfl rfl ?_ (hS := (DX.out _ CC.out))
  try simp only [Act.put, sA, s0, s1]
  refine sy 22 10 rfl rfl ?_ (hS := (DX.out _ CC.out))
  try simp only [Act.put, sA, s0, s1]
  refine wpAnyH_done (by kernel_rfl) ?_ _
  clear hHeld DX
  replace C := Lib.hid (C.out.trans CC.out)
  replace C59 := Lib.hid (C59.out.trans CC.out)
  replace B0 := Lib.hid (CC.out.at_ B0.out (by simp))
  replace B1 := Lib.hid (CC.out.at_ B1.out (by simp))
  replace HX := Lib.hid (HX.out.chg CC.out)
  replace HY := Lib.hid (HY.out.chg CC.out)
  replace HI := Lib.hid (HI.out.chg CC.out)
  replace B5 := Lib.hid (CC.out.at_ B5.out (by simp))
  replace O6 := Lib.hid (O6.out.chg CC.out (by simp))
  replace O7 := Lib.hid (O7.out.chg CC.out (by simp))
  clear CC O7
  go_wp2_with fail
  refine (over_own wc A6 c6 bn _ O6.out BN.out.symm).mono ?_
  rintro r w9 ⟨rfl, h9⟩
  obtain ⟨S, hS, h9⟩ := over_only h9
  have hS2 : ∀ i ∈ S, w5.heap.size ≤ i := fun i hi => by obtain ⟨a, ha, q⟩ := hS i hi; rw [← q]; exact N6.out a ha
  replace C := Lib.hid (C.out.over C5.out hS2 h9)
  have D59 : Hid (Chg [] w5 w9) := Lib.hid (C59.out.trans' h9 (fun i hi => .inr (hS2 i hi)))
  replace HX := Lib.hid (HX5.out.chg D59.out)
  replace HY := Lib.hid (HY5.out.chg D59.out)
  replace HI := Lib.hid (HI5.out.chg D59.out)
  replace B0 := Lib.hid (h9.at_ B0.out (fun q => absurd (hS2 _ q) (by have := SZ6.out; omega)))
  replace B1 := Lib.hid (h9.at_ B1.out (fun q => absurd (hS2 _ q) (by have := SZ6.out; omega)))
  replace B5 := Lib.hid (h9.at_ B5.out (fun q => absurd (hS2 _ q) (by have := SZ6.out; omega)))
  clear h9 hS hS2 O6 N6 HX5 HY5 HI5 C59 D59 C5
  obtain ⟨ah, hah⟩ : ∃ b, aheadP e f = b := ⟨_, rfl⟩
  obtain ⟨sa, hsa⟩ : ∃ b, sameP e f = b := ⟨_, rfl⟩
  have AH := Lib.hid hah
  have SA := Lib.hid hsa
  have SE : Hid (sameP e e = true) := Lib.hid (by unfold sameP; simp)
  clear hah hsa
  have z0 := cell_of B0.out 0
  have z1 := cell_of B0.out 1
  have z2 := cell_of B0.out 2
  have z3 := cell_of B0.out 3
  have z4 := cell_of B0.out 4
  have z5 := cell_of B0.out 5
  have z6 := cell_of B0.out 6
  have y0 := cell_of B1.out 0
  have y1 := cell_of B1.out 1
  have y2 := cell_of B1.out 2
  have y3 := cell_of B1.out 3
  have y4 := cell_of B1.out 4
  have y5 := cell_of B1.out 5
  have y6 := cell_of B1.out 6
  have t0 := cell_of B5.out 0
  have t1 := cell_of B5.out 1
  have t2 := cell_of B5.out 2
  have t3 := cell_of B5.out 3
  have t4 := cell_of B5.out 4
  have t5 := cell_of B5.out 5
  have t6 := cell_of B5.out 6
  simp only [List.getElem?_toArray, List.getElem?_cons_succ, List.getElem?_cons_zero] at z0 z1 z2 z3 z4 z5 z6 y0 y1 y2 y3 y4 y5 y6 t0 t1 t2 t3 t4 t5 t6
  go_upto_region 8 with fail
  refine wp_region_held_drew (S := fun w' => w'.cell? ⟨g0, 0, none⟩ = some (.int .i64 x.n) ∧ w'.cell? ⟨g0, 1, none⟩ = some (.int .i64 x.s) ∧ w'.cell? ⟨g0, 2, none⟩ = some (.string x.p) ∧ w'.cell? ⟨g0, 3, none⟩ = some (.int .i64 x.k) ∧ w'.cell? ⟨g0, 4, none⟩ = some (.int .i64 x.m) ∧ w'.cell? ⟨g0, 5, none⟩ = some (.slice x.A x.l x.c) ∧ w'.cell? ⟨g0, 6, none⟩ = some (.slice x.B x.bl x.bc) ∧ w'.cell? ⟨g1, 0, none⟩ = some (.int .i64 y.n) ∧ w'.cell? ⟨g1, 1, none⟩ = some (.int .i64 y.s) ∧ w'.cell? ⟨g1, 2, none⟩ = some (.string y.p) ∧ w'.cell? ⟨g1, 3, none⟩ = some (.int .i64 y.k) ∧ w'.cell? ⟨g1, 4, none⟩ = some (.int .i64 y.m) ∧ w'.cell? ⟨g1, 5, none⟩ = some (.slice y.A y.l y.c) ∧ w'.cell? ⟨g1, 6, none⟩ = some (.slice y.B y.bl y.bc) ∧ w'.cell? ⟨g5, 0, none⟩ = some (.int .i64 X.n) ∧ w'.cell? ⟨g5, 1, none⟩ = some (.int .i64 X.s) ∧ w'.cell? ⟨g5, 2, none⟩ = some (.string X.p) ∧ w'.cell? ⟨g5, 3, none⟩ = some (.int .i64 X.k) ∧ w'.cell? ⟨g5, 4, none⟩ = some (.int .i64 X.m) ∧ w'.cell? ⟨g5, 5, none⟩ = some (.slice X.A X.l X.c) ∧ w'.cell? ⟨g5, 6, none⟩ = some (.slice X.B X.bl X.bc)) (by kernel_rfl) ⟨z0, z1, z2, z3, z4, z5, z6, y0, y1, y2, y3, y4, y5, y6, t0, t1, t2, t3, t4, t5, t6⟩ (fun hHeld => ?_)
  have CD := Lib.hid (Chg.refl [] w9).drew
  clear z0 z1 z2 z3 z4 z5 z6 y0 y1 y2 y3 y4 y5 y6 t0 t1 t2 t3 t4 t5 t6
  clear hHeld
  replace C := Lib.hid (C.out.trans CD.out)
  replace B0 := Lib.hid (CD.out.at_ B0.out (by simp))
  replace B1 := Lib.hid (CD.out.at_ B1.out (by simp))
  replace B5 := Lib.hid (CD.out.at_ B5.out (by simp))
  replace HX := Lib.hid (HX.out.chg CD.out)
  replace HY := Lib.hid (HY.out.chg CD.out)
  replace HI := Lib.hid (HI.out.chg CD.out)
  clear CD
  generalize w9.drew = w10 at *
  have DX : Hid (∀ w', Chg [] w10 w' → (fun w' => w'.cell? ⟨g0, 0, none⟩ = some (.int .i64 x.n) ∧ w'.cell? ⟨g0, 1, none⟩ = some (.int .i64 x.s) ∧ w'.cell? ⟨g0, 2, none⟩ = some (.string x.p) ∧ w'.cell? ⟨g0, 3, none⟩ = some (.int .i64 x.k) ∧ w'.cell? ⟨g0, 4, none⟩ = some (.int .i64 x.m) ∧ w'.cell? ⟨g0, 5, none⟩ = some (.slice x.A x.l x.c) ∧ w'.cell? ⟨g0, 6, none⟩ = some (.slice x.B x.bl x.bc) ∧ w'.cell? ⟨g1, 0, none⟩ = some (.int .i64 y.n) ∧ w'.cell? ⟨g1, 1, none⟩ = some (.int .i64 y.s) ∧ w'.cell? ⟨g1, 2, none⟩ = some (.string y.p) ∧ w'.cell? ⟨g1, 3, none⟩ = some (.int .i64 y.k) ∧ w'.cell? ⟨g1, 4, none⟩ = some (.int .i64 y.m) ∧ w'.cell? ⟨g1, 5, none⟩ = some (.slice y.A y.l y.c) ∧ w'.cell? ⟨g1, 6, none⟩ = some (.slice y.B y.bl y.bc) ∧ w'.cell? ⟨g5, 0, none⟩ = some (.int .i64 X.n) ∧ w'.cell? ⟨g5, 1, none⟩ = some (.int .i64 X.s) ∧ w'.cell? ⟨g5, 2, none⟩ = some (.string X.p) ∧ w'.cell? ⟨g5, 3, none⟩ = some (.int .i64 X.k) ∧ w'.cell? ⟨g5, 4, none⟩ = some (.int .i64 X.m) ∧ w'.cell? ⟨g5, 5, none⟩ = some (.slice X.A X.l X.c) ∧ w'.cell? ⟨g5, 6, none⟩ = some (.slice X.B X.bl X.bc)) w') := Lib.hid (fun w' hc => by
    have b0 := hc.at_ B0.out (by simp)
    have b1 := hc.at_ B1.out (by simp)
    have b5 := hc.at_ B5.out (by simp)
    exact ⟨cell_of b0 0, cell_of b0 1, cell_of b0 2, cell_of b0 3, cell_of b0 4, cell_of b0 5, cell_of b0 6, cell_of b1 0, cell_of b1 1, cell_of b1 2, cell_of b1 3, cell_of b1 4, cell_of b1 5, cell_of b1 6, cell_of b5 0, cell_of b5 1, cell_of b5 2, cell_of b5 3, cell_of b5 4, cell_of b5 5, cell_of b5 6⟩)
  obtain ⟨wc, hwc⟩ : ∃ wc, w10 = wc := ⟨_, rfl⟩
  have CC : Hid (Chg [] w10 wc) := Lib.hid (hwc ▸ Chg.refl [] w10)
  rw [hwc]
  clear hwc
  refine sy 0 52 rfl rfl ?_ (hS := (DX.out _ CC.out))
  try simp only [Act.put, sA, s0, s1]
  refine sy 1 53 rfl rfl ?_ (hS := (DX.out _ CC.out))
  try simp only [Act.put, sA, s0, s1]
  refine sy 2 54 rfl rfl ?_ (hS := (DX.out _ CC.out)) (hy := by (intro w hSw; (try dsimp only at hSw); obtain ⟨q0, q1, q2, q3, q4, q5, q6, q7, q8, q9, q10, q11, q12, q13, q14, q15, q16, q17, q18, q19, q20⟩ := hSw; go_simp; try with_reducible rfl))
  try simp only [Act.put, sA, s0, s1]
  refine sy 3 55 rfl rfl ?_ (hS := (DX.out _ CC.out)) (hy := by (intro w hSw; (try dsimp only at hSw); obtain ⟨q0, q1, q2, q3, q4, q5, q6, q7, q8, q9, q10, q11, q12, q13, q14, q15, q16, q17, q18, q19, q20⟩ := hSw; go_simp; try with_reducible rfl))
  try simp only [Act.put, sA, s0, s1]
  refine sy 5 57 rfl rfl ?_ (hS := (DX.out _ CC.out)) (hy := by (intro w hSw; (try dsimp only at hSw); obtain ⟨q0, q1, q2, q3, q4, q5, q6, q7, q8, q9, q10, q11, q12, q13, q14, q15, q16, q17, q18, q19, q20⟩ := hSw; go_simp; try with_reducible rfl))
  try simp only [Act.put, sA, s0, s1]
  refine sy 6 58 rfl rfl ?_ (hS := (DX.out _ CC.out)) (hy := by (intro w hSw; (try dsimp only at hSw); obtain ⟨q0, q1, q2, q3, q4, q5, q6, q7, q8, q9, q10, q11, q12, q13, q14, q15, q16, q17, q18, q19, q20⟩ := hSw; go_simp; try with_reducible rfl))
  try simp only [Act.put, sA, s0, s1]
  refine wpAnyH_ready (rs := [4]) (by kernel_rfl) (by simp) ?_
  refine AllReadyH.cons rfl (fun K hK => ?_) AllReadyH.nil
  replace hK := Lib.hid hK
  go_simp
  refine (evahead_any wc X y e f (HI.out.chg CC.out) (HY.out.chg CC.out) SX.out SY.out).mono ?_
  rintro r wc ⟨rfl, hc⟩
  rw [AH.out]
  replace CC := Lib.hid (CC.out.trans hc)
  clear hc
  refine hK.out _ _ (DX.out _ CC.out) (fun hHeld => ?_)
  clear hK K
  try simp only [Act.put, sA, s0, s1]
  refine wpAnyH_ready (rs := [7]) (by kernel_rfl) (by simp) ?_
  refine AllReadyH.cons rfl (fun K hK => ?_) AllReadyH.nil
  replace hK := Lib.hid hK
  go_simp
  refine (veahead_any wc x y e f (HX.out.chg CC.out) (HY.out.chg CC.out) SX.out SY.out).mono ?_
  rintro r wc ⟨rfl, hc⟩
  rw [AH.out]
  replace CC := Lib.hid (CC.out.trans hc)
  clear hc
  refine hK.out _ _ (DX.out _ CC.out) (fun hHeld => ?_)
  clear hK K
  try simp only [Act.put, sA, s0, s1]
  refine sy 8 60 rfl rfl ?_ (hS := (DX.out _ CC.out))
  try simp only [Act.put, sA, s0, s1]
  refine sy 9 61 rfl rfl ?_ (hS := (DX.out _ CC.out))
  try simp only [Act.put, sA, s0, s1]
  refine sy 10 62 rfl rfl ?_ (hS := (DX.out _ CC.out))
  try simp only [Act.put, sA, s0, s1]
  refine sy 11 63 rfl rfl ?_ (hS := (DX.out _ CC.out)) (hy := by (intro w hSw; (try dsimp only at hSw); obtain ⟨q0, q1, q2, q3, q4, q5, q6, q7, q8, q9, q10, q11, q12, q13, q14, q15, q16, q17, q18, q19, q20⟩ := hSw; go_simp; try with_reducible rfl))
  try simp only [Act.put, sA, s0, s1]
  refine sy 12 64 rfl rfl ?_ (hS := (DX.out _ CC.out)) (hy := by (intro w hSw; (try dsimp only at hSw); obtain ⟨q0, q1, q2, q3, q4, q5, q6, q7, q8, q9, q10, q11, q12, q13, q14, q15, q16, q17, q18, q19, q20⟩ := hSw; go_simp; try with_reducible rfl))
  try simp only [Act.put, sA, s0, s1]
  refine sy 14 66 rfl rfl ?_ (hS := (DX.out _ CC.out)) (hy := by (intro w hSw; (try dsimp only at hSw); obtain ⟨q0, q1, q2, q3, q4, q5, q6, q7, q8, q9, q10, q11, q12, q13, q14, q15, q16, q17, q18, q19, q20⟩ := hSw; go_simp; try with_reducible rfl))
  try simp only [Act.put, sA, s0, s1]
  refine sy 15 67 rfl rfl ?_ (hS := (DX.out _ CC.out)) (hy := by (intro w hSw; (try dsimp only at hSw); obtain ⟨q0, q1, q2, q3, q4, q5, q6, q7, q8, q9, q10, q11, q12, q13, q14, q15, q16, q17, q18, q19, q20⟩ := hSw; go_simp; try with_reducible rfl))
  try simp only [Act.put, sA, s0, s1]
  refine wpAnyH_ready (rs := [13]) (by kernel_rfl) (by simp) ?_
  refine AllReadyH.cons rfl (fun K hK => ?_) AllReadyH.nil
  replace hK := Lib.hid hK
  go_simp
  refine (evsame_any wc X y e f (HI.out.chg CC.out) (HY.out.chg CC.out) ⟨SX.out.2.2, SY.out.2.2⟩).mono ?_
  rintro r wc ⟨rfl, hc⟩
  rw [SA.out]
  replace CC := Lib.hid (CC.out.trans hc)
  clear hc
  refine hK.out _ _ (DX.out _ CC.out) (fun hHeld => ?_)
  clear hK K
  try simp only [Act.put, sA, s0, s1]
  refine wpAnyH_ready (rs := [16]) (by kernel_rfl) (by simp) ?_
  refine AllReadyH.cons rfl (fun K hK => ?_) AllReadyH.nil
  replace hK := Lib.hid hK
  go_simp
  refine (vesame_any wc x y e f (HX.out.chg CC.out) (HY.out.chg CC.out) ⟨SX.out.2.2, SY.out.2.2⟩).mono ?_
  rintro r wc ⟨rfl, hc⟩
  rw [SA.out]
  replace CC := Lib.hid (CC.out.trans hc)
  clear hc
  refine hK.out _ _ (DX.out _ CC.out) (fun hHeld => ?_)
  clear hK K
  try simp only [Act.put, sA, s0, s1]
  refine sy 17 69 rfl rfl ?_ (hS := (DX.out _ CC.out))
  try simp only [Act.put, sA, s0, s1]
  refine sy 18 70 rfl rfl ?_ (hS := (DX.out _ CC.out))
  try simp only [Act.put, sA, s0, s1]
  refine sy 19 71 rfl rfl ?_ (hS := (DX.out _ CC.out))
  try simp only [Act.put, sA, s0, s1]
  refine sy 20 72 rfl rfl ?_ (hS := (DX.out _ CC.out)) (hy := by (intro w hSw; (try dsimp only at hSw); obtain ⟨q0, q1, q2, q3, q4, q5, q6, q7, q8, q9, q10, q11, q12, q13, q14, q15, q16, q17, q18, q19, q20⟩ := hSw; go_simp; try with_reducible rfl))
  try simp only [Act.put, sA, s0, s1]
  refine sy 21 73 rfl rfl ?_ (hS := (DX.out _ CC.out)) (hy := by (intro w hSw; (try dsimp only at hSw); obtain ⟨q0, q1, q2, q3, q4, q5, q6, q7, q8, q9, q10, q11, q12, q13, q14, q15, q16, q17, q18, q19, q20⟩ := hSw; go_simp; try with_reducible rfl))
  try simp only [Act.put, sA, s0, s1]
  refine wpAnyH_ready (rs := [22]) (by kernel_rfl) (by simp) ?_
  refine AllReadyH.cons rfl (fun K hK => ?_) AllReadyH.nil
  replace hK := Lib.hid hK
  go_simp
  refine (sameev_any wc X x e e (HI.out.chg CC.out) (HX.out.chg CC.out) ⟨SX.out.2.2, SX.out.2.2⟩).mono ?_
  rintro r wc ⟨rfl, hc⟩
  rw [SE.out]
  replace CC := Lib.hid (CC.out.trans hc)
  clear hc
  refine hK.out _ _ (DX.out _ CC.out) (fun hHeld => ?_)
  clear hK K
  try simp only [Act.put, sA, s0, s1]
  refine sy 23 75 rfl rfl ?_ (hS := (DX.out _ CC.out))
  try simp only [Act.put, sA, s0, s1]
  refine sy 24 76 rfl rfl ?_ (hS := (DX.out _ CC.out))
  try simp only [Act.put, sA, s0, s1]
  refine wpAnyH_ready (rs := [25]) (by kernel_rfl) (by simp) ?_
  refine AllReadyH.cons rfl (fun K hK => ?_) AllReadyH.nil
  replace hK := Lib.hid hK
  go_simp
  refine (l8awake_run wc).mono ?_
  rintro r wc ⟨rfl, hc⟩
  replace CC := Lib.hid (CC.out.trans hc)
  clear hc
  refine hK.out _ _ (DX.out _ CC.out) (fun hHeld => ?_)
  clear hK K
  try simp only [Act.put, sA, s0, s1]
  refine sy 26 78 rfl rfl ?_ (hS := (DX.out _ CC.out))
  try simp only [Act.put, sA, s0, s1]
  refine sy 27 4 rfl rfl ?_ (hS := (DX.out _ CC.out))
  try simp only [Act.put, sA, s0, s1]
  refine wpAnyH_done (by kernel_rfl) ?_ _
  clear hHeld
  go_wp2
  go_ret
  exact ⟨rfl, C.out.trans CC.out⟩
end
section
def TabN (_ : World) : Prop := True
theorem TabN.laid {W : World} (_h : laidMetH Tryz.prog tables W) : TabN W := trivial
end
end Go.Proofs.YtgbidlhgmeglmaaGreatDoor
