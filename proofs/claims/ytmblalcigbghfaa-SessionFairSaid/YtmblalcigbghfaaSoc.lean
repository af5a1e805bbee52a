/- The law's turn: a tick. The law's turn: a tick. The law's turn: a body is sent. -/
import Derived.Test.YtmblalcigbghfaaSob
namespace Go.Proofs.Ytmblalcigbghfaa
section
open Go.RowKit Go.Lib
set_option linter.unusedSimpArgs false
set_option linter.unusedVariables false


set_option maxHeartbeats 8000000 in
set_option maxRecDepth 100000 in
theorem turn_tick_a (w0 w : World) (g a b kk : Nat) (wo : WoT) (hW : WL w0.heap.size w g a b kk wo) (hc0 : Chg [] w0 w) (hK : kk ≤ 400000) (wh : Int) (Y : Option Addr) (m e : Nat) : Calls Try.prog 22 #[.pointer (some ⟨g, 0, none⟩), .agg #[.int .i64 1, .int .i64 wh, .bool false, .slice Y m e]] w fun r w' => r = .returned (.tuple #[]) ∧ WL w0.heap.size w' g a b (kk + 2) { wo with sa := tickS wo.sa } ∧ Chg [] w0 w' := by
 obtain ⟨Ar, cr, lr, P0, c0, l0, P1, c1, l1, Q0, d0, m0, Q1, d1, m1, Aa, Da, Ab, Db, F, h⟩ := hW
 obtain ⟨w1, hw1, c1, b1⟩ := news1 w (.cells #[.int .i64 1, .int .i64 wh, .bool false, .slice Y m e] 58)
 have W1 := Lib.hid hw1
 have HW := Lib.hid (h.off c1 (by simp))
 have C0 := Lib.hid (hc0.trans c1)
 have BX := Lib.hid b1
 have GX := Lib.hid (show w0.heap.size ≤ w.heap.size ∧ g < w.heap.size ∧ w.heap.size < w1.heap.size from ⟨hc0.size, lt_of_heap h.hg, lt_of_heap b1⟩)
 have LOW := Lib.hid (fun l hl z hz => (h.lo l hl z hz).2)
 have HKK := Lib.hid hK
 have y0 := cell_of HW.out.hg 0
 have y1 := cell_of HW.out.hg 1
 simp only [List.getElem?_toArray, List.getElem?_cons_succ, List.getElem?_cons_zero] at y0 y1
 have x0 := cell_of b1 0
 have x2 := cell_of b1 2
 have x3 := cell_of b1 3
 simp only [List.getElem?_toArray, List.getElem?_cons_succ, List.getElem?_cons_zero] at x0 x2 x3
 clear hw1 c1 b1 h hc0 hK
 go_enter Try.func22, Try.ntmps22
 go_upto_region 1 with fail
 rw [← W1.out]
 generalize hgx : w.heap.size = gx at *
 go_wp2_with fail
 refine (tickL HW.out.sa (by have := HKK.out; omega)).mono ?_
 rintro r w2 ⟨rfl, hs, hC⟩
 have FI : Hid (WL w0.heap.size w2 g a b (kk + 2) { wo with sa := tickS wo.sa }) := Lib.hid ⟨_, _, _, _, _, _, _, _, _, _, _, _, _, _, _, _, _, _, _, _, HW.out.sesa hC (fun z hz => by simp at hz; simp [hz]) [] (K' := kk + 2) (by omega) Aa Da _ (hs.more (by omega)) (fun z hz => .inl hz) (by simp) (fun z hz => .inl hz) (fun z hz => Nat.lt_of_lt_of_le (HW.out.lo (a :: blkOf Aa) (by simp) z hz).2 hC.size) (by simp) C0.out.size⟩
 have C2 := Lib.hid (C0.out.on hC (fun z hz => (HW.out.lo (a :: blkOf Aa) (by simp) z (by simp at hz; simp [hz])).1))
 clear hs hC
 go_wp2
 go_end0
 exact ⟨rfl, FI.out, C2.out⟩
end
section
open Go.RowKit Go.Lib
set_option linter.unusedSimpArgs false
set_option linter.unusedVariables false


set_option maxHeartbeats 8000000 in
set_option maxRecDepth 100000 in
theorem turn_tick_b (w0 w : World) (g a b kk : Nat) (wo : WoT) (hW : WL w0.heap.size w g a b kk wo) (hc0 : Chg [] w0 w) (hK : kk ≤ 400000) (wh : Int) (Y : Option Addr) (m e : Nat) : Calls Try.prog 22 #[.pointer (some ⟨g, 0, none⟩), .agg #[.int .i64 1, .int .i64 wh, .bool true, .slice Y m e]] w fun r w' => r = .returned (.tuple #[]) ∧ WL w0.heap.size w' g a b (kk + 2) { wo with sb := tickS wo.sb } ∧ Chg [] w0 w' := by
 obtain ⟨Ar, cr, lr, P0, c0, l0, P1, c1, l1, Q0, d0, m0, Q1, d1, m1, Aa, Da, Ab, Db, F, h⟩ := hW
 obtain ⟨w1, hw1, c1, b1⟩ := news1 w (.cells #[.int .i64 1, .int .i64 wh, .bool true, .slice Y m e] 58)
 have W1 := Lib.hid hw1
 have HW := Lib.hid (h.off c1 (by simp))
 have C0 := Lib.hid (hc0.trans c1)
 have BX := Lib.hid b1
 have GX := Lib.hid (show w0.heap.size ≤ w.heap.size ∧ g < w.heap.size ∧ w.heap.size < w1.heap.size from ⟨hc0.size, lt_of_heap h.hg, lt_of_heap b1⟩)
 have LOW := Lib.hid (fun l hl z hz => (h.lo l hl z hz).2)
 have HKK := Lib.hid hK
 have y0 := cell_of HW.out.hg 0
 have y1 := cell_of HW.out.hg 1
 simp only [List.getElem?_toArray, List.getElem?_cons_succ, List.getElem?_cons_zero] at y0 y1
 have x0 := cell_of b1 0
 have x2 := cell_of b1 2
 have x3 := cell_of b1 3
 simp only [List.getElem?_toArray, List.getElem?_cons_succ, List.getElem?_cons_zero] at x0 x2 x3
 clear hw1 c1 b1 h hc0 hK
 go_enter Try.func22, Try.ntmps22
 go_upto_region 1 with fail
 rw [← W1.out]
 generalize hgx : w.heap.size = gx at *
 go_wp2_with fail
 refine (tickL HW.out.sb (by have := HKK.out; omega)).mono ?_
 rintro r w2 ⟨rfl, hs, hC⟩
 have FI : Hid (WL w0.heap.size w2 g a b (kk + 2) { wo with sb := tickS wo.sb }) := Lib.hid ⟨_, _, _, _, _, _, _, _, _, _, _, _, _, _, _, _, _, _, _, _, HW.out.sesb hC (fun z hz => by simp at hz; simp [hz]) [] (K' := kk + 2) (by omega) Ab Db _ (hs.more (by omega)) (fun z hz => .inl hz) (by simp) (fun z hz => .inl hz) (fun z hz => Nat.lt_of_lt_of_le (HW.out.lo (b :: blkOf Ab) (by simp) z hz).2 hC.size) (by simp) C0.out.size⟩
 have C2 := Lib.hid (C0.out.on hC (fun z hz => (HW.out.lo (b :: blkOf Ab) (by simp) z (by simp at hz; simp [hz])).1))
 clear hs hC
 go_wp2
 go_end0
 exact ⟨rfl, FI.out, C2.out⟩
end
section
open Go.RowKit Go.Lib
set_option linter.unusedSimpArgs false
set_option linter.unusedVariables false


set_option maxHeartbeats 8000000 in
set_option maxRecDepth 100000 in
theorem turn_send_ok_a (w0 w : World) (g a b kk : Nat) (wo : WoT) (hW : WL w0.heap.size w g a b kk wo) (hc0 : Chg [] w0 w) (hK : kk ≤ 400000) (wh : Int) (Y : Option Addr) (m e : Nat) (ys : List UInt8) (hy : Bs w Y m ys) (hyl : ys = [] ∨ ∀ x, Y = some x → x.block < w0.heap.size) (hm : m ≤ 140737488351232) (hl : wo.s0.length ≤ 1000000) (he :  sendE wo.sa ys = 0) : Calls Try.prog 22 #[.pointer (some ⟨g, 0, none⟩), .agg #[.int .i64 0, .int .i64 wh, .bool false, .slice Y m e]] w fun r w' => r = .returned (.tuple #[]) ∧ WL w0.heap.size w' g a b (kk + 2) { wo with sa := sendS wo.sa ys, s0 := wo.s0 ++ [ys] } ∧ Chg [] w0 w' := by
 have HE := Lib.hid he
 have HL := Lib.hid hl
 have HY := Lib.hid hy
 have HYL := Lib.hid hyl
 have HM := Lib.hid hm
 clear he hl hy hyl hm
 obtain ⟨Ar, cr, lr, P0, c0, l0, P1, c1, l1, Q0, d0, m0, Q1, d1, m1, Aa, Da, Ab, Db, F, h⟩ := hW
 obtain ⟨w1, hw1, c1, b1⟩ := news1 w (.cells #[.int .i64 0, .int .i64 wh, .bool false, .slice Y m e] 58)
 have W1 := Lib.hid hw1
 have HW := Lib.hid (h.off c1 (by simp))
 have C0 := Lib.hid (hc0.trans c1)
 have BX := Lib.hid b1
 have GX := Lib.hid (show w0.heap.size ≤ w.heap.size ∧ g < w.heap.size ∧ w.heap.size < w1.heap.size from ⟨hc0.size, lt_of_heap h.hg, lt_of_heap b1⟩)
 have LOW := Lib.hid (fun l hl z hz => (h.lo l hl z hz).2)
 have HKK := Lib.hid hK
 have y0 := cell_of HW.out.hg 0
 have y1 := cell_of HW.out.hg 1
 simp only [List.getElem?_toArray, List.getElem?_cons_succ, List.getElem?_cons_zero] at y0 y1
 have x0 := cell_of b1 0
 have x2 := cell_of b1 2
 have x3 := cell_of b1 3
 simp only [List.getElem?_toArray, List.getElem?_cons_succ, List.getElem?_cons_zero] at x0 x2 x3
 clear hw1 c1 b1 h hc0 hK
 go_enter Try.func22, Try.ntmps22
 go_upto_region 1 with fail
 rw [← W1.out]
 generalize hgx : w.heap.size = gx at *
 replace HY := Lib.hid (HY.out.go (w0 := w0) (w' := w1) (S := []) (by rw [W1.out]; exact (Chg.refl [] w).alloc _) HYL.out (by simp))
 go_upto_region 6 with fail
 refine wp_region_held_drew (S := fun w' => w'.cell? ⟨g, 0, none⟩ = some (.pointer (some ⟨a, 0, none⟩)) ∧ w'.cell? ⟨gx, 3, none⟩ = some (.slice Y m e)) (by kernel_rfl) ⟨y0, x3⟩ (fun hHeld => ?_)
 have CD := Lib.hid (Chg.refl [] w1).drew
 replace HW := Lib.hid (HW.out.off CD.out (by simp))
 replace HY := Lib.hid (HY.out.chg CD.out (by simp))
 replace BX := Lib.hid (CD.out.at_ BX.out (by simp))
 replace C0 := Lib.hid (C0.out.trans CD.out)
 have SZ : Hid (gx < w1.drew.heap.size) := Lib.hid (by have := GX.out; have := CD.out.size; omega)
 clear y0 y1 x0 x2 x3 CD
 generalize w1.drew = wd at *
 refine sy 0 13 rfl rfl ?_
 try simp only [Act.put, sA, s0, s1]
 refine sy 1 14 rfl rfl ?_
 try simp only [Act.put, sA, s0, s1]
 refine sy 2 15 rfl rfl ?_
 try simp only [Act.put, sA, s0, s1]
 refine sy 3 16 rfl rfl ?_
 try simp only [Act.put, sA, s0, s1]
 refine sy 4 17 rfl rfl ?_
 try simp only [Act.put, sA, s0, s1]
 refine sy 5 18 rfl rfl ?_ (hy := by (intro w hSw; (try dsimp only at hSw); (obtain ⟨q1, q2⟩ := hSw); go_simp; try with_reducible rfl))
 try simp only [Act.put, sA, s0, s1]
 refine sy 6 19 rfl rfl ?_
 try simp only [Act.put, sA, s0, s1]
 refine sy 7 20 rfl rfl ?_ (hy := by (intro w hSw; (try dsimp only at hSw); (obtain ⟨q1, q2⟩ := hSw); go_simp; try with_reducible rfl))
 try simp only [Act.put, sA, s0, s1]
 refine wpAnyH_ready (rs := [8]) (by kernel_rfl) (by simp) ?_
 refine AllReadyH.cons rfl (fun K hK => ?_) AllReadyH.nil
 replace hK := Lib.hid hK
 go_simp
 refine (sendL HW.out.sa Y m e ys HY.out HM.out).mono ?_
 rintro r w2 ⟨D', rfl, hs, hD, hC⟩
 have WA : WP w0.heap.size w2 g a b (kk + 1) { wo with sa := sendS wo.sa ys } Ar cr lr P0 c0 l0 P1 c1 l1 Q0 d0 m0 Q1 d1 m1 Aa D' Ab Db (D'.filter (fun z => decide (wd.heap.size ≤ z)) ++ F) := HW.out.sesa hC (fun z hz => by simp at hz; simp [hz]) (D'.filter (fun z => decide (wd.heap.size ≤ z))) (K' := kk + 1) (by omega) Aa D' _ hs (fun z hz => by
   rcases hD z hz with q | q
   ·exact .inl q
   ·exact .inr (by simp [hz, q])) (fun z hz => by
   simp at hz
   exact ⟨hz.2, hs.lt.2.2 z hz.1⟩) (fun z hz => .inl hz) (fun z hz => Nat.lt_of_lt_of_le (HW.out.lo (a :: blkOf Aa) (by simp) z hz).2 hC.size) (fun z hz hm => by
   simp at hz
   have := (HW.out.lo (a :: blkOf Aa) (by simp) z hm).2
   omega) C0.out.size
 have na : a ≠ gx ∧ a ≠ g := ⟨fun q => by have := LOW.out (a :: blkOf Aa) (by simp) a (by simp); omega, fun q => HW.out.pw.pick (i := 6) (j := 0) rfl rfl (by decide) a (by simp) (by simp [q])⟩
 have LA : a < gx := LOW.out (a :: blkOf Aa) (by simp) a (by simp)
 replace C0 := Lib.hid (C0.out.on hC (fun z hz => (HW.out.lo (a :: blkOf Aa) (by simp) z (by simp at hz; simp [hz])).1))
 replace HW := Lib.hid WA
 replace HY := Lib.hid (HY.out.go hC HYL.out (fun z hz => (HW.out.lo (a :: blkOf Aa) (by simp) z (by simp at hz; simp [hz])).1))
 replace BX := Lib.hid (hC.at_ BX.out (by simp; exact fun q => na.1 q.symm))
 replace SZ := Lib.hid (Nat.lt_of_lt_of_le SZ.out hC.size)
 clear hs hD hC WA hHeld
 have z1 := cell_of HW.out.hg 0
 have z2 := cell_of BX.out 3
 simp only [List.getElem?_toArray, List.getElem?_cons_succ, List.getElem?_cons_zero] at z1 z2
 refine hK.out _ _ ⟨z1, z2⟩ (fun hHeld => ?_)
 clear hK K
 try simp only [Act.put, sA, s0, s1]
 refine sy 9 22 rfl rfl ?_
 try simp only [Act.put, sA, s0, s1]
 refine wpAnyH_done (by kernel_rfl) ?_ _
 have he0 := HE.out
 clear z1 z2 hHeld
 go_upto_region 7 with fail
 clear he0
 have x3 := cell_of BX.out 3
 simp only [List.getElem?_toArray, List.getElem?_cons_succ, List.getElem?_cons_zero] at x3
 refine wp_region_held_drew (S := fun w' => w'.cell? ⟨gx, 3, none⟩ = some (.slice Y m e)) (by kernel_rfl) (by exact x3) (fun hHeld => ?_)
 clear x3
 have CD := Lib.hid (Chg.refl [] w2).drew
 replace HW := Lib.hid (HW.out.off CD.out (by simp))
 replace HY := Lib.hid (HY.out.chg CD.out (by simp))
 replace BX := Lib.hid (CD.out.at_ BX.out (by simp))
 replace C0 := Lib.hid (C0.out.trans CD.out)
 replace SZ := Lib.hid (Nat.lt_of_lt_of_le SZ.out CD.out.size)
 have GP : Hid (gx ∉ blkOf P0 ∧ g ∉ blkOf P0 ∧ gx ≠ g) := Lib.hid ⟨fun q => by have := LOW.out (blkOf P0) (by simp) gx q; omega, fun q => HW.out.pw.pick (i := 0) (j := 2) rfl rfl (by decide) g (by simp) q, by have := GX.out; omega⟩
 clear CD
 generalize w2.drew = wd at *
 refine sy 0 23 rfl rfl ?_
 try simp only [Act.put, sA, s0, s1]
 refine sy 1 24 rfl rfl ?_
 try simp only [Act.put, sA, s0, s1]
 refine sy 2 25 rfl rfl ?_
 try simp only [Act.put, sA, s0, s1]
 refine sy 3 26 rfl rfl ?_
 try simp only [Act.put, sA, s0, s1]
 refine sy 4 27 rfl rfl ?_
 try simp only [Act.put, sA, s0, s1]
 refine sy 5 28 rfl rfl ?_
 try simp only [Act.put, sA, s0, s1]
 refine sy 6 29 rfl rfl ?_
 try simp only [Act.put, sA, s0, s1]
 refine sy 8 31 rfl rfl ?_
 try simp only [Act.put, sA, s0, s1]
 refine sy 9 32 rfl rfl ?_ (hy := by (intro w hSw; (try dsimp only at hSw); have q := hSw; go_simp; try with_reducible rfl))
 try simp only [Act.put, sA, s0, s1]
 refine sy 13 36 rfl rfl ?_
 try simp only [Act.put, sA, s0, s1]
 refine sy 14 37 rfl rfl ?_
 try simp only [Act.put, sA, s0, s1]
 refine wpAnyH_ready (rs := [7, 10]) (by kernel_rfl) (by simp) ?_
 refine AllReadyH.cons rfl (fun K hK => ?_) (AllReadyH.cons rfl (fun K hK => ?_) AllReadyH.nil)
 ·skip
  replace hK := Lib.hid hK
  have z := cell_of (Chg.at_ (Chg.refl [] wd) HW.out.hg (by simp)) 3
  simp only [List.getElem?_toArray, List.getElem?_cons_succ, List.getElem?_cons_zero] at z
  go_simp
  clear z
  refine hK.out _ _ (by have z := cell_of (Chg.at_ (Chg.refl [] wd) BX.out (by simp)) 3; simpa using z) (fun hHeld => ?_)
  clear hK K
  try simp only [Act.put, sA, s0, s1]
  refine wpAnyH_ready (rs := [10]) (by kernel_rfl) (by simp) ?_
  refine AllReadyH.cons rfl (fun K hK => ?_) AllReadyH.nil
  replace hK := Lib.hid hK
  go_simp
  refine (copy_any wd Y m e ys HY.out HM.out).mono ?_
  rintro r w3 ⟨A3, c3, rfl, hO, hA, hC⟩
  have O3 := Lib.hid hO
  have N3 := Lib.hid hA
  have C3 := Lib.hid hC
  clear hO hA hC hHeld
  refine hK.out _ _ (by have z := cell_of (Chg.at_ C3.out BX.out (by simp)) 3; simpa using z) (fun hHeld => ?_)
  clear hK K
  try simp only [Act.put, sA, s0, s1]
  refine wpAnyH_ready (rs := [11]) (by kernel_rfl) (by simp) ?_
  refine AllReadyH.cons rfl (fun K hK => ?_) AllReadyH.nil
  replace hK := Lib.hid hK
  obtain ⟨w4, hw4, c4, m4⟩ := news1 w3 (.cells #[.slice A3 m c3] 33)
  have W4 := Lib.hid hw4
  have M4 : Hid (RdK lstTy w4 (some ⟨w3.heap.size, 0, none⟩) 1 [((A3, m, c3) : SlV)]) := Lib.hid (row_one m4)
  have C34 := Lib.hid c4
  have C4 := Lib.hid (C3.out.trans c4)
  clear hw4 c4 m4
  go_simp
  rw [← W4.out]
  clear hHeld W4
  refine hK.out _ _ (by have z := cell_of (Chg.at_ C4.out BX.out (by simp)) 3; simpa using z) (fun hHeld => ?_)
  clear hK K
  try simp only [Act.put, sA, s0, s1]
  refine wpAnyH_ready (rs := [12]) (by kernel_rfl) (by simp) ?_
  refine AllReadyH.cons rfl (fun K hK => ?_) AllReadyH.nil
  replace hK := Lib.hid hK
  refine step_appK (R := lstTy) rfl (.tmp 30) (.tmp 34) rfl rfl (A := P0) (B := some ⟨w3.heap.size, 0, none⟩) (n := l0.length) (m := 1) (c := c0) (d := 1) (xs := l0) (ys := [((A3, m, c3) : SlV)]) (HW.out.o0.chg C4.out (by simp)) rfl rfl M4.out (by have q := HW.out.p0.1; have q2 := HL.out; change l0.length = wo.s0.length at q; omega) ?_
  intro A5 c5 w5 o5 g5 e5
  have O5 := Lib.hid o5
  have C5 : Hid (Chg (blkOf P0) w4 w5) := Lib.hid ((Chg.refl (blkOf P0) w4).grown g5 (fun k hk => .inl (by simpa [blkOf] using hk)))
  have E5 := Lib.hid e5
  have HG5 := Lib.hid (C5.out.at_ (C4.out.at_ HW.out.hg (by simp)) GP.out.2.1)
  clear o5 g5 e5 hHeld
  refine hK.out _ _ (by have z := cell_of (C5.out.at_ (C4.out.at_ BX.out (by simp)) GP.out.1) 3; simpa using z) (fun hHeld => ?_)
  clear hK K
  try simp only [Act.put, sA, s0, s1]
  refine sy 15 38 rfl rfl ?_
  try simp only [Act.put, sA, s0, s1]
  refine wpAnyH_ready (rs := [16]) (by kernel_rfl) (by simp) ?_
  refine AllReadyH.cons rfl (fun K hK => ?_) AllReadyH.nil
  replace hK := Lib.hid hK
  have z := cell_of HG5.out 3
  have fz := free_of HG5.out 3
  simp only [List.getElem?_toArray, List.getElem?_cons_succ, List.getElem?_cons_zero] at z
  go_simp
  clear z fz hHeld
  refine hK.out _ _ (by have z := cell_of (((Chg.refl [g] w5).setCell (p := ⟨g, 3, none⟩) (.inl (by simp)) (.slice A5 (l0.length + 1) c5)).at_ (C5.out.at_ (C4.out.at_ BX.out (by simp)) GP.out.1) (by simpa using GP.out.2.2)) 3; simpa using z) (fun hHeld => ?_)
  clear hK K
  try simp only [Act.put, sA, s0, s1]
  refine wpAnyH_done (by kernel_rfl) ?_ _
  go_wp2
  go_end0
  have hg' := heap_setCell_same _ g 3 _ _ (.slice A5 (l0.length + 1) c5) HG5.out
  have cg : Chg [g] w5 (w5.setCell ⟨g, 3, none⟩ (.slice A5 (l0.length + 1) c5)) := (Chg.refl [g] w5).setCell (.inl (by simp)) _
  generalize w5.setCell ⟨g, 3, none⟩ (.slice A5 (l0.length + 1) c5) = w6 at *
  have S56 := cg.size
  have S45 := C5.out.size
  have S34 := C34.out.size
  have Sd3 := C3.out.size
  have A5N : ∀ x, A5 = some x → P0 = some x ∨ wd.heap.size ≤ x.block := fun x hx => by
   rcases E5.out with q | q
   ·exact .inl (q ▸ hx)
   ·right; rw [q] at hx; cases hx; simp only; omega
  have glt : g < wd.heap.size := lt_of_heap HW.out.hg
  have A5g : g ∉ blkOf A5 := fun hm => by
   obtain ⟨x, hx, q⟩ := of_blkOf hm
   rcases A5N x hx with q2 | q2
   ·exact GP.out.2.1 (by rw [← q]; exact mem_blkOf q2)
   ·omega
  have hc : Chg (g :: blkOf P0) wd w6 := ((C4.out.mono (S' := g :: blkOf P0) (by simp)).trans (C5.out.mono (fun z hz => .inl (List.mem_cons_of_mem _ hz)))).trans (cg.mono (fun z hz => .inl (by simp at hz; simp [hz])))
  have o6 := O5.out.chg cg (fun x hx hm => A5g (by simp at hm; rw [← hm]; exact mem_blkOf hx))
  have b6 : OwnB w6 A3 c3 ys := ((O3.out.chg C34.out (by simp)).chg C5.out (fun x hx hm => by
   obtain ⟨y, hy, q⟩ := of_blkOf hm
   have := HW.out.o0.lt y hy
   have := N3.out x hx
   omega)).chg cg (fun x hx hm => by have := N3.out x hx; simp at hm; omega)
  refine ⟨rfl, ⟨_, _, _, _, _, _, _, _, _, _, _, _, _, _, _, _, _, _, _, _, HW.out.rowP0 hc (fun z hz => List.mem_cons.1 hz) (blkOf A3) (K' := kk + 2) (by omega) A5 c5 (l0 ++ [((A3, m, c3) : SlV)]) (wo.s0 ++ [ys]) (by rw [hg']; simp) o6 (lp_snoc (HW.out.p0.chg hc (fun z hz hm => by rcases List.mem_cons.1 hm with q | q; exact HW.out.pw.pick (i := 8) (j := 0) rfl rfl (by decide) z hz (by simp [q]); exact HW.out.pw.pick (i := 8) (j := 2) rfl rfl (by decide) z hz q)) (fun z hz => List.mem_append_right _ hz) (by have := b6.reads; rwa [HY.out.len] at this) (fun y hy => List.mem_append_left _ (mem_blkOf hy))) (fun z hz => by obtain ⟨y, hy, rfl⟩ := of_blkOf hz; exact ⟨N3.out y hy, b6.lt y hy⟩) (fun z hz => by obtain ⟨y, hy, rfl⟩ := of_blkOf hz; exact (A5N y hy).imp (fun q => mem_blkOf q) id) (fun z hz => by obtain ⟨y, hy, rfl⟩ := of_blkOf hz; exact o6.lt y hy) (fun z hz hm => by obtain ⟨y, hy, q⟩ := of_blkOf hz; obtain ⟨u, hu, q2⟩ := of_blkOf hm; exact apartBK2 b6 o6 y u hy hu (q.trans q2.symm)) C0.out.size⟩, C0.out.on hc (fun z hz => ?_)⟩
  rcases List.mem_cons.1 hz with q | q
  ·exact (HW.out.lo [g] (by simp) z (by simp [q])).1
  ·exact (HW.out.lo (blkOf P0) (by simp) z q).1
 ·skip
  replace hK := Lib.hid hK
  go_simp
  refine (copy_any wd Y m e ys HY.out HM.out).mono ?_
  rintro r w3 ⟨A3, c3, rfl, hO, hA, hC⟩
  have O3 := Lib.hid hO
  have N3 := Lib.hid hA
  have C3 := Lib.hid hC
  clear hO hA hC hHeld
  refine hK.out _ _ (by have z := cell_of (Chg.at_ C3.out BX.out (by simp)) 3; simpa using z) (fun hHeld => ?_)
  clear hK K
  try simp only [Act.put, sA, s0, s1]
  refine wpAnyH_ready (rs := [7, 11]) (by kernel_rfl) (by simp) ?_
  refine AllReadyH.cons rfl (fun K hK => ?_) (AllReadyH.cons rfl (fun K hK => ?_) AllReadyH.nil)
  ·skip
   replace hK := Lib.hid hK
   have z := cell_of (Chg.at_ C3.out HW.out.hg (by simp)) 3
   simp only [List.getElem?_toArray, List.getElem?_cons_succ, List.getElem?_cons_zero] at z
   go_simp
   clear z
   refine hK.out _ _ (by have z := cell_of (Chg.at_ C3.out BX.out (by simp)) 3; simpa using z) (fun hHeld => ?_)
   clear hK K
   try simp only [Act.put, sA, s0, s1]
   refine wpAnyH_ready (rs := [11]) (by kernel_rfl) (by simp) ?_
   refine AllReadyH.cons rfl (fun K hK => ?_) AllReadyH.nil
   replace hK := Lib.hid hK
   obtain ⟨w4, hw4, c4, m4⟩ := news1 w3 (.cells #[.slice A3 m c3] 33)
   have W4 := Lib.hid hw4
   have M4 : Hid (RdK lstTy w4 (some ⟨w3.heap.size, 0, none⟩) 1 [((A3, m, c3) : SlV)]) := Lib.hid (row_one m4)
   have C34 := Lib.hid c4
   have C4 := Lib.hid (C3.out.trans c4)
   clear hw4 c4 m4
   go_simp
   rw [← W4.out]
   clear hHeld W4
   refine hK.out _ _ (by have z := cell_of (Chg.at_ C4.out BX.out (by simp)) 3; simpa using z) (fun hHeld => ?_)
   clear hK K
   try simp only [Act.put, sA, s0, s1]
   refine wpAnyH_ready (rs := [12]) (by kernel_rfl) (by simp) ?_
   refine AllReadyH.cons rfl (fun K hK => ?_) AllReadyH.nil
   replace hK := Lib.hid hK
   refine step_appK (R := lstTy) rfl (.tmp 30) (.tmp 34) rfl rfl (A := P0) (B := some ⟨w3.heap.size, 0, none⟩) (n := l0.length) (m := 1) (c := c0) (d := 1) (xs := l0) (ys := [((A3, m, c3) : SlV)]) (HW.out.o0.chg C4.out (by simp)) rfl rfl M4.out (by have q := HW.out.p0.1; have q2 := HL.out; change l0.length = wo.s0.length at q; omega) ?_
   intro A5 c5 w5 o5 g5 e5
   have O5 := Lib.hid o5
   have C5 : Hid (Chg (blkOf P0) w4 w5) := Lib.hid ((Chg.refl (blkOf P0) w4).grown g5 (fun k hk => .inl (by simpa [blkOf] using hk)))
   have E5 := Lib.hid e5
   have HG5 := Lib.hid (C5.out.at_ (C4.out.at_ HW.out.hg (by simp)) GP.out.2.1)
   clear o5 g5 e5 hHeld
   refine hK.out _ _ (by have z := cell_of (C5.out.at_ (C4.out.at_ BX.out (by simp)) GP.out.1) 3; simpa using z) (fun hHeld => ?_)
   clear hK K
   try simp only [Act.put, sA, s0, s1]
   refine sy 15 38 rfl rfl ?_
   try simp only [Act.put, sA, s0, s1]
   refine wpAnyH_ready (rs := [16]) (by kernel_rfl) (by simp) ?_
   refine AllReadyH.cons rfl (fun K hK => ?_) AllReadyH.nil
   replace hK := Lib.hid hK
   have z := cell_of HG5.out 3
   have fz := free_of HG5.out 3
   simp only [List.getElem?_toArray, List.getElem?_cons_succ, List.getElem?_cons_zero] at z
   go_simp
   clear z fz hHeld
   refine hK.out _ _ (by have z := cell_of (((Chg.refl [g] w5).setCell (p := ⟨g, 3, none⟩) (.inl (by simp)) (.slice A5 (l0.length + 1) c5)).at_ (C5.out.at_ (C4.out.at_ BX.out (by simp)) GP.out.1) (by simpa using GP.out.2.2)) 3; simpa using z) (fun hHeld => ?_)
   clear hK K
   try simp only [Act.put, sA, s0, s1]
   refine wpAnyH_done (by kernel_rfl) ?_ _
   go_wp2
   go_end0
   have hg' := heap_setCell_same _ g 3 _ _ (.slice A5 (l0.length + 1) c5) HG5.out
   have cg : Chg [g] w5 (w5.setCell ⟨g, 3, none⟩ (.slice A5 (l0.length + 1) c5)) := (Chg.refl [g] w5).setCell (.inl (by simp)) _
   generalize w5.setCell ⟨g, 3, none⟩ (.slice A5 (l0.length + 1) c5) = w6 at *
   have S56 := cg.size
   have S45 := C5.out.size
   have S34 := C34.out.size
   have Sd3 := C3.out.size
   have A5N : ∀ x, A5 = some x → P0 = some x ∨ wd.heap.size ≤ x.block := fun x hx => by
    rcases E5.out with q | q
    ·exact .inl (q ▸ hx)
    ·right; rw [q] at hx; cases hx; simp only; omega
   have glt : g < wd.heap.size := lt_of_heap HW.out.hg
   have A5g : g ∉ blkOf A5 := fun hm => by
    obtain ⟨x, hx, q⟩ := of_blkOf hm
    rcases A5N x hx with q2 | q2
    ·exact GP.out.2.1 (by rw [← q]; exact mem_blkOf q2)
    ·omega
   have hc : Chg (g :: blkOf P0) wd w6 := ((C4.out.mono (S' := g :: blkOf P0) (by simp)).trans (C5.out.mono (fun z hz => .inl (List.mem_cons_of_mem _ hz)))).trans (cg.mono (fun z hz => .inl (by simp at hz; simp [hz])))
   have o6 := O5.out.chg cg (fun x hx hm => A5g (by simp at hm; rw [← hm]; exact mem_blkOf hx))
   have b6 : OwnB w6 A3 c3 ys := ((O3.out.chg C34.out (by simp)).chg C5.out (fun x hx hm => by
    obtain ⟨y, hy, q⟩ := of_blkOf hm
    have := HW.out.o0.lt y hy
    have := N3.out x hx
    omega)).chg cg (fun x hx hm => by have := N3.out x hx; simp at hm; omega)
   refine ⟨rfl, ⟨_, _, _, _, _, _, _, _, _, _, _, _, _, _, _, _, _, _, _, _, HW.out.rowP0 hc (fun z hz => List.mem_cons.1 hz) (blkOf A3) (K' := kk + 2) (by omega) A5 c5 (l0 ++ [((A3, m, c3) : SlV)]) (wo.s0 ++ [ys]) (by rw [hg']; simp) o6 (lp_snoc (HW.out.p0.chg hc (fun z hz hm => by rcases List.mem_cons.1 hm with q | q; exact HW.out.pw.pick (i := 8) (j := 0) rfl rfl (by decide) z hz (by simp [q]); exact HW.out.pw.pick (i := 8) (j := 2) rfl rfl (by decide) z hz q)) (fun z hz => List.mem_append_right _ hz) (by have := b6.reads; rwa [HY.out.len] at this) (fun y hy => List.mem_append_left _ (mem_blkOf hy))) (fun z hz => by obtain ⟨y, hy, rfl⟩ := of_blkOf hz; exact ⟨N3.out y hy, b6.lt y hy⟩) (fun z hz => by obtain ⟨y, hy, rfl⟩ := of_blkOf hz; exact (A5N y hy).imp (fun q => mem_blkOf q) id) (fun z hz => by obtain ⟨y, hy, rfl⟩ := of_blkOf hz; exact o6.lt y hy) (fun z hz hm => by obtain ⟨y, hy, q⟩ := of_blkOf hz; obtain ⟨u, hu, q2⟩ := of_blkOf hm; exact apartBK2 b6 o6 y u hy hu (q.trans q2.symm)) C0.out.size⟩, C0.out.on hc (fun z hz => ?_)⟩
   rcases List.mem_cons.1 hz with q | q
   ·exact (HW.out.lo [g] (by simp) z (by simp [q])).1
   ·exact (HW.out.lo (blkOf P0) (by simp) z q).1
  ·skip
   replace hK := Lib.hid hK
   obtain ⟨w4, hw4, c4, m4⟩ := news1 w3 (.cells #[.slice A3 m c3] 33)
   have W4 := Lib.hid hw4
   have M4 : Hid (RdK lstTy w4 (some ⟨w3.heap.size, 0, none⟩) 1 [((A3, m, c3) : SlV)]) := Lib.hid (row_one m4)
   have C34 := Lib.hid c4
   have C4 := Lib.hid (C3.out.trans c4)
   clear hw4 c4 m4
   go_simp
   rw [← W4.out]
   clear hHeld W4
   refine hK.out _ _ (by have z := cell_of (Chg.at_ C4.out BX.out (by simp)) 3; simpa using z) (fun hHeld => ?_)
   clear hK K
   try simp only [Act.put, sA, s0, s1]
   refine wpAnyH_ready (rs := [7]) (by kernel_rfl) (by simp) ?_
   refine AllReadyH.cons rfl (fun K hK => ?_) AllReadyH.nil
   replace hK := Lib.hid hK
   have z := cell_of (Chg.at_ C4.out HW.out.hg (by simp)) 3
   simp only [List.getElem?_toArray, List.getElem?_cons_succ, List.getElem?_cons_zero] at z
   go_simp
   clear z
   refine hK.out _ _ (by have z := cell_of (Chg.at_ C4.out BX.out (by simp)) 3; simpa using z) (fun hHeld => ?_)
   clear hK K
   try simp only [Act.put, sA, s0, s1]
   refine wpAnyH_ready (rs := [12]) (by kernel_rfl) (by simp) ?_
   refine AllReadyH.cons rfl (fun K hK => ?_) AllReadyH.nil
   replace hK := Lib.hid hK
   refine step_appK (R := lstTy) rfl (.tmp 30) (.tmp 34) rfl rfl (A := P0) (B := some ⟨w3.heap.size, 0, none⟩) (n := l0.length) (m := 1) (c := c0) (d := 1) (xs := l0) (ys := [((A3, m, c3) : SlV)]) (HW.out.o0.chg C4.out (by simp)) rfl rfl M4.out (by have q := HW.out.p0.1; have q2 := HL.out; change l0.length = wo.s0.length at q; omega) ?_
   intro A5 c5 w5 o5 g5 e5
   have O5 := Lib.hid o5
   have C5 : Hid (Chg (blkOf P0) w4 w5) := Lib.hid ((Chg.refl (blkOf P0) w4).grown g5 (fun k hk => .inl (by simpa [blkOf] using hk)))
   have E5 := Lib.hid e5
   have HG5 := Lib.hid (C5.out.at_ (C4.out.at_ HW.out.hg (by simp)) GP.out.2.1)
   clear o5 g5 e5 hHeld
   refine hK.out _ _ (by have z := cell_of (C5.out.at_ (C4.out.at_ BX.out (by simp)) GP.out.1) 3; simpa using z) (fun hHeld => ?_)
   clear hK K
   try simp only [Act.put, sA, s0, s1]
   refine sy 15 38 rfl rfl ?_
   try simp only [Act.put, sA, s0, s1]
   refine wpAnyH_ready (rs := [16]) (by kernel_rfl) (by simp) ?_
   refine AllReadyH.cons rfl (fun K hK => ?_) AllReadyH.nil
   replace hK := Lib.hid hK
   have z := cell_of HG5.out 3
   have fz := free_of HG5.out 3
   simp only [List.getElem?_toArray, List.getElem?_cons_succ, List.getElem?_cons_zero] at z
   go_simp
   clear z fz hHeld
   refine hK.out _ _ (by have z := cell_of (((Chg.refl [g] w5).setCell (p := ⟨g, 3, none⟩) (.inl (by simp)) (.slice A5 (l0.length + 1) c5)).at_ (C5.out.at_ (C4.out.at_ BX.out (by simp)) GP.out.1) (by simpa using GP.out.2.2)) 3; simpa using z) (fun hHeld => ?_)
   clear hK K
   try simp only [Act.put, sA, s0, s1]
   refine wpAnyH_done (by kernel_rfl) ?_ _
   go_wp2
   go_end0
   have hg' := heap_setCell_same _ g 3 _ _ (.slice A5 (l0.length + 1) c5) HG5.out
   have cg : Chg [g] w5 (w5.setCell ⟨g, 3, none⟩ (.slice A5 (l0.length + 1) c5)) := (Chg.refl [g] w5).setCell (.inl (by simp)) _
   generalize w5.setCell ⟨g, 3, none⟩ (.slice A5 (l0.length + 1) c5) = w6 at *
   have S56 := cg.size
   have S45 := C5.out.size
   have S34 := C34.out.size
   have Sd3 := C3.out.size
   have A5N : ∀ x, A5 = some x → P0 = some x ∨ wd.heap.size ≤ x.block := fun x hx => by
    rcases E5.out with q | q
    ·exact .inl (q ▸ hx)
    ·right; rw [q] at hx; cases hx; simp only; omega
   have glt : g < wd.heap.size := lt_of_heap HW.out.hg
   have A5g : g ∉ blkOf A5 := fun hm => by
    obtain ⟨x, hx, q⟩ := of_blkOf hm
    rcases A5N x hx with q2 | q2
    ·exact GP.out.2.1 (by rw [← q]; exact mem_blkOf q2)
    ·omega
   have hc : Chg (g :: blkOf P0) wd w6 := ((C4.out.mono (S' := g :: blkOf P0) (by simp)).trans (C5.out.mono (fun z hz => .inl (List.mem_cons_of_mem _ hz)))).trans (cg.mono (fun z hz => .inl (by simp at hz; simp [hz])))
   have o6 := O5.out.chg cg (fun x hx hm => A5g (by simp at hm; rw [← hm]; exact mem_blkOf hx))
   have b6 : OwnB w6 A3 c3 ys := ((O3.out.chg C34.out (by simp)).chg C5.out (fun x hx hm => by
    obtain ⟨y, hy, q⟩ := of_blkOf hm
    have := HW.out.o0.lt y hy
    have := N3.out x hx
    omega)).chg cg (fun x hx hm => by have := N3.out x hx; simp at hm; omega)
   refine ⟨rfl, ⟨_, _, _, _, _, _, _, _, _, _, _, _, _, _, _, _, _, _, _, _, HW.out.rowP0 hc (fun z hz => List.mem_cons.1 hz) (blkOf A3) (K' := kk + 2) (by omega) A5 c5 (l0 ++ [((A3, m, c3) : SlV)]) (wo.s0 ++ [ys]) (by rw [hg']; simp) o6 (lp_snoc (HW.out.p0.chg hc (fun z hz hm => by rcases List.mem_cons.1 hm with q | q; exact HW.out.pw.pick (i := 8) (j := 0) rfl rfl (by decide) z hz (by simp [q]); exact HW.out.pw.pick (i := 8) (j := 2) rfl rfl (by decide) z hz q)) (fun z hz => List.mem_append_right _ hz) (by have := b6.reads; rwa [HY.out.len] at this) (fun y hy => List.mem_append_left _ (mem_blkOf hy))) (fun z hz => by obtain ⟨y, hy, rfl⟩ := of_blkOf hz; exact ⟨N3.out y hy, b6.lt y hy⟩) (fun z hz => by obtain ⟨y, hy, rfl⟩ := of_blkOf hz; exact (A5N y hy).imp (fun q => mem_blkOf q) id) (fun z hz => by obtain ⟨y, hy, rfl⟩ := of_blkOf hz; exact o6.lt y hy) (fun z hz hm => by obtain ⟨y, hy, q⟩ := of_blkOf hz; obtain ⟨u, hu, q2⟩ := of_blkOf hm; exact apartBK2 b6 o6 y u hy hu (q.trans q2.symm)) C0.out.size⟩, C0.out.on hc (fun z hz => ?_)⟩
   rcases List.mem_cons.1 hz with q | q
   ·exact (HW.out.lo [g] (by simp) z (by simp [q])).1
   ·exact (HW.out.lo (blkOf P0) (by simp) z q).1

set_option maxHeartbeats 8000000 in
set_option maxRecDepth 100000 in
theorem turn_send_no_a (w0 w : World) (g a b kk : Nat) (wo : WoT) (hW : WL w0.heap.size w g a b kk wo) (hc0 : Chg [] w0 w) (hK : kk ≤ 400000) (wh : Int) (Y : Option Addr) (m e : Nat) (ys : List UInt8) (hy : Bs w Y m ys) (hyl : ys = [] ∨ ∀ x, Y = some x → x.block < w0.heap.size) (hm : m ≤ 140737488351232) (hl : wo.s0.length ≤ 1000000) (he : ¬ sendE wo.sa ys = 0) : Calls Try.prog 22 #[.pointer (some ⟨g, 0, none⟩), .agg #[.int .i64 0, .int .i64 wh, .bool false, .slice Y m e]] w fun r w' => r = .returned (.tuple #[]) ∧ WL w0.heap.size w' g a b (kk + 2) { wo with sa := sendS wo.sa ys } ∧ Chg [] w0 w' := by
 have HE := Lib.hid he
 have HL := Lib.hid hl
 have HY := Lib.hid hy
 have HYL := Lib.hid hyl
 have HM := Lib.hid hm
 clear he hl hy hyl hm
 obtain ⟨Ar, cr, lr, P0, c0, l0, P1, c1, l1, Q0, d0, m0, Q1, d1, m1, Aa, Da, Ab, Db, F, h⟩ := hW
 obtain ⟨w1, hw1, c1, b1⟩ := news1 w (.cells #[.int .i64 0, .int .i64 wh, .bool false, .slice Y m e] 58)
 have W1 := Lib.hid hw1
 have HW := Lib.hid (h.off c1 (by simp))
 have C0 := Lib.hid (hc0.trans c1)
 have BX := Lib.hid b1
 have GX := Lib.hid (show w0.heap.size ≤ w.heap.size ∧ g < w.heap.size ∧ w.heap.size < w1.heap.size from ⟨hc0.size, lt_of_heap h.hg, lt_of_heap b1⟩)
 have LOW := Lib.hid (fun l hl z hz => (h.lo l hl z hz).2)
 have HKK := Lib.hid hK
 have y0 := cell_of HW.out.hg 0
 have y1 := cell_of HW.out.hg 1
 simp only [List.getElem?_toArray, List.getElem?_cons_succ, List.getElem?_cons_zero] at y0 y1
 have x0 := cell_of b1 0
 have x2 := cell_of b1 2
 have x3 := cell_of b1 3
 simp only [List.getElem?_toArray, List.getElem?_cons_succ, List.getElem?_cons_zero] at x0 x2 x3
 clear hw1 c1 b1 h hc0 hK
 go_enter Try.func22, Try.ntmps22
 go_upto_region 1 with fail
 rw [← W1.out]
 generalize hgx : w.heap.size = gx at *
 replace HY := Lib.hid (HY.out.go (w0 := w0) (w' := w1) (S := []) (by rw [W1.out]; exact (Chg.refl [] w).alloc _) HYL.out (by simp))
 go_upto_region 6 with fail
 refine wp_region_held_drew (S := fun w' => w'.cell? ⟨g, 0, none⟩ = some (.pointer (some ⟨a, 0, none⟩)) ∧ w'.cell? ⟨gx, 3, none⟩ = some (.slice Y m e)) (by kernel_rfl) ⟨y0, x3⟩ (fun hHeld => ?_)
 have CD := Lib.hid (Chg.refl [] w1).drew
 replace HW := Lib.hid (HW.out.off CD.out (by simp))
 replace HY := Lib.hid (HY.out.chg CD.out (by simp))
 replace BX := Lib.hid (CD.out.at_ BX.out (by simp))
 replace C0 := Lib.hid (C0.out.trans CD.out)
 have SZ : Hid (gx < w1.drew.heap.size) := Lib.hid (by have := GX.out; have := CD.out.size; omega)
 clear y0 y1 x0 x2 x3 CD
 generalize w1.drew = wd at *
 refine sy 0 13 rfl rfl ?_
 try simp only [Act.put, sA, s0, s1]
 refine sy 1 14 rfl rfl ?_
 try simp only [Act.put, sA, s0, s1]
 refine sy 2 15 rfl rfl ?_
 try simp only [Act.put, sA, s0, s1]
 refine sy 3 16 rfl rfl ?_
 try simp only [Act.put, sA, s0, s1]
 refine sy 4 17 rfl rfl ?_
 try simp only [Act.put, sA, s0, s1]
 refine sy 5 18 rfl rfl ?_ (hy := by (intro w hSw; (try dsimp only at hSw); (obtain ⟨q1, q2⟩ := hSw); go_simp; try with_reducible rfl))
 try simp only [Act.put, sA, s0, s1]
 refine sy 6 19 rfl rfl ?_
 try simp only [Act.put, sA, s0, s1]
 refine sy 7 20 rfl rfl ?_ (hy := by (intro w hSw; (try dsimp only at hSw); (obtain ⟨q1, q2⟩ := hSw); go_simp; try with_reducible rfl))
 try simp only [Act.put, sA, s0, s1]
 refine wpAnyH_ready (rs := [8]) (by kernel_rfl) (by simp) ?_
 refine AllReadyH.cons rfl (fun K hK => ?_) AllReadyH.nil
 replace hK := Lib.hid hK
 go_simp
 refine (sendL HW.out.sa Y m e ys HY.out HM.out).mono ?_
 rintro r w2 ⟨D', rfl, hs, hD, hC⟩
 have WA : WP w0.heap.size w2 g a b (kk + 1) { wo with sa := sendS wo.sa ys } Ar cr lr P0 c0 l0 P1 c1 l1 Q0 d0 m0 Q1 d1 m1 Aa D' Ab Db (D'.filter (fun z => decide (wd.heap.size ≤ z)) ++ F) := HW.out.sesa hC (fun z hz => by simp at hz; simp [hz]) (D'.filter (fun z => decide (wd.heap.size ≤ z))) (K' := kk + 1) (by omega) Aa D' _ hs (fun z hz => by
   rcases hD z hz with q | q
   ·exact .inl q
   ·exact .inr (by simp [hz, q])) (fun z hz => by
   simp at hz
   exact ⟨hz.2, hs.lt.2.2 z hz.1⟩) (fun z hz => .inl hz) (fun z hz => Nat.lt_of_lt_of_le (HW.out.lo (a :: blkOf Aa) (by simp) z hz).2 hC.size) (fun z hz hm => by
   simp at hz
   have := (HW.out.lo (a :: blkOf Aa) (by simp) z hm).2
   omega) C0.out.size
 have na : a ≠ gx ∧ a ≠ g := ⟨fun q => by have := LOW.out (a :: blkOf Aa) (by simp) a (by simp); omega, fun q => HW.out.pw.pick (i := 6) (j := 0) rfl rfl (by decide) a (by simp) (by simp [q])⟩
 have LA : a < gx := LOW.out (a :: blkOf Aa) (by simp) a (by simp)
 replace C0 := Lib.hid (C0.out.on hC (fun z hz => (HW.out.lo (a :: blkOf Aa) (by simp) z (by simp at hz; simp [hz])).1))
 replace HW := Lib.hid WA
 replace HY := Lib.hid (HY.out.go hC HYL.out (fun z hz => (HW.out.lo (a :: blkOf Aa) (by simp) z (by simp at hz; simp [hz])).1))
 replace BX := Lib.hid (hC.at_ BX.out (by simp; exact fun q => na.1 q.symm))
 replace SZ := Lib.hid (Nat.lt_of_lt_of_le SZ.out hC.size)
 clear hs hD hC WA hHeld
 have z1 := cell_of HW.out.hg 0
 have z2 := cell_of BX.out 3
 simp only [List.getElem?_toArray, List.getElem?_cons_succ, List.getElem?_cons_zero] at z1 z2
 refine hK.out _ _ ⟨z1, z2⟩ (fun hHeld => ?_)
 clear hK K
 try simp only [Act.put, sA, s0, s1]
 refine sy 9 22 rfl rfl ?_
 try simp only [Act.put, sA, s0, s1]
 refine wpAnyH_done (by kernel_rfl) ?_ _
 have hne := HE.out
 clear z1 z2 hHeld
 go_wp2
 go_end0
 exact ⟨rfl, ⟨_, _, _, _, _, _, _, _, _, _, _, _, _, _, _, _, _, _, _, _, HW.out.moreK (by omega)⟩, C0.out⟩

set_option maxHeartbeats 8000000 in
set_option maxRecDepth 100000 in
theorem turn_send_ok_b (w0 w : World) (g a b kk : Nat) (wo : WoT) (hW : WL w0.heap.size w g a b kk wo) (hc0 : Chg [] w0 w) (hK : kk ≤ 400000) (wh : Int) (Y : Option Addr) (m e : Nat) (ys : List UInt8) (hy : Bs w Y m ys) (hyl : ys = [] ∨ ∀ x, Y = some x → x.block < w0.heap.size) (hm : m ≤ 140737488351232) (hl : wo.s1.length ≤ 1000000) (he :  sendE wo.sb ys = 0) : Calls Try.prog 22 #[.pointer (some ⟨g, 0, none⟩), .agg #[.int .i64 0, .int .i64 wh, .bool true, .slice Y m e]] w fun r w' => r = .returned (.tuple #[]) ∧ WL w0.heap.size w' g a b (kk + 2) { wo with sb := sendS wo.sb ys, s1 := wo.s1 ++ [ys] } ∧ Chg [] w0 w' := by
 have HE := Lib.hid he
 have HL := Lib.hid hl
 have HY := Lib.hid hy
 have HYL := Lib.hid hyl
 have HM := Lib.hid hm
 clear he hl hy hyl hm
 obtain ⟨Ar, cr, lr, P0, c0, l0, P1, c1, l1, Q0, d0, m0, Q1, d1, m1, Aa, Da, Ab, Db, F, h⟩ := hW
 obtain ⟨w1, hw1, c1, b1⟩ := news1 w (.cells #[.int .i64 0, .int .i64 wh, .bool true, .slice Y m e] 58)
 have W1 := Lib.hid hw1
 have HW := Lib.hid (h.off c1 (by simp))
 have C0 := Lib.hid (hc0.trans c1)
 have BX := Lib.hid b1
 have GX := Lib.hid (show w0.heap.size ≤ w.heap.size ∧ g < w.heap.size ∧ w.heap.size < w1.heap.size from ⟨hc0.size, lt_of_heap h.hg, lt_of_heap b1⟩)
 have LOW := Lib.hid (fun l hl z hz => (h.lo l hl z hz).2)
 have HKK := Lib.hid hK
 have y0 := cell_of HW.out.hg 0
 have y1 := cell_of HW.out.hg 1
 simp only [List.getElem?_toArray, List.getElem?_cons_succ, List.getElem?_cons_zero] at y0 y1
 have x0 := cell_of b1 0
 have x2 := cell_of b1 2
 have x3 := cell_of b1 3
 simp only [List.getElem?_toArray, List.getElem?_cons_succ, List.getElem?_cons_zero] at x0 x2 x3
 clear hw1 c1 b1 h hc0 hK
 go_enter Try.func22, Try.ntmps22
 go_upto_region 1 with fail
 rw [← W1.out]
 generalize hgx : w.heap.size = gx at *
 replace HY := Lib.hid (HY.out.go (w0 := w0) (w' := w1) (S := []) (by rw [W1.out]; exact (Chg.refl [] w).alloc _) HYL.out (by simp))
 go_upto_region 6 with fail
 refine wp_region_held_drew (S := fun w' => w'.cell? ⟨g, 1, none⟩ = some (.pointer (some ⟨b, 0, none⟩)) ∧ w'.cell? ⟨gx, 3, none⟩ = some (.slice Y m e)) (by kernel_rfl) ⟨y1, x3⟩ (fun hHeld => ?_)
 have CD := Lib.hid (Chg.refl [] w1).drew
 replace HW := Lib.hid (HW.out.off CD.out (by simp))
 replace HY := Lib.hid (HY.out.chg CD.out (by simp))
 replace BX := Lib.hid (CD.out.at_ BX.out (by simp))
 replace C0 := Lib.hid (C0.out.trans CD.out)
 have SZ : Hid (gx < w1.drew.heap.size) := Lib.hid (by have := GX.out; have := CD.out.size; omega)
 clear y0 y1 x0 x2 x3 CD
 generalize w1.drew = wd at *
 refine sy 0 13 rfl rfl ?_
 try simp only [Act.put, sA, s0, s1]
 refine sy 1 14 rfl rfl ?_
 try simp only [Act.put, sA, s0, s1]
 refine sy 2 15 rfl rfl ?_
 try simp only [Act.put, sA, s0, s1]
 refine sy 3 16 rfl rfl ?_
 try simp only [Act.put, sA, s0, s1]
 refine sy 4 17 rfl rfl ?_
 try simp only [Act.put, sA, s0, s1]
 refine sy 5 18 rfl rfl ?_ (hy := by (intro w hSw; (try dsimp only at hSw); (obtain ⟨q1, q2⟩ := hSw); go_simp; try with_reducible rfl))
 try simp only [Act.put, sA, s0, s1]
 refine sy 6 19 rfl rfl ?_
 try simp only [Act.put, sA, s0, s1]
 refine sy 7 20 rfl rfl ?_ (hy := by (intro w hSw; (try dsimp only at hSw); (obtain ⟨q1, q2⟩ := hSw); go_simp; try with_reducible rfl))
 try simp only [Act.put, sA, s0, s1]
 refine wpAnyH_ready (rs := [8]) (by kernel_rfl) (by simp) ?_
 refine AllReadyH.cons rfl (fun K hK => ?_) AllReadyH.nil
 replace hK := Lib.hid hK
 go_simp
 refine (sendL HW.out.sb Y m e ys HY.out HM.out).mono ?_
 rintro r w2 ⟨D', rfl, hs, hD, hC⟩
 have WA : WP w0.heap.size w2 g a b (kk + 1) { wo with sb := sendS wo.sb ys } Ar cr lr P0 c0 l0 P1 c1 l1 Q0 d0 m0 Q1 d1 m1 Aa Da Ab D' (D'.filter (fun z => decide (wd.heap.size ≤ z)) ++ F) := HW.out.sesb hC (fun z hz => by simp at hz; simp [hz]) (D'.filter (fun z => decide (wd.heap.size ≤ z))) (K' := kk + 1) (by omega) Ab D' _ hs (fun z hz => by
   rcases hD z hz with q | q
   ·exact .inl q
   ·exact .inr (by simp [hz, q])) (fun z hz => by
   simp at hz
   exact ⟨hz.2, hs.lt.2.2 z hz.1⟩) (fun z hz => .inl hz) (fun z hz => Nat.lt_of_lt_of_le (HW.out.lo (b :: blkOf Ab) (by simp) z hz).2 hC.size) (fun z hz hm => by
   simp at hz
   have := (HW.out.lo (b :: blkOf Ab) (by simp) z hm).2
   omega) C0.out.size
 have na : b ≠ gx ∧ b ≠ g := ⟨fun q => by have := LOW.out (b :: blkOf Ab) (by simp) b (by simp); omega, fun q => HW.out.pw.pick (i := 7) (j := 0) rfl rfl (by decide) b (by simp) (by simp [q])⟩
 have LA : b < gx := LOW.out (b :: blkOf Ab) (by simp) b (by simp)
 replace C0 := Lib.hid (C0.out.on hC (fun z hz => (HW.out.lo (b :: blkOf Ab) (by simp) z (by simp at hz; simp [hz])).1))
 replace HW := Lib.hid WA
 replace HY := Lib.hid (HY.out.go hC HYL.out (fun z hz => (HW.out.lo (b :: blkOf Ab) (by simp) z (by simp at hz; simp [hz])).1))
 replace BX := Lib.hid (hC.at_ BX.out (by simp; exact fun q => na.1 q.symm))
 replace SZ := Lib.hid (Nat.lt_of_lt_of_le SZ.out hC.size)
 clear hs hD hC WA hHeld
 have z1 := cell_of HW.out.hg 1
 have z2 := cell_of BX.out 3
 simp only [List.getElem?_toArray, List.getElem?_cons_succ, List.getElem?_cons_zero] at z1 z2
 refine hK.out _ _ ⟨z1, z2⟩ (fun hHeld => ?_)
 clear hK K
 try simp only [Act.put, sA, s0, s1]
 refine sy 9 22 rfl rfl ?_
 try simp only [Act.put, sA, s0, s1]
 refine wpAnyH_done (by kernel_rfl) ?_ _
 have he0 := HE.out
 clear z1 z2 hHeld
 go_upto_region 7 with fail
 clear he0
 have x3 := cell_of BX.out 3
 simp only [List.getElem?_toArray, List.getElem?_cons_succ, List.getElem?_cons_zero] at x3
 refine wp_region_held_drew (S := fun w' => w'.cell? ⟨gx, 3, none⟩ = some (.slice Y m e)) (by kernel_rfl) (by exact x3) (fun hHeld => ?_)
 clear x3
 have CD := Lib.hid (Chg.refl [] w2).drew
 replace HW := Lib.hid (HW.out.off CD.out (by simp))
 replace HY := Lib.hid (HY.out.chg CD.out (by simp))
 replace BX := Lib.hid (CD.out.at_ BX.out (by simp))
 replace C0 := Lib.hid (C0.out.trans CD.out)
 replace SZ := Lib.hid (Nat.lt_of_lt_of_le SZ.out CD.out.size)
 have GP : Hid (gx ∉ blkOf P1 ∧ g ∉ blkOf P1 ∧ gx ≠ g) := Lib.hid ⟨fun q => by have := LOW.out (blkOf P1) (by simp) gx q; omega, fun q => HW.out.pw.pick (i := 0) (j := 3) rfl rfl (by decide) g (by simp) q, by have := GX.out; omega⟩
 clear CD
 generalize w2.drew = wd at *
 refine sy 0 23 rfl rfl ?_
 try simp only [Act.put, sA, s0, s1]
 refine sy 1 24 rfl rfl ?_
 try simp only [Act.put, sA, s0, s1]
 refine sy 2 25 rfl rfl ?_
 try simp only [Act.put, sA, s0, s1]
 refine sy 3 26 rfl rfl ?_
 try simp only [Act.put, sA, s0, s1]
 refine sy 4 27 rfl rfl ?_
 try simp only [Act.put, sA, s0, s1]
 refine sy 5 28 rfl rfl ?_
 try simp only [Act.put, sA, s0, s1]
 refine sy 6 29 rfl rfl ?_
 try simp only [Act.put, sA, s0, s1]
 refine sy 8 31 rfl rfl ?_
 try simp only [Act.put, sA, s0, s1]
 refine sy 9 32 rfl rfl ?_ (hy := by (intro w hSw; (try dsimp only at hSw); have q := hSw; go_simp; try with_reducible rfl))
 try simp only [Act.put, sA, s0, s1]
 refine sy 13 36 rfl rfl ?_
 try simp only [Act.put, sA, s0, s1]
 refine sy 14 37 rfl rfl ?_
 try simp only [Act.put, sA, s0, s1]
 refine wpAnyH_ready (rs := [7, 10]) (by kernel_rfl) (by simp) ?_
 refine AllReadyH.cons rfl (fun K hK => ?_) (AllReadyH.cons rfl (fun K hK => ?_) AllReadyH.nil)
 ·skip
  replace hK := Lib.hid hK
  have z := cell_of (Chg.at_ (Chg.refl [] wd) HW.out.hg (by simp)) 4
  simp only [List.getElem?_toArray, List.getElem?_cons_succ, List.getElem?_cons_zero] at z
  go_simp
  clear z
  refine hK.out _ _ (by have z := cell_of (Chg.at_ (Chg.refl [] wd) BX.out (by simp)) 3; simpa using z) (fun hHeld => ?_)
  clear hK K
  try simp only [Act.put, sA, s0, s1]
  refine wpAnyH_ready (rs := [10]) (by kernel_rfl) (by simp) ?_
  refine AllReadyH.cons rfl (fun K hK => ?_) AllReadyH.nil
  replace hK := Lib.hid hK
  go_simp
  refine (copy_any wd Y m e ys HY.out HM.out).mono ?_
  rintro r w3 ⟨A3, c3, rfl, hO, hA, hC⟩
  have O3 := Lib.hid hO
  have N3 := Lib.hid hA
  have C3 := Lib.hid hC
  clear hO hA hC hHeld
  refine hK.out _ _ (by have z := cell_of (Chg.at_ C3.out BX.out (by simp)) 3; simpa using z) (fun hHeld => ?_)
  clear hK K
  try simp only [Act.put, sA, s0, s1]
  refine wpAnyH_ready (rs := [11]) (by kernel_rfl) (by simp) ?_
  refine AllReadyH.cons rfl (fun K hK => ?_) AllReadyH.nil
  replace hK := Lib.hid hK
  obtain ⟨w4, hw4, c4, m4⟩ := news1 w3 (.cells #[.slice A3 m c3] 33)
  have W4 := Lib.hid hw4
  have M4 : Hid (RdK lstTy w4 (some ⟨w3.heap.size, 0, none⟩) 1 [((A3, m, c3) : SlV)]) := Lib.hid (row_one m4)
  have C34 := Lib.hid c4
  have C4 := Lib.hid (C3.out.trans c4)
  clear hw4 c4 m4
  go_simp
  rw [← W4.out]
  clear hHeld W4
  refine hK.out _ _ (by have z := cell_of (Chg.at_ C4.out BX.out (by simp)) 3; simpa using z) (fun hHeld => ?_)
  clear hK K
  try simp only [Act.put, sA, s0, s1]
  refine wpAnyH_ready (rs := [12]) (by kernel_rfl) (by simp) ?_
  refine AllReadyH.cons rfl (fun K hK => ?_) AllReadyH.nil
  replace hK := Lib.hid hK
  refine step_appK (R := lstTy) rfl (.tmp 30) (.tmp 34) rfl rfl (A := P1) (B := some ⟨w3.heap.size, 0, none⟩) (n := l1.length) (m := 1) (c := c1) (d := 1) (xs := l1) (ys := [((A3, m, c3) : SlV)]) (HW.out.o1.chg C4.out (by simp)) rfl rfl M4.out (by have q := HW.out.p1.1; have q2 := HL.out; change l1.length = wo.s1.length at q; omega) ?_
  intro A5 c5 w5 o5 g5 e5
  have O5 := Lib.hid o5
  have C5 : Hid (Chg (blkOf P1) w4 w5) := Lib.hid ((Chg.refl (blkOf P1) w4).grown g5 (fun k hk => .inl (by simpa [blkOf] using hk)))
  have E5 := Lib.hid e5
  have HG5 := Lib.hid (C5.out.at_ (C4.out.at_ HW.out.hg (by simp)) GP.out.2.1)
  clear o5 g5 e5 hHeld
  refine hK.out _ _ (by have z := cell_of (C5.out.at_ (C4.out.at_ BX.out (by simp)) GP.out.1) 3; simpa using z) (fun hHeld => ?_)
  clear hK K
  try simp only [Act.put, sA, s0, s1]
  refine sy 15 38 rfl rfl ?_
  try simp only [Act.put, sA, s0, s1]
  refine wpAnyH_ready (rs := [16]) (by kernel_rfl) (by simp) ?_
  refine AllReadyH.cons rfl (fun K hK => ?_) AllReadyH.nil
  replace hK := Lib.hid hK
  have z := cell_of HG5.out 4
  have fz := free_of HG5.out 4
  simp only [List.getElem?_toArray, List.getElem?_cons_succ, List.getElem?_cons_zero] at z
  go_simp
  clear z fz hHeld
  refine hK.out _ _ (by have z := cell_of (((Chg.refl [g] w5).setCell (p := ⟨g, 4, none⟩) (.inl (by simp)) (.slice A5 (l1.length + 1) c5)).at_ (C5.out.at_ (C4.out.at_ BX.out (by simp)) GP.out.1) (by simpa using GP.out.2.2)) 3; simpa using z) (fun hHeld => ?_)
  clear hK K
  try simp only [Act.put, sA, s0, s1]
  refine wpAnyH_done (by kernel_rfl) ?_ _
  go_wp2
  go_end0
  have hg' := heap_setCell_same _ g 4 _ _ (.slice A5 (l1.length + 1) c5) HG5.out
  have cg : Chg [g] w5 (w5.setCell ⟨g, 4, none⟩ (.slice A5 (l1.length + 1) c5)) := (Chg.refl [g] w5).setCell (.inl (by simp)) _
  generalize w5.setCell ⟨g, 4, none⟩ (.slice A5 (l1.length + 1) c5) = w6 at *
  have S56 := cg.size
  have S45 := C5.out.size
  have S34 := C34.out.size
  have Sd3 := C3.out.size
  have A5N : ∀ x, A5 = some x → P1 = some x ∨ wd.heap.size ≤ x.block := fun x hx => by
   rcases E5.out with q | q
   ·exact .inl (q ▸ hx)
   ·right; rw [q] at hx; cases hx; simp only; omega
  have glt : g < wd.heap.size := lt_of_heap HW.out.hg
  have A5g : g ∉ blkOf A5 := fun hm => by
   obtain ⟨x, hx, q⟩ := of_blkOf hm
   rcases A5N x hx with q2 | q2
   ·exact GP.out.2.1 (by rw [← q]; exact mem_blkOf q2)
   ·omega
  have hc : Chg (g :: blkOf P1) wd w6 := ((C4.out.mono (S' := g :: blkOf P1) (by simp)).trans (C5.out.mono (fun z hz => .inl (List.mem_cons_of_mem _ hz)))).trans (cg.mono (fun z hz => .inl (by simp at hz; simp [hz])))
  have o6 := O5.out.chg cg (fun x hx hm => A5g (by simp at hm; rw [← hm]; exact mem_blkOf hx))
  have b6 : OwnB w6 A3 c3 ys := ((O3.out.chg C34.out (by simp)).chg C5.out (fun x hx hm => by
   obtain ⟨y, hy, q⟩ := of_blkOf hm
   have := HW.out.o1.lt y hy
   have := N3.out x hx
   omega)).chg cg (fun x hx hm => by have := N3.out x hx; simp at hm; omega)
  refine ⟨rfl, ⟨_, _, _, _, _, _, _, _, _, _, _, _, _, _, _, _, _, _, _, _, HW.out.rowP1 hc (fun z hz => List.mem_cons.1 hz) (blkOf A3) (K' := kk + 2) (by omega) A5 c5 (l1 ++ [((A3, m, c3) : SlV)]) (wo.s1 ++ [ys]) (by rw [hg']; simp) o6 (lp_snoc (HW.out.p1.chg hc (fun z hz hm => by rcases List.mem_cons.1 hm with q | q; exact HW.out.pw.pick (i := 8) (j := 0) rfl rfl (by decide) z hz (by simp [q]); exact HW.out.pw.pick (i := 8) (j := 3) rfl rfl (by decide) z hz q)) (fun z hz => List.mem_append_right _ hz) (by have := b6.reads; rwa [HY.out.len] at this) (fun y hy => List.mem_append_left _ (mem_blkOf hy))) (fun z hz => by obtain ⟨y, hy, rfl⟩ := of_blkOf hz; exact ⟨N3.out y hy, b6.lt y hy⟩) (fun z hz => by obtain ⟨y, hy, rfl⟩ := of_blkOf hz; exact (A5N y hy).imp (fun q => mem_blkOf q) id) (fun z hz => by obtain ⟨y, hy, rfl⟩ := of_blkOf hz; exact o6.lt y hy) (fun z hz hm => by obtain ⟨y, hy, q⟩ := of_blkOf hz; obtain ⟨u, hu, q2⟩ := of_blkOf hm; exact apartBK2 b6 o6 y u hy hu (q.trans q2.symm)) C0.out.size⟩, C0.out.on hc (fun z hz => ?_)⟩
  rcases List.mem_cons.1 hz with q | q
  ·exact (HW.out.lo [g] (by simp) z (by simp [q])).1
  ·exact (HW.out.lo (blkOf P1) (by simp) z q).1
 ·skip
  replace hK := Lib.hid hK
  go_simp
  refine (copy_any wd Y m e ys HY.out HM.out).mono ?_
  rintro r w3 ⟨A3, c3, rfl, hO, hA, hC⟩
  have O3 := Lib.hid hO
  have N3 := Lib.hid hA
  have C3 := Lib.hid hC
  clear hO hA hC hHeld
  refine hK.out _ _ (by have z := cell_of (Chg.at_ C3.out BX.out (by simp)) 3; simpa using z) (fun hHeld => ?_)
  clear hK K
  try simp only [Act.put, sA, s0, s1]
  refine wpAnyH_ready (rs := [7, 11]) (by kernel_rfl) (by simp) ?_
  refine AllReadyH.cons rfl (fun K hK => ?_) (AllReadyH.cons rfl (fun K hK => ?_) AllReadyH.nil)
  ·skip
   replace hK := Lib.hid hK
   have z := cell_of (Chg.at_ C3.out HW.out.hg (by simp)) 4
   simp only [List.getElem?_toArray, List.getElem?_cons_succ, List.getElem?_cons_zero] at z
   go_simp
   clear z
   refine hK.out _ _ (by have z := cell_of (Chg.at_ C3.out BX.out (by simp)) 3; simpa using z) (fun hHeld => ?_)
   clear hK K
   try simp only [Act.put, sA, s0, s1]
   refine wpAnyH_ready (rs := [11]) (by kernel_rfl) (by simp) ?_
   refine AllReadyH.cons rfl (fun K hK => ?_) AllReadyH.nil
   replace hK := Lib.hid hK
   obtain ⟨w4, hw4, c4, m4⟩ := news1 w3 (.cells #[.slice A3 m c3] 33)
   have W4 := Lib.hid hw4
   have M4 : Hid (RdK lstTy w4 (some ⟨w3.heap.size, 0, none⟩) 1 [((A3, m, c3) : SlV)]) := Lib.hid (row_one m4)
   have C34 := Lib.hid c4
   have C4 := Lib.hid (C3.out.trans c4)
   clear hw4 c4 m4
   go_simp
   rw [← W4.out]
   clear hHeld W4
   refine hK.out _ _ (by have z := cell_of (Chg.at_ C4.out BX.out (by simp)) 3; simpa using z) (fun hHeld => ?_)
   clear hK K
   try simp only [Act.put, sA, s0, s1]
   refine wpAnyH_ready (rs := [12]) (by kernel_rfl) (by simp) ?_
   refine AllReadyH.cons rfl (fun K hK => ?_) AllReadyH.nil
   replace hK := Lib.hid hK
   refine step_appK (R := lstTy) rfl (.tmp 30) (.tmp 34) rfl rfl (A := P1) (B := some ⟨w3.heap.size, 0, none⟩) (n := l1.length) (m := 1) (c := c1) (d := 1) (xs := l1) (ys := [((A3, m, c3) : SlV)]) (HW.out.o1.chg C4.out (by simp)) rfl rfl M4.out (by have q := HW.out.p1.1; have q2 := HL.out; change l1.length = wo.s1.length at q; omega) ?_
   intro A5 c5 w5 o5 g5 e5
   have O5 := Lib.hid o5
   have C5 : Hid (Chg (blkOf P1) w4 w5) := Lib.hid ((Chg.refl (blkOf P1) w4).grown g5 (fun k hk => .inl (by simpa [blkOf] using hk)))
   have E5 := Lib.hid e5
   have HG5 := Lib.hid (C5.out.at_ (C4.out.at_ HW.out.hg (by simp)) GP.out.2.1)
   clear o5 g5 e5 hHeld
   refine hK.out _ _ (by have z := cell_of (C5.out.at_ (C4.out.at_ BX.out (by simp)) GP.out.1) 3; simpa using z) (fun hHeld => ?_)
   clear hK K
   try simp only [Act.put, sA, s0, s1]
   refine sy 15 38 rfl rfl ?_
   try simp only [Act.put, sA, s0, s1]
   refine wpAnyH_ready (rs := [16]) (by kernel_rfl) (by simp) ?_
   refine AllReadyH.cons rfl (fun K hK => ?_) AllReadyH.nil
   replace hK := Lib.hid hK
   have z := cell_of HG5.out 4
   have fz := free_of HG5.out 4
   simp only [List.getElem?_toArray, List.getElem?_cons_succ, List.getElem?_cons_zero] at z
   go_simp
   clear z fz hHeld
   refine hK.out _ _ (by have z := cell_of (((Chg.refl [g] w5).setCell (p := ⟨g, 4, none⟩) (.inl (by simp)) (.slice A5 (l1.length + 1) c5)).at_ (C5.out.at_ (C4.out.at_ BX.out (by simp)) GP.out.1) (by simpa using GP.out.2.2)) 3; simpa using z) (fun hHeld => ?_)
   clear hK K
   try simp only [Act.put, sA, s0, s1]
   refine wpAnyH_done (by kernel_rfl) ?_ _
   go_wp2
   go_end0
   have hg' := heap_setCell_same _ g 4 _ _ (.slice A5 (l1.length + 1) c5) HG5.out
   have cg : Chg [g] w5 (w5.setCell ⟨g, 4, none⟩ (.slice A5 (l1.length + 1) c5)) := (Chg.refl [g] w5).setCell (.inl (by simp)) _
   generalize w5.setCell ⟨g, 4, none⟩ (.slice A5 (l1.length + 1) c5) = w6 at *
   have S56 := cg.size
   have S45 := C5.out.size
   have S34 := C34.out.size
   have Sd3 := C3.out.size
   have A5N : ∀ x, A5 = some x → P1 = some x ∨ wd.heap.size ≤ x.block := fun x hx => by
    rcases E5.out with q | q
    ·exact .inl (q ▸ hx)
    ·right; rw [q] at hx; cases hx; simp only; omega
   have glt : g < wd.heap.size := lt_of_heap HW.out.hg
   have A5g : g ∉ blkOf A5 := fun hm => by
    obtain ⟨x, hx, q⟩ := of_blkOf hm
    rcases A5N x hx with q2 | q2
    ·exact GP.out.2.1 (by rw [← q]; exact mem_blkOf q2)
    ·omega
   have hc : Chg (g :: blkOf P1) wd w6 := ((C4.out.mono (S' := g :: blkOf P1) (by simp)).trans (C5.out.mono (fun z hz => .inl (List.mem_cons_of_mem _ hz)))).trans (cg.mono (fun z hz => .inl (by simp at hz; simp [hz])))
   have o6 := O5.out.chg cg (fun x hx hm => A5g (by simp at hm; rw [← hm]; exact mem_blkOf hx))
   have b6 : OwnB w6 A3 c3 ys := ((O3.out.chg C34.out (by simp)).chg C5.out (fun x hx hm => by
    obtain ⟨y, hy, q⟩ := of_blkOf hm
    have := HW.out.o1.lt y hy
    have := N3.out x hx
    omega)).chg cg (fun x hx hm => by have := N3.out x hx; simp at hm; omega)
   refine ⟨rfl, ⟨_, _, _, _, _, _, _, _, _, _, _, _, _, _, _, _, _, _, _, _, HW.out.rowP1 hc (fun z hz => List.mem_cons.1 hz) (blkOf A3) (K' := kk + 2) (by omega) A5 c5 (l1 ++ [((A3, m, c3) : SlV)]) (wo.s1 ++ [ys]) (by rw [hg']; simp) o6 (lp_snoc (HW.out.p1.chg hc (fun z hz hm => by rcases List.mem_cons.1 hm with q | q; exact HW.out.pw.pick (i := 8) (j := 0) rfl rfl (by decide) z hz (by simp [q]); exact HW.out.pw.pick (i := 8) (j := 3) rfl rfl (by decide) z hz q)) (fun z hz => List.mem_append_right _ hz) (by have := b6.reads; rwa [HY.out.len] at this) (fun y hy => List.mem_append_left _ (mem_blkOf hy))) (fun z hz => by obtain ⟨y, hy, rfl⟩ := of_blkOf hz; exact ⟨N3.out y hy, b6.lt y hy⟩) (fun z hz => by obtain ⟨y, hy, rfl⟩ := of_blkOf hz; exact (A5N y hy).imp (fun q => mem_blkOf q) id) (fun z hz => by obtain ⟨y, hy, rfl⟩ := of_blkOf hz; exact o6.lt y hy) (fun z hz hm => by obtain ⟨y, hy, q⟩ := of_blkOf hz; obtain ⟨u, hu, q2⟩ := of_blkOf hm; exact apartBK2 b6 o6 y u hy hu (q.trans q2.symm)) C0.out.size⟩, C0.out.on hc (fun z hz => ?_)⟩
   rcases List.mem_cons.1 hz with q | q
   ·exact (HW.out.lo [g] (by simp) z (by simp [q])).1
   ·exact (HW.out.lo (blkOf P1) (by simp) z q).1
  ·skip
   replace hK := Lib.hid hK
   obtain ⟨w4, hw4, c4, m4⟩ := news1 w3 (.cells #[.slice A3 m c3] 33)
   have W4 := Lib.hid hw4
   have M4 : Hid (RdK lstTy w4 (some ⟨w3.heap.size, 0, none⟩) 1 [((A3, m, c3) : SlV)]) := Lib.hid (row_one m4)
   have C34 := Lib.hid c4
   have C4 := Lib.hid (C3.out.trans c4)
   clear hw4 c4 m4
   go_simp
   rw [← W4.out]
   clear hHeld W4
   refine hK.out _ _ (by have z := cell_of (Chg.at_ C4.out BX.out (by simp)) 3; simpa using z) (fun hHeld => ?_)
   clear hK K
   try simp only [Act.put, sA, s0, s1]
   refine wpAnyH_ready (rs := [7]) (by kernel_rfl) (by simp) ?_
   refine AllReadyH.cons rfl (fun K hK => ?_) AllReadyH.nil
   replace hK := Lib.hid hK
   have z := cell_of (Chg.at_ C4.out HW.out.hg (by simp)) 4
   simp only [List.getElem?_toArray, List.getElem?_cons_succ, List.getElem?_cons_zero] at z
   go_simp
   clear z
   refine hK.out _ _ (by have z := cell_of (Chg.at_ C4.out BX.out (by simp)) 3; simpa using z) (fun hHeld => ?_)
   clear hK K
   try simp only [Act.put, sA, s0, s1]
   refine wpAnyH_ready (rs := [12]) (by kernel_rfl) (by simp) ?_
   refine AllReadyH.cons rfl (fun K hK => ?_) AllReadyH.nil
   replace hK := Lib.hid hK
   refine step_appK (R := lstTy) rfl (.tmp 30) (.tmp 34) rfl rfl (A := P1) (B := some ⟨w3.heap.size, 0, none⟩) (n := l1.length) (m := 1) (c := c1) (d := 1) (xs := l1) (ys := [((A3, m, c3) : SlV)]) (HW.out.o1.chg C4.out (by simp)) rfl rfl M4.out (by have q := HW.out.p1.1; have q2 := HL.out; change l1.length = wo.s1.length at q; omega) ?_
   intro A5 c5 w5 o5 g5 e5
   have O5 := Lib.hid o5
   have C5 : Hid (Chg (blkOf P1) w4 w5) := Lib.hid ((Chg.refl (blkOf P1) w4).grown g5 (fun k hk => .inl (by simpa [blkOf] using hk)))
   have E5 := Lib.hid e5
   have HG5 := Lib.hid (C5.out.at_ (C4.out.at_ HW.out.hg (by simp)) GP.out.2.1)
   clear o5 g5 e5 hHeld
   refine hK.out _ _ (by have z := cell_of (C5.out.at_ (C4.out.at_ BX.out (by simp)) GP.out.1) 3; simpa using z) (fun hHeld => ?_)
   clear hK K
   try simp only [Act.put, sA, s0, s1]
   refine sy 15 38 rfl rfl ?_
   try simp only [Act.put, sA, s0, s1]
   refine wpAnyH_ready (rs := [16]) (by kernel_rfl) (by simp) ?_
   refine AllReadyH.cons rfl (fun K hK => ?_) AllReadyH.nil
   replace hK := Lib.hid hK
   have z := cell_of HG5.out 4
   have fz := free_of HG5.out 4
   simp only [List.getElem?_toArray, List.getElem?_cons_succ, List.getElem?_cons_zero] at z
   go_simp
   clear z fz hHeld
   refine hK.out _ _ (by have z := cell_of (((Chg.refl [g] w5).setCell (p := ⟨g, 4, none⟩) (.inl (by simp)) (.slice A5 (l1.length + 1) c5)).at_ (C5.out.at_ (C4.out.at_ BX.out (by simp)) GP.out.1) (by simpa using GP.out.2.2)) 3; simpa using z) (fun hHeld => ?_)
   clear hK K
   try simp only [Act.put, sA, s0, s1]
   refine wpAnyH_done (by kernel_rfl) ?_ _
   go_wp2
   go_end0
   have hg' := heap_setCell_same _ g 4 _ _ (.slice A5 (l1.length + 1) c5) HG5.out
   have cg : Chg [g] w5 (w5.setCell ⟨g, 4, none⟩ (.slice A5 (l1.length + 1) c5)) := (Chg.refl [g] w5).setCell (.inl (by simp)) _
   generalize w5.setCell ⟨g, 4, none⟩ (.slice A5 (l1.length + 1) c5) = w6 at *
   have S56 := cg.size
   have S45 := C5.out.size
   have S34 := C34.out.size
   have Sd3 := C3.out.size
   have A5N : ∀ x, A5 = some x → P1 = some x ∨ wd.heap.size ≤ x.block := fun x hx => by
    rcases E5.out with q | q
    ·exact .inl (q ▸ hx)
    ·right; rw [q] at hx; cases hx; simp only; omega
   have glt : g < wd.heap.size := lt_of_heap HW.out.hg
   have A5g : g ∉ blkOf A5 := fun hm => by
    obtain ⟨x, hx, q⟩ := of_blkOf hm
    rcases A5N x hx with q2 | q2
    ·exact GP.out.2.1 (by rw [← q]; exact mem_blkOf q2)
    ·omega
   have hc : Chg (g :: blkOf P1) wd w6 := ((C4.out.mono (S' := g :: blkOf P1) (by simp)).trans (C5.out.mono (fun z hz => .inl (List.mem_cons_of_mem _ hz)))).trans (cg.mono (fun z hz => .inl (by simp at hz; simp [hz])))
   have o6 := O5.out.chg cg (fun x hx hm => A5g (by simp at hm; rw [← hm]; exact mem_blkOf hx))
   have b6 : OwnB w6 A3 c3 ys := ((O3.out.chg C34.out (by simp)).chg C5.out (fun x hx hm => by
    obtain ⟨y, hy, q⟩ := of_blkOf hm
    have := HW.out.o1.lt y hy
    have := N3.out x hx
    omega)).chg cg (fun x hx hm => by have := N3.out x hx; simp at hm; omega)
   refine ⟨rfl, ⟨_, _, _, _, _, _, _, _, _, _, _, _, _, _, _, _, _, _, _, _, HW.out.rowP1 hc (fun z hz => List.mem_cons.1 hz) (blkOf A3) (K' := kk + 2) (by omega) A5 c5 (l1 ++ [((A3, m, c3) : SlV)]) (wo.s1 ++ [ys]) (by rw [hg']; simp) o6 (lp_snoc (HW.out.p1.chg hc (fun z hz hm => by rcases List.mem_cons.1 hm with q | q; exact HW.out.pw.pick (i := 8) (j := 0) rfl rfl (by decide) z hz (by simp [q]); exact HW.out.pw.pick (i := 8) (j := 3) rfl rfl (by decide) z hz q)) (fun z hz => List.mem_append_right _ hz) (by have := b6.reads; rwa [HY.out.len] at this) (fun y hy => List.mem_append_left _ (mem_blkOf hy))) (fun z hz => by obtain ⟨y, hy, rfl⟩ := of_blkOf hz; exact ⟨N3.out y hy, b6.lt y hy⟩) (fun z hz => by obtain ⟨y, hy, rfl⟩ := of_blkOf hz; exact (A5N y hy).imp (fun q => mem_blkOf q) id) (fun z hz => by obtain ⟨y, hy, rfl⟩ := of_blkOf hz; exact o6.lt y hy) (fun z hz hm => by obtain ⟨y, hy, q⟩ := of_blkOf hz; obtain ⟨u, hu, q2⟩ := of_blkOf hm; exact apartBK2 b6 o6 y u hy hu (q.trans q2.symm)) C0.out.size⟩, C0.out.on hc (fun z hz => ?_)⟩
   rcases List.mem_cons.1 hz with q | q
   ·exact (HW.out.lo [g] (by simp) z (by simp [q])).1
   ·exact (HW.out.lo (blkOf P1) (by simp) z q).1

set_option maxHeartbeats 8000000 in
set_option maxRecDepth 100000 in
theorem turn_send_no_b (w0 w : World) (g a b kk : Nat) (wo : WoT) (hW : WL w0.heap.size w g a b kk wo) (hc0 : Chg [] w0 w) (hK : kk ≤ 400000) (wh : Int) (Y : Option Addr) (m e : Nat) (ys : List UInt8) (hy : Bs w Y m ys) (hyl : ys = [] ∨ ∀ x, Y = some x → x.block < w0.heap.size) (hm : m ≤ 140737488351232) (hl : wo.s1.length ≤ 1000000) (he : ¬ sendE wo.sb ys = 0) : Calls Try.prog 22 #[.pointer (some ⟨g, 0, none⟩), .agg #[.int .i64 0, .int .i64 wh, .bool true, .slice Y m e]] w fun r w' => r = .returned (.tuple #[]) ∧ WL w0.heap.size w' g a b (kk + 2) { wo with sb := sendS wo.sb ys } ∧ Chg [] w0 w' := by
 have HE := Lib.hid he
 have HL := Lib.hid hl
 have HY := Lib.hid hy
 have HYL := Lib.hid hyl
 have HM := Lib.hid hm
 clear he hl hy hyl hm
 obtain ⟨Ar, cr, lr, P0, c0, l0, P1, c1, l1, Q0, d0, m0, Q1, d1, m1, Aa, Da, Ab, Db, F, h⟩ := hW
 obtain ⟨w1, hw1, c1, b1⟩ := news1 w (.cells #[.int .i64 0, .int .i64 wh, .bool true, .slice Y m e] 58)
 have W1 := Lib.hid hw1
 have HW := Lib.hid (h.off c1 (by simp))
 have C0 := Lib.hid (hc0.trans c1)
 have BX := Lib.hid b1
 have GX := Lib.hid (show w0.heap.size ≤ w.heap.size ∧ g < w.heap.size ∧ w.heap.size < w1.heap.size from ⟨hc0.size, lt_of_heap h.hg, lt_of_heap b1⟩)
 have LOW := Lib.hid (fun l hl z hz => (h.lo l hl z hz).2)
 have HKK := Lib.hid hK
 have y0 := cell_of HW.out.hg 0
 have y1 := cell_of HW.out.hg 1
 simp only [List.getElem?_toArray, List.getElem?_cons_succ, List.getElem?_cons_zero] at y0 y1
 have x0 := cell_of b1 0
 have x2 := cell_of b1 2
 have x3 := cell_of b1 3
 simp only [List.getElem?_toArray, List.getElem?_cons_succ, List.getElem?_cons_zero] at x0 x2 x3
 clear hw1 c1 b1 h hc0 hK
 go_enter Try.func22, Try.ntmps22
 go_upto_region 1 with fail
 rw [← W1.out]
 generalize hgx : w.heap.size = gx at *
 replace HY := Lib.hid (HY.out.go (w0 := w0) (w' := w1) (S := []) (by rw [W1.out]; exact (Chg.refl [] w).alloc _) HYL.out (by simp))
 go_upto_region 6 with fail
 refine wp_region_held_drew (S := fun w' => w'.cell? ⟨g, 1, none⟩ = some (.pointer (some ⟨b, 0, none⟩)) ∧ w'.cell? ⟨gx, 3, none⟩ = some (.slice Y m e)) (by kernel_rfl) ⟨y1, x3⟩ (fun hHeld => ?_)
 have CD := Lib.hid (Chg.refl [] w1).drew
 replace HW := Lib.hid (HW.out.off CD.out (by simp))
 replace HY := Lib.hid (HY.out.chg CD.out (by simp))
 replace BX := Lib.hid (CD.out.at_ BX.out (by simp))
 replace C0 := Lib.hid (C0.out.trans CD.out)
 have SZ : Hid (gx < w1.drew.heap.size) := Lib.hid (by have := GX.out; have := CD.out.size; omega)
 clear y0 y1 x0 x2 x3 CD
 generalize w1.drew = wd at *
 refine sy 0 13 rfl rfl ?_
 try simp only [Act.put, sA, s0, s1]
 refine sy 1 14 rfl rfl ?_
 try simp only [Act.put, sA, s0, s1]
 refine sy 2 15 rfl rfl ?_
 try simp only [Act.put, sA, s0, s1]
 refine sy 3 16 rfl rfl ?_
 try simp only [Act.put, sA, s0, s1]
 refine sy 4 17 rfl rfl ?_
 try simp only [Act.put, sA, s0, s1]
 refine sy 5 18 rfl rfl ?_ (hy := by (intro w hSw; (try dsimp only at hSw); (obtain ⟨q1, q2⟩ := hSw); go_simp; try with_reducible rfl))
 try simp only [Act.put, sA, s0, s1]
 refine sy 6 19 rfl rfl ?_
 try simp only [Act.put, sA, s0, s1]
 refine sy 7 20 rfl rfl ?_ (hy := by (intro w hSw; (try dsimp only at hSw); (obtain ⟨q1, q2⟩ := hSw); go_simp; try with_reducible rfl))
 try simp only [Act.put, sA, s0, s1]
 refine wpAnyH_ready (rs := [8]) (by kernel_rfl) (by simp) ?_
 refine AllReadyH.cons rfl (fun K hK => ?_) AllReadyH.nil
 replace hK := Lib.hid hK
 go_simp
 refine (sendL HW.out.sb Y m e ys HY.out HM.out).mono ?_
 rintro r w2 ⟨D', rfl, hs, hD, hC⟩
 have WA : WP w0.heap.size w2 g a b (kk + 1) { wo with sb := sendS wo.sb ys } Ar cr lr P0 c0 l0 P1 c1 l1 Q0 d0 m0 Q1 d1 m1 Aa Da Ab D' (D'.filter (fun z => decide (wd.heap.size ≤ z)) ++ F) := HW.out.sesb hC (fun z hz => by simp at hz; simp [hz]) (D'.filter (fun z => decide (wd.heap.size ≤ z))) (K' := kk + 1) (by omega) Ab D' _ hs (fun z hz => by
   rcases hD z hz with q | q
   ·exact .inl q
   ·exact .inr (by simp [hz, q])) (fun z hz => by
   simp at hz
   exact ⟨hz.2, hs.lt.2.2 z hz.1⟩) (fun z hz => .inl hz) (fun z hz => Nat.lt_of_lt_of_le (HW.out.lo (b :: blkOf Ab) (by simp) z hz).2 hC.size) (fun z hz hm => by
   simp at hz
   have := (HW.out.lo (b :: blkOf Ab) (by simp) z hm).2
   omega) C0.out.size
 have na : b ≠ gx ∧ b ≠ g := ⟨fun q => by have := LOW.out (b :: blkOf Ab) (by simp) b (by simp); omega, fun q => HW.out.pw.pick (i := 7) (j := 0) rfl rfl (by decide) b (by simp) (by simp [q])⟩
 have LA : b < gx := LOW.out (b :: blkOf Ab) (by simp) b (by simp)
 replace C0 := Lib.hid (C0.out.on hC (fun z hz => (HW.out.lo (b :: blkOf Ab) (by simp) z (by simp at hz; simp [hz])).1))
 replace HW := Lib.hid WA
 replace HY := Lib.hid (HY.out.go hC HYL.out (fun z hz => (HW.out.lo (b :: blkOf Ab) (by simp) z (by simp at hz; simp [hz])).1))
 replace BX := Lib.hid (hC.at_ BX.out (by simp; exact fun q => na.1 q.symm))
 replace SZ := Lib.hid (Nat.lt_of_lt_of_le SZ.out hC.size)
 clear hs hD hC WA hHeld
 have z1 := cell_of HW.out.hg 1
 have z2 := cell_of BX.out 3
 simp only [List.getElem?_toArray, List.getElem?_cons_succ, List.getElem?_cons_zero] at z1 z2
 refine hK.out _ _ ⟨z1, z2⟩ (fun hHeld => ?_)
 clear hK K
 try simp only [Act.put, sA, s0, s1]
 refine sy 9 22 rfl rfl ?_
 try simp only [Act.put, sA, s0, s1]
 refine wpAnyH_done (by kernel_rfl) ?_ _
 have hne := HE.out
 clear z1 z2 hHeld
 go_wp2
 go_end0
 exact ⟨rfl, ⟨_, _, _, _, _, _, _, _, _, _, _, _, _, _, _, _, _, _, _, _, HW.out.moreK (by omega)⟩, C0.out⟩
end
end Go.Proofs.Ytmblalcigbghfaa
