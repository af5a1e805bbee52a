/- An act of both. An act of both. -/
import Derived.Test.YtmblalcigbghfaaSgq
namespace Go.Proofs.Ytmblalcigbghfaa
section
open Go.RowKit Go.Lib
set_option linter.unusedSimpArgs false
set_option linter.unusedVariables false


set_option maxHeartbeats 8000000 in
set_option maxRecDepth 100000 in
theorem does_send (w0 w : World) (b c K : Nat) (st : SesT) (hB : Both w0 w b c K st) (hK : K ≤ 800000) (f t m a : Int) (Y : Option Addr) (n e : Nat) (ys : List UInt8) (hy : Bs w Y n ys) (hY : ys = [] ∨ ∀ x, Y = some x → x.block < w0.heap.size) (hn : n ≤ 140737488351232) : Calls Try.prog 11 #[.pointer (some ⟨b, 0, none⟩), .pointer (some ⟨c, 0, none⟩), .agg #[.int .i64 0, .int .i64 f, .int .i64 t, .int .i64 m, .int .i64 a, .slice Y n e]] w fun r w' => r = .returned (.bool true) ∧ ∃ st', Both w0 w' b c (K + 2) st' := by
  obtain ⟨A, D, L, hs, hd, hsep, hc0⟩ := hB
  obtain ⟨w1, hw1, c1, b1⟩ := news1 w (.cells #[.int .i64 0, .int .i64 f, .int .i64 t, .int .i64 m, .int .i64 a, .slice Y n e] 37)
  have W1 := Lib.hid hw1
  have HS := Lib.hid (hs.chg c1 (by simp) (by simp) (by simp))
  have HDc := Lib.hid (hd.chg c1 (by simp))
  have HYY := Lib.hid (hy.chg c1 (by simp))
  have SP := Lib.hid (sepX (X' := [w.heap.size]) hsep (fun z hz => .inr (by simp at hz; subst hz; exact ⟨hs.lts, hd.lts.2⟩)))
  have C0 := Lib.hid (hc0.trans c1)
  have B0 := Lib.hid b1
  have G0 := Lib.hid (show w0.heap.size ≤ w.heap.size ∧ w.heap.size < w1.heap.size from ⟨hc0.size, lt_of_heap b1⟩)
  have HKK := Lib.hid hK
  have HNN := Lib.hid hn
  have HYB := Lib.hid hY
  have y5 := cell_of b1 5
  simp only [List.getElem?_toArray, List.getElem?_cons_succ, List.getElem?_cons_zero] at y5
  clear hw1 c1 b1 hs hd hy hsep hc0 hK hn hY
  go_enter Try.func11, Try.ntmps11
  go_upto_region 1 with fail
  rw [← W1.out]
  generalize hg0 : w.heap.size = g0 at *
  go_wp2_with fail
  refine (lent_any w1 Y n e ys HYY.out HNN.out).mono ?_
  rintro r w2 ⟨g, rfl, hL, hg, hC⟩
  have G1 := Lib.hid (show w1.heap.size ≤ g ∧ g < w2.heap.size from ⟨hg, by obtain ⟨fu, h1, _⟩ := hL; exact lt_of_heap h1⟩)
  have SP2 := Lib.hid (sepX (X' := [g0, g]) SP.out (fun z hz => by
    simp at hz
    rcases hz with rfl | rfl
    · exact .inl (by simp)
    · exact .inr ⟨fun y hy => by have := HS.out.lts y hy; omega, fun y hy => by have := HDc.out.lts.2 y hy; omega⟩))
  replace HS := Lib.hid (HS.out.chg hC (by simp) (by simp) (by simp))
  replace HDc := Lib.hid (HDc.out.chg hC (by simp))
  replace HYY := Lib.hid (HYY.out.chg hC (by simp))
  replace C0 := Lib.hid (C0.out.trans hC)
  replace B0 := Lib.hid (hC.at_ B0.out (by simp))
  have LT := Lib.hid hL
  have GX : Hid (∀ z ∈ [g0, g], w0.heap.size ≤ z ∧ z < w2.heap.size) := Lib.hid (fun z hz => by
    have := G0.out; have := G1.out; have := hC.size
    simp at hz
    rcases hz with rfl | rfl <;> omega)
  clear hL hg hC SP y5 W1
  have y0 := cell_of B0.out 0
  have y5 := cell_of B0.out 5
  simp only [List.getElem?_toArray, List.getElem?_cons_succ, List.getElem?_cons_zero] at y0 y5
  go_upto_region 5 with fail
  refine wp_region_held_drew (S := fun w' => w'.cell? ⟨g0, 5, none⟩ = some (.slice Y n e)) (by kernel_rfl) (by exact y5) (fun hHeld => ?_)
  have CD := Lib.hid (Chg.refl [] w2).drew
  have SZ : Hid (w2.heap.size = w2.drew.heap.size) := Lib.hid rfl
  replace HS := Lib.hid (HS.out.chg CD.out (by simp) (by simp) (by simp))
  replace HDc := Lib.hid (HDc.out.chg CD.out (by simp))
  replace HYY := Lib.hid (HYY.out.chg CD.out (by simp))
  replace B0 := Lib.hid (CD.out.at_ B0.out (by simp))
  replace LT := Lib.hid (LT.out.chg CD.out (by simp))
  replace C0 := Lib.hid (C0.out.trans CD.out)
  clear y0 y5 CD
  generalize w2.drew = wd at *
  refine sy 0 21 rfl rfl ?_
  try simp only [Act.put, sA, s0, s1]
  refine sy 1 22 rfl rfl ?_
  try simp only [Act.put, sA, s0, s1]
  refine sy 3 24 rfl rfl ?_
  try simp only [Act.put, sA, s0, s1]
  refine sy 4 25 rfl rfl ?_
  try simp only [Act.put, sA, s0, s1]
  refine sy 5 26 rfl rfl ?_
  try simp only [Act.put, sA, s0, s1]
  refine sy 6 27 rfl rfl ?_ (hy := by (intro w hSw; (try dsimp only at hSw); have q := hSw; go_simp; try with_reducible rfl))
  try simp only [Act.put, sA, s0, s1]
  refine wpAnyH_ready (rs := [2]) (by kernel_rfl) (by simp) ?_
  refine AllReadyH.cons rfl (fun K hK => ?_) AllReadyH.nil
  replace hK := Lib.hid hK
  go_simp
  refine (sendL HS.out (some ⟨g, 0, none⟩) n (n + 3) ys (by have := LT.out.reads; rwa [HYY.out.len] at this) HNN.out).mono ?_
  rintro r w3 ⟨D', rfl, hs, hD, hC⟩
  have nb : ∀ z ∈ [b], w0.heap.size ≤ z ∧ z ∉ L ∧ z ∉ [g0, g] := fun z hz => SP2.out.1 z (by simp at hz; simp [hz])
  have SP3 := Lib.hid (sep1 SP2.out (A' := A) (D' := D') (m := wd.heap.size) HDc.out.lts.2 (fun z hz => by have := (GX.out z hz).2; have := SZ.out; omega) C0.out.size (fun x hx => .inl hx) hD)
  replace HS := Lib.hid hs
  replace HDc := Lib.hid (HDc.out.chg hC (fun z hz hm => (nb z hm).2.1 hz))
  replace HYY := Lib.hid (HYY.out.go hC HYB.out (fun z hz => (nb z hz).1))
  replace B0 := Lib.hid (hC.at_ B0.out (fun hm => (nb _ hm).2.2 (by simp)))
  replace LT := Lib.hid (LT.out.chg hC (fun hm => (nb _ hm).2.2 (by simp)))
  replace C0 := Lib.hid (C0.out.on hC (fun z hz => (nb z hz).1))
  have SZ3 := Lib.hid (Nat.le_trans (Nat.le_of_eq SZ.out) hC.size)
  clear hs hC nb hD hHeld
  have hh := cell_of B0.out 5
  simp only [List.getElem?_toArray, List.getElem?_cons_succ, List.getElem?_cons_zero] at hh
  refine hK.out _ _ hh (fun hHeld => ?_)
  clear hK K
  try simp only [Act.put, sA, s0, s1]
  refine wpAnyH_ready (rs := [7]) (by kernel_rfl) (by simp) ?_
  refine AllReadyH.cons rfl (fun K hK => ?_) AllReadyH.nil
  replace hK := Lib.hid hK
  go_simp
  refine (dsendL HDc.out Y n e ys HYY.out HNN.out).mono ?_
  rintro r w4 ⟨L', rfl, hd, hL, hC⟩
  have SP4 := Lib.hid (sep2 SP3.out (m := w3.heap.size) HS.out.lts (fun z hz => by have := (GX.out z hz).2; have := SZ3.out; omega) C0.out.size hL)
  replace HS := Lib.hid (HS.out.off hC (fun z hz => (SP3.out.1 z hz).2.1))
  replace HDc := Lib.hid hd
  replace HYY := Lib.hid (HYY.out.go hC HYB.out (fun z hz => (SP3.out.2 z hz).1))
  replace B0 := Lib.hid (hC.at_ B0.out (fun hm => (SP3.out.2 _ hm).2 (by simp)))
  replace LT := Lib.hid (LT.out.chg hC (fun hm => (SP3.out.2 _ hm).2 (by simp)))
  replace C0 := Lib.hid (C0.out.on hC (fun z hz => (SP3.out.2 z hz).1))
  clear hd hC hL hHeld hh
  have hh := cell_of B0.out 5
  simp only [List.getElem?_toArray, List.getElem?_cons_succ, List.getElem?_cons_zero] at hh
  refine hK.out _ _ hh (fun hHeld => ?_)
  clear hK K
  try simp only [Act.put, sA, s0, s1]
  refine sy 8 29 rfl rfl ?_
  try simp only [Act.put, sA, s0, s1]
  refine sy 9 8 rfl rfl ?_
  try simp only [Act.put, sA, s0, s1]
  refine wpAnyH_done (by kernel_rfl) ?_ _
  clear hh hHeld
  go_upto_region 23 with fail
  generalize w4 = wz at *
  have SPz := SP4
  replace HS := Lib.hid (HS.out.more (L := K + 2) (by omega))
  replace HDc := Lib.hid (HDc.out.more (K' := K + 2) (by omega))
  have y5 := cell_of B0.out 5
  simp only [List.getElem?_toArray, List.getElem?_cons_succ, List.getElem?_cons_zero] at y5
  go_wp2_with fail
  refine (kept_any wz g Y n e ys LT.out HYY.out HNN.out).mono ?_
  rintro r w10 ⟨rfl, hC⟩
  replace HS := Lib.hid (HS.out.chg hC (by simp) (by simp) (by simp))
  replace HDc := Lib.hid (HDc.out.chg hC (by simp))
  replace C0 := Lib.hid (C0.out.trans hC)
  replace LT := Lib.hid (LT.out.chg hC (by simp))
  clear hC y5
  go_wp2_with fail
  refine (over_lent w10 g n ys LT.out HYY.out.len.symm HNN.out).mono ?_
  rintro r w11 ⟨rfl, hC⟩
  replace HS := Lib.hid (HS.out.off hC (fun z hz hm => (SPz.out.1 z hz).2.2 (by simp at hm; simp [hm])))
  replace HDc := Lib.hid (HDc.out.chg hC (fun z hz hm => (SPz.out.2 z hz).2 (by simp at hm; simp [hm])))
  replace C0 := Lib.hid (C0.out.on hC (fun z hz => (GX.out z (by simp at hz; simp [hz])).1))
  clear hC
  have FIN : Hid (Both w0 w11 b c (K + 2) (sendS st ys)) := Lib.hid ⟨_, _, _, HS.out, HDc.out, sepX SPz.out (by simp), C0.out⟩
  obtain ⟨hz1, ⟨qA, qc, hz2⟩, hz7⟩ := HDc.out.get
  have Z1 := Lib.hid hz1
  have Z2 := Lib.hid hz2
  have Z7 := Lib.hid hz7
  clear hz1 hz2 hz7
  go_upto_region 25 with fail
  refine wp_region_held_drew (S := fun w' => Chg [] w11 w') (by kernel_rfl) (Chg.refl [] w11).drew (fun hHeld => ?_)
  have CD := Lib.hid (Chg.refl [] w11).drew
  generalize w11.drew = we at *
  refine sy 0 84 rfl rfl ?_
  try simp only [Act.put, sA, s0, s1]
  refine sy 1 85 rfl rfl ?_
  try simp only [Act.put, sA, s0, s1]
  refine sy 2 86 rfl rfl ?_
  try simp only [Act.put, sA, s0, s1]
  refine sy 3 87 rfl rfl ?_
  try simp only [Act.put, sA, s0, s1]
  refine sy 4 88 rfl rfl ?_
  try simp only [Act.put, sA, s0, s1]
  refine sy 5 89 rfl rfl ?_
  try simp only [Act.put, sA, s0, s1]
  refine sy 7 91 rfl rfl ?_
  try simp only [Act.put, sA, s0, s1]
  refine sy 8 92 rfl rfl ?_
  try simp only [Act.put, sA, s0, s1]
  refine sy 9 93 rfl rfl ?_
  try simp only [Act.put, sA, s0, s1]
  refine sy 10 94 rfl rfl ?_ (hy := by (intro w hSw; (try dsimp only at hSw); have q1 := hSw.cell Z1.out (by simp); have q2 := hSw.cell Z2.out (by simp); have q7 := hSw.cell Z7.out (by simp); go_simp; try with_reducible rfl))
  try simp only [Act.put, sA, s0, s1]
  refine wpAnyH_ready (rs := [6]) (by kernel_rfl) (by simp) ?_
  refine AllReadyH.cons rfl (fun K hK => ?_) AllReadyH.nil
  replace hK := Lib.hid hK
  go_simp
  refine (peerL (HS.out.chg CD.out (by simp) (by simp) (by simp))).mono ?_
  rintro r w12 ⟨rfl, hw12⟩
  subst hw12
  have hHeld2 := hHeld
  refine hK.out _ _ hHeld2 (fun hHeld => ?_)
  clear hK K
  try simp only [Act.put, sA, s0, s1]
  refine sy 11 95 rfl rfl ?_
  try simp only [Act.put, sA, s0, s1]
  refine sy 12 96 rfl rfl ?_
  try simp only [Act.put, sA, s0, s1]
  refine sy 13 97 rfl rfl ?_
  try simp only [Act.put, sA, s0, s1]
  refine sy 14 98 rfl rfl ?_
  try simp only [Act.put, sA, s0, s1]
  refine sy 16 100 rfl rfl ?_
  try simp only [Act.put, sA, s0, s1]
  refine sy 17 101 rfl rfl ?_
  try simp only [Act.put, sA, s0, s1]
  refine sy 18 102 rfl rfl ?_
  try simp only [Act.put, sA, s0, s1]
  refine sy 19 103 rfl rfl ?_ (hy := by (intro w hSw; (try dsimp only at hSw); have q1 := hSw.cell Z1.out (by simp); have q2 := hSw.cell Z2.out (by simp); have q7 := hSw.cell Z7.out (by simp); go_simp; try with_reducible rfl))
  try simp only [Act.put, sA, s0, s1]
  refine sy 20 104 rfl rfl ?_
  try simp only [Act.put, sA, s0, s1]
  refine wpAnyH_ready (rs := [15]) (by kernel_rfl) (by simp) ?_
  refine AllReadyH.cons rfl (fun K hK => ?_) AllReadyH.nil
  replace hK := Lib.hid hK
  go_simp
  refine (waitingL (HS.out.chg CD.out (by simp) (by simp) (by simp))).mono ?_
  rintro r w12 ⟨rfl, hw12⟩
  subst hw12
  have hHeld2 := hHeld
  refine hK.out _ _ hHeld2 (fun hHeld => ?_)
  clear hK K
  try simp only [Act.put, sA, s0, s1]
  refine sy 21 105 rfl rfl ?_
  try simp only [Act.put, sA, s0, s1]
  refine sy 22 106 rfl rfl ?_
  try simp only [Act.put, sA, s0, s1]
  refine sy 23 107 rfl rfl ?_
  try simp only [Act.put, sA, s0, s1]
  refine sy 24 108 rfl rfl ?_
  try simp only [Act.put, sA, s0, s1]
  refine sy 26 110 rfl rfl ?_
  try simp only [Act.put, sA, s0, s1]
  refine sy 27 111 rfl rfl ?_
  try simp only [Act.put, sA, s0, s1]
  refine sy 28 112 rfl rfl ?_
  try simp only [Act.put, sA, s0, s1]
  refine sy 29 113 rfl rfl ?_ (hy := by (intro w hSw; (try dsimp only at hSw); have q1 := hSw.cell Z1.out (by simp); have q2 := hSw.cell Z2.out (by simp); have q7 := hSw.cell Z7.out (by simp); go_simp; try with_reducible rfl))
  try simp only [Act.put, sA, s0, s1]
  refine wpAnyH_ready (rs := [25]) (by kernel_rfl) (by simp) ?_
  refine AllReadyH.cons rfl (fun K hK => ?_) AllReadyH.nil
  replace hK := Lib.hid hK
  go_simp
  refine (turnsL (HS.out.chg CD.out (by simp) (by simp) (by simp))).mono ?_
  rintro r w12 ⟨rfl, hw12⟩
  subst hw12
  have hHeld2 := hHeld
  refine hK.out _ _ hHeld2 (fun hHeld => ?_)
  clear hK K
  try simp only [Act.put, sA, s0, s1]
  refine sy 30 114 rfl rfl ?_
  try simp only [Act.put, sA, s0, s1]
  refine sy 31 115 rfl rfl ?_
  try simp only [Act.put, sA, s0, s1]
  refine sy 32 6 rfl rfl ?_
  try simp only [Act.put, sA, s0, s1]
  refine wpAnyH_done (by kernel_rfl) ?_ _
  go_wp2
  go_ret
  refine ⟨rfl, sendS st ys, ?_⟩
  obtain ⟨A9, D9, L9, f1, f2, f3, f4⟩ := FIN.out
  exact ⟨A9, D9, L9, f1.chg CD.out (by simp) (by simp) (by simp), f2.chg CD.out (by simp), f3, f4.trans CD.out⟩
end
section
open Go.RowKit Go.Lib
set_option linter.unusedSimpArgs false
set_option linter.unusedVariables false


set_option maxHeartbeats 8000000 in
set_option maxRecDepth 100000 in
theorem does_take (w0 w : World) (b c K : Nat) (st : SesT) (hB : Both w0 w b c K st) (hK : K ≤ 800000) (f t m a : Int) (Y : Option Addr) (n e : Nat) (ys : List UInt8) (hy : Bs w Y n ys) (hY : ys = [] ∨ ∀ x, Y = some x → x.block < w0.heap.size) (hn : n ≤ 140737488351232) : Calls Try.prog 11 #[.pointer (some ⟨b, 0, none⟩), .pointer (some ⟨c, 0, none⟩), .agg #[.int .i64 4, .int .i64 f, .int .i64 t, .int .i64 m, .int .i64 a, .slice Y n e]] w fun r w' => r = .returned (.bool true) ∧ ∃ st', Both w0 w' b c (K + 2) st' := by
  obtain ⟨A, D, L, hs, hd, hsep, hc0⟩ := hB
  obtain ⟨w1, hw1, c1, b1⟩ := news1 w (.cells #[.int .i64 4, .int .i64 f, .int .i64 t, .int .i64 m, .int .i64 a, .slice Y n e] 37)
  have W1 := Lib.hid hw1
  have HS := Lib.hid (hs.chg c1 (by simp) (by simp) (by simp))
  have HDc := Lib.hid (hd.chg c1 (by simp))
  have HYY := Lib.hid (hy.chg c1 (by simp))
  have SP := Lib.hid (sepX (X' := [w.heap.size]) hsep (fun z hz => .inr (by simp at hz; subst hz; exact ⟨hs.lts, hd.lts.2⟩)))
  have C0 := Lib.hid (hc0.trans c1)
  have B0 := Lib.hid b1
  have G0 := Lib.hid (show w0.heap.size ≤ w.heap.size ∧ w.heap.size < w1.heap.size from ⟨hc0.size, lt_of_heap b1⟩)
  have HKK := Lib.hid hK
  have HNN := Lib.hid hn
  have HYB := Lib.hid hY
  have y5 := cell_of b1 5
  simp only [List.getElem?_toArray, List.getElem?_cons_succ, List.getElem?_cons_zero] at y5
  clear hw1 c1 b1 hs hd hy hsep hc0 hK hn hY
  go_enter Try.func11, Try.ntmps11
  go_upto_region 1 with fail
  rw [← W1.out]
  generalize hg0 : w.heap.size = g0 at *
  go_wp2_with fail
  refine (lent_any w1 Y n e ys HYY.out HNN.out).mono ?_
  rintro r w2 ⟨g, rfl, hL, hg, hC⟩
  have G1 := Lib.hid (show w1.heap.size ≤ g ∧ g < w2.heap.size from ⟨hg, by obtain ⟨fu, h1, _⟩ := hL; exact lt_of_heap h1⟩)
  have SP2 := Lib.hid (sepX (X' := [g0, g]) SP.out (fun z hz => by
    simp at hz
    rcases hz with rfl | rfl
    · exact .inl (by simp)
    · exact .inr ⟨fun y hy => by have := HS.out.lts y hy; omega, fun y hy => by have := HDc.out.lts.2 y hy; omega⟩))
  replace HS := Lib.hid (HS.out.chg hC (by simp) (by simp) (by simp))
  replace HDc := Lib.hid (HDc.out.chg hC (by simp))
  replace HYY := Lib.hid (HYY.out.chg hC (by simp))
  replace C0 := Lib.hid (C0.out.trans hC)
  replace B0 := Lib.hid (hC.at_ B0.out (by simp))
  have LT := Lib.hid hL
  have GX : Hid (∀ z ∈ [g0, g], w0.heap.size ≤ z ∧ z < w2.heap.size) := Lib.hid (fun z hz => by
    have := G0.out; have := G1.out; have := hC.size
    simp at hz
    rcases hz with rfl | rfl <;> omega)
  clear hL hg hC SP y5 W1
  have y0 := cell_of B0.out 0
  have y5 := cell_of B0.out 5
  simp only [List.getElem?_toArray, List.getElem?_cons_succ, List.getElem?_cons_zero] at y0 y5
  go_wp2_with fail
  refine (takeL HS.out).mono ?_
  rintro r w3 ⟨cT, lt, rfl, oT, lT, hs, hC⟩
  have nb : ∀ z ∈ [b], w0.heap.size ≤ z ∧ z ∉ L ∧ z ∉ [g0, g] := fun z hz => SP2.out.1 z (by simp at hz; simp [hz])
  have SP3 := Lib.hid (sep1 SP2.out (A' := none) (D' := D) (m := w2.heap.size) HDc.out.lts.2 (fun z hz => (GX.out z hz).2) C0.out.size (by simp) (fun z hz => .inl hz))
  have IL := Lib.hid HS.out.inv.inn
  replace HS := Lib.hid hs
  replace HDc := Lib.hid (HDc.out.chg hC (fun z hz hm => (nb z hm).2.1 hz))
  replace HYY := Lib.hid (HYY.out.go hC HYB.out (fun z hz => (nb z hz).1))
  replace B0 := Lib.hid (hC.at_ B0.out (fun hm => (nb _ hm).2.2 (by simp)))
  replace LT := Lib.hid (LT.out.chg hC (fun hm => (nb _ hm).2.2 (by simp)))
  replace C0 := Lib.hid (C0.out.on hC (fun z hz => (nb z hz).1))
  have OT := Lib.hid oT
  have LTT := Lib.hid lT
  clear hs hC nb y0 y5 oT lT
  go_wp2_with fail
  refine (dtakeL HDc.out).mono ?_
  rintro r w4 ⟨A5, c5, lt5, D5, rfl, o5, l5, hd, hC⟩
  replace HS := Lib.hid (HS.out.off hC (fun z hz => (SP3.out.1 z hz).2.1))
  replace HDc := Lib.hid hd
  replace HYY := Lib.hid (HYY.out.go hC HYB.out (fun z hz => (SP3.out.2 z hz).1))
  replace B0 := Lib.hid (hC.at_ B0.out (fun hm => (SP3.out.2 _ hm).2 (by simp)))
  replace LT := Lib.hid (LT.out.chg hC (fun hm => (SP3.out.2 _ hm).2 (by simp)))
  replace C0 := Lib.hid (C0.out.on hC (fun z hz => (SP3.out.2 z hz).1))
  replace OT := Lib.hid (OT.out.chg hC (fun x hx => (SP2.out.1 _ (by simp [mem_blkOf hx])).2.1))
  replace LTT := Lib.hid (LTT.out.chg hC (fun z hz => (SP2.out.1 z (by simp [hz])).2.1))
  have O5 := Lib.hid o5
  have L5 := Lib.hid l5
  clear hd hC o5 l5
  go_wp2_with fail
  refine (samelists_ok w4 A A5 cT c5 D D5 lt lt5 st.inn OT.out O5.out LTT.out L5.out (by have := IL.out; have := HKK.out; omega)).mono ?_
  rintro r w5 ⟨rfl, hC⟩
  replace HS := Lib.hid (HS.out.chg hC (by simp) (by simp) (by simp))
  replace HDc := Lib.hid (HDc.out.chg hC (by simp))
  replace HYY := Lib.hid (HYY.out.chg hC (by simp))
  replace B0 := Lib.hid (hC.at_ B0.out (by simp))
  replace LT := Lib.hid (LT.out.chg hC (by simp))
  replace C0 := Lib.hid (C0.out.trans hC)
  clear hC OT LTT O5 L5
  go_upto_region 23 with fail
  generalize w5 = wz at *
  have SPz := SP3
  replace HS := Lib.hid (HS.out.more (L := K + 2) (by omega))
  replace HDc := Lib.hid (HDc.out.more (K' := K + 2) (by omega))
  have y5 := cell_of B0.out 5
  simp only [List.getElem?_toArray, List.getElem?_cons_succ, List.getElem?_cons_zero] at y5
  go_wp2_with fail
  refine (kept_any wz g Y n e ys LT.out HYY.out HNN.out).mono ?_
  rintro r w10 ⟨rfl, hC⟩
  replace HS := Lib.hid (HS.out.chg hC (by simp) (by simp) (by simp))
  replace HDc := Lib.hid (HDc.out.chg hC (by simp))
  replace C0 := Lib.hid (C0.out.trans hC)
  replace LT := Lib.hid (LT.out.chg hC (by simp))
  clear hC y5
  go_wp2_with fail
  refine (over_lent w10 g n ys LT.out HYY.out.len.symm HNN.out).mono ?_
  rintro r w11 ⟨rfl, hC⟩
  replace HS := Lib.hid (HS.out.off hC (fun z hz hm => (SPz.out.1 z hz).2.2 (by simp at hm; simp [hm])))
  replace HDc := Lib.hid (HDc.out.chg hC (fun z hz hm => (SPz.out.2 z hz).2 (by simp at hm; simp [hm])))
  replace C0 := Lib.hid (C0.out.on hC (fun z hz => (GX.out z (by simp at hz; simp [hz])).1))
  clear hC
  have FIN : Hid (Both w0 w11 b c (K + 2) (takeS st)) := Lib.hid ⟨_, _, _, HS.out, HDc.out, sepX SPz.out (by simp), C0.out⟩
  obtain ⟨hz1, ⟨qA, qc, hz2⟩, hz7⟩ := HDc.out.get
  have Z1 := Lib.hid hz1
  have Z2 := Lib.hid hz2
  have Z7 := Lib.hid hz7
  clear hz1 hz2 hz7
  go_upto_region 25 with fail
  refine wp_region_held_drew (S := fun w' => Chg [] w11 w') (by kernel_rfl) (Chg.refl [] w11).drew (fun hHeld => ?_)
  have CD := Lib.hid (Chg.refl [] w11).drew
  generalize w11.drew = we at *
  refine sy 0 84 rfl rfl ?_
  try simp only [Act.put, sA, s0, s1]
  refine sy 1 85 rfl rfl ?_
  try simp only [Act.put, sA, s0, s1]
  refine sy 2 86 rfl rfl ?_
  try simp only [Act.put, sA, s0, s1]
  refine sy 3 87 rfl rfl ?_
  try simp only [Act.put, sA, s0, s1]
  refine sy 4 88 rfl rfl ?_
  try simp only [Act.put, sA, s0, s1]
  refine sy 5 89 rfl rfl ?_
  try simp only [Act.put, sA, s0, s1]
  refine sy 7 91 rfl rfl ?_
  try simp only [Act.put, sA, s0, s1]
  refine sy 8 92 rfl rfl ?_
  try simp only [Act.put, sA, s0, s1]
  refine sy 9 93 rfl rfl ?_
  try simp only [Act.put, sA, s0, s1]
  refine sy 10 94 rfl rfl ?_ (hy := by (intro w hSw; (try dsimp only at hSw); have q1 := hSw.cell Z1.out (by simp); have q2 := hSw.cell Z2.out (by simp); have q7 := hSw.cell Z7.out (by simp); go_simp; try with_reducible rfl))
  try simp only [Act.put, sA, s0, s1]
  refine wpAnyH_ready (rs := [6]) (by kernel_rfl) (by simp) ?_
  refine AllReadyH.cons rfl (fun K hK => ?_) AllReadyH.nil
  replace hK := Lib.hid hK
  go_simp
  refine (peerL (HS.out.chg CD.out (by simp) (by simp) (by simp))).mono ?_
  rintro r w12 ⟨rfl, hw12⟩
  subst hw12
  have hHeld2 := hHeld
  refine hK.out _ _ hHeld2 (fun hHeld => ?_)
  clear hK K
  try simp only [Act.put, sA, s0, s1]
  refine sy 11 95 rfl rfl ?_
  try simp only [Act.put, sA, s0, s1]
  refine sy 12 96 rfl rfl ?_
  try simp only [Act.put, sA, s0, s1]
  refine sy 13 97 rfl rfl ?_
  try simp only [Act.put, sA, s0, s1]
  refine sy 14 98 rfl rfl ?_
  try simp only [Act.put, sA, s0, s1]
  refine sy 16 100 rfl rfl ?_
  try simp only [Act.put, sA, s0, s1]
  refine sy 17 101 rfl rfl ?_
  try simp only [Act.put, sA, s0, s1]
  refine sy 18 102 rfl rfl ?_
  try simp only [Act.put, sA, s0, s1]
  refine sy 19 103 rfl rfl ?_ (hy := by (intro w hSw; (try dsimp only at hSw); have q1 := hSw.cell Z1.out (by simp); have q2 := hSw.cell Z2.out (by simp); have q7 := hSw.cell Z7.out (by simp); go_simp; try with_reducible rfl))
  try simp only [Act.put, sA, s0, s1]
  refine sy 20 104 rfl rfl ?_
  try simp only [Act.put, sA, s0, s1]
  refine wpAnyH_ready (rs := [15]) (by kernel_rfl) (by simp) ?_
  refine AllReadyH.cons rfl (fun K hK => ?_) AllReadyH.nil
  replace hK := Lib.hid hK
  go_simp
  refine (waitingL (HS.out.chg CD.out (by simp) (by simp) (by simp))).mono ?_
  rintro r w12 ⟨rfl, hw12⟩
  subst hw12
  have hHeld2 := hHeld
  refine hK.out _ _ hHeld2 (fun hHeld => ?_)
  clear hK K
  try simp only [Act.put, sA, s0, s1]
  refine sy 21 105 rfl rfl ?_
  try simp only [Act.put, sA, s0, s1]
  refine sy 22 106 rfl rfl ?_
  try simp only [Act.put, sA, s0, s1]
  refine sy 23 107 rfl rfl ?_
  try simp only [Act.put, sA, s0, s1]
  refine sy 24 108 rfl rfl ?_
  try simp only [Act.put, sA, s0, s1]
  refine sy 26 110 rfl rfl ?_
  try simp only [Act.put, sA, s0, s1]
  refine sy 27 111 rfl rfl ?_
  try simp only [Act.put, sA, s0, s1]
  refine sy 28 112 rfl rfl ?_
  try simp only [Act.put, sA, s0, s1]
  refine sy 29 113 rfl rfl ?_ (hy := by (intro w hSw; (try dsimp only at hSw); have q1 := hSw.cell Z1.out (by simp); have q2 := hSw.cell Z2.out (by simp); have q7 := hSw.cell Z7.out (by simp); go_simp; try with_reducible rfl))
  try simp only [Act.put, sA, s0, s1]
  refine wpAnyH_ready (rs := [25]) (by kernel_rfl) (by simp) ?_
  refine AllReadyH.cons rfl (fun K hK => ?_) AllReadyH.nil
  replace hK := Lib.hid hK
  go_simp
  refine (turnsL (HS.out.chg CD.out (by simp) (by simp) (by simp))).mono ?_
  rintro r w12 ⟨rfl, hw12⟩
  subst hw12
  have hHeld2 := hHeld
  refine hK.out _ _ hHeld2 (fun hHeld => ?_)
  clear hK K
  try simp only [Act.put, sA, s0, s1]
  refine sy 30 114 rfl rfl ?_
  try simp only [Act.put, sA, s0, s1]
  refine sy 31 115 rfl rfl ?_
  try simp only [Act.put, sA, s0, s1]
  refine sy 32 6 rfl rfl ?_
  try simp only [Act.put, sA, s0, s1]
  refine wpAnyH_done (by kernel_rfl) ?_ _
  go_wp2
  go_ret
  refine ⟨rfl, takeS st, ?_⟩
  obtain ⟨A9, D9, L9, f1, f2, f3, f4⟩ := FIN.out
  exact ⟨A9, D9, L9, f1.chg CD.out (by simp) (by simp) (by simp), f2.chg CD.out (by simp), f3, f4.trans CD.out⟩
end
end Go.Proofs.Ytmblalcigbghfaa
