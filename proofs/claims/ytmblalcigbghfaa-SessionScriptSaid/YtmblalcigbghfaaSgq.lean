/- An act of both: what lies where. An act of both. An act of both. -/
import Derived.Test.YtmblalcigbghfaaSgo
import Derived.Test.YtmblalcigbghfaaSgp
namespace Go.Proofs.Ytmblalcigbghfaa
section
open Go.RowKit Go.Lib
set_option linter.unusedSimpArgs false
set_option linter.unusedVariables false


/-- The blocks of both sessions lie behind n, apart from one another and from X. -/
def Sep (n : Nat) (X : List Nat) (b : Nat) (A : Option Addr) (D L : List Nat) : Prop := (∀ z ∈ b :: (blkOf A ++ D), n ≤ z ∧ z ∉ L ∧ z ∉ X) ∧ ∀ z ∈ L, n ≤ z ∧ z ∉ X
theorem sep1 {n m : Nat} {X : List Nat} {b : Nat} {A A' : Option Addr} {D D' L : List Nat} (h : Sep n X b A D L) (hL : ∀ z ∈ L, z < m) (hX : ∀ z ∈ X, z < m) (hn : n ≤ m) (hA : ∀ x, A' = some x → A = some x ∨ m ≤ x.block) (hD : ∀ z ∈ D', z ∈ D ∨ m ≤ z) : Sep n X b A' D' L := by
  refine ⟨fun z hz => ?_, h.2⟩
  have new : m ≤ z → n ≤ z ∧ z ∉ L ∧ z ∉ X := fun hm => ⟨by omega, fun hl => by have := hL z hl; omega, fun hx => by have := hX z hx; omega⟩
  simp only [List.mem_cons, List.mem_append] at hz
  rcases hz with e | e | e
  · exact h.1 z (by simp [e])
  · obtain ⟨x, hx, rfl⟩ := of_blkOf e
    rcases hA x hx with e | e
    · exact h.1 _ (by simp [mem_blkOf e])
    · exact new e
  · rcases hD z e with e | e
    · exact h.1 z (by simp [e])
    · exact new e
theorem sep2 {n m : Nat} {X : List Nat} {b : Nat} {A : Option Addr} {D L L' : List Nat} (h : Sep n X b A D L) (hS : ∀ z ∈ b :: (blkOf A ++ D), z < m) (hX : ∀ z ∈ X, z < m) (hn : n ≤ m) (hL : ∀ z ∈ L', z ∈ L ∨ m ≤ z) : Sep n X b A D L' := by
  refine ⟨fun z hz => ⟨(h.1 z hz).1, fun hl => ?_, (h.1 z hz).2.2⟩, fun z hz => ?_⟩
  · rcases hL z hl with e | e
    · exact (h.1 z hz).2.1 e
    · have := hS z hz; omega
  · rcases hL z hz with e | e
    · exact h.2 z e
    · exact ⟨by omega, fun hx => by have := hX z hx; omega⟩
theorem sepX {n : Nat} {X X' : List Nat} {b : Nat} {A : Option Addr} {D L : List Nat} (h : Sep n X b A D L) (hx : ∀ z ∈ X', z ∈ X ∨ ((∀ y ∈ b :: (blkOf A ++ D), y < z) ∧ ∀ y ∈ L, y < z)) : Sep n X' b A D L := by
  refine ⟨fun z hz => ⟨(h.1 z hz).1, (h.1 z hz).2.1, fun hm => ?_⟩, fun z hz => ⟨(h.2 z hz).1, fun hm => ?_⟩⟩
  · rcases hx z hm with e | e
    · exact (h.1 z hz).2.2 e
    · exact absurd (e.1 z hz) (by omega)
  · rcases hx z hm with e | e
    · exact (h.2 z hz).2 e
    · exact absurd (e.2 z hz) (by omega)
/-- Both sessions, in one state. -/
def Both (w0 w : World) (b c K : Nat) (st : SesT) : Prop := ∃ A D L, SesL K w b A D st ∧ DocL K w c L st ∧ Sep w0.heap.size [] b A D L ∧ Chg [] w0 w
theorem SesL.lts {K : Nat} {w : World} {b : Nat} {A : Option Addr} {D : List Nat} {st : SesT} (h : SesL K w b A D st) : ∀ z ∈ b :: (blkOf A ++ D), z < w.heap.size := by
  intro z hz
  simp only [List.mem_cons, List.mem_append] at hz
  rcases hz with rfl | e | e
  · exact h.lt.1
  · obtain ⟨x, hx, rfl⟩ := of_blkOf e
    exact h.lt.2.1 x hx
  · exact h.lt.2.2 z e
theorem DocL.lts {K : Nat} {w : World} {b : Nat} {L : List Nat} {st : SesT} (h : DocL K w b L st) : b ∈ L ∧ ∀ z ∈ L, z < w.heap.size := by
  obtain ⟨d, lq, li, D, h, hs, hl⟩ := h
  exact ⟨hs _ (by simp), hl⟩
/-- The program's ledger, when blocks S that are none of its own turned. -/
theorem SesL.off {K : Nat} {w w' : World} {S : List Nat} {b : Nat} {A : Option Addr} {D : List Nat} {st : SesT} (h : SesL K w b A D st) (hc : Chg S w w') (hz : ∀ z ∈ b :: (blkOf A ++ D), z ∉ S) : SesL K w' b A D st :=
  h.chg hc (hz b (by simp)) (fun a ha => hz _ (by simp [mem_blkOf ha])) (fun z hd => hz z (by simp [hd]))
theorem Bs.go {w0 w w' : World} {S : List Nat} {Y : Option Addr} {n : Nat} {ys : List UInt8} (h : Bs w Y n ys) (hc : Chg S w w') (hY : ys = [] ∨ ∀ x, Y = some x → x.block < w0.heap.size) (hs : ∀ z ∈ S, w0.heap.size ≤ z) : Bs w' Y n ys := by
  rcases hY with rfl | hY
  · have := h.len
    subst this
    exact Bs.nil _ _
  · exact h.chg hc (fun a ha hm => by have := hs _ hm; have := hY a ha; omega)
theorem Chg.on {S : List Nat} {w0 w w' : World} (h : Chg [] w0 w) (hc : Chg S w w') (hs : ∀ z ∈ S, w0.heap.size ≤ z) : Chg [] w0 w' := h.trans' hc (fun z hz => .inr (hs z hz))
end
section
open Go.RowKit Go.Lib
set_option linter.unusedSimpArgs false
set_option linter.unusedVariables false


set_option maxHeartbeats 8000000 in
set_option maxRecDepth 100000 in
theorem does_no (w0 w : World) (b c K : Nat) (st : SesT) (hB : Both w0 w b c K st) (hK : K ≤ 800000) (f t m a : Int) (Y : Option Addr) (n e : Nat) (ys : List UInt8) (hy : Bs w Y n ys) (hY : ys = [] ∨ ∀ x, Y = some x → x.block < w0.heap.size) (hn : n ≤ 140737488351232) (k : Int) (hk : ¬ k = 0 ∧ ¬ k = 1 ∧ ¬ k = 2 ∧ ¬ k = 3 ∧ ¬ k = 4) : Calls Try.prog 11 #[.pointer (some ⟨b, 0, none⟩), .pointer (some ⟨c, 0, none⟩), .agg #[.int .i64 k, .int .i64 f, .int .i64 t, .int .i64 m, .int .i64 a, .slice Y n e]] w fun r w' => r = .returned (.bool true) ∧ ∃ st', Both w0 w' b c (K + 2) st' := by
  have k0 := hk.1
  have k1 := hk.2.1
  have k2 := hk.2.2.1
  have k3 := hk.2.2.2.1
  have k4 := hk.2.2.2.2
  obtain ⟨A, D, L, hs, hd, hsep, hc0⟩ := hB
  obtain ⟨w1, hw1, c1, b1⟩ := news1 w (.cells #[.int .i64 k, .int .i64 f, .int .i64 t, .int .i64 m, .int .i64 a, .slice Y n e] 37)
  have W1 := Lib.hid hw1
  have HS := Lib.hid (hs.chg c1 (by simp) (by simp) (by simp))
  have HDc := Lib.hid (hd.chg c1 (by simp))
  have HYY := Lib.hid (hy.chg c1 (by simp))
  have SP := Lib.hid (sepX (X' := [w.heap.size]) hsep (fun z hz => .inr (by simp at hz; subst hz; exact ⟨hs.lts, hd.lts.2⟩)))
  have C0 := Lib.hid (hc0.trans c1)
  have B0 := Lib.hid b1
  have G0 := Lib.hid (show w0.heap.size ≤ w.heap.size ∧ w.heap.size < w1.heap.size from ⟨hc0.size, lt_of_heap b1⟩)
  have HKK := Lib.hid hK
  have HNN := Lib.hid hn
  have HYB := Lib.hid hY
  have y5 := cell_of b1 5
  simp only [List.getElem?_toArray, List.getElem?_cons_succ, List.getElem?_cons_zero] at y5
  clear hw1 c1 b1 hs hd hy hsep hc0 hK hn hY
  go_enter Try.func11, Try.ntmps11
  go_upto_region 1 with fail
  rw [← W1.out]
  generalize hg0 : w.heap.size = g0 at *
  go_wp2_with fail
  refine (lent_any w1 Y n e ys HYY.out HNN.out).mono ?_
  rintro r w2 ⟨g, rfl, hL, hg, hC⟩
  have G1 := Lib.hid (show w1.heap.size ≤ g ∧ g < w2.heap.size from ⟨hg, by obtain ⟨fu, h1, _⟩ := hL; exact lt_of_heap h1⟩)
  have SP2 := Lib.hid (sepX (X' := [g0, g]) SP.out (fun z hz => by
    simp at hz
    rcases hz with rfl | rfl
    · exact .inl (by simp)
    · exact .inr ⟨fun y hy => by have := HS.out.lts y hy; omega, fun y hy => by have := HDc.out.lts.2 y hy; omega⟩))
  replace HS := Lib.hid (HS.out.chg hC (by simp) (by simp) (by simp))
  replace HDc := Lib.hid (HDc.out.chg hC (by simp))
  replace HYY := Lib.hid (HYY.out.chg hC (by simp))
  replace C0 := Lib.hid (C0.out.trans hC)
  replace B0 := Lib.hid (hC.at_ B0.out (by simp))
  have LT := Lib.hid hL
  have GX : Hid (∀ z ∈ [g0, g], w0.heap.size ≤ z ∧ z < w2.heap.size) := Lib.hid (fun z hz => by
    have := G0.out; have := G1.out; have := hC.size
    simp at hz
    rcases hz with rfl | rfl <;> omega)
  clear hL hg hC SP y5 W1
  have y0 := cell_of B0.out 0
  have y5 := cell_of B0.out 5
  simp only [List.getElem?_toArray, List.getElem?_cons_succ, List.getElem?_cons_zero] at y0 y5
  go_upto_region 23 with fail
  clear y0 y5 k0 k1 k2 k3 k4
  generalize w2 = wz at *
  have SPz := SP2
  replace HS := Lib.hid (HS.out.more (L := K + 2) (by omega))
  replace HDc := Lib.hid (HDc.out.more (K' := K + 2) (by omega))
  have y5 := cell_of B0.out 5
  simp only [List.getElem?_toArray, List.getElem?_cons_succ, List.getElem?_cons_zero] at y5
  go_wp2_with fail
  refine (kept_any wz g Y n e ys LT.out HYY.out HNN.out).mono ?_
  rintro r w10 ⟨rfl, hC⟩
  replace HS := Lib.hid (HS.out.chg hC (by simp) (by simp) (by simp))
  replace HDc := Lib.hid (HDc.out.chg hC (by simp))
  replace C0 := Lib.hid (C0.out.trans hC)
  replace LT := Lib.hid (LT.out.chg hC (by simp))
  clear hC y5
  go_wp2_with fail
  refine (over_lent w10 g n ys LT.out HYY.out.len.symm HNN.out).mono ?_
  rintro r w11 ⟨rfl, hC⟩
  replace HS := Lib.hid (HS.out.off hC (fun z hz hm => (SPz.out.1 z hz).2.2 (by simp at hm; simp [hm])))
  replace HDc := Lib.hid (HDc.out.chg hC (fun z hz hm => (SPz.out.2 z hz).2 (by simp at hm; simp [hm])))
  replace C0 := Lib.hid (C0.out.on hC (fun z hz => (GX.out z (by simp at hz; simp [hz])).1))
  clear hC
  have FIN : Hid (Both w0 w11 b c (K + 2) (st)) := Lib.hid ⟨_, _, _, HS.out, HDc.out, sepX SPz.out (by simp), C0.out⟩
  obtain ⟨hz1, ⟨qA, qc, hz2⟩, hz7⟩ := HDc.out.get
  have Z1 := Lib.hid hz1
  have Z2 := Lib.hid hz2
  have Z7 := Lib.hid hz7
  clear hz1 hz2 hz7
  go_upto_region 25 with fail
  refine wp_region_held_drew (S := fun w' => Chg [] w11 w') (by kernel_rfl) (Chg.refl [] w11).drew (fun hHeld => ?_)
  have CD := Lib.hid (Chg.refl [] w11).drew
  generalize w11.drew = we at *
  refine sy 0 84 rfl rfl ?_
  try simp only [Act.put, sA, s0, s1]
  refine sy 1 85 rfl rfl ?_
  try simp only [Act.put, sA, s0, s1]
  refine sy 2 86 rfl rfl ?_
  try simp only [Act.put, sA, s0, s1]
  refine sy 3 87 rfl rfl ?_
  try simp only [Act.put, sA, s0, s1]
  refine sy 4 88 rfl rfl ?_
  try simp only [Act.put, sA, s0, s1]
  refine sy 5 89 rfl rfl ?_
  try simp only [Act.put, sA, s0, s1]
  refine sy 7 91 rfl rfl ?_
  try simp only [Act.put, sA, s0, s1]
  refine sy 8 92 rfl rfl ?_
  try simp only [Act.put, sA, s0, s1]
  refine sy 9 93 rfl rfl ?_
  try simp only [Act.put, sA, s0, s1]
  refine sy 10 94 rfl rfl ?_ (hy := by (intro w hSw; (try dsimp only at hSw); have q1 := hSw.cell Z1.out (by simp); have q2 := hSw.cell Z2.out (by simp); have q7 := hSw.cell Z7.out (by simp); go_simp; try with_reducible rfl))
  try simp only [Act.put, sA, s0, s1]
  refine wpAnyH_ready (rs := [6]) (by kernel_rfl) (by simp) ?_
  refine AllReadyH.cons rfl (fun K hK => ?_) AllReadyH.nil
  replace hK := Lib.hid hK
  go_simp
  refine (peerL (HS.out.chg CD.out (by simp) (by simp) (by simp))).mono ?_
  rintro r w12 ⟨rfl, hw12⟩
  subst hw12
  have hHeld2 := hHeld
  refine hK.out _ _ hHeld2 (fun hHeld => ?_)
  clear hK K
  try simp only [Act.put, sA, s0, s1]
  refine sy 11 95 rfl rfl ?_
  try simp only [Act.put, sA, s0, s1]
  refine sy 12 96 rfl rfl ?_
  try simp only [Act.put, sA, s0, s1]
  refine sy 13 97 rfl rfl ?_
  try simp only [Act.put, sA, s0, s1]
  refine sy 14 98 rfl rfl ?_
  try simp only [Act.put, sA, s0, s1]
  refine sy 16 100 rfl rfl ?_
  try simp only [Act.put, sA, s0, s1]
  refine sy 17 101 rfl rfl ?_
  try simp only [Act.put, sA, s0, s1]
  refine sy 18 102 rfl rfl ?_
  try simp only [Act.put, sA, s0, s1]
  refine sy 19 103 rfl rfl ?_ (hy := by (intro w hSw; (try dsimp only at hSw); have q1 := hSw.cell Z1.out (by simp); have q2 := hSw.cell Z2.out (by simp); have q7 := hSw.cell Z7.out (by simp); go_simp; try with_reducible rfl))
  try simp only [Act.put, sA, s0, s1]
  refine sy 20 104 rfl rfl ?_
  try simp only [Act.put, sA, s0, s1]
  refine wpAnyH_ready (rs := [15]) (by kernel_rfl) (by simp) ?_
  refine AllReadyH.cons rfl (fun K hK => ?_) AllReadyH.nil
  replace hK := Lib.hid hK
  go_simp
  refine (waitingL (HS.out.chg CD.out (by simp) (by simp) (by simp))).mono ?_
  rintro r w12 ⟨rfl, hw12⟩
  subst hw12
  have hHeld2 := hHeld
  refine hK.out _ _ hHeld2 (fun hHeld => ?_)
  clear hK K
  try simp only [Act.put, sA, s0, s1]
  refine sy 21 105 rfl rfl ?_
  try simp only [Act.put, sA, s0, s1]
  refine sy 22 106 rfl rfl ?_
  try simp only [Act.put, sA, s0, s1]
  refine sy 23 107 rfl rfl ?_
  try simp only [Act.put, sA, s0, s1]
  refine sy 24 108 rfl rfl ?_
  try simp only [Act.put, sA, s0, s1]
  refine sy 26 110 rfl rfl ?_
  try simp only [Act.put, sA, s0, s1]
  refine sy 27 111 rfl rfl ?_
  try simp only [Act.put, sA, s0, s1]
  refine sy 28 112 rfl rfl ?_
  try simp only [Act.put, sA, s0, s1]
  refine sy 29 113 rfl rfl ?_ (hy := by (intro w hSw; (try dsimp only at hSw); have q1 := hSw.cell Z1.out (by simp); have q2 := hSw.cell Z2.out (by simp); have q7 := hSw.cell Z7.out (by simp); go_simp; try with_reducible rfl))
  try simp only [Act.put, sA, s0, s1]
  refine wpAnyH_ready (rs := [25]) (by kernel_rfl) (by simp) ?_
  refine AllReadyH.cons rfl (fun K hK => ?_) AllReadyH.nil
  replace hK := Lib.hid hK
  go_simp
  refine (turnsL (HS.out.chg CD.out (by simp) (by simp) (by simp))).mono ?_
  rintro r w12 ⟨rfl, hw12⟩
  subst hw12
  have hHeld2 := hHeld
  refine hK.out _ _ hHeld2 (fun hHeld => ?_)
  clear hK K
  try simp only [Act.put, sA, s0, s1]
  refine sy 30 114 rfl rfl ?_
  try simp only [Act.put, sA, s0, s1]
  refine sy 31 115 rfl rfl ?_
  try simp only [Act.put, sA, s0, s1]
  refine sy 32 6 rfl rfl ?_
  try simp only [Act.put, sA, s0, s1]
  refine wpAnyH_done (by kernel_rfl) ?_ _
  go_wp2
  go_ret
  refine ⟨rfl, st, ?_⟩
  obtain ⟨A9, D9, L9, f1, f2, f3, f4⟩ := FIN.out
  exact ⟨A9, D9, L9, f1.chg CD.out (by simp) (by simp) (by simp), f2.chg CD.out (by simp), f3, f4.trans CD.out⟩
end
section
open Go.RowKit Go.Lib
set_option linter.unusedSimpArgs false
set_option linter.unusedVariables false


set_option maxHeartbeats 8000000 in
set_option maxRecDepth 100000 in
theorem does_tick (w0 w : World) (b c K : Nat) (st : SesT) (hB : Both w0 w b c K st) (hK : K ≤ 800000) (f t m a : Int) (Y : Option Addr) (n e : Nat) (ys : List UInt8) (hy : Bs w Y n ys) (hY : ys = [] ∨ ∀ x, Y = some x → x.block < w0.heap.size) (hn : n ≤ 140737488351232) : Calls Try.prog 11 #[.pointer (some ⟨b, 0, none⟩), .pointer (some ⟨c, 0, none⟩), .agg #[.int .i64 1, .int .i64 f, .int .i64 t, .int .i64 m, .int .i64 a, .slice Y n e]] w fun r w' => r = .returned (.bool true) ∧ ∃ st', Both w0 w' b c (K + 2) st' := by
  obtain ⟨A, D, L, hs, hd, hsep, hc0⟩ := hB
  obtain ⟨w1, hw1, c1, b1⟩ := news1 w (.cells #[.int .i64 1, .int .i64 f, .int .i64 t, .int .i64 m, .int .i64 a, .slice Y n e] 37)
  have W1 := Lib.hid hw1
  have HS := Lib.hid (hs.chg c1 (by simp) (by simp) (by simp))
  have HDc := Lib.hid (hd.chg c1 (by simp))
  have HYY := Lib.hid (hy.chg c1 (by simp))
  have SP := Lib.hid (sepX (X' := [w.heap.size]) hsep (fun z hz => .inr (by simp at hz; subst hz; exact ⟨hs.lts, hd.lts.2⟩)))
  have C0 := Lib.hid (hc0.trans c1)
  have B0 := Lib.hid b1
  have G0 := Lib.hid (show w0.heap.size ≤ w.heap.size ∧ w.heap.size < w1.heap.size from ⟨hc0.size, lt_of_heap b1⟩)
  have HKK := Lib.hid hK
  have HNN := Lib.hid hn
  have HYB := Lib.hid hY
  have y5 := cell_of b1 5
  simp only [List.getElem?_toArray, List.getElem?_cons_succ, List.getElem?_cons_zero] at y5
  clear hw1 c1 b1 hs hd hy hsep hc0 hK hn hY
  go_enter Try.func11, Try.ntmps11
  go_upto_region 1 with fail
  rw [← W1.out]
  generalize hg0 : w.heap.size = g0 at *
  go_wp2_with fail
  refine (lent_any w1 Y n e ys HYY.out HNN.out).mono ?_
  rintro r w2 ⟨g, rfl, hL, hg, hC⟩
  have G1 := Lib.hid (show w1.heap.size ≤ g ∧ g < w2.heap.size from ⟨hg, by obtain ⟨fu, h1, _⟩ := hL; exact lt_of_heap h1⟩)
  have SP2 := Lib.hid (sepX (X' := [g0, g]) SP.out (fun z hz => by
    simp at hz
    rcases hz with rfl | rfl
    · exact .inl (by simp)
    · exact .inr ⟨fun y hy => by have := HS.out.lts y hy; omega, fun y hy => by have := HDc.out.lts.2 y hy; omega⟩))
  replace HS := Lib.hid (HS.out.chg hC (by simp) (by simp) (by simp))
  replace HDc := Lib.hid (HDc.out.chg hC (by simp))
  replace HYY := Lib.hid (HYY.out.chg hC (by simp))
  replace C0 := Lib.hid (C0.out.trans hC)
  replace B0 := Lib.hid (hC.at_ B0.out (by simp))
  have LT := Lib.hid hL
  have GX : Hid (∀ z ∈ [g0, g], w0.heap.size ≤ z ∧ z < w2.heap.size) := Lib.hid (fun z hz => by
    have := G0.out; have := G1.out; have := hC.size
    simp at hz
    rcases hz with rfl | rfl <;> omega)
  clear hL hg hC SP y5 W1
  have y0 := cell_of B0.out 0
  have y5 := cell_of B0.out 5
  simp only [List.getElem?_toArray, List.getElem?_cons_succ, List.getElem?_cons_zero] at y0 y5
  go_wp2_with fail
  refine (tickL HS.out (by have := HKK.out; omega)).mono ?_
  rintro r w3 ⟨rfl, hs, hC⟩
  have nb : ∀ z ∈ [b], w0.heap.size ≤ z ∧ z ∉ L ∧ z ∉ [g0, g] := fun z hz => SP2.out.1 z (by simp at hz; simp [hz])
  replace HS := Lib.hid hs
  replace HDc := Lib.hid (HDc.out.chg hC (fun z hz hm => (nb z hm).2.1 hz))
  replace HYY := Lib.hid (HYY.out.go hC HYB.out (fun z hz => (nb z hz).1))
  replace B0 := Lib.hid (hC.at_ B0.out (fun hm => (nb _ hm).2.2 (by simp)))
  replace LT := Lib.hid (LT.out.chg hC (fun hm => (nb _ hm).2.2 (by simp)))
  replace C0 := Lib.hid (C0.out.on hC (fun z hz => (nb z hz).1))
  clear hs hC nb y0 y5
  go_wp2_with fail
  refine (dtickL HDc.out).mono ?_
  rintro r w4 ⟨rfl, hd, hC⟩
  replace HS := Lib.hid (HS.out.off hC (fun z hz => (SP2.out.1 z hz).2.1))
  replace HDc := Lib.hid hd
  replace HYY := Lib.hid (HYY.out.go hC HYB.out (fun z hz => (SP2.out.2 z hz).1))
  replace B0 := Lib.hid (hC.at_ B0.out (fun hm => (SP2.out.2 _ hm).2 (by simp)))
  replace LT := Lib.hid (LT.out.chg hC (fun hm => (SP2.out.2 _ hm).2 (by simp)))
  replace C0 := Lib.hid (C0.out.on hC (fun z hz => (SP2.out.2 z hz).1))
  clear hd hC
  generalize w4 = wz at *
  have SPz := SP2
  replace HS := Lib.hid (HS.out.more (L := K + 2) (by omega))
  replace HDc := Lib.hid (HDc.out.more (K' := K + 2) (by omega))
  have y5 := cell_of B0.out 5
  simp only [List.getElem?_toArray, List.getElem?_cons_succ, List.getElem?_cons_zero] at y5
  go_wp2_with fail
  refine (kept_any wz g Y n e ys LT.out HYY.out HNN.out).mono ?_
  rintro r w10 ⟨rfl, hC⟩
  replace HS := Lib.hid (HS.out.chg hC (by simp) (by simp) (by simp))
  replace HDc := Lib.hid (HDc.out.chg hC (by simp))
  replace C0 := Lib.hid (C0.out.trans hC)
  replace LT := Lib.hid (LT.out.chg hC (by simp))
  clear hC y5
  go_wp2_with fail
  refine (over_lent w10 g n ys LT.out HYY.out.len.symm HNN.out).mono ?_
  rintro r w11 ⟨rfl, hC⟩
  replace HS := Lib.hid (HS.out.off hC (fun z hz hm => (SPz.out.1 z hz).2.2 (by simp at hm; simp [hm])))
  replace HDc := Lib.hid (HDc.out.chg hC (fun z hz hm => (SPz.out.2 z hz).2 (by simp at hm; simp [hm])))
  replace C0 := Lib.hid (C0.out.on hC (fun z hz => (GX.out z (by simp at hz; simp [hz])).1))
  clear hC
  have FIN : Hid (Both w0 w11 b c (K + 2) (tickS st)) := Lib.hid ⟨_, _, _, HS.out, HDc.out, sepX SPz.out (by simp), C0.out⟩
  obtain ⟨hz1, ⟨qA, qc, hz2⟩, hz7⟩ := HDc.out.get
  have Z1 := Lib.hid hz1
  have Z2 := Lib.hid hz2
  have Z7 := Lib.hid hz7
  clear hz1 hz2 hz7
  go_upto_region 25 with fail
  refine wp_region_held_drew (S := fun w' => Chg [] w11 w') (by kernel_rfl) (Chg.refl [] w11).drew (fun hHeld => ?_)
  have CD := Lib.hid (Chg.refl [] w11).drew
  generalize w11.drew = we at *
  refine sy 0 84 rfl rfl ?_
  try simp only [Act.put, sA, s0, s1]
  refine sy 1 85 rfl rfl ?_
  try simp only [Act.put, sA, s0, s1]
  refine sy 2 86 rfl rfl ?_
  try simp only [Act.put, sA, s0, s1]
  refine sy 3 87 rfl rfl ?_
  try simp only [Act.put, sA, s0, s1]
  refine sy 4 88 rfl rfl ?_
  try simp only [Act.put, sA, s0, s1]
  refine sy 5 89 rfl rfl ?_
  try simp only [Act.put, sA, s0, s1]
  refine sy 7 91 rfl rfl ?_
  try simp only [Act.put, sA, s0, s1]
  refine sy 8 92 rfl rfl ?_
  try simp only [Act.put, sA, s0, s1]
  refine sy 9 93 rfl rfl ?_
  try simp only [Act.put, sA, s0, s1]
  refine sy 10 94 rfl rfl ?_ (hy := by (intro w hSw; (try dsimp only at hSw); have q1 := hSw.cell Z1.out (by simp); have q2 := hSw.cell Z2.out (by simp); have q7 := hSw.cell Z7.out (by simp); go_simp; try with_reducible rfl))
  try simp only [Act.put, sA, s0, s1]
  refine wpAnyH_ready (rs := [6]) (by kernel_rfl) (by simp) ?_
  refine AllReadyH.cons rfl (fun K hK => ?_) AllReadyH.nil
  replace hK := Lib.hid hK
  go_simp
  refine (peerL (HS.out.chg CD.out (by simp) (by simp) (by simp))).mono ?_
  rintro r w12 ⟨rfl, hw12⟩
  subst hw12
  have hHeld2 := hHeld
  refine hK.out _ _ hHeld2 (fun hHeld => ?_)
  clear hK K
  try simp only [Act.put, sA, s0, s1]
  refine sy 11 95 rfl rfl ?_
  try simp only [Act.put, sA, s0, s1]
  refine sy 12 96 rfl rfl ?_
  try simp only [Act.put, sA, s0, s1]
  refine sy 13 97 rfl rfl ?_
  try simp only [Act.put, sA, s0, s1]
  refine sy 14 98 rfl rfl ?_
  try simp only [Act.put, sA, s0, s1]
  refine sy 16 100 rfl rfl ?_
  try simp only [Act.put, sA, s0, s1]
  refine sy 17 101 rfl rfl ?_
  try simp only [Act.put, sA, s0, s1]
  refine sy 18 102 rfl rfl ?_
  try simp only [Act.put, sA, s0, s1]
  refine sy 19 103 rfl rfl ?_ (hy := by (intro w hSw; (try dsimp only at hSw); have q1 := hSw.cell Z1.out (by simp); have q2 := hSw.cell Z2.out (by simp); have q7 := hSw.cell Z7.out (by simp); go_simp; try with_reducible rfl))
  try simp only [Act.put, sA, s0, s1]
  refine sy 20 104 rfl rfl ?_
  try simp only [Act.put, sA, s0, s1]
  refine wpAnyH_ready (rs := [15]) (by kernel_rfl) (by simp) ?_
  refine AllReadyH.cons rfl (fun K hK => ?_) AllReadyH.nil
  replace hK := Lib.hid hK
  go_simp
  refine (waitingL (HS.out.chg CD.out (by simp) (by simp) (by simp))).mono ?_
  rintro r w12 ⟨rfl, hw12⟩
  subst hw12
  have hHeld2 := hHeld
  refine hK.out _ _ hHeld2 (fun hHeld => ?_)
  clear hK K
  try simp only [Act.put, sA, s0, s1]
  refine sy 21 105 rfl rfl ?_
  try simp only [Act.put, sA, s0, s1]
  refine sy 22 106 rfl rfl ?_
  try simp only [Act.put, sA, s0, s1]
  refine sy 23 107 rfl rfl ?_
  try simp only [Act.put, sA, s0, s1]
  refine sy 24 108 rfl rfl ?_
  try simp only [Act.put, sA, s0, s1]
  refine sy 26 110 rfl rfl ?_
  try simp only [Act.put, sA, s0, s1]
  refine sy 27 111 rfl rfl ?_
  try simp only [Act.put, sA, s0, s1]
  refine sy 28 112 rfl rfl ?_
  try simp only [Act.put, sA, s0, s1]
  refine sy 29 113 rfl rfl ?_ (hy := by (intro w hSw; (try dsimp only at hSw); have q1 := hSw.cell Z1.out (by simp); have q2 := hSw.cell Z2.out (by simp); have q7 := hSw.cell Z7.out (by simp); go_simp; try with_reducible rfl))
  try simp only [Act.put, sA, s0, s1]
  refine wpAnyH_ready (rs := [25]) (by kernel_rfl) (by simp) ?_
  refine AllReadyH.cons rfl (fun K hK => ?_) AllReadyH.nil
  replace hK := Lib.hid hK
  go_simp
  refine (turnsL (HS.out.chg CD.out (by simp) (by simp) (by simp))).mono ?_
  rintro r w12 ⟨rfl, hw12⟩
  subst hw12
  have hHeld2 := hHeld
  refine hK.out _ _ hHeld2 (fun hHeld => ?_)
  clear hK K
  try simp only [Act.put, sA, s0, s1]
  refine sy 30 114 rfl rfl ?_
  try simp only [Act.put, sA, s0, s1]
  refine sy 31 115 rfl rfl ?_
  try simp only [Act.put, sA, s0, s1]
  refine sy 32 6 rfl rfl ?_
  try simp only [Act.put, sA, s0, s1]
  refine wpAnyH_done (by kernel_rfl) ?_ _
  go_wp2
  go_ret
  refine ⟨rfl, tickS st, ?_⟩
  obtain ⟨A9, D9, L9, f1, f2, f3, f4⟩ := FIN.out
  exact ⟨A9, D9, L9, f1.chg CD.out (by simp) (by simp) (by simp), f2.chg CD.out (by simp), f3, f4.trans CD.out⟩
end
end Go.Proofs.Ytmblalcigbghfaa
