/- An act of both. An act of both. -/
import Derived.Test.YtmblalcigbghfaaSgq
namespace Go.Proofs.Ytmblalcigbghfaa
section
open Go.RowKit Go.Lib
set_option linter.unusedSimpArgs false
set_option linter.unusedVariables false


set_option maxHeartbeats 8000000 in
set_option maxRecDepth 100000 in
theorem does_out (w0 w : World) (b c K : Nat) (st : SesT) (hB : Both w0 w b c K st) (hK : K ≤ 800000) (f t m a : Int) (Y : Option Addr) (n e : Nat) (ys : List UInt8) (hy : Bs w Y n ys) (hY : ys = [] ∨ ∀ x, Y = some x → x.block < w0.heap.size) (hn : n ≤ 140737488351232) : Calls Try.prog 11 #[.pointer (some ⟨b, 0, none⟩), .pointer (some ⟨c, 0, none⟩), .agg #[.int .i64 2, .int .i64 f, .int .i64 t, .int .i64 m, .int .i64 a, .slice Y n e]] w fun r w' => r = .returned (.bool true) ∧ ∃ st', Both w0 w' b c (K + 2) st' := by
  obtain ⟨A, D, L, hs, hd, hsep, hc0⟩ := hB
  obtain ⟨w1, hw1, c1, b1⟩ := news1 w (.cells #[.int .i64 2, .int .i64 f, .int .i64 t, .int .i64 m, .int .i64 a, .slice Y n e] 37)
  have W1 := Lib.hid hw1
  have HS := Lib.hid (hs.chg c1 (by simp) (by simp) (by simp))
  have HDc := Lib.hid (hd.chg c1 (by simp))
  have HYY := Lib.hid (hy.chg c1 (by simp))
  have SP := Lib.hid (sepX (X' := [w.heap.size]) hsep (fun z hz => .inr (by simp at hz; subst hz; exact ⟨hs.lts, hd.lts.2⟩)))
  have C0 := Lib.hid (hc0.trans c1)
  have B0 := Lib.hid b1
  have G0 := Lib.hid (show w0.heap.size ≤ w.heap.size ∧ w.heap.size < w1.heap.size from ⟨hc0.size, lt_of_heap b1⟩)
  have HKK := Lib.hid hK
  have HNN := Lib.hid hn
  have HYB := Lib.hid hY
  have y5 := cell_of b1 5
  simp only [List.getElem?_toArray, List.getElem?_cons_succ, List.getElem?_cons_zero] at y5
  clear hw1 c1 b1 hs hd hy hsep hc0 hK hn hY
  go_enter Try.func11, Try.ntmps11
  go_upto_region 1 with fail
  rw [← W1.out]
  generalize hg0 : w.heap.size = g0 at *
  go_wp2_with fail
  refine (lent_any w1 Y n e ys HYY.out HNN.out).mono ?_
  rintro r w2 ⟨g, rfl, hL, hg, hC⟩
  have G1 := Lib.hid (show w1.heap.size ≤ g ∧ g < w2.heap.size from ⟨hg, by obtain ⟨fu, h1, _⟩ := hL; exact lt_of_heap h1⟩)
  have SP2 := Lib.hid (sepX (X' := [g0, g]) SP.out (fun z hz => by
    simp at hz
    rcases hz with rfl | rfl
    · exact .inl (by simp)
    · exact .inr ⟨fun y hy => by have := HS.out.lts y hy; omega, fun y hy => by have := HDc.out.lts.2 y hy; omega⟩))
  replace HS := Lib.hid (HS.out.chg hC (by simp) (by simp) (by simp))
  replace HDc := Lib.hid (HDc.out.chg hC (by simp))
  replace HYY := Lib.hid (HYY.out.chg hC (by simp))
  replace C0 := Lib.hid (C0.out.trans hC)
  replace B0 := Lib.hid (hC.at_ B0.out (by simp))
  have LT := Lib.hid hL
  have GX : Hid (∀ z ∈ [g0, g], w0.heap.size ≤ z ∧ z < w2.heap.size) := Lib.hid (fun z hz => by
    have := G0.out; have := G1.out; have := hC.size
    simp at hz
    rcases hz with rfl | rfl <;> omega)
  clear hL hg hC SP y5 W1
  have y0 := cell_of B0.out 0
  have y5 := cell_of B0.out 5
  simp only [List.getElem?_toArray, List.getElem?_cons_succ, List.getElem?_cons_zero] at y0 y5
  go_wp2_with fail
  refine (outLL HS.out (by have := HKK.out; omega)).mono ?_
  rintro r w3 ⟨B3, c3, l3, rfl, o3, n3, p3, hs, hC⟩
  have nb : ∀ z ∈ [b], w0.heap.size ≤ z ∧ z ∉ L ∧ z ∉ [g0, g] := fun z hz => SP2.out.1 z (by simp at hz; simp [hz])
  have LOW : Hid (∀ z, z ∈ b :: (blkOf A ++ D) ∨ z ∈ L ∨ z ∈ [g0, g] ∨ z < w0.heap.size → z < w2.heap.size) := Lib.hid (fun z hz => by
    rcases hz with e | e | e | e
    · exact HS.out.lts z e
    · exact HDc.out.lts.2 z e
    · exact (GX.out z e).2
    · have := C0.out.size; omega)
  have QL : Hid (l3.length ≤ 9) := Lib.hid (by
    have e1 := p3.len
    have e2 := outQ_len st.ep st.peer st.came st.base st.q
    have := HS.out.inv.q
    unfold outL at e1
    split at e1
    · simp at e1; omega
    · omega)
  have OS := Lib.hid hC.size
  replace HS := Lib.hid hs
  replace HDc := Lib.hid (HDc.out.chg hC (fun z hz hm => (nb z hm).2.1 hz))
  replace HYY := Lib.hid (HYY.out.go hC HYB.out (fun z hz => (nb z hz).1))
  replace B0 := Lib.hid (hC.at_ B0.out (fun hm => (nb _ hm).2.2 (by simp)))
  replace LT := Lib.hid (LT.out.chg hC (fun hm => (nb _ hm).2.2 (by simp)))
  replace C0 := Lib.hid (C0.out.on hC (fun z hz => (nb z hz).1))
  have O3 := Lib.hid o3
  have P3 := Lib.hid p3
  have N3 := Lib.hid n3
  clear hs hC nb y0 y5 o3 p3 n3
  go_wp2_with fail
  refine (doutL HDc.out (by have := HKK.out; omega)).mono ?_
  rintro r w4 ⟨B4, c4, l4, rfl, o4, n4, p4, hd, hC⟩
  have PL : Hid (∀ (i : Nat) (x : PakV) (a : Addr), l3[i]? = some x → x.2.2.2.2.1 = some a → w2.heap.size ≤ a.block) := Lib.hid (fun i x a hx ha => (P3.out.lt hx ha).1)
  replace HS := Lib.hid (HS.out.off hC (fun z hz => (SP2.out.1 z hz).2.1))
  replace HDc := Lib.hid hd
  replace HYY := Lib.hid (HYY.out.go hC HYB.out (fun z hz => (SP2.out.2 z hz).1))
  replace B0 := Lib.hid (hC.at_ B0.out (fun hm => (SP2.out.2 _ hm).2 (by simp)))
  replace LT := Lib.hid (LT.out.chg hC (fun hm => (SP2.out.2 _ hm).2 (by simp)))
  replace C0 := Lib.hid (C0.out.on hC (fun z hz => (SP2.out.2 z hz).1))
  replace O3 := Lib.hid (O3.out.chg hC (fun x hx hm => by have := LOW.out _ (.inr (.inl hm)); have := N3.out x hx; omega))
  replace P3 := Lib.hid (P3.out.chg hC (fun i x a hx ha hm => by have := LOW.out _ (.inr (.inl hm)); have := PL.out i x a hx ha; omega))
  have O4 := Lib.hid o4
  have P4 := Lib.hid p4
  clear hd hC o4 p4 n4
  go_wp2_with fail
  refine (samepaks_ok w4 B3 B4 c3 c4 _ _ l3 l4 _ O3.out O4.out P3.out P4.out (by have := QL.out; omega)).mono ?_
  rintro r w5 ⟨rfl, hC⟩
  replace HS := Lib.hid (HS.out.chg hC (by simp) (by simp) (by simp))
  replace HDc := Lib.hid (HDc.out.chg hC (by simp))
  replace HYY := Lib.hid (HYY.out.chg hC (by simp))
  replace B0 := Lib.hid (hC.at_ B0.out (by simp))
  replace LT := Lib.hid (LT.out.chg hC (by simp))
  replace C0 := Lib.hid (C0.out.trans hC)
  replace O3 := Lib.hid (O3.out.chg hC (by simp))
  replace P3 := Lib.hid (P3.out.chg hC (by simp))
  clear hC O4 P4
  have UP := Lib.hid P3.out.up
  have REST : Hid (∀ (j : Nat) (x : PakV), 0 ≤ j → l3[j]? = some x → ∃ bs, OwnB w5 x.2.2.2.2.1 x.2.2.2.2.2.2 bs ∧ x.2.2.2.2.2.1 = bs.length) := Lib.hid (fun j x _ hx => by
    have hj := (List.getElem?_eq_some_iff.1 hx).1
    have hp := P3.out.at_ j x _ hx (List.getElem?_eq_getElem (by rw [← P3.out.len]; exact hj))
    exact ⟨_, hp.2.2.2.2.2.1, hp.2.2.2.2.1⟩)
  clear P3
  go_wp2_with fail
  go_loopw [10] (fun v wr => ∃ i : Nat, i ≤ l3.length ∧ v = .int .i64 (i : Int) ∧ Hid (SesL (K + 1) wr b A D (outS st)) ∧ Hid (DocL (K + 1) wr c L (outS st)) ∧ Hid (Bs wr Y n ys) ∧ Hid (wr.heap[g0]? = some (.cells #[.int .i64 2, .int .i64 f, .int .i64 t, .int .i64 m, .int .i64 a, .slice Y n e] 37 (0, 0))) ∧ Hid (Lent wr g ys) ∧ Hid (Chg [] w0 wr) ∧ Hid (OwnK pakTy wr B3 c3 l3) ∧ Hid (∀ (j : Nat) (x : PakV), i ≤ j → l3[j]? = some x → ∃ bs, OwnB wr x.2.2.2.2.1 x.2.2.2.2.2.2 bs ∧ x.2.2.2.2.2.1 = bs.length)) (fun v _ => l3.length - (RowKit.intOf v).toNat)
  case atStart => exact ⟨0, Nat.zero_le _, rfl, HS, HDc, HYY, B0, LT, C0, O3, REST⟩
  case round =>
    clear HS HDc HYY B0 LT C0 O3 REST
    obtain ⟨i, hi, rfl, HS, HDc, HYY, B0, LT, C0, O3, REST⟩ := hrel
    have i0 : (0 : Int) ≤ (i : Int) := by omega
    have i1 : IntKind.i64.wrap ((i : Int) + 1) = (i : Int) + 1 := IntWalk.i64_in _ (by have := QL.out; omega)
    by_cases hlt : i < l3.length
    · have i2 : (i : Int) < (l3.length : Int) := by omega
      obtain ⟨x, hx⟩ : ∃ x, l3[i]? = some x := ⟨_, List.getElem?_eq_getElem hlt⟩
      obtain ⟨bs, ob, eb⟩ := REST.out i x (Nat.le_refl _) hx
      have rd := O3.out.reads
      obtain ⟨gB, oB, eB, _⟩ := rd.line (by omega)
      rw [eB] at rd
      have q := (pakCells rd hx).2.2.2.2
      obtain ⟨x1, x2, x3, x4, xA, xn, xd⟩ := x
      dsimp only at ob eb q
      have HX := Lib.hid hx
      have OB := Lib.hid ob
      have EBL := Lib.hid eb
      have BN : Hid (∀ y, B3 = some y → y.block ∉ blkOf xA) := Lib.hid (fun y hy hm => by
        obtain ⟨z, hz, e⟩ := of_blkOf hm
        rcases O3.out with ⟨e1, _⟩ | ⟨g', full, e1, hg', _⟩
        · rw [e1] at hy; cases hy
        · rw [e1] at hy
          cases hy
          exact ob.ne hg' (by decide) z hz e)
      clear hx ob rd eb
      subst eB
      go_wp2_with fail
      refine (over_own wr xA xd xn bs OB.out EBL.out).mono ?_
      rintro r w6 ⟨rfl, hC⟩
      replace hC := hC (blkOf xA) (fun a ha => mem_blkOf ha)
      have hi' : ∀ z ∈ blkOf xA, w2.heap.size ≤ z := fun z hz => by
        obtain ⟨y, hy, rfl⟩ := of_blkOf hz
        exact PL.out i _ y HX.out hy
      replace HS := Lib.hid (HS.out.off hC (fun z hz hm => by have := LOW.out z (.inl hz); have := hi' z hm; omega))
      replace HDc := Lib.hid (HDc.out.chg hC (fun z hz hm => by have := LOW.out z (.inr (.inl hz)); have := hi' z hm; omega))
      replace HYY := Lib.hid (HYY.out.go hC HYB.out (fun z hz => by have := hi' z hz; have := GX.out g0 (by simp); omega))
      replace B0 := Lib.hid (hC.at_ B0.out (fun hm => by have := LOW.out g0 (.inr (.inr (.inl (by simp)))); have := hi' _ hm; omega))
      replace LT := Lib.hid (LT.out.chg hC (fun hm => by have := LOW.out g (.inr (.inr (.inl (by simp)))); have := hi' _ hm; omega))
      replace C0 := Lib.hid (C0.out.on hC (fun z hz => by have := hi' z hz; have := GX.out g0 (by simp); omega))
      replace O3 := Lib.hid (O3.out.chg hC BN.out)
      have REST' : Hid (∀ (j : Nat) (y : PakV), i + 1 ≤ j → l3[j]? = some y → ∃ bs, OwnB w6 y.2.2.2.2.1 y.2.2.2.2.2.2 bs ∧ y.2.2.2.2.2.1 = bs.length) := Lib.hid (fun j y hj hy => by
        obtain ⟨b2, o2, e2⟩ := REST.out j y (by omega) hy
        refine ⟨b2, o2.chg hC (fun z hz hm => ?_), e2⟩
        obtain ⟨u, hu, e⟩ := of_blkOf hm
        have := UP.out i j _ y u z (by omega) HX.out hy hu hz
        omega)
      clear hC hi' REST q
      go_wp2
      go_round
      case measure => simp [RowKit.intOf]; omega
      exact ⟨i + 1, by omega, by go_num, HS, HDc, HYY, B0, LT, C0, O3, REST'⟩
    · have i2 : ¬ (i : Int) < (l3.length : Int) := by omega
      go_upto_region 23 with fail
      generalize wr = wz at *
      have SPz := SP2
      replace HS := Lib.hid (HS.out.more (L := K + 2) (by omega))
      replace HDc := Lib.hid (HDc.out.more (K' := K + 2) (by omega))
      have y5 := cell_of B0.out 5
      simp only [List.getElem?_toArray, List.getElem?_cons_succ, List.getElem?_cons_zero] at y5
      go_wp2_with fail
      refine (kept_any wz g Y n e ys LT.out HYY.out HNN.out).mono ?_
      rintro r w10 ⟨rfl, hC⟩
      replace HS := Lib.hid (HS.out.chg hC (by simp) (by simp) (by simp))
      replace HDc := Lib.hid (HDc.out.chg hC (by simp))
      replace C0 := Lib.hid (C0.out.trans hC)
      replace LT := Lib.hid (LT.out.chg hC (by simp))
      clear hC y5
      go_wp2_with fail
      refine (over_lent w10 g n ys LT.out HYY.out.len.symm HNN.out).mono ?_
      rintro r w11 ⟨rfl, hC⟩
      replace HS := Lib.hid (HS.out.off hC (fun z hz hm => (SPz.out.1 z hz).2.2 (by simp at hm; simp [hm])))
      replace HDc := Lib.hid (HDc.out.chg hC (fun z hz hm => (SPz.out.2 z hz).2 (by simp at hm; simp [hm])))
      replace C0 := Lib.hid (C0.out.on hC (fun z hz => (GX.out z (by simp at hz; simp [hz])).1))
      clear hC
      have FIN : Hid (Both w0 w11 b c (K + 2) (outS st)) := Lib.hid ⟨_, _, _, HS.out, HDc.out, sepX SPz.out (by simp), C0.out⟩
      obtain ⟨hz1, ⟨qA, qc, hz2⟩, hz7⟩ := HDc.out.get
      have Z1 := Lib.hid hz1
      have Z2 := Lib.hid hz2
      have Z7 := Lib.hid hz7
      clear hz1 hz2 hz7
      go_upto_region 25 with fail
      refine wp_region_held_drew (S := fun w' => Chg [] w11 w') (by kernel_rfl) (Chg.refl [] w11).drew (fun hHeld => ?_)
      have CD := Lib.hid (Chg.refl [] w11).drew
      generalize w11.drew = we at *
      refine sy 0 84 rfl rfl ?_
      try simp only [Act.put, sA, s0, s1]
      refine sy 1 85 rfl rfl ?_
      try simp only [Act.put, sA, s0, s1]
      refine sy 2 86 rfl rfl ?_
      try simp only [Act.put, sA, s0, s1]
      refine sy 3 87 rfl rfl ?_
      try simp only [Act.put, sA, s0, s1]
      refine sy 4 88 rfl rfl ?_
      try simp only [Act.put, sA, s0, s1]
      refine sy 5 89 rfl rfl ?_
      try simp only [Act.put, sA, s0, s1]
      refine sy 7 91 rfl rfl ?_
      try simp only [Act.put, sA, s0, s1]
      refine sy 8 92 rfl rfl ?_
      try simp only [Act.put, sA, s0, s1]
      refine sy 9 93 rfl rfl ?_
      try simp only [Act.put, sA, s0, s1]
      refine sy 10 94 rfl rfl ?_ (hy := by (intro w hSw; (try dsimp only at hSw); have q1 := hSw.cell Z1.out (by simp); have q2 := hSw.cell Z2.out (by simp); have q7 := hSw.cell Z7.out (by simp); go_simp; try with_reducible rfl))
      try simp only [Act.put, sA, s0, s1]
      refine wpAnyH_ready (rs := [6]) (by kernel_rfl) (by simp) ?_
      refine AllReadyH.cons rfl (fun K hK => ?_) AllReadyH.nil
      replace hK := Lib.hid hK
      go_simp
      refine (peerL (HS.out.chg CD.out (by simp) (by simp) (by simp))).mono ?_
      rintro r w12 ⟨rfl, hw12⟩
      subst hw12
      have hHeld2 := hHeld
      refine hK.out _ _ hHeld2 (fun hHeld => ?_)
      clear hK K
      try simp only [Act.put, sA, s0, s1]
      refine sy 11 95 rfl rfl ?_
      try simp only [Act.put, sA, s0, s1]
      refine sy 12 96 rfl rfl ?_
      try simp only [Act.put, sA, s0, s1]
      refine sy 13 97 rfl rfl ?_
      try simp only [Act.put, sA, s0, s1]
      refine sy 14 98 rfl rfl ?_
      try simp only [Act.put, sA, s0, s1]
      refine sy 16 100 rfl rfl ?_
      try simp only [Act.put, sA, s0, s1]
      refine sy 17 101 rfl rfl ?_
      try simp only [Act.put, sA, s0, s1]
      refine sy 18 102 rfl rfl ?_
      try simp only [Act.put, sA, s0, s1]
      refine sy 19 103 rfl rfl ?_ (hy := by (intro w hSw; (try dsimp only at hSw); have q1 := hSw.cell Z1.out (by simp); have q2 := hSw.cell Z2.out (by simp); have q7 := hSw.cell Z7.out (by simp); go_simp; try with_reducible rfl))
      try simp only [Act.put, sA, s0, s1]
      refine sy 20 104 rfl rfl ?_
      try simp only [Act.put, sA, s0, s1]
      refine wpAnyH_ready (rs := [15]) (by kernel_rfl) (by simp) ?_
      refine AllReadyH.cons rfl (fun K hK => ?_) AllReadyH.nil
      replace hK := Lib.hid hK
      go_simp
      refine (waitingL (HS.out.chg CD.out (by simp) (by simp) (by simp))).mono ?_
      rintro r w12 ⟨rfl, hw12⟩
      subst hw12
      have hHeld2 := hHeld
      refine hK.out _ _ hHeld2 (fun hHeld => ?_)
      clear hK K
      try simp only [Act.put, sA, s0, s1]
      refine sy 21 105 rfl rfl ?_
      try simp only [Act.put, sA, s0, s1]
      refine sy 22 106 rfl rfl ?_
      try simp only [Act.put, sA, s0, s1]
      refine sy 23 107 rfl rfl ?_
      try simp only [Act.put, sA, s0, s1]
      refine sy 24 108 rfl rfl ?_
      try simp only [Act.put, sA, s0, s1]
      refine sy 26 110 rfl rfl ?_
      try simp only [Act.put, sA, s0, s1]
      refine sy 27 111 rfl rfl ?_
      try simp only [Act.put, sA, s0, s1]
      refine sy 28 112 rfl rfl ?_
      try simp only [Act.put, sA, s0, s1]
      refine sy 29 113 rfl rfl ?_ (hy := by (intro w hSw; (try dsimp only at hSw); have q1 := hSw.cell Z1.out (by simp); have q2 := hSw.cell Z2.out (by simp); have q7 := hSw.cell Z7.out (by simp); go_simp; try with_reducible rfl))
      try simp only [Act.put, sA, s0, s1]
      refine wpAnyH_ready (rs := [25]) (by kernel_rfl) (by simp) ?_
      refine AllReadyH.cons rfl (fun K hK => ?_) AllReadyH.nil
      replace hK := Lib.hid hK
      go_simp
      refine (turnsL (HS.out.chg CD.out (by simp) (by simp) (by simp))).mono ?_
      rintro r w12 ⟨rfl, hw12⟩
      subst hw12
      have hHeld2 := hHeld
      refine hK.out _ _ hHeld2 (fun hHeld => ?_)
      clear hK K
      try simp only [Act.put, sA, s0, s1]
      refine sy 30 114 rfl rfl ?_
      try simp only [Act.put, sA, s0, s1]
      refine sy 31 115 rfl rfl ?_
      try simp only [Act.put, sA, s0, s1]
      refine sy 32 6 rfl rfl ?_
      try simp only [Act.put, sA, s0, s1]
      refine wpAnyH_done (by kernel_rfl) ?_ _
      go_wp2
      go_ret
      refine ⟨rfl, outS st, ?_⟩
      obtain ⟨A9, D9, L9, f1, f2, f3, f4⟩ := FIN.out
      exact ⟨A9, D9, L9, f1.chg CD.out (by simp) (by simp) (by simp), f2.chg CD.out (by simp), f3, f4.trans CD.out⟩
end
section
open Go.RowKit Go.Lib
set_option linter.unusedSimpArgs false
set_option linter.unusedVariables false


set_option maxHeartbeats 8000000 in
set_option maxRecDepth 100000 in
theorem does_recv (w0 w : World) (b c K : Nat) (st : SesT) (hB : Both w0 w b c K st) (hK : K ≤ 800000) (f t m a : Int) (Y : Option Addr) (n e : Nat) (ys : List UInt8) (hy : Bs w Y n ys) (hY : ys = [] ∨ ∀ x, Y = some x → x.block < w0.heap.size) (hn : n ≤ 140737488351232) : Calls Try.prog 11 #[.pointer (some ⟨b, 0, none⟩), .pointer (some ⟨c, 0, none⟩), .agg #[.int .i64 3, .int .i64 f, .int .i64 t, .int .i64 m, .int .i64 a, .slice Y n e]] w fun r w' => r = .returned (.bool true) ∧ ∃ st', Both w0 w' b c (K + 2) st' := by
  obtain ⟨A, D, L, hs, hd, hsep, hc0⟩ := hB
  obtain ⟨w1, hw1, c1, b1⟩ := news1 w (.cells #[.int .i64 3, .int .i64 f, .int .i64 t, .int .i64 m, .int .i64 a, .slice Y n e] 37)
  have W1 := Lib.hid hw1
  have HS := Lib.hid (hs.chg c1 (by simp) (by simp) (by simp))
  have HDc := Lib.hid (hd.chg c1 (by simp))
  have HYY := Lib.hid (hy.chg c1 (by simp))
  have SP := Lib.hid (sepX (X' := [w.heap.size]) hsep (fun z hz => .inr (by simp at hz; subst hz; exact ⟨hs.lts, hd.lts.2⟩)))
  have C0 := Lib.hid (hc0.trans c1)
  have B0 := Lib.hid b1
  have G0 := Lib.hid (show w0.heap.size ≤ w.heap.size ∧ w.heap.size < w1.heap.size from ⟨hc0.size, lt_of_heap b1⟩)
  have HKK := Lib.hid hK
  have HNN := Lib.hid hn
  have HYB := Lib.hid hY
  have y5 := cell_of b1 5
  simp only [List.getElem?_toArray, List.getElem?_cons_succ, List.getElem?_cons_zero] at y5
  clear hw1 c1 b1 hs hd hy hsep hc0 hK hn hY
  go_enter Try.func11, Try.ntmps11
  go_upto_region 1 with fail
  rw [← W1.out]
  generalize hg0 : w.heap.size = g0 at *
  go_wp2_with fail
  refine (lent_any w1 Y n e ys HYY.out HNN.out).mono ?_
  rintro r w2 ⟨g, rfl, hL, hg, hC⟩
  have G1 := Lib.hid (show w1.heap.size ≤ g ∧ g < w2.heap.size from ⟨hg, by obtain ⟨fu, h1, _⟩ := hL; exact lt_of_heap h1⟩)
  have SP2 := Lib.hid (sepX (X' := [g0, g]) SP.out (fun z hz => by
    simp at hz
    rcases hz with rfl | rfl
    · exact .inl (by simp)
    · exact .inr ⟨fun y hy => by have := HS.out.lts y hy; omega, fun y hy => by have := HDc.out.lts.2 y hy; omega⟩))
  replace HS := Lib.hid (HS.out.chg hC (by simp) (by simp) (by simp))
  replace HDc := Lib.hid (HDc.out.chg hC (by simp))
  replace HYY := Lib.hid (HYY.out.chg hC (by simp))
  replace C0 := Lib.hid (C0.out.trans hC)
  replace B0 := Lib.hid (hC.at_ B0.out (by simp))
  have LT := Lib.hid hL
  have GX : Hid (∀ z ∈ [g0, g], w0.heap.size ≤ z ∧ z < w2.heap.size) := Lib.hid (fun z hz => by
    have := G0.out; have := G1.out; have := hC.size
    simp at hz
    rcases hz with rfl | rfl <;> omega)
  clear hL hg hC SP y5 W1
  have y0 := cell_of B0.out 0
  have y5 := cell_of B0.out 5
  simp only [List.getElem?_toArray, List.getElem?_cons_succ, List.getElem?_cons_zero] at y0 y5
  clear y0 y5
  have y0 := cell_of B0.out 0
  have y1 := cell_of B0.out 1
  have y2 := cell_of B0.out 2
  have y3 := cell_of B0.out 3
  have y4 := cell_of B0.out 4
  have y5 := cell_of B0.out 5
  simp only [List.getElem?_toArray, List.getElem?_cons_succ, List.getElem?_cons_zero] at y0 y1 y2 y3 y4 y5
  obtain ⟨w4, hw4, c4, b4⟩ := news1 w2 (.cells #[.int .i64 f, .int .i64 t, .int .i64 m, .int .i64 a, .slice Y n e] 35)
  have W4 := Lib.hid hw4
  have P4 := Lib.hid b4
  have C4 := Lib.hid c4
  clear hw4 b4 c4
  go_upto_region 18 with fail
  rw [← W4.out]
  clear W4 y0 y1 y2 y3 y4 y5
  generalize hp3 : w2.heap.size = pb at *
  have f4 := free_of P4.out 4
  have x4 := cell_of P4.out 4
  simp only [List.getElem?_toArray, List.getElem?_cons_succ, List.getElem?_cons_zero] at x4
  have p5 := heap_setCell_same w4 pb 4 _ _ (.slice (some ⟨g, 0, none⟩) n (n + 3)) P4.out
  simp only [List.setIfInBounds_toArray, List.set_cons_zero, List.set_cons_succ] at p5
  have P5 := Lib.hid p5
  have C5 := Lib.hid (C4.out.on ((Chg.refl [pb] w4).setCell (p := ⟨pb, 4, none⟩) (.inl (by simp)) (.slice (some ⟨g, 0, none⟩) n (n + 3))) (by simp; omega))
  clear p5 C4
  go_upto_region 19 with fail
  clear f4 x4 P4
  generalize w4.setCell ⟨pb, 4, none⟩ (.slice (some ⟨g, 0, none⟩) n (n + 3)) = w5 at *
  replace HS := Lib.hid (HS.out.chg C5.out (by simp) (by simp) (by simp))
  replace HDc := Lib.hid (HDc.out.chg C5.out (by simp))
  replace HYY := Lib.hid (HYY.out.chg C5.out (by simp))
  replace B0 := Lib.hid (C5.out.at_ B0.out (by simp))
  replace LT := Lib.hid (LT.out.chg C5.out (by simp))
  replace C0 := Lib.hid (C0.out.trans C5.out)
  have GS : Hid (∀ z ∈ [g0, g], z < w5.heap.size) := Lib.hid (fun z hz => by have := (GX.out z hz).2; have := C5.out.size; omega)
  clear C5
  have y0 := cell_of P5.out 0
  have y1 := cell_of P5.out 1
  have y2 := cell_of P5.out 2
  have y3 := cell_of P5.out 3
  have y4 := cell_of P5.out 4
  simp only [List.getElem?_toArray, List.getElem?_cons_succ, List.getElem?_cons_zero] at y0 y1 y2 y3 y4
  go_wp2_with fail
  refine (recvL HS.out (by have := HKK.out; omega) f t m a (some ⟨g, 0, none⟩) n (n + 3) ys (by have := LT.out.reads; rwa [HYY.out.len] at this) HNN.out (by rintro x hx e; cases hx; exact (SP2.out.1 b (by simp)).2.2 (by simp at e; simp [← e]))).mono ?_
  rintro r w6 ⟨A', D', rfl, hs, hA, hD, hC⟩
  have nb : ∀ z ∈ b :: blkOf A, w0.heap.size ≤ z ∧ z ∉ L ∧ z ∉ [g0, g] := fun z hz => SP2.out.1 z (by simp at hz ⊢; rcases hz with h | h <;> simp [h])
  have SP3 := Lib.hid (sep1 SP2.out (A' := A') (D' := D') (m := w5.heap.size) HDc.out.lts.2 GS.out C0.out.size hA hD)
  replace HS := Lib.hid hs
  replace HDc := Lib.hid (HDc.out.chg hC (fun z hz hm => (nb z hm).2.1 hz))
  replace HYY := Lib.hid (HYY.out.go hC HYB.out (fun z hz => (nb z hz).1))
  replace B0 := Lib.hid (hC.at_ B0.out (fun hm => (nb _ hm).2.2 (by simp)))
  replace LT := Lib.hid (LT.out.chg hC (fun hm => (nb _ hm).2.2 (by simp)))
  replace C0 := Lib.hid (C0.out.on hC (fun z hz => (nb z hz).1))
  replace GS := Lib.hid (fun z hz => Nat.lt_of_lt_of_le (GS.out z hz) hC.size)
  clear hs hC nb hA hD y0 y1 y2 y3 y4 P5
  have y1 := cell_of B0.out 1
  have y2 := cell_of B0.out 2
  have y3 := cell_of B0.out 3
  have y4 := cell_of B0.out 4
  have y5 := cell_of B0.out 5
  simp only [List.getElem?_toArray, List.getElem?_cons_succ, List.getElem?_cons_zero] at y1 y2 y3 y4 y5
  go_wp2_with fail
  refine (copypack_any w6 f t m a Y n e ys HYY.out HNN.out).mono ?_
  rintro r w7 ⟨A7, c7, rfl, hO, hN, hC⟩
  have N7 : Hid (∀ x, A7 = some x → x.block ≠ c) := Lib.hid (fun x hx ex => by have := hN x hx; have := HDc.out.lts.2 c HDc.out.lts.1; omega)
  have O7 := Lib.hid hO
  replace HS := Lib.hid (HS.out.chg hC (by simp) (by simp) (by simp))
  replace HDc := Lib.hid (HDc.out.chg hC (by simp))
  replace HYY := Lib.hid (HYY.out.chg hC (by simp))
  replace B0 := Lib.hid (hC.at_ B0.out (by simp))
  replace LT := Lib.hid (LT.out.chg hC (by simp))
  replace C0 := Lib.hid (C0.out.trans hC)
  replace GS := Lib.hid (fun z hz => Nat.lt_of_lt_of_le (GS.out z hz) hC.size)
  clear hC hO hN y1 y2 y3 y4 y5
  go_wp2_with fail
  refine (drecvL HDc.out (by have := HKK.out; omega) f t m a A7 n c7 ys (by have := O7.out.reads; rwa [HYY.out.len] at this) HNN.out N7.out).mono ?_
  rintro r w8 ⟨L', rfl, hd, hL, hC⟩
  have SP4 := Lib.hid (sep2 SP3.out (m := w7.heap.size) HS.out.lts GS.out C0.out.size hL)
  replace HS := Lib.hid (HS.out.off hC (fun z hz => (SP3.out.1 z hz).2.1))
  replace HDc := Lib.hid hd
  replace HYY := Lib.hid (HYY.out.go hC HYB.out (fun z hz => (SP3.out.2 z hz).1))
  replace B0 := Lib.hid (hC.at_ B0.out (fun hm => (SP3.out.2 _ hm).2 (by simp)))
  replace LT := Lib.hid (LT.out.chg hC (fun hm => (SP3.out.2 _ hm).2 (by simp)))
  replace C0 := Lib.hid (C0.out.on hC (fun z hz => (SP3.out.2 z hz).1))
  clear hd hC hL O7 N7
  go_upto_region 23 with fail
  generalize w8 = wz at *
  have SPz := SP4
  have y5 := cell_of B0.out 5
  simp only [List.getElem?_toArray, List.getElem?_cons_succ, List.getElem?_cons_zero] at y5
  go_wp2_with fail
  refine (kept_any wz g Y n e ys LT.out HYY.out HNN.out).mono ?_
  rintro r w10 ⟨rfl, hC⟩
  replace HS := Lib.hid (HS.out.chg hC (by simp) (by simp) (by simp))
  replace HDc := Lib.hid (HDc.out.chg hC (by simp))
  replace C0 := Lib.hid (C0.out.trans hC)
  replace LT := Lib.hid (LT.out.chg hC (by simp))
  clear hC y5
  go_wp2_with fail
  refine (over_lent w10 g n ys LT.out HYY.out.len.symm HNN.out).mono ?_
  rintro r w11 ⟨rfl, hC⟩
  replace HS := Lib.hid (HS.out.off hC (fun z hz hm => (SPz.out.1 z hz).2.2 (by simp at hm; simp [hm])))
  replace HDc := Lib.hid (HDc.out.chg hC (fun z hz hm => (SPz.out.2 z hz).2 (by simp at hm; simp [hm])))
  replace C0 := Lib.hid (C0.out.on hC (fun z hz => (GX.out z (by simp at hz; simp [hz])).1))
  clear hC
  have FIN : Hid (Both w0 w11 b c (K + 2) (recvS st (f, t, m, a, ys))) := Lib.hid ⟨_, _, _, HS.out, HDc.out, sepX SPz.out (by simp), C0.out⟩
  obtain ⟨hz1, ⟨qA, qc, hz2⟩, hz7⟩ := HDc.out.get
  have Z1 := Lib.hid hz1
  have Z2 := Lib.hid hz2
  have Z7 := Lib.hid hz7
  clear hz1 hz2 hz7
  go_upto_region 25 with fail
  refine wp_region_held_drew (S := fun w' => Chg [] w11 w') (by kernel_rfl) (Chg.refl [] w11).drew (fun hHeld => ?_)
  have CD := Lib.hid (Chg.refl [] w11).drew
  generalize w11.drew = we at *
  refine sy 0 84 rfl rfl ?_
  try simp only [Act.put, sA, s0, s1]
  refine sy 1 85 rfl rfl ?_
  try simp only [Act.put, sA, s0, s1]
  refine sy 2 86 rfl rfl ?_
  try simp only [Act.put, sA, s0, s1]
  refine sy 3 87 rfl rfl ?_
  try simp only [Act.put, sA, s0, s1]
  refine sy 4 88 rfl rfl ?_
  try simp only [Act.put, sA, s0, s1]
  refine sy 5 89 rfl rfl ?_
  try simp only [Act.put, sA, s0, s1]
  refine sy 7 91 rfl rfl ?_
  try simp only [Act.put, sA, s0, s1]
  refine sy 8 92 rfl rfl ?_
  try simp only [Act.put, sA, s0, s1]
  refine sy 9 93 rfl rfl ?_
  try simp only [Act.put, sA, s0, s1]
  refine sy 10 94 rfl rfl ?_ (hy := by (intro w hSw; (try dsimp only at hSw); have q1 := hSw.cell Z1.out (by simp); have q2 := hSw.cell Z2.out (by simp); have q7 := hSw.cell Z7.out (by simp); go_simp; try with_reducible rfl))
  try simp only [Act.put, sA, s0, s1]
  refine wpAnyH_ready (rs := [6]) (by kernel_rfl) (by simp) ?_
  refine AllReadyH.cons rfl (fun K hK => ?_) AllReadyH.nil
  replace hK := Lib.hid hK
  go_simp
  refine (peerL (HS.out.chg CD.out (by simp) (by simp) (by simp))).mono ?_
  rintro r w12 ⟨rfl, hw12⟩
  subst hw12
  have hHeld2 := hHeld
  refine hK.out _ _ hHeld2 (fun hHeld => ?_)
  clear hK K
  try simp only [Act.put, sA, s0, s1]
  refine sy 11 95 rfl rfl ?_
  try simp only [Act.put, sA, s0, s1]
  refine sy 12 96 rfl rfl ?_
  try simp only [Act.put, sA, s0, s1]
  refine sy 13 97 rfl rfl ?_
  try simp only [Act.put, sA, s0, s1]
  refine sy 14 98 rfl rfl ?_
  try simp only [Act.put, sA, s0, s1]
  refine sy 16 100 rfl rfl ?_
  try simp only [Act.put, sA, s0, s1]
  refine sy 17 101 rfl rfl ?_
  try simp only [Act.put, sA, s0, s1]
  refine sy 18 102 rfl rfl ?_
  try simp only [Act.put, sA, s0, s1]
  refine sy 19 103 rfl rfl ?_ (hy := by (intro w hSw; (try dsimp only at hSw); have q1 := hSw.cell Z1.out (by simp); have q2 := hSw.cell Z2.out (by simp); have q7 := hSw.cell Z7.out (by simp); go_simp; try with_reducible rfl))
  try simp only [Act.put, sA, s0, s1]
  refine sy 20 104 rfl rfl ?_
  try simp only [Act.put, sA, s0, s1]
  refine wpAnyH_ready (rs := [15]) (by kernel_rfl) (by simp) ?_
  refine AllReadyH.cons rfl (fun K hK => ?_) AllReadyH.nil
  replace hK := Lib.hid hK
  go_simp
  refine (waitingL (HS.out.chg CD.out (by simp) (by simp) (by simp))).mono ?_
  rintro r w12 ⟨rfl, hw12⟩
  subst hw12
  have hHeld2 := hHeld
  refine hK.out _ _ hHeld2 (fun hHeld => ?_)
  clear hK K
  try simp only [Act.put, sA, s0, s1]
  refine sy 21 105 rfl rfl ?_
  try simp only [Act.put, sA, s0, s1]
  refine sy 22 106 rfl rfl ?_
  try simp only [Act.put, sA, s0, s1]
  refine sy 23 107 rfl rfl ?_
  try simp only [Act.put, sA, s0, s1]
  refine sy 24 108 rfl rfl ?_
  try simp only [Act.put, sA, s0, s1]
  refine sy 26 110 rfl rfl ?_
  try simp only [Act.put, sA, s0, s1]
  refine sy 27 111 rfl rfl ?_
  try simp only [Act.put, sA, s0, s1]
  refine sy 28 112 rfl rfl ?_
  try simp only [Act.put, sA, s0, s1]
  refine sy 29 113 rfl rfl ?_ (hy := by (intro w hSw; (try dsimp only at hSw); have q1 := hSw.cell Z1.out (by simp); have q2 := hSw.cell Z2.out (by simp); have q7 := hSw.cell Z7.out (by simp); go_simp; try with_reducible rfl))
  try simp only [Act.put, sA, s0, s1]
  refine wpAnyH_ready (rs := [25]) (by kernel_rfl) (by simp) ?_
  refine AllReadyH.cons rfl (fun K hK => ?_) AllReadyH.nil
  replace hK := Lib.hid hK
  go_simp
  refine (turnsL (HS.out.chg CD.out (by simp) (by simp) (by simp))).mono ?_
  rintro r w12 ⟨rfl, hw12⟩
  subst hw12
  have hHeld2 := hHeld
  refine hK.out _ _ hHeld2 (fun hHeld => ?_)
  clear hK K
  try simp only [Act.put, sA, s0, s1]
  refine sy 30 114 rfl rfl ?_
  try simp only [Act.put, sA, s0, s1]
  refine sy 31 115 rfl rfl ?_
  try simp only [Act.put, sA, s0, s1]
  refine sy 32 6 rfl rfl ?_
  try simp only [Act.put, sA, s0, s1]
  refine wpAnyH_done (by kernel_rfl) ?_ _
  go_wp2
  go_ret
  refine ⟨rfl, recvS st (f, t, m, a, ys), ?_⟩
  obtain ⟨A9, D9, L9, f1, f2, f3, f4⟩ := FIN.out
  exact ⟨A9, D9, L9, f1.chg CD.out (by simp) (by simp) (by simp), f2.chg CD.out (by simp), f3, f4.trans CD.out⟩
end
end Go.Proofs.Ytmblalcigbghfaa
