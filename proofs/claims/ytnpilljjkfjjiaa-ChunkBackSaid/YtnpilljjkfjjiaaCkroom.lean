/- ChunkRoom, walked. -/
import Derived.Test.YtnpilljjkfjjiaaCknew
import Derived.Test.YtnpilljjkfjjiaaMsgargs
namespace Go.Proofs.Ytnpilljjkfjjiaa
open Go.RowKit
set_option linter.unusedSimpArgs false
set_option linter.unusedVariables false



set_option maxRecDepth 100000 in
set_option maxHeartbeats 8000000 in
theorem chunkroom_walk (w : World) (q0 : Int) (A0 : Option Addr) (c0 : Nat) (zs : List MsgT) (h : RdK msgTy w A0 zs.length zs) (hu : ∀ x ∈ zs, MsgR w x) (hN : zs.length ≤ 140737488351232) :
    Calls Try.prog 8 #[.int .i64 q0, .slice A0 zs.length c0] w fun e w' => e = .returned (.bool true) ∧ Chg [] w w' := by
  have AW := Lib.hid (fun W => l19awakeB_run W)
  have PK := Lib.hid (fun W => pick_any W q0 1000 (by omega) (by omega))
  have p0 := Int.emod_nonneg q0 (show (1000 : Int) ≠ 0 by omega)
  have p1 := Int.emod_lt_of_pos q0 (show (0 : Int) < 1000 by omega)
  generalize q0 % 1000 = q at *
  have HX := Lib.hid h
  have HU := Lib.hid hu
  have NW := Lib.hid (fun W => bxnew_any W q p0 (by omega))
  clear h hu
  go_enter Try.func8, Try.ntmps8
  go_wp2_with fail
  refine (AW.out _).mono ?_
  rintro e w1 ⟨rfl, h1⟩
  have K1 := Lib.hid h1
  clear h1
  go_wp2_with fail
  refine (PK.out _).mono ?_
  rintro e v1 ⟨rfl, rfl⟩
  go_wp2_with fail
  refine (NW.out _).mono ?_
  rintro e w2 ⟨b, rfl, hb, hbl, hc⟩
  have K2 := Lib.hid (K1.out.trans hc)
  have B2 := Lib.hid hb
  have LB : w.heap.size ≤ b := Nat.le_trans K1.out.size hbl
  clear hb hbl hc
  by_cases hl : 40 < zs.length
  · have i1 : (40 : Int) < (zs.length : Int) := by omega
    clear hl
    go_wp2
    go_ret
    exact ⟨rfl, K2.out⟩
  have i1 : ¬ (40 : Int) < (zs.length : Int) := by omega
  have hll : zs.length ≤ 40 := by omega
  clear hl hN
  go_wp2
  go_loopw [8, 9, 10, 11, 12] (fun v8 v9 v10 v11 v12 wr => ∃ (k : Nat) (A : Option Addr) (c : Nat) (st : BoxT), k ≤ zs.length ∧ v8 = .int .i64 (k : Int) ∧ Hid (wr.heap[b]? = some (.cells #[.pointer (some ⟨b, 0, none⟩), .int .i64 q, .int .i64 st.1, .int .i64 st.2.1, .slice A st.2.2.length c] 51 (0, 0))) ∧ Hid (OwnB wr A c st.2.2) ∧ Hid (InvC q st) ∧ Hid (∀ x, A = some x → w.heap.size ≤ x.block) ∧ Hid (Chg [] w wr)) (fun v8 _ _ _ _ _ => zs.length - (RowKit.intOf v8).toNat)
  case atStart => exact ⟨0, none, 0, (0, 0, []), Nat.zero_le _, rfl, B2, Lib.hid (OwnB.none_ _), Lib.hid (by unfold InvC; simp; omega), Lib.hid (by simp), K2⟩
  case round =>
    obtain ⟨k, A, c, st, hk, rfl, HB, HO, HI, HA, HC⟩ := hrel
    obtain ⟨it, sz, xs⟩ := st
    simp only at HB HO
    generalize wr = w3 at *
    clear wr
    have k1 : IntKind.i64.wrap ((k : Int) + 1) = (k : Int) + 1 := IntWalk.i64_in _ (by omega)
    have i0 : (0 : Int) ≤ (k : Int) := by omega
    by_cases hlt : k < zs.length
    · have i2 : (k : Int) < (zs.length : Int) := by omega
      have ey := List.getElem?_eq_getElem hlt
      have hr := HU.out _ (List.getElem_mem hlt)
      generalize zs[k] = x at *
      obtain ⟨m1, m2, m3, m4, MA, mn, md⟩ := x
      obtain ⟨ys, hy, hyn, _, _⟩ := hr
      simp only at hy hyn
      obtain ⟨g, o, eA, _⟩ := HX.out.line (by omega)
      subst eA
      have CE := Lib.hid (fun (w' : World) (hc : Chg [] w w') => msgCells (HX.out.chg hc (by simp)) ey)
      clear ey
      have YO := hy.old
      have HY := Lib.hid (hy.chg HC.out (by simp))
      have IT := Lib.hid (bxitem_any w3 b q it sz A xs.length c HB.out)
      have US := Lib.hid (bxused_any w3 b q it sz A xs.length c HB.out)
      obtain ⟨R, hR⟩ : ∃ R, putC q (it, sz, xs) m1 m2 m3 m4 ys = R := ⟨_, rfl⟩
      have PT := Lib.hid (bxput_any w3 b q it sz A c xs m1 m2 m3 m4 MA mn md ys HB.out HO.out HI.out.2.2.1 HY.out hyn (fun hne x hx => by rcases YO with e | e; exact absurd e hne; have := e x hx; intro hm; rcases List.mem_cons.1 hm with h | h; omega; obtain ⟨y, hy, e⟩ := of_blkOf h; have := HA.out y hy; omega) R hR)
      have hinv := putC_inv (k := m1) (i := m2) (s := m3) (a := m4) (ys := ys) p0 HI.out
      have hkeep := putC_keeps (q := q) (st := (it, sz, xs)) (k := m1) (i := m2) (s := m3) (a := m4) (ys := ys)
      rw [hR] at hinv hkeep
      have INV := Lib.hid hinv
      have KEEP := Lib.hid hkeep
      clear hR hinv hkeep hy YO
      obtain ⟨out, er, it2, sz2, xs2⟩ := R
      simp only at PT KEEP
      have u0 : ¬ q < (xs2.length : Int) := by have := INV.out.1; simp only at this; omega
      obtain ⟨t0, t1, t2, t3, t4⟩ := CE.out _ HC.out
      (try simp only at t0 t1 t2 t3 t4)
      by_cases h0 : er = 0
      · subst h0
        have e0 : ((0 : Int) != 0) = false := by decide
        have e2 : ((0 : Int) == 2) = false := by decide
        go_wp2_with fail
        refine IT.out.mono ?_
        rintro e v ⟨rfl, rfl⟩
        go_wp2_with fail
        refine US.out.mono ?_
        rintro e v ⟨rfl, rfl⟩
        go_wp2_with fail
        refine PT.out.mono ?_
        rintro e w4 ⟨A1, c1, A2, c2, rfl, o1, hb4, o2, n1, n2, f1, f2, hc⟩
        clear t0 t1 t2 t3 t4
        have C4 := Lib.hid (HC.out.trans' hc (fun i hi => .inr (by rcases List.mem_cons.1 hi with h | h; omega; obtain ⟨y, hy, e⟩ := of_blkOf h; have := HA.out y hy; omega)))
        have B4 := Lib.hid hb4
        have O4 := Lib.hid o2
        have A4 := Lib.hid (show ∀ x, A2 = some x → w.heap.size ≤ x.block by intro x hx; rcases f2 x hx with e | e; exact HA.out x (e ▸ hx); exact Nat.le_trans HC.out.size e)
        have IT4 := Lib.hid (bxitem_any w4 b q it2 sz2 A2 xs2.length c2 B4.out)
        have US4 := Lib.hid (bxused_any w4 b q it2 sz2 A2 xs2.length c2 B4.out)
        clear o1 hb4 o2 n1 n2 f1 f2 hc
        obtain ⟨t0, t1, t2, t3, t4⟩ := CE.out _ C4.out
        (try simp only at t0 t1 t2 t3 t4)
        go_wp2_with fail
        refine US4.out.mono ?_
        rintro e v ⟨rfl, rfl⟩
        go_wp2
        exact ⟨⟨k + 1, A2, c2, (it2, sz2, xs2), by omega, by simp, B4, O4, INV, A4, C4⟩, by simp [RowKit.intOf]; omega⟩
      have e0 : (er != 0) = true := by simpa using h0
      by_cases h2 : er = 2
      · subst h2
        have e2 : ((2 : Int) == 2) = true := by decide
        have hs := KEEP.out (by decide) (.inr rfl)
        simp only [Prod.mk.injEq] at hs
        obtain ⟨rfl, rfl, rfl⟩ := hs
        have g0 : (it2 != it2) = false := by simp
        have g1 : ((xs2.length : Int) != (xs2.length : Int)) = false := by simp
        by_cases ha : m4 = 0
        · have e1 : (m4 != 0) = false := by simpa using ha
          clear ha
          go_wp2_with fail
          refine IT.out.mono ?_
          rintro e v ⟨rfl, rfl⟩
          go_wp2_with fail
          refine US.out.mono ?_
          rintro e v ⟨rfl, rfl⟩
          go_wp2_with fail
          refine PT.out.mono ?_
          rintro e w4 ⟨A1, c1, A2, c2, rfl, o1, hb4, o2, n1, n2, f1, f2, hc⟩
          clear t0 t1 t2 t3 t4
          have C4 := Lib.hid (HC.out.trans' hc (fun i hi => .inr (by rcases List.mem_cons.1 hi with h | h; omega; obtain ⟨y, hy, e⟩ := of_blkOf h; have := HA.out y hy; omega)))
          have B4 := Lib.hid hb4
          have O4 := Lib.hid o2
          have A4 := Lib.hid (show ∀ x, A2 = some x → w.heap.size ≤ x.block by intro x hx; rcases f2 x hx with e | e; exact HA.out x (e ▸ hx); exact Nat.le_trans HC.out.size e)
          have IT4 := Lib.hid (bxitem_any w4 b q it2 sz2 A2 xs2.length c2 B4.out)
          have US4 := Lib.hid (bxused_any w4 b q it2 sz2 A2 xs2.length c2 B4.out)
          clear o1 hb4 o2 n1 n2 f1 f2 hc
          obtain ⟨t0, t1, t2, t3, t4⟩ := CE.out _ C4.out
          (try simp only at t0 t1 t2 t3 t4)
          go_wp2_with fail
          refine US4.out.mono ?_
          rintro e v ⟨rfl, rfl⟩
          go_wp2_with fail
          refine IT4.out.mono ?_
          rintro e v ⟨rfl, rfl⟩
          go_wp2_with fail
          refine US4.out.mono ?_
          rintro e v ⟨rfl, rfl⟩
          go_wp2
          exact ⟨⟨k + 1, A2, c2, (it2, sz2, xs2), by omega, by simp, B4, O4, INV, A4, C4⟩, by simp [RowKit.intOf]; omega⟩
        have e1 : (m4 != 0) = true := by simpa using ha
        clear ha
        go_wp2_with fail
        refine IT.out.mono ?_
        rintro e v ⟨rfl, rfl⟩
        go_wp2_with fail
        refine US.out.mono ?_
        rintro e v ⟨rfl, rfl⟩
        go_wp2_with fail
        refine PT.out.mono ?_
        rintro e w4 ⟨A1, c1, A2, c2, rfl, o1, hb4, o2, n1, n2, f1, f2, hc⟩
        clear t0 t1 t2 t3 t4
        have C4 := Lib.hid (HC.out.trans' hc (fun i hi => .inr (by rcases List.mem_cons.1 hi with h | h; omega; obtain ⟨y, hy, e⟩ := of_blkOf h; have := HA.out y hy; omega)))
        have B4 := Lib.hid hb4
        have O4 := Lib.hid o2
        have A4 := Lib.hid (show ∀ x, A2 = some x → w.heap.size ≤ x.block by intro x hx; rcases f2 x hx with e | e; exact HA.out x (e ▸ hx); exact Nat.le_trans HC.out.size e)
        have IT4 := Lib.hid (bxitem_any w4 b q it2 sz2 A2 xs2.length c2 B4.out)
        have US4 := Lib.hid (bxused_any w4 b q it2 sz2 A2 xs2.length c2 B4.out)
        clear o1 hb4 o2 n1 n2 f1 f2 hc
        obtain ⟨t0, t1, t2, t3, t4⟩ := CE.out _ C4.out
        (try simp only at t0 t1 t2 t3 t4)
        go_wp2_with fail
        refine US4.out.mono ?_
        rintro e v ⟨rfl, rfl⟩
        go_wp2_with fail
        refine IT4.out.mono ?_
        rintro e v ⟨rfl, rfl⟩
        go_wp2_with fail
        refine US4.out.mono ?_
        rintro e v ⟨rfl, rfl⟩
        go_wp2_with fail
        refine IT4.out.mono ?_
        rintro e v ⟨rfl, rfl⟩
        go_wp2_with fail
        refine US4.out.mono ?_
        rintro e v ⟨rfl, rfl⟩
        go_wp2
        exact ⟨⟨k + 1, A2, c2, (it2, sz2, xs2), by omega, by simp, B4, O4, INV, A4, C4⟩, by simp [RowKit.intOf]; omega⟩
      have e2 : (er == 2) = false := by simpa using h2
      by_cases ha : m4 = 0
      · have e1 : (m4 != 0) = false := by simpa using ha
        clear ha
        go_wp2_with fail
        refine IT.out.mono ?_
        rintro e v ⟨rfl, rfl⟩
        go_wp2_with fail
        refine US.out.mono ?_
        rintro e v ⟨rfl, rfl⟩
        go_wp2_with fail
        refine PT.out.mono ?_
        rintro e w4 ⟨A1, c1, A2, c2, rfl, o1, hb4, o2, n1, n2, f1, f2, hc⟩
        clear t0 t1 t2 t3 t4
        have C4 := Lib.hid (HC.out.trans' hc (fun i hi => .inr (by rcases List.mem_cons.1 hi with h | h; omega; obtain ⟨y, hy, e⟩ := of_blkOf h; have := HA.out y hy; omega)))
        have B4 := Lib.hid hb4
        have O4 := Lib.hid o2
        have A4 := Lib.hid (show ∀ x, A2 = some x → w.heap.size ≤ x.block by intro x hx; rcases f2 x hx with e | e; exact HA.out x (e ▸ hx); exact Nat.le_trans HC.out.size e)
        have IT4 := Lib.hid (bxitem_any w4 b q it2 sz2 A2 xs2.length c2 B4.out)
        have US4 := Lib.hid (bxused_any w4 b q it2 sz2 A2 xs2.length c2 B4.out)
        clear o1 hb4 o2 n1 n2 f1 f2 hc
        obtain ⟨t0, t1, t2, t3, t4⟩ := CE.out _ C4.out
        (try simp only at t0 t1 t2 t3 t4)
        go_wp2_with fail
        refine US4.out.mono ?_
        rintro e v ⟨rfl, rfl⟩
        go_wp2
        exact ⟨⟨k + 1, A2, c2, (it2, sz2, xs2), by omega, by simp, B4, O4, INV, A4, C4⟩, by simp [RowKit.intOf]; omega⟩
      have e1 : (m4 != 0) = true := by simpa using ha
      have hs := KEEP.out (h0) (.inl ha)
      simp only [Prod.mk.injEq] at hs
      obtain ⟨rfl, rfl, rfl⟩ := hs
      have g0 : (it2 != it2) = false := by simp
      have g1 : ((xs2.length : Int) != (xs2.length : Int)) = false := by simp
      clear ha
      go_wp2_with fail
      refine IT.out.mono ?_
      rintro e v ⟨rfl, rfl⟩
      go_wp2_with fail
      refine US.out.mono ?_
      rintro e v ⟨rfl, rfl⟩
      go_wp2_with fail
      refine PT.out.mono ?_
      rintro e w4 ⟨A1, c1, A2, c2, rfl, o1, hb4, o2, n1, n2, f1, f2, hc⟩
      clear t0 t1 t2 t3 t4
      have C4 := Lib.hid (HC.out.trans' hc (fun i hi => .inr (by rcases List.mem_cons.1 hi with h | h; omega; obtain ⟨y, hy, e⟩ := of_blkOf h; have := HA.out y hy; omega)))
      have B4 := Lib.hid hb4
      have O4 := Lib.hid o2
      have A4 := Lib.hid (show ∀ x, A2 = some x → w.heap.size ≤ x.block by intro x hx; rcases f2 x hx with e | e; exact HA.out x (e ▸ hx); exact Nat.le_trans HC.out.size e)
      have IT4 := Lib.hid (bxitem_any w4 b q it2 sz2 A2 xs2.length c2 B4.out)
      have US4 := Lib.hid (bxused_any w4 b q it2 sz2 A2 xs2.length c2 B4.out)
      clear o1 hb4 o2 n1 n2 f1 f2 hc
      obtain ⟨t0, t1, t2, t3, t4⟩ := CE.out _ C4.out
      (try simp only at t0 t1 t2 t3 t4)
      go_wp2_with fail
      refine US4.out.mono ?_
      rintro e v ⟨rfl, rfl⟩
      go_wp2_with fail
      refine IT4.out.mono ?_
      rintro e v ⟨rfl, rfl⟩
      go_wp2_with fail
      refine US4.out.mono ?_
      rintro e v ⟨rfl, rfl⟩
      go_wp2
      exact ⟨⟨k + 1, A2, c2, (it2, sz2, xs2), by omega, by simp, B4, O4, INV, A4, C4⟩, by simp [RowKit.intOf]; omega⟩
    · obtain rfl : k = zs.length := by omega
      have i2 : ¬ (zs.length : Int) < (zs.length : Int) := by omega
      go_wp2
      go_ret
      exact ⟨rfl, HC.out⟩

theorem chunkroom_yes (w : World) (q : Int) (A : Option Addr) (m c : Nat) (zs : List MsgT) (h : RdK msgTy w A m zs) (hu : ∀ x ∈ zs, MsgR w x) (hm : m * 56 ≤ 140737488351232) :
    Calls Try.prog 8 #[.int .i64 q, .slice A m c] w fun e w' => e = .returned (.bool true) ∧ Chg [] w w' := by
  have hl := h.len
  subst hl
  exact chunkroom_walk w q A c zs h hu (by omega)
end Go.Proofs.Ytnpilljjkfjjiaa
