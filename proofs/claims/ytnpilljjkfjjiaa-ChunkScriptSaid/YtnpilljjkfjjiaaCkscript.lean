/- ChunkScript, walked. -/
import Derived.Test.YtnpilljjkfjjiaaCknew
import Derived.Test.YtnpilljjkfjjiaaCkputq
import Derived.Test.YtnpilljjkfjjiaaMsgargs
import Derived.Test.YtnpilljjkfjjiaaBoolargs
namespace Go.Proofs.Ytnpilljjkfjjiaa
open Go.RowKit
set_option linter.unusedSimpArgs false
set_option linter.unusedVariables false



theorem bqnew_bad (w : World) (q : Int) (h : q < 0 ∨ 60000 < q) : Calls Try.prog 17 #[.int .i64 q] w fun e w' => e = .returned (.tuple #[.pointer none, .int .i64 2]) ∧ w' = w := by
  by_cases h0 : q < 0
  · clear h
    go_enter Try.func17, Try.ntmps17
    go_wp2
    go_ret2
    exact ⟨rfl, rfl⟩
  · have h1 : 60000 < q := by omega
    clear h
    go_enter Try.func17, Try.ntmps17
    go_wp2
    go_ret2
    exact ⟨rfl, rfl⟩
theorem bqnew_any (w : World) (q : Int) (h0 : 0 ≤ q) (h1 : q ≤ 60000) : Calls Try.prog 17 #[.int .i64 q] w fun e w' => ∃ b, e = .returned (.tuple #[.pointer (some ⟨b, 0, none⟩), .int .i64 0]) ∧ w'.heap[b]? = some (.cells #[.int .i64 q, .int .i64 0, .int .i64 0, .slice none 0 0] 48 (0, 0)) ∧ w.heap.size ≤ b ∧ Chg [] w w' := by
  have i0 : ¬ q < 0 := by omega
  have i1 : ¬ 60000 < q := by omega
  obtain ⟨w1, hw1, c1, b1⟩ := news1 w (.cells #[.int .i64 q, .int .i64 0, .int .i64 0, .slice none 0 0] 48)
  have W1 := Lib.hid hw1
  have B1 := Lib.hid b1
  have C1 := Lib.hid c1
  clear h0 h1 hw1 c1 b1
  go_enter Try.func17, Try.ntmps17
  go_wp2
  go_ret2
  rw [← W1.out]
  exact ⟨w.heap.size, rfl, B1.out, Nat.le_refl _, C1.out⟩

set_option maxRecDepth 100000 in
set_option maxHeartbeats 16000000 in
theorem chunkscript_walk (w : World) (q : Int) (A0 : Option Addr) (c0 : Nat) (zs : List MsgT) (D0 : Option Addr) (d0 : Nat) (ds : List Bool) (h : RdK msgTy w A0 zs.length zs) (hu : ∀ x ∈ zs, MsgR w x) (hd : RdK boolTy w D0 ds.length ds) (hN : zs.length ≤ 140737488351232) (hM : ds.length ≤ 140737488351232) :
    Calls Try.prog 4 #[.int .i64 q, .slice A0 zs.length c0, .slice D0 ds.length d0] w fun e w' => e = .returned (.bool true) ∧ Chg [] w w' := by
  have AW := Lib.hid (fun W => l19awakeB_run W)
  have HX := Lib.hid h
  have HU := Lib.hid hu
  have HD := Lib.hid hd
  clear h hu hd
  go_enter Try.func4, Try.ntmps4
  go_wp2
  go_loopw [7] (fun v7 wr => ∃ k : Nat, k ≤ zs.length ∧ v7 = .int .i64 (k : Int) ∧ w = wr) (fun v7 _ => zs.length - (RowKit.intOf v7).toNat)
  case atStart => exact ⟨0, Nat.zero_le _, rfl, rfl⟩
  case round =>
    obtain ⟨k, hk, rfl, rfl⟩ := hrel
    have k1 : IntKind.i64.wrap ((k : Int) + 1) = (k : Int) + 1 := IntWalk.i64_in _ (by omega)
    have i0 : (0 : Int) ≤ (k : Int) := by omega
    by_cases hlt : k < zs.length
    · have i2 : (k : Int) < (zs.length : Int) := by omega
      have ey := List.getElem?_eq_getElem hlt
      generalize zs[k] = x at *
      obtain ⟨m1, m2, m3, m4, MA, mn, md⟩ := x
      obtain ⟨g, o, eA, _⟩ := HX.out.line (by omega)
      subst eA
      obtain ⟨_, _, _, _, t4⟩ := msgCells HX.out ey
      simp only at t4
      clear ey
      by_cases hbig : 400 < mn
      · have b1 : (400 : Int) < (mn : Int) := by omega
        clear hbig
        go_wp2_with fail
        refine (AW.out _).mono ?_
        rintro e w2 ⟨rfl, hc⟩
        have K2 := Lib.hid hc
        clear hc
        go_wp2
        go_ret
        exact ⟨rfl, K2.out⟩
      have b1 : ¬ (400 : Int) < (mn : Int) := by omega
      clear hbig
      go_wp2
      exact ⟨⟨k + 1, by omega, by simp, trivial⟩, by simp [RowKit.intOf]; omega⟩
    · obtain rfl : k = zs.length := by omega
      have i2 : ¬ (zs.length : Int) < (zs.length : Int) := by omega
      clear hlt hk
      by_cases hq : q < 0 ∨ 60000 < q
      · have NW := Lib.hid (bxnew_bad w q hq)
        have NQ := Lib.hid (bqnew_bad w q hq)
        clear hq
        have e0 : ((2 : Int) != 2) = false := by decide
        go_wp2_with fail
        refine NW.out.mono ?_
        rintro e v ⟨rfl, rfl⟩
        go_wp2_with fail
        refine NQ.out.mono ?_
        rintro e v ⟨rfl, rfl⟩
        by_cases hl : 40 < zs.length
        · have j1 : (40 : Int) < (zs.length : Int) := by omega
          go_wp2_with fail
          refine (AW.out _).mono ?_
          rintro e w2 ⟨rfl, hc⟩
          have K2 := Lib.hid hc
          clear hc
          go_wp2
          go_ret
          exact ⟨rfl, K2.out⟩
        · have j1 : ¬ (40 : Int) < (zs.length : Int) := by omega
          go_wp2_with fail
          refine (AW.out _).mono ?_
          rintro e w2 ⟨rfl, hc⟩
          have K2 := Lib.hid hc
          clear hc
          go_wp2
          go_ret
          exact ⟨rfl, K2.out⟩
      have q0 : 0 ≤ q := by omega
      have q6 : q ≤ 60000 := by omega
      have NW := Lib.hid (bxnew_any w q q0 q6)
      have NQ := Lib.hid (fun W => bqnew_any W q q0 q6)
      have e0 : ((0 : Int) != 0) = false := by decide
      clear hq
      go_wp2_with fail
      refine NW.out.mono ?_
      rintro e w1 ⟨b, rfl, hb, hbl, hc⟩
      have B1 := Lib.hid hb
      have K1 := Lib.hid hc
      have LB := hbl
      clear hb hbl hc
      go_wp2_with fail
      refine (NQ.out _).mono ?_
      rintro e w2 ⟨bq, rfl, hb, hbl, hc⟩
      have Q2 := Lib.hid hb
      have B2 := Lib.hid (hc.at_ B1.out (by simp))
      have K2 := Lib.hid (K1.out.trans hc)
      have LQ : w.heap.size ≤ bq := Nat.le_trans K1.out.size hbl
      have LBQ : b < bq := Nat.lt_of_lt_of_le (lt_of_heap B1.out) hbl
      clear hb hbl hc B1 K1 NW NQ
      by_cases hl : 40 < zs.length
      · have j1 : (40 : Int) < (zs.length : Int) := by omega
        go_wp2_with fail
        refine (AW.out _).mono ?_
        rintro e w3 ⟨rfl, hc⟩
        have K3 := Lib.hid (K2.out.trans hc)
        clear hc
        go_wp2
        go_ret
        exact ⟨rfl, K3.out⟩
      have j1 : ¬ (40 : Int) < (zs.length : Int) := by omega
      have hll : zs.length ≤ 40 := by omega
      clear hl hN
      go_wp2
      go_loopw [12, 13, 14, 15, 16, 17] (fun v12 v13 v14 v15 v16 v17 ww => ∃ (k : Nat) (A : Option Addr) (c : Nat) (Aq : Option Addr) (cq : Nat) (st : BoxT), k ≤ zs.length ∧ v12 = .int .i64 (k : Int) ∧ Hid (ww.heap[b]? = some (.cells #[.pointer (some ⟨b, 0, none⟩), .int .i64 q, .int .i64 st.1, .int .i64 st.2.1, .slice A st.2.2.length c] 51 (0, 0))) ∧ Hid (OwnB ww A c st.2.2) ∧ Hid (ww.heap[bq]? = some (.cells #[.int .i64 q, .int .i64 st.1, .int .i64 st.2.1, .slice Aq st.2.2.length cq] 48 (0, 0))) ∧ Hid (OwnB ww Aq cq st.2.2) ∧ Hid (InvC q st) ∧ Hid (∀ x, A = some x → w.heap.size ≤ x.block) ∧ Hid (∀ x, Aq = some x → w.heap.size ≤ x.block) ∧ Hid (∀ x y, A = some x → Aq = some y → x.block ≠ y.block) ∧ Hid (Chg [] w ww)) (fun v12 _ _ _ _ _ _ => zs.length - (RowKit.intOf v12).toNat)
      case atStart => exact ⟨0, none, 0, none, 0, (0, 0, []), Nat.zero_le _, rfl, B2, Lib.hid (OwnB.none_ _), Q2, Lib.hid (OwnB.none_ _), Lib.hid (by unfold InvC; simp; omega), Lib.hid (by simp), Lib.hid (by simp), Lib.hid (by simp), K2⟩
      case round =>
        obtain ⟨k, A, c, Aq, cq, st, hk, rfl, HB, HO, HBQ, HOQ, HI, HA, HAQ, AP, HC⟩ := hrel
        obtain ⟨it, sz, xs⟩ := st
        simp only at HB HO HBQ HOQ
        generalize wr = w3 at *
        clear wr
        have k1 : IntKind.i64.wrap ((k : Int) + 1) = (k : Int) + 1 := IntWalk.i64_in _ (by omega)
        have i0 : (0 : Int) ≤ (k : Int) := by omega
        by_cases hlt : k < zs.length
        · have i2 : (k : Int) < (zs.length : Int) := by omega
          have ey := List.getElem?_eq_getElem hlt
          have hr := HU.out _ (List.getElem_mem hlt)
          generalize zs[k] = x at *
          obtain ⟨m1, m2, m3, m4, MA, mn, md⟩ := x
          obtain ⟨ys, hy, hyn, _, _⟩ := hr
          simp only at hy hyn
          obtain ⟨g, o, eA, _⟩ := HX.out.line (by omega)
          subst eA
          have CE := Lib.hid (fun (w' : World) (hc : Chg [] w w') => msgCells (HX.out.chg hc (by simp)) ey)
          simp only at CE
          have YO := Lib.hid hy.old
          have HY := Lib.hid (fun (w' : World) (hc : Chg [] w w') => hy.chg hc (by simp))
          clear ey hy
          by_cases hdk : k < ds.length
          · have d1 : (k : Int) < (ds.length : Int) := by omega
            have eb := List.getElem?_eq_getElem hdk
            generalize ds[k] = bv at *
            obtain ⟨gd, od, eD, _⟩ := HD.out.line (by omega)
            subst eD
            have zb := boolCells (HD.out.chg HC.out (by simp)) eb
            clear eb
            cases bv with
            | true =>
              go_wp2_with fail
              refine (bxdrop_any _ b q it sz A xs.length c HB.out).mono ?_
              rintro e u4 ⟨rfl, hb4, hc⟩
              have D4 := Lib.hid (HC.out.trans' hc (fun i hi => .inr (by simp at hi; omega)))
              have E4 := Lib.hid hb4
              have F4 := Lib.hid (hc.at_ HBQ.out (by simp; omega))
              clear hb4 hc
              go_wp2_with fail
              refine (bqdrop_any _ bq q it sz Aq xs.length cq F4.out).mono ?_
              rintro e u5 ⟨rfl, hb5, hc⟩
              have D5 := Lib.hid (D4.out.trans' hc (fun i hi => .inr (by simp at hi; omega)))
              have E5 := Lib.hid (hc.at_ E4.out (by simp; omega))
              have F5 := Lib.hid hb5
              clear hb5 hc HB HO HBQ HOQ HA HAQ AP HC HI D4 E4 F4
              have HC := D5
              have HB := E5
              have HBQ := F5
              have HO := Lib.hid (OwnB.none_ u5)
              have HOQ := Lib.hid (OwnB.none_ u5)
              have HI : Hid (InvC q (0, 0, [])) := Lib.hid (by unfold InvC; simp; omega)
              have HA : Hid (∀ x, (none : Option Addr) = some x → w.heap.size ≤ x.block) := Lib.hid (by simp)
              have HAQ : Hid (∀ x, (none : Option Addr) = some x → w.heap.size ≤ x.block) := Lib.hid (by simp)
              have AP : Hid (∀ x y, (none : Option Addr) = some x → (none : Option Addr) = some y → x.block ≠ y.block) := Lib.hid (by simp)
              skip
              clear D5 E5 F5
              skip
              clear zb
              obtain ⟨R, hR⟩ : ∃ R, putC q (0, 0, []) m1 m2 m3 m4 ys = R := ⟨_, rfl⟩
              have hinv := putC_inv (k := m1) (i := m2) (s := m3) (a := m4) (ys := ys) q0 HI.out
              have hlen := putC_len (q := q) (k := m1) (i := m2) (s := m3) (a := m4) (ys := ys) HI.out
              rw [hR] at hinv hlen
              have INV := Lib.hid hinv
              have hx6 := HI.out.2.2.1
              simp only at hx6
              have PT := Lib.hid (fun (W : World) A' n' d' hb ho hr hn hB => bxput_any W b q 0 0 none 0 [] m1 m2 m3 m4 A' n' d' ys hb ho hx6 hr hn hB R hR)
              have PQ := Lib.hid (fun (W : World) hb ho hr hB => bqput_any W bq q 0 0 none 0 [] m1 m2 m3 m4 MA mn md ys hb ho hx6 hr hyn hB R hR)
              clear hR hinv
              obtain ⟨out, er, it2, sz2, xs2⟩ := R
              simp only at PT PQ INV hlen
              obtain ⟨t0, t1, t2, t3, t4⟩ := CE.out _ HC.out
              go_wp2_with fail
              refine (copym_any u5 m1 m2 m3 m4 MA mn md ys (HY.out _ HC.out) hyn).mono ?_
              rintro e w4 ⟨A4, c4, rfl, o4, n4, hc⟩
              clear t0 t1 t2 t3 t4
              have C4 := Lib.hid (HC.out.trans hc)
              have B4 := Lib.hid (hc.at_ HB.out (by simp))
              have Q4 := Lib.hid (hc.at_ HBQ.out (by simp))
              have O4 := Lib.hid (HO.out.chg hc (by simp))
              have P4 := Lib.hid (HOQ.out.chg hc (by simp))
              have I4 := Lib.hid o4
              have N4 := Lib.hid n4
              have Z4 := Lib.hid hc.size
              have LA := Lib.hid HO.out.lt
              have LAQ := Lib.hid HOQ.out.lt
              have Lb := lt_of_heap HB.out
              have Lq := lt_of_heap HBQ.out
              clear hc o4 n4
              obtain ⟨w6, hw6, c5, m5⟩ := news1 w4 (.cells #[.int .i64 m1, .int .i64 m2, .int .i64 m3, .int .i64 m4, .slice A4 mn c4] 32)
              have W6 := Lib.hid hw6
              have ch5 := Lib.hid c5
              have M5 := Lib.hid m5
              clear hw6 c5 m5
              go_upto_region 19 with fail
              (try rw [← W6.out])
              generalize hgi2 : w4.heap.size = gi at *
              have C6 := Lib.hid (C4.out.trans ch5.out)
              have B6 := Lib.hid (ch5.out.at_ B4.out (by simp))
              have Q6 := Lib.hid (ch5.out.at_ Q4.out (by simp))
              have O6 := Lib.hid (O4.out.chg ch5.out (by simp))
              have P6 := Lib.hid (P4.out.chg ch5.out (by simp))
              have I6 := Lib.hid (I4.out.chg ch5.out (by simp))
              have LI := Lib.hid I4.out.lt
              have Z6 := Lib.hid ch5.out.size
              have LM := lt_of_heap M5.out
              clear B4 Q4 O4 P4 I4 C4 ch5 W6
              have z0 := cell_of M5.out 0
              have z1 := cell_of M5.out 1
              have z2 := cell_of M5.out 2
              have z3 := cell_of M5.out 3
              have z4 := cell_of M5.out 4
              simp only [List.getElem?_toArray, List.getElem?_cons_succ, List.getElem?_cons_zero] at z0 z1 z2 z3 z4
              go_wp2_with fail
              refine (PT.out _ A4 mn c4 B6.out O6.out (by have := I6.out.reads; have e : ys.length = mn := (HY.out _ HC.out).len; rw [e] at this; exact this) hyn (fun _ x hx hm => by have := N4.out x hx; rcases List.mem_cons.1 hm with h | h; omega; obtain ⟨y, hy, e⟩ := of_blkOf h; have := LA.out y hy; omega)).mono ?_
              rintro e w7 ⟨A1, c1, A2, c2, rfl, o1, hb7, o2, n1, n2, f1, f2, hc⟩
              clear z0 z1 z2 z3 z4
              have H7 := Lib.hid hc
              have C7 := Lib.hid (C6.out.trans' hc (fun i hi => .inr (by rcases List.mem_cons.1 hi with h | h; omega; obtain ⟨y, hy, e⟩ := of_blkOf h; have := HA.out y hy; omega)))
              have B7 := Lib.hid hb7
              have Q7 := Lib.hid (hc.at_ Q6.out (by intro hm; rcases List.mem_cons.1 hm with h | h; omega; obtain ⟨y, hy, e⟩ := of_blkOf h; exact HO.out.ne HB.out (by decide) y hy |> fun _ => O6.out.ne Q6.out (by decide) y hy e))
              have M7 := Lib.hid (hc.at_ M5.out (by intro hm; have := Z4.out; rcases List.mem_cons.1 hm with h | h; omega; obtain ⟨y, hy, e⟩ := of_blkOf h; exact O6.out.ne M5.out (by decide) y hy e))
              have P7 := Lib.hid (P6.out.chg hc (fun y hy hm => by rcases List.mem_cons.1 hm with h | h; exact P6.out.ne B6.out (by decide) y hy h; obtain ⟨x, hx, e⟩ := of_blkOf h; exact AP.out x y hx hy e))
              have I7 := Lib.hid (I6.out.chg hc (fun y hy hm => by have := N4.out y hy; rcases List.mem_cons.1 hm with h | h; omega; obtain ⟨x, hx, e⟩ := of_blkOf h; have := LA.out x hx; omega))
              have U7 := Lib.hid o1
              have O7 := Lib.hid o2
              have X1 := Lib.hid n1
              have X2 := Lib.hid n2
              have F1 := Lib.hid f1
              have F2 := Lib.hid f2
              have Z7 := Lib.hid hc.size
              have LU := Lib.hid o1.lt
              have LO2 := Lib.hid o2.lt
              clear hc hb7 o1 o2 n1 n2 f1 f2 B6 Q6 O6 P6 I6 M5
              obtain ⟨t0, t1, t2, t3, t4⟩ := CE.out _ C7.out
              go_wp2_with fail
              refine (PQ.out _ Q7.out P7.out (HY.out _ C7.out) (fun hne x hx hm => by rcases YO.out with e | e; exact absurd e hne; have := e x hx; rcases List.mem_cons.1 hm with h | h; omega; obtain ⟨y, hy, e⟩ := of_blkOf h; have := HAQ.out y hy; omega)).mono ?_
              rintro e w8 ⟨B1, d1, B2, d2, rfl, o1, hb8, o2, n1, n2, f1, f2, hc⟩
              clear t0 t1 t2 t3 t4
              have C8 := Lib.hid (C7.out.trans' hc (fun i hi => .inr (by rcases List.mem_cons.1 hi with h | h; omega; obtain ⟨y, hy, e⟩ := of_blkOf h; have := HAQ.out y hy; omega)))
              have Q8 := Lib.hid hb8
              have B8 := Lib.hid (hc.at_ B7.out (by intro hm; rcases List.mem_cons.1 hm with h | h; omega; obtain ⟨y, hy, e⟩ := of_blkOf h; exact P7.out.ne B7.out (by decide) y hy e))
              have M8 := Lib.hid (hc.at_ M7.out (by intro hm; have := Z4.out; rcases List.mem_cons.1 hm with h | h; omega; obtain ⟨y, hy, e⟩ := of_blkOf h; exact P7.out.ne M7.out (by decide) y hy e))
              have D1 := Lib.hid (show ∀ x y, A1 = some x → (none : Option Addr) = some y → x.block ≠ y.block by intro x y hx hy; have := LAQ.out y hy; have := Z4.out; have := Z6.out; rcases F1.out x hx with e | e; exact AP.out x y (e ▸ hx) hy; omega)
              have D2 := Lib.hid (show ∀ x y, A2 = some x → (none : Option Addr) = some y → x.block ≠ y.block by intro x y hx hy; have := LAQ.out y hy; have := Z4.out; have := Z6.out; rcases F2.out x hx with e | e; exact AP.out x y (e ▸ hx) hy; omega)
              have U8 := Lib.hid (U7.out.chg hc (fun x hx hm => by rcases List.mem_cons.1 hm with h | h; exact U7.out.ne Q7.out (by decide) x hx h; obtain ⟨y, hy, e⟩ := of_blkOf h; exact D1.out x y hx hy e.symm))
              have O8 := Lib.hid (O7.out.chg hc (fun x hx hm => by rcases List.mem_cons.1 hm with h | h; exact O7.out.ne Q7.out (by decide) x hx h; obtain ⟨y, hy, e⟩ := of_blkOf h; exact D2.out x y hx hy e.symm))
              have I8 := Lib.hid (I7.out.chg hc (fun y hy hm => by have := N4.out y hy; rcases List.mem_cons.1 hm with h | h; omega; obtain ⟨x, hx, e⟩ := of_blkOf h; have := LAQ.out x hx; omega))
              have V8 := Lib.hid o1
              have P8 := Lib.hid o2
              have Y1 := Lib.hid n1
              have Y2 := Lib.hid n2
              have G2 := Lib.hid f2
              have Z8 := Lib.hid hc.size
              clear hc hb8 o1 o2 n1 n2 f1 f2 Q7 B7 M7 P7 U7 O7 I7 H7 PT PQ
              have e1 : (er != er) = false := by simp
              have e2 : (it2 != it2) = false := by simp
              have e3 : ((xs2.length : Int) != (xs2.length : Int)) = false := by simp
              have CM := Lib.hid (fun (W : World) (hc : Chg [] w8 W) => (have b := hc.at_ M8.out (by simp); (⟨cell_of b 0, cell_of b 1, cell_of b 2, cell_of b 3, cell_of b 4⟩ : _ ∧ _ ∧ _ ∧ _ ∧ _)))
              simp only [List.getElem?_toArray, List.getElem?_cons_succ, List.getElem?_cons_zero] at CM
              have CQ := Lib.hid (fun (W : World) (hc : Chg [] w8 W) => (have b := hc.at_ Q8.out (by simp); (⟨cell_of b 1, cell_of b 3⟩ : _ ∧ _)))
              simp only [List.getElem?_toArray, List.getElem?_cons_succ, List.getElem?_cons_zero] at CQ
              have CB := Lib.hid (fun (W : World) (hc : Chg [] w8 W) => hc.at_ B8.out (by simp))
              go_upto_region 21 with fail
              refine wp_region_held_drew (S := fun w' => Chg [] w8 w') (by kernel_rfl) (Chg.refl [] w8).drew (fun hHeld => ?_)
              refine step_yes 0 100 ?_ (by assumption) rfl rfl (by kernel_rfl) (by kernel_rfl) (by kernel_rfl) (fun _ _ _ h => h) (by rfl) ?_ ?_
              rotate_left
              · (intro w hSw; (try dsimp only at hSw); go_simp; try with_reducible rfl)
              try simp only [Act.put, List.setIfInBounds_toArray, List.set_cons_zero, List.set_cons_succ]
              refine step_yes 1 101 ?_ (by assumption) rfl rfl (by kernel_rfl) (by kernel_rfl) (by kernel_rfl) (fun _ _ _ h => h) (by rfl) ?_ ?_
              rotate_left
              · (intro w hSw; (try dsimp only at hSw); go_simp; try with_reducible rfl)
              try simp only [Act.put, List.setIfInBounds_toArray, List.set_cons_zero, List.set_cons_succ]
              refine wpAnyH_ready (rs := [2]) (by kernel_rfl) (by simp) ?_
              refine AllReadyH.cons rfl (fun K hK => ?_) AllReadyH.nil
              replace hK := Lib.hid hK
              go_simp
              have D9 := Lib.hid hHeld
              clear hHeld
              refine (same_yes _ A1 B1 out.length out.length c1 d1 out out (U8.out.reads.chg D9.out (by simp)) (V8.out.reads.chg D9.out (by simp)) rfl).mono ?_
              rintro e w9 ⟨rfl, hw9⟩
              subst hw9
              refine hK.out _ _ D9.out (fun hHeld => ?_)
              clear hK K
              try simp only [Act.put, List.setIfInBounds_toArray, List.set_cons_zero, List.set_cons_succ]
              refine step_yes 3 103 ?_ (by assumption) rfl rfl (by kernel_rfl) (by kernel_rfl) (by kernel_rfl) (fun _ _ _ h => h) (by rfl) ?_ ?_
              rotate_left
              · (intro w hSw; (try dsimp only at hSw); go_simp; try with_reducible rfl)
              try simp only [Act.put, List.setIfInBounds_toArray, List.set_cons_zero, List.set_cons_succ]
              refine step_yes 4 104 ?_ (by assumption) rfl rfl (by kernel_rfl) (by kernel_rfl) (by kernel_rfl) (fun _ _ _ h => h) (by rfl) ?_ ?_
              rotate_left
              · (intro w hSw; (try dsimp only at hSw); go_simp; try with_reducible rfl)
              try simp only [Act.put, List.setIfInBounds_toArray, List.set_cons_zero, List.set_cons_succ]
              refine step_yes 5 105 ?_ (by assumption) rfl rfl (by kernel_rfl) (by kernel_rfl) (by kernel_rfl) (fun _ _ _ h => h) (by rfl) ?_ ?_
              rotate_left
              · (intro w hSw; (try dsimp only at hSw); go_simp; try with_reducible rfl)
              try simp only [Act.put, List.setIfInBounds_toArray, List.set_cons_zero, List.set_cons_succ]
              refine step_yes 6 106 ?_ (by assumption) rfl rfl (by kernel_rfl) (by kernel_rfl) (by kernel_rfl) (fun _ _ _ h => h) (by rfl) ?_ ?_
              rotate_left
              · (intro w hSw; (try dsimp only at hSw); go_simp; try with_reducible rfl)
              try simp only [Act.put, List.setIfInBounds_toArray, List.set_cons_zero, List.set_cons_succ]
              refine step_yes 7 107 ?_ (by assumption) rfl rfl (by kernel_rfl) (by kernel_rfl) (by kernel_rfl) (fun _ _ _ h => h) (by rfl) ?_ ?_
              rotate_left
              · (intro w hSw; (try dsimp only at hSw); go_simp; try with_reducible rfl)
              try simp only [Act.put, List.setIfInBounds_toArray, List.set_cons_zero, List.set_cons_succ]
              refine step_yes 8 108 ?_ (by assumption) rfl rfl (by kernel_rfl) (by kernel_rfl) (by kernel_rfl) (fun _ _ _ h => h) (by rfl) ?_ ?_
              rotate_left
              · (intro w hSw; (try dsimp only at hSw); go_simp; try with_reducible rfl)
              try simp only [Act.put, List.setIfInBounds_toArray, List.set_cons_zero, List.set_cons_succ]
              refine step_yes 9 109 ?_ (by assumption) rfl rfl (by kernel_rfl) (by kernel_rfl) (by kernel_rfl) (fun _ _ _ h => h) (by rfl) ?_ ?_
              rotate_left
              · (intro w hSw; (try dsimp only at hSw); go_simp; try with_reducible rfl)
              try simp only [Act.put, List.setIfInBounds_toArray, List.set_cons_zero, List.set_cons_succ]
              refine step_yes 10 110 ?_ (by assumption) rfl rfl (by kernel_rfl) (by kernel_rfl) (by kernel_rfl) (fun _ _ _ h => h) (by rfl) ?_ ?_
              rotate_left
              · (intro w hSw; (try dsimp only at hSw); obtain ⟨p0, p1, p2, p3, p4⟩ := CM.out _ hSw; go_simp; try with_reducible rfl)
              try simp only [Act.put, List.setIfInBounds_toArray, List.set_cons_zero, List.set_cons_succ]
              refine step_yes 11 111 ?_ (by assumption) rfl rfl (by kernel_rfl) (by kernel_rfl) (by kernel_rfl) (fun _ _ _ h => h) (by rfl) ?_ ?_
              rotate_left
              · (intro w hSw; (try dsimp only at hSw); go_simp; try with_reducible rfl)
              try simp only [Act.put, List.setIfInBounds_toArray, List.set_cons_zero, List.set_cons_succ]
              refine step_yes 12 112 ?_ (by assumption) rfl rfl (by kernel_rfl) (by kernel_rfl) (by kernel_rfl) (fun _ _ _ h => h) (by rfl) ?_ ?_
              rotate_left
              · (intro w hSw; (try dsimp only at hSw); go_simp; try with_reducible rfl)
              try simp only [Act.put, List.setIfInBounds_toArray, List.set_cons_zero, List.set_cons_succ]
              refine step_yes 13 113 ?_ (by assumption) rfl rfl (by kernel_rfl) (by kernel_rfl) (by kernel_rfl) (fun _ _ _ h => h) (by rfl) ?_ ?_
              rotate_left
              · (intro w hSw; (try dsimp only at hSw); go_simp; try with_reducible rfl)
              try simp only [Act.put, List.setIfInBounds_toArray, List.set_cons_zero, List.set_cons_succ]
              refine step_yes 14 114 ?_ (by assumption) rfl rfl (by kernel_rfl) (by kernel_rfl) (by kernel_rfl) (fun _ _ _ h => h) (by rfl) ?_ ?_
              rotate_left
              · (intro w hSw; (try dsimp only at hSw); obtain ⟨p0, p1, p2, p3, p4⟩ := CE.out _ (C8.out.trans hSw); go_simp; try with_reducible rfl)
              try simp only [Act.put, List.setIfInBounds_toArray, List.set_cons_zero, List.set_cons_succ]
              refine wpAnyH_ready (rs := [15]) (by kernel_rfl) (by simp) ?_
              refine AllReadyH.cons rfl (fun K hK => ?_) AllReadyH.nil
              replace hK := Lib.hid hK
              go_simp
              have D9 := Lib.hid hHeld
              clear hHeld
              refine (samem_yes _ m1 m2 m3 m4 A4 MA mn c4 mn md ys (by have := I8.out.reads.chg D9.out (by simp); have e : ys.length = mn := (HY.out _ HC.out).len; rw [e] at this; exact this) (HY.out _ (C8.out.trans D9.out))).mono ?_
              rintro e w9 ⟨rfl, hc⟩
              have E9 := Lib.hid (D9.out.trans hc)
              clear hc D9
              refine hK.out _ _ E9.out (fun hHeld => ?_)
              clear hK K
              try simp only [Act.put, List.setIfInBounds_toArray, List.set_cons_zero, List.set_cons_succ]
              refine step_yes 16 116 ?_ (by assumption) rfl rfl (by kernel_rfl) (by kernel_rfl) (by kernel_rfl) (fun _ _ _ h => h) (by rfl) ?_ ?_
              rotate_left
              · (intro w hSw; (try dsimp only at hSw); go_simp; try with_reducible rfl)
              try simp only [Act.put, List.setIfInBounds_toArray, List.set_cons_zero, List.set_cons_succ]
              refine step_yes 17 117 ?_ (by assumption) rfl rfl (by kernel_rfl) (by kernel_rfl) (by kernel_rfl) (fun _ _ _ h => h) (by rfl) ?_ ?_
              rotate_left
              · (intro w hSw; (try dsimp only at hSw); go_simp; try with_reducible rfl)
              try simp only [Act.put, List.setIfInBounds_toArray, List.set_cons_zero, List.set_cons_succ]
              refine step_yes 18 118 ?_ (by assumption) rfl rfl (by kernel_rfl) (by kernel_rfl) (by kernel_rfl) (fun _ _ _ h => h) (by rfl) ?_ ?_
              rotate_left
              · (intro w hSw; (try dsimp only at hSw); go_simp; try with_reducible rfl)
              try simp only [Act.put, List.setIfInBounds_toArray, List.set_cons_zero, List.set_cons_succ]
              refine step_yes 19 119 ?_ (by assumption) rfl rfl (by kernel_rfl) (by kernel_rfl) (by kernel_rfl) (fun _ _ _ h => h) (by rfl) ?_ ?_
              rotate_left
              · (intro w hSw; (try dsimp only at hSw); go_simp; try with_reducible rfl)
              try simp only [Act.put, List.setIfInBounds_toArray, List.set_cons_zero, List.set_cons_succ]
              refine step_yes 21 121 ?_ (by assumption) rfl rfl (by kernel_rfl) (by kernel_rfl) (by kernel_rfl) (fun _ _ _ h => h) (by rfl) ?_ ?_
              rotate_left
              · (intro w hSw; (try dsimp only at hSw); go_simp; try with_reducible rfl)
              try simp only [Act.put, List.setIfInBounds_toArray, List.set_cons_zero, List.set_cons_succ]
              refine step_yes 22 122 ?_ (by assumption) rfl rfl (by kernel_rfl) (by kernel_rfl) (by kernel_rfl) (fun _ _ _ h => h) (by rfl) ?_ ?_
              rotate_left
              · (intro w hSw; (try dsimp only at hSw); go_simp; try with_reducible rfl)
              try simp only [Act.put, List.setIfInBounds_toArray, List.set_cons_zero, List.set_cons_succ]
              refine step_yes 23 123 ?_ (by assumption) rfl rfl (by kernel_rfl) (by kernel_rfl) (by kernel_rfl) (fun _ _ _ h => h) (by rfl) ?_ ?_
              rotate_left
              · (intro w hSw; (try dsimp only at hSw); go_simp; try with_reducible rfl)
              try simp only [Act.put, List.setIfInBounds_toArray, List.set_cons_zero, List.set_cons_succ]
              refine step_yes 24 124 ?_ (by assumption) rfl rfl (by kernel_rfl) (by kernel_rfl) (by kernel_rfl) (fun _ _ _ h => h) (by rfl) ?_ ?_
              rotate_left
              · (intro w hSw; (try dsimp only at hSw); have p0 := (CQ.out _ hSw).1; go_simp; try with_reducible rfl)
              try simp only [Act.put, List.setIfInBounds_toArray, List.set_cons_zero, List.set_cons_succ]
              refine wpAnyH_ready (rs := [20]) (by kernel_rfl) (by simp) ?_
              refine AllReadyH.cons rfl (fun K hK => ?_) AllReadyH.nil
              replace hK := Lib.hid hK
              go_simp
              have D9 := Lib.hid hHeld
              clear hHeld
              refine (bxitem_any _ b q it2 sz2 A2 xs2.length c2 (CB.out _ D9.out)).mono ?_
              rintro e w9 ⟨rfl, hw9⟩
              subst hw9
              refine hK.out _ _ D9.out (fun hHeld => ?_)
              clear hK K
              try simp only [Act.put, List.setIfInBounds_toArray, List.set_cons_zero, List.set_cons_succ]
              refine step_yes 25 125 ?_ (by assumption) rfl rfl (by kernel_rfl) (by kernel_rfl) (by kernel_rfl) (fun _ _ _ h => h) (by rfl) ?_ ?_
              rotate_left
              · (intro w hSw; (try dsimp only at hSw); go_simp; try with_reducible rfl)
              try simp only [Act.put, List.setIfInBounds_toArray, List.set_cons_zero, List.set_cons_succ]
              refine step_yes 26 126 ?_ (by assumption) rfl rfl (by kernel_rfl) (by kernel_rfl) (by kernel_rfl) (fun _ _ _ h => h) (by rfl) ?_ ?_
              rotate_left
              · (intro w hSw; (try dsimp only at hSw); go_simp; try with_reducible rfl)
              try simp only [Act.put, List.setIfInBounds_toArray, List.set_cons_zero, List.set_cons_succ]
              refine step_yes 27 127 ?_ (by assumption) rfl rfl (by kernel_rfl) (by kernel_rfl) (by kernel_rfl) (fun _ _ _ h => h) (by rfl) ?_ ?_
              rotate_left
              · (intro w hSw; (try dsimp only at hSw); go_simp; try with_reducible rfl)
              try simp only [Act.put, List.setIfInBounds_toArray, List.set_cons_zero, List.set_cons_succ]
              refine step_yes 28 128 ?_ (by assumption) rfl rfl (by kernel_rfl) (by kernel_rfl) (by kernel_rfl) (fun _ _ _ h => h) (by rfl) ?_ ?_
              rotate_left
              · (intro w hSw; (try dsimp only at hSw); go_simp; try with_reducible rfl)
              try simp only [Act.put, List.setIfInBounds_toArray, List.set_cons_zero, List.set_cons_succ]
              refine step_yes 30 130 ?_ (by assumption) rfl rfl (by kernel_rfl) (by kernel_rfl) (by kernel_rfl) (fun _ _ _ h => h) (by rfl) ?_ ?_
              rotate_left
              · (intro w hSw; (try dsimp only at hSw); go_simp; try with_reducible rfl)
              try simp only [Act.put, List.setIfInBounds_toArray, List.set_cons_zero, List.set_cons_succ]
              refine step_yes 31 131 ?_ (by assumption) rfl rfl (by kernel_rfl) (by kernel_rfl) (by kernel_rfl) (fun _ _ _ h => h) (by rfl) ?_ ?_
              rotate_left
              · (intro w hSw; (try dsimp only at hSw); go_simp; try with_reducible rfl)
              try simp only [Act.put, List.setIfInBounds_toArray, List.set_cons_zero, List.set_cons_succ]
              refine step_yes 32 132 ?_ (by assumption) rfl rfl (by kernel_rfl) (by kernel_rfl) (by kernel_rfl) (fun _ _ _ h => h) (by rfl) ?_ ?_
              rotate_left
              · (intro w hSw; (try dsimp only at hSw); go_simp; try with_reducible rfl)
              try simp only [Act.put, List.setIfInBounds_toArray, List.set_cons_zero, List.set_cons_succ]
              refine step_yes 33 133 ?_ (by assumption) rfl rfl (by kernel_rfl) (by kernel_rfl) (by kernel_rfl) (fun _ _ _ h => h) (by rfl) ?_ ?_
              rotate_left
              · (intro w hSw; (try dsimp only at hSw); have p0 := (CQ.out _ hSw).2; go_simp; try with_reducible rfl)
              try simp only [Act.put, List.setIfInBounds_toArray, List.set_cons_zero, List.set_cons_succ]
              refine step_yes 34 134 ?_ (by assumption) rfl rfl (by kernel_rfl) (by kernel_rfl) (by kernel_rfl) (fun _ _ _ h => h) (by rfl) ?_ ?_
              rotate_left
              · (intro w hSw; (try dsimp only at hSw); go_simp; try with_reducible rfl)
              try simp only [Act.put, List.setIfInBounds_toArray, List.set_cons_zero, List.set_cons_succ]
              refine wpAnyH_ready (rs := [29]) (by kernel_rfl) (by simp) ?_
              refine AllReadyH.cons rfl (fun K hK => ?_) AllReadyH.nil
              replace hK := Lib.hid hK
              go_simp
              have D9 := Lib.hid hHeld
              clear hHeld
              refine (bxused_any _ b q it2 sz2 A2 xs2.length c2 (CB.out _ D9.out)).mono ?_
              rintro e w9 ⟨rfl, hw9⟩
              subst hw9
              refine hK.out _ _ D9.out (fun hHeld => ?_)
              clear hK K
              try simp only [Act.put, List.setIfInBounds_toArray, List.set_cons_zero, List.set_cons_succ]
              refine step_yes 35 135 ?_ (by assumption) rfl rfl (by kernel_rfl) (by kernel_rfl) (by kernel_rfl) (fun _ _ _ h => h) (by rfl) ?_ ?_
              rotate_left
              · (intro w hSw; (try dsimp only at hSw); go_simp; try with_reducible rfl)
              try simp only [Act.put, List.setIfInBounds_toArray, List.set_cons_zero, List.set_cons_succ]
              refine step_yes 36 136 ?_ (by assumption) rfl rfl (by kernel_rfl) (by kernel_rfl) (by kernel_rfl) (fun _ _ _ h => h) (by rfl) ?_ ?_
              rotate_left
              · (intro w hSw; (try dsimp only at hSw); go_simp; try with_reducible rfl)
              try simp only [Act.put, List.setIfInBounds_toArray, List.set_cons_zero, List.set_cons_succ]
              refine wpAnyH_done (by kernel_rfl) ?_ _
              have DR := Lib.hid hHeld
              clear hHeld
              skip
              have U9 := Lib.hid (U8.out.chg DR.out (by simp))
              have O9 := Lib.hid (O8.out.chg DR.out (by simp))
              have P9 := Lib.hid (P8.out.chg DR.out (by simp))
              have I9 := Lib.hid (I8.out.chg DR.out (by simp))
              have B9 := Lib.hid (DR.out.at_ B8.out (by simp))
              have Q9 := Lib.hid (DR.out.at_ Q8.out (by simp))
              have M9 := Lib.hid (DR.out.at_ M8.out (by simp))
              have C9 := Lib.hid (C8.out.trans DR.out)
              have Z9 := Lib.hid DR.out.size
              have LP2 := Lib.hid P8.out.lt
              clear U8 O8 P8 I8 B8 Q8 M8 C8 DR CM CQ CB V8
              go_wp2_with fail
              refine (over_own _ A1 c1 out.length out U9.out rfl).mono ?_
              rintro e w10 ⟨rfl, hs⟩
              have hc := hs (blkOf A1) (fun a ha => mem_blkOf ha)
              clear hs
              have NN := Lib.hid (show ∀ x, A1 = some x → A2 = none ∧ B2 = none by intro x hx; have hne : out ≠ [] := (by intro e; have := (X1.out e).1; rw [this] at hx; cases hx); exact ⟨(X2.out hne).1, (Y2.out hne).1⟩)
              have G1 := Lib.hid (show ∀ x, A1 = some x → w.heap.size ≤ x.block by intro x hx; rcases F1.out x hx with e | e; exact HA.out x (e ▸ hx); exact Nat.le_trans C6.out.size e)
              have C10 := Lib.hid (C9.out.trans' hc (fun i hi => .inr (by obtain ⟨x, hx, e⟩ := of_blkOf hi; have := G1.out x hx; omega)))
              have B10 := Lib.hid (hc.at_ B9.out (by intro hm; obtain ⟨x, hx, e⟩ := of_blkOf hm; exact U9.out.ne B9.out (by decide) x hx e))
              have Q10 := Lib.hid (hc.at_ Q9.out (by intro hm; obtain ⟨x, hx, e⟩ := of_blkOf hm; exact U9.out.ne Q9.out (by decide) x hx e))
              have M10 := Lib.hid (hc.at_ M9.out (by intro hm; obtain ⟨x, hx, e⟩ := of_blkOf hm; exact U9.out.ne M9.out (by decide) x hx e))
              have O10 := Lib.hid (O9.out.chg hc (fun y hy hm => by obtain ⟨x, hx, e⟩ := of_blkOf hm; rw [(NN.out x hx).1] at hy; cases hy))
              have P10 := Lib.hid (P9.out.chg hc (fun y hy hm => by obtain ⟨x, hx, e⟩ := of_blkOf hm; rw [(NN.out x hx).2] at hy; cases hy))
              have I10 := Lib.hid (I9.out.chg hc (fun y hy hm => by obtain ⟨x, hx, e⟩ := of_blkOf hm; have := N4.out y hy; have := LI.out y hy; have := Z6.out; rcases F1.out x hx with e2 | e2; (have := LA.out x (e2 ▸ hx); omega); omega))
              clear hc U9 O9 P9 I9 B9 Q9 M9 C9
              have z4 := cell_of M10.out 4
              simp only [List.getElem?_toArray, List.getElem?_cons_succ, List.getElem?_cons_zero] at z4
              go_wp2_with fail
              refine (over_own _ A4 c4 mn ys I10.out (HY.out _ HC.out).len.symm).mono ?_
              rintro e w11 ⟨rfl, hs⟩
              have hc := hs (blkOf A4) (fun a ha => mem_blkOf ha)
              clear hs z4
              have C11 := Lib.hid (C10.out.trans' hc (fun i hi => .inr (by obtain ⟨x, hx, e⟩ := of_blkOf hi; have := N4.out x hx; have := HC.out.size; omega)))
              have B11 := Lib.hid (hc.at_ B10.out (by intro hm; obtain ⟨x, hx, e⟩ := of_blkOf hm; exact I10.out.ne B10.out (by decide) x hx e))
              have Q11 := Lib.hid (hc.at_ Q10.out (by intro hm; obtain ⟨x, hx, e⟩ := of_blkOf hm; exact I10.out.ne Q10.out (by decide) x hx e))
              have O11 := Lib.hid (O10.out.chg hc (fun y hy hm => by obtain ⟨x, hx, e⟩ := of_blkOf hm; have := N4.out x hx; have := LI.out x hx; have := Z6.out; rcases F2.out y hy with e2 | e2; (have := LA.out y (e2 ▸ hy); omega); omega))
              have P11 := Lib.hid (P10.out.chg hc (fun y hy hm => by obtain ⟨x, hx, e⟩ := of_blkOf hm; have := N4.out x hx; have := LI.out x hx; have := Z6.out; have := Z7.out; rcases G2.out y hy with e2 | e2; (have := LAQ.out y (e2 ▸ hy); omega); omega))
              have A11 := Lib.hid (show ∀ x, A2 = some x → w.heap.size ≤ x.block by intro x hx; rcases F2.out x hx with e | e; exact HA.out x (e ▸ hx); exact Nat.le_trans C6.out.size e)
              have AQ11 := Lib.hid (show ∀ x, B2 = some x → w.heap.size ≤ x.block by intro x hx; rcases G2.out x hx with e | e; exact HAQ.out x (e ▸ hx); exact Nat.le_trans C7.out.size e)
              have AP11 := Lib.hid (show ∀ x y, A2 = some x → B2 = some y → x.block ≠ y.block by intro x y hx hy; have := Z4.out; have := Z6.out; have := Z7.out; rcases G2.out y hy with e | e; exact D2.out x y hx (e ▸ hy); (have := LO2.out x hx; omega))
              clear hc
              go_wp2
              exact ⟨⟨k + 1, A2, c2, B2, d2, (it2, sz2, xs2), by omega, by simp, B11, O11, Q11, P11, INV, A11, AQ11, AP11, C11⟩, by simp [RowKit.intOf]; omega⟩
            | false =>
              obtain ⟨R, hR⟩ : ∃ R, putC q (it, sz, xs) m1 m2 m3 m4 ys = R := ⟨_, rfl⟩
              have hinv := putC_inv (k := m1) (i := m2) (s := m3) (a := m4) (ys := ys) q0 HI.out
              have hlen := putC_len (q := q) (k := m1) (i := m2) (s := m3) (a := m4) (ys := ys) HI.out
              rw [hR] at hinv hlen
              have INV := Lib.hid hinv
              have hx6 := HI.out.2.2.1
              simp only at hx6
              have PT := Lib.hid (fun (W : World) A' n' d' hb ho hr hn hB => bxput_any W b q it sz A c xs m1 m2 m3 m4 A' n' d' ys hb ho hx6 hr hn hB R hR)
              have PQ := Lib.hid (fun (W : World) hb ho hr hB => bqput_any W bq q it sz Aq cq xs m1 m2 m3 m4 MA mn md ys hb ho hx6 hr hyn hB R hR)
              clear hR hinv
              obtain ⟨out, er, it2, sz2, xs2⟩ := R
              simp only at PT PQ INV hlen
              obtain ⟨t0, t1, t2, t3, t4⟩ := CE.out _ HC.out
              go_wp2_with fail
              refine (copym_any w3 m1 m2 m3 m4 MA mn md ys (HY.out _ HC.out) hyn).mono ?_
              rintro e w4 ⟨A4, c4, rfl, o4, n4, hc⟩
              clear t0 t1 t2 t3 t4
              have C4 := Lib.hid (HC.out.trans hc)
              have B4 := Lib.hid (hc.at_ HB.out (by simp))
              have Q4 := Lib.hid (hc.at_ HBQ.out (by simp))
              have O4 := Lib.hid (HO.out.chg hc (by simp))
              have P4 := Lib.hid (HOQ.out.chg hc (by simp))
              have I4 := Lib.hid o4
              have N4 := Lib.hid n4
              have Z4 := Lib.hid hc.size
              have LA := Lib.hid HO.out.lt
              have LAQ := Lib.hid HOQ.out.lt
              have Lb := lt_of_heap HB.out
              have Lq := lt_of_heap HBQ.out
              clear hc o4 n4
              obtain ⟨w6, hw6, c5, m5⟩ := news1 w4 (.cells #[.int .i64 m1, .int .i64 m2, .int .i64 m3, .int .i64 m4, .slice A4 mn c4] 32)
              have W6 := Lib.hid hw6
              have ch5 := Lib.hid c5
              have M5 := Lib.hid m5
              clear hw6 c5 m5
              go_upto_region 19 with fail
              (try rw [← W6.out])
              generalize hgi2 : w4.heap.size = gi at *
              have C6 := Lib.hid (C4.out.trans ch5.out)
              have B6 := Lib.hid (ch5.out.at_ B4.out (by simp))
              have Q6 := Lib.hid (ch5.out.at_ Q4.out (by simp))
              have O6 := Lib.hid (O4.out.chg ch5.out (by simp))
              have P6 := Lib.hid (P4.out.chg ch5.out (by simp))
              have I6 := Lib.hid (I4.out.chg ch5.out (by simp))
              have LI := Lib.hid I4.out.lt
              have Z6 := Lib.hid ch5.out.size
              have LM := lt_of_heap M5.out
              clear B4 Q4 O4 P4 I4 C4 ch5 W6
              have z0 := cell_of M5.out 0
              have z1 := cell_of M5.out 1
              have z2 := cell_of M5.out 2
              have z3 := cell_of M5.out 3
              have z4 := cell_of M5.out 4
              simp only [List.getElem?_toArray, List.getElem?_cons_succ, List.getElem?_cons_zero] at z0 z1 z2 z3 z4
              go_wp2_with fail
              refine (PT.out _ A4 mn c4 B6.out O6.out (by have := I6.out.reads; have e : ys.length = mn := (HY.out _ HC.out).len; rw [e] at this; exact this) hyn (fun _ x hx hm => by have := N4.out x hx; rcases List.mem_cons.1 hm with h | h; omega; obtain ⟨y, hy, e⟩ := of_blkOf h; have := LA.out y hy; omega)).mono ?_
              rintro e w7 ⟨A1, c1, A2, c2, rfl, o1, hb7, o2, n1, n2, f1, f2, hc⟩
              clear z0 z1 z2 z3 z4
              have H7 := Lib.hid hc
              have C7 := Lib.hid (C6.out.trans' hc (fun i hi => .inr (by rcases List.mem_cons.1 hi with h | h; omega; obtain ⟨y, hy, e⟩ := of_blkOf h; have := HA.out y hy; omega)))
              have B7 := Lib.hid hb7
              have Q7 := Lib.hid (hc.at_ Q6.out (by intro hm; rcases List.mem_cons.1 hm with h | h; omega; obtain ⟨y, hy, e⟩ := of_blkOf h; exact HO.out.ne HB.out (by decide) y hy |> fun _ => O6.out.ne Q6.out (by decide) y hy e))
              have M7 := Lib.hid (hc.at_ M5.out (by intro hm; have := Z4.out; rcases List.mem_cons.1 hm with h | h; omega; obtain ⟨y, hy, e⟩ := of_blkOf h; exact O6.out.ne M5.out (by decide) y hy e))
              have P7 := Lib.hid (P6.out.chg hc (fun y hy hm => by rcases List.mem_cons.1 hm with h | h; exact P6.out.ne B6.out (by decide) y hy h; obtain ⟨x, hx, e⟩ := of_blkOf h; exact AP.out x y hx hy e))
              have I7 := Lib.hid (I6.out.chg hc (fun y hy hm => by have := N4.out y hy; rcases List.mem_cons.1 hm with h | h; omega; obtain ⟨x, hx, e⟩ := of_blkOf h; have := LA.out x hx; omega))
              have U7 := Lib.hid o1
              have O7 := Lib.hid o2
              have X1 := Lib.hid n1
              have X2 := Lib.hid n2
              have F1 := Lib.hid f1
              have F2 := Lib.hid f2
              have Z7 := Lib.hid hc.size
              have LU := Lib.hid o1.lt
              have LO2 := Lib.hid o2.lt
              clear hc hb7 o1 o2 n1 n2 f1 f2 B6 Q6 O6 P6 I6 M5
              obtain ⟨t0, t1, t2, t3, t4⟩ := CE.out _ C7.out
              go_wp2_with fail
              refine (PQ.out _ Q7.out P7.out (HY.out _ C7.out) (fun hne x hx hm => by rcases YO.out with e | e; exact absurd e hne; have := e x hx; rcases List.mem_cons.1 hm with h | h; omega; obtain ⟨y, hy, e⟩ := of_blkOf h; have := HAQ.out y hy; omega)).mono ?_
              rintro e w8 ⟨B1, d1, B2, d2, rfl, o1, hb8, o2, n1, n2, f1, f2, hc⟩
              clear t0 t1 t2 t3 t4
              have C8 := Lib.hid (C7.out.trans' hc (fun i hi => .inr (by rcases List.mem_cons.1 hi with h | h; omega; obtain ⟨y, hy, e⟩ := of_blkOf h; have := HAQ.out y hy; omega)))
              have Q8 := Lib.hid hb8
              have B8 := Lib.hid (hc.at_ B7.out (by intro hm; rcases List.mem_cons.1 hm with h | h; omega; obtain ⟨y, hy, e⟩ := of_blkOf h; exact P7.out.ne B7.out (by decide) y hy e))
              have M8 := Lib.hid (hc.at_ M7.out (by intro hm; have := Z4.out; rcases List.mem_cons.1 hm with h | h; omega; obtain ⟨y, hy, e⟩ := of_blkOf h; exact P7.out.ne M7.out (by decide) y hy e))
              have D1 := Lib.hid (show ∀ x y, A1 = some x → Aq = some y → x.block ≠ y.block by intro x y hx hy; have := LAQ.out y hy; have := Z4.out; have := Z6.out; rcases F1.out x hx with e | e; exact AP.out x y (e ▸ hx) hy; omega)
              have D2 := Lib.hid (show ∀ x y, A2 = some x → Aq = some y → x.block ≠ y.block by intro x y hx hy; have := LAQ.out y hy; have := Z4.out; have := Z6.out; rcases F2.out x hx with e | e; exact AP.out x y (e ▸ hx) hy; omega)
              have U8 := Lib.hid (U7.out.chg hc (fun x hx hm => by rcases List.mem_cons.1 hm with h | h; exact U7.out.ne Q7.out (by decide) x hx h; obtain ⟨y, hy, e⟩ := of_blkOf h; exact D1.out x y hx hy e.symm))
              have O8 := Lib.hid (O7.out.chg hc (fun x hx hm => by rcases List.mem_cons.1 hm with h | h; exact O7.out.ne Q7.out (by decide) x hx h; obtain ⟨y, hy, e⟩ := of_blkOf h; exact D2.out x y hx hy e.symm))
              have I8 := Lib.hid (I7.out.chg hc (fun y hy hm => by have := N4.out y hy; rcases List.mem_cons.1 hm with h | h; omega; obtain ⟨x, hx, e⟩ := of_blkOf h; have := LAQ.out x hx; omega))
              have V8 := Lib.hid o1
              have P8 := Lib.hid o2
              have Y1 := Lib.hid n1
              have Y2 := Lib.hid n2
              have G2 := Lib.hid f2
              have Z8 := Lib.hid hc.size
              clear hc hb8 o1 o2 n1 n2 f1 f2 Q7 B7 M7 P7 U7 O7 I7 H7 PT PQ
              have e1 : (er != er) = false := by simp
              have e2 : (it2 != it2) = false := by simp
              have e3 : ((xs2.length : Int) != (xs2.length : Int)) = false := by simp
              have CM := Lib.hid (fun (W : World) (hc : Chg [] w8 W) => (have b := hc.at_ M8.out (by simp); (⟨cell_of b 0, cell_of b 1, cell_of b 2, cell_of b 3, cell_of b 4⟩ : _ ∧ _ ∧ _ ∧ _ ∧ _)))
              simp only [List.getElem?_toArray, List.getElem?_cons_succ, List.getElem?_cons_zero] at CM
              have CQ := Lib.hid (fun (W : World) (hc : Chg [] w8 W) => (have b := hc.at_ Q8.out (by simp); (⟨cell_of b 1, cell_of b 3⟩ : _ ∧ _)))
              simp only [List.getElem?_toArray, List.getElem?_cons_succ, List.getElem?_cons_zero] at CQ
              have CB := Lib.hid (fun (W : World) (hc : Chg [] w8 W) => hc.at_ B8.out (by simp))
              go_upto_region 21 with fail
              refine wp_region_held_drew (S := fun w' => Chg [] w8 w') (by kernel_rfl) (Chg.refl [] w8).drew (fun hHeld => ?_)
              refine step_yes 0 100 ?_ (by assumption) rfl rfl (by kernel_rfl) (by kernel_rfl) (by kernel_rfl) (fun _ _ _ h => h) (by rfl) ?_ ?_
              rotate_left
              · (intro w hSw; (try dsimp only at hSw); go_simp; try with_reducible rfl)
              try simp only [Act.put, List.setIfInBounds_toArray, List.set_cons_zero, List.set_cons_succ]
              refine step_yes 1 101 ?_ (by assumption) rfl rfl (by kernel_rfl) (by kernel_rfl) (by kernel_rfl) (fun _ _ _ h => h) (by rfl) ?_ ?_
              rotate_left
              · (intro w hSw; (try dsimp only at hSw); go_simp; try with_reducible rfl)
              try simp only [Act.put, List.setIfInBounds_toArray, List.set_cons_zero, List.set_cons_succ]
              refine wpAnyH_ready (rs := [2]) (by kernel_rfl) (by simp) ?_
              refine AllReadyH.cons rfl (fun K hK => ?_) AllReadyH.nil
              replace hK := Lib.hid hK
              go_simp
              have D9 := Lib.hid hHeld
              clear hHeld
              refine (same_yes _ A1 B1 out.length out.length c1 d1 out out (U8.out.reads.chg D9.out (by simp)) (V8.out.reads.chg D9.out (by simp)) rfl).mono ?_
              rintro e w9 ⟨rfl, hw9⟩
              subst hw9
              refine hK.out _ _ D9.out (fun hHeld => ?_)
              clear hK K
              try simp only [Act.put, List.setIfInBounds_toArray, List.set_cons_zero, List.set_cons_succ]
              refine step_yes 3 103 ?_ (by assumption) rfl rfl (by kernel_rfl) (by kernel_rfl) (by kernel_rfl) (fun _ _ _ h => h) (by rfl) ?_ ?_
              rotate_left
              · (intro w hSw; (try dsimp only at hSw); go_simp; try with_reducible rfl)
              try simp only [Act.put, List.setIfInBounds_toArray, List.set_cons_zero, List.set_cons_succ]
              refine step_yes 4 104 ?_ (by assumption) rfl rfl (by kernel_rfl) (by kernel_rfl) (by kernel_rfl) (fun _ _ _ h => h) (by rfl) ?_ ?_
              rotate_left
              · (intro w hSw; (try dsimp only at hSw); go_simp; try with_reducible rfl)
              try simp only [Act.put, List.setIfInBounds_toArray, List.set_cons_zero, List.set_cons_succ]
              refine step_yes 5 105 ?_ (by assumption) rfl rfl (by kernel_rfl) (by kernel_rfl) (by kernel_rfl) (fun _ _ _ h => h) (by rfl) ?_ ?_
              rotate_left
              · (intro w hSw; (try dsimp only at hSw); go_simp; try with_reducible rfl)
              try simp only [Act.put, List.setIfInBounds_toArray, List.set_cons_zero, List.set_cons_succ]
              refine step_yes 6 106 ?_ (by assumption) rfl rfl (by kernel_rfl) (by kernel_rfl) (by kernel_rfl) (fun _ _ _ h => h) (by rfl) ?_ ?_
              rotate_left
              · (intro w hSw; (try dsimp only at hSw); go_simp; try with_reducible rfl)
              try simp only [Act.put, List.setIfInBounds_toArray, List.set_cons_zero, List.set_cons_succ]
              refine step_yes 7 107 ?_ (by assumption) rfl rfl (by kernel_rfl) (by kernel_rfl) (by kernel_rfl) (fun _ _ _ h => h) (by rfl) ?_ ?_
              rotate_left
              · (intro w hSw; (try dsimp only at hSw); go_simp; try with_reducible rfl)
              try simp only [Act.put, List.setIfInBounds_toArray, List.set_cons_zero, List.set_cons_succ]
              refine step_yes 8 108 ?_ (by assumption) rfl rfl (by kernel_rfl) (by kernel_rfl) (by kernel_rfl) (fun _ _ _ h => h) (by rfl) ?_ ?_
              rotate_left
              · (intro w hSw; (try dsimp only at hSw); go_simp; try with_reducible rfl)
              try simp only [Act.put, List.setIfInBounds_toArray, List.set_cons_zero, List.set_cons_succ]
              refine step_yes 9 109 ?_ (by assumption) rfl rfl (by kernel_rfl) (by kernel_rfl) (by kernel_rfl) (fun _ _ _ h => h) (by rfl) ?_ ?_
              rotate_left
              · (intro w hSw; (try dsimp only at hSw); go_simp; try with_reducible rfl)
              try simp only [Act.put, List.setIfInBounds_toArray, List.set_cons_zero, List.set_cons_succ]
              refine step_yes 10 110 ?_ (by assumption) rfl rfl (by kernel_rfl) (by kernel_rfl) (by kernel_rfl) (fun _ _ _ h => h) (by rfl) ?_ ?_
              rotate_left
              · (intro w hSw; (try dsimp only at hSw); obtain ⟨p0, p1, p2, p3, p4⟩ := CM.out _ hSw; go_simp; try with_reducible rfl)
              try simp only [Act.put, List.setIfInBounds_toArray, List.set_cons_zero, List.set_cons_succ]
              refine step_yes 11 111 ?_ (by assumption) rfl rfl (by kernel_rfl) (by kernel_rfl) (by kernel_rfl) (fun _ _ _ h => h) (by rfl) ?_ ?_
              rotate_left
              · (intro w hSw; (try dsimp only at hSw); go_simp; try with_reducible rfl)
              try simp only [Act.put, List.setIfInBounds_toArray, List.set_cons_zero, List.set_cons_succ]
              refine step_yes 12 112 ?_ (by assumption) rfl rfl (by kernel_rfl) (by kernel_rfl) (by kernel_rfl) (fun _ _ _ h => h) (by rfl) ?_ ?_
              rotate_left
              · (intro w hSw; (try dsimp only at hSw); go_simp; try with_reducible rfl)
              try simp only [Act.put, List.setIfInBounds_toArray, List.set_cons_zero, List.set_cons_succ]
              refine step_yes 13 113 ?_ (by assumption) rfl rfl (by kernel_rfl) (by kernel_rfl) (by kernel_rfl) (fun _ _ _ h => h) (by rfl) ?_ ?_
              rotate_left
              · (intro w hSw; (try dsimp only at hSw); go_simp; try with_reducible rfl)
              try simp only [Act.put, List.setIfInBounds_toArray, List.set_cons_zero, List.set_cons_succ]
              refine step_yes 14 114 ?_ (by assumption) rfl rfl (by kernel_rfl) (by kernel_rfl) (by kernel_rfl) (fun _ _ _ h => h) (by rfl) ?_ ?_
              rotate_left
              · (intro w hSw; (try dsimp only at hSw); obtain ⟨p0, p1, p2, p3, p4⟩ := CE.out _ (C8.out.trans hSw); go_simp; try with_reducible rfl)
              try simp only [Act.put, List.setIfInBounds_toArray, List.set_cons_zero, List.set_cons_succ]
              refine wpAnyH_ready (rs := [15]) (by kernel_rfl) (by simp) ?_
              refine AllReadyH.cons rfl (fun K hK => ?_) AllReadyH.nil
              replace hK := Lib.hid hK
              go_simp
              have D9 := Lib.hid hHeld
              clear hHeld
              refine (samem_yes _ m1 m2 m3 m4 A4 MA mn c4 mn md ys (by have := I8.out.reads.chg D9.out (by simp); have e : ys.length = mn := (HY.out _ HC.out).len; rw [e] at this; exact this) (HY.out _ (C8.out.trans D9.out))).mono ?_
              rintro e w9 ⟨rfl, hc⟩
              have E9 := Lib.hid (D9.out.trans hc)
              clear hc D9
              refine hK.out _ _ E9.out (fun hHeld => ?_)
              clear hK K
              try simp only [Act.put, List.setIfInBounds_toArray, List.set_cons_zero, List.set_cons_succ]
              refine step_yes 16 116 ?_ (by assumption) rfl rfl (by kernel_rfl) (by kernel_rfl) (by kernel_rfl) (fun _ _ _ h => h) (by rfl) ?_ ?_
              rotate_left
              · (intro w hSw; (try dsimp only at hSw); go_simp; try with_reducible rfl)
              try simp only [Act.put, List.setIfInBounds_toArray, List.set_cons_zero, List.set_cons_succ]
              refine step_yes 17 117 ?_ (by assumption) rfl rfl (by kernel_rfl) (by kernel_rfl) (by kernel_rfl) (fun _ _ _ h => h) (by rfl) ?_ ?_
              rotate_left
              · (intro w hSw; (try dsimp only at hSw); go_simp; try with_reducible rfl)
              try simp only [Act.put, List.setIfInBounds_toArray, List.set_cons_zero, List.set_cons_succ]
              refine step_yes 18 118 ?_ (by assumption) rfl rfl (by kernel_rfl) (by kernel_rfl) (by kernel_rfl) (fun _ _ _ h => h) (by rfl) ?_ ?_
              rotate_left
              · (intro w hSw; (try dsimp only at hSw); go_simp; try with_reducible rfl)
              try simp only [Act.put, List.setIfInBounds_toArray, List.set_cons_zero, List.set_cons_succ]
              refine step_yes 19 119 ?_ (by assumption) rfl rfl (by kernel_rfl) (by kernel_rfl) (by kernel_rfl) (fun _ _ _ h => h) (by rfl) ?_ ?_
              rotate_left
              · (intro w hSw; (try dsimp only at hSw); go_simp; try with_reducible rfl)
              try simp only [Act.put, List.setIfInBounds_toArray, List.set_cons_zero, List.set_cons_succ]
              refine step_yes 21 121 ?_ (by assumption) rfl rfl (by kernel_rfl) (by kernel_rfl) (by kernel_rfl) (fun _ _ _ h => h) (by rfl) ?_ ?_
              rotate_left
              · (intro w hSw; (try dsimp only at hSw); go_simp; try with_reducible rfl)
              try simp only [Act.put, List.setIfInBounds_toArray, List.set_cons_zero, List.set_cons_succ]
              refine step_yes 22 122 ?_ (by assumption) rfl rfl (by kernel_rfl) (by kernel_rfl) (by kernel_rfl) (fun _ _ _ h => h) (by rfl) ?_ ?_
              rotate_left
              · (intro w hSw; (try dsimp only at hSw); go_simp; try with_reducible rfl)
              try simp only [Act.put, List.setIfInBounds_toArray, List.set_cons_zero, List.set_cons_succ]
              refine step_yes 23 123 ?_ (by assumption) rfl rfl (by kernel_rfl) (by kernel_rfl) (by kernel_rfl) (fun _ _ _ h => h) (by rfl) ?_ ?_
              rotate_left
              · (intro w hSw; (try dsimp only at hSw); go_simp; try with_reducible rfl)
              try simp only [Act.put, List.setIfInBounds_toArray, List.set_cons_zero, List.set_cons_succ]
              refine step_yes 24 124 ?_ (by assumption) rfl rfl (by kernel_rfl) (by kernel_rfl) (by kernel_rfl) (fun _ _ _ h => h) (by rfl) ?_ ?_
              rotate_left
              · (intro w hSw; (try dsimp only at hSw); have p0 := (CQ.out _ hSw).1; go_simp; try with_reducible rfl)
              try simp only [Act.put, List.setIfInBounds_toArray, List.set_cons_zero, List.set_cons_succ]
              refine wpAnyH_ready (rs := [20]) (by kernel_rfl) (by simp) ?_
              refine AllReadyH.cons rfl (fun K hK => ?_) AllReadyH.nil
              replace hK := Lib.hid hK
              go_simp
              have D9 := Lib.hid hHeld
              clear hHeld
              refine (bxitem_any _ b q it2 sz2 A2 xs2.length c2 (CB.out _ D9.out)).mono ?_
              rintro e w9 ⟨rfl, hw9⟩
              subst hw9
              refine hK.out _ _ D9.out (fun hHeld => ?_)
              clear hK K
              try simp only [Act.put, List.setIfInBounds_toArray, List.set_cons_zero, List.set_cons_succ]
              refine step_yes 25 125 ?_ (by assumption) rfl rfl (by kernel_rfl) (by kernel_rfl) (by kernel_rfl) (fun _ _ _ h => h) (by rfl) ?_ ?_
              rotate_left
              · (intro w hSw; (try dsimp only at hSw); go_simp; try with_reducible rfl)
              try simp only [Act.put, List.setIfInBounds_toArray, List.set_cons_zero, List.set_cons_succ]
              refine step_yes 26 126 ?_ (by assumption) rfl rfl (by kernel_rfl) (by kernel_rfl) (by kernel_rfl) (fun _ _ _ h => h) (by rfl) ?_ ?_
              rotate_left
              · (intro w hSw; (try dsimp only at hSw); go_simp; try with_reducible rfl)
              try simp only [Act.put, List.setIfInBounds_toArray, List.set_cons_zero, List.set_cons_succ]
              refine step_yes 27 127 ?_ (by assumption) rfl rfl (by kernel_rfl) (by kernel_rfl) (by kernel_rfl) (fun _ _ _ h => h) (by rfl) ?_ ?_
              rotate_left
              · (intro w hSw; (try dsimp only at hSw); go_simp; try with_reducible rfl)
              try simp only [Act.put, List.setIfInBounds_toArray, List.set_cons_zero, List.set_cons_succ]
              refine step_yes 28 128 ?_ (by assumption) rfl rfl (by kernel_rfl) (by kernel_rfl) (by kernel_rfl) (fun _ _ _ h => h) (by rfl) ?_ ?_
              rotate_left
              · (intro w hSw; (try dsimp only at hSw); go_simp; try with_reducible rfl)
              try simp only [Act.put, List.setIfInBounds_toArray, List.set_cons_zero, List.set_cons_succ]
              refine step_yes 30 130 ?_ (by assumption) rfl rfl (by kernel_rfl) (by kernel_rfl) (by kernel_rfl) (fun _ _ _ h => h) (by rfl) ?_ ?_
              rotate_left
              · (intro w hSw; (try dsimp only at hSw); go_simp; try with_reducible rfl)
              try simp only [Act.put, List.setIfInBounds_toArray, List.set_cons_zero, List.set_cons_succ]
              refine step_yes 31 131 ?_ (by assumption) rfl rfl (by kernel_rfl) (by kernel_rfl) (by kernel_rfl) (fun _ _ _ h => h) (by rfl) ?_ ?_
              rotate_left
              · (intro w hSw; (try dsimp only at hSw); go_simp; try with_reducible rfl)
              try simp only [Act.put, List.setIfInBounds_toArray, List.set_cons_zero, List.set_cons_succ]
              refine step_yes 32 132 ?_ (by assumption) rfl rfl (by kernel_rfl) (by kernel_rfl) (by kernel_rfl) (fun _ _ _ h => h) (by rfl) ?_ ?_
              rotate_left
              · (intro w hSw; (try dsimp only at hSw); go_simp; try with_reducible rfl)
              try simp only [Act.put, List.setIfInBounds_toArray, List.set_cons_zero, List.set_cons_succ]
              refine step_yes 33 133 ?_ (by assumption) rfl rfl (by kernel_rfl) (by kernel_rfl) (by kernel_rfl) (fun _ _ _ h => h) (by rfl) ?_ ?_
              rotate_left
              · (intro w hSw; (try dsimp only at hSw); have p0 := (CQ.out _ hSw).2; go_simp; try with_reducible rfl)
              try simp only [Act.put, List.setIfInBounds_toArray, List.set_cons_zero, List.set_cons_succ]
              refine step_yes 34 134 ?_ (by assumption) rfl rfl (by kernel_rfl) (by kernel_rfl) (by kernel_rfl) (fun _ _ _ h => h) (by rfl) ?_ ?_
              rotate_left
              · (intro w hSw; (try dsimp only at hSw); go_simp; try with_reducible rfl)
              try simp only [Act.put, List.setIfInBounds_toArray, List.set_cons_zero, List.set_cons_succ]
              refine wpAnyH_ready (rs := [29]) (by kernel_rfl) (by simp) ?_
              refine AllReadyH.cons rfl (fun K hK => ?_) AllReadyH.nil
              replace hK := Lib.hid hK
              go_simp
              have D9 := Lib.hid hHeld
              clear hHeld
              refine (bxused_any _ b q it2 sz2 A2 xs2.length c2 (CB.out _ D9.out)).mono ?_
              rintro e w9 ⟨rfl, hw9⟩
              subst hw9
              refine hK.out _ _ D9.out (fun hHeld => ?_)
              clear hK K
              try simp only [Act.put, List.setIfInBounds_toArray, List.set_cons_zero, List.set_cons_succ]
              refine step_yes 35 135 ?_ (by assumption) rfl rfl (by kernel_rfl) (by kernel_rfl) (by kernel_rfl) (fun _ _ _ h => h) (by rfl) ?_ ?_
              rotate_left
              · (intro w hSw; (try dsimp only at hSw); go_simp; try with_reducible rfl)
              try simp only [Act.put, List.setIfInBounds_toArray, List.set_cons_zero, List.set_cons_succ]
              refine step_yes 36 136 ?_ (by assumption) rfl rfl (by kernel_rfl) (by kernel_rfl) (by kernel_rfl) (fun _ _ _ h => h) (by rfl) ?_ ?_
              rotate_left
              · (intro w hSw; (try dsimp only at hSw); go_simp; try with_reducible rfl)
              try simp only [Act.put, List.setIfInBounds_toArray, List.set_cons_zero, List.set_cons_succ]
              refine wpAnyH_done (by kernel_rfl) ?_ _
              have DR := Lib.hid hHeld
              clear hHeld
              skip
              have U9 := Lib.hid (U8.out.chg DR.out (by simp))
              have O9 := Lib.hid (O8.out.chg DR.out (by simp))
              have P9 := Lib.hid (P8.out.chg DR.out (by simp))
              have I9 := Lib.hid (I8.out.chg DR.out (by simp))
              have B9 := Lib.hid (DR.out.at_ B8.out (by simp))
              have Q9 := Lib.hid (DR.out.at_ Q8.out (by simp))
              have M9 := Lib.hid (DR.out.at_ M8.out (by simp))
              have C9 := Lib.hid (C8.out.trans DR.out)
              have Z9 := Lib.hid DR.out.size
              have LP2 := Lib.hid P8.out.lt
              clear U8 O8 P8 I8 B8 Q8 M8 C8 DR CM CQ CB V8
              go_wp2_with fail
              refine (over_own _ A1 c1 out.length out U9.out rfl).mono ?_
              rintro e w10 ⟨rfl, hs⟩
              have hc := hs (blkOf A1) (fun a ha => mem_blkOf ha)
              clear hs
              have NN := Lib.hid (show ∀ x, A1 = some x → A2 = none ∧ B2 = none by intro x hx; have hne : out ≠ [] := (by intro e; have := (X1.out e).1; rw [this] at hx; cases hx); exact ⟨(X2.out hne).1, (Y2.out hne).1⟩)
              have G1 := Lib.hid (show ∀ x, A1 = some x → w.heap.size ≤ x.block by intro x hx; rcases F1.out x hx with e | e; exact HA.out x (e ▸ hx); exact Nat.le_trans C6.out.size e)
              have C10 := Lib.hid (C9.out.trans' hc (fun i hi => .inr (by obtain ⟨x, hx, e⟩ := of_blkOf hi; have := G1.out x hx; omega)))
              have B10 := Lib.hid (hc.at_ B9.out (by intro hm; obtain ⟨x, hx, e⟩ := of_blkOf hm; exact U9.out.ne B9.out (by decide) x hx e))
              have Q10 := Lib.hid (hc.at_ Q9.out (by intro hm; obtain ⟨x, hx, e⟩ := of_blkOf hm; exact U9.out.ne Q9.out (by decide) x hx e))
              have M10 := Lib.hid (hc.at_ M9.out (by intro hm; obtain ⟨x, hx, e⟩ := of_blkOf hm; exact U9.out.ne M9.out (by decide) x hx e))
              have O10 := Lib.hid (O9.out.chg hc (fun y hy hm => by obtain ⟨x, hx, e⟩ := of_blkOf hm; rw [(NN.out x hx).1] at hy; cases hy))
              have P10 := Lib.hid (P9.out.chg hc (fun y hy hm => by obtain ⟨x, hx, e⟩ := of_blkOf hm; rw [(NN.out x hx).2] at hy; cases hy))
              have I10 := Lib.hid (I9.out.chg hc (fun y hy hm => by obtain ⟨x, hx, e⟩ := of_blkOf hm; have := N4.out y hy; have := LI.out y hy; have := Z6.out; rcases F1.out x hx with e2 | e2; (have := LA.out x (e2 ▸ hx); omega); omega))
              clear hc U9 O9 P9 I9 B9 Q9 M9 C9
              have z4 := cell_of M10.out 4
              simp only [List.getElem?_toArray, List.getElem?_cons_succ, List.getElem?_cons_zero] at z4
              go_wp2_with fail
              refine (over_own _ A4 c4 mn ys I10.out (HY.out _ HC.out).len.symm).mono ?_
              rintro e w11 ⟨rfl, hs⟩
              have hc := hs (blkOf A4) (fun a ha => mem_blkOf ha)
              clear hs z4
              have C11 := Lib.hid (C10.out.trans' hc (fun i hi => .inr (by obtain ⟨x, hx, e⟩ := of_blkOf hi; have := N4.out x hx; have := HC.out.size; omega)))
              have B11 := Lib.hid (hc.at_ B10.out (by intro hm; obtain ⟨x, hx, e⟩ := of_blkOf hm; exact I10.out.ne B10.out (by decide) x hx e))
              have Q11 := Lib.hid (hc.at_ Q10.out (by intro hm; obtain ⟨x, hx, e⟩ := of_blkOf hm; exact I10.out.ne Q10.out (by decide) x hx e))
              have O11 := Lib.hid (O10.out.chg hc (fun y hy hm => by obtain ⟨x, hx, e⟩ := of_blkOf hm; have := N4.out x hx; have := LI.out x hx; have := Z6.out; rcases F2.out y hy with e2 | e2; (have := LA.out y (e2 ▸ hy); omega); omega))
              have P11 := Lib.hid (P10.out.chg hc (fun y hy hm => by obtain ⟨x, hx, e⟩ := of_blkOf hm; have := N4.out x hx; have := LI.out x hx; have := Z6.out; have := Z7.out; rcases G2.out y hy with e2 | e2; (have := LAQ.out y (e2 ▸ hy); omega); omega))
              have A11 := Lib.hid (show ∀ x, A2 = some x → w.heap.size ≤ x.block by intro x hx; rcases F2.out x hx with e | e; exact HA.out x (e ▸ hx); exact Nat.le_trans C6.out.size e)
              have AQ11 := Lib.hid (show ∀ x, B2 = some x → w.heap.size ≤ x.block by intro x hx; rcases G2.out x hx with e | e; exact HAQ.out x (e ▸ hx); exact Nat.le_trans C7.out.size e)
              have AP11 := Lib.hid (show ∀ x y, A2 = some x → B2 = some y → x.block ≠ y.block by intro x y hx hy; have := Z4.out; have := Z6.out; have := Z7.out; rcases G2.out y hy with e | e; exact D2.out x y hx (e ▸ hy); (have := LO2.out x hx; omega))
              clear hc
              go_wp2
              exact ⟨⟨k + 1, A2, c2, B2, d2, (it2, sz2, xs2), by omega, by simp, B11, O11, Q11, P11, INV, A11, AQ11, AP11, C11⟩, by simp [RowKit.intOf]; omega⟩
          have d1 : ¬ (k : Int) < (ds.length : Int) := by omega
          obtain ⟨R, hR⟩ : ∃ R, putC q (it, sz, xs) m1 m2 m3 m4 ys = R := ⟨_, rfl⟩
          have hinv := putC_inv (k := m1) (i := m2) (s := m3) (a := m4) (ys := ys) q0 HI.out
          have hlen := putC_len (q := q) (k := m1) (i := m2) (s := m3) (a := m4) (ys := ys) HI.out
          rw [hR] at hinv hlen
          have INV := Lib.hid hinv
          have hx6 := HI.out.2.2.1
          simp only at hx6
          have PT := Lib.hid (fun (W : World) A' n' d' hb ho hr hn hB => bxput_any W b q it sz A c xs m1 m2 m3 m4 A' n' d' ys hb ho hx6 hr hn hB R hR)
          have PQ := Lib.hid (fun (W : World) hb ho hr hB => bqput_any W bq q it sz Aq cq xs m1 m2 m3 m4 MA mn md ys hb ho hx6 hr hyn hB R hR)
          clear hR hinv
          obtain ⟨out, er, it2, sz2, xs2⟩ := R
          simp only at PT PQ INV hlen
          obtain ⟨t0, t1, t2, t3, t4⟩ := CE.out _ HC.out
          go_wp2_with fail
          refine (copym_any w3 m1 m2 m3 m4 MA mn md ys (HY.out _ HC.out) hyn).mono ?_
          rintro e w4 ⟨A4, c4, rfl, o4, n4, hc⟩
          clear t0 t1 t2 t3 t4
          have C4 := Lib.hid (HC.out.trans hc)
          have B4 := Lib.hid (hc.at_ HB.out (by simp))
          have Q4 := Lib.hid (hc.at_ HBQ.out (by simp))
          have O4 := Lib.hid (HO.out.chg hc (by simp))
          have P4 := Lib.hid (HOQ.out.chg hc (by simp))
          have I4 := Lib.hid o4
          have N4 := Lib.hid n4
          have Z4 := Lib.hid hc.size
          have LA := Lib.hid HO.out.lt
          have LAQ := Lib.hid HOQ.out.lt
          have Lb := lt_of_heap HB.out
          have Lq := lt_of_heap HBQ.out
          clear hc o4 n4
          obtain ⟨w6, hw6, c5, m5⟩ := news1 w4 (.cells #[.int .i64 m1, .int .i64 m2, .int .i64 m3, .int .i64 m4, .slice A4 mn c4] 32)
          have W6 := Lib.hid hw6
          have ch5 := Lib.hid c5
          have M5 := Lib.hid m5
          clear hw6 c5 m5
          go_upto_region 19 with fail
          (try rw [← W6.out])
          generalize hgi2 : w4.heap.size = gi at *
          have C6 := Lib.hid (C4.out.trans ch5.out)
          have B6 := Lib.hid (ch5.out.at_ B4.out (by simp))
          have Q6 := Lib.hid (ch5.out.at_ Q4.out (by simp))
          have O6 := Lib.hid (O4.out.chg ch5.out (by simp))
          have P6 := Lib.hid (P4.out.chg ch5.out (by simp))
          have I6 := Lib.hid (I4.out.chg ch5.out (by simp))
          have LI := Lib.hid I4.out.lt
          have Z6 := Lib.hid ch5.out.size
          have LM := lt_of_heap M5.out
          clear B4 Q4 O4 P4 I4 C4 ch5 W6
          have z0 := cell_of M5.out 0
          have z1 := cell_of M5.out 1
          have z2 := cell_of M5.out 2
          have z3 := cell_of M5.out 3
          have z4 := cell_of M5.out 4
          simp only [List.getElem?_toArray, List.getElem?_cons_succ, List.getElem?_cons_zero] at z0 z1 z2 z3 z4
          go_wp2_with fail
          refine (PT.out _ A4 mn c4 B6.out O6.out (by have := I6.out.reads; have e : ys.length = mn := (HY.out _ HC.out).len; rw [e] at this; exact this) hyn (fun _ x hx hm => by have := N4.out x hx; rcases List.mem_cons.1 hm with h | h; omega; obtain ⟨y, hy, e⟩ := of_blkOf h; have := LA.out y hy; omega)).mono ?_
          rintro e w7 ⟨A1, c1, A2, c2, rfl, o1, hb7, o2, n1, n2, f1, f2, hc⟩
          clear z0 z1 z2 z3 z4
          have H7 := Lib.hid hc
          have C7 := Lib.hid (C6.out.trans' hc (fun i hi => .inr (by rcases List.mem_cons.1 hi with h | h; omega; obtain ⟨y, hy, e⟩ := of_blkOf h; have := HA.out y hy; omega)))
          have B7 := Lib.hid hb7
          have Q7 := Lib.hid (hc.at_ Q6.out (by intro hm; rcases List.mem_cons.1 hm with h | h; omega; obtain ⟨y, hy, e⟩ := of_blkOf h; exact HO.out.ne HB.out (by decide) y hy |> fun _ => O6.out.ne Q6.out (by decide) y hy e))
          have M7 := Lib.hid (hc.at_ M5.out (by intro hm; have := Z4.out; rcases List.mem_cons.1 hm with h | h; omega; obtain ⟨y, hy, e⟩ := of_blkOf h; exact O6.out.ne M5.out (by decide) y hy e))
          have P7 := Lib.hid (P6.out.chg hc (fun y hy hm => by rcases List.mem_cons.1 hm with h | h; exact P6.out.ne B6.out (by decide) y hy h; obtain ⟨x, hx, e⟩ := of_blkOf h; exact AP.out x y hx hy e))
          have I7 := Lib.hid (I6.out.chg hc (fun y hy hm => by have := N4.out y hy; rcases List.mem_cons.1 hm with h | h; omega; obtain ⟨x, hx, e⟩ := of_blkOf h; have := LA.out x hx; omega))
          have U7 := Lib.hid o1
          have O7 := Lib.hid o2
          have X1 := Lib.hid n1
          have X2 := Lib.hid n2
          have F1 := Lib.hid f1
          have F2 := Lib.hid f2
          have Z7 := Lib.hid hc.size
          have LU := Lib.hid o1.lt
          have LO2 := Lib.hid o2.lt
          clear hc hb7 o1 o2 n1 n2 f1 f2 B6 Q6 O6 P6 I6 M5
          obtain ⟨t0, t1, t2, t3, t4⟩ := CE.out _ C7.out
          go_wp2_with fail
          refine (PQ.out _ Q7.out P7.out (HY.out _ C7.out) (fun hne x hx hm => by rcases YO.out with e | e; exact absurd e hne; have := e x hx; rcases List.mem_cons.1 hm with h | h; omega; obtain ⟨y, hy, e⟩ := of_blkOf h; have := HAQ.out y hy; omega)).mono ?_
          rintro e w8 ⟨B1, d1, B2, d2, rfl, o1, hb8, o2, n1, n2, f1, f2, hc⟩
          clear t0 t1 t2 t3 t4
          have C8 := Lib.hid (C7.out.trans' hc (fun i hi => .inr (by rcases List.mem_cons.1 hi with h | h; omega; obtain ⟨y, hy, e⟩ := of_blkOf h; have := HAQ.out y hy; omega)))
          have Q8 := Lib.hid hb8
          have B8 := Lib.hid (hc.at_ B7.out (by intro hm; rcases List.mem_cons.1 hm with h | h; omega; obtain ⟨y, hy, e⟩ := of_blkOf h; exact P7.out.ne B7.out (by decide) y hy e))
          have M8 := Lib.hid (hc.at_ M7.out (by intro hm; have := Z4.out; rcases List.mem_cons.1 hm with h | h; omega; obtain ⟨y, hy, e⟩ := of_blkOf h; exact P7.out.ne M7.out (by decide) y hy e))
          have D1 := Lib.hid (show ∀ x y, A1 = some x → Aq = some y → x.block ≠ y.block by intro x y hx hy; have := LAQ.out y hy; have := Z4.out; have := Z6.out; rcases F1.out x hx with e | e; exact AP.out x y (e ▸ hx) hy; omega)
          have D2 := Lib.hid (show ∀ x y, A2 = some x → Aq = some y → x.block ≠ y.block by intro x y hx hy; have := LAQ.out y hy; have := Z4.out; have := Z6.out; rcases F2.out x hx with e | e; exact AP.out x y (e ▸ hx) hy; omega)
          have U8 := Lib.hid (U7.out.chg hc (fun x hx hm => by rcases List.mem_cons.1 hm with h | h; exact U7.out.ne Q7.out (by decide) x hx h; obtain ⟨y, hy, e⟩ := of_blkOf h; exact D1.out x y hx hy e.symm))
          have O8 := Lib.hid (O7.out.chg hc (fun x hx hm => by rcases List.mem_cons.1 hm with h | h; exact O7.out.ne Q7.out (by decide) x hx h; obtain ⟨y, hy, e⟩ := of_blkOf h; exact D2.out x y hx hy e.symm))
          have I8 := Lib.hid (I7.out.chg hc (fun y hy hm => by have := N4.out y hy; rcases List.mem_cons.1 hm with h | h; omega; obtain ⟨x, hx, e⟩ := of_blkOf h; have := LAQ.out x hx; omega))
          have V8 := Lib.hid o1
          have P8 := Lib.hid o2
          have Y1 := Lib.hid n1
          have Y2 := Lib.hid n2
          have G2 := Lib.hid f2
          have Z8 := Lib.hid hc.size
          clear hc hb8 o1 o2 n1 n2 f1 f2 Q7 B7 M7 P7 U7 O7 I7 H7 PT PQ
          have e1 : (er != er) = false := by simp
          have e2 : (it2 != it2) = false := by simp
          have e3 : ((xs2.length : Int) != (xs2.length : Int)) = false := by simp
          have CM := Lib.hid (fun (W : World) (hc : Chg [] w8 W) => (have b := hc.at_ M8.out (by simp); (⟨cell_of b 0, cell_of b 1, cell_of b 2, cell_of b 3, cell_of b 4⟩ : _ ∧ _ ∧ _ ∧ _ ∧ _)))
          simp only [List.getElem?_toArray, List.getElem?_cons_succ, List.getElem?_cons_zero] at CM
          have CQ := Lib.hid (fun (W : World) (hc : Chg [] w8 W) => (have b := hc.at_ Q8.out (by simp); (⟨cell_of b 1, cell_of b 3⟩ : _ ∧ _)))
          simp only [List.getElem?_toArray, List.getElem?_cons_succ, List.getElem?_cons_zero] at CQ
          have CB := Lib.hid (fun (W : World) (hc : Chg [] w8 W) => hc.at_ B8.out (by simp))
          go_upto_region 21 with fail
          refine wp_region_held_drew (S := fun w' => Chg [] w8 w') (by kernel_rfl) (Chg.refl [] w8).drew (fun hHeld => ?_)
          refine step_yes 0 100 ?_ (by assumption) rfl rfl (by kernel_rfl) (by kernel_rfl) (by kernel_rfl) (fun _ _ _ h => h) (by rfl) ?_ ?_
          rotate_left
          · (intro w hSw; (try dsimp only at hSw); go_simp; try with_reducible rfl)
          try simp only [Act.put, List.setIfInBounds_toArray, List.set_cons_zero, List.set_cons_succ]
          refine step_yes 1 101 ?_ (by assumption) rfl rfl (by kernel_rfl) (by kernel_rfl) (by kernel_rfl) (fun _ _ _ h => h) (by rfl) ?_ ?_
          rotate_left
          · (intro w hSw; (try dsimp only at hSw); go_simp; try with_reducible rfl)
          try simp only [Act.put, List.setIfInBounds_toArray, List.set_cons_zero, List.set_cons_succ]
          refine wpAnyH_ready (rs := [2]) (by kernel_rfl) (by simp) ?_
          refine AllReadyH.cons rfl (fun K hK => ?_) AllReadyH.nil
          replace hK := Lib.hid hK
          go_simp
          have D9 := Lib.hid hHeld
          clear hHeld
          refine (same_yes _ A1 B1 out.length out.length c1 d1 out out (U8.out.reads.chg D9.out (by simp)) (V8.out.reads.chg D9.out (by simp)) rfl).mono ?_
          rintro e w9 ⟨rfl, hw9⟩
          subst hw9
          refine hK.out _ _ D9.out (fun hHeld => ?_)
          clear hK K
          try simp only [Act.put, List.setIfInBounds_toArray, List.set_cons_zero, List.set_cons_succ]
          refine step_yes 3 103 ?_ (by assumption) rfl rfl (by kernel_rfl) (by kernel_rfl) (by kernel_rfl) (fun _ _ _ h => h) (by rfl) ?_ ?_
          rotate_left
          · (intro w hSw; (try dsimp only at hSw); go_simp; try with_reducible rfl)
          try simp only [Act.put, List.setIfInBounds_toArray, List.set_cons_zero, List.set_cons_succ]
          refine step_yes 4 104 ?_ (by assumption) rfl rfl (by kernel_rfl) (by kernel_rfl) (by kernel_rfl) (fun _ _ _ h => h) (by rfl) ?_ ?_
          rotate_left
          · (intro w hSw; (try dsimp only at hSw); go_simp; try with_reducible rfl)
          try simp only [Act.put, List.setIfInBounds_toArray, List.set_cons_zero, List.set_cons_succ]
          refine step_yes 5 105 ?_ (by assumption) rfl rfl (by kernel_rfl) (by kernel_rfl) (by kernel_rfl) (fun _ _ _ h => h) (by rfl) ?_ ?_
          rotate_left
          · (intro w hSw; (try dsimp only at hSw); go_simp; try with_reducible rfl)
          try simp only [Act.put, List.setIfInBounds_toArray, List.set_cons_zero, List.set_cons_succ]
          refine step_yes 6 106 ?_ (by assumption) rfl rfl (by kernel_rfl) (by kernel_rfl) (by kernel_rfl) (fun _ _ _ h => h) (by rfl) ?_ ?_
          rotate_left
          · (intro w hSw; (try dsimp only at hSw); go_simp; try with_reducible rfl)
          try simp only [Act.put, List.setIfInBounds_toArray, List.set_cons_zero, List.set_cons_succ]
          refine step_yes 7 107 ?_ (by assumption) rfl rfl (by kernel_rfl) (by kernel_rfl) (by kernel_rfl) (fun _ _ _ h => h) (by rfl) ?_ ?_
          rotate_left
          · (intro w hSw; (try dsimp only at hSw); go_simp; try with_reducible rfl)
          try simp only [Act.put, List.setIfInBounds_toArray, List.set_cons_zero, List.set_cons_succ]
          refine step_yes 8 108 ?_ (by assumption) rfl rfl (by kernel_rfl) (by kernel_rfl) (by kernel_rfl) (fun _ _ _ h => h) (by rfl) ?_ ?_
          rotate_left
          · (intro w hSw; (try dsimp only at hSw); go_simp; try with_reducible rfl)
          try simp only [Act.put, List.setIfInBounds_toArray, List.set_cons_zero, List.set_cons_succ]
          refine step_yes 9 109 ?_ (by assumption) rfl rfl (by kernel_rfl) (by kernel_rfl) (by kernel_rfl) (fun _ _ _ h => h) (by rfl) ?_ ?_
          rotate_left
          · (intro w hSw; (try dsimp only at hSw); go_simp; try with_reducible rfl)
          try simp only [Act.put, List.setIfInBounds_toArray, List.set_cons_zero, List.set_cons_succ]
          refine step_yes 10 110 ?_ (by assumption) rfl rfl (by kernel_rfl) (by kernel_rfl) (by kernel_rfl) (fun _ _ _ h => h) (by rfl) ?_ ?_
          rotate_left
          · (intro w hSw; (try dsimp only at hSw); obtain ⟨p0, p1, p2, p3, p4⟩ := CM.out _ hSw; go_simp; try with_reducible rfl)
          try simp only [Act.put, List.setIfInBounds_toArray, List.set_cons_zero, List.set_cons_succ]
          refine step_yes 11 111 ?_ (by assumption) rfl rfl (by kernel_rfl) (by kernel_rfl) (by kernel_rfl) (fun _ _ _ h => h) (by rfl) ?_ ?_
          rotate_left
          · (intro w hSw; (try dsimp only at hSw); go_simp; try with_reducible rfl)
          try simp only [Act.put, List.setIfInBounds_toArray, List.set_cons_zero, List.set_cons_succ]
          refine step_yes 12 112 ?_ (by assumption) rfl rfl (by kernel_rfl) (by kernel_rfl) (by kernel_rfl) (fun _ _ _ h => h) (by rfl) ?_ ?_
          rotate_left
          · (intro w hSw; (try dsimp only at hSw); go_simp; try with_reducible rfl)
          try simp only [Act.put, List.setIfInBounds_toArray, List.set_cons_zero, List.set_cons_succ]
          refine step_yes 13 113 ?_ (by assumption) rfl rfl (by kernel_rfl) (by kernel_rfl) (by kernel_rfl) (fun _ _ _ h => h) (by rfl) ?_ ?_
          rotate_left
          · (intro w hSw; (try dsimp only at hSw); go_simp; try with_reducible rfl)
          try simp only [Act.put, List.setIfInBounds_toArray, List.set_cons_zero, List.set_cons_succ]
          refine step_yes 14 114 ?_ (by assumption) rfl rfl (by kernel_rfl) (by kernel_rfl) (by kernel_rfl) (fun _ _ _ h => h) (by rfl) ?_ ?_
          rotate_left
          · (intro w hSw; (try dsimp only at hSw); obtain ⟨p0, p1, p2, p3, p4⟩ := CE.out _ (C8.out.trans hSw); go_simp; try with_reducible rfl)
          try simp only [Act.put, List.setIfInBounds_toArray, List.set_cons_zero, List.set_cons_succ]
          refine wpAnyH_ready (rs := [15]) (by kernel_rfl) (by simp) ?_
          refine AllReadyH.cons rfl (fun K hK => ?_) AllReadyH.nil
          replace hK := Lib.hid hK
          go_simp
          have D9 := Lib.hid hHeld
          clear hHeld
          refine (samem_yes _ m1 m2 m3 m4 A4 MA mn c4 mn md ys (by have := I8.out.reads.chg D9.out (by simp); have e : ys.length = mn := (HY.out _ HC.out).len; rw [e] at this; exact this) (HY.out _ (C8.out.trans D9.out))).mono ?_
          rintro e w9 ⟨rfl, hc⟩
          have E9 := Lib.hid (D9.out.trans hc)
          clear hc D9
          refine hK.out _ _ E9.out (fun hHeld => ?_)
          clear hK K
          try simp only [Act.put, List.setIfInBounds_toArray, List.set_cons_zero, List.set_cons_succ]
          refine step_yes 16 116 ?_ (by assumption) rfl rfl (by kernel_rfl) (by kernel_rfl) (by kernel_rfl) (fun _ _ _ h => h) (by rfl) ?_ ?_
          rotate_left
          · (intro w hSw; (try dsimp only at hSw); go_simp; try with_reducible rfl)
          try simp only [Act.put, List.setIfInBounds_toArray, List.set_cons_zero, List.set_cons_succ]
          refine step_yes 17 117 ?_ (by assumption) rfl rfl (by kernel_rfl) (by kernel_rfl) (by kernel_rfl) (fun _ _ _ h => h) (by rfl) ?_ ?_
          rotate_left
          · (intro w hSw; (try dsimp only at hSw); go_simp; try with_reducible rfl)
          try simp only [Act.put, List.setIfInBounds_toArray, List.set_cons_zero, List.set_cons_succ]
          refine step_yes 18 118 ?_ (by assumption) rfl rfl (by kernel_rfl) (by kernel_rfl) (by kernel_rfl) (fun _ _ _ h => h) (by rfl) ?_ ?_
          rotate_left
          · (intro w hSw; (try dsimp only at hSw); go_simp; try with_reducible rfl)
          try simp only [Act.put, List.setIfInBounds_toArray, List.set_cons_zero, List.set_cons_succ]
          refine step_yes 19 119 ?_ (by assumption) rfl rfl (by kernel_rfl) (by kernel_rfl) (by kernel_rfl) (fun _ _ _ h => h) (by rfl) ?_ ?_
          rotate_left
          · (intro w hSw; (try dsimp only at hSw); go_simp; try with_reducible rfl)
          try simp only [Act.put, List.setIfInBounds_toArray, List.set_cons_zero, List.set_cons_succ]
          refine step_yes 21 121 ?_ (by assumption) rfl rfl (by kernel_rfl) (by kernel_rfl) (by kernel_rfl) (fun _ _ _ h => h) (by rfl) ?_ ?_
          rotate_left
          · (intro w hSw; (try dsimp only at hSw); go_simp; try with_reducible rfl)
          try simp only [Act.put, List.setIfInBounds_toArray, List.set_cons_zero, List.set_cons_succ]
          refine step_yes 22 122 ?_ (by assumption) rfl rfl (by kernel_rfl) (by kernel_rfl) (by kernel_rfl) (fun _ _ _ h => h) (by rfl) ?_ ?_
          rotate_left
          · (intro w hSw; (try dsimp only at hSw); go_simp; try with_reducible rfl)
          try simp only [Act.put, List.setIfInBounds_toArray, List.set_cons_zero, List.set_cons_succ]
          refine step_yes 23 123 ?_ (by assumption) rfl rfl (by kernel_rfl) (by kernel_rfl) (by kernel_rfl) (fun _ _ _ h => h) (by rfl) ?_ ?_
          rotate_left
          · (intro w hSw; (try dsimp only at hSw); go_simp; try with_reducible rfl)
          try simp only [Act.put, List.setIfInBounds_toArray, List.set_cons_zero, List.set_cons_succ]
          refine step_yes 24 124 ?_ (by assumption) rfl rfl (by kernel_rfl) (by kernel_rfl) (by kernel_rfl) (fun _ _ _ h => h) (by rfl) ?_ ?_
          rotate_left
          · (intro w hSw; (try dsimp only at hSw); have p0 := (CQ.out _ hSw).1; go_simp; try with_reducible rfl)
          try simp only [Act.put, List.setIfInBounds_toArray, List.set_cons_zero, List.set_cons_succ]
          refine wpAnyH_ready (rs := [20]) (by kernel_rfl) (by simp) ?_
          refine AllReadyH.cons rfl (fun K hK => ?_) AllReadyH.nil
          replace hK := Lib.hid hK
          go_simp
          have D9 := Lib.hid hHeld
          clear hHeld
          refine (bxitem_any _ b q it2 sz2 A2 xs2.length c2 (CB.out _ D9.out)).mono ?_
          rintro e w9 ⟨rfl, hw9⟩
          subst hw9
          refine hK.out _ _ D9.out (fun hHeld => ?_)
          clear hK K
          try simp only [Act.put, List.setIfInBounds_toArray, List.set_cons_zero, List.set_cons_succ]
          refine step_yes 25 125 ?_ (by assumption) rfl rfl (by kernel_rfl) (by kernel_rfl) (by kernel_rfl) (fun _ _ _ h => h) (by rfl) ?_ ?_
          rotate_left
          · (intro w hSw; (try dsimp only at hSw); go_simp; try with_reducible rfl)
          try simp only [Act.put, List.setIfInBounds_toArray, List.set_cons_zero, List.set_cons_succ]
          refine step_yes 26 126 ?_ (by assumption) rfl rfl (by kernel_rfl) (by kernel_rfl) (by kernel_rfl) (fun _ _ _ h => h) (by rfl) ?_ ?_
          rotate_left
          · (intro w hSw; (try dsimp only at hSw); go_simp; try with_reducible rfl)
          try simp only [Act.put, List.setIfInBounds_toArray, List.set_cons_zero, List.set_cons_succ]
          refine step_yes 27 127 ?_ (by assumption) rfl rfl (by kernel_rfl) (by kernel_rfl) (by kernel_rfl) (fun _ _ _ h => h) (by rfl) ?_ ?_
          rotate_left
          · (intro w hSw; (try dsimp only at hSw); go_simp; try with_reducible rfl)
          try simp only [Act.put, List.setIfInBounds_toArray, List.set_cons_zero, List.set_cons_succ]
          refine step_yes 28 128 ?_ (by assumption) rfl rfl (by kernel_rfl) (by kernel_rfl) (by kernel_rfl) (fun _ _ _ h => h) (by rfl) ?_ ?_
          rotate_left
          · (intro w hSw; (try dsimp only at hSw); go_simp; try with_reducible rfl)
          try simp only [Act.put, List.setIfInBounds_toArray, List.set_cons_zero, List.set_cons_succ]
          refine step_yes 30 130 ?_ (by assumption) rfl rfl (by kernel_rfl) (by kernel_rfl) (by kernel_rfl) (fun _ _ _ h => h) (by rfl) ?_ ?_
          rotate_left
          · (intro w hSw; (try dsimp only at hSw); go_simp; try with_reducible rfl)
          try simp only [Act.put, List.setIfInBounds_toArray, List.set_cons_zero, List.set_cons_succ]
          refine step_yes 31 131 ?_ (by assumption) rfl rfl (by kernel_rfl) (by kernel_rfl) (by kernel_rfl) (fun _ _ _ h => h) (by rfl) ?_ ?_
          rotate_left
          · (intro w hSw; (try dsimp only at hSw); go_simp; try with_reducible rfl)
          try simp only [Act.put, List.setIfInBounds_toArray, List.set_cons_zero, List.set_cons_succ]
          refine step_yes 32 132 ?_ (by assumption) rfl rfl (by kernel_rfl) (by kernel_rfl) (by kernel_rfl) (fun _ _ _ h => h) (by rfl) ?_ ?_
          rotate_left
          · (intro w hSw; (try dsimp only at hSw); go_simp; try with_reducible rfl)
          try simp only [Act.put, List.setIfInBounds_toArray, List.set_cons_zero, List.set_cons_succ]
          refine step_yes 33 133 ?_ (by assumption) rfl rfl (by kernel_rfl) (by kernel_rfl) (by kernel_rfl) (fun _ _ _ h => h) (by rfl) ?_ ?_
          rotate_left
          · (intro w hSw; (try dsimp only at hSw); have p0 := (CQ.out _ hSw).2; go_simp; try with_reducible rfl)
          try simp only [Act.put, List.setIfInBounds_toArray, List.set_cons_zero, List.set_cons_succ]
          refine step_yes 34 134 ?_ (by assumption) rfl rfl (by kernel_rfl) (by kernel_rfl) (by kernel_rfl) (fun _ _ _ h => h) (by rfl) ?_ ?_
          rotate_left
          · (intro w hSw; (try dsimp only at hSw); go_simp; try with_reducible rfl)
          try simp only [Act.put, List.setIfInBounds_toArray, List.set_cons_zero, List.set_cons_succ]
          refine wpAnyH_ready (rs := [29]) (by kernel_rfl) (by simp) ?_
          refine AllReadyH.cons rfl (fun K hK => ?_) AllReadyH.nil
          replace hK := Lib.hid hK
          go_simp
          have D9 := Lib.hid hHeld
          clear hHeld
          refine (bxused_any _ b q it2 sz2 A2 xs2.length c2 (CB.out _ D9.out)).mono ?_
          rintro e w9 ⟨rfl, hw9⟩
          subst hw9
          refine hK.out _ _ D9.out (fun hHeld => ?_)
          clear hK K
          try simp only [Act.put, List.setIfInBounds_toArray, List.set_cons_zero, List.set_cons_succ]
          refine step_yes 35 135 ?_ (by assumption) rfl rfl (by kernel_rfl) (by kernel_rfl) (by kernel_rfl) (fun _ _ _ h => h) (by rfl) ?_ ?_
          rotate_left
          · (intro w hSw; (try dsimp only at hSw); go_simp; try with_reducible rfl)
          try simp only [Act.put, List.setIfInBounds_toArray, List.set_cons_zero, List.set_cons_succ]
          refine step_yes 36 136 ?_ (by assumption) rfl rfl (by kernel_rfl) (by kernel_rfl) (by kernel_rfl) (fun _ _ _ h => h) (by rfl) ?_ ?_
          rotate_left
          · (intro w hSw; (try dsimp only at hSw); go_simp; try with_reducible rfl)
          try simp only [Act.put, List.setIfInBounds_toArray, List.set_cons_zero, List.set_cons_succ]
          refine wpAnyH_done (by kernel_rfl) ?_ _
          have DR := Lib.hid hHeld
          clear hHeld
          skip
          have U9 := Lib.hid (U8.out.chg DR.out (by simp))
          have O9 := Lib.hid (O8.out.chg DR.out (by simp))
          have P9 := Lib.hid (P8.out.chg DR.out (by simp))
          have I9 := Lib.hid (I8.out.chg DR.out (by simp))
          have B9 := Lib.hid (DR.out.at_ B8.out (by simp))
          have Q9 := Lib.hid (DR.out.at_ Q8.out (by simp))
          have M9 := Lib.hid (DR.out.at_ M8.out (by simp))
          have C9 := Lib.hid (C8.out.trans DR.out)
          have Z9 := Lib.hid DR.out.size
          have LP2 := Lib.hid P8.out.lt
          clear U8 O8 P8 I8 B8 Q8 M8 C8 DR CM CQ CB V8
          go_wp2_with fail
          refine (over_own _ A1 c1 out.length out U9.out rfl).mono ?_
          rintro e w10 ⟨rfl, hs⟩
          have hc := hs (blkOf A1) (fun a ha => mem_blkOf ha)
          clear hs
          have NN := Lib.hid (show ∀ x, A1 = some x → A2 = none ∧ B2 = none by intro x hx; have hne : out ≠ [] := (by intro e; have := (X1.out e).1; rw [this] at hx; cases hx); exact ⟨(X2.out hne).1, (Y2.out hne).1⟩)
          have G1 := Lib.hid (show ∀ x, A1 = some x → w.heap.size ≤ x.block by intro x hx; rcases F1.out x hx with e | e; exact HA.out x (e ▸ hx); exact Nat.le_trans C6.out.size e)
          have C10 := Lib.hid (C9.out.trans' hc (fun i hi => .inr (by obtain ⟨x, hx, e⟩ := of_blkOf hi; have := G1.out x hx; omega)))
          have B10 := Lib.hid (hc.at_ B9.out (by intro hm; obtain ⟨x, hx, e⟩ := of_blkOf hm; exact U9.out.ne B9.out (by decide) x hx e))
          have Q10 := Lib.hid (hc.at_ Q9.out (by intro hm; obtain ⟨x, hx, e⟩ := of_blkOf hm; exact U9.out.ne Q9.out (by decide) x hx e))
          have M10 := Lib.hid (hc.at_ M9.out (by intro hm; obtain ⟨x, hx, e⟩ := of_blkOf hm; exact U9.out.ne M9.out (by decide) x hx e))
          have O10 := Lib.hid (O9.out.chg hc (fun y hy hm => by obtain ⟨x, hx, e⟩ := of_blkOf hm; rw [(NN.out x hx).1] at hy; cases hy))
          have P10 := Lib.hid (P9.out.chg hc (fun y hy hm => by obtain ⟨x, hx, e⟩ := of_blkOf hm; rw [(NN.out x hx).2] at hy; cases hy))
          have I10 := Lib.hid (I9.out.chg hc (fun y hy hm => by obtain ⟨x, hx, e⟩ := of_blkOf hm; have := N4.out y hy; have := LI.out y hy; have := Z6.out; rcases F1.out x hx with e2 | e2; (have := LA.out x (e2 ▸ hx); omega); omega))
          clear hc U9 O9 P9 I9 B9 Q9 M9 C9
          have z4 := cell_of M10.out 4
          simp only [List.getElem?_toArray, List.getElem?_cons_succ, List.getElem?_cons_zero] at z4
          go_wp2_with fail
          refine (over_own _ A4 c4 mn ys I10.out (HY.out _ HC.out).len.symm).mono ?_
          rintro e w11 ⟨rfl, hs⟩
          have hc := hs (blkOf A4) (fun a ha => mem_blkOf ha)
          clear hs z4
          have C11 := Lib.hid (C10.out.trans' hc (fun i hi => .inr (by obtain ⟨x, hx, e⟩ := of_blkOf hi; have := N4.out x hx; have := HC.out.size; omega)))
          have B11 := Lib.hid (hc.at_ B10.out (by intro hm; obtain ⟨x, hx, e⟩ := of_blkOf hm; exact I10.out.ne B10.out (by decide) x hx e))
          have Q11 := Lib.hid (hc.at_ Q10.out (by intro hm; obtain ⟨x, hx, e⟩ := of_blkOf hm; exact I10.out.ne Q10.out (by decide) x hx e))
          have O11 := Lib.hid (O10.out.chg hc (fun y hy hm => by obtain ⟨x, hx, e⟩ := of_blkOf hm; have := N4.out x hx; have := LI.out x hx; have := Z6.out; rcases F2.out y hy with e2 | e2; (have := LA.out y (e2 ▸ hy); omega); omega))
          have P11 := Lib.hid (P10.out.chg hc (fun y hy hm => by obtain ⟨x, hx, e⟩ := of_blkOf hm; have := N4.out x hx; have := LI.out x hx; have := Z6.out; have := Z7.out; rcases G2.out y hy with e2 | e2; (have := LAQ.out y (e2 ▸ hy); omega); omega))
          have A11 := Lib.hid (show ∀ x, A2 = some x → w.heap.size ≤ x.block by intro x hx; rcases F2.out x hx with e | e; exact HA.out x (e ▸ hx); exact Nat.le_trans C6.out.size e)
          have AQ11 := Lib.hid (show ∀ x, B2 = some x → w.heap.size ≤ x.block by intro x hx; rcases G2.out x hx with e | e; exact HAQ.out x (e ▸ hx); exact Nat.le_trans C7.out.size e)
          have AP11 := Lib.hid (show ∀ x y, A2 = some x → B2 = some y → x.block ≠ y.block by intro x y hx hy; have := Z4.out; have := Z6.out; have := Z7.out; rcases G2.out y hy with e | e; exact D2.out x y hx (e ▸ hy); (have := LO2.out x hx; omega))
          clear hc
          go_wp2
          exact ⟨⟨k + 1, A2, c2, B2, d2, (it2, sz2, xs2), by omega, by simp, B11, O11, Q11, P11, INV, A11, AQ11, AP11, C11⟩, by simp [RowKit.intOf]; omega⟩
        · obtain rfl : k = zs.length := by omega
          have i3 : ¬ (zs.length : Int) < (zs.length : Int) := by omega
          go_wp2_with fail
          refine (AW.out _).mono ?_
          rintro e w4 ⟨rfl, hc⟩
          have K4 := Lib.hid (HC.out.trans hc)
          clear hc
          go_wp2
          go_ret
          exact ⟨rfl, K4.out⟩

theorem chunkscript_yes (w : World) (q : Int) (A : Option Addr) (m c : Nat) (zs : List MsgT) (D : Option Addr) (n d : Nat) (ds : List Bool) (h : RdK msgTy w A m zs) (hu : ∀ x ∈ zs, MsgR w x) (hd : RdK boolTy w D n ds) (hm : m * 56 ≤ 140737488351232) (hn : n * 1 ≤ 140737488351232) :
    Calls Try.prog 4 #[.int .i64 q, .slice A m c, .slice D n d] w fun e w' => e = .returned (.bool true) ∧ Chg [] w w' := by
  have hl := h.len
  have hl2 := hd.len
  subst hl hl2
  exact chunkscript_walk w q A c zs D d ds h hu hd (by omega) (by omega)
end Go.Proofs.Ytnpilljjkfjjiaa
