/- TopoStays, walked. -/
import Derived.Test.YtleioiihoplmaaaTostk
import Derived.Test.YtleioiihoplmaaaToacts
import Derived.Deep.Cut
namespace Go.Proofs.Ytleioiihoplmaaa
open Go.RowKit
set_option linter.unusedSimpArgs false
set_option linter.unusedVariables false



/-- What a way is made of. -/
theorem way_facts {t : List MemT} (h : checkT t = true) {n : Int} (hn : thereT t n = true) :
    (wayT t t.length n)[0]? = some n ∧ 1 ≤ (wayT t t.length n).length ∧ (wayT t t.length n)[(wayT t t.length n).length - 1]? = some 1 ∧ (∀ (j : Nat) (x y : Int), (wayT t t.length n)[j]? = some x → (wayT t t.length n)[j + 1]? = some y → (memT t x).2.1 = y) ∧ (∀ x ∈ wayT t t.length n, thereT t x = true) := by
  obtain ⟨hr, hw, h1⟩ := check_way h hn
  have hc : (1 : Int) ∈ chainT t (t.length + 1) n := by rw [chain_more hr h1 (t.length + 1) (by omega)]; exact h1
  rw [hw]
  refine ⟨chain_head (fun e => by rw [e] at hc; cases hc), List.length_pos_of_mem hc, ?_, fun j x y => chain_next, fun x hx => chain_there hx⟩
  have := chain_last hr hc
  rwa [List.getLast?_eq_getElem?] at this
theorem live_contains {t : List MemT} (h : checkT t = true) {x : Int} (hx : thereT t x = true) : (liveT t).contains x = !deadT t x := by
  rw [Bool.eq_iff_iff, List.contains_iff_mem, live_mem h]
  simp [hx]
theorem under_contains {t : List MemT} {x n : Int} (hx : thereT t x = true) (hn : (memT t x).2.1 = n) : (underT t n).contains x = true := by
  rw [List.contains_iff_mem, under_mem]
  exact ⟨hx, hn⟩

set_option maxRecDepth 100000 in
theorem topoKnownB_run (W : World) : Calls Try.prog 5 #[] W fun e w' => e = .returned (.bool true) ∧ Chg [] W w' :=
  Ev.closed_call (X := []) (g := 0) (n := 100000) (by kernel_rfl) (Ev.no_ext _) (by kernel_rfl) (by kernel_rfl) W

set_option maxRecDepth 100000 in
set_option maxHeartbeats 8000000 in
theorem topostays_walk (w : World) (A : Option Addr) (c : Nat) (l : List ActT) (h : RdK actTy w A l.length l) (hN : l.length ≤ 140737488351232) :
    Calls Try.prog 6 #[.slice A l.length c] w fun e w' => e = .returned (.bool true) ∧ Chg [] w w' := by
  have KN := Lib.hid (fun W => topoKnownB_run W)
  have HX := Lib.hid h
  by_cases hl : 60 < l.length
  · have i1 : (60 : Int) < (l.length : Int) := by omega
    clear h hl
    go_enter Try.func6, Try.ntmps6
    go_wp2_with fail
    refine (KN.out _).mono ?_
    rintro e w1 ⟨rfl, h1⟩
    have K1 := Lib.hid h1
    clear h1
    go_wp2
    go_ret
    exact ⟨rfl, K1.out⟩
  have i1 : ¬ (60 : Int) < (l.length : Int) := by omega
  have hll : l.length ≤ 60 := by omega
  clear h hl hN
  go_enter Try.func6, Try.ntmps6
  go_wp2_with fail
  refine (KN.out _).mono ?_
  rintro e w1 ⟨rfl, h1⟩
  have K1 := Lib.hid h1
  clear h1
  go_wp2_with fail
  refine (tonew_any _).mono ?_
  rintro e w2 ⟨rfl, hg, hc⟩
  have K2 := Lib.hid (K1.out.trans hc)
  have G2 := Lib.hid (show OwnK memTy w2 (some ⟨w1.heap.size, 0, none⟩) 1 [(1, 0, false)] from .of (full := [(1, 0, false)]) hg (Nat.le_refl _) (by decide) rfl rfl)
  clear hg hc
  generalize w1.heap.size = g1 at *
  go_wp2
  go_loopw [4, 5, 6, 7, 8] (fun v4 v5 v6 v7 v8 wr => ∃ (k : Nat) (B : Option Addr) (d : Nat), k ≤ l.length ∧ v5 = .int .i64 (k : Int) ∧ v4 = .slice B (actsT (l.take k)).length d ∧ Hid (RdK memTy wr B (actsT (l.take k)).length (actsT (l.take k))) ∧ Hid (∀ a, B = some a → a.block < wr.heap.size) ∧ Hid (Chg [] w wr)) (fun _ v5 _ _ _ _ => l.length - (RowKit.intOf v5).toNat)
  case atStart => exact ⟨0, some ⟨g1, 0, none⟩, 1, Nat.zero_le _, rfl, rfl, Lib.hid G2.out.reads, Lib.hid G2.out.lt, K2⟩
  case round =>
    obtain ⟨k, B, d, hk, rfl, rfl, HR, HB, HC⟩ := hrel
    generalize wr = w3 at *
    clear wr
    have k1 : IntKind.i64.wrap ((k : Int) + 1) = (k : Int) + 1 := IntWalk.i64_in _ (by omega)
    have i0 : (0 : Int) ≤ (k : Int) := by omega
    obtain ⟨hck, hcl⟩ := acts_ok (l.take k)
    rw [List.length_take] at hcl
    by_cases hlt : k < l.length
    · have i2 : (k : Int) < (l.length : Int) := by omega
      have HT := Lib.hid (List.take_succ_eq_append_getElem hlt)
      have ey := List.getElem?_eq_getElem hlt
      have HS := Lib.hid (acts_snoc (l.take k) l[k])
      have DO := does_ok hck l[k]
      obtain ⟨g, o, eA, _⟩ := HX.out.line (by omega)
      subst eA
      obtain ⟨z0, z1, z2, z3⟩ := actCells (HX.out.chg HC.out (by simp)) ey
      have DC := Lib.hid (topodoes_any w3 B d (actsT (l.take k)) l[k] HR.out HB.out (by omega))
      have htl : (actsT (l.take k)).length ≤ 61 := by omega
      generalize hx : l[k] = x at *
      generalize ht : actsT (l.take k) = t at *
      have HTT := Lib.hid ht
      generalize (doesT t x).2 = en at *
      skip
      generalize (doesT t x).1 = m at *
      obtain ⟨hcm, hkp⟩ := DO
      have HKP := Lib.hid hkp
      have hml := hkp.1
      have hml2 := hkp.2.1
      clear ey hx ht hkp
      go_wp2_with fail
      refine DC.out.mono ?_
      rintro e w4 ⟨B4, d4, rfl, hO, hB, hc⟩
      have K4 := Lib.hid (HC.out.trans hc)
      have R4 := Lib.hid hO
      have L4 := Lib.hid hB
      have T4 := Lib.hid (HR.out.chg hc (by simp))
      clear hO hB hc z0 z1 z2 z3
      have CK := Lib.hid (tocheck_any w4 B4 d4 m R4.out L4.out (by omega))
      rw [hcm] at CK
      have j1 : ¬ (m.length : Int) < (t.length : Int) := by omega
      go_wp2_with fail
      refine CK.out.mono ?_
      rintro e w5 ⟨rfl, hc⟩
      have K5 := Lib.hid (K4.out.trans hc)
      have R5 := Lib.hid (R4.out.chg hc (by simp))
      have L5 := Lib.hid (fun a ha => Nat.lt_of_lt_of_le (L4.out a ha) hc.size : ∀ a, B4 = some a → a.block < w5.heap.size)
      have T5 := Lib.hid (T4.out.chg hc (by simp))
      clear hc
      go_wp2
      go_loopw [8] (fun v8 wr => ∃ j : Nat, j ≤ t.length ∧ v8 = .int .i64 (j : Int) ∧ Hid (Chg [] w5 wr)) (fun v8 _ => t.length - (RowKit.intOf v8).toNat)
      case atStart => exact ⟨0, Nat.zero_le _, rfl, Lib.hid (Chg.refl _ _)⟩
      case round =>
        obtain ⟨j, hj, rfl, HJ⟩ := hrel
        generalize wr = w6 at *
        clear wr
        have l1 : IntKind.i64.wrap ((j : Int) + 1) = (j : Int) + 1 := IntWalk.i64_in _ (by omega)
        have l0 : (0 : Int) ≤ (j : Int) := by omega
        have T6 := Lib.hid (T5.out.chg HJ.out (by simp))
        have R6 := Lib.hid (R5.out.chg HJ.out (by simp))
        by_cases hjl : j < t.length
        · have l2 : (j : Int) < (t.length : Int) := by omega
          have l3 : (j : Int) < (m.length : Int) := by omega
          have et := List.getElem?_eq_getElem hjl
          obtain ⟨y, em, hy1, hy2⟩ := HKP.out.2.2 j _ et
          obtain ⟨gt, ot, eB, _⟩ := T6.out.line (by omega)
          subst eB
          obtain ⟨gm, om, eM, _⟩ := R6.out.line (by omega)
          subst eM
          obtain ⟨p0, p1, p2⟩ := memCells T6.out et
          obtain ⟨q0, q1, q2⟩ := memCells R6.out em
          generalize t[j] = u at *
          obtain ⟨u0, u1, u2⟩ := u
          obtain ⟨y0, y1, y2⟩ := y
          simp only at p0 p1 p2 q0 q1 q2 hy1 hy2
          subst hy1
          clear et em
          have e0 : (y0 != y0) = false := by simp
          cases u2 with
          | true =>
            obtain rfl : y2 = true := hy2 rfl
            clear hy2
            go_upto_region 14 with fail
            go_quiet (fail)
            go_wp2
            exact ⟨⟨j + 1, by omega, by simp, Lib.hid (by first | exact HJ.out.drewN _ | exact HJ.out.drew | exact HJ.out)⟩, by simp [RowKit.intOf]; omega⟩
          | false =>
            clear hy2
            go_upto_region 14 with fail
            go_quiet (fail)
            go_wp2
            exact ⟨⟨j + 1, by omega, by simp, Lib.hid (by first | exact HJ.out.drewN _ | exact HJ.out.drew | exact HJ.out)⟩, by simp [RowKit.intOf]; omega⟩
        · obtain rfl : j = t.length := by omega
          have l2 : ¬ (t.length : Int) < (t.length : Int) := by omega
          go_wp2
          exact ⟨⟨k + 1, B4, d4, by omega, by simp, by rw [HT.out, HS.out], Lib.hid (by rw [HT.out, HS.out]; exact R6.out), Lib.hid (fun a ha => Nat.lt_of_lt_of_le (L5.out a ha) HJ.out.size), Lib.hid (K5.out.trans HJ.out)⟩, by simp [RowKit.intOf]; omega⟩
    · obtain rfl : k = l.length := by omega
      have i2 : ¬ (l.length : Int) < (l.length : Int) := by omega
      generalize actsT (l.take l.length) = t at *
      have htl : t.length ≤ 61 := by omega
      have LV := Lib.hid (fun (w' : World) (hc : Chg [] w3 w') => tolive_any w' B d t (HR.out.chg hc (by simp)) (fun a ha => Nat.lt_of_lt_of_le (HB.out a ha) hc.size) (by omega))
      have HG := Lib.hid (fun (w' : World) (hc : Chg [] w3 w') => toheight_any w' B d t (HR.out.chg hc (by simp)) (fun a ha => Nat.lt_of_lt_of_le (HB.out a ha) hc.size) (by omega))
      have WY := Lib.hid (fun (w' : World) (n : Int) (hc : Chg [] w3 w') => toway_any w' B d t n (HR.out.chg hc (by simp)) (fun a ha => Nat.lt_of_lt_of_le (HB.out a ha) hc.size) (by omega))
      have UD := Lib.hid (fun (w' : World) (n : Int) (hc : Chg [] w3 w') => tounder_any w' B d t n (HR.out.chg hc (by simp)) (by omega))
      have HCK := Lib.hid hck
      have HLL := live_len t
      have HHG := Lib.hid (show heightT t = hgtT t (accT (fun i => !deadT t ((i : Int) + 1)) t.length) by unfold heightT liveT; rw [if_pos hck])
      obtain ⟨p, hp⟩ : ∃ p : Nat → Bool, (fun i : Nat => !deadT t ((i : Int) + 1)) = p := ⟨_, rfl⟩
      rw [hp] at HHG
      have HP := Lib.hid (fun i : Nat => (congrFun hp i).symm)
      clear hp hck
      have HLC := Lib.hid (fun (x : Int) (hx : thereT t x = true) => live_contains HCK.out hx)
      generalize liveT t = lv at *
      go_wp2_with fail
      refine (LV.out _ (Chg.refl _ _)).mono ?_
      rintro e w4 ⟨B4, d4, rfl, hO, hB, hc⟩
      have K4 := Lib.hid hc
      have R4 := Lib.hid hO.reads
      clear hO hB hc
      go_wp2
      go_loopw [10, 11, 12, 13, 14, 15] (fun v10 v11 v12 v13 v14 v15 wr => ∃ k : Nat, k ≤ t.length ∧ v11 = .int .i64 ((k : Int) + 1) ∧ v10 = .int .i64 (hgtT t (accT p k)) ∧ Hid (Chg [] w4 wr)) (fun _ v11 _ _ _ _ _ => t.length + 1 - (RowKit.intOf v11).toNat)
      case atStart => exact ⟨0, Nat.zero_le _, rfl, rfl, Lib.hid (Chg.refl _ _)⟩
      case round =>
        obtain ⟨k, hk, rfl, rfl, HD⟩ := hrel
        generalize wr = w5 at *
        clear wr
        have k2 : IntKind.i64.wrap ((k : Int) + 1 + 1) = (k : Int) + 1 + 1 := IntWalk.i64_in _ (by omega)
        have C5 := Lib.hid (K4.out.trans HD.out)
        by_cases hlt : k < t.length
        · have j1 : (k : Int) + 1 ≤ (t.length : Int) := by omega
          have hth := there_succ hlt
          obtain ⟨f0, f1, f2, f3, f4⟩ := way_facts HCK.out hth
          have hz : namesR t [(k : Int) + 1] = 0 := by rw [names_one, hth, HCK.out]; rfl
          have hwr : wayR t ((k : Int) + 1) = wayT t t.length ((k : Int) + 1) := by unfold wayR; rw [if_pos hz]
          have WK := Lib.hid (WY.out w5 ((k : Int) + 1) C5.out)
          rw [hz, hwr] at WK
          have hdd : p k = !((wayT t t.length ((k : Int) + 1)).any (fun x => (memT t x).2.2)) := HP.out k
          have hlc := HLC.out _ hth
          unfold deadT at hlc
          have WZ := way_len' t t.length ((k : Int) + 1)
          have HH := Lib.hid (hgt_snoc t (accT p k) ((k : Int) + 1))
          generalize wayT t t.length ((k : Int) + 1) = ws at *
          clear hz hwr
          have F3 := Lib.hid f3
          have F4 := Lib.hid f4
          have F0 := Lib.hid f0
          have F2 := Lib.hid f2
          have HDD := Lib.hid hdd
          have HLK := Lib.hid hlc
          clear f0 f2 f3 f4 hdd hlc
          go_wp2_with fail
          refine WK.out.mono ?_
          rintro e w6 ⟨B6, d6, rfl, hO, hB, hc⟩
          have K6 := Lib.hid (C5.out.trans hc)
          have KX := Lib.hid hc
          have R6 := Lib.hid hO.reads
          clear hO hB hc
          obtain ⟨g6, o6, eB, _⟩ := R6.out.line (by omega)
          subst eB
          have z0 := intCells R6.out F0.out
          have z1 := intCells R6.out F2.out
          (try simp only [Nat.add_zero] at z0)
          have m0 : ¬ (ws.length : Int) < 1 := by omega
          have m1 : (0 : Int) < (ws.length : Int) := by omega
          have m2 : ((ws.length : Int) - 1) = ((ws.length - 1 : Nat) : Int) := by omega
          have m3 : IntKind.i64.wrap ((ws.length - 1 : Nat) : Int) = ((ws.length - 1 : Nat) : Int) := IntWalk.i64_in _ (by omega)
          have m4 : ((ws.length - 1 : Nat) : Int) < (ws.length : Int) := by omega
          have m5 : (0 : Int) ≤ ((ws.length - 1 : Nat) : Int) := by omega
          have m6 : 0 < ws.length := f1
          have m7 : ((k : Int) + 1 != (k : Int) + 1) = false := by simp
          go_wp2
          go_loopw [14, 15] (fun v14 v15 wr => ∃ j : Nat, j ≤ ws.length ∧ v15 = .int .i64 (j : Int) ∧ v14 = .bool ((ws.take j).any (fun x => (memT t x).2.2)) ∧ Hid (Chg [] w6 wr)) (fun _ v15 _ => ws.length - (RowKit.intOf v15).toNat)
          case atStart => exact ⟨0, Nat.zero_le _, rfl, rfl, Lib.hid (Chg.refl _ _)⟩
          case round =>
            obtain ⟨j, hj, rfl, rfl, HE⟩ := hrel
            generalize wr = w7 at *
            clear wr
            have l1 : IntKind.i64.wrap ((j : Int) + 1) = (j : Int) + 1 := IntWalk.i64_in _ (by omega)
            have l0 : (0 : Int) ≤ (j : Int) := by omega
            have C7 := Lib.hid (K6.out.trans HE.out)
            clear z0 z1
            by_cases hjl : j < ws.length
            · have l2 : (j : Int) < (ws.length : Int) := by omega
              have HT := Lib.hid (List.take_succ_eq_append_getElem hjl)
              have hx := F4.out ws[j] (List.getElem_mem hjl)
              have ey := List.getElem?_eq_getElem hjl
              generalize ws[j] = x at *
              have EY := Lib.hid ey
              have ZY := Lib.hid (fun (w' : World) (hc : Chg [] w7 w') => intCells (R6.out.chg (HE.out.trans hc) (by simp)) ey)
              have z := ZY.out _ (Chg.refl _ _)
              obtain ⟨e1, e2, e3, e4, e5⟩ := there_at hx
              obtain ⟨g, o, eA, _⟩ := HR.out.line (by omega)
              subst eA
              obtain ⟨_, _, p2⟩ := memCells (HR.out.chg C7.out (by simp)) e5
              obtain ⟨q, hq⟩ : ∃ q : Nat, x = (q : Int) + 1 := ⟨(x - 1).toNat, by omega⟩
              have hm0 : (x - 1).toNat = q := by omega
              rw [hm0] at p2
              have q1 : IntKind.i64.wrap ((q : Int)) = (q : Int) := IntWalk.i64_in _ (by omega)
              have q2 : (0 : Int) ≤ (q : Int) := by omega
              have q3 : (q : Int) < (t.length : Int) := by omega
              have HS := Lib.hid (show (ws.take (j + 1)).any (fun x => (memT t x).2.2) = ((ws.take j).any (fun x => (memT t x).2.2) || (memT t x).2.2) by rw [HT.out, List.any_append]; simp)
              have hmx : memT t x = memT t x := rfl
              have HUC := Lib.hid (fun (n : Int) (hn : (memT t n).2.1 = x) (ht : thereT t n = true) => under_contains ht hn)
              have HUD := Lib.hid (fun W hc => UD.out W x hc)
              have HUL := accT_len (fun i => (memT t ((i : Int) + 1)).2.1 == x) t.length
              have HUL2 : (underT t x).length ≤ t.length := HUL
              clear HUL
              generalize underT t x = us at *
              generalize (memT t x).2.2 = f at *
              generalize hb1 : (ws.take j).any (fun x => (memT t x).2.2) = b1 at *
              clear hb1 e1 e2 e3 e4 e5 hm0 ey hx hmx HLC HCK
              subst hq
              by_cases h0 : j = 0
              · have g0 : ¬ (0 : Int) < (j : Int) := by omega
                have g5 : decide (0 < j) = false := by simp; omega
                have H0 := Lib.hid h0
                clear h0
                cases b1 <;>
                · go_upto_region 30 with fail
                  go_quiet (fail)
                  go_wp2
                  exact ⟨⟨j + 1, by omega, by simp, by rw [HS.out]; rfl, Lib.hid (by first | exact HE.out.drewN _ | exact HE.out.drew | exact HE.out)⟩, by simp [RowKit.intOf]; omega⟩
              have g0 : (0 : Int) < (j : Int) := by omega
              have g1 : ((j : Int) - 1) = ((j - 1 : Nat) : Int) := by omega
              have g2 : IntKind.i64.wrap ((j - 1 : Nat) : Int) = ((j - 1 : Nat) : Int) := IntWalk.i64_in _ (by omega)
              have g3 : ((j - 1 : Nat) : Int) < (ws.length : Int) := by omega
              have g4 : (0 : Int) ≤ ((j - 1 : Nat) : Int) := by omega
              have g5 : decide (0 < j) = true := by simp; omega
              have hj1 : j - 1 < ws.length := by omega
              have ex := List.getElem?_eq_getElem hj1
              have hpt := F4.out _ (List.getElem_mem hj1)
              have hup := F3.out (j - 1) _ _ ex (by rw [show j - 1 + 1 = j by omega]; exact EY.out)
              have hcu := HUC.out _ hup hpt
              have ZX := Lib.hid (fun (w' : World) (hc : Chg [] w7 w') => intCells (R6.out.chg (HE.out.trans hc) (by simp)) ex)
              generalize ws[j - 1] = xp at *
              have HCU := Lib.hid hcu
              clear ex hpt hup hcu hj1
              cases b1 <;>
              · go_upto_region 30 with fail
                clear z p2
                refine wp_region_held_drew (S := fun w' => Chg [] w7 w') (by kernel_rfl) (Chg.refl [] w7).drew (fun hHeld => ?_)
                refine step_yes 0 135 ?_ (by assumption) rfl rfl (by kernel_rfl) (by kernel_rfl) (by kernel_rfl) (fun _ _ _ h => h) (by rfl) ?_ ?_
                rotate_left
                · (intro w hSw; (try dsimp only at hSw); go_simp; try with_reducible rfl)
                try simp only [Act.put, List.setIfInBounds_toArray, List.set_cons_zero, List.set_cons_succ]
                refine step_yes 1 136 ?_ (by assumption) rfl rfl (by kernel_rfl) (by kernel_rfl) (by kernel_rfl) (fun _ _ _ h => h) (by rfl) ?_ ?_
                rotate_left
                · (intro w hSw; (try dsimp only at hSw); go_simp; try with_reducible rfl)
                try simp only [Act.put, List.setIfInBounds_toArray, List.set_cons_zero, List.set_cons_succ]
                refine step_yes 2 137 ?_ (by assumption) rfl rfl (by kernel_rfl) (by kernel_rfl) (by kernel_rfl) (fun _ _ _ h => h) (by rfl) ?_ ?_
                rotate_left
                · (intro w hSw; (try dsimp only at hSw); go_simp; try with_reducible rfl)
                try simp only [Act.put, List.setIfInBounds_toArray, List.set_cons_zero, List.set_cons_succ]
                refine step_yes 3 138 ?_ (by assumption) rfl rfl (by kernel_rfl) (by kernel_rfl) (by kernel_rfl) (fun _ _ _ h => h) (by rfl) ?_ ?_
                rotate_left
                · (intro w hSw; (try dsimp only at hSw); go_simp; try with_reducible rfl)
                try simp only [Act.put, List.setIfInBounds_toArray, List.set_cons_zero, List.set_cons_succ]
                refine step_yes 4 139 ?_ (by assumption) rfl rfl (by kernel_rfl) (by kernel_rfl) (by kernel_rfl) (fun _ _ _ h => h) (by rfl) ?_ ?_
                rotate_left
                · (intro w hSw; (try dsimp only at hSw); go_simp; try with_reducible rfl)
                try simp only [Act.put, List.setIfInBounds_toArray, List.set_cons_zero, List.set_cons_succ]
                refine step_yes 5 140 ?_ (by assumption) rfl rfl (by kernel_rfl) (by kernel_rfl) (by kernel_rfl) (fun _ _ _ h => h) (by rfl) ?_ ?_
                rotate_left
                · (intro w hSw; (try dsimp only at hSw); go_simp; try with_reducible rfl)
                try simp only [Act.put, List.setIfInBounds_toArray, List.set_cons_zero, List.set_cons_succ]
                refine step_yes 6 141 ?_ (by assumption) rfl rfl (by kernel_rfl) (by kernel_rfl) (by kernel_rfl) (fun _ _ _ h => h) (by rfl) ?_ ?_
                rotate_left
                · (intro w hSw; (try dsimp only at hSw); go_simp; try with_reducible rfl)
                try simp only [Act.put, List.setIfInBounds_toArray, List.set_cons_zero, List.set_cons_succ]
                refine step_yes 7 142 ?_ (by assumption) rfl rfl (by kernel_rfl) (by kernel_rfl) (by kernel_rfl) (fun _ _ _ h => h) (by rfl) ?_ ?_
                rotate_left
                · (intro w hSw; (try dsimp only at hSw); have q := ZY.out _ hSw; go_simp; try with_reducible rfl)
                try simp only [Act.put, List.setIfInBounds_toArray, List.set_cons_zero, List.set_cons_succ]
                refine step_yes 9 144 ?_ (by assumption) rfl rfl (by kernel_rfl) (by kernel_rfl) (by kernel_rfl) (fun _ _ _ h => h) (by rfl) ?_ ?_
                rotate_left
                · (intro w hSw; (try dsimp only at hSw); go_simp; try with_reducible rfl)
                try simp only [Act.put, List.setIfInBounds_toArray, List.set_cons_zero, List.set_cons_succ]
                refine step_yes 10 145 ?_ (by assumption) rfl rfl (by kernel_rfl) (by kernel_rfl) (by kernel_rfl) (fun _ _ _ h => h) (by rfl) ?_ ?_
                rotate_left
                · (intro w hSw; (try dsimp only at hSw); go_simp; try with_reducible rfl)
                try simp only [Act.put, List.setIfInBounds_toArray, List.set_cons_zero, List.set_cons_succ]
                refine step_yes 11 146 ?_ (by assumption) rfl rfl (by kernel_rfl) (by kernel_rfl) (by kernel_rfl) (fun _ _ _ h => h) (by rfl) ?_ ?_
                rotate_left
                · (intro w hSw; (try dsimp only at hSw); go_simp; try with_reducible rfl)
                try simp only [Act.put, List.setIfInBounds_toArray, List.set_cons_zero, List.set_cons_succ]
                refine step_yes 12 147 ?_ (by assumption) rfl rfl (by kernel_rfl) (by kernel_rfl) (by kernel_rfl) (fun _ _ _ h => h) (by rfl) ?_ ?_
                rotate_left
                · (intro w hSw; (try dsimp only at hSw); go_simp; try with_reducible rfl)
                try simp only [Act.put, List.setIfInBounds_toArray, List.set_cons_zero, List.set_cons_succ]
                refine step_yes 13 148 ?_ (by assumption) rfl rfl (by kernel_rfl) (by kernel_rfl) (by kernel_rfl) (fun _ _ _ h => h) (by rfl) ?_ ?_
                rotate_left
                · (intro w hSw; (try dsimp only at hSw); have q := ZX.out _ hSw; go_simp; try with_reducible rfl)
                try simp only [Act.put, List.setIfInBounds_toArray, List.set_cons_zero, List.set_cons_succ]
                refine wpAnyH_ready (rs := [8]) (by kernel_rfl) (by simp) ?_
                refine AllReadyH.cons rfl (fun K hK => ?_) AllReadyH.nil
                replace hK := Lib.hid hK
                go_simp
                refine (HUD.out _ (C7.out.trans hHeld)).mono ?_
                rintro e w8 ⟨B8, d8, rfl, hO, hB, hc⟩
                have C9 := Lib.hid (hHeld.trans hc)
                have R8 := Lib.hid hO.reads
                clear hO hB hc hHeld
                refine hK.out _ _ C9.out (fun hHeld => ?_)
                clear hK K
                try simp only [Act.put, List.setIfInBounds_toArray, List.set_cons_zero, List.set_cons_succ]
                refine wpAnyH_ready (rs := [14]) (by kernel_rfl) (by simp) ?_
                refine AllReadyH.cons rfl (fun K hK => ?_) AllReadyH.nil
                replace hK := Lib.hid hK
                go_simp
                have D9 := Lib.hid hHeld
                clear hHeld
                refine (tohasl_any _ B8 d8 us xp (R8.out.chg ((Chg.refl [] _)) (by simp)) (by omega)).mono ?_
                rw [HCU.out]
                rintro e w9 ⟨rfl, hw9⟩
                subst hw9
                refine hK.out _ _ D9.out (fun hHeld => ?_)
                clear hK K
                try simp only [Act.put, List.setIfInBounds_toArray, List.set_cons_zero, List.set_cons_succ]
                refine step_yes 15 150 ?_ (by assumption) rfl rfl (by kernel_rfl) (by kernel_rfl) (by kernel_rfl) (fun _ _ _ h => h) (by rfl) ?_ ?_
                rotate_left
                · (intro w hSw; (try dsimp only at hSw); go_simp; try with_reducible rfl)
                try simp only [Act.put, List.setIfInBounds_toArray, List.set_cons_zero, List.set_cons_succ]
                refine step_yes 16 151 ?_ (by assumption) rfl rfl (by kernel_rfl) (by kernel_rfl) (by kernel_rfl) (fun _ _ _ h => h) (by rfl) ?_ ?_
                rotate_left
                · (intro w hSw; (try dsimp only at hSw); go_simp; try with_reducible rfl)
                try simp only [Act.put, List.setIfInBounds_toArray, List.set_cons_zero, List.set_cons_succ]
                refine wpAnyH_done (by kernel_rfl) ?_ _
                have KE := Lib.hid (HE.out.trans D9.out)
                go_wp2
                exact ⟨⟨j + 1, by omega, by simp, by rw [HS.out]; rfl, KE⟩, by simp [RowKit.intOf]; omega⟩
            · obtain rfl : j = ws.length := by omega
              have l2 : ¬ (ws.length : Int) < (ws.length : Int) := by omega
              rw [List.take_length]
              have hdd := HDD.out
              have hlk := HLK.out
              generalize ws.any (fun x => (memT t x).2.2) = b at *
              have HA := Lib.hid (fun W (hc : Chg [] w4 W) => tohasl_any W B4 d4 lv ((k : Int) + 1) (R4.out.chg hc (by simp)) (by omega))
              rw [hlk] at HA
              skip
              have q1 : IntKind.i64.wrap ((ws.length - 1 : Nat) : Int) = ((ws.length - 1 : Nat) : Int) := m3
              cases b with
              | true =>
                have HEL := Lib.hid (accT_no (p := p) (k := k) (by rw [hdd]; rfl))
                clear hdd hlk
                go_wp2_with fail
                refine (HA.out _ (HD.out.trans (KX.out.trans HE.out))).mono ?_
                rintro e w8 ⟨rfl, rfl⟩
                have KE := Lib.hid (HD.out.trans (KX.out.trans HE.out))
                go_wp2
                exact ⟨⟨k + 1, by omega, by simp, by rw [HEL.out], KE⟩, by simp [RowKit.intOf]; omega⟩
              | false =>
                have HEL := Lib.hid (accT_yes (p := p) (k := k) (by rw [hdd]; rfl))
                clear hdd hlk
                go_wp2_with fail
                refine (HA.out _ (HD.out.trans (KX.out.trans HE.out))).mono ?_
                rintro e w8 ⟨rfl, rfl⟩
                have KE := Lib.hid (HD.out.trans (KX.out.trans HE.out))
                have HV := Lib.hid ((congrArg (hgtT t) HEL.out).trans HH.out)
                generalize hgtT t (accT p k) = mo at *
                go_wp2
                refine ⟨⟨k + 1, by omega, by simp, ?_, KE⟩, by simp [RowKit.intOf]; omega⟩
                rw [HV.out]
                refine congrArg (Value.int .i64) ?_
                (try simp only [m2])
                (try split) <;> omega
        · obtain rfl : k = t.length := by omega
          have j1 : ¬ (t.length : Int) + 1 ≤ (t.length : Int) := by omega
          have hg := HG.out w5 C5.out
          rw [HHG.out] at hg
          have HGH := Lib.hid hg
          clear hg
          generalize hgtT t (accT p t.length) = hh at *
          have e0 : (hh == hh) = true := by simp
          go_wp2_with fail
          refine HGH.out.mono ?_
          rintro e w6 ⟨rfl, hc⟩
          have K6 := Lib.hid (HC.out.trans (C5.out.trans hc))
          clear hc
          go_wp2
          go_ret
          exact ⟨rfl, K6.out⟩

theorem topostays_yes (w : World) (A : Option Addr) (m c : Nat) (l : List ActT) (h : RdK actTy w A m l) (hm : m * 32 ≤ 140737488351232) :
    Calls Try.prog 6 #[.slice A m c] w fun e w' => e = .returned (.bool true) ∧ Chg [] w w' := by
  have hl := h.len
  subst hl
  exact topostays_walk w A c l h (by omega)
end Go.Proofs.Ytleioiihoplmaaa
