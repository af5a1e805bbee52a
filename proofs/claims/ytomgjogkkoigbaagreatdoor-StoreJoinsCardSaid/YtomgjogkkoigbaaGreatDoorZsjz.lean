/- event.Closed. A message as an argument. Rows of messages; as arguments. Rows of bools; as arguments. StoreJoins. Rows of events as arguments. Nothing is asked of the variables. -/
import Derived.Test.YtomgjogkkoigbaaGreatDoorZsjy
import Derived.Test.YtomgjogkkoigbaaGreatDoorShelf4
import Derived.Test.YtomgjogkkoigbaaGreatDoorZsjd
import Derived.Deep.Cut
import Derived.BigQuiet
import Derived.Test.YtomgjogkkoigbaaGreatDoorZsjq
import Derived.Test.YtomgjogkkoigbaaGreatDoorZsja
import Derived.Test.YtomgjogkkoigbaaGreatDoorZsjx
import Derived.Test.YtomgjogkkoigbaaGreatDoorZsji
import Derived.Deep.RegionHeld3
import Derived.Test.YtomgjogkkoigbaaGreatDoorLaid0
namespace Go.Proofs.YtomgjogkkoigbaaGreatDoor
section
open Go.RowKit Go.Lib
set_option linter.unusedSimpArgs false
set_option linter.unusedVariables false


theorem EvsR.perm {w : World} {xs ms : List EvT} {es : List EvP} (h : EvsR w xs es) (hp : ms.Perm xs) : ∃ fs, fs.Perm es ∧ EvsR w ms fs := by
  obtain ⟨fs, hl, hz⟩ := perm_zip hp es h.1.symm
  have hm : ms.length = xs.length := hp.length_eq
  refine ⟨fs, ?_, hl.symm, fun i x e hx he => ?_⟩
  · have := hz.map Prod.snd
    rwa [List.map_snd_zip (by omega), List.map_snd_zip (by rw [h.1]; exact Nat.le_refl _)] at this
  · have hi : (x, e) ∈ ms.zip fs := List.mem_of_getElem? (i := i) (by rw [List.getElem?_zip_eq_some]; exact ⟨hx, he⟩)
    obtain ⟨j, hj⟩ := List.getElem?_of_mem (hz.mem_iff.1 hi)
    rw [List.getElem?_zip_eq_some] at hj
    exact h.2 j x e hj.1 hj.2
/-- In order, and none beside one of its dot: no two of one dot. -/
theorem up_apart {w : World} {ms : List EvT} {fs : List EvP} (h : EvsR w ms fs) (hu : UpE ms) (ha : ∀ (p : Nat) (a b : EvT), ms[p]? = some a → ms[p + 1]? = some b → ¬ (a.n = b.n ∧ a.s = b.s)) : fs.Pairwise (fun a b => ¬ (a.n = b.n ∧ a.s = b.s)) := by
  rw [List.pairwise_iff_getElem]
  intro i j hi hj hij
  have hl := h.1
  have ei := List.getElem?_eq_getElem (show i < ms.length by omega)
  have ej := List.getElem?_eq_getElem (show j < ms.length by omega)
  have ek := List.getElem?_eq_getElem (show i + 1 < ms.length by omega)
  have r1 := h.2 i _ _ ei (List.getElem?_eq_getElem hi)
  have r2 := h.2 j _ _ ej (List.getElem?_eq_getElem hj)
  rw [← r1.n, ← r1.s, ← r2.n, ← r2.s]
  have a := ha i _ _ ei ek
  have b := up_at hu ei ek (by omega)
  by_cases q : i + 1 = j
  · subst q
    exact a
  · have d := up_at hu ek ej (by omega)
    unfold LtD at b d
    omega
set_option maxRecDepth 100000 in
set_option maxHeartbeats 16000000 in
theorem evclosed_any (w : World) (A : Option Addr) (c : Nat) (xs : List EvT) (es : List EvP) (h : RdK evTy w A xs.length xs) (hx : EvsR w xs es) (hf : FitE w xs) (hn : xs.length ≤ 100000) (hs : ∀ e ∈ es, EvSm e) :
    Calls Tryz.prog 38 #[.slice A xs.length c] w fun r w' => r = .returned (.bool (closedE es)) ∧ Chg [] w w' := by

  have HA := Lib.hid h
  have HX := Lib.hid hx
  have HF := Lib.hid hf
  have HN := Lib.hid hn
  have HS := Lib.hid hs
  clear h hx hf hn hs
  go_enter Tryz.func38, Tryz.ntmps38
  go_wp2_with fail
  refine (cloneEv_any w A xs.length c xs HA.out (by have := HN.out; omega)).mono ?_
  rintro r w1 ⟨A1, c1, rfl, o1, n1, h1⟩
  have O1 := Lib.hid o1
  have N1 := Lib.hid n1
  have C1 := Lib.hid h1
  have L1 := Lib.hid (o1.lt_)
  clear o1 n1 h1
  obtain ⟨w2, hw, hc, b2⟩ := news1 w1 (.cells #[.slice A1 xs.length c1] 22)
  have W2 := Lib.hid hw
  have B2 := Lib.hid b2
  have NE : Hid (w1.heap.size ∉ blkOf A1) := Lib.hid (notin_hi L1.out (Nat.le_refl _))
  replace O1 := Lib.hid (O1.out.chg hc (by simp))
  replace C1 := Lib.hid (C1.out.trans hc)
  clear hw hc b2
  go_upto_region 2 with fail
  rw [← W2.out]
  generalize w1.heap.size = gp at *
  clear W2
  have p0 := cell_of B2.out 0
  simp only [List.getElem?_toArray, List.getElem?_cons_succ, List.getElem?_cons_zero] at p0
  go_wp2_with fail
  refine (sortp_any (R := evTy) Tryz.llLaysE06 Tryz.isAgg30 Tryz.sizeOf30 cmpEv swoEv 81 (enters_of Tryz.func81 (by kernel_rfl) rfl) evcmp_says w2 A1 c1 xs O1.out (by have := HN.out; omega)).mono ?_
  rintro r w3 ⟨rfl, ms, hp, hs, o2, h2⟩
  have RO := Lib.hid o2
  replace B2 := Lib.hid (h2.at_ B2.out NE.out)
  replace C1 := Lib.hid (C1.out.trans' h2 fun i hi => .inr (blkOf_new N1.out i hi))
  have ML : ms.length = xs.length := hp.length_eq
  have UP : Hid (UpE ms) := Lib.hid (hs.imp (fun {x y} q => by
    rw [ltEv, decide_eq_false_iff_not] at q
    exact q))
  obtain ⟨fs, hfp, hr⟩ := HX.out.perm hp
  have RX := Lib.hid (hr.chg C1.out)
  have RF : Hid (FitE w3 ms) := Lib.hid (fun x hx => (HF.out x (hp.mem_iff.1 hx)).chg C1.out)
  have CE : Hid (closedE es = closedE fs) := Lib.hid (closed_perm hfp.symm)
  have ES : Hid (∀ e ∈ fs, EvSm e) := Lib.hid (fun e he => HS.out e (hfp.mem_iff.1 he))
  have MN : Hid (ms.length ≤ 100000) := Lib.hid (by rw [ML]; exact HN.out)
  rw [← ML] at B2 ⊢
  clear hp hs o2 h2 O1 hfp hr p0 HX HF HS HN ML HA N1 L1 NE
  have p0 := cell_of B2.out 0
  simp only [List.getElem?_toArray, List.getElem?_cons_succ, List.getElem?_cons_zero] at p0
  go_wp2
  clear p0
  go_loopw [4, 12] (fun v4 v12 wr => ∃ (k : Nat), k ≤ ms.length ∧ v12 = .int .i64 k ∧ Hid (okAll (fs.take k) = true) ∧ Hid (∀ (p : Nat) (a b : EvT), p + 1 < k → ms[p]? = some a → ms[p + 1]? = some b → ¬ (a.n = b.n ∧ a.s = b.s)) ∧ Hid (Chg [] w3 wr)) (fun _ v12 _ => ms.length - (RowKit.intOf v12).toNat)
  case atStart => exact ⟨0, Nat.zero_le _, rfl, Lib.hid rfl, Lib.hid (fun p a b h => absurd h (by omega)), Chg.refl _ _⟩
  case round =>
    obtain ⟨k, hk, rfl, OKK, AP, PC⟩ := hrel
    have j0 : (0 : Int) ≤ (k : Int) := by omega
    by_cases hlt : k < ms.length
    · have j1 : (k : Int) < (ms.length : Int) := by omega
      have j3 : IntKind.i64.wrap ((k : Int) + 1) = (k : Int) + 1 := IntWalk.i64_in _ (by have := MN.out; omega)
      obtain ⟨g3, o3, eA, _⟩ := RO.out.reads.line (by omega)
      have eo : o3 = 0 := by
        rcases RO.out.shape with ⟨h, _⟩ | ⟨g', h, _⟩
        · rw [h] at eA; cases eA
        · rw [h] at eA; cases eA; rfl
      subst eo
      subst eA
      obtain ⟨x, e, ex, ee, rx⟩ := RX.out.at_ hlt
      obtain ⟨z0, z1, z2, z3, z4, z5, z6⟩ := evCells (RO.out.reads.chg PC.out (by simp)) ex
      simp only [Nat.zero_add] at z0 z1 z2 z3 z4 z5 z6
      have EX := Lib.hid ex
      have EE := Lib.hid ee
      have RX1 := Lib.hid rx
      have ES1 := Lib.hid (ES.out e (List.mem_of_getElem? ee))
      clear ex ee rx
      obtain ⟨w5, hw5, c5, b5⟩ := news1 wr (.cells #[.int .i64 x.n, .int .i64 x.s, .string x.p, .int .i64 x.k, .int .i64 x.m, .slice x.A x.l x.c, .slice x.B x.bl x.bc] 30)
      have W5 := Lib.hid hw5
      have B5 := Lib.hid b5
      replace PC := Lib.hid (PC.out.trans c5)
      clear hw5 c5 b5
      go_upto_region 6 with fail
      rw [← W5.out]
      generalize wr.heap.size = g6 at *
      clear W5 z0 z1 z2 z3 z4 z5 z6
      have P5 := Lib.hid (PC.out.at_ B2.out (by simp))
      have HB : Hid (∀ w', Chg [] w5 w' → (w'.cell? ⟨g6, 0, none⟩ = some (.int .i64 x.n) ∧ w'.cell? ⟨g6, 1, none⟩ = some (.int .i64 x.s) ∧ w'.cell? ⟨g6, 2, none⟩ = some (.string x.p) ∧ w'.cell? ⟨g6, 3, none⟩ = some (.int .i64 x.k) ∧ w'.cell? ⟨g6, 4, none⟩ = some (.int .i64 x.m) ∧ w'.cell? ⟨g6, 5, none⟩ = some (.slice x.A x.l x.c) ∧ w'.cell? ⟨g6, 6, none⟩ = some (.slice x.B x.bl x.bc)) ∧ w'.cell? ⟨gp, 0, none⟩ = some (.slice (some ⟨g3, 0, none⟩) ms.length c1)) := Lib.hid (fun w' hc => by
        have b := hc.at_ B5.out (by simp)
        exact ⟨⟨cell_of b 0, cell_of b 1, cell_of b 2, cell_of b 3, cell_of b 4, cell_of b 5, cell_of b 6⟩, cell_of (hc.at_ P5.out (by simp)) 0⟩)
      have HR : Hid (∀ w', Chg [] w5 w' → ∀ y, ms[k - 1]? = some y → w'.cell? ⟨g3, (k - 1) * 7, none⟩ = some (.int .i64 y.n) ∧ w'.cell? ⟨g3, (k - 1) * 7 + 1, none⟩ = some (.int .i64 y.s)) := Lib.hid (fun w' hc y hy => by
        have q := evCells (RO.out.reads.chg (PC.out.trans hc) (by simp)) hy
        simp only [Nat.zero_add] at q
        exact ⟨q.1, q.2.1⟩)
      have CHK : Hid (∀ w', Chg [] w5 w' → Calls Tryz.prog 46 #[.agg #[.int .i64 x.n, .int .i64 x.s, .string x.p, .int .i64 x.k, .int .i64 x.m, .slice x.A x.l x.c, .slice x.B x.bl x.bc]] w' fun r w2 => r = .returned (.int .i64 (chkEv e)) ∧ Chg [] w' w2) := Lib.hid (fun w' hc => evcheck_any w' x e (RX1.out.chg (PC.out.trans hc)) ES1.out)
      rcases chkEv_two e with e1 | e1
      rotate_left
      · have NO : Hid (closedE fs = false) := Lib.hid (closed_no_chk EE.out (by omega))
        refine wp_region_held_drew (S := fun w' => Chg [] w5 w') (by kernel_rfl) (Chg.refl [] w5).drew (fun hHeld => ?_)
        refine sy 0 17 rfl rfl ?_ (hy := by (intro w hSw; (try dsimp only at hSw); have hq := HB.out _ hSw; obtain ⟨⟨q0, q1, q2, q3, q4, q5, q6⟩, q7⟩ := hq; go_simp; try with_reducible rfl))
        try simp only [Act.put, sA, s0, s1]
        refine wpAnyH_ready (rs := [1]) (by kernel_rfl) (by simp) ?_
        refine AllReadyH.cons rfl (fun K hK => ?_) AllReadyH.nil
        replace hK := Lib.hid hK
        go_simp
        refine (CHK.out _ hHeld).mono ?_
        rintro r w9 ⟨rfl, hc⟩
        rw [e1]
        have C9 := Lib.hid (hHeld.trans hc)
        clear hc hHeld
        refine hK.out _ _ C9.out (fun hHeld => ?_)
        clear hK K
        try simp only [Act.put, sA, s0, s1]
        refine sy 2 19 rfl rfl ?_
        try simp only [Act.put, sA, s0, s1]
        refine sy 3 20 rfl rfl ?_
        try simp only [Act.put, sA, s0, s1]
        refine sn 4 21 rfl rfl ?_
        try simp only [Act.put, sA, s0, s1]
        refine sn 5 22 rfl rfl ?_
        try simp only [Act.put, sA, s0, s1]
        refine sn 6 23 rfl rfl ?_
        try simp only [Act.put, sA, s0, s1]
        refine sn 7 24 rfl rfl ?_
        try simp only [Act.put, sA, s0, s1]
        refine sn 8 25 rfl rfl ?_
        try simp only [Act.put, sA, s0, s1]
        refine sn 9 26 rfl rfl ?_
        try simp only [Act.put, sA, s0, s1]
        refine sn 10 27 rfl rfl ?_
        try simp only [Act.put, sA, s0, s1]
        refine sn 11 28 rfl rfl ?_
        try simp only [Act.put, sA, s0, s1]
        refine sn 12 29 rfl rfl ?_
        try simp only [Act.put, sA, s0, s1]
        refine sn 13 30 rfl rfl ?_
        try simp only [Act.put, sA, s0, s1]
        refine sn 14 31 rfl rfl ?_
        try simp only [Act.put, sA, s0, s1]
        refine sn 15 32 rfl rfl ?_
        try simp only [Act.put, sA, s0, s1]
        refine sn 16 33 rfl rfl ?_
        try simp only [Act.put, sA, s0, s1]
        refine sy 17 34 rfl rfl ?_
        try simp only [Act.put, sA, s0, s1]
        refine wpAnyH_done (by kernel_rfl) ?_ _
        clear hHeld HB HR CHK
        go_wp2
        go_ret
        rw [CE.out, NO.out]
        exact ⟨rfl, C1.out.trans (PC.out.trans C9.out)⟩
      have OT : Hid (okAll (fs.take (k + 1)) = true) := Lib.hid (by rw [okAll_take EE.out, OKK.out, e1]; rfl)
      by_cases k0 : k = 0
      · subst k0
        have AT : Hid (∀ (p : Nat) (a b : EvT), p + 1 < 0 + 1 → ms[p]? = some a → ms[p + 1]? = some b → ¬ (a.n = b.n ∧ a.s = b.s)) := Lib.hid (fun p a b h => absurd h (by omega))
        refine wp_region_held_drew (S := fun w' => Chg [] w5 w') (by kernel_rfl) (Chg.refl [] w5).drew (fun hHeld => ?_)
        refine sy 0 17 rfl rfl ?_ (hy := by (intro w hSw; (try dsimp only at hSw); have hq := HB.out _ hSw; obtain ⟨⟨q0, q1, q2, q3, q4, q5, q6⟩, q7⟩ := hq; go_simp; try with_reducible rfl))
        try simp only [Act.put, sA, s0, s1]
        refine wpAnyH_ready (rs := [1]) (by kernel_rfl) (by simp) ?_
        refine AllReadyH.cons rfl (fun K hK => ?_) AllReadyH.nil
        replace hK := Lib.hid hK
        go_simp
        refine (CHK.out _ hHeld).mono ?_
        rintro r w9 ⟨rfl, hc⟩
        rw [e1]
        have C9 := Lib.hid (hHeld.trans hc)
        clear hc hHeld
        refine hK.out _ _ C9.out (fun hHeld => ?_)
        clear hK K
        try simp only [Act.put, sA, s0, s1]
        refine sy 2 19 rfl rfl ?_
        try simp only [Act.put, sA, s0, s1]
        refine sy 3 20 rfl rfl ?_
        try simp only [Act.put, sA, s0, s1]
        refine sy 4 21 rfl rfl ?_
        try simp only [Act.put, sA, s0, s1]
        refine sy 5 22 rfl rfl ?_
        try simp only [Act.put, sA, s0, s1]
        refine sy 6 23 rfl rfl ?_
        try simp only [Act.put, sA, s0, s1]
        refine sn 7 24 rfl rfl ?_
        try simp only [Act.put, sA, s0, s1]
        refine sn 8 25 rfl rfl ?_
        try simp only [Act.put, sA, s0, s1]
        refine sn 9 26 rfl rfl ?_
        try simp only [Act.put, sA, s0, s1]
        refine sn 10 27 rfl rfl ?_
        try simp only [Act.put, sA, s0, s1]
        refine sn 11 28 rfl rfl ?_
        try simp only [Act.put, sA, s0, s1]
        refine sn 12 29 rfl rfl ?_
        try simp only [Act.put, sA, s0, s1]
        refine sn 13 30 rfl rfl ?_
        try simp only [Act.put, sA, s0, s1]
        refine sn 14 31 rfl rfl ?_
        try simp only [Act.put, sA, s0, s1]
        refine sn 15 32 rfl rfl ?_
        try simp only [Act.put, sA, s0, s1]
        refine sy 16 33 rfl rfl ?_
        try simp only [Act.put, sA, s0, s1]
        refine sy 17 34 rfl rfl ?_
        try simp only [Act.put, sA, s0, s1]
        refine wpAnyH_done (by kernel_rfl) ?_ _
        clear hHeld HB HR CHK
        have RC9 := Lib.hid (PC.out.trans C9.out)
        go_wp2
        go_round
        case rel => exact ⟨0 + 1, by omega, by go_num, OT, AT, RC9⟩
        case measure => simp [RowKit.intOf]; omega
      obtain ⟨y, hy⟩ : ∃ y, ms[k - 1]? = some y := ⟨_, List.getElem?_eq_getElem (by omega)⟩
      have EY := Lib.hid hy
      clear hy
      have g1 : (0 : Int) < (k : Int) := by omega
      have g2 : 0 < k := by omega
      have g3' : decide ((0 : Int) < (k : Int)) = true := by simp; omega
      have g4 : decide (0 < k) = true := by simp; omega
      have w1' : IntKind.i64.wrap ((k : Int) - 1) = ((k - 1 : Nat) : Int) := by rw [IntWalk.i64_in _ (by have := MN.out; omega)]; omega
      have g5 : (0 : Int) ≤ ((k - 1 : Nat) : Int) := by omega
      have g6' : ((k - 1 : Nat) : Int) < (ms.length : Int) := by omega
      have g7 : k - 1 < ms.length := by omega
      by_cases d1 : y.n = x.n ∧ y.s = x.s
      · have NO : Hid (closedE fs = false) := Lib.hid (by
          obtain ⟨y2, f, ey, ef, ry⟩ := RX.out.at_ g7
          rw [EY.out] at ey
          cases ey
          exact closed_no_two ef EE.out (by omega) (fun q => q.1 (by rw [← ry.n, ← ry.s, ← RX1.out.n, ← RX1.out.s]; exact d1)))
        have dq : ((y.n == x.n) : Bool) = true := by simpa using d1.1
        have dr : ((y.s == x.s) : Bool) = true := by simpa using d1.2
        refine wp_region_held_drew (S := fun w' => Chg [] w5 w') (by kernel_rfl) (Chg.refl [] w5).drew (fun hHeld => ?_)
        refine sy 0 17 rfl rfl ?_ (hy := by (intro w hSw; (try dsimp only at hSw); have hq := HB.out _ hSw; obtain ⟨⟨q0, q1, q2, q3, q4, q5, q6⟩, q7⟩ := hq; go_simp; try with_reducible rfl))
        try simp only [Act.put, sA, s0, s1]
        refine wpAnyH_ready (rs := [1]) (by kernel_rfl) (by simp) ?_
        refine AllReadyH.cons rfl (fun K hK => ?_) AllReadyH.nil
        replace hK := Lib.hid hK
        go_simp
        refine (CHK.out _ hHeld).mono ?_
        rintro r w9 ⟨rfl, hc⟩
        rw [e1]
        have C9 := Lib.hid (hHeld.trans hc)
        clear hc hHeld
        refine hK.out _ _ C9.out (fun hHeld => ?_)
        clear hK K
        try simp only [Act.put, sA, s0, s1]
        refine sy 2 19 rfl rfl ?_
        try simp only [Act.put, sA, s0, s1]
        refine sy 3 20 rfl rfl ?_
        try simp only [Act.put, sA, s0, s1]
        refine sy 4 21 rfl rfl ?_
        try simp only [Act.put, sA, s0, s1]
        refine sy 5 22 rfl rfl ?_
        try simp only [Act.put, sA, s0, s1]
        refine sy 6 23 rfl rfl ?_
        try simp only [Act.put, sA, s0, s1]
        refine sy 7 24 rfl rfl ?_ (hy := by (intro w hSw; (try dsimp only at hSw); have hq := HB.out _ hSw; obtain ⟨⟨q0, q1, q2, q3, q4, q5, q6⟩, q7⟩ := hq; go_simp; try with_reducible rfl))
        try simp only [Act.put, sA, s0, s1]
        refine sy 8 25 rfl rfl ?_
        try simp only [Act.put, sA, s0, s1]
        refine sy 9 26 rfl rfl ?_
        try simp only [Act.put, sA, s0, s1]
        refine sy 10 27 rfl rfl ?_
        try simp only [Act.put, sA, s0, s1]
        refine sy 11 28 rfl rfl ?_
        try simp only [Act.put, sA, s0, s1]
        refine sy 12 29 rfl rfl ?_ (hy := by (intro w hSw; (try dsimp only at hSw); have hq := HR.out _ hSw y EY.out; obtain ⟨p0, p1⟩ := hq; go_simp; try with_reducible rfl))
        try simp only [Act.put, sA, s0, s1]
        refine sy 13 30 rfl rfl ?_
        try simp only [Act.put, sA, s0, s1]
        refine sy 14 31 rfl rfl ?_ (hy := by (intro w hSw; (try dsimp only at hSw); have hq := HB.out _ hSw; obtain ⟨⟨q0, q1, q2, q3, q4, q5, q6⟩, q7⟩ := hq; go_simp; try with_reducible rfl))
        try simp only [Act.put, sA, s0, s1]
        refine sy 15 32 rfl rfl ?_
        try simp only [Act.put, sA, s0, s1]
        refine sy 16 33 rfl rfl ?_
        try simp only [Act.put, sA, s0, s1]
        refine sy 17 34 rfl rfl ?_
        try simp only [Act.put, sA, s0, s1]
        refine wpAnyH_done (by kernel_rfl) ?_ _
        clear hHeld HB HR CHK
        go_wp2
        go_ret
        rw [CE.out, NO.out]
        exact ⟨rfl, C1.out.trans (PC.out.trans C9.out)⟩
      have AT : Hid (∀ (p : Nat) (a b : EvT), p + 1 < k + 1 → ms[p]? = some a → ms[p + 1]? = some b → ¬ (a.n = b.n ∧ a.s = b.s)) := Lib.hid (fun p a b h ha hb => by
        by_cases q : p + 1 = k
        · obtain rfl : p = k - 1 := by omega
          rw [EY.out] at ha
          cases ha
          rw [show k - 1 + 1 = k by omega, EX.out] at hb
          cases hb
          exact d1
        · exact AP.out p a b (by omega) ha hb)
      by_cases d2 : y.n = x.n
      · have dq : ((y.n == x.n) : Bool) = true := by simpa using d2
        have dr : ((y.s == x.s) : Bool) = false := by simpa using (fun q => d1 ⟨d2, q⟩)
        refine wp_region_held_drew (S := fun w' => Chg [] w5 w') (by kernel_rfl) (Chg.refl [] w5).drew (fun hHeld => ?_)
        refine sy 0 17 rfl rfl ?_ (hy := by (intro w hSw; (try dsimp only at hSw); have hq := HB.out _ hSw; obtain ⟨⟨q0, q1, q2, q3, q4, q5, q6⟩, q7⟩ := hq; go_simp; try with_reducible rfl))
        try simp only [Act.put, sA, s0, s1]
        refine wpAnyH_ready (rs := [1]) (by kernel_rfl) (by simp) ?_
        refine AllReadyH.cons rfl (fun K hK => ?_) AllReadyH.nil
        replace hK := Lib.hid hK
        go_simp
        refine (CHK.out _ hHeld).mono ?_
        rintro r w9 ⟨rfl, hc⟩
        rw [e1]
        have C9 := Lib.hid (hHeld.trans hc)
        clear hc hHeld
        refine hK.out _ _ C9.out (fun hHeld => ?_)
        clear hK K
        try simp only [Act.put, sA, s0, s1]
        refine sy 2 19 rfl rfl ?_
        try simp only [Act.put, sA, s0, s1]
        refine sy 3 20 rfl rfl ?_
        try simp only [Act.put, sA, s0, s1]
        refine sy 4 21 rfl rfl ?_
        try simp only [Act.put, sA, s0, s1]
        refine sy 5 22 rfl rfl ?_
        try simp only [Act.put, sA, s0, s1]
        refine sy 6 23 rfl rfl ?_
        try simp only [Act.put, sA, s0, s1]
        refine sy 7 24 rfl rfl ?_ (hy := by (intro w hSw; (try dsimp only at hSw); have hq := HB.out _ hSw; obtain ⟨⟨q0, q1, q2, q3, q4, q5, q6⟩, q7⟩ := hq; go_simp; try with_reducible rfl))
        try simp only [Act.put, sA, s0, s1]
        refine sy 8 25 rfl rfl ?_
        try simp only [Act.put, sA, s0, s1]
        refine sy 9 26 rfl rfl ?_
        try simp only [Act.put, sA, s0, s1]
        refine sy 10 27 rfl rfl ?_
        try simp only [Act.put, sA, s0, s1]
        refine sy 11 28 rfl rfl ?_
        try simp only [Act.put, sA, s0, s1]
        refine sy 12 29 rfl rfl ?_ (hy := by (intro w hSw; (try dsimp only at hSw); have hq := HR.out _ hSw y EY.out; obtain ⟨p0, p1⟩ := hq; go_simp; try with_reducible rfl))
        try simp only [Act.put, sA, s0, s1]
        refine sy 13 30 rfl rfl ?_
        try simp only [Act.put, sA, s0, s1]
        refine sy 14 31 rfl rfl ?_ (hy := by (intro w hSw; (try dsimp only at hSw); have hq := HB.out _ hSw; obtain ⟨⟨q0, q1, q2, q3, q4, q5, q6⟩, q7⟩ := hq; go_simp; try with_reducible rfl))
        try simp only [Act.put, sA, s0, s1]
        refine sy 15 32 rfl rfl ?_
        try simp only [Act.put, sA, s0, s1]
        refine sy 16 33 rfl rfl ?_
        try simp only [Act.put, sA, s0, s1]
        refine sy 17 34 rfl rfl ?_
        try simp only [Act.put, sA, s0, s1]
        refine wpAnyH_done (by kernel_rfl) ?_ _
        clear hHeld HB HR CHK
        have RC9 := Lib.hid (PC.out.trans C9.out)
        go_wp2
        go_round
        case rel => exact ⟨k + 1, by omega, by go_num, OT, AT, RC9⟩
        case measure => simp [RowKit.intOf]; omega
      have dq : ((y.n == x.n) : Bool) = false := by simpa using d2
      refine wp_region_held_drew (S := fun w' => Chg [] w5 w') (by kernel_rfl) (Chg.refl [] w5).drew (fun hHeld => ?_)
      refine sy 0 17 rfl rfl ?_ (hy := by (intro w hSw; (try dsimp only at hSw); have hq := HB.out _ hSw; obtain ⟨⟨q0, q1, q2, q3, q4, q5, q6⟩, q7⟩ := hq; go_simp; try with_reducible rfl))
      try simp only [Act.put, sA, s0, s1]
      refine wpAnyH_ready (rs := [1]) (by kernel_rfl) (by simp) ?_
      refine AllReadyH.cons rfl (fun K hK => ?_) AllReadyH.nil
      replace hK := Lib.hid hK
      go_simp
      refine (CHK.out _ hHeld).mono ?_
      rintro r w9 ⟨rfl, hc⟩
      rw [e1]
      have C9 := Lib.hid (hHeld.trans hc)
      clear hc hHeld
      refine hK.out _ _ C9.out (fun hHeld => ?_)
      clear hK K
      try simp only [Act.put, sA, s0, s1]
      refine sy 2 19 rfl rfl ?_
      try simp only [Act.put, sA, s0, s1]
      refine sy 3 20 rfl rfl ?_
      try simp only [Act.put, sA, s0, s1]
      refine sy 4 21 rfl rfl ?_
      try simp only [Act.put, sA, s0, s1]
      refine sy 5 22 rfl rfl ?_
      try simp only [Act.put, sA, s0, s1]
      refine sy 6 23 rfl rfl ?_
      try simp only [Act.put, sA, s0, s1]
      refine sy 7 24 rfl rfl ?_ (hy := by (intro w hSw; (try dsimp only at hSw); have hq := HB.out _ hSw; obtain ⟨⟨q0, q1, q2, q3, q4, q5, q6⟩, q7⟩ := hq; go_simp; try with_reducible rfl))
      try simp only [Act.put, sA, s0, s1]
      refine sy 8 25 rfl rfl ?_
      try simp only [Act.put, sA, s0, s1]
      refine sy 9 26 rfl rfl ?_
      try simp only [Act.put, sA, s0, s1]
      refine sy 10 27 rfl rfl ?_
      try simp only [Act.put, sA, s0, s1]
      refine sy 11 28 rfl rfl ?_
      try simp only [Act.put, sA, s0, s1]
      refine sy 12 29 rfl rfl ?_ (hy := by (intro w hSw; (try dsimp only at hSw); have hq := HR.out _ hSw y EY.out; obtain ⟨p0, p1⟩ := hq; go_simp; try with_reducible rfl))
      try simp only [Act.put, sA, s0, s1]
      refine sy 13 30 rfl rfl ?_
      try simp only [Act.put, sA, s0, s1]
      refine sy 14 31 rfl rfl ?_ (hy := by (intro w hSw; (try dsimp only at hSw); have hq := HB.out _ hSw; obtain ⟨⟨q0, q1, q2, q3, q4, q5, q6⟩, q7⟩ := hq; go_simp; try with_reducible rfl))
      try simp only [Act.put, sA, s0, s1]
      refine sy 15 32 rfl rfl ?_
      try simp only [Act.put, sA, s0, s1]
      refine sy 16 33 rfl rfl ?_
      try simp only [Act.put, sA, s0, s1]
      refine sy 17 34 rfl rfl ?_
      try simp only [Act.put, sA, s0, s1]
      refine wpAnyH_done (by kernel_rfl) ?_ _
      clear hHeld HB HR CHK
      have RC9 := Lib.hid (PC.out.trans C9.out)
      go_wp2
      go_round
      case rel => exact ⟨k + 1, by omega, by go_num, OT, AT, RC9⟩
      case measure => simp [RowKit.intOf]; omega
    · obtain rfl : k = ms.length := by omega
      have j1 : ¬ (ms.length : Int) < (ms.length : Int) := by omega
      have ET : fs.take ms.length = fs := by rw [RX.out.1]; exact List.take_length
      rw [ET] at OKK
      clear ET
      have AN : Hid (closedE fs = fs.all (bringsE fs)) := Lib.hid (closed_brings OKK.out (up_apart RX.out UP.out (fun p a b ha hb => AP.out p a b ((List.getElem?_eq_some_iff.1 hb).1) ha hb)))
      have P5 := Lib.hid (PC.out.at_ B2.out (by simp))
      have p0 := cell_of P5.out 0
      simp only [List.getElem?_toArray, List.getElem?_cons_succ, List.getElem?_cons_zero] at p0
      have SQ : Hid (∀ e ∈ fs, e.q.length ≤ 140737488351232) := Lib.hid (fun e he => (ES.out e he).2.2)
      go_wp2_with fail
      refine (evcontains_any wr gp A1 c1 ms fs P5.out (RO.out.reads.chg PC.out (by simp)) (RX.out.chg PC.out) UP.out (RF.out.chg PC.out) MN.out SQ.out).mono ?_
      rintro r w4 ⟨rfl, hc⟩
      rw [← AN.out]
      have C4 := Lib.hid ((C1.out.trans PC.out).trans hc)
      clear hc p0 AN
      go_wp2
      go_ret
      rw [CE.out]
      exact ⟨by simp, C4.out⟩
end
section
open Go.RowKit Go.WideShapes Go.ChangeShapes Go.Deep
set_option linter.unusedSimpArgs false
set_option linter.unusedVariables false

def boolTy : RowTy Bool where
  enc := fun x => [.bool x]
  k := 1
  T := 4
  TS := 63
  z := false
  zv := .bool false
  bytes := 1
  klen := fun _ => rfl
  one := by intro x v hv; simp at hv; rcases hv with rfl <;> rfl
  zc := rfl
  kpos := by decide
  bpos := by decide
  under := by kernel_rfl
  info := by kernel_rfl
theorem boolCells {w : World} {g o n j : Nat} {xs : List Bool} (h : RdK boolTy w (some ⟨g, o, none⟩) n xs) {x : Bool} (hx : xs[j]? = some x) : w.cell? ⟨g, o + j, none⟩ = some (.bool x) := by
  have := h.at_ j 0 x _ hx rfl
  rwa [show boolTy.k = 1 from rfl, Nat.mul_one, Nat.add_zero] at this

section
variable {H : Type} {enc : TypeId × Value → H} {w : World} {base : Nat} {spare : Nat → Bool} {held : Bool}
theorem open_bools {n : Nat} {cs : List Value} {y : DataW H × List MemPlace} (h : DataW.trod enc Tryz.prog w base spare held n 63 cs = some y) (hz : ∀ k ∈ y.1.weights Tryz.prog 63, k ≤ reachBytes) :
    ∃ A m d zs, cs = [.slice A m d] ∧ RdK boolTy w A m zs ∧ m * 1 ≤ 140737488351232 ∧ m ≤ d := by
  rcases open_slice Tryz.underlying63 h with ⟨rfl, _⟩ | ⟨a, len, cap, m, k, D, Pl, rfl, _, hl, hm, hmm, rfl, hi⟩
  · exact ⟨none, 0, 0, [], rfl, RdK.nil _ _, by decide, by decide⟩
  · have hlm : len ≤ m := by rw [hmm]; split <;> omega
    obtain ⟨hw, _⟩ := weights_slice Tryz.underlying63 hz
    rw [show Tryz.prog.bytesOf 4 = 1 by kernel_rfl] at hw
    simp [reachBytes] at hw
    have hC : Tryz.prog.cellsOf 4 = 1 := by kernel_rfl
    obtain ⟨l, hll, hat⟩ := list_of (Q := fun i (x : Bool) => w.cell? (a.add i) = some (.bool x)) len (fun i hilt => by
      obtain ⟨cs', hc, ht⟩ := hi i (by omega)
      rw [hC] at hc
      obtain ⟨_, hcl, hat⟩ := World.cells?_some hc
      have hcs : ∃ v, cs' = [v] := by
        match cs', hcl with
        | [v], _ => exact ⟨v, rfl⟩
      obtain ⟨v, rfl⟩ := hcs
      obtain ⟨s, e, _⟩ := DataW.trod_bool Tryz.underlying4 ht
      have g0 := hat 0 (by omega)
      have e := List.singleton_inj.1 e
      subst e
      rw [add_add, Nat.mul_one, Nat.add_zero] at g0
      exact ⟨s, g0⟩)
    refine ⟨some a, len, cap, l, rfl, ⟨hll, fun j v hj => ⟨a, rfl, ?_⟩⟩, by omega, hl⟩
    have hj2 := (List.getElem?_eq_some_iff.1 hj).1
    rw [boolTy.flat_len] at hj2
    have hk : boolTy.k = 1 := rfl
    rw [hk, Nat.mul_one] at hj2
    have e := boolTy.flat_at l j 0 _ (List.getElem?_eq_getElem hj2) (by decide)
    rw [hk, Nat.mul_one, Nat.add_zero, hj] at e
    rw [hat j _ (List.getElem?_eq_getElem hj2)]
    exact e.symm
end
end
section
open Go.RowKit Go.Lib
set_option linter.unusedSimpArgs false
set_option linter.unusedVariables false


/-- Two rows lie apart. -/
def ApA (A B : Option Addr) : Prop := ∀ a b, A = some a → B = some b → a.block ≠ b.block
theorem ApA.sym {A B : Option Addr} (h : ApA A B) : ApA B A := fun a b ha hb e => h b a hb ha e.symm
/-- One of the lists that are gathered. -/
structure RowL (w0 w : World) (A : Option Addr) (c : Nat) (ys : List EvT) (fs es : List EvP) (k : Nat) : Prop where
  row : OwnK evTy w A c ys
  ev : EvsR w0 ys fs
  new : ∀ a, A = some a → w0.heap.size ≤ a.block
  sub : ∀ e ∈ fs, e ∈ es
  len : ys.length ≤ k
  chg : Chg [] w0 w
theorem RowL.nil (w0 : World) (es : List EvP) (k : Nat) : RowL w0 w0 none 0 [] [] es k := ⟨OwnK.none_ _, EvsR.nil _, (by simp), (by simp), Nat.zero_le _, Chg.refl _ _⟩
theorem RowL.go {w0 w w' : World} {A : Option Addr} {c k : Nat} {ys : List EvT} {fs es : List EvP} (h : RowL w0 w A c ys fs es k) (hc : Chg [] w w') : RowL w0 w' A c ys fs es k := ⟨h.row.chg hc (by simp), h.ev, h.new, h.sub, h.len, h.chg.trans hc⟩
theorem RowL.next {w0 w : World} {A : Option Addr} {c k : Nat} {ys : List EvT} {fs es : List EvP} (h : RowL w0 w A c ys fs es k) : RowL w0 w A c ys fs es (k + 1) := ⟨h.row, h.ev, h.new, h.sub, Nat.le_succ_of_le h.len, h.chg⟩
theorem RowL.aside {w0 w w' : World} {A B : Option Addr} {c k : Nat} {ys : List EvT} {fs es : List EvP} (h : RowL w0 w B c ys fs es k) (g : w.grownBy w' (A.map (·.block))) (hd : ApA A B) (hA : ∀ a, A = some a → w0.heap.size ≤ a.block) : RowL w0 w' B c ys fs es k := by
  have hc : Chg (blkOf A) w w' := (Chg.refl (blkOf A) w).grown g (fun i hi => by
    cases A with
    | none => simp at hi
    | some a => simp at hi; subst hi; exact .inl (mem_blkOf rfl))
  refine ⟨h.row.chg hc (fun a ha q => ?_), h.ev, h.new, h.sub, h.len, h.chg.trans' hc (fun i hi => ?_)⟩
  · obtain ⟨b, hb, e⟩ := of_blkOf q
    exact hd b a hb ha e
  · obtain ⟨b, hb, e⟩ := of_blkOf hi
    rw [← e]
    exact .inr (hA b hb)
theorem RowL.snoc {w0 w w' : World} {A A' : Option Addr} {c c' k : Nat} {ys : List EvT} {fs es : List EvP} {x : EvT} {e : EvP} (h : RowL w0 w A c ys fs es (k + 1)) (hk : ys.length ≤ k) (o : OwnK evTy w' A' c' (ys ++ [x])) (g : w.grownBy w' (A.map (·.block))) (e9 : A' = A ∨ A' = some ⟨w.heap.size, 0, none⟩) (r : EvR w0 x e) (m : e ∈ es) : RowL w0 w' A' c' (ys ++ [x]) (fs ++ [e]) es (k + 1) := by
  have f := fresh_appE h.new h.chg g e9
  exact ⟨o, h.ev.snoc r, f.1, fun u hu => (List.mem_append.1 hu).elim (h.sub u) (fun q => by rw [List.mem_singleton.1 q]; exact m), by simp; omega, f.2⟩

theorem tk_l {es fl fr : List EvP} {k : Nat} {e : EvP} (h : es[k]? = some e) (m : ∀ x ∈ es.take k, x ∈ fl ∨ x ∈ fr) : ∀ x ∈ es.take (k + 1), x ∈ fl ++ [e] ∨ x ∈ fr := fun x hx => by
  rw [List.take_add_one, h] at hx
  rcases List.mem_append.1 hx with q | q
  · exact (m x q).imp (fun r => List.mem_append_left _ r) id
  · exact .inl (List.mem_append_right _ (by simpa using q))
theorem tk_r {es fl fr : List EvP} {k : Nat} {e : EvP} (h : es[k]? = some e) (m : ∀ x ∈ es.take k, x ∈ fl ∨ x ∈ fr) : ∀ x ∈ es.take (k + 1), x ∈ fl ∨ x ∈ fr ++ [e] := fun x hx => (tk_l h (fun y hy => (m y hy).symm) x hx).symm
theorem tk_b {es fl fr : List EvP} {k : Nat} {e : EvP} (h : es[k]? = some e) (m : ∀ x ∈ es.take k, x ∈ fl ∨ x ∈ fr) : ∀ x ∈ es.take (k + 1), x ∈ fl ++ [e] ∨ x ∈ fr ++ [e] := fun x hx => (tk_l h m x hx).imp id (fun r => List.mem_append_left _ r)
theorem ks_small {l : List (Int × Int)} (h : l.length ≤ 14) : (ofE l).2.length ≤ 140737488351232 := by
  by_cases q : fineL l = true
  · have o := of_ok q (by omega)
    rw [o.1]
    show (tidyS (l.map aloneP)).length ≤ _
    have := o.2.2.1
    omega
  · unfold ofE
    rw [if_neg q]
    simp

set_option maxRecDepth 100000 in
set_option maxHeartbeats 32000000 in
theorem storejoins_yes (w : World) (A : Option Addr) (n c : Nat) (xs : List EvT) (es : List EvP) (hb : RdK evTy w A n xs) (hr : EvsR w xs es) (hn : n * 96 ≤ 140737488351232) (hm : n ≤ c) (hz : ∀ (i : Nat) (x : EvT) (e : EvP), xs[i]? = some x → es[i]? = some e → EvZ x e) (B : Option Addr) (nb cb0 : Nat) (bs : List Bool) (hbs : RdK boolTy w B nb bs) (hnb : nb * 1 ≤ 140737488351232) (D : Option Addr) (nd cd0 : Nat) (ds : List Bool) (hds : RdK boolTy w D nd ds) (hnd : nd * 1 ≤ 140737488351232) :
    Calls Tryz.prog 6 #[.slice A n c, .slice B nb cb0, .slice D nd cd0] w fun r w' => r = .returned (.bool true) ∧ Chg [] w w' := by

  have hl := hb.len
  subst hl
  have HFT := Lib.hid (fit_args hr hz)
  have HL0 : Hid (xs.length ≤ 140737488351232) := Lib.hid (by omega)
  have XL : Hid (∀ x ∈ xs, x.l ≤ 140737488351232) := Lib.hid (fun x hx => by
    obtain ⟨i, hi⟩ := List.getElem?_of_mem hx
    obtain ⟨x2, e, ex, ee, rx⟩ := hr.at_ (show i < xs.length from (List.getElem?_eq_some_iff.1 hi).1)
    rw [hi] at ex
    cases ex
    have a := rx.l
    have b := (hz i x e hi ee).1
    omega)
  have hlb := hbs.len
  subst hlb
  have hld := hds.len
  subst hld
  have HA := Lib.hid hb
  have HR := Lib.hid hr
  have HB := Lib.hid hbs
  have HD := Lib.hid hds
  have C := Lib.hid (Chg.refl [] w)
  clear hb hr hn hm hz hbs hds hnb hnd
  go_enter Tryz.func6, Tryz.ntmps6
  go_wp2_with fail
  refine (l10awake_run w).mono ?_
  rintro r w0 ⟨rfl, hc⟩
  replace C := Lib.hid (C.out.trans hc)
  clear hc
  go_wp2_with fail
  have lv := longevs_any w0 A c xs 14 (HA.out.chg C.out (by simp)) HL0.out (by omega) XL.out
  rw [show ((14 : Nat) : Int) = 14 from rfl] at lv
  refine lv.mono ?_
  rintro r w1 ⟨rfl, hc⟩
  clear lv
  replace C := Lib.hid (C.out.trans hc)
  clear hc
  rcases hlong : longE xs 14 with _ | _
  rotate_left
  · go_wp2
    go_ret
    first | exact C.out | exact ⟨rfl, C.out⟩
  have sm := smallEvs HR.out hlong
  have SM : Hid (∀ e ∈ es, EvSm e ∧ e.q.length ≤ 100000) := Lib.hid (fun e he => ⟨(sm.1 e he).1, by have := (sm.1 e he).2.1; omega⟩)
  have LN : Hid (xs.length ≤ 14) := Lib.hid sm.2
  clear sm hlong
  go_wp2_with fail
  refine (evclosed_any w1 A c xs es (HA.out.chg C.out (by simp)) (HR.out.chg C.out) (HFT.out.chg C.out) (by have := LN.out; omega) (fun e he => (SM.out e he).1)).mono ?_
  rintro r w3 ⟨rfl, hc⟩
  replace C := Lib.hid (C.out.trans hc)
  clear hc
  rcases hcl : closedE es with _ | _
  · go_wp2
    go_ret
    first | exact C.out | exact ⟨rfl, C.out⟩
  have CL := Lib.hid hcl
  clear hcl
  have C3 := C
  have RE3 := Lib.hid (HR.out.chg C.out)
  clear C
  go_wp2
  go_loopw [8, 9, 10] (fun v8 v9 v10 wr => ∃ (k : Nat) (Al : Option Addr) (cl : Nat) (yl : List EvT) (fl : List EvP) (Ar : Option Addr) (cr : Nat) (yr : List EvT) (fr : List EvP), k ≤ xs.length ∧ v10 = .int .i64 (k : Int) ∧ v8 = .slice Al yl.length cl ∧ v9 = .slice Ar yr.length cr ∧ Hid (RowL w3 wr Al cl yl fl es k) ∧ Hid (RowL w3 wr Ar cr yr fr es k) ∧ Hid (ApA Al Ar) ∧ Hid (∀ e ∈ es.take k, e ∈ fl ∨ e ∈ fr) ∧ Hid (Chg [] w3 wr)) (fun _ _ v _ => xs.length - (RowKit.intOf v).toNat)
  case atStart => exact ⟨0, none, 0, [], [], none, 0, [], [], Nat.zero_le _, rfl, rfl, rfl, RowL.nil _ _ _, RowL.nil _ _ _, Lib.hid (fun a b h => by cases h), Lib.hid (by simp), Chg.refl _ _⟩
  case round =>
    obtain ⟨k, Al, cl, yl, fl, Ar, cr, yr, fr, hk, rfl, rfl, rfl, OL, OR, DLR, EQ, PC⟩ := hrel
    have j0 : (0 : Int) ≤ (k : Int) := by omega
    by_cases hlt : k < xs.length
    · have j1 : (k : Int) < (xs.length : Int) := by omega
      have j3 : IntKind.i64.wrap ((k : Int) + 1) = (k : Int) + 1 := IntWalk.i64_in _ (by have := LN.out; omega)
      obtain ⟨g3, o3, eA, _⟩ := HA.out.line (by omega)
      subst eA
      obtain ⟨x, e, ex, ee, rx⟩ := RE3.out.at_ hlt
      have EX := Lib.hid ex
      have RX := Lib.hid rx
      have EE := Lib.hid ee
      have EM := Lib.hid (List.mem_of_getElem? ee)
      clear ex ee rx
      by_cases hP : k < bs.length
      · skip
        have P1 : (k : Int) < (bs.length : Int) := by omega
        have P2 : decide ((k : Int) < (bs.length : Int)) = true := decide_eq_true (by omega)
        have P3 : decide (k < bs.length) = true := decide_eq_true (by omega)
        obtain ⟨gb, ob, eP, _⟩ := HB.out.line (by omega)
        subst eP
        obtain ⟨p, hp⟩ : ∃ p, bs[k]? = some p := ⟨_, List.getElem?_eq_getElem hP⟩
        have BB : Hid (∀ w', Chg [] w3 w' → w'.cell? ⟨gb, ob + k, none⟩ = some (.bool p)) := Lib.hid (fun w' hc => boolCells (HB.out.chg (C3.out.trans hc) (by simp)) hp)
        clear hp
        have P4 : ¬ (k : Int) ≥ (bs.length : Int) := by omega
        have P5 : ¬ (bs.length : Int) ≤ (k : Int) := by omega
        have P6 : decide ((bs.length : Int) ≤ (k : Int)) = false := decide_eq_false P5
        have P7 : decide (bs.length ≤ k) = false := decide_eq_false (by omega)
        rcases p with _ | _
        · skip
          by_cases hQ : k < ds.length
          · skip
            have Q1 : (k : Int) < (ds.length : Int) := by omega
            have Q2 : decide ((k : Int) < (ds.length : Int)) = true := decide_eq_true (by omega)
            have Q3 : decide (k < ds.length) = true := decide_eq_true (by omega)
            obtain ⟨gd, od, eQ, _⟩ := HD.out.line (by omega)
            subst eQ
            obtain ⟨q, hq⟩ : ∃ q, ds[k]? = some q := ⟨_, List.getElem?_eq_getElem hQ⟩
            have BD : Hid (∀ w', Chg [] w3 w' → w'.cell? ⟨gd, od + k, none⟩ = some (.bool q)) := Lib.hid (fun w' hc => boolCells (HD.out.chg (C3.out.trans hc) (by simp)) hq)
            clear hq
            rcases q with _ | _
            · skip
              have KL := Lib.hid OL.out.len
              have KR := Lib.hid OR.out.len
              replace OL := Lib.hid (OL.out.next)
              replace OR := Lib.hid (OR.out.next)
              have u0 := BB.out _ PC.out
              have v0 := BD.out _ PC.out
              go_upto_region 11 with fail
              clear u0 v0
              go_upto_region 11 with fail
              skip
              obtain ⟨z0, z1, z2, z3, z4, z5, z6⟩ := evCells (HA.out.chg (C3.out.trans PC.out) (by simp)) EX.out
              obtain ⟨v1, hw, cn, bn⟩ := news1 wr (.cells #[.int .i64 x.n, .int .i64 x.s, .string x.p, .int .i64 x.k, .int .i64 x.m, .slice x.A x.l x.c, .slice x.B x.bl x.bc] 30)
              have WN := Lib.hid hw
              have XR := Lib.hid (rd_oneEc bn)
              replace OL := Lib.hid (OL.out.go cn)
              replace OR := Lib.hid (OR.out.go cn)
              replace PC := Lib.hid (PC.out.trans cn)
              have N4 : Hid ((yr.length + 1) * 400 ≤ 140737488355327) := Lib.hid (by have := OR.out.len; have := LN.out; omega)
              clear hw cn bn
              go_upto_region 7 with (at_builtin; rw [← WN.out]; refine wpList_appK (R := evTy) rfl (.tmp 84) (.tmp 89) rfl rfl (A := Ar) (n := yr.length) (m := 1) (c := cr) (d := 1) (xs := yr) (ys := [x]) OR.out.row rfl rfl XR.out N4.out ?_; intro A1 c1 u1 o9 g9 e9)
              clear z0 z1 z2 z3 z4 z5 z6 WN XR N4
              have OLL : Hid (∀ a, Al = some a → a.block < v1.heap.size) := Lib.hid (fun a ha => OL.out.row.lt a ha)
              have NEWA : Hid (∀ a, Ar = some a → w3.heap.size ≤ a.block) := Lib.hid OR.out.new
              replace OL := Lib.hid (OL.out.aside g9 DLR.out.sym NEWA.out)
              have DLR9 := Lib.hid (show ApA Al A1 from fun a b ha hb => e9.elim (fun t => DLR.out a b ha (t ▸ hb)) (fun t => by rw [t] at hb; cases hb; exact Nat.ne_of_lt (OLL.out a ha)))
              replace OR := Lib.hid (OR.out.snoc KR.out o9 g9 e9 RX.out EM.out)
              replace PC := Lib.hid (OR.out.chg)
              clear OLL
              have DLR := DLR9
              clear DLR9
              clear o9 g9 e9 NEWA
              have NL : Hid (yr.length + 1 = (yr ++ [x]).length) := Lib.hid (by simp)
              rw [NL.out]
              clear NL
              go_wp2
              go_round
              case rel => exact ⟨k + 1, Al, cl, yl, fl, A1, c1, (yr ++ [x]), (fr ++ [e]), by omega, by go_num, by first | rfl | simp, by first | rfl | simp, OL, OR, DLR, Lib.hid (tk_r EE.out EQ.out), PC⟩
              case measure => simp [RowKit.intOf]; omega
            · skip
              have KL := Lib.hid OL.out.len
              have KR := Lib.hid OR.out.len
              replace OL := Lib.hid (OL.out.next)
              replace OR := Lib.hid (OR.out.next)
              have u0 := BB.out _ PC.out
              have v0 := BD.out _ PC.out
              go_upto_region 11 with fail
              clear u0 v0
              go_upto_region 11 with fail
              skip
              obtain ⟨z0, z1, z2, z3, z4, z5, z6⟩ := evCells (HA.out.chg (C3.out.trans PC.out) (by simp)) EX.out
              obtain ⟨v2, hw, cn, bn⟩ := news1 wr (.cells #[.int .i64 x.n, .int .i64 x.s, .string x.p, .int .i64 x.k, .int .i64 x.m, .slice x.A x.l x.c, .slice x.B x.bl x.bc] 30)
              have WN := Lib.hid hw
              have XR := Lib.hid (rd_oneEc bn)
              replace OL := Lib.hid (OL.out.go cn)
              replace OR := Lib.hid (OR.out.go cn)
              replace PC := Lib.hid (PC.out.trans cn)
              have N4 : Hid ((yr.length + 1) * 400 ≤ 140737488355327) := Lib.hid (by have := OR.out.len; have := LN.out; omega)
              clear hw cn bn
              go_upto_region 7 with (at_builtin; rw [← WN.out]; refine wpList_appK (R := evTy) rfl (.tmp 84) (.tmp 89) rfl rfl (A := Ar) (n := yr.length) (m := 1) (c := cr) (d := 1) (xs := yr) (ys := [x]) OR.out.row rfl rfl XR.out N4.out ?_; intro A2 c2 u2 o9 g9 e9)
              clear z0 z1 z2 z3 z4 z5 z6 WN XR N4
              have OLL : Hid (∀ a, Al = some a → a.block < v2.heap.size) := Lib.hid (fun a ha => OL.out.row.lt a ha)
              have NEWA : Hid (∀ a, Ar = some a → w3.heap.size ≤ a.block) := Lib.hid OR.out.new
              replace OL := Lib.hid (OL.out.aside g9 DLR.out.sym NEWA.out)
              have DLR9 := Lib.hid (show ApA Al A2 from fun a b ha hb => e9.elim (fun t => DLR.out a b ha (t ▸ hb)) (fun t => by rw [t] at hb; cases hb; exact Nat.ne_of_lt (OLL.out a ha)))
              replace OR := Lib.hid (OR.out.snoc KR.out o9 g9 e9 RX.out EM.out)
              replace PC := Lib.hid (OR.out.chg)
              clear OLL
              have DLR := DLR9
              clear DLR9
              clear o9 g9 e9 NEWA
              have NL : Hid (yr.length + 1 = (yr ++ [x]).length) := Lib.hid (by simp)
              rw [NL.out]
              clear NL
              go_wp2
              go_round
              case rel => exact ⟨k + 1, Al, cl, yl, fl, A2, c2, (yr ++ [x]), (fr ++ [e]), by omega, by go_num, by first | rfl | simp, by first | rfl | simp, OL, OR, DLR, Lib.hid (tk_r EE.out EQ.out), PC⟩
              case measure => simp [RowKit.intOf]; omega
          · skip
            have Q1 : ¬ (k : Int) < (ds.length : Int) := by omega
            have Q2 : decide ((k : Int) < (ds.length : Int)) = false := decide_eq_false (by omega)
            have Q3 : decide (k < ds.length) = false := decide_eq_false (by omega)
            have KL := Lib.hid OL.out.len
            have KR := Lib.hid OR.out.len
            replace OL := Lib.hid (OL.out.next)
            replace OR := Lib.hid (OR.out.next)
            have u0 := BB.out _ PC.out
            go_upto_region 11 with fail
            clear u0
            go_upto_region 11 with fail
            skip
            obtain ⟨z0, z1, z2, z3, z4, z5, z6⟩ := evCells (HA.out.chg (C3.out.trans PC.out) (by simp)) EX.out
            obtain ⟨v3, hw, cn, bn⟩ := news1 wr (.cells #[.int .i64 x.n, .int .i64 x.s, .string x.p, .int .i64 x.k, .int .i64 x.m, .slice x.A x.l x.c, .slice x.B x.bl x.bc] 30)
            have WN := Lib.hid hw
            have XR := Lib.hid (rd_oneEc bn)
            replace OL := Lib.hid (OL.out.go cn)
            replace OR := Lib.hid (OR.out.go cn)
            replace PC := Lib.hid (PC.out.trans cn)
            have N4 : Hid ((yr.length + 1) * 400 ≤ 140737488355327) := Lib.hid (by have := OR.out.len; have := LN.out; omega)
            clear hw cn bn
            go_upto_region 7 with (at_builtin; rw [← WN.out]; refine wpList_appK (R := evTy) rfl (.tmp 84) (.tmp 89) rfl rfl (A := Ar) (n := yr.length) (m := 1) (c := cr) (d := 1) (xs := yr) (ys := [x]) OR.out.row rfl rfl XR.out N4.out ?_; intro A3 c3 u3 o9 g9 e9)
            clear z0 z1 z2 z3 z4 z5 z6 WN XR N4
            have OLL : Hid (∀ a, Al = some a → a.block < v3.heap.size) := Lib.hid (fun a ha => OL.out.row.lt a ha)
            have NEWA : Hid (∀ a, Ar = some a → w3.heap.size ≤ a.block) := Lib.hid OR.out.new
            replace OL := Lib.hid (OL.out.aside g9 DLR.out.sym NEWA.out)
            have DLR9 := Lib.hid (show ApA Al A3 from fun a b ha hb => e9.elim (fun t => DLR.out a b ha (t ▸ hb)) (fun t => by rw [t] at hb; cases hb; exact Nat.ne_of_lt (OLL.out a ha)))
            replace OR := Lib.hid (OR.out.snoc KR.out o9 g9 e9 RX.out EM.out)
            replace PC := Lib.hid (OR.out.chg)
            clear OLL
            have DLR := DLR9
            clear DLR9
            clear o9 g9 e9 NEWA
            have NL : Hid (yr.length + 1 = (yr ++ [x]).length) := Lib.hid (by simp)
            rw [NL.out]
            clear NL
            go_wp2
            go_round
            case rel => exact ⟨k + 1, Al, cl, yl, fl, A3, c3, (yr ++ [x]), (fr ++ [e]), by omega, by go_num, by first | rfl | simp, by first | rfl | simp, OL, OR, DLR, Lib.hid (tk_r EE.out EQ.out), PC⟩
            case measure => simp [RowKit.intOf]; omega
        · skip
          by_cases hQ : k < ds.length
          · skip
            have Q1 : (k : Int) < (ds.length : Int) := by omega
            have Q2 : decide ((k : Int) < (ds.length : Int)) = true := decide_eq_true (by omega)
            have Q3 : decide (k < ds.length) = true := decide_eq_true (by omega)
            obtain ⟨gd, od, eQ, _⟩ := HD.out.line (by omega)
            subst eQ
            obtain ⟨q, hq⟩ : ∃ q, ds[k]? = some q := ⟨_, List.getElem?_eq_getElem hQ⟩
            have BD : Hid (∀ w', Chg [] w3 w' → w'.cell? ⟨gd, od + k, none⟩ = some (.bool q)) := Lib.hid (fun w' hc => boolCells (HD.out.chg (C3.out.trans hc) (by simp)) hq)
            clear hq
            rcases q with _ | _
            · skip
              have KL := Lib.hid OL.out.len
              have KR := Lib.hid OR.out.len
              replace OL := Lib.hid (OL.out.next)
              replace OR := Lib.hid (OR.out.next)
              have u0 := BB.out _ PC.out
              have v0 := BD.out _ PC.out
              go_upto_region 9 with fail
              clear u0 v0
              go_upto_region 9 with fail
              skip
              obtain ⟨z0, z1, z2, z3, z4, z5, z6⟩ := evCells (HA.out.chg (C3.out.trans PC.out) (by simp)) EX.out
              obtain ⟨v4, hw, cn, bn⟩ := news1 wr (.cells #[.int .i64 x.n, .int .i64 x.s, .string x.p, .int .i64 x.k, .int .i64 x.m, .slice x.A x.l x.c, .slice x.B x.bl x.bc] 30)
              have WN := Lib.hid hw
              have XR := Lib.hid (rd_oneEc bn)
              replace OL := Lib.hid (OL.out.go cn)
              replace OR := Lib.hid (OR.out.go cn)
              replace PC := Lib.hid (PC.out.trans cn)
              have N4 : Hid ((yl.length + 1) * 400 ≤ 140737488355327) := Lib.hid (by have := OL.out.len; have := LN.out; omega)
              clear hw cn bn
              go_upto_region 10 with (at_builtin; rw [← WN.out]; refine wpList_appK (R := evTy) rfl (.tmp 54) (.tmp 59) rfl rfl (A := Al) (n := yl.length) (m := 1) (c := cl) (d := 1) (xs := yl) (ys := [x]) OL.out.row rfl rfl XR.out N4.out ?_; intro A4 c4 u4 o9 g9 e9)
              clear z0 z1 z2 z3 z4 z5 z6 WN XR N4
              have ORL : Hid (∀ a, Ar = some a → a.block < v4.heap.size) := Lib.hid (fun a ha => OR.out.row.lt a ha)
              have NEWA : Hid (∀ a, Al = some a → w3.heap.size ≤ a.block) := Lib.hid OL.out.new
              replace OR := Lib.hid (OR.out.aside g9 DLR.out NEWA.out)
              have DLR9 := Lib.hid (show ApA A4 Ar from fun a b ha hb => e9.elim (fun t => DLR.out a b (t ▸ ha) hb) (fun t => by rw [t] at ha; cases ha; exact Nat.ne_of_gt (ORL.out b hb)))
              replace OL := Lib.hid (OL.out.snoc KL.out o9 g9 e9 RX.out EM.out)
              replace PC := Lib.hid (OL.out.chg)
              clear ORL
              have DLR := DLR9
              clear DLR9
              clear o9 g9 e9 NEWA
              have NL : Hid (yl.length + 1 = (yl ++ [x]).length) := Lib.hid (by simp)
              rw [NL.out]
              clear NL
              have u0 := BB.out _ PC.out
              have v0 := BD.out _ PC.out
              go_wp2
              go_round
              case rel => exact ⟨k + 1, A4, c4, (yl ++ [x]), (fl ++ [e]), Ar, cr, yr, fr, by omega, by go_num, by first | rfl | simp, by first | rfl | simp, OL, OR, DLR, Lib.hid (tk_l EE.out EQ.out), PC⟩
              case measure => simp [RowKit.intOf]; omega
            · skip
              have KL := Lib.hid OL.out.len
              have KR := Lib.hid OR.out.len
              replace OL := Lib.hid (OL.out.next)
              replace OR := Lib.hid (OR.out.next)
              have u0 := BB.out _ PC.out
              have v0 := BD.out _ PC.out
              go_upto_region 9 with fail
              clear u0 v0
              go_upto_region 9 with fail
              skip
              obtain ⟨z0, z1, z2, z3, z4, z5, z6⟩ := evCells (HA.out.chg (C3.out.trans PC.out) (by simp)) EX.out
              obtain ⟨v5, hw, cn, bn⟩ := news1 wr (.cells #[.int .i64 x.n, .int .i64 x.s, .string x.p, .int .i64 x.k, .int .i64 x.m, .slice x.A x.l x.c, .slice x.B x.bl x.bc] 30)
              have WN := Lib.hid hw
              have XR := Lib.hid (rd_oneEc bn)
              replace OL := Lib.hid (OL.out.go cn)
              replace OR := Lib.hid (OR.out.go cn)
              replace PC := Lib.hid (PC.out.trans cn)
              have N4 : Hid ((yl.length + 1) * 400 ≤ 140737488355327) := Lib.hid (by have := OL.out.len; have := LN.out; omega)
              clear hw cn bn
              go_upto_region 10 with (at_builtin; rw [← WN.out]; refine wpList_appK (R := evTy) rfl (.tmp 54) (.tmp 59) rfl rfl (A := Al) (n := yl.length) (m := 1) (c := cl) (d := 1) (xs := yl) (ys := [x]) OL.out.row rfl rfl XR.out N4.out ?_; intro A5 c5 u5 o9 g9 e9)
              clear z0 z1 z2 z3 z4 z5 z6 WN XR N4
              have ORL : Hid (∀ a, Ar = some a → a.block < v5.heap.size) := Lib.hid (fun a ha => OR.out.row.lt a ha)
              have NEWA : Hid (∀ a, Al = some a → w3.heap.size ≤ a.block) := Lib.hid OL.out.new
              replace OR := Lib.hid (OR.out.aside g9 DLR.out NEWA.out)
              have DLR9 := Lib.hid (show ApA A5 Ar from fun a b ha hb => e9.elim (fun t => DLR.out a b (t ▸ ha) hb) (fun t => by rw [t] at ha; cases ha; exact Nat.ne_of_gt (ORL.out b hb)))
              replace OL := Lib.hid (OL.out.snoc KL.out o9 g9 e9 RX.out EM.out)
              replace PC := Lib.hid (OL.out.chg)
              clear ORL
              have DLR := DLR9
              clear DLR9
              clear o9 g9 e9 NEWA
              have NL : Hid (yl.length + 1 = (yl ++ [x]).length) := Lib.hid (by simp)
              rw [NL.out]
              clear NL
              have u0 := BB.out _ PC.out
              have v0 := BD.out _ PC.out
              go_upto_region 11 with fail
              clear u0 v0
              go_upto_region 11 with fail
              skip
              obtain ⟨z0, z1, z2, z3, z4, z5, z6⟩ := evCells (HA.out.chg (C3.out.trans PC.out) (by simp)) EX.out
              obtain ⟨v6, hw, cn, bn⟩ := news1 u5 (.cells #[.int .i64 x.n, .int .i64 x.s, .string x.p, .int .i64 x.k, .int .i64 x.m, .slice x.A x.l x.c, .slice x.B x.bl x.bc] 30)
              have WN := Lib.hid hw
              have XR := Lib.hid (rd_oneEc bn)
              replace OL := Lib.hid (OL.out.go cn)
              replace OR := Lib.hid (OR.out.go cn)
              replace PC := Lib.hid (PC.out.trans cn)
              have N4 : Hid ((yr.length + 1) * 400 ≤ 140737488355327) := Lib.hid (by have := OR.out.len; have := LN.out; omega)
              clear hw cn bn
              go_upto_region 7 with (at_builtin; rw [← WN.out]; refine wpList_appK (R := evTy) rfl (.tmp 84) (.tmp 89) rfl rfl (A := Ar) (n := yr.length) (m := 1) (c := cr) (d := 1) (xs := yr) (ys := [x]) OR.out.row rfl rfl XR.out N4.out ?_; intro A6 c6 u6 o9 g9 e9)
              clear z0 z1 z2 z3 z4 z5 z6 WN XR N4
              have OLL : Hid (∀ a, A5 = some a → a.block < v6.heap.size) := Lib.hid (fun a ha => OL.out.row.lt a ha)
              have NEWA : Hid (∀ a, Ar = some a → w3.heap.size ≤ a.block) := Lib.hid OR.out.new
              replace OL := Lib.hid (OL.out.aside g9 DLR.out.sym NEWA.out)
              have DLR9 := Lib.hid (show ApA A5 A6 from fun a b ha hb => e9.elim (fun t => DLR.out a b ha (t ▸ hb)) (fun t => by rw [t] at hb; cases hb; exact Nat.ne_of_lt (OLL.out a ha)))
              replace OR := Lib.hid (OR.out.snoc KR.out o9 g9 e9 RX.out EM.out)
              replace PC := Lib.hid (OR.out.chg)
              clear OLL
              have DLR := DLR9
              clear DLR9
              clear o9 g9 e9 NEWA
              have NL : Hid (yr.length + 1 = (yr ++ [x]).length) := Lib.hid (by simp)
              rw [NL.out]
              clear NL
              go_wp2
              go_round
              case rel => exact ⟨k + 1, A5, c5, (yl ++ [x]), (fl ++ [e]), A6, c6, (yr ++ [x]), (fr ++ [e]), by omega, by go_num, by first | rfl | simp, by first | rfl | simp, OL, OR, DLR, Lib.hid (tk_b EE.out EQ.out), PC⟩
              case measure => simp [RowKit.intOf]; omega
          · skip
            have Q1 : ¬ (k : Int) < (ds.length : Int) := by omega
            have Q2 : decide ((k : Int) < (ds.length : Int)) = false := decide_eq_false (by omega)
            have Q3 : decide (k < ds.length) = false := decide_eq_false (by omega)
            have KL := Lib.hid OL.out.len
            have KR := Lib.hid OR.out.len
            replace OL := Lib.hid (OL.out.next)
            replace OR := Lib.hid (OR.out.next)
            have u0 := BB.out _ PC.out
            go_upto_region 9 with fail
            clear u0
            go_upto_region 9 with fail
            skip
            obtain ⟨z0, z1, z2, z3, z4, z5, z6⟩ := evCells (HA.out.chg (C3.out.trans PC.out) (by simp)) EX.out
            obtain ⟨v7, hw, cn, bn⟩ := news1 wr (.cells #[.int .i64 x.n, .int .i64 x.s, .string x.p, .int .i64 x.k, .int .i64 x.m, .slice x.A x.l x.c, .slice x.B x.bl x.bc] 30)
            have WN := Lib.hid hw
            have XR := Lib.hid (rd_oneEc bn)
            replace OL := Lib.hid (OL.out.go cn)
            replace OR := Lib.hid (OR.out.go cn)
            replace PC := Lib.hid (PC.out.trans cn)
            have N4 : Hid ((yl.length + 1) * 400 ≤ 140737488355327) := Lib.hid (by have := OL.out.len; have := LN.out; omega)
            clear hw cn bn
            go_upto_region 10 with (at_builtin; rw [← WN.out]; refine wpList_appK (R := evTy) rfl (.tmp 54) (.tmp 59) rfl rfl (A := Al) (n := yl.length) (m := 1) (c := cl) (d := 1) (xs := yl) (ys := [x]) OL.out.row rfl rfl XR.out N4.out ?_; intro A7 c7 u7 o9 g9 e9)
            clear z0 z1 z2 z3 z4 z5 z6 WN XR N4
            have ORL : Hid (∀ a, Ar = some a → a.block < v7.heap.size) := Lib.hid (fun a ha => OR.out.row.lt a ha)
            have NEWA : Hid (∀ a, Al = some a → w3.heap.size ≤ a.block) := Lib.hid OL.out.new
            replace OR := Lib.hid (OR.out.aside g9 DLR.out NEWA.out)
            have DLR9 := Lib.hid (show ApA A7 Ar from fun a b ha hb => e9.elim (fun t => DLR.out a b (t ▸ ha) hb) (fun t => by rw [t] at ha; cases ha; exact Nat.ne_of_gt (ORL.out b hb)))
            replace OL := Lib.hid (OL.out.snoc KL.out o9 g9 e9 RX.out EM.out)
            replace PC := Lib.hid (OL.out.chg)
            clear ORL
            have DLR := DLR9
            clear DLR9
            clear o9 g9 e9 NEWA
            have NL : Hid (yl.length + 1 = (yl ++ [x]).length) := Lib.hid (by simp)
            rw [NL.out]
            clear NL
            have u0 := BB.out _ PC.out
            go_wp2
            go_round
            case rel => exact ⟨k + 1, A7, c7, (yl ++ [x]), (fl ++ [e]), Ar, cr, yr, fr, by omega, by go_num, by first | rfl | simp, by first | rfl | simp, OL, OR, DLR, Lib.hid (tk_l EE.out EQ.out), PC⟩
            case measure => simp [RowKit.intOf]; omega
      · skip
        have P1 : ¬ (k : Int) < (bs.length : Int) := by omega
        have P2 : decide ((k : Int) < (bs.length : Int)) = false := decide_eq_false (by omega)
        have P3 : decide (k < bs.length) = false := decide_eq_false (by omega)
        have P4 : (k : Int) ≥ (bs.length : Int) := by omega
        have P5 : (bs.length : Int) ≤ (k : Int) := by omega
        have P6 : decide ((bs.length : Int) ≤ (k : Int)) = true := decide_eq_true P5
        have P7 : decide (bs.length ≤ k) = true := decide_eq_true (by omega)
        by_cases hQ : k < ds.length
        · skip
          have Q1 : (k : Int) < (ds.length : Int) := by omega
          have Q2 : decide ((k : Int) < (ds.length : Int)) = true := decide_eq_true (by omega)
          have Q3 : decide (k < ds.length) = true := decide_eq_true (by omega)
          obtain ⟨gd, od, eQ, _⟩ := HD.out.line (by omega)
          subst eQ
          obtain ⟨q, hq⟩ : ∃ q, ds[k]? = some q := ⟨_, List.getElem?_eq_getElem hQ⟩
          have BD : Hid (∀ w', Chg [] w3 w' → w'.cell? ⟨gd, od + k, none⟩ = some (.bool q)) := Lib.hid (fun w' hc => boolCells (HD.out.chg (C3.out.trans hc) (by simp)) hq)
          clear hq
          rcases q with _ | _
          · skip
            have KL := Lib.hid OL.out.len
            have KR := Lib.hid OR.out.len
            replace OL := Lib.hid (OL.out.next)
            replace OR := Lib.hid (OR.out.next)
            have v0 := BD.out _ PC.out
            go_upto_region 11 with fail
            clear v0
            go_upto_region 11 with fail
            skip
            obtain ⟨z0, z1, z2, z3, z4, z5, z6⟩ := evCells (HA.out.chg (C3.out.trans PC.out) (by simp)) EX.out
            obtain ⟨v8, hw, cn, bn⟩ := news1 wr (.cells #[.int .i64 x.n, .int .i64 x.s, .string x.p, .int .i64 x.k, .int .i64 x.m, .slice x.A x.l x.c, .slice x.B x.bl x.bc] 30)
            have WN := Lib.hid hw
            have XR := Lib.hid (rd_oneEc bn)
            replace OL := Lib.hid (OL.out.go cn)
            replace OR := Lib.hid (OR.out.go cn)
            replace PC := Lib.hid (PC.out.trans cn)
            have N4 : Hid ((yr.length + 1) * 400 ≤ 140737488355327) := Lib.hid (by have := OR.out.len; have := LN.out; omega)
            clear hw cn bn
            go_upto_region 7 with (at_builtin; rw [← WN.out]; refine wpList_appK (R := evTy) rfl (.tmp 84) (.tmp 89) rfl rfl (A := Ar) (n := yr.length) (m := 1) (c := cr) (d := 1) (xs := yr) (ys := [x]) OR.out.row rfl rfl XR.out N4.out ?_; intro A8 c8 u8 o9 g9 e9)
            clear z0 z1 z2 z3 z4 z5 z6 WN XR N4
            have OLL : Hid (∀ a, Al = some a → a.block < v8.heap.size) := Lib.hid (fun a ha => OL.out.row.lt a ha)
            have NEWA : Hid (∀ a, Ar = some a → w3.heap.size ≤ a.block) := Lib.hid OR.out.new
            replace OL := Lib.hid (OL.out.aside g9 DLR.out.sym NEWA.out)
            have DLR9 := Lib.hid (show ApA Al A8 from fun a b ha hb => e9.elim (fun t => DLR.out a b ha (t ▸ hb)) (fun t => by rw [t] at hb; cases hb; exact Nat.ne_of_lt (OLL.out a ha)))
            replace OR := Lib.hid (OR.out.snoc KR.out o9 g9 e9 RX.out EM.out)
            replace PC := Lib.hid (OR.out.chg)
            clear OLL
            have DLR := DLR9
            clear DLR9
            clear o9 g9 e9 NEWA
            have NL : Hid (yr.length + 1 = (yr ++ [x]).length) := Lib.hid (by simp)
            rw [NL.out]
            clear NL
            go_wp2
            go_round
            case rel => exact ⟨k + 1, Al, cl, yl, fl, A8, c8, (yr ++ [x]), (fr ++ [e]), by omega, by go_num, by first | rfl | simp, by first | rfl | simp, OL, OR, DLR, Lib.hid (tk_r EE.out EQ.out), PC⟩
            case measure => simp [RowKit.intOf]; omega
          · skip
            have KL := Lib.hid OL.out.len
            have KR := Lib.hid OR.out.len
            replace OL := Lib.hid (OL.out.next)
            replace OR := Lib.hid (OR.out.next)
            have v0 := BD.out _ PC.out
            go_upto_region 11 with fail
            clear v0
            go_upto_region 11 with fail
            skip
            obtain ⟨z0, z1, z2, z3, z4, z5, z6⟩ := evCells (HA.out.chg (C3.out.trans PC.out) (by simp)) EX.out
            obtain ⟨v9, hw, cn, bn⟩ := news1 wr (.cells #[.int .i64 x.n, .int .i64 x.s, .string x.p, .int .i64 x.k, .int .i64 x.m, .slice x.A x.l x.c, .slice x.B x.bl x.bc] 30)
            have WN := Lib.hid hw
            have XR := Lib.hid (rd_oneEc bn)
            replace OL := Lib.hid (OL.out.go cn)
            replace OR := Lib.hid (OR.out.go cn)
            replace PC := Lib.hid (PC.out.trans cn)
            have N4 : Hid ((yr.length + 1) * 400 ≤ 140737488355327) := Lib.hid (by have := OR.out.len; have := LN.out; omega)
            clear hw cn bn
            go_upto_region 7 with (at_builtin; rw [← WN.out]; refine wpList_appK (R := evTy) rfl (.tmp 84) (.tmp 89) rfl rfl (A := Ar) (n := yr.length) (m := 1) (c := cr) (d := 1) (xs := yr) (ys := [x]) OR.out.row rfl rfl XR.out N4.out ?_; intro A9 c9 u9 o9 g9 e9)
            clear z0 z1 z2 z3 z4 z5 z6 WN XR N4
            have OLL : Hid (∀ a, Al = some a → a.block < v9.heap.size) := Lib.hid (fun a ha => OL.out.row.lt a ha)
            have NEWA : Hid (∀ a, Ar = some a → w3.heap.size ≤ a.block) := Lib.hid OR.out.new
            replace OL := Lib.hid (OL.out.aside g9 DLR.out.sym NEWA.out)
            have DLR9 := Lib.hid (show ApA Al A9 from fun a b ha hb => e9.elim (fun t => DLR.out a b ha (t ▸ hb)) (fun t => by rw [t] at hb; cases hb; exact Nat.ne_of_lt (OLL.out a ha)))
            replace OR := Lib.hid (OR.out.snoc KR.out o9 g9 e9 RX.out EM.out)
            replace PC := Lib.hid (OR.out.chg)
            clear OLL
            have DLR := DLR9
            clear DLR9
            clear o9 g9 e9 NEWA
            have NL : Hid (yr.length + 1 = (yr ++ [x]).length) := Lib.hid (by simp)
            rw [NL.out]
            clear NL
            go_wp2
            go_round
            case rel => exact ⟨k + 1, Al, cl, yl, fl, A9, c9, (yr ++ [x]), (fr ++ [e]), by omega, by go_num, by first | rfl | simp, by first | rfl | simp, OL, OR, DLR, Lib.hid (tk_r EE.out EQ.out), PC⟩
            case measure => simp [RowKit.intOf]; omega
        · skip
          have Q1 : ¬ (k : Int) < (ds.length : Int) := by omega
          have Q2 : decide ((k : Int) < (ds.length : Int)) = false := decide_eq_false (by omega)
          have Q3 : decide (k < ds.length) = false := decide_eq_false (by omega)
          have KL := Lib.hid OL.out.len
          have KR := Lib.hid OR.out.len
          replace OL := Lib.hid (OL.out.next)
          replace OR := Lib.hid (OR.out.next)
          go_upto_region 11 with fail
          go_upto_region 11 with fail
          skip
          obtain ⟨z0, z1, z2, z3, z4, z5, z6⟩ := evCells (HA.out.chg (C3.out.trans PC.out) (by simp)) EX.out
          obtain ⟨v10, hw, cn, bn⟩ := news1 wr (.cells #[.int .i64 x.n, .int .i64 x.s, .string x.p, .int .i64 x.k, .int .i64 x.m, .slice x.A x.l x.c, .slice x.B x.bl x.bc] 30)
          have WN := Lib.hid hw
          have XR := Lib.hid (rd_oneEc bn)
          replace OL := Lib.hid (OL.out.go cn)
          replace OR := Lib.hid (OR.out.go cn)
          replace PC := Lib.hid (PC.out.trans cn)
          have N4 : Hid ((yr.length + 1) * 400 ≤ 140737488355327) := Lib.hid (by have := OR.out.len; have := LN.out; omega)
          clear hw cn bn
          go_upto_region 7 with (at_builtin; rw [← WN.out]; refine wpList_appK (R := evTy) rfl (.tmp 84) (.tmp 89) rfl rfl (A := Ar) (n := yr.length) (m := 1) (c := cr) (d := 1) (xs := yr) (ys := [x]) OR.out.row rfl rfl XR.out N4.out ?_; intro A10 c10 u10 o9 g9 e9)
          clear z0 z1 z2 z3 z4 z5 z6 WN XR N4
          have OLL : Hid (∀ a, Al = some a → a.block < v10.heap.size) := Lib.hid (fun a ha => OL.out.row.lt a ha)
          have NEWA : Hid (∀ a, Ar = some a → w3.heap.size ≤ a.block) := Lib.hid OR.out.new
          replace OL := Lib.hid (OL.out.aside g9 DLR.out.sym NEWA.out)
          have DLR9 := Lib.hid (show ApA Al A10 from fun a b ha hb => e9.elim (fun t => DLR.out a b ha (t ▸ hb)) (fun t => by rw [t] at hb; cases hb; exact Nat.ne_of_lt (OLL.out a ha)))
          replace OR := Lib.hid (OR.out.snoc KR.out o9 g9 e9 RX.out EM.out)
          replace PC := Lib.hid (OR.out.chg)
          clear OLL
          have DLR := DLR9
          clear DLR9
          clear o9 g9 e9 NEWA
          have NL : Hid (yr.length + 1 = (yr ++ [x]).length) := Lib.hid (by simp)
          rw [NL.out]
          clear NL
          go_wp2
          go_round
          case rel => exact ⟨k + 1, Al, cl, yl, fl, A10, c10, (yr ++ [x]), (fr ++ [e]), by omega, by go_num, by first | rfl | simp, by first | rfl | simp, OL, OR, DLR, Lib.hid (tk_r EE.out EQ.out), PC⟩
          case measure => simp [RowKit.intOf]; omega
    · obtain rfl : k = xs.length := by omega
      have j1 : ¬ (xs.length : Int) < (xs.length : Int) := by omega
      have C : Hid (Chg [] w wr) := Lib.hid (C3.out.trans PC.out)
      have ALL : Hid (∀ x, x ∈ es ↔ x ∈ fl ∨ x ∈ fr) := Lib.hid (fun x => ⟨fun hx => EQ.out x (by rw [RE3.out.1, List.take_length]; exact hx), fun h => h.elim (OL.out.sub x) (OR.out.sub x)⟩)
      have SL : Hid (∀ e ∈ fl, EvSm e ∧ e.q.length ≤ 100000) := Lib.hid (fun e he => SM.out e (OL.out.sub e he))
      have SR : Hid (∀ e ∈ fr, EvSm e ∧ e.q.length ≤ 100000) := Lib.hid (fun e he => SM.out e (OR.out.sub e he))
      have UL : Hid (∀ e ∈ fl, e ∈ es) := Lib.hid OL.out.sub
      have UR : Hid (∀ e ∈ fr, e ∈ es) := Lib.hid OR.out.sub
      have LL : Hid (yl.length ≤ 14 ∧ yr.length ≤ 14 ∧ fl.length ≤ 14) := Lib.hid (by have := OL.out.len; have := OR.out.len; have := LN.out; have := OL.out.ev.1; omega)
      have RL : Hid (RdK evTy wr Al yl.length yl ∧ EvsR wr yl fl) := Lib.hid ⟨OL.out.row.reads, OL.out.ev.chg OL.out.chg⟩
      have RR : Hid (RdK evTy wr Ar yr.length yr ∧ EvsR wr yr fr) := Lib.hid ⟨OR.out.row.reads, OR.out.ev.chg OR.out.chg⟩
      have RA : Hid (RdK evTy wr A xs.length xs ∧ EvsR wr xs es) := Lib.hid ⟨HA.out.chg C.out (by simp), RE3.out.chg PC.out⟩
      clear PC hlt hk C3 OL OR DLR EQ
      go_wp2_with fail
      refine (l10puts_any wr es Al none cl 0 0 yl fl [] RL.out.1 RL.out.2 ⟨rfl, by simp⟩ (by have := LL.out.1; omega) SL.out CL.out UL.out).mono ?_
      rintro r x1 ⟨A1, c1, z1, rfl, he, hc⟩
      replace C := Lib.hid (C.out.trans hc)
      replace RL := Lib.hid (And.intro (RL.out.1.chg hc (by simp)) (RL.out.2.chg hc))
      replace RR := Lib.hid (And.intro (RR.out.1.chg hc (by simp)) (RR.out.2.chg hc))
      replace RA := Lib.hid (And.intro (RA.out.1.chg hc (by simp)) (RA.out.2.chg hc))
      have R1 : Hid (RdK evTy x1 A1 z1.length z1 ∧ EvsR x1 z1 (fl.foldl putS [])) := Lib.hid ⟨he.row.reads, he.all.ev⟩
      have P1 := Lib.hid he.row.cap
      have F1 : Hid (∀ a, A1 = some a → a.block < x1.heap.size) := Lib.hid (fun a ha => (he.rowAt a ha).2)
      clear hc he
      go_wp2_with fail
      refine (l10puts_any x1 es Ar none cr 0 0 yr fr [] RR.out.1 RR.out.2 ⟨rfl, by simp⟩ (by have := LL.out.2.1; omega) SR.out CL.out UR.out).mono ?_
      rintro r x2 ⟨A2, c2, z2, rfl, he, hc⟩
      replace C := Lib.hid (C.out.trans hc)
      replace RL := Lib.hid (And.intro (RL.out.1.chg hc (by simp)) (RL.out.2.chg hc))
      replace RR := Lib.hid (And.intro (RR.out.1.chg hc (by simp)) (RR.out.2.chg hc))
      replace RA := Lib.hid (And.intro (RA.out.1.chg hc (by simp)) (RA.out.2.chg hc))
      replace R1 := Lib.hid (And.intro (R1.out.1.chg hc (by simp)) (R1.out.2.chg hc))
      replace F1 := Lib.hid (fun a ha => Nat.lt_of_lt_of_le (F1.out a ha) hc.size)
      have R2 : Hid (RdK evTy x2 A2 z2.length z2 ∧ EvsR x2 z2 (fr.foldl putS [])) := Lib.hid ⟨he.row.reads, he.all.ev⟩
      have P2 := Lib.hid he.row.cap
      have F2 : Hid (∀ a, A2 = some a → a.block < x2.heap.size) := Lib.hid (fun a ha => (he.rowAt a ha).2)
      clear hc he
      go_wp2_with fail
      refine (l10puts_any x2 es A none c 0 0 xs es [] RA.out.1 RA.out.2 ⟨rfl, by simp⟩ (by have := LN.out; omega) SM.out CL.out (fun x hx => hx)).mono ?_
      rintro r x3 ⟨A3, c3, z3, rfl, he, hc⟩
      replace C := Lib.hid (C.out.trans hc)
      replace RL := Lib.hid (And.intro (RL.out.1.chg hc (by simp)) (RL.out.2.chg hc))
      replace RR := Lib.hid (And.intro (RR.out.1.chg hc (by simp)) (RR.out.2.chg hc))
      replace RA := Lib.hid (And.intro (RA.out.1.chg hc (by simp)) (RA.out.2.chg hc))
      replace R1 := Lib.hid (And.intro (R1.out.1.chg hc (by simp)) (R1.out.2.chg hc))
      replace F1 := Lib.hid (fun a ha => Nat.lt_of_lt_of_le (F1.out a ha) hc.size)
      replace R2 := Lib.hid (And.intro (R2.out.1.chg hc (by simp)) (R2.out.2.chg hc))
      replace F2 := Lib.hid (fun a ha => Nat.lt_of_lt_of_le (F2.out a ha) hc.size)
      have R3 : Hid (RdK evTy x3 A3 z3.length z3 ∧ EvsR x3 z3 (es.foldl putS [])) := Lib.hid ⟨he.row.reads, he.all.ev⟩
      have P3 := Lib.hid he.row.cap
      have F3 : Hid (∀ a, A3 = some a → a.block < x3.heap.size) := Lib.hid (fun a ha => (he.rowAt a ha).2)
      clear hc he
      have Z1 : Hid (z1.length ≤ 14 ∧ ∀ e ∈ fl.foldl putS [], EvSm e ∧ e.q.length ≤ 100000) := Lib.hid ⟨by have a := R1.out.2.1; have b := foldS_len fl []; have d := LL.out; have e1 := RL.out.2.1; have e2 := RR.out.2.1; have e3 := RA.out.2.1; have := LN.out; simp at b; omega, fun e he => (foldS_in fl [] e he).elim (fun q => by cases q) (SL.out e)⟩
      have Z2 : Hid (z2.length ≤ 14 ∧ ∀ e ∈ fr.foldl putS [], EvSm e ∧ e.q.length ≤ 100000) := Lib.hid ⟨by have a := R2.out.2.1; have b := foldS_len fr []; have d := LL.out; have e1 := RL.out.2.1; have e2 := RR.out.2.1; have e3 := RA.out.2.1; have := LN.out; simp at b; omega, fun e he => (foldS_in fr [] e he).elim (fun q => by cases q) (SR.out e)⟩
      have Z3 : Hid (z3.length ≤ 14 ∧ ∀ e ∈ es.foldl putS [], EvSm e ∧ e.q.length ≤ 100000) := Lib.hid ⟨by have a := R3.out.2.1; have b := foldS_len es []; have d := LL.out; have e1 := RL.out.2.1; have e2 := RR.out.2.1; have e3 := RA.out.2.1; have := LN.out; simp at b; omega, fun e he => (foldS_in es [] e he).elim (fun q => by cases q) (SM.out e)⟩
      have JN := stjoin_any x3 A1 A2 c1 c2 z1 z2 (fl.foldl putS []) (fr.foldl putS []) R1.out.1 R2.out.1 ⟨P1.out, P2.out.1⟩ ⟨.inr F1.out, .inr F2.out⟩ R1.out.2 R2.out.2 (by have := Z1.out.1; have := Z2.out.1; omega) Z1.out.2 Z2.out.2
      rw [st_join_all CL.out UL.out UR.out ALL.out] at JN
      have JN2 := Lib.hid JN
      clear JN
      go_wp2_with fail
      refine JN2.out.mono ?_
      rintro r y4 ⟨A4, c4, z4, rfl, he, hc⟩
      clear JN2
      replace C := Lib.hid (C.out.trans hc)
      replace RL := Lib.hid (And.intro (RL.out.1.chg hc (by simp)) (RL.out.2.chg hc))
      replace RR := Lib.hid (And.intro (RR.out.1.chg hc (by simp)) (RR.out.2.chg hc))
      replace RA := Lib.hid (And.intro (RA.out.1.chg hc (by simp)) (RA.out.2.chg hc))
      replace R1 := Lib.hid (And.intro (R1.out.1.chg hc (by simp)) (R1.out.2.chg hc))
      replace F1 := Lib.hid (fun a ha => Nat.lt_of_lt_of_le (F1.out a ha) hc.size)
      replace R2 := Lib.hid (And.intro (R2.out.1.chg hc (by simp)) (R2.out.2.chg hc))
      replace F2 := Lib.hid (fun a ha => Nat.lt_of_lt_of_le (F2.out a ha) hc.size)
      replace R3 := Lib.hid (And.intro (R3.out.1.chg hc (by simp)) (R3.out.2.chg hc))
      replace F3 := Lib.hid (fun a ha => Nat.lt_of_lt_of_le (F3.out a ha) hc.size)
      have R4 : Hid (RdK evTy y4 A4 z4.length z4 ∧ EvsR y4 z4 (es.foldl putS [])) := Lib.hid ⟨he.row.reads, he.all.ev⟩
      have P4 := Lib.hid he.row.cap
      have F4 : Hid (∀ a, A4 = some a → a.block < y4.heap.size) := Lib.hid (fun a ha => (he.rowAt a ha).2)
      clear hc he
      have JN := stjoin_any y4 A2 A1 c2 c1 z2 z1 (fr.foldl putS []) (fl.foldl putS []) R2.out.1 R1.out.1 ⟨P2.out, P1.out.1⟩ ⟨.inr F2.out, .inr F1.out⟩ R2.out.2 R1.out.2 (by have := Z2.out.1; have := Z1.out.1; omega) Z2.out.2 Z1.out.2
      rw [st_join_all CL.out UR.out UL.out (fun x => (ALL.out x).trans or_comm)] at JN
      have JN2 := Lib.hid JN
      clear JN
      go_wp2_with fail
      refine JN2.out.mono ?_
      rintro r y5 ⟨A5, c5, z5, rfl, he, hc⟩
      clear JN2
      replace C := Lib.hid (C.out.trans hc)
      replace RL := Lib.hid (And.intro (RL.out.1.chg hc (by simp)) (RL.out.2.chg hc))
      replace RR := Lib.hid (And.intro (RR.out.1.chg hc (by simp)) (RR.out.2.chg hc))
      replace RA := Lib.hid (And.intro (RA.out.1.chg hc (by simp)) (RA.out.2.chg hc))
      replace R1 := Lib.hid (And.intro (R1.out.1.chg hc (by simp)) (R1.out.2.chg hc))
      replace F1 := Lib.hid (fun a ha => Nat.lt_of_lt_of_le (F1.out a ha) hc.size)
      replace R2 := Lib.hid (And.intro (R2.out.1.chg hc (by simp)) (R2.out.2.chg hc))
      replace F2 := Lib.hid (fun a ha => Nat.lt_of_lt_of_le (F2.out a ha) hc.size)
      replace R3 := Lib.hid (And.intro (R3.out.1.chg hc (by simp)) (R3.out.2.chg hc))
      replace F3 := Lib.hid (fun a ha => Nat.lt_of_lt_of_le (F3.out a ha) hc.size)
      replace R4 := Lib.hid (And.intro (R4.out.1.chg hc (by simp)) (R4.out.2.chg hc))
      replace F4 := Lib.hid (fun a ha => Nat.lt_of_lt_of_le (F4.out a ha) hc.size)
      have R5 : Hid (RdK evTy y5 A5 z5.length z5 ∧ EvsR y5 z5 (es.foldl putS [])) := Lib.hid ⟨he.row.reads, he.all.ev⟩
      have P5 := Lib.hid he.row.cap
      have F5 : Hid (∀ a, A5 = some a → a.block < y5.heap.size) := Lib.hid (fun a ha => (he.rowAt a ha).2)
      clear hc he
      have JN := stjoin_any y5 A1 A1 c1 c1 z1 z1 (fl.foldl putS []) (fl.foldl putS []) R1.out.1 R1.out.1 ⟨P1.out, P1.out.1⟩ ⟨.inr F1.out, .inr F1.out⟩ R1.out.2 R1.out.2 (by have := Z1.out.1; have := Z1.out.1; omega) Z1.out.2 Z1.out.2
      rw [st_join_all CL.out UL.out UL.out (fun x => (or_self_iff).symm)] at JN
      have JN2 := Lib.hid JN
      clear JN
      go_wp2_with fail
      refine JN2.out.mono ?_
      rintro r y6 ⟨A6, c6, z6, rfl, he, hc⟩
      clear JN2
      replace C := Lib.hid (C.out.trans hc)
      replace RL := Lib.hid (And.intro (RL.out.1.chg hc (by simp)) (RL.out.2.chg hc))
      replace RR := Lib.hid (And.intro (RR.out.1.chg hc (by simp)) (RR.out.2.chg hc))
      replace RA := Lib.hid (And.intro (RA.out.1.chg hc (by simp)) (RA.out.2.chg hc))
      replace R1 := Lib.hid (And.intro (R1.out.1.chg hc (by simp)) (R1.out.2.chg hc))
      replace F1 := Lib.hid (fun a ha => Nat.lt_of_lt_of_le (F1.out a ha) hc.size)
      replace R2 := Lib.hid (And.intro (R2.out.1.chg hc (by simp)) (R2.out.2.chg hc))
      replace F2 := Lib.hid (fun a ha => Nat.lt_of_lt_of_le (F2.out a ha) hc.size)
      replace R3 := Lib.hid (And.intro (R3.out.1.chg hc (by simp)) (R3.out.2.chg hc))
      replace F3 := Lib.hid (fun a ha => Nat.lt_of_lt_of_le (F3.out a ha) hc.size)
      replace R4 := Lib.hid (And.intro (R4.out.1.chg hc (by simp)) (R4.out.2.chg hc))
      replace F4 := Lib.hid (fun a ha => Nat.lt_of_lt_of_le (F4.out a ha) hc.size)
      replace R5 := Lib.hid (And.intro (R5.out.1.chg hc (by simp)) (R5.out.2.chg hc))
      replace F5 := Lib.hid (fun a ha => Nat.lt_of_lt_of_le (F5.out a ha) hc.size)
      have R6 : Hid (RdK evTy y6 A6 z6.length z6 ∧ EvsR y6 z6 (fl.foldl putS [])) := Lib.hid ⟨he.row.reads, he.all.ev⟩
      have P6 := Lib.hid he.row.cap
      have F6 : Hid (∀ a, A6 = some a → a.block < y6.heap.size) := Lib.hid (fun a ha => (he.rowAt a ha).2)
      clear hc he
      have BQ1 : Hid (∀ e ∈ (fl.foldl putS []), e.q.length ≤ 140737488351232) := Lib.hid (fun e he => by have := (Z1.out.2 e he).2; omega)
      have BQ3 : Hid (∀ e ∈ (es.foldl putS []), e.q.length ≤ 140737488351232) := Lib.hid (fun e he => by have := (Z3.out.2 e he).2; omega)
      go_wp2_with fail
      refine (sameevs_any y6 A4 A3 c4 c3 z4 z3 (es.foldl putS []) (es.foldl putS []) R4.out.1 R3.out.1 R4.out.2 R3.out.2 ⟨by have a := R4.out.2.1; have b := R3.out.2.1; have := Z1.out.1; have := Z3.out.1; have := R1.out.2.1; have := R3.out.2.1; omega, by have b := R3.out.2.1; have := Z1.out.1; have := Z3.out.1; have := R1.out.2.1; have := R3.out.2.1; omega⟩ ⟨BQ3.out, BQ3.out⟩).mono ?_
      rintro r s4 ⟨rfl, hc⟩
      rw [sameL_refl]
      replace C := Lib.hid (C.out.trans hc)
      replace RL := Lib.hid (And.intro (RL.out.1.chg hc (by simp)) (RL.out.2.chg hc))
      replace RR := Lib.hid (And.intro (RR.out.1.chg hc (by simp)) (RR.out.2.chg hc))
      replace RA := Lib.hid (And.intro (RA.out.1.chg hc (by simp)) (RA.out.2.chg hc))
      replace R1 := Lib.hid (And.intro (R1.out.1.chg hc (by simp)) (R1.out.2.chg hc))
      replace F1 := Lib.hid (fun a ha => Nat.lt_of_lt_of_le (F1.out a ha) hc.size)
      replace R2 := Lib.hid (And.intro (R2.out.1.chg hc (by simp)) (R2.out.2.chg hc))
      replace F2 := Lib.hid (fun a ha => Nat.lt_of_lt_of_le (F2.out a ha) hc.size)
      replace R3 := Lib.hid (And.intro (R3.out.1.chg hc (by simp)) (R3.out.2.chg hc))
      replace F3 := Lib.hid (fun a ha => Nat.lt_of_lt_of_le (F3.out a ha) hc.size)
      replace R4 := Lib.hid (And.intro (R4.out.1.chg hc (by simp)) (R4.out.2.chg hc))
      replace F4 := Lib.hid (fun a ha => Nat.lt_of_lt_of_le (F4.out a ha) hc.size)
      replace R5 := Lib.hid (And.intro (R5.out.1.chg hc (by simp)) (R5.out.2.chg hc))
      replace F5 := Lib.hid (fun a ha => Nat.lt_of_lt_of_le (F5.out a ha) hc.size)
      replace R6 := Lib.hid (And.intro (R6.out.1.chg hc (by simp)) (R6.out.2.chg hc))
      replace F6 := Lib.hid (fun a ha => Nat.lt_of_lt_of_le (F6.out a ha) hc.size)
      clear hc
      go_wp2_with fail
      refine (sameevs_any s4 A5 A3 c5 c3 z5 z3 (es.foldl putS []) (es.foldl putS []) R5.out.1 R3.out.1 R5.out.2 R3.out.2 ⟨by have a := R5.out.2.1; have b := R3.out.2.1; have := Z1.out.1; have := Z3.out.1; have := R1.out.2.1; have := R3.out.2.1; omega, by have b := R3.out.2.1; have := Z1.out.1; have := Z3.out.1; have := R1.out.2.1; have := R3.out.2.1; omega⟩ ⟨BQ3.out, BQ3.out⟩).mono ?_
      rintro r s5 ⟨rfl, hc⟩
      rw [sameL_refl]
      replace C := Lib.hid (C.out.trans hc)
      replace RL := Lib.hid (And.intro (RL.out.1.chg hc (by simp)) (RL.out.2.chg hc))
      replace RR := Lib.hid (And.intro (RR.out.1.chg hc (by simp)) (RR.out.2.chg hc))
      replace RA := Lib.hid (And.intro (RA.out.1.chg hc (by simp)) (RA.out.2.chg hc))
      replace R1 := Lib.hid (And.intro (R1.out.1.chg hc (by simp)) (R1.out.2.chg hc))
      replace F1 := Lib.hid (fun a ha => Nat.lt_of_lt_of_le (F1.out a ha) hc.size)
      replace R2 := Lib.hid (And.intro (R2.out.1.chg hc (by simp)) (R2.out.2.chg hc))
      replace F2 := Lib.hid (fun a ha => Nat.lt_of_lt_of_le (F2.out a ha) hc.size)
      replace R3 := Lib.hid (And.intro (R3.out.1.chg hc (by simp)) (R3.out.2.chg hc))
      replace F3 := Lib.hid (fun a ha => Nat.lt_of_lt_of_le (F3.out a ha) hc.size)
      replace R4 := Lib.hid (And.intro (R4.out.1.chg hc (by simp)) (R4.out.2.chg hc))
      replace F4 := Lib.hid (fun a ha => Nat.lt_of_lt_of_le (F4.out a ha) hc.size)
      replace R5 := Lib.hid (And.intro (R5.out.1.chg hc (by simp)) (R5.out.2.chg hc))
      replace F5 := Lib.hid (fun a ha => Nat.lt_of_lt_of_le (F5.out a ha) hc.size)
      replace R6 := Lib.hid (And.intro (R6.out.1.chg hc (by simp)) (R6.out.2.chg hc))
      replace F6 := Lib.hid (fun a ha => Nat.lt_of_lt_of_le (F6.out a ha) hc.size)
      clear hc
      go_wp2_with fail
      refine (sameevs_any s5 A6 A1 c6 c1 z6 z1 (fl.foldl putS []) (fl.foldl putS []) R6.out.1 R1.out.1 R6.out.2 R1.out.2 ⟨by have a := R6.out.2.1; have b := R1.out.2.1; have := Z1.out.1; have := Z3.out.1; have := R1.out.2.1; have := R3.out.2.1; omega, by have b := R1.out.2.1; have := Z1.out.1; have := Z3.out.1; have := R1.out.2.1; have := R3.out.2.1; omega⟩ ⟨BQ1.out, BQ1.out⟩).mono ?_
      rintro r s6 ⟨rfl, hc⟩
      rw [sameL_refl]
      replace C := Lib.hid (C.out.trans hc)
      replace RL := Lib.hid (And.intro (RL.out.1.chg hc (by simp)) (RL.out.2.chg hc))
      replace RR := Lib.hid (And.intro (RR.out.1.chg hc (by simp)) (RR.out.2.chg hc))
      replace RA := Lib.hid (And.intro (RA.out.1.chg hc (by simp)) (RA.out.2.chg hc))
      replace R1 := Lib.hid (And.intro (R1.out.1.chg hc (by simp)) (R1.out.2.chg hc))
      replace F1 := Lib.hid (fun a ha => Nat.lt_of_lt_of_le (F1.out a ha) hc.size)
      replace R2 := Lib.hid (And.intro (R2.out.1.chg hc (by simp)) (R2.out.2.chg hc))
      replace F2 := Lib.hid (fun a ha => Nat.lt_of_lt_of_le (F2.out a ha) hc.size)
      replace R3 := Lib.hid (And.intro (R3.out.1.chg hc (by simp)) (R3.out.2.chg hc))
      replace F3 := Lib.hid (fun a ha => Nat.lt_of_lt_of_le (F3.out a ha) hc.size)
      replace R4 := Lib.hid (And.intro (R4.out.1.chg hc (by simp)) (R4.out.2.chg hc))
      replace F4 := Lib.hid (fun a ha => Nat.lt_of_lt_of_le (F4.out a ha) hc.size)
      replace R5 := Lib.hid (And.intro (R5.out.1.chg hc (by simp)) (R5.out.2.chg hc))
      replace F5 := Lib.hid (fun a ha => Nat.lt_of_lt_of_le (F5.out a ha) hc.size)
      replace R6 := Lib.hid (And.intro (R6.out.1.chg hc (by simp)) (R6.out.2.chg hc))
      replace F6 := Lib.hid (fun a ha => Nat.lt_of_lt_of_le (F6.out a ha) hc.size)
      clear hc
      have KEEP := True.intro
      clear KEEP R4 F4 P4 R5 F5 P5 R6 F6 P6 BQ1 RR RA
      have DB := Lib.hid (Chg.refl [] s6)
      have C6 := C
      have D := Lib.hid (Chg.refl [] s6)
      clear C
      have NF : Hid (fl.length = yl.length) := Lib.hid RL.out.2.1.symm
      go_wp2
      go_loopw [23, 24] (fun v23 v24 wr => ∃ (k n : Nat) (Ad : Option Addr) (dd : Nat), k ≤ yl.length ∧ v24 = .int .i64 (k : Int) ∧ v23 = .slice Ad n dd ∧ Hid ((dotsE (fl.take k)).length = n) ∧ Hid (OwnK dotTy wr Ad dd (dotsE (fl.take k))) ∧ Hid (∀ a, Ad = some a → s6.heap.size ≤ a.block) ∧ Hid (Chg [] s6 wr)) (fun _ v24 _ => yl.length - (RowKit.intOf v24).toNat)
      case atStart => exact ⟨0, 0, none, 0, Nat.zero_le _, rfl, rfl, Lib.hid rfl, OwnK.none_ _, Lib.hid (by simp), Chg.refl _ _⟩
      case round =>
        obtain ⟨k, n, Ad, dd, hk, rfl, rfl, HDL, OD, NA, PC⟩ := hrel
        have k0 : (0 : Int) ≤ (k : Int) := by omega
        by_cases hkl : k < yl.length
        · have k1 : (k : Int) < (yl.length : Int) := by omega
          have k3 : IntKind.i64.wrap ((k : Int) + 1) = (k : Int) + 1 := IntWalk.i64_in _ (by have := LL.out; omega)
          obtain ⟨g3, o3, eA, _⟩ := RL.out.1.line (by omega)
          subst eA
          obtain ⟨x, e, ex, ee, rx⟩ := RL.out.2.at_ hkl
          obtain ⟨z0, z1, z2, z3, z4, z5, z6⟩ := evCells (RL.out.1.chg PC.out (by simp)) ex
          have DN : Hid (dotsE (fl.take (k + 1)) = dotsE (fl.take k) ++ [(x.n, x.s)]) := Lib.hid (by unfold dotsE; rw [List.take_add_one, ee, rx.n, rx.s]; simp)
          clear ex ee rx
          obtain ⟨u6, hw6, c6, b6⟩ := news1 wr (.cells #[.int .i64 x.n, .int .i64 x.s] 24)
          have W6 := Lib.hid hw6
          have RX6 : Hid (RdK dotTy u6 (some ⟨wr.heap.size, 0, none⟩) 1 [(x.n, x.s)]) := Lib.hid ⟨rfl, fun j v hj => ⟨_, rfl, by rw [add_zero_lit, cell_of b6 j]; simpa [RowTy.flat, dotTy] using hj⟩⟩
          have OD6 := Lib.hid (OD.out.chg c6 (by simp))
          have C66 := Lib.hid (PC.out.trans c6)
          have LND : Hid ((n + 1) * 400 ≤ 140737488355327) := Lib.hid (by have := HDL.out; unfold dotsE at this; rw [List.length_map, List.length_take] at this; have := LL.out; omega)
          clear hw6 c6 b6 OD
          go_wp2_with (at_builtin; rw [← W6.out]; refine wpList_appK (R := dotTy) rfl (.tmp 170) (.tmp 176) rfl rfl OD6.out HDL.out rfl RX6.out LND.out ?_; intro A3 c3 w3 o3 g3 e3)
          have HL1 : Hid ((dotsE (fl.take (k + 1))).length = n + 1) := Lib.hid (by rw [DN.out, List.length_append, HDL.out]; rfl)
          have O3 : Hid (OwnK dotTy w3 A3 c3 (dotsE (fl.take (k + 1)))) := Lib.hid (by rw [DN.out]; exact o3)
          have CC3 := Lib.hid (C66.out.grown g3 (fun i hi => by
            rcases Ad with _ | a
            · simp at hi
            · simp at hi; subst hi; exact .inr (NA.out _ rfl)))
          have NA3 : Hid (∀ a, A3 = some a → s6.heap.size ≤ a.block) := Lib.hid (fun a ha => by
            rcases e3 with e | e
            · exact NA.out a (by rw [← e]; exact ha)
            · rw [e] at ha; cases ha; exact C66.out.size)
          clear o3 g3 e3 W6 RX6 OD6 z0 z1 z2 z3 z4 z5 z6
          go_wp2
          go_round
          case rel => exact ⟨k + 1, n + 1, A3, c3, by omega, by go_num, by first | rfl | go_num, HL1, O3, NA3, CC3⟩
          case measure => simp [RowKit.intOf]; omega
        · obtain rfl : k = yl.length := by omega
          have k1 : ¬ (yl.length : Int) < (yl.length : Int) := by omega
          have e1 : fl.take yl.length = fl := by rw [← NF.out, List.take_length]
          rw [e1] at HDL OD
          clear e1
          have DOT := Lib.hid (dots_of (X := fl) (fun e he => cl_chk CL.out (UL.out e he)) (by have := LL.out; omega))
          have C : Hid (Chg [] w wr) := Lib.hid (C6.out.trans PC.out)
          replace R1 := Lib.hid (And.intro (R1.out.1.chg PC.out (by simp)) (R1.out.2.chg PC.out))
          replace R2 := Lib.hid (And.intro (R2.out.1.chg PC.out (by simp)) (R2.out.2.chg PC.out))
          replace R3 := Lib.hid (And.intro (R3.out.1.chg PC.out (by simp)) (R3.out.2.chg PC.out))
          replace F1 : Hid (∀ a, A1 = some a → a.block < wr.heap.size) := Lib.hid (fun a ha => Nat.lt_of_lt_of_le (F1.out a ha) PC.out.size)
          have LD : Hid ((dotsE fl).length ≤ 100000) := Lib.hid (by unfold dotsE; rw [List.length_map]; have := LL.out; omega)
          have OF := Lib.hid (paof_any wr Ad dd (dotsE fl) OD.out.reads LD.out)
          rw [HDL.out] at OF
          clear PC OD D
          go_wp2_with fail
          refine OF.out.mono ?_
          rintro r t1 ⟨Ak, ck, rfl, ho, hA, hc⟩
          rw [DOT.out.1]
          have RK := Lib.hid ho.reads
          replace C := Lib.hid (C.out.trans hc)
          replace R1 := Lib.hid (And.intro (R1.out.1.chg hc (by simp)) (R1.out.2.chg hc))
          replace R2 := Lib.hid (And.intro (R2.out.1.chg hc (by simp)) (R2.out.2.chg hc))
          replace R3 := Lib.hid (And.intro (R3.out.1.chg hc (by simp)) (R3.out.2.chg hc))
          replace F1 := Lib.hid (fun a ha => Nat.lt_of_lt_of_le (F1.out a ha) hc.size)
          clear ho hA hc OF
          obtain ⟨ks, hks⟩ : ∃ ks, (ofE (dotsE fl)).2 = ks := ⟨_, rfl⟩
          have KS := Lib.hid hks
          have MJ := Lib.hid (missing_join CL.out UL.out UR.out ALL.out (by have := LL.out; omega))
          have KSL : Hid (ks.length ≤ 140737488351232) := Lib.hid (by have q : (dotsE fl).length ≤ 14 := (by unfold dotsE; rw [List.length_map]; exact LL.out.2.2); rw [← KS.out]; exact ks_small q)
          rw [hks] at RK MJ ⊢
          clear hks
          go_wp2_with fail
          refine (stmissing_any t1 A2 c2 z2 (fr.foldl putS []) Ak ck ks R2.out.1 R2.out.2 (by have := Z2.out.1; omega) RK.out KSL.out Z2.out.2).mono ?_
          rintro r t2 ⟨A7, c7, z7, rfl, he, hc⟩
          replace C := Lib.hid (C.out.trans hc)
          replace R1 := Lib.hid (And.intro (R1.out.1.chg hc (by simp)) (R1.out.2.chg hc))
          replace R2 := Lib.hid (And.intro (R2.out.1.chg hc (by simp)) (R2.out.2.chg hc))
          replace R3 := Lib.hid (And.intro (R3.out.1.chg hc (by simp)) (R3.out.2.chg hc))
          replace F1 := Lib.hid (fun a ha => Nat.lt_of_lt_of_le (F1.out a ha) hc.size)
          replace RK := Lib.hid (RK.out.chg hc (by simp))
          have R7 : Hid (RdK evTy t2 A7 z7.length z7 ∧ EvsR t2 z7 ((fr.foldl putS []).filter (fun e => !hasE ks e.n e.s))) := Lib.hid ⟨he.row.reads, he.all.ev⟩
          have P7 := Lib.hid he.row.cap
          have F7 : Hid (∀ a, A7 = some a → a.block < t2.heap.size) := Lib.hid (fun a ha => (he.rowAt a ha).2)
          clear hc he
          have Z7 : Hid (z7.length ≤ 14 ∧ ∀ e ∈ (fr.foldl putS []).filter (fun e => !hasE ks e.n e.s), EvSm e ∧ e.q.length ≤ 100000) := Lib.hid ⟨by have a := R7.out.2.1; have b := List.length_filter_le (fun e => !hasE ks e.n e.s) (fr.foldl putS []); have d := R2.out.2.1; have := Z2.out.1; omega, fun e he => Z2.out.2 e (List.mem_filter.1 he).1⟩
          have JN := stjoin_any t2 A1 A7 c1 c7 z1 z7 (fl.foldl putS []) ((fr.foldl putS []).filter (fun e => !hasE ks e.n e.s)) R1.out.1 R7.out.1 ⟨P1.out, P7.out.1⟩ ⟨.inr F1.out, .inr F7.out⟩ R1.out.2 R7.out.2 (by have := Z1.out.1; have := Z7.out.1; omega) Z1.out.2 Z7.out.2
          rw [MJ.out] at JN
          have JN2 := Lib.hid JN
          clear JN
          go_wp2_with fail
          refine JN2.out.mono ?_
          rintro r t3 ⟨A8, c8, z8, rfl, he, hc⟩
          clear JN2
          replace C := Lib.hid (C.out.trans hc)
          replace R1 := Lib.hid (And.intro (R1.out.1.chg hc (by simp)) (R1.out.2.chg hc))
          replace R2 := Lib.hid (And.intro (R2.out.1.chg hc (by simp)) (R2.out.2.chg hc))
          replace R3 := Lib.hid (And.intro (R3.out.1.chg hc (by simp)) (R3.out.2.chg hc))
          replace F1 := Lib.hid (fun a ha => Nat.lt_of_lt_of_le (F1.out a ha) hc.size)
          replace RK := Lib.hid (RK.out.chg hc (by simp))
          replace R7 := Lib.hid (And.intro (R7.out.1.chg hc (by simp)) (R7.out.2.chg hc))
          replace F7 := Lib.hid (fun a ha => Nat.lt_of_lt_of_le (F7.out a ha) hc.size)
          have R8 : Hid (RdK evTy t3 A8 z8.length z8 ∧ EvsR t3 z8 (es.foldl putS [])) := Lib.hid ⟨he.row.reads, he.all.ev⟩
          have P8 := Lib.hid he.row.cap
          have F8 : Hid (∀ a, A8 = some a → a.block < t3.heap.size) := Lib.hid (fun a ha => (he.rowAt a ha).2)
          clear hc he
          go_wp2_with fail
          refine (sameevs_any t3 A8 A3 c8 c3 z8 z3 (es.foldl putS []) (es.foldl putS []) R8.out.1 R3.out.1 R8.out.2 R3.out.2 ⟨by have a := R8.out.2.1; have b := R3.out.2.1; have := Z1.out.1; have := Z3.out.1; have := R1.out.2.1; have := R3.out.2.1; omega, by have b := R3.out.2.1; have := Z1.out.1; have := Z3.out.1; have := R1.out.2.1; have := R3.out.2.1; omega⟩ ⟨BQ3.out, BQ3.out⟩).mono ?_
          rintro r t4 ⟨rfl, hc⟩
          rw [sameL_refl]
          replace C := Lib.hid (C.out.trans hc)
          replace R1 := Lib.hid (And.intro (R1.out.1.chg hc (by simp)) (R1.out.2.chg hc))
          replace R2 := Lib.hid (And.intro (R2.out.1.chg hc (by simp)) (R2.out.2.chg hc))
          replace R3 := Lib.hid (And.intro (R3.out.1.chg hc (by simp)) (R3.out.2.chg hc))
          replace F1 := Lib.hid (fun a ha => Nat.lt_of_lt_of_le (F1.out a ha) hc.size)
          replace RK := Lib.hid (RK.out.chg hc (by simp))
          replace R7 := Lib.hid (And.intro (R7.out.1.chg hc (by simp)) (R7.out.2.chg hc))
          replace F7 := Lib.hid (fun a ha => Nat.lt_of_lt_of_le (F7.out a ha) hc.size)
          replace R8 := Lib.hid (And.intro (R8.out.1.chg hc (by simp)) (R8.out.2.chg hc))
          replace F8 := Lib.hid (fun a ha => Nat.lt_of_lt_of_le (F8.out a ha) hc.size)
          clear hc
          go_wp2
          go_ret
          first | exact ⟨rfl, C.out⟩ | exact C.out
end
section
open Go.RowKit Go.WideShapes Go.ChangeShapes Go.Deep
set_option linter.unusedSimpArgs false
set_option linter.unusedVariables false

section
variable {H : Type} {enc : TypeId × Value → H} {w : World} {base : Nat} {spare : Nat → Bool} {held : Bool}
set_option maxRecDepth 100000 in
set_option maxHeartbeats 1000000 in
theorem open_events {n : Nat} {cs : List Value} {y : DataW H × List MemPlace} (h : DataW.trod enc Tryz.prog w base spare held n 22 cs = some y) (hz : ∀ k ∈ y.1.weights Tryz.prog 22, k ≤ reachBytes) :
    ∃ A m d zs es, cs = [.slice A m d] ∧ RdK evTy w A m zs ∧ EvsR w zs es ∧ m * 96 ≤ 140737488351232 ∧ m ≤ d ∧ ∀ (i : Nat) (x : EvT) (e : EvP), zs[i]? = some x → es[i]? = some e → EvZ x e := by
  rcases open_slice Tryz.underlying22 h with ⟨rfl, _⟩ | ⟨a, len, cap, m, k, D, Pl, rfl, _, hl, hm, hmm, rfl, hi⟩
  · exact ⟨none, 0, 0, [], [], rfl, RdK.nil _ _, EvsR.nil _, by decide, by decide, by simp⟩
  · have hlm : len ≤ m := by rw [hmm]; split <;> omega
    obtain ⟨hw, hwd⟩ := weights_slice Tryz.underlying22 hz
    rw [show Tryz.prog.bytesOf 30 = 96 by kernel_rfl] at hw
    simp [reachBytes] at hw
    have hC : Tryz.prog.cellsOf 30 = 7 := by kernel_rfl
    obtain ⟨l, hll, hat⟩ := list_of (Q := fun i (x : EvT × EvP) => (w.cell? (a.add (i * 7)) = some (.int .i64 x.1.n) ∧ w.cell? (a.add (i * 7 + 1)) = some (.int .i64 x.1.s) ∧ w.cell? (a.add (i * 7 + 2)) = some (.string x.1.p) ∧ w.cell? (a.add (i * 7 + 3)) = some (.int .i64 x.1.k) ∧ w.cell? (a.add (i * 7 + 4)) = some (.int .i64 x.1.m) ∧ w.cell? (a.add (i * 7 + 5)) = some (.slice x.1.A x.1.l x.1.c) ∧ w.cell? (a.add (i * 7 + 6)) = some (.slice x.1.B x.1.bl x.1.bc)) ∧ EvR w x.1 x.2 ∧ EvZ x.1 x.2) len (fun i hilt => by
      obtain ⟨cs', hc, ht⟩ := hi i (by omega)
      rw [hC] at hc
      obtain ⟨_, hcl, hat⟩ := World.cells?_some hc
      obtain ⟨x, e, rfl, hr, hz2⟩ := open_event ht (fun k hk => hwd (D i) (List.mem_map.2 ⟨i, List.mem_range.2 hilt, rfl⟩) k hk)
      have g0 := hat 0 (by simp)
      have g1 := hat 1 (by simp)
      have g2 := hat 2 (by simp)
      have g3 := hat 3 (by simp)
      have g4 := hat 4 (by simp)
      have g5 := hat 5 (by simp)
      have g6 := hat 6 (by simp)
      rw [add_add] at g0 g1 g2 g3 g4 g5 g6
      exact ⟨(x, e), ⟨g0, g1, g2, g3, g4, g5, g6⟩, hr, hz2⟩)
    refine ⟨some a, len, cap, l.map (·.1), l.map (·.2), rfl, ⟨by rw [List.length_map]; exact hll, fun j v hj => ⟨a, rfl, ?_⟩⟩, ⟨by simp, fun i x e hx he => ?_⟩, by omega, hl, fun i x e hx he => ?_⟩
    rotate_left
    · rw [List.getElem?_map, Option.map_eq_some_iff] at hx he
      obtain ⟨p, hp, rfl⟩ := hx
      obtain ⟨q, hq, rfl⟩ := he
      rw [hp] at hq
      cases hq
      exact (hat i _ hp).2.1
    · rw [List.getElem?_map, Option.map_eq_some_iff] at hx he
      obtain ⟨p, hp, rfl⟩ := hx
      obtain ⟨q, hq, rfl⟩ := he
      rw [hp] at hq
      cases hq
      exact (hat i _ hp).2.2
    have hj2 := (List.getElem?_eq_some_iff.1 hj).1
    rw [evTy.flat_len, List.length_map] at hj2
    have hk : evTy.k = 7 := rfl
    rw [hk] at hj2
    have hq : j / 7 < l.length := by omega
    have e := evTy.flat_at (l.map (·.1)) (j / 7) (j % 7) _ (by rw [List.getElem?_map, List.getElem?_eq_getElem hq]; rfl) (Nat.mod_lt _ (by decide))
    rw [hk, Nat.div_add_mod', hj] at e
    obtain ⟨g0, g1, g2, g3, g4, g5, g6⟩ := (hat (j / 7) _ (List.getElem?_eq_getElem hq)).1
    rcases (show j % 7 = 0 ∨ j % 7 = 1 ∨ j % 7 = 2 ∨ j % 7 = 3 ∨ j % 7 = 4 ∨ j % 7 = 5 ∨ j % 7 = 6 by omega) with h0 | h0 | h0 | h0 | h0 | h0 | h0
    · rw [h0] at e
      rw [show j / 7 * 7 = j by omega] at g0
      rw [g0]
      exact e.symm
    · rw [h0] at e
      rw [show j / 7 * 7 + 1 = j by omega] at g1
      rw [g1]
      exact e.symm
    · rw [h0] at e
      rw [show j / 7 * 7 + 2 = j by omega] at g2
      rw [g2]
      exact e.symm
    · rw [h0] at e
      rw [show j / 7 * 7 + 3 = j by omega] at g3
      rw [g3]
      exact e.symm
    · rw [h0] at e
      rw [show j / 7 * 7 + 4 = j by omega] at g4
      rw [g4]
      exact e.symm
    · rw [h0] at e
      rw [show j / 7 * 7 + 5 = j by omega] at g5
      rw [g5]
      exact e.symm
    · rw [h0] at e
      rw [show j / 7 * 7 + 6 = j by omega] at g6
      rw [g6]
      exact e.symm
end
end
section
def TabN (_ : World) : Prop := True
theorem TabN.laid {W : World} (_h : laidMetH Tryz.prog tables W) : TabN W := trivial
end
end Go.Proofs.YtomgjogkkoigbaaGreatDoor
