/- past.Has: a dot is looked for. past.Has. event.Ahead. The document's parts. The document's cut. The document's Check. path.Under and the document's. Unlike things of one path. clash.unlike. clash.hides. clash.clash, Clash. -/
import Derived.Test.YtfdaclifapfmdaaGreatDoorZcae
import Derived.Test.YtfdaclifapfmdaaGreatDoorZcad
import Derived.Deep.Cut
import Derived.Test.YtfdaclifapfmdaaGreatDoorZcab
import Derived.Deep.QuietTactic
import Derived.BigQuiet
import Derived.Deep.RegionHeld3
import Derived.Test.YtfdaclifapfmdaaGreatDoorZcac
import Derived.Shelf.Small.Wraps
import Derived.Shelf.Strings.Prefix
namespace Go.Proofs.YtfdaclifapfmdaaGreatDoor
section
open Go.RowKit Go.Lib
set_option linter.unusedSimpArgs false
set_option linter.unusedVariables false


set_option maxRecDepth 100000 in
set_option maxHeartbeats 8000000 in
theorem binspan_any (w : World) (A : Option Addr) (c : Nat) (xs : List Sp) (n s : Int) (h : RdK spanTy w A xs.length xs) (hn : Norm xs) (hl : xs.length ≤ 4000) :
    Calls Tryz.prog 104 #[.slice A xs.length c, .agg #[.int .i64 n, .int .i64 s], .func (.func 105) #[] #[]] w fun e w' => ∃ i : Int, e = .returned (.tuple #[.int .i64 i, .bool (decide (Mem xs n s))]) ∧ Chg [] w w' := by
  have HX := Lib.hid h
  have HNM := Lib.hid hn
  have HL := Lib.hid hl
  clear h hn hl
  obtain ⟨w1, hw1, c1, b1⟩ := news1 w (.cells #[.int .i64 n, .int .i64 s] 23)
  have W1 := Lib.hid hw1
  have C1 := Lib.hid c1
  have B1 := Lib.hid b1
  clear hw1 c1 b1
  go_enter Tryz.func104, Tryz.ntmps104
  go_upto_region 2 with fail
  rw [← W1.out]
  generalize w.heap.size = g0 at *
  clear W1
  go_wp2
  go_loopw [9, 10] (fun v9 v10 wr => ∃ (i j : Nat), i ≤ j ∧ j ≤ xs.length ∧ v9 = .int .i64 (i : Int) ∧ v10 = .int .i64 (j : Int) ∧ Hid (LoS xs n s i ∧ HiS xs n s j) ∧ Hid (Chg [] w1 wr)) (fun v9 v10 _ => (RowKit.intOf v10).toNat - (RowKit.intOf v9).toNat)
  case atStart => exact ⟨0, xs.length, Nat.zero_le _, Nat.le_refl _, rfl, rfl, Lib.hid ⟨fun p x _ h => absurd h (by omega), fun p x hx h => absurd ((List.getElem?_eq_some_iff.1 hx).1) (by omega)⟩, Chg.refl _ _⟩
  case round =>
    obtain ⟨i, j, hij, hj, rfl, rfl, HI, HC⟩ := hrel
    have i0 : (0 : Int) ≤ (i : Int) := by omega
    have hl := HL.out
    have i1 : IntKind.i64.wrap ((i : Int) + (j : Int)) = ((i + j : Nat) : Int) := by rw [IntWalk.i64_in _ (by omega)]; omega
    by_cases hlt : i < j
    · have i2 : (i : Int) < (j : Int) := by omega
      go_upto_region 5 with fail
      obtain ⟨k, hk⟩ : ∃ k : Nat, k = (i + j) / 2 := ⟨_, rfl⟩
      have e1 : ((i : Int) + (j : Int)) / 2 = (k : Int) := by omega
      rw [e1]
      have hk1 : i ≤ k ∧ k < j := by omega
      clear hk e1 i1 i2
      obtain ⟨x, hx⟩ : ∃ x, xs[k]? = some x := ⟨_, List.getElem?_eq_getElem (by omega)⟩
      have R4 := (HX.out.chg C1.out (by simp)).chg HC.out (by simp)
      obtain ⟨g, o, eA, _⟩ := R4.line (by omega)
      subst eA
      obtain ⟨q0, q1, q2⟩ := spanCells R4 hx
      have b4 := HC.out.at_ B1.out (by simp)
      have d0 := cell_of b4 0
      have d1 := cell_of b4 1
      simp only [List.getElem?_toArray, List.getElem?_cons_succ, List.getElem?_cons_zero] at d0 d1
      have k0 : (0 : Int) ≤ (k : Int) := by omega
      have k1 : (k : Int) < (xs.length : Int) := by omega
      have HX5 := Lib.hid hx
      clear R4 b4 hx
      refine wp_region_held_drew (S := fun w' => w'.cell? ⟨g, o + k * 3, none⟩ = some (.int .i64 x.1) ∧ w'.cell? ⟨g, o + k * 3 + 1, none⟩ = some (.int .i64 x.2.1) ∧ w'.cell? ⟨g, o + k * 3 + 2, none⟩ = some (.int .i64 x.2.2) ∧ w'.cell? ⟨g0, 0, none⟩ = some (.int .i64 n) ∧ w'.cell? ⟨g0, 1, none⟩ = some (.int .i64 s)) (by kernel_rfl) ⟨q0, q1, q2, d0, d1⟩ (fun hHeld => ?_)
      have CD := Lib.hid (Chg.refl [] wr).drew
      have HH := Lib.hid (fun (w' : World) (hc : Chg [] wr.drew w') => (⟨(CD.out.trans hc).cell q0 (by simp), (CD.out.trans hc).cell q1 (by simp), (CD.out.trans hc).cell q2 (by simp), (CD.out.trans hc).cell d0 (by simp), (CD.out.trans hc).cell d1 (by simp)⟩ : w'.cell? ⟨g, o + k * 3, none⟩ = some (.int .i64 x.1) ∧ w'.cell? ⟨g, o + k * 3 + 1, none⟩ = some (.int .i64 x.2.1) ∧ w'.cell? ⟨g, o + k * 3 + 2, none⟩ = some (.int .i64 x.2.2) ∧ w'.cell? ⟨g0, 0, none⟩ = some (.int .i64 n) ∧ w'.cell? ⟨g0, 1, none⟩ = some (.int .i64 s)))
      clear q0 q1 q2 d0 d1
      generalize wr.drew = wd at *
      refine sy 0 24 rfl rfl ?_
      try simp only [Act.put, sA, s0, s1]
      refine sy 1 25 rfl rfl ?_
      try simp only [Act.put, sA, s0, s1]
      refine sy 2 26 rfl rfl ?_
      try simp only [Act.put, sA, s0, s1]
      refine sy 3 27 rfl rfl ?_
      try simp only [Act.put, sA, s0, s1]
      refine sy 4 28 rfl rfl ?_ (hy := by (intro w hSw; (try dsimp only at hSw); obtain ⟨q0, q1, q2, q3, q4⟩ := hSw; go_simp; try with_reducible rfl))
      try simp only [Act.put, sA, s0, s1]
      refine sy 5 29 rfl rfl ?_ (hy := by (intro w hSw; (try dsimp only at hSw); obtain ⟨q0, q1, q2, q3, q4⟩ := hSw; go_simp; try with_reducible rfl))
      try simp only [Act.put, sA, s0, s1]
      refine wpAnyH_ready (rs := [6]) (by kernel_rfl) (by simp) ?_
      refine AllReadyH.cons rfl (fun K hK => ?_) AllReadyH.nil
      replace hK := Lib.hid hK
      go_simp
      refine (has1_any wd x n s).mono ?_
      rintro r w6 ⟨rfl, h6⟩
      have C6 := Lib.hid h6
      clear h6 hHeld
      refine hK.out _ _ (HH.out w6 C6.out) (fun hHeld => ?_)
      clear hK K
      try simp only [Act.put, sA, s0, s1]
      refine sy 7 31 rfl rfl ?_
      try simp only [Act.put, sA, s0, s1]
      refine wpAnyH_done (by kernel_rfl) ?_ _
      clear hHeld HH
      have CE := Lib.hid (HC.out.trans (CD.out.trans C6.out))
      by_cases hneg : cmpS x n s < 0
      · have LO := Lib.hid (lo_next HNM.out HX5.out hneg)
        have dn1 : decide (cmpS x n s < 0) = true := decide_eq_true hneg
        have w1' : IntKind.i64.wrap ((k : Int) + 1) = (k : Int) + 1 := IntWalk.i64_in _ (by omega)
        go_wp2
        go_round
        case rel => exact ⟨k + 1, j, by omega, hj, by go_num, rfl, Lib.hid ⟨LO.out, HI.out.2⟩, CE.out⟩
        case measure => simp [RowKit.intOf]; omega
      · have HIN := Lib.hid (hi_next HNM.out HX5.out hneg)
        have dn1 : decide (cmpS x n s < 0) = false := decide_eq_false hneg
        go_wp2
        go_round
        case rel => exact ⟨i, k, by omega, by omega, rfl, rfl, Lib.hid ⟨HI.out.1, HIN.out⟩, CE.out⟩
        case measure => simp [RowKit.intOf]; omega
    · obtain rfl : i = j := by omega
      have i2 : ¬ (i : Int) < (i : Int) := by omega
      by_cases hin : i < xs.length
      · have k1 : (i : Int) < (xs.length : Int) := by omega
        have k2 : decide ((i : Int) < (xs.length : Int)) = true := by simp; omega
        have k3 : decide (i < xs.length) = true := by simp; omega
        obtain ⟨x, hx⟩ : ∃ x, xs[i]? = some x := ⟨_, List.getElem?_eq_getElem hin⟩
        have R4 := (HX.out.chg C1.out (by simp)).chg HC.out (by simp)
        obtain ⟨g, o, eA, _⟩ := R4.line (by omega)
        subst eA
        obtain ⟨q0, q1, q2⟩ := spanCells R4 hx
        have b4 := HC.out.at_ B1.out (by simp)
        have d0 := cell_of b4 0
        have d1 := cell_of b4 1
        simp only [List.getElem?_toArray, List.getElem?_cons_succ, List.getElem?_cons_zero] at d0 d1
        have ANS : Hid (decide (Mem xs n s) = decide (cmpS x n s = 0)) := Lib.hid (by
          by_cases hz : cmpS x n s = 0
          · rw [decide_eq_true (found_yes hx hz), decide_eq_true hz]
          · rw [decide_eq_false (found_no HNM.out HI.out.1 HI.out.2 (fun y hy => by rw [hx] at hy; cases hy; exact hz)), decide_eq_false hz])
        clear R4 b4 hx
        go_upto_region 8 with fail
        refine wp_region_held_drew (S := fun w' => w'.cell? ⟨g, o + i * 3, none⟩ = some (.int .i64 x.1) ∧ w'.cell? ⟨g, o + i * 3 + 1, none⟩ = some (.int .i64 x.2.1) ∧ w'.cell? ⟨g, o + i * 3 + 2, none⟩ = some (.int .i64 x.2.2) ∧ w'.cell? ⟨g0, 0, none⟩ = some (.int .i64 n) ∧ w'.cell? ⟨g0, 1, none⟩ = some (.int .i64 s)) (by kernel_rfl) ⟨q0, q1, q2, d0, d1⟩ (fun hHeld => ?_)
        have CD := Lib.hid (Chg.refl [] wr).drew
        have HH := Lib.hid (fun (w' : World) (hc : Chg [] wr.drew w') => (⟨(CD.out.trans hc).cell q0 (by simp), (CD.out.trans hc).cell q1 (by simp), (CD.out.trans hc).cell q2 (by simp), (CD.out.trans hc).cell d0 (by simp), (CD.out.trans hc).cell d1 (by simp)⟩ : w'.cell? ⟨g, o + i * 3, none⟩ = some (.int .i64 x.1) ∧ w'.cell? ⟨g, o + i * 3 + 1, none⟩ = some (.int .i64 x.2.1) ∧ w'.cell? ⟨g, o + i * 3 + 2, none⟩ = some (.int .i64 x.2.2) ∧ w'.cell? ⟨g0, 0, none⟩ = some (.int .i64 n) ∧ w'.cell? ⟨g0, 1, none⟩ = some (.int .i64 s)))
        clear q0 q1 q2 d0 d1 i2
        generalize wr.drew = wd at *
        refine sy 0 35 rfl rfl ?_
        try simp only [Act.put, sA, s0, s1]
        refine sy 1 36 rfl rfl ?_
        try simp only [Act.put, sA, s0, s1]
        refine sy 2 37 rfl rfl ?_
        try simp only [Act.put, sA, s0, s1]
        refine sy 3 38 rfl rfl ?_
        try simp only [Act.put, sA, s0, s1]
        refine sy 4 39 rfl rfl ?_
        try simp only [Act.put, sA, s0, s1]
        refine sy 5 40 rfl rfl ?_
        try simp only [Act.put, sA, s0, s1]
        refine sy 6 41 rfl rfl ?_
        try simp only [Act.put, sA, s0, s1]
        refine sy 7 42 rfl rfl ?_
        try simp only [Act.put, sA, s0, s1]
        refine sy 8 43 rfl rfl ?_
        try simp only [Act.put, sA, s0, s1]
        refine sy 9 44 rfl rfl ?_ (hy := by (intro w hSw; (try dsimp only at hSw); obtain ⟨q0, q1, q2, q3, q4⟩ := hSw; go_simp; try with_reducible rfl))
        try simp only [Act.put, sA, s0, s1]
        refine sy 10 45 rfl rfl ?_ (hy := by (intro w hSw; (try dsimp only at hSw); obtain ⟨q0, q1, q2, q3, q4⟩ := hSw; go_simp; try with_reducible rfl))
        try simp only [Act.put, sA, s0, s1]
        refine wpAnyH_ready (rs := [11]) (by kernel_rfl) (by simp) ?_
        refine AllReadyH.cons rfl (fun K hK => ?_) AllReadyH.nil
        replace hK := Lib.hid hK
        go_simp
        refine (has1_any wd x n s).mono ?_
        rintro r w6 ⟨rfl, h6⟩
        have C6 := Lib.hid h6
        clear h6 hHeld
        refine hK.out _ _ (HH.out w6 C6.out) (fun hHeld => ?_)
        clear hK K
        try simp only [Act.put, sA, s0, s1]
        refine sy 12 47 rfl rfl ?_
        try simp only [Act.put, sA, s0, s1]
        refine sy 13 48 rfl rfl ?_
        try simp only [Act.put, sA, s0, s1]
        refine sy 14 6 rfl rfl ?_
        try simp only [Act.put, sA, s0, s1]
        refine sy 15 7 rfl rfl ?_
        try simp only [Act.put, sA, s0, s1]
        refine wpAnyH_done (by kernel_rfl) ?_ _
        clear hHeld HH
        have CE := Lib.hid (C1.out.trans (HC.out.trans (CD.out.trans C6.out)))
        by_cases hz : cmpS x n s = 0
        · have AN : decide (Mem xs n s) = true := by rw [ANS.out, decide_eq_true hz]
          have dz : ((cmpS x n s == 0) : Bool) = true := by simpa using hz
          clear ANS hz
          go_wp2
          go_ret2
          (first | exact ⟨(i : Int), by show Ending.returned (.tuple #[.int .i64 (i : Int), .bool (cmpS x n s == 0)]) = _; rw [dz, AN], CE.out⟩ | exact ⟨⟨(i : Int), by show Ending.returned (.tuple #[.int .i64 (i : Int), .bool false]) = _; first | rfl | rw [AN]⟩, CE.out⟩)
        · have AN : decide (Mem xs n s) = false := by rw [ANS.out, decide_eq_false hz]
          have dz : ((cmpS x n s == 0) : Bool) = false := by simpa using hz
          clear ANS hz
          go_wp2
          go_ret2
          (first | exact ⟨(i : Int), by show Ending.returned (.tuple #[.int .i64 (i : Int), .bool (cmpS x n s == 0)]) = _; rw [dz, AN], CE.out⟩ | exact ⟨⟨(i : Int), by show Ending.returned (.tuple #[.int .i64 (i : Int), .bool false]) = _; first | rfl | rw [AN]⟩, CE.out⟩)
      · have k1 : ¬ (i : Int) < (xs.length : Int) := by omega
        have k2 : decide ((i : Int) < (xs.length : Int)) = false := by simp; omega
        have k3 : decide (i < xs.length) = false := by simp; omega
        have ANS : Hid (decide (Mem xs n s) = false) := Lib.hid (decide_eq_false (found_no HNM.out HI.out.1 HI.out.2 (fun y hy => absurd ((List.getElem?_eq_some_iff.1 hy).1) hin)))
        go_upto_region 8 with fail
        refine wp_region_held_drew (S := fun _ => True) (by kernel_rfl) trivial (fun hHeld => ?_)
        have CD := Lib.hid (Chg.refl [] wr).drew
        generalize wr.drew = wd at *
        clear i2
        refine sy 0 35 rfl rfl ?_ (hS := trivial)
        try simp only [Act.put, sA, s0, s1]
        refine sy 1 36 rfl rfl ?_ (hS := trivial)
        try simp only [Act.put, sA, s0, s1]
        refine sy 2 37 rfl rfl ?_ (hS := trivial)
        try simp only [Act.put, sA, s0, s1]
        refine sy 3 38 rfl rfl ?_ (hS := trivial)
        try simp only [Act.put, sA, s0, s1]
        refine sy 4 39 rfl rfl ?_ (hS := trivial)
        try simp only [Act.put, sA, s0, s1]
        refine sn 5 40 rfl rfl ?_ (hS := trivial)
        try simp only [Act.put, sA, s0, s1]
        refine sn 6 41 rfl rfl ?_ (hS := trivial)
        try simp only [Act.put, sA, s0, s1]
        refine sn 7 42 rfl rfl ?_ (hS := trivial)
        try simp only [Act.put, sA, s0, s1]
        refine sn 8 43 rfl rfl ?_ (hS := trivial)
        try simp only [Act.put, sA, s0, s1]
        refine sn 9 44 rfl rfl ?_ (hS := trivial)
        try simp only [Act.put, sA, s0, s1]
        refine sn 10 45 rfl rfl ?_ (hS := trivial)
        try simp only [Act.put, sA, s0, s1]
        refine sn 11 46 rfl rfl ?_ (hS := trivial)
        try simp only [Act.put, sA, s0, s1]
        refine sn 12 47 rfl rfl ?_ (hS := trivial)
        try simp only [Act.put, sA, s0, s1]
        refine sy 13 48 rfl rfl ?_ (hS := trivial)
        try simp only [Act.put, sA, s0, s1]
        refine sy 14 6 rfl rfl ?_ (hS := trivial)
        try simp only [Act.put, sA, s0, s1]
        refine sy 15 7 rfl rfl ?_ (hS := trivial)
        try simp only [Act.put, sA, s0, s1]
        refine wpAnyH_done (by kernel_rfl) ?_ _
        clear hHeld
        have CE := Lib.hid (C1.out.trans (HC.out.trans CD.out))
        have AN := ANS.out
        go_wp2
        go_ret2
        (first | exact ⟨(i : Int), by show Ending.returned (.tuple #[.int .i64 (i : Int), .bool (cmpS x n s == 0)]) = _; rw [dz, AN], CE.out⟩ | exact ⟨⟨(i : Int), by show Ending.returned (.tuple #[.int .i64 (i : Int), .bool false]) = _; first | rfl | rw [AN]⟩, CE.out⟩)
end
section
open Go.RowKit Go.Lib
set_option linter.unusedSimpArgs false
set_option linter.unusedVariables false


def hasE (xs : List Sp) (n s : Int) : Bool := decide (chkS xs = 0) && decide (Mem xs n s)
set_option maxRecDepth 100000 in
set_option maxHeartbeats 4000000 in
theorem has_any (w : World) (A : Option Addr) (c : Nat) (xs : List Sp) (n s : Int) (h : RdK spanTy w A xs.length xs) (hn : xs.length ≤ 140737488351232) :
    Calls Tryz.prog 65 #[.slice A xs.length c, .agg #[.int .i64 n, .int .i64 s]] w fun e w' => e = .returned (.bool (hasE xs n s)) ∧ Chg [] w w' := by
  obtain ⟨w0, hw0, c0, b0⟩ := news1 w (.cells #[.int .i64 n, .int .i64 s] 23)
  have W0 := Lib.hid hw0
  have C0 := Lib.hid c0
  have B0 := Lib.hid b0
  have H := Lib.hid (h.chg c0 (by simp))
  have HN := Lib.hid hn
  clear hw0 c0 b0 h hn
  rcases chk_two xs with e1 | e1
  · have eH : hasE xs n s = decide (Mem xs n s) := by unfold hasE; rw [decide_eq_true e1]; rfl
    rw [eH]
    have WF := Lib.hid (wf_of_chk e1)
    clear eH
    go_enter Tryz.func65, Tryz.ntmps65
    go_wp2_with fail
    rw [← W0.out]
    generalize w.heap.size = g0 at *
    refine (pacheck_any w0 A _ c xs H.out HN.out).mono ?_
    rintro e w1 ⟨rfl, h1⟩
    rw [e1]
    have C1 := Lib.hid h1
    have b1 := h1.at_ B0.out (by simp)
    have z0 := cell_of b1 0
    have z1 := cell_of b1 1
    simp only [List.getElem?_toArray, List.getElem?_cons_succ, List.getElem?_cons_zero] at z0 z1
    clear h1 b1
    go_wp2_with fail
    refine (binspan_any w1 A c xs n s (H.out.chg C1.out (by simp)) WF.out.1.1 WF.out.2).mono ?_
    rintro e w2 ⟨i, rfl, h2⟩
    have C2 := Lib.hid (C0.out.trans (C1.out.trans h2))
    clear h2 z0 z1
    generalize hbb : decide (Mem xs n s) = b at *
    have HBB := Lib.hid hbb
    clear hbb
    go_wp2
    go_ret
    have e9 := HBB.out
    subst e9
    exact ⟨rfl, C2.out⟩
  · have eH : hasE xs n s = false := by unfold hasE; rw [decide_eq_false (by omega)]; rfl
    rw [eH]
    clear eH
    go_enter Tryz.func65, Tryz.ntmps65
    go_wp2_with fail
    rw [← W0.out]
    generalize w.heap.size = g0 at *
    refine (pacheck_any w0 A _ c xs H.out HN.out).mono ?_
    rintro e w1 ⟨rfl, h1⟩
    rw [e1]
    have C1 := Lib.hid h1
    clear h1
    go_wp2
    go_ret
    exact ⟨rfl, C0.out.trans C1.out⟩
end
section
open Go.RowKit Go.Lib
set_option linter.unusedSimpArgs false
set_option linter.unusedVariables false


/-- Is one ahead of the other one? -/
def aheadP (a b : EvP) : Bool := hasE b.q a.n a.s && decide (chkEv a = 0) && decide (chkEv b = 0)
theorem hasx_any (w : World) (x y : EvT) (e f : EvP) (hx : EvR w x e) (hy : EvR w y f) (hs : EvSm f) :
    Calls Tryz.prog 65 #[.slice y.B y.bl y.bc, .agg #[.int .i64 x.n, .int .i64 x.s]] w fun r w' => r = .returned (.bool (hasE f.q e.n e.s)) ∧ Chg [] w w' := by
  have h1 := hx.n
  have h2 := hx.s
  have h3 := hy.bl
  have h4 := hy.B
  rw [h3] at h4 ⊢
  rw [h1, h2]
  exact has_any w y.B y.bc f.q e.n e.s h4 hs.2.2

set_option maxRecDepth 100000 in
set_option maxHeartbeats 8000000 in
theorem evahead_any (w : World) (x y : EvT) (e f : EvP) (hx : EvR w x e) (hy : EvR w y f) (hs : EvSm e) (ht : EvSm f) :
    Calls Tryz.prog 29 #[.agg #[.int .i64 x.n, .int .i64 x.s, .string x.p, .int .i64 x.k, .int .i64 x.m, .slice x.A x.l x.c, .slice x.B x.bl x.bc], .agg #[.int .i64 y.n, .int .i64 y.s, .string y.p, .int .i64 y.k, .int .i64 y.m, .slice y.A y.l y.c, .slice y.B y.bl y.bc]] w fun r w' => r = .returned (.bool (aheadP e f)) ∧ Chg [] w w' := by
  obtain ⟨w2, hw, hc, b0, b1⟩ := news2 w (.cells #[.int .i64 x.n, .int .i64 x.s, .string x.p, .int .i64 x.k, .int .i64 x.m, .slice x.A x.l x.c, .slice x.B x.bl x.bc] 29) (.cells #[.int .i64 y.n, .int .i64 y.s, .string y.p, .int .i64 y.k, .int .i64 y.m, .slice y.A y.l y.c, .slice y.B y.bl y.bc] 29)
  have W2 := Lib.hid hw
  have C := Lib.hid hc
  have HX := Lib.hid (hx.chg hc)
  have HY := Lib.hid (hy.chg hc)
  have HS := Lib.hid hs
  have HT := Lib.hid ht
  have B0 := Lib.hid b0
  have B1 := Lib.hid b1
  generalize hv : aheadP e f = v
  have HV := Lib.hid hv
  clear hv hw hc hx hy hs ht b0 b1
  go_enter Tryz.func29, Tryz.ntmps29
  go_upto_region 1 with fail
  rw [← W2.out]
  generalize w.heap.size + 1 = g1 at *
  generalize w.heap.size = g0 at *
  have z0 := cell_of B0.out 0
  have z1 := cell_of B0.out 1
  have z2 := cell_of B0.out 2
  have z3 := cell_of B0.out 3
  have z4 := cell_of B0.out 4
  have z5 := cell_of B0.out 5
  have z6 := cell_of B0.out 6
  have y0 := cell_of B1.out 0
  have y1 := cell_of B1.out 1
  have y2 := cell_of B1.out 2
  have y3 := cell_of B1.out 3
  have y4 := cell_of B1.out 4
  have y5 := cell_of B1.out 5
  have y6 := cell_of B1.out 6
  simp only [List.getElem?_toArray, List.getElem?_cons_succ, List.getElem?_cons_zero] at z0 y0 z1 y1 z2 y2 z3 y3 z4 y4 z5 y5 z6 y6
  go_wp2_with fail
  refine (hasx_any w2 x y e f HX.out HY.out HT.out).mono ?_
  rintro r w3 ⟨rfl, hc⟩
  clear z0 y0 z1 y1 z2 y2 z3 y3 z4 y4 z5 y5 z6 y6
  replace C := Lib.hid (C.out.trans hc)
  replace HX := Lib.hid (HX.out.chg hc)
  replace HY := Lib.hid (HY.out.chg hc)
  replace B0 := Lib.hid (hc.at_ B0.out (by simp))
  replace B1 := Lib.hid (hc.at_ B1.out (by simp))
  clear hc
  rcases hh : hasE f.q e.n e.s with _ | _
  · obtain rfl : v = false := by rw [← HV.out]; unfold aheadP; rw [hh]; rfl
    go_wp2
    go_ret
    exact ⟨rfl, C.out⟩
  have z0 := cell_of B0.out 0
  have z1 := cell_of B0.out 1
  have z2 := cell_of B0.out 2
  have z3 := cell_of B0.out 3
  have z4 := cell_of B0.out 4
  have z5 := cell_of B0.out 5
  have z6 := cell_of B0.out 6
  have y0 := cell_of B1.out 0
  have y1 := cell_of B1.out 1
  have y2 := cell_of B1.out 2
  have y3 := cell_of B1.out 3
  have y4 := cell_of B1.out 4
  have y5 := cell_of B1.out 5
  have y6 := cell_of B1.out 6
  simp only [List.getElem?_toArray, List.getElem?_cons_succ, List.getElem?_cons_zero] at z0 y0 z1 y1 z2 y2 z3 y3 z4 y4 z5 y5 z6 y6
  go_wp2_with fail
  refine (evcheck_any w3 x e HX.out HS.out).mono ?_
  rintro r w4 ⟨rfl, hc⟩
  clear z0 y0 z1 y1 z2 y2 z3 y3 z4 y4 z5 y5 z6 y6
  replace C := Lib.hid (C.out.trans hc)
  replace HX := Lib.hid (HX.out.chg hc)
  replace HY := Lib.hid (HY.out.chg hc)
  replace B0 := Lib.hid (hc.at_ B0.out (by simp))
  replace B1 := Lib.hid (hc.at_ B1.out (by simp))
  clear hc
  rcases chkEv_two e with ha | ha
  rotate_left
  · obtain rfl : v = false := by rw [← HV.out]; unfold aheadP; rw [ha]; simp
    rw [ha]
    go_wp2
    go_ret
    exact ⟨rfl, C.out⟩
  rw [ha]
  have z0 := cell_of B0.out 0
  have z1 := cell_of B0.out 1
  have z2 := cell_of B0.out 2
  have z3 := cell_of B0.out 3
  have z4 := cell_of B0.out 4
  have z5 := cell_of B0.out 5
  have z6 := cell_of B0.out 6
  have y0 := cell_of B1.out 0
  have y1 := cell_of B1.out 1
  have y2 := cell_of B1.out 2
  have y3 := cell_of B1.out 3
  have y4 := cell_of B1.out 4
  have y5 := cell_of B1.out 5
  have y6 := cell_of B1.out 6
  simp only [List.getElem?_toArray, List.getElem?_cons_succ, List.getElem?_cons_zero] at z0 y0 z1 y1 z2 y2 z3 y3 z4 y4 z5 y5 z6 y6
  go_wp2_with fail
  refine (evcheck_any w4 y f HY.out HT.out).mono ?_
  rintro r w5 ⟨rfl, hc⟩
  clear z0 y0 z1 y1 z2 y2 z3 y3 z4 y4 z5 y5 z6 y6
  replace C := Lib.hid (C.out.trans hc)
  replace HX := Lib.hid (HX.out.chg hc)
  replace HY := Lib.hid (HY.out.chg hc)
  replace B0 := Lib.hid (hc.at_ B0.out (by simp))
  replace B1 := Lib.hid (hc.at_ B1.out (by simp))
  clear hc
  rcases chkEv_two f with hb | hb
  rotate_left
  · obtain rfl : v = false := by rw [← HV.out]; unfold aheadP; rw [hb]; simp
    rw [hb]
    go_wp2
    go_ret
    exact ⟨rfl, C.out⟩
  rw [hb]
  obtain rfl : v = true := by rw [← HV.out]; unfold aheadP; rw [hh, ha, hb]; rfl
  go_wp2
  go_ret
  exact ⟨rfl, C.out⟩
end
section
open Go.RowKit
set_option linter.unusedSimpArgs false
set_option linter.unusedVariables false
theorem okB_iff (b : UInt8) : okB b = true ↔ (97 ≤ (b.toNat : Int) ∧ (b.toNat : Int) ≤ 122) ∨ (48 ≤ (b.toNat : Int) ∧ (b.toNat : Int) ≤ 57) ∨ (b.toNat : Int) = 46 ∨ (b.toNat : Int) = 95 ∨ (b.toNat : Int) = 45 := by
  have h := foreign_byte b
  have : okB b = !foreignR b.toNat := by rw [h]; simp
  rw [this]
  simp [foreignR]
  omega
theorem okB_not (b : UInt8) : okB b = false ↔ ¬ ((97 ≤ (b.toNat : Int) ∧ (b.toNat : Int) ≤ 122) ∨ (48 ≤ (b.toNat : Int) ∧ (b.toNat : Int) ≤ 57) ∨ (b.toNat : Int) = 46 ∨ (b.toNat : Int) = 95 ∨ (b.toNat : Int) = 45) := by
  rw [← okB_iff]
  simp
theorem part_bad {l : List UInt8} {k : Nat} (h : k < l.length) (hb : okB l[k] = false) : partL 12 l = false := by
  have : l.all okB = false := by
    rw [List.all_eq_false]
    exact ⟨l[k], List.getElem_mem h, by simp [hb]⟩
  simp [partL, this]
theorem strOf_get (l : List UInt8) (k : Nat) (h : k < (strOf l).size) (h' : k < l.length) : (strOf l)[k] = l[k] := by
  show (strOf l).data[k] = l[k]
  simp [strOf]
set_option maxHeartbeats 4000000 in
theorem qpart_any (w : World) (l : List UInt8) (hlen : l.length ≤ 140737488351232) :
    Calls Tryz.prog 122 #[.string (strOf l)] w fun e w' => e = .returned (.bool (partL 12 l)) ∧ w' = w := by
  have hs := strOf_size l
  go_enter Tryz.func122, Tryz.ntmps122
  go_wp2
  go_loopw [3, 4] (fun v3 v4 wr => ∃ k : Nat, k ≤ l.length ∧ v3 = .int .i64 (k : Int) ∧ (l.take k).all okB = true ∧ wr = w) (fun v3 _ _ => l.length - (RowKit.intOf v3).toNat)
  case atStart => exact ⟨0, Nat.zero_le _, rfl, rfl, rfl⟩
  case round =>
    obtain ⟨k, hk, rfl, hall, rfl⟩ := hrel
    by_cases hlt : k < l.length
    · have ex := List.getElem?_eq_getElem hlt
      have i0 : (0 : Int) ≤ (k : Int) := by omega
      have i1 : (k : Int) < ((strOf l).size : Int) := by omega
      have hb := strOf_get l k (by omega) hlt
      have HB := Lib.hid hb
      have HA := Lib.hid hall
      clear hb hall ex
      go_wp2
      all_goals (try simp only [bne_iff_ne, ne_eq, bne_eq_false_iff_eq] at *)
      all_goals first
        | (go_ret; exact ⟨by rw [part_bad hlt (by rw [← HB.out, okB_not]; omega)]; rfl, rfl⟩)
        | (refine ⟨⟨k + 1, by omega, by simp, ?_, trivial⟩, by simp [RowKit.intOf]; omega⟩
           have ho : okB l[k] = true := by rw [← HB.out, okB_iff]; omega
           rw [List.take_succ_eq_append_getElem hlt, List.all_append, HA.out]
           simp [ho])
    · obtain rfl : k = l.length := by omega
      rw [List.take_length] at hall
      have HA := Lib.hid hall
      clear hall
      go_wp2
      all_goals (try simp only [bne_iff_ne, ne_eq, bne_eq_false_iff_eq] at *)
      all_goals
        go_ret
        refine ⟨congrArg (fun b => Ending.returned (Value.bool b)) ?_, rfl⟩
        rw [Bool.eq_iff_iff]
        simp [partL, HA.out]
      all_goals first
        | (intros; omega)
        | (intro a b c; exact absurd (by assumption) c)
end
section
open Go.RowKit
set_option linter.unusedSimpArgs false
set_option linter.unusedVariables false
theorem own_app {w w6 w7 : World} {B A2 : Option Addr} (hB : ∀ a, B = some a → w.heap.size ≤ a.block) (hC : Chg [] w w6) (d2 : w6.grownBy w7 (B.map (·.block))) (e2 : A2 = B ∨ A2 = some ⟨w6.heap.size, 0, none⟩) : (∀ a, A2 = some a → w.heap.size ≤ a.block) ∧ Chg [] w w7 := by
  refine ⟨?_, hC.grown d2 (fun i hi => ?_)⟩
  · rcases e2 with rfl | rfl
    · exact hB
    · rintro a ⟨⟩; exact hC.size
  · cases B with
    | none => simp at hi
    | some a => simp at hi; subst hi; exact .inr (hB a rfl)
/-- A loop that goes through a text, with the piece under way between from and i. -/
theorem cut_mid (l : List UInt8) (fr i : Nat) (hi : i < l.length) (hfi : fr ≤ i) :
    cutA ((l.drop fr).take (i - fr)) (l.drop i) = if l[i] = 47 then (l.drop fr).take (i - fr) :: cutA ((l.drop (i + 1)).take 0) (l.drop (i + 1)) else cutA ((l.drop fr).take (i + 1 - fr)) (l.drop (i + 1)) := by
  rw [List.drop_eq_getElem_cons hi, cutA]
  split
  · simp
  · congr 1
    rw [show i + 1 - fr = (i - fr) + 1 by omega, List.take_succ_eq_append_getElem (by simp; omega)]
    congr 2
    rw [List.getElem_drop]
    congr 1
    omega
set_option maxRecDepth 100000 in
set_option maxHeartbeats 4000000 in
theorem qcut_any (w : World) (l : List UInt8) (hlen : l.length ≤ 10000000) :
    Calls Tryz.prog 121 #[.string (strOf l)] w fun e w' => ∃ A c, e = .returned (.slice A (cutL l).length c) ∧ OwnK textTy w' A c (cutL l) ∧ (∀ a, A = some a → w.heap.size ≤ a.block) ∧ Chg [] w w' := by
  have hs := strOf_size l
  go_enter Tryz.func121, Tryz.ntmps121
  go_wp2
  go_loopw [3, 4, 5] (fun v3 v4 v5 wr => ∃ (i fr : Nat) (out : List (List UInt8)) (B : Option Addr) (c : Nat), i ≤ l.length ∧ fr ≤ i ∧ v3 = .slice B out.length c ∧ v4 = .int .i64 (fr : Int) ∧ v5 = .int .i64 (i : Int) ∧ Hid (out ++ cutA ((l.drop fr).take (i - fr)) (l.drop i) = cutL l ∧ out.length ≤ i) ∧ Hid (OwnK textTy wr B c out ∧ (∀ a, B = some a → w.heap.size ≤ a.block) ∧ Chg [] w wr)) (fun _ _ v5 _ => l.length - (RowKit.intOf v5).toNat)
  case atStart => exact ⟨0, 0, [], none, 0, Nat.zero_le _, Nat.le_refl _, rfl, rfl, rfl, ⟨rfl, Nat.le_refl _⟩, OwnK.none_ _, by simp, Chg.refl _ _⟩
  case round =>
    obtain ⟨i, fr, out, B, c, hi, hfi, rfl, rfl, rfl, HC, HI⟩ := hrel
    by_cases hlt : i < l.length
    · have hm := cut_mid l fr i hlt hfi
      have hb := strOf_get l i (by omega) hlt
      have i0 : (0 : Int) ≤ (i : Int) := by omega
      have i1 : (i : Int) < ((strOf l).size : Int) := by omega
      have k1 : IntKind.i64.wrap ((i : Int) + 1) = (i : Int) + 1 := IntWalk.i64_in _ (by omega)
      by_cases h47 : l[i] = 47
      · rw [if_pos h47] at hm
        have HM := Lib.hid hm
        have hb2 : (((strOf l)[i].toNat : Int) == 47) = true := by rw [hb, h47]; rfl
        clear hm h47 hb
        have i2 : (fr : Int) ≤ (i : Int) := by omega
        have i3 : (i : Int) ≤ ((strOf l).size : Int) := by omega
        have i4 : (0 : Int) ≤ (fr : Int) := by omega
        have i5 : i ≤ (strOf l).size := by omega
        have ee : (strOf l).extract fr i = strOf ((l.drop fr).take (i - fr)) := strOf_ext l fr i
        generalize (l.drop fr).take (i - fr) = p at *
        obtain ⟨w5, hw5, c5, b5⟩ := news1 wr (.cells #[.string (strOf p)] 9)
        have W5 := Lib.hid hw5
        have R5 := Lib.hid (OwnK.of (R := textTy) (c := 1) (full := [p]) (xs := [p]) b5 (Nat.le_refl _) (by decide) rfl rfl).reads
        have O5 := Lib.hid (HI.out.1.chg c5 (by simp))
        have BND := Lib.hid (show (out.length + 1) * 400 ≤ 140737488355327 by have := HC.out.2; omega)
        have C5 := Lib.hid (HI.out.2.2.trans c5)
        clear hw5 c5 b5
        go_wp2_with (at_builtin; rw [← W5.out]; refine wpList_appK (R := textTy) rfl _ _ rfl rfl O5.out rfl rfl R5.out BND.out ?_; intro A2 c2 w7 u2 d2 e2)
        have AO := own_app (w := w) HI.out.2.1 C5.out d2 e2
        refine ⟨⟨i + 1, i + 1, out ++ [p], A2, c2, by omega, Nat.le_refl _, by simp, by simp, by simp, ⟨?_, ?_⟩, ⟨u2, AO.1, AO.2⟩⟩, by simp [RowKit.intOf]; omega⟩
        · rw [← HC.out.1, HM.out, Nat.sub_self]
          simp
        · have := HC.out.2
          simp
          omega
      · rw [if_neg h47] at hm
        have HM := Lib.hid hm
        have hb2 : (((strOf l)[i].toNat : Int) == 47) = false := by
          rw [hb, beq_eq_false_iff_ne]
          intro e
          have : l[i].toNat = (47 : UInt8).toNat := by rw [show (47 : UInt8).toNat = 47 from rfl]; omega
          exact h47 (UInt8.toNat_inj.1 this)
        clear hm h47 hb
        go_wp2
        exact ⟨⟨i + 1, fr, out, B, c, by omega, by omega, rfl, rfl, by simp, ⟨by rw [← HC.out.1, HM.out], by have := HC.out.2; omega⟩, HI⟩, by simp [RowKit.intOf]; omega⟩
    · obtain rfl : i = l.length := by omega
      have hp : (l.drop fr).take (l.length - fr) = l.drop fr := List.take_of_length_le (by simp)
      have hc := HC.out.1
      rw [hp, List.drop_length, cutA] at hc
      have i2 : (fr : Int) ≤ ((strOf l).size : Int) := by omega
      have i4 : (0 : Int) ≤ (fr : Int) := by omega
      have i5 : fr ≤ (strOf l).size := by omega
      have ee : (strOf l).extract fr (strOf l).size = strOf (l.drop fr) := by rw [strOf_ext, hs, hp]
      rw [hs] at ee
      generalize l.drop fr = p at *
      obtain ⟨w5, hw5, c5, b5⟩ := news1 wr (.cells #[.string (strOf p)] 9)
      have W5 := Lib.hid hw5
      have R5 := Lib.hid (OwnK.of (R := textTy) (c := 1) (full := [p]) (xs := [p]) b5 (Nat.le_refl _) (by decide) rfl rfl).reads
      have O5 := Lib.hid (HI.out.1.chg c5 (by simp))
      have BND := Lib.hid (show (out.length + 1) * 400 ≤ 140737488355327 by have := HC.out.2; omega)
      have C5 := Lib.hid (HI.out.2.2.trans c5)
      have HC2 := Lib.hid hc
      clear hw5 c5 b5 hc hp HC
      go_wp2_with (at_builtin; rw [← W5.out]; refine wpList_appK (R := textTy) rfl _ _ rfl rfl O5.out rfl rfl R5.out BND.out ?_; intro A2 c2 w7 u2 d2 e2)
      go_ret
      have AO := own_app (w := w) HI.out.2.1 C5.out d2 e2
      exact ⟨A2, c2, by rw [← HC2.out]; simp, by rw [← HC2.out]; exact u2, AO.1, AO.2⟩
end
section
open Go.RowKit
set_option linter.unusedSimpArgs false
set_option linter.unusedVariables false
theorem cutA_short : ∀ (l acc x : List UInt8), x ∈ cutA acc l → x.length ≤ acc.length + l.length
  | [], acc, x, h => by simp [cutA] at h; subst h; simp
  | b :: l, acc, x, h => by
    unfold cutA at h
    split at h
    · rcases List.mem_cons.1 h with rfl | h
      · omega
      · have := cutA_short l [] x h
        simp at this
        simp
        omega
    · have := cutA_short l _ x h
      simp at this
      simp
      omega
theorem all_bad {xs : List (List UInt8)} {k : Nat} (h : k < xs.length) (hb : partL 12 xs[k] = false) : xs.all (partL 12) = false := by
  rw [List.all_eq_false]
  exact ⟨xs[k], List.getElem_mem h, by simp [hb]⟩
set_option maxRecDepth 100000 in
set_option maxHeartbeats 4000000 in
theorem qcheck_any (w : World) (l : List UInt8) (hlen : l.length ≤ 10000000) :
    Calls Tryz.prog 86 #[.string (strOf l)] w fun e w' => e = .returned (.int .i64 (if checkL 6 12 l then 0 else 2)) ∧ Chg [] w w' := by
  have hne := cutA_ne [] l
  have hxl : ∀ x ∈ cutL l, x.length ≤ 10000000 := fun x hx => by have := cutA_short l [] x hx; simp at this; omega
  have hxs := cutA_len l []
  have hck : checkL 6 12 l = (decide ((cutL l).length ≤ 6) && (cutL l).all (partL 12)) := rfl
  rw [hck]
  rw [show cutA [] l = cutL l from rfl] at hne hxs
  have QC := Lib.hid (fun w => qcut_any w l hlen)
  clear hck
  generalize cutL l = xs at *
  obtain ⟨v, hv⟩ : ∃ v : Int, v = if (decide (xs.length ≤ 6) && xs.all (partL 12)) = true then 0 else 2 := ⟨_, rfl⟩
  rw [← hv]
  have HV := Lib.hid hv
  have HX := Lib.hid hxl
  clear hv hxl
  go_enter Tryz.func86, Tryz.ntmps86
  go_wp2_with fail
  refine (QC.out _).mono ?_
  rintro e w1 ⟨A, c, rfl, own, hA, hc⟩
  have OW := Lib.hid own
  have HC := Lib.hid hc
  clear own hA hc
  by_cases h6 : 6 < xs.length
  · have i6 : (6 : Int) < (xs.length : Int) := by omega
    have i7 : ¬ xs.length ≤ 6 := by omega
    go_wp2
    go_ret
    exact ⟨by rw [HV.out]; simp [i7], HC.out⟩
  · have i6 : ¬ ((6 : Int) < (xs.length : Int)) := by omega
    have i7 : xs.length ≤ 6 := by omega
    go_wp2
    go_loopw [4] (fun v4 wr => ∃ k : Nat, k ≤ xs.length ∧ v4 = .int .i64 (k : Int) ∧ Hid ((xs.take k).all (partL 12) = true) ∧ Hid (Chg [] w1 wr)) (fun v4 _ => xs.length - (RowKit.intOf v4).toNat)
    case atStart => exact ⟨0, Nat.zero_le _, rfl, rfl, Chg.refl _ _⟩
    case round =>
      obtain ⟨k, hk, rfl, HA, HI⟩ := hrel
      by_cases hlt : k < xs.length
      · obtain ⟨g, o, eA, _⟩ := OW.out.reads.line (by omega)
        subst eA
        have ex := List.getElem?_eq_getElem hlt
        have z := textCells (OW.out.reads.chg HI.out (by simp)) ex
        have HB := Lib.hid (fun h => all_bad (xs := xs) hlt h)
        have HL := Lib.hid (HX.out xs[k] (List.getElem_mem hlt))
        have HT := Lib.hid (List.take_succ_eq_append_getElem hlt)
        generalize xs[k] = x at *
        have i0 : (0 : Int) ≤ (k : Int) := by omega
        have i1 : (k : Int) < (xs.length : Int) := by omega
        have k1 : IntKind.i64.wrap ((k : Int) + 1) = (k : Int) + 1 := IntWalk.i64_in _ (by omega)
        clear ex
        cases hp : partL 12 x with
        | false =>
          have HP := Lib.hid (fun w => hp ▸ qpart_any w x (by have := HL.out; omega))
          have HF := Lib.hid (HB.out hp)
          clear hp
          go_wp2_with fail
          refine (HP.out _).mono ?_
          rintro e w3 ⟨rfl, rfl⟩
          go_wp2
          go_ret
          exact ⟨by rw [HV.out, HF.out]; simp, HC.out.trans HI.out⟩
        | true =>
          have HP := Lib.hid (fun w => hp ▸ qpart_any w x (by have := HL.out; omega))
          have HQ := Lib.hid hp
          clear hp
          go_wp2_with fail
          refine (HP.out _).mono ?_
          rintro e w3 ⟨rfl, rfl⟩
          go_wp2
          exact ⟨⟨k + 1, by omega, by simp, Lib.hid (by rw [HT.out, List.all_append, HA.out]; simp [HQ.out]), HI⟩, by simp [RowKit.intOf]; omega⟩
      · obtain rfl : k = xs.length := by omega
        go_wp2
        go_ret
        exact ⟨by have := HA.out; rw [List.take_length] at this; rw [HV.out, this]; simp [i7], HC.out.trans HI.out⟩
end
section
open Go.RowKit
set_option linter.unusedSimpArgs false
set_option linter.unusedVariables false
def okP (l : List UInt8) : Bool := checkL 6 12 l
def underL (a b : List UInt8) : Bool := okP a && okP b && (a ++ [47]).isPrefixOf b
theorem isPath_any (w : World) (l : List UInt8) (hlen : l.length ≤ 140737488351232) :
    Calls Tryz.prog 63 #[.string (strOf l)] w fun e w' => e = .returned (.bool (okP l)) ∧ Below w.heap.size w w' := by
  obtain ⟨p, hp⟩ : ∃ p, okP l = p := ⟨_, rfl⟩
  have HC := Lib.hid (fun w => phcheck_any w l hlen)
  rw [show checkL 6 12 l = p from hp] at HC
  rw [hp]
  go_enter Tryz.func63, Tryz.ntmps63
  go_wp2_with fail
  refine (HC.out _).mono ?_
  rintro e w1 ⟨rfl, hb⟩
  cases p
  · go_wp2
    go_ret
    exact ⟨rfl, hb⟩
  · go_wp2
    go_ret
    exact ⟨rfl, hb⟩
theorem cutPrefix_any (w : World) (a b : List UInt8) : Calls Tryz.prog 101 #[.string (strOf b), .string (strOf a)] w fun e w' => e = .returned (.tuple #[.string (strOf (Lib.trimPrefix b a)), .bool (a.isPrefixOf b)]) ∧ w' = w := by
  refine (Any.strings_CutPrefix Tryz.lays103 (strOf b) (strOf a) w).mono ?_
  rintro e w' ⟨rfl, rfl⟩
  rw [strOf_data, strOf_data]
  exact ⟨rfl, rfl⟩
theorem hasSlash_any (w : World) (b : List UInt8) : Calls Tryz.prog 102 #[.string (strOf b), .string ⟨#[47]⟩] w fun e w' => e = .returned (.bool ([47].isPrefixOf b)) ∧ w' = w := by
  refine (Any.strings_HasPrefix Tryz.lays99 (strOf b) ⟨#[47]⟩ w).mono ?_
  rintro e w' ⟨rfl, rfl⟩
  rw [strOf_data]
  exact ⟨rfl, rfl⟩
theorem prefix_slash (a b : List UInt8) : (a ++ [47]).isPrefixOf b = (a.isPrefixOf b && [47].isPrefixOf (Lib.trimPrefix b a)) := by
  unfold Lib.trimPrefix Lib.hasPrefix
  rw [Bool.eq_iff_iff]
  simp only [List.isPrefixOf_iff_prefix, Bool.and_eq_true]
  constructor
  · rintro ⟨t, rfl⟩
    have : a <+: a ++ [47] ++ t := ⟨[47] ++ t, by simp⟩
    refine ⟨this, ?_⟩
    rw [if_pos this]
    exact ⟨t, by simp⟩
  · rintro ⟨h, h2⟩
    rw [if_pos h] at h2
    obtain ⟨t, rfl⟩ := h
    obtain ⟨u, hu⟩ := h2
    rw [List.drop_left] at hu
    exact ⟨u, by rw [← hu]; simp⟩
set_option maxHeartbeats 1000000 in
theorem phunder_any (w : World) (a b : List UInt8) (ha : a.length ≤ 140737488351232) (hb : b.length ≤ 140737488351232) :
    Calls Tryz.prog 64 #[.string (strOf a), .string (strOf b)] w fun e w' => e = .returned (.bool (underL a b)) ∧ Below w.heap.size w w' := by
  have hu : underL a b = (a.isPrefixOf b && [47].isPrefixOf (Lib.trimPrefix b a) && okP a && okP b) := by
    unfold underL
    rw [prefix_slash]
    cases okP a <;> cases okP b <;> simp
  rw [hu]
  have C1 := Lib.hid (fun w => cutPrefix_any w a b)
  have C2 := Lib.hid (fun w => hasSlash_any w (Lib.trimPrefix b a))
  have C3 := Lib.hid (fun w => isPath_any w a ha)
  have C4 := Lib.hid (fun w => isPath_any w b hb)
  clear hu
  generalize Lib.trimPrefix b a = r at *
  generalize a.isPrefixOf b = p1 at *
  generalize [47].isPrefixOf r = p2 at *
  generalize okP a = p3 at *
  generalize okP b = p4 at *
  cases p1
  · go_enter Tryz.func64, Tryz.ntmps64
    go_wp2_with fail
    refine (C1.out _).mono ?_
    rintro e w1 ⟨rfl, rfl⟩
    go_wp2
    go_ret
    exact ⟨rfl, Below.refl _ _⟩
  cases p2
  · go_enter Tryz.func64, Tryz.ntmps64
    go_wp2_with fail
    refine (C1.out _).mono ?_
    rintro e w1 ⟨rfl, rfl⟩
    go_wp2_with fail
    refine (C2.out _).mono ?_
    rintro e w1 ⟨rfl, rfl⟩
    go_wp2
    go_ret
    exact ⟨rfl, Below.refl _ _⟩
  cases p3
  · go_enter Tryz.func64, Tryz.ntmps64
    go_wp2_with fail
    refine (C1.out _).mono ?_
    rintro e w1 ⟨rfl, rfl⟩
    go_wp2_with fail
    refine (C2.out _).mono ?_
    rintro e w1 ⟨rfl, rfl⟩
    go_wp2_with fail
    refine (C3.out _).mono ?_
    rintro e w2 ⟨rfl, hb⟩
    go_wp2
    go_ret
    exact ⟨rfl, hb⟩
  · go_enter Tryz.func64, Tryz.ntmps64
    go_wp2_with fail
    refine (C1.out _).mono ?_
    rintro e w1 ⟨rfl, rfl⟩
    go_wp2_with fail
    refine (C2.out _).mono ?_
    rintro e w1 ⟨rfl, rfl⟩
    go_wp2_with fail
    refine (C3.out _).mono ?_
    rintro e w2 ⟨rfl, hb2⟩
    go_wp2_with fail
    refine (C4.out _).mono ?_
    rintro e w3 ⟨rfl, hb3⟩
    go_wp2
    go_ret
    exact ⟨by simp, hb2.trans ⟨hb3.os, hb3.tape, hb3.output, hb3.size, fun k hk => hb3.block k (Nat.lt_of_lt_of_le hk hb2.size)⟩⟩
end
section
open Go.RowKit Go.Lib
set_option linter.unusedSimpArgs false
set_option linter.unusedVariables false

/-- Unlike things of one path? -/
def unlikeP (a b : EvP) : Bool := decide (a.p = b.p) && !sameX a.k a.m a.b b.k b.m b.b
/-- Is something to be under a path that is to be no Dir? -/
def hidesP (u l : EvP) : Bool := decide (u.k ≠ 2) && decide (l.k ≠ 3) && underL u.p l.p
def dotP (a b : EvP) : Bool := decide (a.n = b.n ∧ a.s = b.s)
/-- Of events that may be. -/
def clash0 (a b : EvP) : Bool := !dotP a b && (unlikeP a b || hidesP a b || hidesP b a) && !aheadP a b && !aheadP b a
def clashP (a b : EvP) : Bool := clash0 a b && decide (chkEv a = 0) && decide (chkEv b = 0)
/-- The document asks for the same, in another order. -/
theorem clash_doc (a b : EvP) : (if chkEv a ≠ 0 ∨ chkEv b ≠ 0 ∨ dotP a b = true ∨ aheadP a b = true ∨ aheadP b a = true then false else unlikeP a b || hidesP a b || hidesP b a) = clashP a b := by
  unfold clashP clash0
  by_cases h1 : chkEv a = 0 <;> by_cases h2 : chkEv b = 0 <;> cases h3 : dotP a b <;> cases h4 : aheadP a b <;> cases h5 : aheadP b a <;> simp [h1, h2, h3, h4, h5]
theorem clash_no {a b : EvP} (h : aheadP a b = true) : clashP a b = false := by
  unfold clashP clash0
  simp [h]
end
section
open Go.RowKit Go.Lib
set_option linter.unusedSimpArgs false
set_option linter.unusedVariables false


theorem strOf_list (l : List UInt8) : (strOf l).toList = l := by rw [ByteArray.toList_eq]; rfl
theorem strOf_ne3 {a b : List UInt8} (h : a ≠ b) : ¬ (strOf a).toList = (strOf b).toList := by rw [strOf_list, strOf_list]; exact h
set_option maxRecDepth 100000 in
set_option maxHeartbeats 16000000 in
theorem clunlike_any (w : World) (x y : EvT) (e f : EvP) (hx : EvR w x e) (hy : EvR w y f) (hs : EvSm e) (ht : EvSm f) :
    Calls Tryz.prog 83 #[.agg #[.int .i64 x.n, .int .i64 x.s, .string x.p, .int .i64 x.k, .int .i64 x.m, .slice x.A x.l x.c, .slice x.B x.bl x.bc], .agg #[.int .i64 y.n, .int .i64 y.s, .string y.p, .int .i64 y.k, .int .i64 y.m, .slice y.A y.l y.c, .slice y.B y.bl y.bc]] w fun r w' => r = .returned (.bool (unlikeP e f)) ∧ Chg [] w w' := by
  obtain ⟨w2, hw, hc, b0, b1⟩ := news2 w (.cells #[.int .i64 x.n, .int .i64 x.s, .string x.p, .int .i64 x.k, .int .i64 x.m, .slice x.A x.l x.c, .slice x.B x.bl x.bc] 29) (.cells #[.int .i64 y.n, .int .i64 y.s, .string y.p, .int .i64 y.k, .int .i64 y.m, .slice y.A y.l y.c, .slice y.B y.bl y.bc] 29)
  have W2 := Lib.hid hw
  have C := Lib.hid hc
  have HX := Lib.hid (hx.chg hc)
  have HY := Lib.hid (hy.chg hc)
  have HS := Lib.hid hs
  have HT := Lib.hid ht
  have B0 := Lib.hid b0
  have B1 := Lib.hid b1
  generalize hv : unlikeP e f = v
  have HV := Lib.hid hv
  clear hv hw hc hx hy hs ht b0 b1
  go_enter Tryz.func83, Tryz.ntmps83
  go_upto_region 1 with fail
  rw [← W2.out]
  generalize w.heap.size + 1 = g1 at *
  generalize w.heap.size = g0 at *
  clear W2
  have XP : Hid (x.p = strOf e.p ∧ y.p = strOf f.p) := Lib.hid ⟨HX.out.p, HY.out.p⟩
  have KX : Hid (sameX x.k x.m e.b y.k y.m f.b = sameX e.k e.m e.b f.k f.m f.b) := Lib.hid (by rw [HX.out.k, HX.out.m, HY.out.k, HY.out.m])
  by_cases hp : e.p = f.p
  · skip
    have e1 : ((x.p == y.p) : Bool) = true := by rw [XP.out.1, XP.out.2, hp]; show ((f.p.toArray == f.p.toArray) : Bool) = true; simp
    have e3 : x.p.toList = y.p.toList := by rw [XP.out.1, XP.out.2, hp]
    replace hp := Lib.hid hp
    have z0 := cell_of B0.out 0
    have z1 := cell_of B0.out 1
    have z2 := cell_of B0.out 2
    have z3 := cell_of B0.out 3
    have z4 := cell_of B0.out 4
    have z5 := cell_of B0.out 5
    have z6 := cell_of B0.out 6
    have y0 := cell_of B1.out 0
    have y1 := cell_of B1.out 1
    have y2 := cell_of B1.out 2
    have y3 := cell_of B1.out 3
    have y4 := cell_of B1.out 4
    have y5 := cell_of B1.out 5
    have y6 := cell_of B1.out 6
    simp only [List.getElem?_toArray, List.getElem?_cons_succ, List.getElem?_cons_zero] at z0 y0 z1 y1 z2 y2 z3 y3 z4 y4 z5 y5 z6 y6
    go_wp2_with fail
    refine ((esamex_any w2 x.k x.m y.k y.m x.A y.A x.l x.c y.l y.c e.b f.b HX.out.A HY.out.A).mono (fun r w' h => (show r = .returned (.bool (sameX e.k e.m e.b f.k f.m f.b)) ∧ Chg [] _ w' from ⟨by rw [h.1, KX.out], h.2⟩))).mono ?_
    rintro r w3 ⟨rfl, hc⟩
    clear z0 y0 z1 y1 z2 y2 z3 y3 z4 y4 z5 y5 z6 y6
    replace C := Lib.hid (C.out.trans hc)
    replace HX := Lib.hid (HX.out.chg hc)
    replace HY := Lib.hid (HY.out.chg hc)
    replace B0 := Lib.hid (hc.at_ B0.out (by simp))
    replace B1 := Lib.hid (hc.at_ B1.out (by simp))
    clear hc
    rcases hsame : sameX e.k e.m e.b f.k f.m f.b with _ | _
    · skip
      replace hsame := Lib.hid hsame
      obtain rfl : v = true := by rw [← HV.out]; unfold unlikeP; simp [hsame.out, hp.out]
      have z0 := cell_of B0.out 0
      have z1 := cell_of B0.out 1
      have z2 := cell_of B0.out 2
      have z3 := cell_of B0.out 3
      have z4 := cell_of B0.out 4
      have z5 := cell_of B0.out 5
      have z6 := cell_of B0.out 6
      have y0 := cell_of B1.out 0
      have y1 := cell_of B1.out 1
      have y2 := cell_of B1.out 2
      have y3 := cell_of B1.out 3
      have y4 := cell_of B1.out 4
      have y5 := cell_of B1.out 5
      have y6 := cell_of B1.out 6
      simp only [List.getElem?_toArray, List.getElem?_cons_succ, List.getElem?_cons_zero] at z0 y0 z1 y1 z2 y2 z3 y3 z4 y4 z5 y5 z6 y6
      go_wp2
      go_ret
      exact ⟨rfl, C.out⟩
    · skip
      replace hsame := Lib.hid hsame
      obtain rfl : v = false := by rw [← HV.out]; unfold unlikeP; simp [hsame.out, hp.out]
      have z0 := cell_of B0.out 0
      have z1 := cell_of B0.out 1
      have z2 := cell_of B0.out 2
      have z3 := cell_of B0.out 3
      have z4 := cell_of B0.out 4
      have z5 := cell_of B0.out 5
      have z6 := cell_of B0.out 6
      have y0 := cell_of B1.out 0
      have y1 := cell_of B1.out 1
      have y2 := cell_of B1.out 2
      have y3 := cell_of B1.out 3
      have y4 := cell_of B1.out 4
      have y5 := cell_of B1.out 5
      have y6 := cell_of B1.out 6
      simp only [List.getElem?_toArray, List.getElem?_cons_succ, List.getElem?_cons_zero] at z0 y0 z1 y1 z2 y2 z3 y3 z4 y4 z5 y5 z6 y6
      go_wp2
      go_ret
      exact ⟨rfl, C.out⟩
  · skip
    have e1 : ((x.p == y.p) : Bool) = false := by rw [XP.out.1, XP.out.2]; exact strOf_ne hp
    have e2 : ¬ x.p = y.p := by rw [XP.out.1, XP.out.2]; exact strOf_ne2 hp
    have e3 : ¬ x.p.toList = y.p.toList := by rw [XP.out.1, XP.out.2]; exact strOf_ne3 hp
    replace hp := Lib.hid hp
    obtain rfl : v = false := by rw [← HV.out]; unfold unlikeP; simp [hp.out]
    have z0 := cell_of B0.out 0
    have z1 := cell_of B0.out 1
    have z2 := cell_of B0.out 2
    have z3 := cell_of B0.out 3
    have z4 := cell_of B0.out 4
    have z5 := cell_of B0.out 5
    have z6 := cell_of B0.out 6
    have y0 := cell_of B1.out 0
    have y1 := cell_of B1.out 1
    have y2 := cell_of B1.out 2
    have y3 := cell_of B1.out 3
    have y4 := cell_of B1.out 4
    have y5 := cell_of B1.out 5
    have y6 := cell_of B1.out 6
    simp only [List.getElem?_toArray, List.getElem?_cons_succ, List.getElem?_cons_zero] at z0 y0 z1 y1 z2 y2 z3 y3 z4 y4 z5 y5 z6 y6
    go_wp2
    go_ret
    exact ⟨rfl, C.out⟩
end
section
open Go.RowKit Go.Lib
set_option linter.unusedSimpArgs false
set_option linter.unusedVariables false


set_option maxRecDepth 100000 in
set_option maxHeartbeats 16000000 in
theorem clhides_any (w : World) (x y : EvT) (e f : EvP) (hx : EvR w x e) (hy : EvR w y f) (hs : EvSm e) (ht : EvSm f) :
    Calls Tryz.prog 84 #[.agg #[.int .i64 x.n, .int .i64 x.s, .string x.p, .int .i64 x.k, .int .i64 x.m, .slice x.A x.l x.c, .slice x.B x.bl x.bc], .agg #[.int .i64 y.n, .int .i64 y.s, .string y.p, .int .i64 y.k, .int .i64 y.m, .slice y.A y.l y.c, .slice y.B y.bl y.bc]] w fun r w' => r = .returned (.bool (hidesP e f)) ∧ Chg [] w w' := by
  obtain ⟨w2, hw, hc, b0, b1⟩ := news2 w (.cells #[.int .i64 x.n, .int .i64 x.s, .string x.p, .int .i64 x.k, .int .i64 x.m, .slice x.A x.l x.c, .slice x.B x.bl x.bc] 29) (.cells #[.int .i64 y.n, .int .i64 y.s, .string y.p, .int .i64 y.k, .int .i64 y.m, .slice y.A y.l y.c, .slice y.B y.bl y.bc] 29)
  have W2 := Lib.hid hw
  have C := Lib.hid hc
  have HX := Lib.hid (hx.chg hc)
  have HY := Lib.hid (hy.chg hc)
  have HS := Lib.hid hs
  have HT := Lib.hid ht
  have B0 := Lib.hid b0
  have B1 := Lib.hid b1
  generalize hv : hidesP e f = v
  have HV := Lib.hid hv
  clear hv hw hc hx hy hs ht b0 b1
  go_enter Tryz.func84, Tryz.ntmps84
  go_upto_region 1 with fail
  rw [← W2.out]
  generalize w.heap.size + 1 = g1 at *
  generalize w.heap.size = g0 at *
  clear W2
  have KX : Hid (x.k = e.k ∧ y.k = f.k) := Lib.hid ⟨HX.out.k, HY.out.k⟩
  have UX : Hid (∀ W, Calls Tryz.prog 64 #[.string x.p, .string y.p] W fun r w' => r = .returned (.bool (underL e.p f.p)) ∧ Chg [] W w') := Lib.hid (fun W => by
    rw [HX.out.p, HY.out.p]
    have a := HS.out.1
    have b := HT.out.1
    exact (phunder_any W e.p f.p (by omega) (by omega)).mono fun r w' h => ⟨h.1, below_chg8 h.2⟩)
  by_cases k1 : e.k = 2
  · skip
    have d1 : ((x.k == 2) : Bool) = true := by rw [KX.out.1, k1]; rfl
    have d3 : ((x.k != 2) : Bool) = false := by rw [KX.out.1, k1]; rfl
    replace k1 := Lib.hid k1
    obtain rfl : v = false := by rw [← HV.out]; unfold hidesP; simp [k1.out]
    have z0 := cell_of B0.out 0
    have z1 := cell_of B0.out 1
    have z2 := cell_of B0.out 2
    have z3 := cell_of B0.out 3
    have z4 := cell_of B0.out 4
    have z5 := cell_of B0.out 5
    have z6 := cell_of B0.out 6
    have y0 := cell_of B1.out 0
    have y1 := cell_of B1.out 1
    have y2 := cell_of B1.out 2
    have y3 := cell_of B1.out 3
    have y4 := cell_of B1.out 4
    have y5 := cell_of B1.out 5
    have y6 := cell_of B1.out 6
    simp only [List.getElem?_toArray, List.getElem?_cons_succ, List.getElem?_cons_zero] at z0 y0 z1 y1 z2 y2 z3 y3 z4 y4 z5 y5 z6 y6
    go_wp2
    go_ret
    exact ⟨rfl, C.out⟩
  · skip
    have d1 : ((x.k == 2) : Bool) = false := by rw [KX.out.1]; exact beq_eq_false_iff_ne.2 k1
    have d3 : ((x.k != 2) : Bool) = true := by rw [KX.out.1]; exact bne_iff_ne.2 k1
    have d5 : ¬ x.k = 2 := by rw [KX.out.1]; exact k1
    replace k1 := Lib.hid k1
    by_cases k2 : f.k = 3
    · skip
      have d2 : ((y.k == 3) : Bool) = true := by rw [KX.out.2, k2]; rfl
      have d4 : ((y.k != 3) : Bool) = false := by rw [KX.out.2, k2]; rfl
      replace k2 := Lib.hid k2
      obtain rfl : v = false := by rw [← HV.out]; unfold hidesP; simp [k1.out, k2.out]
      have z0 := cell_of B0.out 0
      have z1 := cell_of B0.out 1
      have z2 := cell_of B0.out 2
      have z3 := cell_of B0.out 3
      have z4 := cell_of B0.out 4
      have z5 := cell_of B0.out 5
      have z6 := cell_of B0.out 6
      have y0 := cell_of B1.out 0
      have y1 := cell_of B1.out 1
      have y2 := cell_of B1.out 2
      have y3 := cell_of B1.out 3
      have y4 := cell_of B1.out 4
      have y5 := cell_of B1.out 5
      have y6 := cell_of B1.out 6
      simp only [List.getElem?_toArray, List.getElem?_cons_succ, List.getElem?_cons_zero] at z0 y0 z1 y1 z2 y2 z3 y3 z4 y4 z5 y5 z6 y6
      go_wp2
      go_ret
      exact ⟨rfl, C.out⟩
    · skip
      have d2 : ((y.k == 3) : Bool) = false := by rw [KX.out.2]; exact beq_eq_false_iff_ne.2 k2
      have d4 : ((y.k != 3) : Bool) = true := by rw [KX.out.2]; exact bne_iff_ne.2 k2
      have d6 : ¬ y.k = 3 := by rw [KX.out.2]; exact k2
      replace k2 := Lib.hid k2
      have z0 := cell_of B0.out 0
      have z1 := cell_of B0.out 1
      have z2 := cell_of B0.out 2
      have z3 := cell_of B0.out 3
      have z4 := cell_of B0.out 4
      have z5 := cell_of B0.out 5
      have z6 := cell_of B0.out 6
      have y0 := cell_of B1.out 0
      have y1 := cell_of B1.out 1
      have y2 := cell_of B1.out 2
      have y3 := cell_of B1.out 3
      have y4 := cell_of B1.out 4
      have y5 := cell_of B1.out 5
      have y6 := cell_of B1.out 6
      simp only [List.getElem?_toArray, List.getElem?_cons_succ, List.getElem?_cons_zero] at z0 y0 z1 y1 z2 y2 z3 y3 z4 y4 z5 y5 z6 y6
      go_wp2_with fail
      refine (UX.out w2).mono ?_
      rintro r w3 ⟨rfl, hc⟩
      clear z0 y0 z1 y1 z2 y2 z3 y3 z4 y4 z5 y5 z6 y6
      replace C := Lib.hid (C.out.trans hc)
      replace HX := Lib.hid (HX.out.chg hc)
      replace HY := Lib.hid (HY.out.chg hc)
      replace B0 := Lib.hid (hc.at_ B0.out (by simp))
      replace B1 := Lib.hid (hc.at_ B1.out (by simp))
      clear hc
      rcases hu : underL e.p f.p with _ | _
      · skip
        replace hu := Lib.hid hu
        obtain rfl : v = false := by rw [← HV.out]; unfold hidesP; simp [hu.out, k1.out, k2.out]
        have z0 := cell_of B0.out 0
        have z1 := cell_of B0.out 1
        have z2 := cell_of B0.out 2
        have z3 := cell_of B0.out 3
        have z4 := cell_of B0.out 4
        have z5 := cell_of B0.out 5
        have z6 := cell_of B0.out 6
        have y0 := cell_of B1.out 0
        have y1 := cell_of B1.out 1
        have y2 := cell_of B1.out 2
        have y3 := cell_of B1.out 3
        have y4 := cell_of B1.out 4
        have y5 := cell_of B1.out 5
        have y6 := cell_of B1.out 6
        simp only [List.getElem?_toArray, List.getElem?_cons_succ, List.getElem?_cons_zero] at z0 y0 z1 y1 z2 y2 z3 y3 z4 y4 z5 y5 z6 y6
        go_wp2
        go_ret
        exact ⟨rfl, C.out⟩
      · skip
        replace hu := Lib.hid hu
        obtain rfl : v = true := by rw [← HV.out]; unfold hidesP; simp [hu.out, k1.out, k2.out]
        have z0 := cell_of B0.out 0
        have z1 := cell_of B0.out 1
        have z2 := cell_of B0.out 2
        have z3 := cell_of B0.out 3
        have z4 := cell_of B0.out 4
        have z5 := cell_of B0.out 5
        have z6 := cell_of B0.out 6
        have y0 := cell_of B1.out 0
        have y1 := cell_of B1.out 1
        have y2 := cell_of B1.out 2
        have y3 := cell_of B1.out 3
        have y4 := cell_of B1.out 4
        have y5 := cell_of B1.out 5
        have y6 := cell_of B1.out 6
        simp only [List.getElem?_toArray, List.getElem?_cons_succ, List.getElem?_cons_zero] at z0 y0 z1 y1 z2 y2 z3 y3 z4 y4 z5 y5 z6 y6
        go_wp2
        go_ret
        exact ⟨rfl, C.out⟩
end
section
open Go.RowKit Go.Lib
set_option linter.unusedSimpArgs false
set_option linter.unusedVariables false


set_option maxRecDepth 100000 in
set_option maxHeartbeats 16000000 in
theorem clclash_any (w : World) (x y : EvT) (e f : EvP) (hx : EvR w x e) (hy : EvR w y f) (hs : EvSm e) (ht : EvSm f) :
    Calls Tryz.prog 47 #[.agg #[.int .i64 x.n, .int .i64 x.s, .string x.p, .int .i64 x.k, .int .i64 x.m, .slice x.A x.l x.c, .slice x.B x.bl x.bc], .agg #[.int .i64 y.n, .int .i64 y.s, .string y.p, .int .i64 y.k, .int .i64 y.m, .slice y.A y.l y.c, .slice y.B y.bl y.bc]] w fun r w' => r = .returned (.bool (clash0 e f)) ∧ Chg [] w w' := by
  obtain ⟨w2, hw, hc, b0, b1⟩ := news2 w (.cells #[.int .i64 x.n, .int .i64 x.s, .string x.p, .int .i64 x.k, .int .i64 x.m, .slice x.A x.l x.c, .slice x.B x.bl x.bc] 29) (.cells #[.int .i64 y.n, .int .i64 y.s, .string y.p, .int .i64 y.k, .int .i64 y.m, .slice y.A y.l y.c, .slice y.B y.bl y.bc] 29)
  have W2 := Lib.hid hw
  have C := Lib.hid hc
  have HX := Lib.hid (hx.chg hc)
  have HY := Lib.hid (hy.chg hc)
  have HS := Lib.hid hs
  have HT := Lib.hid ht
  have B0 := Lib.hid b0
  have B1 := Lib.hid b1
  generalize hv : clash0 e f = v
  have HV := Lib.hid hv
  clear hv hw hc hx hy hs ht b0 b1
  go_enter Tryz.func47, Tryz.ntmps47
  go_upto_region 1 with fail
  rw [← W2.out]
  generalize w.heap.size + 1 = g1 at *
  generalize w.heap.size = g0 at *
  clear W2
  rcases hd : dotP e f with _ | _
  · skip
    have q : ¬ (e.n = f.n ∧ e.s = f.s) := of_decide_eq_false hd
    replace hd := Lib.hid hd
    by_cases q1 : e.n = f.n
    · skip
      have q2 : ¬ e.s = f.s := fun h => q ⟨q1, h⟩
      have d1 : ((x.n == y.n) : Bool) = true := by rw [HX.out.n, HY.out.n, q1]; exact beq_self_eq_true _
      have d2 : ((x.s == y.s) : Bool) = false := by rw [HX.out.s, HY.out.s]; exact beq_eq_false_iff_ne.2 q2
      have d3 : ¬ x.s = y.s := by rw [HX.out.s, HY.out.s]; exact q2
      clear q q1 q2
      have z0 := cell_of B0.out 0
      have z1 := cell_of B0.out 1
      have z2 := cell_of B0.out 2
      have z3 := cell_of B0.out 3
      have z4 := cell_of B0.out 4
      have z5 := cell_of B0.out 5
      have z6 := cell_of B0.out 6
      have y0 := cell_of B1.out 0
      have y1 := cell_of B1.out 1
      have y2 := cell_of B1.out 2
      have y3 := cell_of B1.out 3
      have y4 := cell_of B1.out 4
      have y5 := cell_of B1.out 5
      have y6 := cell_of B1.out 6
      simp only [List.getElem?_toArray, List.getElem?_cons_succ, List.getElem?_cons_zero] at z0 y0 z1 y1 z2 y2 z3 y3 z4 y4 z5 y5 z6 y6
      go_wp2_with fail
      refine (clunlike_any w2 x y e f HX.out HY.out HS.out HT.out).mono ?_
      rintro r w3 ⟨rfl, hc⟩
      clear z0 y0 z1 y1 z2 y2 z3 y3 z4 y4 z5 y5 z6 y6
      replace C := Lib.hid (C.out.trans hc)
      replace HX := Lib.hid (HX.out.chg hc)
      replace HY := Lib.hid (HY.out.chg hc)
      replace B0 := Lib.hid (hc.at_ B0.out (by simp))
      replace B1 := Lib.hid (hc.at_ B1.out (by simp))
      clear hc
      rcases hun : unlikeP e f with _ | _
      · skip
        replace hun := Lib.hid hun
        have z0 := cell_of B0.out 0
        have z1 := cell_of B0.out 1
        have z2 := cell_of B0.out 2
        have z3 := cell_of B0.out 3
        have z4 := cell_of B0.out 4
        have z5 := cell_of B0.out 5
        have z6 := cell_of B0.out 6
        have y0 := cell_of B1.out 0
        have y1 := cell_of B1.out 1
        have y2 := cell_of B1.out 2
        have y3 := cell_of B1.out 3
        have y4 := cell_of B1.out 4
        have y5 := cell_of B1.out 5
        have y6 := cell_of B1.out 6
        simp only [List.getElem?_toArray, List.getElem?_cons_succ, List.getElem?_cons_zero] at z0 y0 z1 y1 z2 y2 z3 y3 z4 y4 z5 y5 z6 y6
        go_wp2_with fail
        refine (clhides_any w3 x y e f HX.out HY.out HS.out HT.out).mono ?_
        rintro r w4 ⟨rfl, hc⟩
        clear z0 y0 z1 y1 z2 y2 z3 y3 z4 y4 z5 y5 z6 y6
        replace C := Lib.hid (C.out.trans hc)
        replace HX := Lib.hid (HX.out.chg hc)
        replace HY := Lib.hid (HY.out.chg hc)
        replace B0 := Lib.hid (hc.at_ B0.out (by simp))
        replace B1 := Lib.hid (hc.at_ B1.out (by simp))
        clear hc
        rcases hh1 : hidesP e f with _ | _
        · skip
          replace hh1 := Lib.hid hh1
          have z0 := cell_of B0.out 0
          have z1 := cell_of B0.out 1
          have z2 := cell_of B0.out 2
          have z3 := cell_of B0.out 3
          have z4 := cell_of B0.out 4
          have z5 := cell_of B0.out 5
          have z6 := cell_of B0.out 6
          have y0 := cell_of B1.out 0
          have y1 := cell_of B1.out 1
          have y2 := cell_of B1.out 2
          have y3 := cell_of B1.out 3
          have y4 := cell_of B1.out 4
          have y5 := cell_of B1.out 5
          have y6 := cell_of B1.out 6
          simp only [List.getElem?_toArray, List.getElem?_cons_succ, List.getElem?_cons_zero] at z0 y0 z1 y1 z2 y2 z3 y3 z4 y4 z5 y5 z6 y6
          go_wp2_with fail
          refine (clhides_any w4 y x f e HY.out HX.out HT.out HS.out).mono ?_
          rintro r w5 ⟨rfl, hc⟩
          clear z0 y0 z1 y1 z2 y2 z3 y3 z4 y4 z5 y5 z6 y6
          replace C := Lib.hid (C.out.trans hc)
          replace HX := Lib.hid (HX.out.chg hc)
          replace HY := Lib.hid (HY.out.chg hc)
          replace B0 := Lib.hid (hc.at_ B0.out (by simp))
          replace B1 := Lib.hid (hc.at_ B1.out (by simp))
          clear hc
          rcases hh2 : hidesP f e with _ | _
          · skip
            replace hh2 := Lib.hid hh2
            obtain rfl : v = false := by rw [← HV.out]; unfold clash0; simp [hun.out, hh1.out, hh2.out, hd.out]
            have z0 := cell_of B0.out 0
            have z1 := cell_of B0.out 1
            have z2 := cell_of B0.out 2
            have z3 := cell_of B0.out 3
            have z4 := cell_of B0.out 4
            have z5 := cell_of B0.out 5
            have z6 := cell_of B0.out 6
            have y0 := cell_of B1.out 0
            have y1 := cell_of B1.out 1
            have y2 := cell_of B1.out 2
            have y3 := cell_of B1.out 3
            have y4 := cell_of B1.out 4
            have y5 := cell_of B1.out 5
            have y6 := cell_of B1.out 6
            simp only [List.getElem?_toArray, List.getElem?_cons_succ, List.getElem?_cons_zero] at z0 y0 z1 y1 z2 y2 z3 y3 z4 y4 z5 y5 z6 y6
            go_wp2
            go_ret
            exact ⟨rfl, C.out⟩
          · skip
            replace hh2 := Lib.hid hh2
            have z0 := cell_of B0.out 0
            have z1 := cell_of B0.out 1
            have z2 := cell_of B0.out 2
            have z3 := cell_of B0.out 3
            have z4 := cell_of B0.out 4
            have z5 := cell_of B0.out 5
            have z6 := cell_of B0.out 6
            have y0 := cell_of B1.out 0
            have y1 := cell_of B1.out 1
            have y2 := cell_of B1.out 2
            have y3 := cell_of B1.out 3
            have y4 := cell_of B1.out 4
            have y5 := cell_of B1.out 5
            have y6 := cell_of B1.out 6
            simp only [List.getElem?_toArray, List.getElem?_cons_succ, List.getElem?_cons_zero] at z0 y0 z1 y1 z2 y2 z3 y3 z4 y4 z5 y5 z6 y6
            go_wp2_with fail
            refine (evahead_any w5 x y e f HX.out HY.out HS.out HT.out).mono ?_
            rintro r w6 ⟨rfl, hc⟩
            clear z0 y0 z1 y1 z2 y2 z3 y3 z4 y4 z5 y5 z6 y6
            replace C := Lib.hid (C.out.trans hc)
            replace HX := Lib.hid (HX.out.chg hc)
            replace HY := Lib.hid (HY.out.chg hc)
            replace B0 := Lib.hid (hc.at_ B0.out (by simp))
            replace B1 := Lib.hid (hc.at_ B1.out (by simp))
            clear hc
            rcases ha1 : aheadP e f with _ | _
            · skip
              replace ha1 := Lib.hid ha1
              have z0 := cell_of B0.out 0
              have z1 := cell_of B0.out 1
              have z2 := cell_of B0.out 2
              have z3 := cell_of B0.out 3
              have z4 := cell_of B0.out 4
              have z5 := cell_of B0.out 5
              have z6 := cell_of B0.out 6
              have y0 := cell_of B1.out 0
              have y1 := cell_of B1.out 1
              have y2 := cell_of B1.out 2
              have y3 := cell_of B1.out 3
              have y4 := cell_of B1.out 4
              have y5 := cell_of B1.out 5
              have y6 := cell_of B1.out 6
              simp only [List.getElem?_toArray, List.getElem?_cons_succ, List.getElem?_cons_zero] at z0 y0 z1 y1 z2 y2 z3 y3 z4 y4 z5 y5 z6 y6
              go_wp2_with fail
              refine (evahead_any w6 y x f e HY.out HX.out HT.out HS.out).mono ?_
              rintro r w7 ⟨rfl, hc⟩
              clear z0 y0 z1 y1 z2 y2 z3 y3 z4 y4 z5 y5 z6 y6
              replace C := Lib.hid (C.out.trans hc)
              replace HX := Lib.hid (HX.out.chg hc)
              replace HY := Lib.hid (HY.out.chg hc)
              replace B0 := Lib.hid (hc.at_ B0.out (by simp))
              replace B1 := Lib.hid (hc.at_ B1.out (by simp))
              clear hc
              rcases ha2 : aheadP f e with _ | _
              · skip
                replace ha2 := Lib.hid ha2
                obtain rfl : v = true := by rw [← HV.out]; unfold clash0; simp [hun.out, hh1.out, hh2.out, ha1.out, ha2.out, hd.out]
                have z0 := cell_of B0.out 0
                have z1 := cell_of B0.out 1
                have z2 := cell_of B0.out 2
                have z3 := cell_of B0.out 3
                have z4 := cell_of B0.out 4
                have z5 := cell_of B0.out 5
                have z6 := cell_of B0.out 6
                have y0 := cell_of B1.out 0
                have y1 := cell_of B1.out 1
                have y2 := cell_of B1.out 2
                have y3 := cell_of B1.out 3
                have y4 := cell_of B1.out 4
                have y5 := cell_of B1.out 5
                have y6 := cell_of B1.out 6
                simp only [List.getElem?_toArray, List.getElem?_cons_succ, List.getElem?_cons_zero] at z0 y0 z1 y1 z2 y2 z3 y3 z4 y4 z5 y5 z6 y6
                go_wp2
                go_ret
                exact ⟨rfl, C.out⟩
              · skip
                replace ha2 := Lib.hid ha2
                obtain rfl : v = false := by rw [← HV.out]; unfold clash0; simp [hun.out, hh1.out, hh2.out, ha1.out, ha2.out, hd.out]
                have z0 := cell_of B0.out 0
                have z1 := cell_of B0.out 1
                have z2 := cell_of B0.out 2
                have z3 := cell_of B0.out 3
                have z4 := cell_of B0.out 4
                have z5 := cell_of B0.out 5
                have z6 := cell_of B0.out 6
                have y0 := cell_of B1.out 0
                have y1 := cell_of B1.out 1
                have y2 := cell_of B1.out 2
                have y3 := cell_of B1.out 3
                have y4 := cell_of B1.out 4
                have y5 := cell_of B1.out 5
                have y6 := cell_of B1.out 6
                simp only [List.getElem?_toArray, List.getElem?_cons_succ, List.getElem?_cons_zero] at z0 y0 z1 y1 z2 y2 z3 y3 z4 y4 z5 y5 z6 y6
                go_wp2
                go_ret
                exact ⟨rfl, C.out⟩
            · skip
              replace ha1 := Lib.hid ha1
              obtain rfl : v = false := by rw [← HV.out]; unfold clash0; simp [hun.out, hh1.out, hh2.out, ha1.out, hd.out]
              have z0 := cell_of B0.out 0
              have z1 := cell_of B0.out 1
              have z2 := cell_of B0.out 2
              have z3 := cell_of B0.out 3
              have z4 := cell_of B0.out 4
              have z5 := cell_of B0.out 5
              have z6 := cell_of B0.out 6
              have y0 := cell_of B1.out 0
              have y1 := cell_of B1.out 1
              have y2 := cell_of B1.out 2
              have y3 := cell_of B1.out 3
              have y4 := cell_of B1.out 4
              have y5 := cell_of B1.out 5
              have y6 := cell_of B1.out 6
              simp only [List.getElem?_toArray, List.getElem?_cons_succ, List.getElem?_cons_zero] at z0 y0 z1 y1 z2 y2 z3 y3 z4 y4 z5 y5 z6 y6
              go_wp2
              go_ret
              exact ⟨rfl, C.out⟩
        · skip
          replace hh1 := Lib.hid hh1
          have z0 := cell_of B0.out 0
          have z1 := cell_of B0.out 1
          have z2 := cell_of B0.out 2
          have z3 := cell_of B0.out 3
          have z4 := cell_of B0.out 4
          have z5 := cell_of B0.out 5
          have z6 := cell_of B0.out 6
          have y0 := cell_of B1.out 0
          have y1 := cell_of B1.out 1
          have y2 := cell_of B1.out 2
          have y3 := cell_of B1.out 3
          have y4 := cell_of B1.out 4
          have y5 := cell_of B1.out 5
          have y6 := cell_of B1.out 6
          simp only [List.getElem?_toArray, List.getElem?_cons_succ, List.getElem?_cons_zero] at z0 y0 z1 y1 z2 y2 z3 y3 z4 y4 z5 y5 z6 y6
          go_wp2_with fail
          refine (evahead_any w4 x y e f HX.out HY.out HS.out HT.out).mono ?_
          rintro r w8 ⟨rfl, hc⟩
          clear z0 y0 z1 y1 z2 y2 z3 y3 z4 y4 z5 y5 z6 y6
          replace C := Lib.hid (C.out.trans hc)
          replace HX := Lib.hid (HX.out.chg hc)
          replace HY := Lib.hid (HY.out.chg hc)
          replace B0 := Lib.hid (hc.at_ B0.out (by simp))
          replace B1 := Lib.hid (hc.at_ B1.out (by simp))
          clear hc
          rcases ha1 : aheadP e f with _ | _
          · skip
            replace ha1 := Lib.hid ha1
            have z0 := cell_of B0.out 0
            have z1 := cell_of B0.out 1
            have z2 := cell_of B0.out 2
            have z3 := cell_of B0.out 3
            have z4 := cell_of B0.out 4
            have z5 := cell_of B0.out 5
            have z6 := cell_of B0.out 6
            have y0 := cell_of B1.out 0
            have y1 := cell_of B1.out 1
            have y2 := cell_of B1.out 2
            have y3 := cell_of B1.out 3
            have y4 := cell_of B1.out 4
            have y5 := cell_of B1.out 5
            have y6 := cell_of B1.out 6
            simp only [List.getElem?_toArray, List.getElem?_cons_succ, List.getElem?_cons_zero] at z0 y0 z1 y1 z2 y2 z3 y3 z4 y4 z5 y5 z6 y6
            go_wp2_with fail
            refine (evahead_any w8 y x f e HY.out HX.out HT.out HS.out).mono ?_
            rintro r w9 ⟨rfl, hc⟩
            clear z0 y0 z1 y1 z2 y2 z3 y3 z4 y4 z5 y5 z6 y6
            replace C := Lib.hid (C.out.trans hc)
            replace HX := Lib.hid (HX.out.chg hc)
            replace HY := Lib.hid (HY.out.chg hc)
            replace B0 := Lib.hid (hc.at_ B0.out (by simp))
            replace B1 := Lib.hid (hc.at_ B1.out (by simp))
            clear hc
            rcases ha2 : aheadP f e with _ | _
            · skip
              replace ha2 := Lib.hid ha2
              obtain rfl : v = true := by rw [← HV.out]; unfold clash0; simp [hun.out, hh1.out, ha1.out, ha2.out, hd.out]
              have z0 := cell_of B0.out 0
              have z1 := cell_of B0.out 1
              have z2 := cell_of B0.out 2
              have z3 := cell_of B0.out 3
              have z4 := cell_of B0.out 4
              have z5 := cell_of B0.out 5
              have z6 := cell_of B0.out 6
              have y0 := cell_of B1.out 0
              have y1 := cell_of B1.out 1
              have y2 := cell_of B1.out 2
              have y3 := cell_of B1.out 3
              have y4 := cell_of B1.out 4
              have y5 := cell_of B1.out 5
              have y6 := cell_of B1.out 6
              simp only [List.getElem?_toArray, List.getElem?_cons_succ, List.getElem?_cons_zero] at z0 y0 z1 y1 z2 y2 z3 y3 z4 y4 z5 y5 z6 y6
              go_wp2
              go_ret
              exact ⟨rfl, C.out⟩
            · skip
              replace ha2 := Lib.hid ha2
              obtain rfl : v = false := by rw [← HV.out]; unfold clash0; simp [hun.out, hh1.out, ha1.out, ha2.out, hd.out]
              have z0 := cell_of B0.out 0
              have z1 := cell_of B0.out 1
              have z2 := cell_of B0.out 2
              have z3 := cell_of B0.out 3
              have z4 := cell_of B0.out 4
              have z5 := cell_of B0.out 5
              have z6 := cell_of B0.out 6
              have y0 := cell_of B1.out 0
              have y1 := cell_of B1.out 1
              have y2 := cell_of B1.out 2
              have y3 := cell_of B1.out 3
              have y4 := cell_of B1.out 4
              have y5 := cell_of B1.out 5
              have y6 := cell_of B1.out 6
              simp only [List.getElem?_toArray, List.getElem?_cons_succ, List.getElem?_cons_zero] at z0 y0 z1 y1 z2 y2 z3 y3 z4 y4 z5 y5 z6 y6
              go_wp2
              go_ret
              exact ⟨rfl, C.out⟩
          · skip
            replace ha1 := Lib.hid ha1
            obtain rfl : v = false := by rw [← HV.out]; unfold clash0; simp [hun.out, hh1.out, ha1.out, hd.out]
            have z0 := cell_of B0.out 0
            have z1 := cell_of B0.out 1
            have z2 := cell_of B0.out 2
            have z3 := cell_of B0.out 3
            have z4 := cell_of B0.out 4
            have z5 := cell_of B0.out 5
            have z6 := cell_of B0.out 6
            have y0 := cell_of B1.out 0
            have y1 := cell_of B1.out 1
            have y2 := cell_of B1.out 2
            have y3 := cell_of B1.out 3
            have y4 := cell_of B1.out 4
            have y5 := cell_of B1.out 5
            have y6 := cell_of B1.out 6
            simp only [List.getElem?_toArray, List.getElem?_cons_succ, List.getElem?_cons_zero] at z0 y0 z1 y1 z2 y2 z3 y3 z4 y4 z5 y5 z6 y6
            go_wp2
            go_ret
            exact ⟨rfl, C.out⟩
      · skip
        replace hun := Lib.hid hun
        have z0 := cell_of B0.out 0
        have z1 := cell_of B0.out 1
        have z2 := cell_of B0.out 2
        have z3 := cell_of B0.out 3
        have z4 := cell_of B0.out 4
        have z5 := cell_of B0.out 5
        have z6 := cell_of B0.out 6
        have y0 := cell_of B1.out 0
        have y1 := cell_of B1.out 1
        have y2 := cell_of B1.out 2
        have y3 := cell_of B1.out 3
        have y4 := cell_of B1.out 4
        have y5 := cell_of B1.out 5
        have y6 := cell_of B1.out 6
        simp only [List.getElem?_toArray, List.getElem?_cons_succ, List.getElem?_cons_zero] at z0 y0 z1 y1 z2 y2 z3 y3 z4 y4 z5 y5 z6 y6
        go_wp2_with fail
        refine (evahead_any w3 x y e f HX.out HY.out HS.out HT.out).mono ?_
        rintro r w10 ⟨rfl, hc⟩
        clear z0 y0 z1 y1 z2 y2 z3 y3 z4 y4 z5 y5 z6 y6
        replace C := Lib.hid (C.out.trans hc)
        replace HX := Lib.hid (HX.out.chg hc)
        replace HY := Lib.hid (HY.out.chg hc)
        replace B0 := Lib.hid (hc.at_ B0.out (by simp))
        replace B1 := Lib.hid (hc.at_ B1.out (by simp))
        clear hc
        rcases ha1 : aheadP e f with _ | _
        · skip
          replace ha1 := Lib.hid ha1
          have z0 := cell_of B0.out 0
          have z1 := cell_of B0.out 1
          have z2 := cell_of B0.out 2
          have z3 := cell_of B0.out 3
          have z4 := cell_of B0.out 4
          have z5 := cell_of B0.out 5
          have z6 := cell_of B0.out 6
          have y0 := cell_of B1.out 0
          have y1 := cell_of B1.out 1
          have y2 := cell_of B1.out 2
          have y3 := cell_of B1.out 3
          have y4 := cell_of B1.out 4
          have y5 := cell_of B1.out 5
          have y6 := cell_of B1.out 6
          simp only [List.getElem?_toArray, List.getElem?_cons_succ, List.getElem?_cons_zero] at z0 y0 z1 y1 z2 y2 z3 y3 z4 y4 z5 y5 z6 y6
          go_wp2_with fail
          refine (evahead_any w10 y x f e HY.out HX.out HT.out HS.out).mono ?_
          rintro r w11 ⟨rfl, hc⟩
          clear z0 y0 z1 y1 z2 y2 z3 y3 z4 y4 z5 y5 z6 y6
          replace C := Lib.hid (C.out.trans hc)
          replace HX := Lib.hid (HX.out.chg hc)
          replace HY := Lib.hid (HY.out.chg hc)
          replace B0 := Lib.hid (hc.at_ B0.out (by simp))
          replace B1 := Lib.hid (hc.at_ B1.out (by simp))
          clear hc
          rcases ha2 : aheadP f e with _ | _
          · skip
            replace ha2 := Lib.hid ha2
            obtain rfl : v = true := by rw [← HV.out]; unfold clash0; simp [hun.out, ha1.out, ha2.out, hd.out]
            have z0 := cell_of B0.out 0
            have z1 := cell_of B0.out 1
            have z2 := cell_of B0.out 2
            have z3 := cell_of B0.out 3
            have z4 := cell_of B0.out 4
            have z5 := cell_of B0.out 5
            have z6 := cell_of B0.out 6
            have y0 := cell_of B1.out 0
            have y1 := cell_of B1.out 1
            have y2 := cell_of B1.out 2
            have y3 := cell_of B1.out 3
            have y4 := cell_of B1.out 4
            have y5 := cell_of B1.out 5
            have y6 := cell_of B1.out 6
            simp only [List.getElem?_toArray, List.getElem?_cons_succ, List.getElem?_cons_zero] at z0 y0 z1 y1 z2 y2 z3 y3 z4 y4 z5 y5 z6 y6
            go_wp2
            go_ret
            exact ⟨rfl, C.out⟩
          · skip
            replace ha2 := Lib.hid ha2
            obtain rfl : v = false := by rw [← HV.out]; unfold clash0; simp [hun.out, ha1.out, ha2.out, hd.out]
            have z0 := cell_of B0.out 0
            have z1 := cell_of B0.out 1
            have z2 := cell_of B0.out 2
            have z3 := cell_of B0.out 3
            have z4 := cell_of B0.out 4
            have z5 := cell_of B0.out 5
            have z6 := cell_of B0.out 6
            have y0 := cell_of B1.out 0
            have y1 := cell_of B1.out 1
            have y2 := cell_of B1.out 2
            have y3 := cell_of B1.out 3
            have y4 := cell_of B1.out 4
            have y5 := cell_of B1.out 5
            have y6 := cell_of B1.out 6
            simp only [List.getElem?_toArray, List.getElem?_cons_succ, List.getElem?_cons_zero] at z0 y0 z1 y1 z2 y2 z3 y3 z4 y4 z5 y5 z6 y6
            go_wp2
            go_ret
            exact ⟨rfl, C.out⟩
        · skip
          replace ha1 := Lib.hid ha1
          obtain rfl : v = false := by rw [← HV.out]; unfold clash0; simp [hun.out, ha1.out, hd.out]
          have z0 := cell_of B0.out 0
          have z1 := cell_of B0.out 1
          have z2 := cell_of B0.out 2
          have z3 := cell_of B0.out 3
          have z4 := cell_of B0.out 4
          have z5 := cell_of B0.out 5
          have z6 := cell_of B0.out 6
          have y0 := cell_of B1.out 0
          have y1 := cell_of B1.out 1
          have y2 := cell_of B1.out 2
          have y3 := cell_of B1.out 3
          have y4 := cell_of B1.out 4
          have y5 := cell_of B1.out 5
          have y6 := cell_of B1.out 6
          simp only [List.getElem?_toArray, List.getElem?_cons_succ, List.getElem?_cons_zero] at z0 y0 z1 y1 z2 y2 z3 y3 z4 y4 z5 y5 z6 y6
          go_wp2
          go_ret
          exact ⟨rfl, C.out⟩
    · skip
      have d1 : ((x.n == y.n) : Bool) = false := by rw [HX.out.n, HY.out.n]; exact beq_eq_false_iff_ne.2 q1
      have d3 : ¬ x.n = y.n := by rw [HX.out.n, HY.out.n]; exact q1
      clear q q1
      have z0 := cell_of B0.out 0
      have z1 := cell_of B0.out 1
      have z2 := cell_of B0.out 2
      have z3 := cell_of B0.out 3
      have z4 := cell_of B0.out 4
      have z5 := cell_of B0.out 5
      have z6 := cell_of B0.out 6
      have y0 := cell_of B1.out 0
      have y1 := cell_of B1.out 1
      have y2 := cell_of B1.out 2
      have y3 := cell_of B1.out 3
      have y4 := cell_of B1.out 4
      have y5 := cell_of B1.out 5
      have y6 := cell_of B1.out 6
      simp only [List.getElem?_toArray, List.getElem?_cons_succ, List.getElem?_cons_zero] at z0 y0 z1 y1 z2 y2 z3 y3 z4 y4 z5 y5 z6 y6
      go_wp2_with fail
      refine (clunlike_any w2 x y e f HX.out HY.out HS.out HT.out).mono ?_
      rintro r w12 ⟨rfl, hc⟩
      clear z0 y0 z1 y1 z2 y2 z3 y3 z4 y4 z5 y5 z6 y6
      replace C := Lib.hid (C.out.trans hc)
      replace HX := Lib.hid (HX.out.chg hc)
      replace HY := Lib.hid (HY.out.chg hc)
      replace B0 := Lib.hid (hc.at_ B0.out (by simp))
      replace B1 := Lib.hid (hc.at_ B1.out (by simp))
      clear hc
      rcases hun : unlikeP e f with _ | _
      · skip
        replace hun := Lib.hid hun
        have z0 := cell_of B0.out 0
        have z1 := cell_of B0.out 1
        have z2 := cell_of B0.out 2
        have z3 := cell_of B0.out 3
        have z4 := cell_of B0.out 4
        have z5 := cell_of B0.out 5
        have z6 := cell_of B0.out 6
        have y0 := cell_of B1.out 0
        have y1 := cell_of B1.out 1
        have y2 := cell_of B1.out 2
        have y3 := cell_of B1.out 3
        have y4 := cell_of B1.out 4
        have y5 := cell_of B1.out 5
        have y6 := cell_of B1.out 6
        simp only [List.getElem?_toArray, List.getElem?_cons_succ, List.getElem?_cons_zero] at z0 y0 z1 y1 z2 y2 z3 y3 z4 y4 z5 y5 z6 y6
        go_wp2_with fail
        refine (clhides_any w12 x y e f HX.out HY.out HS.out HT.out).mono ?_
        rintro r w13 ⟨rfl, hc⟩
        clear z0 y0 z1 y1 z2 y2 z3 y3 z4 y4 z5 y5 z6 y6
        replace C := Lib.hid (C.out.trans hc)
        replace HX := Lib.hid (HX.out.chg hc)
        replace HY := Lib.hid (HY.out.chg hc)
        replace B0 := Lib.hid (hc.at_ B0.out (by simp))
        replace B1 := Lib.hid (hc.at_ B1.out (by simp))
        clear hc
        rcases hh1 : hidesP e f with _ | _
        · skip
          replace hh1 := Lib.hid hh1
          have z0 := cell_of B0.out 0
          have z1 := cell_of B0.out 1
          have z2 := cell_of B0.out 2
          have z3 := cell_of B0.out 3
          have z4 := cell_of B0.out 4
          have z5 := cell_of B0.out 5
          have z6 := cell_of B0.out 6
          have y0 := cell_of B1.out 0
          have y1 := cell_of B1.out 1
          have y2 := cell_of B1.out 2
          have y3 := cell_of B1.out 3
          have y4 := cell_of B1.out 4
          have y5 := cell_of B1.out 5
          have y6 := cell_of B1.out 6
          simp only [List.getElem?_toArray, List.getElem?_cons_succ, List.getElem?_cons_zero] at z0 y0 z1 y1 z2 y2 z3 y3 z4 y4 z5 y5 z6 y6
          go_wp2_with fail
          refine (clhides_any w13 y x f e HY.out HX.out HT.out HS.out).mono ?_
          rintro r w14 ⟨rfl, hc⟩
          clear z0 y0 z1 y1 z2 y2 z3 y3 z4 y4 z5 y5 z6 y6
          replace C := Lib.hid (C.out.trans hc)
          replace HX := Lib.hid (HX.out.chg hc)
          replace HY := Lib.hid (HY.out.chg hc)
          replace B0 := Lib.hid (hc.at_ B0.out (by simp))
          replace B1 := Lib.hid (hc.at_ B1.out (by simp))
          clear hc
          rcases hh2 : hidesP f e with _ | _
          · skip
            replace hh2 := Lib.hid hh2
            obtain rfl : v = false := by rw [← HV.out]; unfold clash0; simp [hun.out, hh1.out, hh2.out, hd.out]
            have z0 := cell_of B0.out 0
            have z1 := cell_of B0.out 1
            have z2 := cell_of B0.out 2
            have z3 := cell_of B0.out 3
            have z4 := cell_of B0.out 4
            have z5 := cell_of B0.out 5
            have z6 := cell_of B0.out 6
            have y0 := cell_of B1.out 0
            have y1 := cell_of B1.out 1
            have y2 := cell_of B1.out 2
            have y3 := cell_of B1.out 3
            have y4 := cell_of B1.out 4
            have y5 := cell_of B1.out 5
            have y6 := cell_of B1.out 6
            simp only [List.getElem?_toArray, List.getElem?_cons_succ, List.getElem?_cons_zero] at z0 y0 z1 y1 z2 y2 z3 y3 z4 y4 z5 y5 z6 y6
            go_wp2
            go_ret
            exact ⟨rfl, C.out⟩
          · skip
            replace hh2 := Lib.hid hh2
            have z0 := cell_of B0.out 0
            have z1 := cell_of B0.out 1
            have z2 := cell_of B0.out 2
            have z3 := cell_of B0.out 3
            have z4 := cell_of B0.out 4
            have z5 := cell_of B0.out 5
            have z6 := cell_of B0.out 6
            have y0 := cell_of B1.out 0
            have y1 := cell_of B1.out 1
            have y2 := cell_of B1.out 2
            have y3 := cell_of B1.out 3
            have y4 := cell_of B1.out 4
            have y5 := cell_of B1.out 5
            have y6 := cell_of B1.out 6
            simp only [List.getElem?_toArray, List.getElem?_cons_succ, List.getElem?_cons_zero] at z0 y0 z1 y1 z2 y2 z3 y3 z4 y4 z5 y5 z6 y6
            go_wp2_with fail
            refine (evahead_any w14 x y e f HX.out HY.out HS.out HT.out).mono ?_
            rintro r w15 ⟨rfl, hc⟩
            clear z0 y0 z1 y1 z2 y2 z3 y3 z4 y4 z5 y5 z6 y6
            replace C := Lib.hid (C.out.trans hc)
            replace HX := Lib.hid (HX.out.chg hc)
            replace HY := Lib.hid (HY.out.chg hc)
            replace B0 := Lib.hid (hc.at_ B0.out (by simp))
            replace B1 := Lib.hid (hc.at_ B1.out (by simp))
            clear hc
            rcases ha1 : aheadP e f with _ | _
            · skip
              replace ha1 := Lib.hid ha1
              have z0 := cell_of B0.out 0
              have z1 := cell_of B0.out 1
              have z2 := cell_of B0.out 2
              have z3 := cell_of B0.out 3
              have z4 := cell_of B0.out 4
              have z5 := cell_of B0.out 5
              have z6 := cell_of B0.out 6
              have y0 := cell_of B1.out 0
              have y1 := cell_of B1.out 1
              have y2 := cell_of B1.out 2
              have y3 := cell_of B1.out 3
              have y4 := cell_of B1.out 4
              have y5 := cell_of B1.out 5
              have y6 := cell_of B1.out 6
              simp only [List.getElem?_toArray, List.getElem?_cons_succ, List.getElem?_cons_zero] at z0 y0 z1 y1 z2 y2 z3 y3 z4 y4 z5 y5 z6 y6
              go_wp2_with fail
              refine (evahead_any w15 y x f e HY.out HX.out HT.out HS.out).mono ?_
              rintro r w16 ⟨rfl, hc⟩
              clear z0 y0 z1 y1 z2 y2 z3 y3 z4 y4 z5 y5 z6 y6
              replace C := Lib.hid (C.out.trans hc)
              replace HX := Lib.hid (HX.out.chg hc)
              replace HY := Lib.hid (HY.out.chg hc)
              replace B0 := Lib.hid (hc.at_ B0.out (by simp))
              replace B1 := Lib.hid (hc.at_ B1.out (by simp))
              clear hc
              rcases ha2 : aheadP f e with _ | _
              · skip
                replace ha2 := Lib.hid ha2
                obtain rfl : v = true := by rw [← HV.out]; unfold clash0; simp [hun.out, hh1.out, hh2.out, ha1.out, ha2.out, hd.out]
                have z0 := cell_of B0.out 0
                have z1 := cell_of B0.out 1
                have z2 := cell_of B0.out 2
                have z3 := cell_of B0.out 3
                have z4 := cell_of B0.out 4
                have z5 := cell_of B0.out 5
                have z6 := cell_of B0.out 6
                have y0 := cell_of B1.out 0
                have y1 := cell_of B1.out 1
                have y2 := cell_of B1.out 2
                have y3 := cell_of B1.out 3
                have y4 := cell_of B1.out 4
                have y5 := cell_of B1.out 5
                have y6 := cell_of B1.out 6
                simp only [List.getElem?_toArray, List.getElem?_cons_succ, List.getElem?_cons_zero] at z0 y0 z1 y1 z2 y2 z3 y3 z4 y4 z5 y5 z6 y6
                go_wp2
                go_ret
                exact ⟨rfl, C.out⟩
              · skip
                replace ha2 := Lib.hid ha2
                obtain rfl : v = false := by rw [← HV.out]; unfold clash0; simp [hun.out, hh1.out, hh2.out, ha1.out, ha2.out, hd.out]
                have z0 := cell_of B0.out 0
                have z1 := cell_of B0.out 1
                have z2 := cell_of B0.out 2
                have z3 := cell_of B0.out 3
                have z4 := cell_of B0.out 4
                have z5 := cell_of B0.out 5
                have z6 := cell_of B0.out 6
                have y0 := cell_of B1.out 0
                have y1 := cell_of B1.out 1
                have y2 := cell_of B1.out 2
                have y3 := cell_of B1.out 3
                have y4 := cell_of B1.out 4
                have y5 := cell_of B1.out 5
                have y6 := cell_of B1.out 6
                simp only [List.getElem?_toArray, List.getElem?_cons_succ, List.getElem?_cons_zero] at z0 y0 z1 y1 z2 y2 z3 y3 z4 y4 z5 y5 z6 y6
                go_wp2
                go_ret
                exact ⟨rfl, C.out⟩
            · skip
              replace ha1 := Lib.hid ha1
              obtain rfl : v = false := by rw [← HV.out]; unfold clash0; simp [hun.out, hh1.out, hh2.out, ha1.out, hd.out]
              have z0 := cell_of B0.out 0
              have z1 := cell_of B0.out 1
              have z2 := cell_of B0.out 2
              have z3 := cell_of B0.out 3
              have z4 := cell_of B0.out 4
              have z5 := cell_of B0.out 5
              have z6 := cell_of B0.out 6
              have y0 := cell_of B1.out 0
              have y1 := cell_of B1.out 1
              have y2 := cell_of B1.out 2
              have y3 := cell_of B1.out 3
              have y4 := cell_of B1.out 4
              have y5 := cell_of B1.out 5
              have y6 := cell_of B1.out 6
              simp only [List.getElem?_toArray, List.getElem?_cons_succ, List.getElem?_cons_zero] at z0 y0 z1 y1 z2 y2 z3 y3 z4 y4 z5 y5 z6 y6
              go_wp2
              go_ret
              exact ⟨rfl, C.out⟩
        · skip
          replace hh1 := Lib.hid hh1
          have z0 := cell_of B0.out 0
          have z1 := cell_of B0.out 1
          have z2 := cell_of B0.out 2
          have z3 := cell_of B0.out 3
          have z4 := cell_of B0.out 4
          have z5 := cell_of B0.out 5
          have z6 := cell_of B0.out 6
          have y0 := cell_of B1.out 0
          have y1 := cell_of B1.out 1
          have y2 := cell_of B1.out 2
          have y3 := cell_of B1.out 3
          have y4 := cell_of B1.out 4
          have y5 := cell_of B1.out 5
          have y6 := cell_of B1.out 6
          simp only [List.getElem?_toArray, List.getElem?_cons_succ, List.getElem?_cons_zero] at z0 y0 z1 y1 z2 y2 z3 y3 z4 y4 z5 y5 z6 y6
          go_wp2_with fail
          refine (evahead_any w13 x y e f HX.out HY.out HS.out HT.out).mono ?_
          rintro r w17 ⟨rfl, hc⟩
          clear z0 y0 z1 y1 z2 y2 z3 y3 z4 y4 z5 y5 z6 y6
          replace C := Lib.hid (C.out.trans hc)
          replace HX := Lib.hid (HX.out.chg hc)
          replace HY := Lib.hid (HY.out.chg hc)
          replace B0 := Lib.hid (hc.at_ B0.out (by simp))
          replace B1 := Lib.hid (hc.at_ B1.out (by simp))
          clear hc
          rcases ha1 : aheadP e f with _ | _
          · skip
            replace ha1 := Lib.hid ha1
            have z0 := cell_of B0.out 0
            have z1 := cell_of B0.out 1
            have z2 := cell_of B0.out 2
            have z3 := cell_of B0.out 3
            have z4 := cell_of B0.out 4
            have z5 := cell_of B0.out 5
            have z6 := cell_of B0.out 6
            have y0 := cell_of B1.out 0
            have y1 := cell_of B1.out 1
            have y2 := cell_of B1.out 2
            have y3 := cell_of B1.out 3
            have y4 := cell_of B1.out 4
            have y5 := cell_of B1.out 5
            have y6 := cell_of B1.out 6
            simp only [List.getElem?_toArray, List.getElem?_cons_succ, List.getElem?_cons_zero] at z0 y0 z1 y1 z2 y2 z3 y3 z4 y4 z5 y5 z6 y6
            go_wp2_with fail
            refine (evahead_any w17 y x f e HY.out HX.out HT.out HS.out).mono ?_
            rintro r w18 ⟨rfl, hc⟩
            clear z0 y0 z1 y1 z2 y2 z3 y3 z4 y4 z5 y5 z6 y6
            replace C := Lib.hid (C.out.trans hc)
            replace HX := Lib.hid (HX.out.chg hc)
            replace HY := Lib.hid (HY.out.chg hc)
            replace B0 := Lib.hid (hc.at_ B0.out (by simp))
            replace B1 := Lib.hid (hc.at_ B1.out (by simp))
            clear hc
            rcases ha2 : aheadP f e with _ | _
            · skip
              replace ha2 := Lib.hid ha2
              obtain rfl : v = true := by rw [← HV.out]; unfold clash0; simp [hun.out, hh1.out, ha1.out, ha2.out, hd.out]
              have z0 := cell_of B0.out 0
              have z1 := cell_of B0.out 1
              have z2 := cell_of B0.out 2
              have z3 := cell_of B0.out 3
              have z4 := cell_of B0.out 4
              have z5 := cell_of B0.out 5
              have z6 := cell_of B0.out 6
              have y0 := cell_of B1.out 0
              have y1 := cell_of B1.out 1
              have y2 := cell_of B1.out 2
              have y3 := cell_of B1.out 3
              have y4 := cell_of B1.out 4
              have y5 := cell_of B1.out 5
              have y6 := cell_of B1.out 6
              simp only [List.getElem?_toArray, List.getElem?_cons_succ, List.getElem?_cons_zero] at z0 y0 z1 y1 z2 y2 z3 y3 z4 y4 z5 y5 z6 y6
              go_wp2
              go_ret
              exact ⟨rfl, C.out⟩
            · skip
              replace ha2 := Lib.hid ha2
              obtain rfl : v = false := by rw [← HV.out]; unfold clash0; simp [hun.out, hh1.out, ha1.out, ha2.out, hd.out]
              have z0 := cell_of B0.out 0
              have z1 := cell_of B0.out 1
              have z2 := cell_of B0.out 2
              have z3 := cell_of B0.out 3
              have z4 := cell_of B0.out 4
              have z5 := cell_of B0.out 5
              have z6 := cell_of B0.out 6
              have y0 := cell_of B1.out 0
              have y1 := cell_of B1.out 1
              have y2 := cell_of B1.out 2
              have y3 := cell_of B1.out 3
              have y4 := cell_of B1.out 4
              have y5 := cell_of B1.out 5
              have y6 := cell_of B1.out 6
              simp only [List.getElem?_toArray, List.getElem?_cons_succ, List.getElem?_cons_zero] at z0 y0 z1 y1 z2 y2 z3 y3 z4 y4 z5 y5 z6 y6
              go_wp2
              go_ret
              exact ⟨rfl, C.out⟩
          · skip
            replace ha1 := Lib.hid ha1
            obtain rfl : v = false := by rw [← HV.out]; unfold clash0; simp [hun.out, hh1.out, ha1.out, hd.out]
            have z0 := cell_of B0.out 0
            have z1 := cell_of B0.out 1
            have z2 := cell_of B0.out 2
            have z3 := cell_of B0.out 3
            have z4 := cell_of B0.out 4
            have z5 := cell_of B0.out 5
            have z6 := cell_of B0.out 6
            have y0 := cell_of B1.out 0
            have y1 := cell_of B1.out 1
            have y2 := cell_of B1.out 2
            have y3 := cell_of B1.out 3
            have y4 := cell_of B1.out 4
            have y5 := cell_of B1.out 5
            have y6 := cell_of B1.out 6
            simp only [List.getElem?_toArray, List.getElem?_cons_succ, List.getElem?_cons_zero] at z0 y0 z1 y1 z2 y2 z3 y3 z4 y4 z5 y5 z6 y6
            go_wp2
            go_ret
            exact ⟨rfl, C.out⟩
      · skip
        replace hun := Lib.hid hun
        have z0 := cell_of B0.out 0
        have z1 := cell_of B0.out 1
        have z2 := cell_of B0.out 2
        have z3 := cell_of B0.out 3
        have z4 := cell_of B0.out 4
        have z5 := cell_of B0.out 5
        have z6 := cell_of B0.out 6
        have y0 := cell_of B1.out 0
        have y1 := cell_of B1.out 1
        have y2 := cell_of B1.out 2
        have y3 := cell_of B1.out 3
        have y4 := cell_of B1.out 4
        have y5 := cell_of B1.out 5
        have y6 := cell_of B1.out 6
        simp only [List.getElem?_toArray, List.getElem?_cons_succ, List.getElem?_cons_zero] at z0 y0 z1 y1 z2 y2 z3 y3 z4 y4 z5 y5 z6 y6
        go_wp2_with fail
        refine (evahead_any w12 x y e f HX.out HY.out HS.out HT.out).mono ?_
        rintro r w19 ⟨rfl, hc⟩
        clear z0 y0 z1 y1 z2 y2 z3 y3 z4 y4 z5 y5 z6 y6
        replace C := Lib.hid (C.out.trans hc)
        replace HX := Lib.hid (HX.out.chg hc)
        replace HY := Lib.hid (HY.out.chg hc)
        replace B0 := Lib.hid (hc.at_ B0.out (by simp))
        replace B1 := Lib.hid (hc.at_ B1.out (by simp))
        clear hc
        rcases ha1 : aheadP e f with _ | _
        · skip
          replace ha1 := Lib.hid ha1
          have z0 := cell_of B0.out 0
          have z1 := cell_of B0.out 1
          have z2 := cell_of B0.out 2
          have z3 := cell_of B0.out 3
          have z4 := cell_of B0.out 4
          have z5 := cell_of B0.out 5
          have z6 := cell_of B0.out 6
          have y0 := cell_of B1.out 0
          have y1 := cell_of B1.out 1
          have y2 := cell_of B1.out 2
          have y3 := cell_of B1.out 3
          have y4 := cell_of B1.out 4
          have y5 := cell_of B1.out 5
          have y6 := cell_of B1.out 6
          simp only [List.getElem?_toArray, List.getElem?_cons_succ, List.getElem?_cons_zero] at z0 y0 z1 y1 z2 y2 z3 y3 z4 y4 z5 y5 z6 y6
          go_wp2_with fail
          refine (evahead_any w19 y x f e HY.out HX.out HT.out HS.out).mono ?_
          rintro r w20 ⟨rfl, hc⟩
          clear z0 y0 z1 y1 z2 y2 z3 y3 z4 y4 z5 y5 z6 y6
          replace C := Lib.hid (C.out.trans hc)
          replace HX := Lib.hid (HX.out.chg hc)
          replace HY := Lib.hid (HY.out.chg hc)
          replace B0 := Lib.hid (hc.at_ B0.out (by simp))
          replace B1 := Lib.hid (hc.at_ B1.out (by simp))
          clear hc
          rcases ha2 : aheadP f e with _ | _
          · skip
            replace ha2 := Lib.hid ha2
            obtain rfl : v = true := by rw [← HV.out]; unfold clash0; simp [hun.out, ha1.out, ha2.out, hd.out]
            have z0 := cell_of B0.out 0
            have z1 := cell_of B0.out 1
            have z2 := cell_of B0.out 2
            have z3 := cell_of B0.out 3
            have z4 := cell_of B0.out 4
            have z5 := cell_of B0.out 5
            have z6 := cell_of B0.out 6
            have y0 := cell_of B1.out 0
            have y1 := cell_of B1.out 1
            have y2 := cell_of B1.out 2
            have y3 := cell_of B1.out 3
            have y4 := cell_of B1.out 4
            have y5 := cell_of B1.out 5
            have y6 := cell_of B1.out 6
            simp only [List.getElem?_toArray, List.getElem?_cons_succ, List.getElem?_cons_zero] at z0 y0 z1 y1 z2 y2 z3 y3 z4 y4 z5 y5 z6 y6
            go_wp2
            go_ret
            exact ⟨rfl, C.out⟩
          · skip
            replace ha2 := Lib.hid ha2
            obtain rfl : v = false := by rw [← HV.out]; unfold clash0; simp [hun.out, ha1.out, ha2.out, hd.out]
            have z0 := cell_of B0.out 0
            have z1 := cell_of B0.out 1
            have z2 := cell_of B0.out 2
            have z3 := cell_of B0.out 3
            have z4 := cell_of B0.out 4
            have z5 := cell_of B0.out 5
            have z6 := cell_of B0.out 6
            have y0 := cell_of B1.out 0
            have y1 := cell_of B1.out 1
            have y2 := cell_of B1.out 2
            have y3 := cell_of B1.out 3
            have y4 := cell_of B1.out 4
            have y5 := cell_of B1.out 5
            have y6 := cell_of B1.out 6
            simp only [List.getElem?_toArray, List.getElem?_cons_succ, List.getElem?_cons_zero] at z0 y0 z1 y1 z2 y2 z3 y3 z4 y4 z5 y5 z6 y6
            go_wp2
            go_ret
            exact ⟨rfl, C.out⟩
        · skip
          replace ha1 := Lib.hid ha1
          obtain rfl : v = false := by rw [← HV.out]; unfold clash0; simp [hun.out, ha1.out, hd.out]
          have z0 := cell_of B0.out 0
          have z1 := cell_of B0.out 1
          have z2 := cell_of B0.out 2
          have z3 := cell_of B0.out 3
          have z4 := cell_of B0.out 4
          have z5 := cell_of B0.out 5
          have z6 := cell_of B0.out 6
          have y0 := cell_of B1.out 0
          have y1 := cell_of B1.out 1
          have y2 := cell_of B1.out 2
          have y3 := cell_of B1.out 3
          have y4 := cell_of B1.out 4
          have y5 := cell_of B1.out 5
          have y6 := cell_of B1.out 6
          simp only [List.getElem?_toArray, List.getElem?_cons_succ, List.getElem?_cons_zero] at z0 y0 z1 y1 z2 y2 z3 y3 z4 y4 z5 y5 z6 y6
          go_wp2
          go_ret
          exact ⟨rfl, C.out⟩
  · skip
    have q : e.n = f.n ∧ e.s = f.s := of_decide_eq_true hd
    have d1 : ((x.n == y.n) : Bool) = true := by rw [HX.out.n, HY.out.n, q.1]; exact beq_self_eq_true _
    have d2 : ((x.s == y.s) : Bool) = true := by rw [HX.out.s, HY.out.s, q.2]; exact beq_self_eq_true _
    replace hd := Lib.hid hd
    clear q
    obtain rfl : v = false := by rw [← HV.out]; unfold clash0; simp [hd.out]
    have z0 := cell_of B0.out 0
    have z1 := cell_of B0.out 1
    have z2 := cell_of B0.out 2
    have z3 := cell_of B0.out 3
    have z4 := cell_of B0.out 4
    have z5 := cell_of B0.out 5
    have z6 := cell_of B0.out 6
    have y0 := cell_of B1.out 0
    have y1 := cell_of B1.out 1
    have y2 := cell_of B1.out 2
    have y3 := cell_of B1.out 3
    have y4 := cell_of B1.out 4
    have y5 := cell_of B1.out 5
    have y6 := cell_of B1.out 6
    simp only [List.getElem?_toArray, List.getElem?_cons_succ, List.getElem?_cons_zero] at z0 y0 z1 y1 z2 y2 z3 y3 z4 y4 z5 y5 z6 y6
    go_wp2
    go_ret
    exact ⟨rfl, C.out⟩

set_option maxRecDepth 100000 in
set_option maxHeartbeats 16000000 in
theorem clClash_any (w : World) (x y : EvT) (e f : EvP) (hx : EvR w x e) (hy : EvR w y f) (hs : EvSm e) (ht : EvSm f) :
    Calls Tryz.prog 12 #[.agg #[.int .i64 x.n, .int .i64 x.s, .string x.p, .int .i64 x.k, .int .i64 x.m, .slice x.A x.l x.c, .slice x.B x.bl x.bc], .agg #[.int .i64 y.n, .int .i64 y.s, .string y.p, .int .i64 y.k, .int .i64 y.m, .slice y.A y.l y.c, .slice y.B y.bl y.bc]] w fun r w' => r = .returned (.bool (clashP e f)) ∧ Chg [] w w' := by
  obtain ⟨w2, hw, hc, b0, b1⟩ := news2 w (.cells #[.int .i64 x.n, .int .i64 x.s, .string x.p, .int .i64 x.k, .int .i64 x.m, .slice x.A x.l x.c, .slice x.B x.bl x.bc] 29) (.cells #[.int .i64 y.n, .int .i64 y.s, .string y.p, .int .i64 y.k, .int .i64 y.m, .slice y.A y.l y.c, .slice y.B y.bl y.bc] 29)
  have W2 := Lib.hid hw
  have C := Lib.hid hc
  have HX := Lib.hid (hx.chg hc)
  have HY := Lib.hid (hy.chg hc)
  have HS := Lib.hid hs
  have HT := Lib.hid ht
  have B0 := Lib.hid b0
  have B1 := Lib.hid b1
  generalize hv : clashP e f = v
  have HV := Lib.hid hv
  clear hv hw hc hx hy hs ht b0 b1
  go_enter Tryz.func12, Tryz.ntmps12
  go_upto_region 1 with fail
  rw [← W2.out]
  generalize w.heap.size + 1 = g1 at *
  generalize w.heap.size = g0 at *
  clear W2
  have z0 := cell_of B0.out 0
  have z1 := cell_of B0.out 1
  have z2 := cell_of B0.out 2
  have z3 := cell_of B0.out 3
  have z4 := cell_of B0.out 4
  have z5 := cell_of B0.out 5
  have z6 := cell_of B0.out 6
  have y0 := cell_of B1.out 0
  have y1 := cell_of B1.out 1
  have y2 := cell_of B1.out 2
  have y3 := cell_of B1.out 3
  have y4 := cell_of B1.out 4
  have y5 := cell_of B1.out 5
  have y6 := cell_of B1.out 6
  simp only [List.getElem?_toArray, List.getElem?_cons_succ, List.getElem?_cons_zero] at z0 y0 z1 y1 z2 y2 z3 y3 z4 y4 z5 y5 z6 y6
  go_wp2_with fail
  refine (clclash_any w2 x y e f HX.out HY.out HS.out HT.out).mono ?_
  rintro r w3 ⟨rfl, hc⟩
  clear z0 y0 z1 y1 z2 y2 z3 y3 z4 y4 z5 y5 z6 y6
  replace C := Lib.hid (C.out.trans hc)
  replace HX := Lib.hid (HX.out.chg hc)
  replace HY := Lib.hid (HY.out.chg hc)
  replace B0 := Lib.hid (hc.at_ B0.out (by simp))
  replace B1 := Lib.hid (hc.at_ B1.out (by simp))
  clear hc
  rcases hc0 : clash0 e f with _ | _
  · skip
    replace hc0 := Lib.hid hc0
    obtain rfl : v = false := by rw [← HV.out]; unfold clashP; simp [hc0.out]
    have z0 := cell_of B0.out 0
    have z1 := cell_of B0.out 1
    have z2 := cell_of B0.out 2
    have z3 := cell_of B0.out 3
    have z4 := cell_of B0.out 4
    have z5 := cell_of B0.out 5
    have z6 := cell_of B0.out 6
    have y0 := cell_of B1.out 0
    have y1 := cell_of B1.out 1
    have y2 := cell_of B1.out 2
    have y3 := cell_of B1.out 3
    have y4 := cell_of B1.out 4
    have y5 := cell_of B1.out 5
    have y6 := cell_of B1.out 6
    simp only [List.getElem?_toArray, List.getElem?_cons_succ, List.getElem?_cons_zero] at z0 y0 z1 y1 z2 y2 z3 y3 z4 y4 z5 y5 z6 y6
    go_wp2
    go_ret
    exact ⟨rfl, C.out⟩
  · skip
    replace hc0 := Lib.hid hc0
    have z0 := cell_of B0.out 0
    have z1 := cell_of B0.out 1
    have z2 := cell_of B0.out 2
    have z3 := cell_of B0.out 3
    have z4 := cell_of B0.out 4
    have z5 := cell_of B0.out 5
    have z6 := cell_of B0.out 6
    have y0 := cell_of B1.out 0
    have y1 := cell_of B1.out 1
    have y2 := cell_of B1.out 2
    have y3 := cell_of B1.out 3
    have y4 := cell_of B1.out 4
    have y5 := cell_of B1.out 5
    have y6 := cell_of B1.out 6
    simp only [List.getElem?_toArray, List.getElem?_cons_succ, List.getElem?_cons_zero] at z0 y0 z1 y1 z2 y2 z3 y3 z4 y4 z5 y5 z6 y6
    go_wp2_with fail
    refine (evcheck_any w3 x e HX.out HS.out).mono ?_
    rintro r w4 ⟨rfl, hc⟩
    clear z0 y0 z1 y1 z2 y2 z3 y3 z4 y4 z5 y5 z6 y6
    replace C := Lib.hid (C.out.trans hc)
    replace HX := Lib.hid (HX.out.chg hc)
    replace HY := Lib.hid (HY.out.chg hc)
    replace B0 := Lib.hid (hc.at_ B0.out (by simp))
    replace B1 := Lib.hid (hc.at_ B1.out (by simp))
    clear hc
    rcases chkEv_two e with hk1 | hk1
    · skip
      rw [hk1]
      replace hk1 := Lib.hid hk1
      have z0 := cell_of B0.out 0
      have z1 := cell_of B0.out 1
      have z2 := cell_of B0.out 2
      have z3 := cell_of B0.out 3
      have z4 := cell_of B0.out 4
      have z5 := cell_of B0.out 5
      have z6 := cell_of B0.out 6
      have y0 := cell_of B1.out 0
      have y1 := cell_of B1.out 1
      have y2 := cell_of B1.out 2
      have y3 := cell_of B1.out 3
      have y4 := cell_of B1.out 4
      have y5 := cell_of B1.out 5
      have y6 := cell_of B1.out 6
      simp only [List.getElem?_toArray, List.getElem?_cons_succ, List.getElem?_cons_zero] at z0 y0 z1 y1 z2 y2 z3 y3 z4 y4 z5 y5 z6 y6
      go_wp2_with fail
      refine (evcheck_any w4 y f HY.out HT.out).mono ?_
      rintro r w5 ⟨rfl, hc⟩
      clear z0 y0 z1 y1 z2 y2 z3 y3 z4 y4 z5 y5 z6 y6
      replace C := Lib.hid (C.out.trans hc)
      replace HX := Lib.hid (HX.out.chg hc)
      replace HY := Lib.hid (HY.out.chg hc)
      replace B0 := Lib.hid (hc.at_ B0.out (by simp))
      replace B1 := Lib.hid (hc.at_ B1.out (by simp))
      clear hc
      rcases chkEv_two f with hk2 | hk2
      · skip
        rw [hk2]
        replace hk2 := Lib.hid hk2
        obtain rfl : v = true := by rw [← HV.out]; unfold clashP; simp [hc0.out, hk1.out, hk2.out]
        have z0 := cell_of B0.out 0
        have z1 := cell_of B0.out 1
        have z2 := cell_of B0.out 2
        have z3 := cell_of B0.out 3
        have z4 := cell_of B0.out 4
        have z5 := cell_of B0.out 5
        have z6 := cell_of B0.out 6
        have y0 := cell_of B1.out 0
        have y1 := cell_of B1.out 1
        have y2 := cell_of B1.out 2
        have y3 := cell_of B1.out 3
        have y4 := cell_of B1.out 4
        have y5 := cell_of B1.out 5
        have y6 := cell_of B1.out 6
        simp only [List.getElem?_toArray, List.getElem?_cons_succ, List.getElem?_cons_zero] at z0 y0 z1 y1 z2 y2 z3 y3 z4 y4 z5 y5 z6 y6
        go_wp2
        go_ret
        exact ⟨rfl, C.out⟩
      · skip
        rw [hk2]
        replace hk2 := Lib.hid hk2
        obtain rfl : v = false := by rw [← HV.out]; unfold clashP; simp [hc0.out, hk1.out, hk2.out]
        have z0 := cell_of B0.out 0
        have z1 := cell_of B0.out 1
        have z2 := cell_of B0.out 2
        have z3 := cell_of B0.out 3
        have z4 := cell_of B0.out 4
        have z5 := cell_of B0.out 5
        have z6 := cell_of B0.out 6
        have y0 := cell_of B1.out 0
        have y1 := cell_of B1.out 1
        have y2 := cell_of B1.out 2
        have y3 := cell_of B1.out 3
        have y4 := cell_of B1.out 4
        have y5 := cell_of B1.out 5
        have y6 := cell_of B1.out 6
        simp only [List.getElem?_toArray, List.getElem?_cons_succ, List.getElem?_cons_zero] at z0 y0 z1 y1 z2 y2 z3 y3 z4 y4 z5 y5 z6 y6
        go_wp2
        go_ret
        exact ⟨rfl, C.out⟩
    · skip
      rw [hk1]
      replace hk1 := Lib.hid hk1
      obtain rfl : v = false := by rw [← HV.out]; unfold clashP; simp [hc0.out, hk1.out]
      have z0 := cell_of B0.out 0
      have z1 := cell_of B0.out 1
      have z2 := cell_of B0.out 2
      have z3 := cell_of B0.out 3
      have z4 := cell_of B0.out 4
      have z5 := cell_of B0.out 5
      have z6 := cell_of B0.out 6
      have y0 := cell_of B1.out 0
      have y1 := cell_of B1.out 1
      have y2 := cell_of B1.out 2
      have y3 := cell_of B1.out 3
      have y4 := cell_of B1.out 4
      have y5 := cell_of B1.out 5
      have y6 := cell_of B1.out 6
      simp only [List.getElem?_toArray, List.getElem?_cons_succ, List.getElem?_cons_zero] at z0 y0 z1 y1 z2 y2 z3 y3 z4 y4 z5 y5 z6 y6
      go_wp2
      go_ret
      exact ⟨rfl, C.out⟩
end
end Go.Proofs.YtfdaclifapfmdaaGreatDoor
