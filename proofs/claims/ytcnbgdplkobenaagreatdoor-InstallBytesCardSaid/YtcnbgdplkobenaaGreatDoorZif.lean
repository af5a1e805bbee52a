/- The walk of past.Read. past.Read of all bytes. past.Has: how a span lies to a dot. past.Has: a dot is looked for. past.Has. past: Count, Last. The document's Has, Count, Last. The document's ahead. The document's Check of a dot, as the past sees it. past.bounded, past.alone. past.push. past.push behind a span. A row of structs: one cell of one of them is stored. No program here. past.push onto the last span. -/
import Derived.Test.YtcnbgdplkobenaaGreatDoorZie
import Derived.Deep.RegionHeld3
import Derived.Test.YtcnbgdplkobenaaGreatDoorZid
import Derived.Test.YtcnbgdplkobenaaGreatDoorZic
import Derived.Deep.QuietTactic
import Derived.BigQuiet
import Derived.RegionTactic
import Derived.Deep.Cut
import Derived.Test.YtcnbgdplkobenaaGreatDoorZib
namespace Go.Proofs.YtcnbgdplkobenaaGreatDoor
section
open Go.RowKit Go.Lib
set_option linter.unusedSimpArgs false
set_option linter.unusedVariables false
set_option maxHeartbeats 4000000 in
set_option maxRecDepth 100000 in
theorem paread_loop (w : World) (g o n c : Nat) (ys : List UInt8) (h : Bs w (some ⟨g, o, none⟩) n ys) (hn : n ≤ 140737488351232) (hc : n ≤ c) (hc2 : c ≤ 9223372036854775807) (many : Nat) (hm : many = numB (ys.take 2)) (hl : ys.length = 2 + 9 * many) (L : List (Int × Int × Int)) (E : Int) (hck : (chkS (spansR ys many) = 0 ∧ L = spansR ys many ∧ E = 0) ∨ (chkS (spansR ys many) = 2 ∧ L = [] ∧ E = 2)) :
    Calls Tryz.prog 48 #[.slice (some ⟨g, o, none⟩) n c] w fun e w' => ∃ A' c', e = .returned (.tuple #[.slice A' L.length c', .agg #[.int .i64 E, .int .i64 0]]) ∧ OwnK spanTy w' A' c' L ∧ (∀ a, A' = some a → w.heap.size ≤ a.block) ∧ Chg [] w w' := by
  have HCK := Lib.hid hck
  clear hck
  have hl0 := h.len
  subst hl0
  obtain ⟨w1, hw1, c1, b1⟩ := news1 w (.cells #[.int .i64 0, .int .i64 0] 36)
  have W1 := Lib.hid hw1
  have HX := Lib.hid (h.chg c1 (by simp))
  have C1 := Lib.hid c1
  have F1 := Lib.hid b1
  have h2 : (2 : Int) ≤ (ys.length : Int) := by omega
  have h3 : ¬ ((ys.length : Int) < 2) := by omega
  have h4 : (2 : Int) ≤ (c : Int) := by omega
  have hmk : many < 65536 := by
    have := numB_lt 2 (ys.take 2) (by rw [List.length_take]; omega)
    omega
  have hne : ((ys.length : Int) == 2 + 9 * (many : Int)) = true := by simp; omega
  have RD := Lib.hid (show Bs w1 (some ⟨g, o, none⟩) 2 (ys.take 2) from by have := HX.out.part_ 0 2 (by omega); simpa using this)
  have hg0 : g < w.heap.size := by
    obtain ⟨a, e, hc⟩ := h.cells 0 _ (List.getElem?_eq_getElem (by omega))
    cases e
    have := lt_of_cell hc
    rwa [block_add] at this
  have HG1 := Lib.hid (Nat.lt_of_lt_of_le hg0 c1.size)
  clear hw1 c1 b1 h hg0
  go_enter Tryz.func48, Tryz.ntmps48
  go_wp2_with fail
  rw [← W1.out]
  refine (panumber_any _ _ 2 _ (ys.take 2) RD.out (by rw [List.length_take]; omega)).mono ?_
  rintro e w2 ⟨rfl, hcc⟩
  rw [← hm]
  have HM := Lib.hid hm
  clear hm
  have HG0 := Lib.hid (Nat.lt_of_lt_of_le HG1.out hcc.size)
  clear HG1
  have C2 := Lib.hid (C1.out.trans hcc)
  have F2 := Lib.hid (hcc.at_ F1.out (by simp))
  have HX2 := Lib.hid (HX.out.chg hcc (by simp))
  clear hcc W1 C1 F1 HX RD
  go_upto_region 6 with fail
  generalize hs0 : w.heap.size = s0 at *
  have HS0 := Lib.hid (Nat.le_of_eq hs0)
  clear hs0
  go_wp2
  go_loopw [5, 6] (fun v5 v6 wr => ∃ (k q : Nat) (B : Option Addr) (cc : Nat), k ≤ many ∧ v5 = .slice B k cc ∧ v6 = .int .i64 (q : Int) ∧ q = 2 + 9 * k ∧ Hid (OwnK spanTy wr B cc (spansR ys k) ∧ (∀ a, B = some a → w2.heap.size ≤ a.block) ∧ Chg [] w2 wr)) (fun v5 _ _ => many - (match v5 with | .slice _ k _ => k | _ => 0))
  case atStart => exact ⟨0, 2, none, 0, Nat.zero_le _, rfl, rfl, rfl, OwnK.none_ _, by simp, Chg.refl _ _⟩
  case round =>
    obtain ⟨k, q, B, cc, hk, rfl, rfl, hqk, HI⟩ := hrel
    generalize wr = w4 at *
    clear wr
    by_cases hlt : k < many
    · have hq : q < ys.length := by omega
      have ex := List.getElem?_eq_getElem hq
      have HX4 := Lib.hid (HX2.out.chg HI.out.2.2 (by simp))
      obtain ⟨ad, eA, hc⟩ := HX4.out.cells _ _ ex
      cases eA
      rw [add_lit] at hc
      have e1 : (ys.drop q).take 1 = [ys[q]] := by rw [List.drop_eq_getElem_cons hq]; rfl
      generalize ys[q] = x at *
      have E1 := Lib.hid e1
      unfold bv at hc
      have P1 := Lib.hid (HX4.out.part_ (q + 1) 4 (by omega))
      have P2 := Lib.hid (HX4.out.part_ (q + 5) 4 (by omega))
      have i0 : (0 : Int) ≤ (q : Int) := by omega
      have i1 : (q : Int) < (ys.length : Int) := by omega
      have i2 : (q : Int) + 1 ≤ (q : Int) + 5 := by omega
      have hcc : ys.length ≤ c := by omega
      have i3 : (q : Int) + 5 ≤ (c : Int) := by omega
      have i4 : (q : Int) + 9 ≤ (c : Int) := by omega
      have i5 : (q : Int) < 2 + 9 * (many : Int) := by omega
      have j0 : (0 : Int) ≤ (q : Int) + 1 := by omega
      have j1 : (0 : Int) ≤ (q : Int) + 5 := by omega
      have j2 : (q : Int) + 5 ≤ (q : Int) + 9 := by omega
      have j3 : ¬ c = q + 1 := by omega
      have j4 : ¬ q + 1 = c := by omega
      have j5 : ¬ c = q + 5 := by omega
      have j6 : ¬ q + 5 = c := by omega
      have j7 : q + 1 ≤ q + 5 := by omega
      have j8 : q + 5 ≤ c := by omega
      have j9 : q + 5 ≤ q + 9 := by omega
      have ja : q + 9 ≤ c := by omega
      have jb : IntKind.i64.wrap ((q : Int) + 1) = (q : Int) + 1 := IntWalk.i64_in _ (by omega)
      have jc : IntKind.i64.wrap ((q : Int) + 5) = (q : Int) + 5 := IntWalk.i64_in _ (by omega)
      have jd : IntKind.i64.wrap ((q : Int) + 9) = (q : Int) + 9 := IntWalk.i64_in _ (by omega)
      have nt1 : ((q : Int) + 1).toNat = q + 1 := by omega
      have nt5 : ((q : Int) + 5).toNat = q + 5 := by omega
      have nt9 : ((q : Int) + 9).toNat = q + 9 := by omega
      have nl1 : q + 5 - (q + 1) = 4 := by omega
      have nl2 : q + 9 - (q + 5) = 4 := by omega
      have HQ := Lib.hid hqk
      clear ex e1 hq hqk
      have hsp : spanAt ys q = ((x.toNat : Int), (numB ((ys.drop (q + 1)).take 4) : Int), (numB ((ys.drop (q + 5)).take 4) : Int)) := by
        unfold spanAt
        rw [E1.out]
        simp [numB]
      have HSP := Lib.hid hsp
      have LR1 := Lib.hid (spansR_len ys k)
      have BND := Lib.hid (show (k + 1) * 400 ≤ 140737488355327 by omega)
      have hgB : g ∉ (B.map (·.block)).toList := by
        cases B with
        | none => simp
        | some a =>
          have h1 := HI.out.2.1 a rfl
          have h2 := HG0.out
          simp
          omega
      have HB := Lib.hid hgB
      have HWX := Lib.hid (show IntKind.i64.wrap (x.toNat : Int) = (x.toNat : Int) from IntWalk.i64_in _ (by have := x.toNat_lt; omega))
      have hk4 : ∀ w', Chg (B.map (·.block)).toList w4 w' → w'.cell? ⟨g, o + q, none⟩ = some (.int .u8 (x.toNat : Int)) := fun w' h => h.cell hc (by exact HB.out)
      have HK := Lib.hid hk4
      have LT1 := Lib.hid (show ((ys.drop (q + 1)).take 4).length ≤ 4 by rw [List.length_take]; omega)
      have LT2 := Lib.hid (show ((ys.drop (q + 5)).take 4).length ≤ 4 by rw [List.length_take]; omega)
      clear hsp hk4 hc hgB
      generalize (ys.drop (q + 1)).take 4 = l1 at *
      generalize (ys.drop (q + 5)).take 4 = l2 at *
      go_upto_region 10 with fail
      refine wp_region_held_drew (S := fun w' => Chg (B.map (·.block)).toList w4 w') (by kernel_rfl) (Chg.refl _ w4).drew (fun hHeld => ?_)
      have C4 := Lib.hid ((Chg.refl [] w4).drew)
      clear hHeld
      refine step_yes 0 33 ?_ (C4.out.mono (by simp)) rfl rfl (by kernel_rfl) (by kernel_rfl) (by kernel_rfl) (fun _ _ _ h => h) (by rfl) ?_ ?_
      rotate_left
      · (intro w hSw; (try dsimp only at hSw); go_simp; try with_reducible rfl)
      try simp only [Act.put, List.setIfInBounds_toArray, List.set_cons_zero, List.set_cons_succ]
      refine step_yes 1 34 ?_ (C4.out.mono (by simp)) rfl rfl (by kernel_rfl) (by kernel_rfl) (by kernel_rfl) (fun _ _ _ h => h) (by rfl) ?_ ?_
      rotate_left
      · (intro w hSw; (try dsimp only at hSw); go_simp; try with_reducible rfl)
      try simp only [Act.put, List.setIfInBounds_toArray, List.set_cons_zero, List.set_cons_succ]
      refine step_yes 2 35 ?_ (C4.out.mono (by simp)) rfl rfl (by kernel_rfl) (by kernel_rfl) (by kernel_rfl) (fun _ _ _ h => h) (by rfl) ?_ ?_
      rotate_left
      · (intro w hSw; (try dsimp only at hSw); go_simp; try with_reducible rfl)
      try simp only [Act.put, List.setIfInBounds_toArray, List.set_cons_zero, List.set_cons_succ]
      refine step_yes 3 36 ?_ (C4.out.mono (by simp)) rfl rfl (by kernel_rfl) (by kernel_rfl) (by kernel_rfl) (fun _ _ _ h => h) (by rfl) ?_ ?_
      rotate_left
      · (intro w hSw; (try dsimp only at hSw); go_simp; try with_reducible rfl)
      try simp only [Act.put, List.setIfInBounds_toArray, List.set_cons_zero, List.set_cons_succ]
      refine step_yes 4 37 ?_ (C4.out.mono (by simp)) rfl rfl (by kernel_rfl) (by kernel_rfl) (by kernel_rfl) (fun _ _ _ h => h) (by rfl) ?_ ?_
      rotate_left
      · (intro w hSw; (try dsimp only at hSw); have hq0 := HK.out _ hSw; go_simp; try with_reducible rfl)
      try simp only [Act.put, List.setIfInBounds_toArray, List.set_cons_zero, List.set_cons_succ]
      refine step_yes 5 38 ?_ (C4.out.mono (by simp)) rfl rfl (by kernel_rfl) (by kernel_rfl) (by kernel_rfl) (fun _ _ _ h => h) (by rfl) ?_ ?_
      rotate_left
      · (intro w hSw; (try dsimp only at hSw); go_simp; try with_reducible rfl)
      try simp only [Act.put, List.setIfInBounds_toArray, List.set_cons_zero, List.set_cons_succ]
      refine step_yes 6 39 ?_ (C4.out.mono (by simp)) rfl rfl (by kernel_rfl) (by kernel_rfl) (by kernel_rfl) (fun _ _ _ h => h) (by rfl) ?_ ?_
      rotate_left
      · (intro w hSw; (try dsimp only at hSw); go_simp; try with_reducible rfl)
      try simp only [Act.put, List.setIfInBounds_toArray, List.set_cons_zero, List.set_cons_succ]
      refine step_yes 7 40 ?_ (C4.out.mono (by simp)) rfl rfl (by kernel_rfl) (by kernel_rfl) (by kernel_rfl) (fun _ _ _ h => h) (by rfl) ?_ ?_
      rotate_left
      · (intro w hSw; (try dsimp only at hSw); go_simp; try with_reducible rfl)
      try simp only [Act.put, List.setIfInBounds_toArray, List.set_cons_zero, List.set_cons_succ]
      refine step_yes 8 41 ?_ (C4.out.mono (by simp)) rfl rfl (by kernel_rfl) (by kernel_rfl) (by kernel_rfl) (fun _ _ _ h => h) (by rfl) ?_ ?_
      rotate_left
      · (intro w hSw; (try dsimp only at hSw); go_simp; try with_reducible rfl)
      try simp only [Act.put, List.setIfInBounds_toArray, List.set_cons_zero, List.set_cons_succ]
      refine step_yes 9 42 ?_ (C4.out.mono (by simp)) rfl rfl (by kernel_rfl) (by kernel_rfl) (by kernel_rfl) (fun _ _ _ h => h) (by rfl) ?_ ?_
      rotate_left
      · (intro w hSw; (try dsimp only at hSw); go_simp; try with_reducible rfl)
      try simp only [Act.put, List.setIfInBounds_toArray, List.set_cons_zero, List.set_cons_succ]
      refine step_yes 10 43 ?_ (C4.out.mono (by simp)) rfl rfl (by kernel_rfl) (by kernel_rfl) (by kernel_rfl) (fun _ _ _ h => h) (by rfl) ?_ ?_
      rotate_left
      · (intro w hSw; (try dsimp only at hSw); go_simp; try with_reducible rfl)
      try simp only [Act.put, List.setIfInBounds_toArray, List.set_cons_zero, List.set_cons_succ]
      refine step_yes 11 44 ?_ (C4.out.mono (by simp)) rfl rfl (by kernel_rfl) (by kernel_rfl) (by kernel_rfl) (fun _ _ _ h => h) (by rfl) ?_ ?_
      rotate_left
      · (intro w hSw; (try dsimp only at hSw); go_simp; try with_reducible rfl)
      try simp only [Act.put, List.setIfInBounds_toArray, List.set_cons_zero, List.set_cons_succ]
      refine step_yes 13 46 ?_ (C4.out.mono (by simp)) rfl rfl (by kernel_rfl) (by kernel_rfl) (by kernel_rfl) (fun _ _ _ h => h) (by rfl) ?_ ?_
      rotate_left
      · (intro w hSw; (try dsimp only at hSw); go_simp; try with_reducible rfl)
      try simp only [Act.put, List.setIfInBounds_toArray, List.set_cons_zero, List.set_cons_succ]
      refine step_yes 14 47 ?_ (C4.out.mono (by simp)) rfl rfl (by kernel_rfl) (by kernel_rfl) (by kernel_rfl) (fun _ _ _ h => h) (by rfl) ?_ ?_
      rotate_left
      · (intro w hSw; (try dsimp only at hSw); go_simp; try with_reducible rfl)
      try simp only [Act.put, List.setIfInBounds_toArray, List.set_cons_zero, List.set_cons_succ]
      refine step_yes 15 48 ?_ (C4.out.mono (by simp)) rfl rfl (by kernel_rfl) (by kernel_rfl) (by kernel_rfl) (fun _ _ _ h => h) (by rfl) ?_ ?_
      rotate_left
      · (intro w hSw; (try dsimp only at hSw); go_simp; try with_reducible rfl)
      try simp only [Act.put, List.setIfInBounds_toArray, List.set_cons_zero, List.set_cons_succ]
      refine step_yes 16 49 ?_ (C4.out.mono (by simp)) rfl rfl (by kernel_rfl) (by kernel_rfl) (by kernel_rfl) (fun _ _ _ h => h) (by rfl) ?_ ?_
      rotate_left
      · (intro w hSw; (try dsimp only at hSw); go_simp; try with_reducible rfl)
      try simp only [Act.put, List.setIfInBounds_toArray, List.set_cons_zero, List.set_cons_succ]
      refine step_yes 17 50 ?_ (C4.out.mono (by simp)) rfl rfl (by kernel_rfl) (by kernel_rfl) (by kernel_rfl) (fun _ _ _ h => h) (by rfl) ?_ ?_
      rotate_left
      · (intro w hSw; (try dsimp only at hSw); go_simp; try with_reducible rfl)
      try simp only [Act.put, List.setIfInBounds_toArray, List.set_cons_zero, List.set_cons_succ]
      refine step_yes 18 51 ?_ (C4.out.mono (by simp)) rfl rfl (by kernel_rfl) (by kernel_rfl) (by kernel_rfl) (fun _ _ _ h => h) (by rfl) ?_ ?_
      rotate_left
      · (intro w hSw; (try dsimp only at hSw); go_simp; try with_reducible rfl)
      try simp only [Act.put, List.setIfInBounds_toArray, List.set_cons_zero, List.set_cons_succ]
      refine wpAnyH_ready (rs := [12]) (by kernel_rfl) (by simp) ?_
      refine AllReadyH.cons rfl (fun K hK => ?_) AllReadyH.nil
      replace hK := Lib.hid hK
      go_simp
      refine (panumber_any _ _ 4 _ l1 (P1.out.chg C4.out (by simp)) LT1.out).mono ?_
      rintro e w9 ⟨rfl, hc⟩
      have C9 := Lib.hid (C4.out.trans hc)
      clear hc C4
      refine hK.out _ _ (C9.out.mono (by simp)) (fun hHeld => ?_)
      clear hK K
      try simp only [Act.put, List.setIfInBounds_toArray, List.set_cons_zero, List.set_cons_succ]
      clear hHeld
      refine wpAnyH_ready (rs := [19]) (by kernel_rfl) (by simp) ?_
      refine AllReadyH.cons rfl (fun K hK => ?_) AllReadyH.nil
      replace hK := Lib.hid hK
      go_simp
      refine (panumber_any _ _ 4 _ l2 (P2.out.chg C9.out (by simp)) LT2.out).mono ?_
      rintro e v9 ⟨rfl, hc⟩
      have C8 := Lib.hid (C9.out.trans hc)
      clear hc C9
      refine hK.out _ _ (C8.out.mono (by simp)) (fun hHeld => ?_)
      clear hK K
      try simp only [Act.put, List.setIfInBounds_toArray, List.set_cons_zero, List.set_cons_succ]
      clear hHeld
      refine step_yes 20 53 ?_ (C8.out.mono (by simp)) rfl rfl (by kernel_rfl) (by kernel_rfl) (by kernel_rfl) (fun _ _ _ h => h) (by rfl) ?_ ?_
      rotate_left
      · (intro w hSw; (try dsimp only at hSw); go_simp; try with_reducible rfl)
      try simp only [Act.put, List.setIfInBounds_toArray, List.set_cons_zero, List.set_cons_succ]
      refine wpAnyH_ready (rs := [21]) (by kernel_rfl) (by simp) ?_
      refine AllReadyH.cons rfl (fun K hK => ?_) AllReadyH.nil
      replace hK := Lib.hid hK
      go_simp
      obtain ⟨w5, hw5, c5, b5⟩ := news1 v9 (.cells #[.int .i64 (x.toNat : Int), .int .i64 (numB l1 : Int), .int .i64 (numB l2 : Int)] 88)
      simp only [HWX.out]
      rw [← hw5]
      have C5 := Lib.hid (C8.out.trans c5)
      refine hK.out _ _ (C5.out.mono (by simp)) (fun hHeld => ?_)
      clear hK K hHeld
      try simp only [Act.put, List.setIfInBounds_toArray, List.set_cons_zero, List.set_cons_succ]
      have R5 := Lib.hid (OwnK.of (R := spanTy) (c := 1) (full := [((x.toNat : Int), (numB l1 : Int), (numB l2 : Int))]) (xs := [((x.toNat : Int), (numB l1 : Int), (numB l2 : Int))]) b5 (Nat.le_refl _) (by decide) rfl rfl).reads
      have O5 := Lib.hid (HI.out.1.chg C5.out (by simp))
      clear hw5 c5 b5 C8
      refine wpAnyH_ready (rs := [22]) (by kernel_rfl) (by simp) ?_
      refine AllReadyH.cons rfl (fun K hK => ?_) AllReadyH.nil
      replace hK := Lib.hid hK
      refine step_appK (R := spanTy) rfl (.tmp 33) (.tmp 54) rfl rfl O5.out LR1.out rfl R5.out BND.out ?_
      intro A2 c2 w7 u2 d2 e2
      have C7 := Lib.hid ((C5.out.mono (S' := (B.map (·.block)).toList) (by simp)).grown d2 (fun k hk => .inl (by simp [hk])))
      have AO := app_own (w := w2) HI.out.2.1 (HI.out.2.2.trans C5.out) d2 e2
      have U2 := Lib.hid u2
      have AO2 := Lib.hid AO
      clear u2 d2 e2 AO
      refine hK.out _ _ C7.out (fun hHeld => ?_)
      clear hK K hHeld
      try simp only [Act.put, List.setIfInBounds_toArray, List.set_cons_zero, List.set_cons_succ]
      refine step_yes 23 5 ?_ C7.out rfl rfl (by kernel_rfl) (by kernel_rfl) (by kernel_rfl) (fun _ _ _ h => h) (by rfl) ?_ ?_
      rotate_left
      · (intro w hSw; (try dsimp only at hSw); go_simp; try with_reducible rfl)
      try simp only [Act.put, List.setIfInBounds_toArray, List.set_cons_zero, List.set_cons_succ]
      refine wpAnyH_done (by kernel_rfl) ?_ _
      go_wp2
      go_round
      case rel => exact ⟨k + 1, q + 9, A2, c2, by omega, by congr 1, by go_num, by have := HQ.out; omega, by rw [spansR_succ, ← HQ.out, HSP.out]; exact U2.out, AO2.out.1, AO2.out.2⟩
      case measure => simp; omega
    · obtain rfl : k = many := by omega
      have hw2l := HI.out.1.reads
      go_wp2_with fail
      refine (pacheck_any _ B _ cc (spansR ys k) (by have := hw2l; rwa [spansR_len] at this) (by omega)).mono ?_
      rintro e w5 ⟨rfl, hc5⟩
      rcases HCK.out with ⟨hk0, hL, hE⟩ | ⟨hk0, hL, hE⟩
      · rw [hk0]
        clear HCK hw2l hk0
        subst hL hE
        have hb := hc5.at_ (HI.out.2.2.at_ F2.out (by simp)) (by simp)
        have z0 := cell_of hb 0
        have z1 := cell_of hb 1
        have f0 := free_of hb 0
        have f1 := free_of hb 1
        simp only [List.getElem?_toArray, List.getElem?_cons_succ, List.getElem?_cons_zero] at z0 z1
        have e0 := heap_setCell_same _ s0 0 _ _ (.int .i64 0) hb
        have e1 := heap_setCell_same _ s0 1 _ _ (.int .i64 0) e0
        have HE : Hid (((w5.setCell ⟨s0, 0, none⟩ (.int .i64 0)).setCell ⟨s0, 1, none⟩ (.int .i64 0)).heap[s0]? = some (.cells #[.int .i64 0, .int .i64 0] 36 (0, 0))) := Lib.hid (by simpa using e1)
        have CW := Lib.hid (Chg.put (Chg.put (C2.out.trans (HI.out.2.2.trans hc5)) HS0.out 0 (.int .i64 0)) HS0.out 1 (.int .i64 0))
        have CS := ((Chg.refl [s0] w5).setCell (p := ⟨s0, 0, none⟩) (.inl (by simp)) (.int .i64 0)).setCell (p := ⟨s0, 1, none⟩) (.inl (by simp)) (.int .i64 0)
        have OF := Lib.hid ((HI.out.1.chg hc5 (by simp)).chg CS (fun a ha => by
          have h1 := HI.out.2.1 a ha
          have h2 := lt_of_heap F2.out
          simp
          omega))
        have NF := Lib.hid (fun a (ha : B = some a) => Nat.le_trans C2.out.size (HI.out.2.1 a ha))
        have LF := Lib.hid (spansR_len ys k)
        clear hb e0 e1 CS hc5
        go_wp2
        generalize (w5.setCell ⟨s0, 0, none⟩ (.int .i64 0)).setCell ⟨s0, 1, none⟩ (.int .i64 0) = W at *
        clear z0 z1 f0 f1
        have z0 := cell_of HE.out 0
        have z1 := cell_of HE.out 1
        simp only [List.getElem?_toArray, List.getElem?_cons_succ, List.getElem?_cons_zero] at z0 z1
        refine bodyPost_ret (v := .tuple #[.slice B k cc, .agg #[.int .i64 0, .int .i64 0]]) (by simp [results, Tryz.results48, go_sem, z0, z1]) rfl ?_
        exact ⟨B, cc, by rw [LF.out], OF.out, NF.out, CW.out⟩
      · rw [hk0]
        clear HCK hw2l hk0
        subst hL hE
        have hb := hc5.at_ (HI.out.2.2.at_ F2.out (by simp)) (by simp)
        have z0 := cell_of hb 0
        have z1 := cell_of hb 1
        have f0 := free_of hb 0
        have f1 := free_of hb 1
        simp only [List.getElem?_toArray, List.getElem?_cons_succ, List.getElem?_cons_zero] at z0 z1
        have e0 := heap_setCell_same _ s0 0 _ _ (.int .i64 2) hb
        have e1 := heap_setCell_same _ s0 1 _ _ (.int .i64 0) e0
        have HE : Hid (((w5.setCell ⟨s0, 0, none⟩ (.int .i64 2)).setCell ⟨s0, 1, none⟩ (.int .i64 0)).heap[s0]? = some (.cells #[.int .i64 2, .int .i64 0] 36 (0, 0))) := Lib.hid (by simpa using e1)
        have CW := Lib.hid (Chg.put (Chg.put (C2.out.trans (HI.out.2.2.trans hc5)) HS0.out 0 (.int .i64 2)) HS0.out 1 (.int .i64 0))
        have CS := ((Chg.refl [s0] w5).setCell (p := ⟨s0, 0, none⟩) (.inl (by simp)) (.int .i64 2)).setCell (p := ⟨s0, 1, none⟩) (.inl (by simp)) (.int .i64 0)
        clear hb e0 e1 CS hc5
        go_wp2
        generalize (w5.setCell ⟨s0, 0, none⟩ (.int .i64 2)).setCell ⟨s0, 1, none⟩ (.int .i64 0) = W at *
        clear z0 z1 f0 f1
        have z0 := cell_of HE.out 0
        have z1 := cell_of HE.out 1
        simp only [List.getElem?_toArray, List.getElem?_cons_succ, List.getElem?_cons_zero] at z0 z1
        refine bodyPost_ret (v := .tuple #[.slice none 0 0, .agg #[.int .i64 2, .int .i64 0]]) (by simp [results, Tryz.results48, go_sem, z0, z1]) rfl ?_
        exact ⟨none, 0, rfl, OwnK.none_ _, by simp, CW.out⟩
end
section
open Go.RowKit Go.Lib
set_option linter.unusedSimpArgs false
set_option linter.unusedVariables false


/-- What bytes are read as: a past, what is wrong, and where. -/
def readS (ys : List UInt8) : List (Int × Int × Int) × (Int × Int) :=
  if ys.length < 2 then ([], (4, (ys.length : Int)))
  else if ys.length = 2 + 9 * numB (ys.take 2) then (if chkS (spansR ys (numB (ys.take 2))) = 0 then (spansR ys (numB (ys.take 2)), (0, 0)) else ([], (2, 0)))
  else ([], (4, if ys.length < 2 + 9 * numB (ys.take 2) then (ys.length : Int) else ((2 + 9 * numB (ys.take 2) : Nat) : Int)))
theorem readS_short {ys : List UInt8} (h : ys.length < 2) : readS ys = ([], (4, (ys.length : Int))) := if_pos h
theorem readS_odd {ys : List UInt8} (h : ¬ ys.length < 2) (h2 : ys.length ≠ 2 + 9 * numB (ys.take 2)) : readS ys = ([], (4, if ys.length < 2 + 9 * numB (ys.take 2) then (ys.length : Int) else ((2 + 9 * numB (ys.take 2) : Nat) : Int))) := by
  unfold readS
  rw [if_neg h, if_neg h2]
theorem readS_fine {ys : List UInt8} (h : ¬ ys.length < 2) (h2 : ys.length = 2 + 9 * numB (ys.take 2)) :
    (chkS (spansR ys (numB (ys.take 2))) = 0 ∧ readS ys = (spansR ys (numB (ys.take 2)), (0, 0))) ∨ (chkS (spansR ys (numB (ys.take 2))) = 2 ∧ readS ys = ([], (2, 0))) := by
  unfold readS
  rw [if_neg h, if_pos h2]
  by_cases hk : chkS (spansR ys (numB (ys.take 2))) = 0
  · rw [if_pos hk]; exact .inl ⟨hk, rfl⟩
  · rw [if_neg hk]; exact .inr ⟨chkS_odd hk, rfl⟩
theorem Bs.base {w : World} {A : Option Addr} {n : Nat} {ys : List UInt8} (h : Bs w A n ys) (hn : 0 < n) : ∃ g o, A = some ⟨g, o, none⟩ := by
  have hl := h.len
  obtain ⟨ad, rfl, hc⟩ := h.cells 0 _ (List.getElem?_eq_getElem (by omega))
  have hsp := World.cell?_spot hc
  obtain ⟨g, o, sp⟩ := ad
  have hsp : sp = none := by simpa [Addr.add] using hsp
  subst hsp
  exact ⟨g, o, rfl⟩

theorem paread_short (w : World) (A : Option Addr) (n c : Nat) (ys : List UInt8) (h : Bs w A n ys) (h2 : ys.length < 2) :
    Calls Tryz.prog 48 #[.slice A n c] w fun e w' => ∃ A' c', e = .returned (.tuple #[.slice A' (readS ys).1.length c', .agg #[.int .i64 (readS ys).2.1, .int .i64 (readS ys).2.2]]) ∧ OwnK spanTy w' A' c' (readS ys).1 ∧ (∀ a, A' = some a → w.heap.size ≤ a.block) ∧ Chg [] w w' := by
  rw [readS_short h2]
  have hl := h.len
  subst hl
  have h3 : (ys.length : Int) < 2 := by omega
  clear h h2
  go_enter Tryz.func48, Tryz.ntmps48
  go_wp2
  refine bodyPost_ret (v := .tuple #[.slice none 0 0, .agg #[.int .i64 4, .int .i64 ys.length]]) (by simp [results, Tryz.results48, go_sem]) rfl ?_
  exact ⟨none, 0, rfl, OwnK.none_ _, by simp, (Chg.refl _ _).alloc _⟩

set_option maxHeartbeats 2000000 in
set_option maxRecDepth 100000 in
theorem paread_odd (w : World) (g o n c : Nat) (ys : List UInt8) (h : Bs w (some ⟨g, o, none⟩) n ys) (hn : n ≤ 140737488351232) (hc : n ≤ c) (hc2 : c ≤ 9223372036854775807) (hs : ¬ ys.length < 2) (many : Nat) (hm : many = numB (ys.take 2)) (hl : ys.length ≠ 2 + 9 * many) (V : Int) (hV : (ys.length < 2 + 9 * many ∧ V = ys.length) ∨ (2 + 9 * many < ys.length ∧ V = ((2 + 9 * many : Nat) : Int))) :
    Calls Tryz.prog 48 #[.slice (some ⟨g, o, none⟩) n c] w fun e w' => ∃ A' c', e = .returned (.tuple #[.slice A' 0 c', .agg #[.int .i64 4, .int .i64 V]]) ∧ OwnK spanTy w' A' c' [] ∧ (∀ a, A' = some a → w.heap.size ≤ a.block) ∧ Chg [] w w' := by
  have hl0 := h.len
  subst hl0
  obtain ⟨w1, hw1, c1, b1⟩ := news1 w (.cells #[.int .i64 0, .int .i64 0] 36)
  have W1 := Lib.hid hw1
  have HX := Lib.hid (h.chg c1 (by simp))
  have C1 := Lib.hid c1
  have F1 := Lib.hid b1
  have h2 : (2 : Int) ≤ (ys.length : Int) := by omega
  have h3 : ¬ ((ys.length : Int) < 2) := by omega
  have h4 : (2 : Int) ≤ (c : Int) := by omega
  have hmk : many < 65536 := by
    have := numB_lt 2 (ys.take 2) (by rw [List.length_take]; omega)
    omega
  have hne : ((ys.length : Int) == 2 + 9 * (many : Int)) = false := by simp; omega
  have RD := Lib.hid (show Bs w1 (some ⟨g, o, none⟩) 2 (ys.take 2) from by have := HX.out.part_ 0 2 (by omega); simpa using this)
  clear hw1 c1 b1 h hs
  rcases hV with ⟨hv, rfl⟩ | ⟨hv, rfl⟩
  · have hlt : (ys.length : Int) < 2 + 9 * (many : Int) := by omega
    clear hv hl
    go_enter Tryz.func48, Tryz.ntmps48
    go_wp2_with fail
    rw [← W1.out]
    refine (panumber_any _ _ 2 _ (ys.take 2) RD.out (by rw [List.length_take]; omega)).mono ?_
    rintro e w2 ⟨rfl, hcc⟩
    rw [← hm]
    clear hm
    have C2 := Lib.hid (C1.out.trans hcc)
    have F2 := Lib.hid (hcc.at_ F1.out (by simp))
    clear hcc W1 C1 F1 HX RD
    generalize hs0 : w.heap.size = s0 at *
    have HS0 := Lib.hid (Nat.le_of_eq hs0)
    clear hs0
    have hb := F2.out
    have z0 := cell_of hb 0
    have z1 := cell_of hb 1
    have f0 := free_of hb 0
    have f1 := free_of hb 1
    simp only [List.getElem?_toArray, List.getElem?_cons_succ, List.getElem?_cons_zero] at z0 z1
    have e0 := heap_setCell_same _ s0 0 _ _ (.int .i64 4) hb
    have e1 := heap_setCell_same _ s0 1 _ _ (.int .i64 ys.length) e0
    have HE : Hid (((w2.setCell ⟨s0, 0, none⟩ (.int .i64 4)).setCell ⟨s0, 1, none⟩ (.int .i64 ys.length)).heap[s0]? = some (.cells #[.int .i64 4, .int .i64 ys.length] 36 (0, 0))) := Lib.hid (by simpa using e1)
    have CW := Lib.hid (Chg.put (Chg.put C2.out HS0.out 0 (.int .i64 4)) HS0.out 1 (.int .i64 ys.length))
    clear hb e0 e1
    go_wp2
    try simp only [show min (ys.length : Int) (2 + 9 * (many : Int)) = (ys.length : Int) by omega]
    generalize (w2.setCell ⟨s0, 0, none⟩ (.int .i64 4)).setCell ⟨s0, 1, none⟩ (.int .i64 ys.length) = W at *
    clear z0 z1 f0 f1
    have z0 := cell_of HE.out 0
    have z1 := cell_of HE.out 1
    simp only [List.getElem?_toArray, List.getElem?_cons_succ, List.getElem?_cons_zero] at z0 z1
    refine bodyPost_ret (v := .tuple #[.slice none 0 0, .agg #[.int .i64 4, .int .i64 ys.length]]) (by simp [results, Tryz.results48, go_sem, z0, z1]) rfl ?_
    exact ⟨none, 0, rfl, OwnK.none_ _, by simp, CW.out⟩
  · have hlt : ¬ (ys.length : Int) < 2 + 9 * (many : Int) := by omega
    have hlt2 : 2 + 9 * (many : Int) < (ys.length : Int) := by omega
    have hlt3 : 2 + 9 * (many : Int) ≤ (ys.length : Int) := by omega
    clear hv hl
    go_enter Tryz.func48, Tryz.ntmps48
    go_wp2_with fail
    rw [← W1.out]
    refine (panumber_any _ _ 2 _ (ys.take 2) RD.out (by rw [List.length_take]; omega)).mono ?_
    rintro e w2 ⟨rfl, hcc⟩
    rw [← hm]
    clear hm
    have C2 := Lib.hid (C1.out.trans hcc)
    have F2 := Lib.hid (hcc.at_ F1.out (by simp))
    clear hcc W1 C1 F1 HX RD
    generalize hs0 : w.heap.size = s0 at *
    have HS0 := Lib.hid (Nat.le_of_eq hs0)
    clear hs0
    have hb := F2.out
    have z0 := cell_of hb 0
    have z1 := cell_of hb 1
    have f0 := free_of hb 0
    have f1 := free_of hb 1
    simp only [List.getElem?_toArray, List.getElem?_cons_succ, List.getElem?_cons_zero] at z0 z1
    have e0 := heap_setCell_same _ s0 0 _ _ (.int .i64 4) hb
    have e1 := heap_setCell_same _ s0 1 _ _ (.int .i64 (2 + 9 * (many : Int))) e0
    have HE : Hid (((w2.setCell ⟨s0, 0, none⟩ (.int .i64 4)).setCell ⟨s0, 1, none⟩ (.int .i64 (2 + 9 * (many : Int)))).heap[s0]? = some (.cells #[.int .i64 4, .int .i64 (2 + 9 * (many : Int))] 36 (0, 0))) := Lib.hid (by simpa using e1)
    have CW := Lib.hid (Chg.put (Chg.put C2.out HS0.out 0 (.int .i64 4)) HS0.out 1 (.int .i64 (2 + 9 * (many : Int))))
    clear hb e0 e1
    go_wp2
    try simp only [show min (ys.length : Int) (2 + 9 * (many : Int)) = 2 + 9 * (many : Int) by omega]
    generalize (w2.setCell ⟨s0, 0, none⟩ (.int .i64 4)).setCell ⟨s0, 1, none⟩ (.int .i64 (2 + 9 * (many : Int))) = W at *
    clear z0 z1 f0 f1
    have z0 := cell_of HE.out 0
    have z1 := cell_of HE.out 1
    simp only [List.getElem?_toArray, List.getElem?_cons_succ, List.getElem?_cons_zero] at z0 z1
    refine bodyPost_ret (v := .tuple #[.slice none 0 0, .agg #[.int .i64 4, .int .i64 (2 + 9 * (many : Int))]]) (by simp [results, Tryz.results48, go_sem, z0, z1]) rfl ?_
    exact ⟨none, 0, rfl, OwnK.none_ _, by simp, CW.out⟩

theorem paread_any (w : World) (A : Option Addr) (n c : Nat) (ys : List UInt8) (h : Bs w A n ys) (hn : n ≤ 140737488351232) (hc : n ≤ c) (hc2 : c ≤ 9223372036854775807) :
    Calls Tryz.prog 48 #[.slice A n c] w fun e w' => ∃ A' c', e = .returned (.tuple #[.slice A' (readS ys).1.length c', .agg #[.int .i64 (readS ys).2.1, .int .i64 (readS ys).2.2]]) ∧ OwnK spanTy w' A' c' (readS ys).1 ∧ (∀ a, A' = some a → w.heap.size ≤ a.block) ∧ Chg [] w w' := by
  have hl := h.len
  by_cases h2 : ys.length < 2
  · exact paread_short w A n c ys h h2
  obtain ⟨g, o, rfl⟩ := h.base (by omega)
  by_cases h3 : ys.length = 2 + 9 * numB (ys.take 2)
  · rcases readS_fine h2 h3 with ⟨hk, e⟩ | ⟨hk, e⟩ <;> rw [e]
    · exact paread_loop w g o n c ys h hn hc hc2 _ rfl h3 _ _ (.inl ⟨hk, rfl, rfl⟩)
    · exact paread_loop w g o n c ys h hn hc hc2 _ rfl h3 _ _ (.inr ⟨hk, rfl, rfl⟩)
  · rw [readS_odd h2 h3]
    refine paread_odd w g o n c ys h hn hc hc2 h2 _ rfl h3 _ ?_
    by_cases h4 : ys.length < 2 + 9 * numB (ys.take 2)
    · exact .inl ⟨h4, if_pos h4⟩
    · exact .inr ⟨by omega, if_neg h4⟩
end
section
open Go.RowKit Go.Lib
set_option linter.unusedSimpArgs false
set_option linter.unusedVariables false
end
section
open Go.RowKit Go.Lib
set_option linter.unusedSimpArgs false
set_option linter.unusedVariables false
end
section
open Go.RowKit Go.Lib
set_option linter.unusedSimpArgs false
set_option linter.unusedVariables false
end
section
open Go.RowKit Go.Lib
set_option linter.unusedSimpArgs false
set_option linter.unusedVariables false


def lastL (node : Int) (xs : List Sp) : Int := xs.foldl (fun n x => if x.1 = node then x.2.2 else n) 0
def Fin (xs : List Sp) : Prop := ∀ x ∈ xs, B3 x
end
section
open Go.RowKit Go.Lib
set_option linter.unusedSimpArgs false
set_option linter.unusedVariables false
end
section
open Go.RowKit Go.Lib
set_option linter.unusedSimpArgs false
set_option linter.unusedVariables false
end
section
open Go.RowKit Go.Lib
set_option linter.unusedSimpArgs false
set_option linter.unusedVariables false


def FineQ (n s : Int) : Prop := 1 ≤ n ∧ n ≤ 200 ∧ 1 ≤ s ∧ s ≤ 2147483647
instance (n s : Int) : Decidable (FineQ n s) := by unfold FineQ; exact inferInstance
end
section
open Go.RowKit Go.Lib
set_option linter.unusedSimpArgs false
set_option linter.unusedVariables false
end
section
open Go.RowKit Go.Lib
set_option linter.unusedSimpArgs false
set_option linter.unusedVariables false
end
section
open Go.RowKit Go.Lib
set_option linter.unusedSimpArgs false
set_option linter.unusedVariables false
end
section
set_option linter.unusedSimpArgs false
set_option linter.unusedVariables false
variable {α : Type} {R : RowTy α}
end
section
open Go.RowKit Go.Lib
set_option linter.unusedSimpArgs false
set_option linter.unusedVariables false
end
end Go.Proofs.YtcnbgdplkobenaaGreatDoor
