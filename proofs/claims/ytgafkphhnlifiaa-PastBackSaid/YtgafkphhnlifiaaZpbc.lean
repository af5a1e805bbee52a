/- The walk of past.Read. past.Read of all bytes. Sets of dots as lists of spans: plain functions. No function of the program is named here. Two sets of dots gone through at a time: plain functions. No function of the program is named here. Spans in any order made a past, as the document does it: plain functions. No function of the program is named here. The pasts that may be, as lists of spans in order. No memory here. past.Has: how a span lies to a dot. past.Has: a dot is looked for. past.Has. past: Count, Last. -/
import Derived.Test.YtgafkphhnlifiaaZpbb
import Derived.Deep.RegionHeld3
import Derived.Test.YtgafkphhnlifiaaZpba
namespace Go.Proofs.Ytgafkphhnlifiaa
section
open Go.RowKit Go.Lib
set_option linter.unusedSimpArgs false
set_option linter.unusedVariables false
set_option maxHeartbeats 4000000 in
set_option maxRecDepth 100000 in
theorem paread_loop (w : World) (g o n c : Nat) (ys : List UInt8) (h : Bs w (some ⟨g, o, none⟩) n ys) (hn : n ≤ 140737488351232) (hc : n ≤ c) (hc2 : c ≤ 9223372036854775807) (many : Nat) (hm : many = numB (ys.take 2)) (hl : ys.length = 2 + 9 * many) (L : List (Int × Int × Int)) (E : Int) (hck : (chkS (spansR ys many) = 0 ∧ L = spansR ys many ∧ E = 0) ∨ (chkS (spansR ys many) = 2 ∧ L = [] ∧ E = 2)) :
    Calls Try.prog 35 #[.slice (some ⟨g, o, none⟩) n c] w fun e w' => ∃ A' c', e = .returned (.tuple #[.slice A' L.length c', .agg #[.int .i64 E, .int .i64 0]]) ∧ OwnK spanTy w' A' c' L ∧ (∀ a, A' = some a → w.heap.size ≤ a.block) ∧ Chg [] w w' := by
  have HCK := Lib.hid hck
  clear hck
  have hl0 := h.len
  subst hl0
  obtain ⟨w1, hw1, c1, b1⟩ := news1 w (.cells #[.int .i64 0, .int .i64 0] 47)
  have W1 := Lib.hid hw1
  have HX := Lib.hid (h.chg c1 (by simp))
  have C1 := Lib.hid c1
  have F1 := Lib.hid b1
  have h2 : (2 : Int) ≤ (ys.length : Int) := by omega
  have h3 : ¬ ((ys.length : Int) < 2) := by omega
  have h4 : (2 : Int) ≤ (c : Int) := by omega
  have hmk : many < 65536 := by
    have := numB_lt 2 (ys.take 2) (by rw [List.length_take]; omega)
    omega
  have hne : ((ys.length : Int) == 2 + 9 * (many : Int)) = true := by simp; omega
  have RD := Lib.hid (show Bs w1 (some ⟨g, o, none⟩) 2 (ys.take 2) from by have := HX.out.part_ 0 2 (by omega); simpa using this)
  have hg0 : g < w.heap.size := by
    obtain ⟨a, e, hc⟩ := h.cells 0 _ (List.getElem?_eq_getElem (by omega))
    cases e
    have := lt_of_cell hc
    rwa [block_add] at this
  have HG1 := Lib.hid (Nat.lt_of_lt_of_le hg0 c1.size)
  clear hw1 c1 b1 h hg0
  go_enter Try.func35, Try.ntmps35
  go_wp2_with fail
  rw [← W1.out]
  refine (panumber_any _ _ 2 _ (ys.take 2) RD.out (by rw [List.length_take]; omega)).mono ?_
  rintro e w2 ⟨rfl, hcc⟩
  rw [← hm]
  have HM := Lib.hid hm
  clear hm
  have HG0 := Lib.hid (Nat.lt_of_lt_of_le HG1.out hcc.size)
  clear HG1
  have C2 := Lib.hid (C1.out.trans hcc)
  have F2 := Lib.hid (hcc.at_ F1.out (by simp))
  have HX2 := Lib.hid (HX.out.chg hcc (by simp))
  clear hcc W1 C1 F1 HX RD
  go_upto_region 6 with fail
  generalize hs0 : w.heap.size = s0 at *
  have HS0 := Lib.hid (Nat.le_of_eq hs0)
  clear hs0
  go_wp2
  go_loopw [5, 6] (fun v5 v6 wr => ∃ (k q : Nat) (B : Option Addr) (cc : Nat), k ≤ many ∧ v5 = .slice B k cc ∧ v6 = .int .i64 (q : Int) ∧ q = 2 + 9 * k ∧ Hid (OwnK spanTy wr B cc (spansR ys k) ∧ (∀ a, B = some a → w2.heap.size ≤ a.block) ∧ Chg [] w2 wr)) (fun v5 _ _ => many - (match v5 with | .slice _ k _ => k | _ => 0))
  case atStart => exact ⟨0, 2, none, 0, Nat.zero_le _, rfl, rfl, rfl, OwnK.none_ _, by simp, Chg.refl _ _⟩
  case round =>
    obtain ⟨k, q, B, cc, hk, rfl, rfl, hqk, HI⟩ := hrel
    generalize wr = w4 at *
    clear wr
    by_cases hlt : k < many
    · have hq : q < ys.length := by omega
      have ex := List.getElem?_eq_getElem hq
      have HX4 := Lib.hid (HX2.out.chg HI.out.2.2 (by simp))
      obtain ⟨ad, eA, hc⟩ := HX4.out.cells _ _ ex
      cases eA
      rw [add_lit] at hc
      have e1 : (ys.drop q).take 1 = [ys[q]] := by rw [List.drop_eq_getElem_cons hq]; rfl
      generalize ys[q] = x at *
      have E1 := Lib.hid e1
      unfold bv at hc
      have P1 := Lib.hid (HX4.out.part_ (q + 1) 4 (by omega))
      have P2 := Lib.hid (HX4.out.part_ (q + 5) 4 (by omega))
      have i0 : (0 : Int) ≤ (q : Int) := by omega
      have i1 : (q : Int) < (ys.length : Int) := by omega
      have i2 : (q : Int) + 1 ≤ (q : Int) + 5 := by omega
      have hcc : ys.length ≤ c := by omega
      have i3 : (q : Int) + 5 ≤ (c : Int) := by omega
      have i4 : (q : Int) + 9 ≤ (c : Int) := by omega
      have i5 : (q : Int) < 2 + 9 * (many : Int) := by omega
      have j0 : (0 : Int) ≤ (q : Int) + 1 := by omega
      have j1 : (0 : Int) ≤ (q : Int) + 5 := by omega
      have j2 : (q : Int) + 5 ≤ (q : Int) + 9 := by omega
      have j3 : ¬ c = q + 1 := by omega
      have j4 : ¬ q + 1 = c := by omega
      have j5 : ¬ c = q + 5 := by omega
      have j6 : ¬ q + 5 = c := by omega
      have j7 : q + 1 ≤ q + 5 := by omega
      have j8 : q + 5 ≤ c := by omega
      have j9 : q + 5 ≤ q + 9 := by omega
      have ja : q + 9 ≤ c := by omega
      have jb : IntKind.i64.wrap ((q : Int) + 1) = (q : Int) + 1 := IntWalk.i64_in _ (by omega)
      have jc : IntKind.i64.wrap ((q : Int) + 5) = (q : Int) + 5 := IntWalk.i64_in _ (by omega)
      have jd : IntKind.i64.wrap ((q : Int) + 9) = (q : Int) + 9 := IntWalk.i64_in _ (by omega)
      have nt1 : ((q : Int) + 1).toNat = q + 1 := by omega
      have nt5 : ((q : Int) + 5).toNat = q + 5 := by omega
      have nt9 : ((q : Int) + 9).toNat = q + 9 := by omega
      have nl1 : q + 5 - (q + 1) = 4 := by omega
      have nl2 : q + 9 - (q + 5) = 4 := by omega
      have HQ := Lib.hid hqk
      clear ex e1 hq hqk
      have hsp : spanAt ys q = ((x.toNat : Int), (numB ((ys.drop (q + 1)).take 4) : Int), (numB ((ys.drop (q + 5)).take 4) : Int)) := by
        unfold spanAt
        rw [E1.out]
        simp [numB]
      have HSP := Lib.hid hsp
      have LR1 := Lib.hid (spansR_len ys k)
      have BND := Lib.hid (show (k + 1) * 400 ≤ 140737488355327 by omega)
      have hgB : g ∉ (B.map (·.block)).toList := by
        cases B with
        | none => simp
        | some a =>
          have h1 := HI.out.2.1 a rfl
          have h2 := HG0.out
          simp
          omega
      have HB := Lib.hid hgB
      have HWX := Lib.hid (show IntKind.i64.wrap (x.toNat : Int) = (x.toNat : Int) from IntWalk.i64_in _ (by have := x.toNat_lt; omega))
      have hk4 : ∀ w', Chg (B.map (·.block)).toList w4 w' → w'.cell? ⟨g, o + q, none⟩ = some (.int .u8 (x.toNat : Int)) := fun w' h => h.cell hc (by exact HB.out)
      have HK := Lib.hid hk4
      have LT1 := Lib.hid (show ((ys.drop (q + 1)).take 4).length ≤ 4 by rw [List.length_take]; omega)
      have LT2 := Lib.hid (show ((ys.drop (q + 5)).take 4).length ≤ 4 by rw [List.length_take]; omega)
      clear hsp hk4 hc hgB
      generalize (ys.drop (q + 1)).take 4 = l1 at *
      generalize (ys.drop (q + 5)).take 4 = l2 at *
      go_upto_region 10 with fail
      refine wp_region_held_drew (S := fun w' => Chg (B.map (·.block)).toList w4 w') (by kernel_rfl) (Chg.refl _ w4).drew (fun hHeld => ?_)
      have C4 := Lib.hid ((Chg.refl [] w4).drew)
      clear hHeld
      refine step_yes 0 33 ?_ (C4.out.mono (by simp)) rfl rfl (by kernel_rfl) (by kernel_rfl) (by kernel_rfl) (fun _ _ _ h => h) (by rfl) ?_ ?_
      rotate_left
      · (intro w hSw; (try dsimp only at hSw); go_simp; try with_reducible rfl)
      try simp only [Act.put, List.setIfInBounds_toArray, List.set_cons_zero, List.set_cons_succ]
      refine step_yes 1 34 ?_ (C4.out.mono (by simp)) rfl rfl (by kernel_rfl) (by kernel_rfl) (by kernel_rfl) (fun _ _ _ h => h) (by rfl) ?_ ?_
      rotate_left
      · (intro w hSw; (try dsimp only at hSw); go_simp; try with_reducible rfl)
      try simp only [Act.put, List.setIfInBounds_toArray, List.set_cons_zero, List.set_cons_succ]
      refine step_yes 2 35 ?_ (C4.out.mono (by simp)) rfl rfl (by kernel_rfl) (by kernel_rfl) (by kernel_rfl) (fun _ _ _ h => h) (by rfl) ?_ ?_
      rotate_left
      · (intro w hSw; (try dsimp only at hSw); go_simp; try with_reducible rfl)
      try simp only [Act.put, List.setIfInBounds_toArray, List.set_cons_zero, List.set_cons_succ]
      refine step_yes 3 36 ?_ (C4.out.mono (by simp)) rfl rfl (by kernel_rfl) (by kernel_rfl) (by kernel_rfl) (fun _ _ _ h => h) (by rfl) ?_ ?_
      rotate_left
      · (intro w hSw; (try dsimp only at hSw); go_simp; try with_reducible rfl)
      try simp only [Act.put, List.setIfInBounds_toArray, List.set_cons_zero, List.set_cons_succ]
      refine step_yes 4 37 ?_ (C4.out.mono (by simp)) rfl rfl (by kernel_rfl) (by kernel_rfl) (by kernel_rfl) (fun _ _ _ h => h) (by rfl) ?_ ?_
      rotate_left
      · (intro w hSw; (try dsimp only at hSw); have hq0 := HK.out _ hSw; go_simp; try with_reducible rfl)
      try simp only [Act.put, List.setIfInBounds_toArray, List.set_cons_zero, List.set_cons_succ]
      refine step_yes 5 38 ?_ (C4.out.mono (by simp)) rfl rfl (by kernel_rfl) (by kernel_rfl) (by kernel_rfl) (fun _ _ _ h => h) (by rfl) ?_ ?_
      rotate_left
      · (intro w hSw; (try dsimp only at hSw); go_simp; try with_reducible rfl)
      try simp only [Act.put, List.setIfInBounds_toArray, List.set_cons_zero, List.set_cons_succ]
      refine step_yes 6 39 ?_ (C4.out.mono (by simp)) rfl rfl (by kernel_rfl) (by kernel_rfl) (by kernel_rfl) (fun _ _ _ h => h) (by rfl) ?_ ?_
      rotate_left
      · (intro w hSw; (try dsimp only at hSw); go_simp; try with_reducible rfl)
      try simp only [Act.put, List.setIfInBounds_toArray, List.set_cons_zero, List.set_cons_succ]
      refine step_yes 7 40 ?_ (C4.out.mono (by simp)) rfl rfl (by kernel_rfl) (by kernel_rfl) (by kernel_rfl) (fun _ _ _ h => h) (by rfl) ?_ ?_
      rotate_left
      · (intro w hSw; (try dsimp only at hSw); go_simp; try with_reducible rfl)
      try simp only [Act.put, List.setIfInBounds_toArray, List.set_cons_zero, List.set_cons_succ]
      refine step_yes 8 41 ?_ (C4.out.mono (by simp)) rfl rfl (by kernel_rfl) (by kernel_rfl) (by kernel_rfl) (fun _ _ _ h => h) (by rfl) ?_ ?_
      rotate_left
      · (intro w hSw; (try dsimp only at hSw); go_simp; try with_reducible rfl)
      try simp only [Act.put, List.setIfInBounds_toArray, List.set_cons_zero, List.set_cons_succ]
      refine step_yes 9 42 ?_ (C4.out.mono (by simp)) rfl rfl (by kernel_rfl) (by kernel_rfl) (by kernel_rfl) (fun _ _ _ h => h) (by rfl) ?_ ?_
      rotate_left
      · (intro w hSw; (try dsimp only at hSw); go_simp; try with_reducible rfl)
      try simp only [Act.put, List.setIfInBounds_toArray, List.set_cons_zero, List.set_cons_succ]
      refine step_yes 10 43 ?_ (C4.out.mono (by simp)) rfl rfl (by kernel_rfl) (by kernel_rfl) (by kernel_rfl) (fun _ _ _ h => h) (by rfl) ?_ ?_
      rotate_left
      · (intro w hSw; (try dsimp only at hSw); go_simp; try with_reducible rfl)
      try simp only [Act.put, List.setIfInBounds_toArray, List.set_cons_zero, List.set_cons_succ]
      refine step_yes 11 44 ?_ (C4.out.mono (by simp)) rfl rfl (by kernel_rfl) (by kernel_rfl) (by kernel_rfl) (fun _ _ _ h => h) (by rfl) ?_ ?_
      rotate_left
      · (intro w hSw; (try dsimp only at hSw); go_simp; try with_reducible rfl)
      try simp only [Act.put, List.setIfInBounds_toArray, List.set_cons_zero, List.set_cons_succ]
      refine step_yes 13 46 ?_ (C4.out.mono (by simp)) rfl rfl (by kernel_rfl) (by kernel_rfl) (by kernel_rfl) (fun _ _ _ h => h) (by rfl) ?_ ?_
      rotate_left
      · (intro w hSw; (try dsimp only at hSw); go_simp; try with_reducible rfl)
      try simp only [Act.put, List.setIfInBounds_toArray, List.set_cons_zero, List.set_cons_succ]
      refine step_yes 14 47 ?_ (C4.out.mono (by simp)) rfl rfl (by kernel_rfl) (by kernel_rfl) (by kernel_rfl) (fun _ _ _ h => h) (by rfl) ?_ ?_
      rotate_left
      · (intro w hSw; (try dsimp only at hSw); go_simp; try with_reducible rfl)
      try simp only [Act.put, List.setIfInBounds_toArray, List.set_cons_zero, List.set_cons_succ]
      refine step_yes 15 48 ?_ (C4.out.mono (by simp)) rfl rfl (by kernel_rfl) (by kernel_rfl) (by kernel_rfl) (fun _ _ _ h => h) (by rfl) ?_ ?_
      rotate_left
      · (intro w hSw; (try dsimp only at hSw); go_simp; try with_reducible rfl)
      try simp only [Act.put, List.setIfInBounds_toArray, List.set_cons_zero, List.set_cons_succ]
      refine step_yes 16 49 ?_ (C4.out.mono (by simp)) rfl rfl (by kernel_rfl) (by kernel_rfl) (by kernel_rfl) (fun _ _ _ h => h) (by rfl) ?_ ?_
      rotate_left
      · (intro w hSw; (try dsimp only at hSw); go_simp; try with_reducible rfl)
      try simp only [Act.put, List.setIfInBounds_toArray, List.set_cons_zero, List.set_cons_succ]
      refine step_yes 17 50 ?_ (C4.out.mono (by simp)) rfl rfl (by kernel_rfl) (by kernel_rfl) (by kernel_rfl) (fun _ _ _ h => h) (by rfl) ?_ ?_
      rotate_left
      · (intro w hSw; (try dsimp only at hSw); go_simp; try with_reducible rfl)
      try simp only [Act.put, List.setIfInBounds_toArray, List.set_cons_zero, List.set_cons_succ]
      refine step_yes 18 51 ?_ (C4.out.mono (by simp)) rfl rfl (by kernel_rfl) (by kernel_rfl) (by kernel_rfl) (fun _ _ _ h => h) (by rfl) ?_ ?_
      rotate_left
      · (intro w hSw; (try dsimp only at hSw); go_simp; try with_reducible rfl)
      try simp only [Act.put, List.setIfInBounds_toArray, List.set_cons_zero, List.set_cons_succ]
      refine wpAnyH_ready (rs := [12]) (by kernel_rfl) (by simp) ?_
      refine AllReadyH.cons rfl (fun K hK => ?_) AllReadyH.nil
      replace hK := Lib.hid hK
      go_simp
      refine (panumber_any _ _ 4 _ l1 (P1.out.chg C4.out (by simp)) LT1.out).mono ?_
      rintro e w9 ⟨rfl, hc⟩
      have C9 := Lib.hid (C4.out.trans hc)
      clear hc C4
      refine hK.out _ _ (C9.out.mono (by simp)) (fun hHeld => ?_)
      clear hK K
      try simp only [Act.put, List.setIfInBounds_toArray, List.set_cons_zero, List.set_cons_succ]
      clear hHeld
      refine wpAnyH_ready (rs := [19]) (by kernel_rfl) (by simp) ?_
      refine AllReadyH.cons rfl (fun K hK => ?_) AllReadyH.nil
      replace hK := Lib.hid hK
      go_simp
      refine (panumber_any _ _ 4 _ l2 (P2.out.chg C9.out (by simp)) LT2.out).mono ?_
      rintro e v9 ⟨rfl, hc⟩
      have C8 := Lib.hid (C9.out.trans hc)
      clear hc C9
      refine hK.out _ _ (C8.out.mono (by simp)) (fun hHeld => ?_)
      clear hK K
      try simp only [Act.put, List.setIfInBounds_toArray, List.set_cons_zero, List.set_cons_succ]
      clear hHeld
      refine step_yes 20 53 ?_ (C8.out.mono (by simp)) rfl rfl (by kernel_rfl) (by kernel_rfl) (by kernel_rfl) (fun _ _ _ h => h) (by rfl) ?_ ?_
      rotate_left
      · (intro w hSw; (try dsimp only at hSw); go_simp; try with_reducible rfl)
      try simp only [Act.put, List.setIfInBounds_toArray, List.set_cons_zero, List.set_cons_succ]
      refine wpAnyH_ready (rs := [21]) (by kernel_rfl) (by simp) ?_
      refine AllReadyH.cons rfl (fun K hK => ?_) AllReadyH.nil
      replace hK := Lib.hid hK
      go_simp
      obtain ⟨w5, hw5, c5, b5⟩ := news1 v9 (.cells #[.int .i64 (x.toNat : Int), .int .i64 (numB l1 : Int), .int .i64 (numB l2 : Int)] 62)
      simp only [HWX.out]
      rw [← hw5]
      have C5 := Lib.hid (C8.out.trans c5)
      refine hK.out _ _ (C5.out.mono (by simp)) (fun hHeld => ?_)
      clear hK K hHeld
      try simp only [Act.put, List.setIfInBounds_toArray, List.set_cons_zero, List.set_cons_succ]
      have R5 := Lib.hid (OwnK.of (R := spanTy) (c := 1) (full := [((x.toNat : Int), (numB l1 : Int), (numB l2 : Int))]) (xs := [((x.toNat : Int), (numB l1 : Int), (numB l2 : Int))]) b5 (Nat.le_refl _) (by decide) rfl rfl).reads
      have O5 := Lib.hid (HI.out.1.chg C5.out (by simp))
      clear hw5 c5 b5 C8
      refine wpAnyH_ready (rs := [22]) (by kernel_rfl) (by simp) ?_
      refine AllReadyH.cons rfl (fun K hK => ?_) AllReadyH.nil
      replace hK := Lib.hid hK
      refine step_appK (R := spanTy) rfl (.tmp 33) (.tmp 54) rfl rfl O5.out LR1.out rfl R5.out BND.out ?_
      intro A2 c2 w7 u2 d2 e2
      have C7 := Lib.hid ((C5.out.mono (S' := (B.map (·.block)).toList) (by simp)).grown d2 (fun k hk => .inl (by simp [hk])))
      have AO := app_own (w := w2) HI.out.2.1 (HI.out.2.2.trans C5.out) d2 e2
      have U2 := Lib.hid u2
      have AO2 := Lib.hid AO
      clear u2 d2 e2 AO
      refine hK.out _ _ C7.out (fun hHeld => ?_)
      clear hK K hHeld
      try simp only [Act.put, List.setIfInBounds_toArray, List.set_cons_zero, List.set_cons_succ]
      refine step_yes 23 5 ?_ C7.out rfl rfl (by kernel_rfl) (by kernel_rfl) (by kernel_rfl) (fun _ _ _ h => h) (by rfl) ?_ ?_
      rotate_left
      · (intro w hSw; (try dsimp only at hSw); go_simp; try with_reducible rfl)
      try simp only [Act.put, List.setIfInBounds_toArray, List.set_cons_zero, List.set_cons_succ]
      refine wpAnyH_done (by kernel_rfl) ?_ _
      go_wp2
      go_round
      case rel => exact ⟨k + 1, q + 9, A2, c2, by omega, by congr 1, by go_num, by have := HQ.out; omega, by rw [spansR_succ, ← HQ.out, HSP.out]; exact U2.out, AO2.out.1, AO2.out.2⟩
      case measure => simp; omega
    · obtain rfl : k = many := by omega
      have hw2l := HI.out.1.reads
      go_wp2_with fail
      refine (pacheck_any _ B _ cc (spansR ys k) (by have := hw2l; rwa [spansR_len] at this) (by omega)).mono ?_
      rintro e w5 ⟨rfl, hc5⟩
      rcases HCK.out with ⟨hk0, hL, hE⟩ | ⟨hk0, hL, hE⟩
      · rw [hk0]
        clear HCK hw2l hk0
        subst hL hE
        have hb := hc5.at_ (HI.out.2.2.at_ F2.out (by simp)) (by simp)
        have z0 := cell_of hb 0
        have z1 := cell_of hb 1
        have f0 := free_of hb 0
        have f1 := free_of hb 1
        simp only [List.getElem?_toArray, List.getElem?_cons_succ, List.getElem?_cons_zero] at z0 z1
        have e0 := heap_setCell_same _ s0 0 _ _ (.int .i64 0) hb
        have e1 := heap_setCell_same _ s0 1 _ _ (.int .i64 0) e0
        have HE : Hid (((w5.setCell ⟨s0, 0, none⟩ (.int .i64 0)).setCell ⟨s0, 1, none⟩ (.int .i64 0)).heap[s0]? = some (.cells #[.int .i64 0, .int .i64 0] 47 (0, 0))) := Lib.hid (by simpa using e1)
        have CW := Lib.hid (Chg.put (Chg.put (C2.out.trans (HI.out.2.2.trans hc5)) HS0.out 0 (.int .i64 0)) HS0.out 1 (.int .i64 0))
        have CS := ((Chg.refl [s0] w5).setCell (p := ⟨s0, 0, none⟩) (.inl (by simp)) (.int .i64 0)).setCell (p := ⟨s0, 1, none⟩) (.inl (by simp)) (.int .i64 0)
        have OF := Lib.hid ((HI.out.1.chg hc5 (by simp)).chg CS (fun a ha => by
          have h1 := HI.out.2.1 a ha
          have h2 := lt_of_heap F2.out
          simp
          omega))
        have NF := Lib.hid (fun a (ha : B = some a) => Nat.le_trans C2.out.size (HI.out.2.1 a ha))
        have LF := Lib.hid (spansR_len ys k)
        clear hb e0 e1 CS hc5
        go_wp2
        generalize (w5.setCell ⟨s0, 0, none⟩ (.int .i64 0)).setCell ⟨s0, 1, none⟩ (.int .i64 0) = W at *
        clear z0 z1 f0 f1
        have z0 := cell_of HE.out 0
        have z1 := cell_of HE.out 1
        simp only [List.getElem?_toArray, List.getElem?_cons_succ, List.getElem?_cons_zero] at z0 z1
        refine bodyPost_ret (v := .tuple #[.slice B k cc, .agg #[.int .i64 0, .int .i64 0]]) (by simp [results, Try.results35, go_sem, z0, z1]) rfl ?_
        exact ⟨B, cc, by rw [LF.out], OF.out, NF.out, CW.out⟩
      · rw [hk0]
        clear HCK hw2l hk0
        subst hL hE
        have hb := hc5.at_ (HI.out.2.2.at_ F2.out (by simp)) (by simp)
        have z0 := cell_of hb 0
        have z1 := cell_of hb 1
        have f0 := free_of hb 0
        have f1 := free_of hb 1
        simp only [List.getElem?_toArray, List.getElem?_cons_succ, List.getElem?_cons_zero] at z0 z1
        have e0 := heap_setCell_same _ s0 0 _ _ (.int .i64 2) hb
        have e1 := heap_setCell_same _ s0 1 _ _ (.int .i64 0) e0
        have HE : Hid (((w5.setCell ⟨s0, 0, none⟩ (.int .i64 2)).setCell ⟨s0, 1, none⟩ (.int .i64 0)).heap[s0]? = some (.cells #[.int .i64 2, .int .i64 0] 47 (0, 0))) := Lib.hid (by simpa using e1)
        have CW := Lib.hid (Chg.put (Chg.put (C2.out.trans (HI.out.2.2.trans hc5)) HS0.out 0 (.int .i64 2)) HS0.out 1 (.int .i64 0))
        have CS := ((Chg.refl [s0] w5).setCell (p := ⟨s0, 0, none⟩) (.inl (by simp)) (.int .i64 2)).setCell (p := ⟨s0, 1, none⟩) (.inl (by simp)) (.int .i64 0)
        clear hb e0 e1 CS hc5
        go_wp2
        generalize (w5.setCell ⟨s0, 0, none⟩ (.int .i64 2)).setCell ⟨s0, 1, none⟩ (.int .i64 0) = W at *
        clear z0 z1 f0 f1
        have z0 := cell_of HE.out 0
        have z1 := cell_of HE.out 1
        simp only [List.getElem?_toArray, List.getElem?_cons_succ, List.getElem?_cons_zero] at z0 z1
        refine bodyPost_ret (v := .tuple #[.slice none 0 0, .agg #[.int .i64 2, .int .i64 0]]) (by simp [results, Try.results35, go_sem, z0, z1]) rfl ?_
        exact ⟨none, 0, rfl, OwnK.none_ _, by simp, CW.out⟩
end
section
open Go.RowKit Go.Lib
set_option linter.unusedSimpArgs false
set_option linter.unusedVariables false


/-- What bytes are read as: a past, what is wrong, and where. -/
def readS (ys : List UInt8) : List (Int × Int × Int) × (Int × Int) :=
  if ys.length < 2 then ([], (4, (ys.length : Int)))
  else if ys.length = 2 + 9 * numB (ys.take 2) then (if chkS (spansR ys (numB (ys.take 2))) = 0 then (spansR ys (numB (ys.take 2)), (0, 0)) else ([], (2, 0)))
  else ([], (4, if ys.length < 2 + 9 * numB (ys.take 2) then (ys.length : Int) else ((2 + 9 * numB (ys.take 2) : Nat) : Int)))
theorem readS_short {ys : List UInt8} (h : ys.length < 2) : readS ys = ([], (4, (ys.length : Int))) := if_pos h
theorem readS_odd {ys : List UInt8} (h : ¬ ys.length < 2) (h2 : ys.length ≠ 2 + 9 * numB (ys.take 2)) : readS ys = ([], (4, if ys.length < 2 + 9 * numB (ys.take 2) then (ys.length : Int) else ((2 + 9 * numB (ys.take 2) : Nat) : Int))) := by
  unfold readS
  rw [if_neg h, if_neg h2]
theorem readS_fine {ys : List UInt8} (h : ¬ ys.length < 2) (h2 : ys.length = 2 + 9 * numB (ys.take 2)) :
    (chkS (spansR ys (numB (ys.take 2))) = 0 ∧ readS ys = (spansR ys (numB (ys.take 2)), (0, 0))) ∨ (chkS (spansR ys (numB (ys.take 2))) = 2 ∧ readS ys = ([], (2, 0))) := by
  unfold readS
  rw [if_neg h, if_pos h2]
  by_cases hk : chkS (spansR ys (numB (ys.take 2))) = 0
  · rw [if_pos hk]; exact .inl ⟨hk, rfl⟩
  · rw [if_neg hk]; exact .inr ⟨chkS_odd hk, rfl⟩
theorem Bs.base {w : World} {A : Option Addr} {n : Nat} {ys : List UInt8} (h : Bs w A n ys) (hn : 0 < n) : ∃ g o, A = some ⟨g, o, none⟩ := by
  have hl := h.len
  obtain ⟨ad, rfl, hc⟩ := h.cells 0 _ (List.getElem?_eq_getElem (by omega))
  have hsp := World.cell?_spot hc
  obtain ⟨g, o, sp⟩ := ad
  have hsp : sp = none := by simpa [Addr.add] using hsp
  subst hsp
  exact ⟨g, o, rfl⟩

theorem paread_short (w : World) (A : Option Addr) (n c : Nat) (ys : List UInt8) (h : Bs w A n ys) (h2 : ys.length < 2) :
    Calls Try.prog 35 #[.slice A n c] w fun e w' => ∃ A' c', e = .returned (.tuple #[.slice A' (readS ys).1.length c', .agg #[.int .i64 (readS ys).2.1, .int .i64 (readS ys).2.2]]) ∧ OwnK spanTy w' A' c' (readS ys).1 ∧ (∀ a, A' = some a → w.heap.size ≤ a.block) ∧ Chg [] w w' := by
  rw [readS_short h2]
  have hl := h.len
  subst hl
  have h3 : (ys.length : Int) < 2 := by omega
  clear h h2
  go_enter Try.func35, Try.ntmps35
  go_wp2
  refine bodyPost_ret (v := .tuple #[.slice none 0 0, .agg #[.int .i64 4, .int .i64 ys.length]]) (by simp [results, Try.results35, go_sem]) rfl ?_
  exact ⟨none, 0, rfl, OwnK.none_ _, by simp, (Chg.refl _ _).alloc _⟩

set_option maxHeartbeats 2000000 in
set_option maxRecDepth 100000 in
theorem paread_odd (w : World) (g o n c : Nat) (ys : List UInt8) (h : Bs w (some ⟨g, o, none⟩) n ys) (hn : n ≤ 140737488351232) (hc : n ≤ c) (hc2 : c ≤ 9223372036854775807) (hs : ¬ ys.length < 2) (many : Nat) (hm : many = numB (ys.take 2)) (hl : ys.length ≠ 2 + 9 * many) (V : Int) (hV : (ys.length < 2 + 9 * many ∧ V = ys.length) ∨ (2 + 9 * many < ys.length ∧ V = ((2 + 9 * many : Nat) : Int))) :
    Calls Try.prog 35 #[.slice (some ⟨g, o, none⟩) n c] w fun e w' => ∃ A' c', e = .returned (.tuple #[.slice A' 0 c', .agg #[.int .i64 4, .int .i64 V]]) ∧ OwnK spanTy w' A' c' [] ∧ (∀ a, A' = some a → w.heap.size ≤ a.block) ∧ Chg [] w w' := by
  have hl0 := h.len
  subst hl0
  obtain ⟨w1, hw1, c1, b1⟩ := news1 w (.cells #[.int .i64 0, .int .i64 0] 47)
  have W1 := Lib.hid hw1
  have HX := Lib.hid (h.chg c1 (by simp))
  have C1 := Lib.hid c1
  have F1 := Lib.hid b1
  have h2 : (2 : Int) ≤ (ys.length : Int) := by omega
  have h3 : ¬ ((ys.length : Int) < 2) := by omega
  have h4 : (2 : Int) ≤ (c : Int) := by omega
  have hmk : many < 65536 := by
    have := numB_lt 2 (ys.take 2) (by rw [List.length_take]; omega)
    omega
  have hne : ((ys.length : Int) == 2 + 9 * (many : Int)) = false := by simp; omega
  have RD := Lib.hid (show Bs w1 (some ⟨g, o, none⟩) 2 (ys.take 2) from by have := HX.out.part_ 0 2 (by omega); simpa using this)
  clear hw1 c1 b1 h hs
  rcases hV with ⟨hv, rfl⟩ | ⟨hv, rfl⟩
  · have hlt : (ys.length : Int) < 2 + 9 * (many : Int) := by omega
    clear hv hl
    go_enter Try.func35, Try.ntmps35
    go_wp2_with fail
    rw [← W1.out]
    refine (panumber_any _ _ 2 _ (ys.take 2) RD.out (by rw [List.length_take]; omega)).mono ?_
    rintro e w2 ⟨rfl, hcc⟩
    rw [← hm]
    clear hm
    have C2 := Lib.hid (C1.out.trans hcc)
    have F2 := Lib.hid (hcc.at_ F1.out (by simp))
    clear hcc W1 C1 F1 HX RD
    generalize hs0 : w.heap.size = s0 at *
    have HS0 := Lib.hid (Nat.le_of_eq hs0)
    clear hs0
    have hb := F2.out
    have z0 := cell_of hb 0
    have z1 := cell_of hb 1
    have f0 := free_of hb 0
    have f1 := free_of hb 1
    simp only [List.getElem?_toArray, List.getElem?_cons_succ, List.getElem?_cons_zero] at z0 z1
    have e0 := heap_setCell_same _ s0 0 _ _ (.int .i64 4) hb
    have e1 := heap_setCell_same _ s0 1 _ _ (.int .i64 ys.length) e0
    have HE : Hid (((w2.setCell ⟨s0, 0, none⟩ (.int .i64 4)).setCell ⟨s0, 1, none⟩ (.int .i64 ys.length)).heap[s0]? = some (.cells #[.int .i64 4, .int .i64 ys.length] 47 (0, 0))) := Lib.hid (by simpa using e1)
    have CW := Lib.hid (Chg.put (Chg.put C2.out HS0.out 0 (.int .i64 4)) HS0.out 1 (.int .i64 ys.length))
    clear hb e0 e1
    go_wp2
    generalize (w2.setCell ⟨s0, 0, none⟩ (.int .i64 4)).setCell ⟨s0, 1, none⟩ (.int .i64 ys.length) = W at *
    clear z0 z1 f0 f1
    have z0 := cell_of HE.out 0
    have z1 := cell_of HE.out 1
    simp only [List.getElem?_toArray, List.getElem?_cons_succ, List.getElem?_cons_zero] at z0 z1
    refine bodyPost_ret (v := .tuple #[.slice none 0 0, .agg #[.int .i64 4, .int .i64 ys.length]]) (by simp [results, Try.results35, go_sem, z0, z1]) rfl ?_
    exact ⟨none, 0, rfl, OwnK.none_ _, by simp, CW.out⟩
  · have hlt : ¬ (ys.length : Int) < 2 + 9 * (many : Int) := by omega
    have hlt2 : 2 + 9 * (many : Int) < (ys.length : Int) := by omega
    have hlt3 : 2 + 9 * (many : Int) ≤ (ys.length : Int) := by omega
    clear hv hl
    go_enter Try.func35, Try.ntmps35
    go_wp2_with fail
    rw [← W1.out]
    refine (panumber_any _ _ 2 _ (ys.take 2) RD.out (by rw [List.length_take]; omega)).mono ?_
    rintro e w2 ⟨rfl, hcc⟩
    rw [← hm]
    clear hm
    have C2 := Lib.hid (C1.out.trans hcc)
    have F2 := Lib.hid (hcc.at_ F1.out (by simp))
    clear hcc W1 C1 F1 HX RD
    generalize hs0 : w.heap.size = s0 at *
    have HS0 := Lib.hid (Nat.le_of_eq hs0)
    clear hs0
    have hb := F2.out
    have z0 := cell_of hb 0
    have z1 := cell_of hb 1
    have f0 := free_of hb 0
    have f1 := free_of hb 1
    simp only [List.getElem?_toArray, List.getElem?_cons_succ, List.getElem?_cons_zero] at z0 z1
    have e0 := heap_setCell_same _ s0 0 _ _ (.int .i64 4) hb
    have e1 := heap_setCell_same _ s0 1 _ _ (.int .i64 (2 + 9 * (many : Int))) e0
    have HE : Hid (((w2.setCell ⟨s0, 0, none⟩ (.int .i64 4)).setCell ⟨s0, 1, none⟩ (.int .i64 (2 + 9 * (many : Int)))).heap[s0]? = some (.cells #[.int .i64 4, .int .i64 (2 + 9 * (many : Int))] 47 (0, 0))) := Lib.hid (by simpa using e1)
    have CW := Lib.hid (Chg.put (Chg.put C2.out HS0.out 0 (.int .i64 4)) HS0.out 1 (.int .i64 (2 + 9 * (many : Int))))
    clear hb e0 e1
    go_wp2
    generalize (w2.setCell ⟨s0, 0, none⟩ (.int .i64 4)).setCell ⟨s0, 1, none⟩ (.int .i64 (2 + 9 * (many : Int))) = W at *
    clear z0 z1 f0 f1
    have z0 := cell_of HE.out 0
    have z1 := cell_of HE.out 1
    simp only [List.getElem?_toArray, List.getElem?_cons_succ, List.getElem?_cons_zero] at z0 z1
    refine bodyPost_ret (v := .tuple #[.slice none 0 0, .agg #[.int .i64 4, .int .i64 (2 + 9 * (many : Int))]]) (by simp [results, Try.results35, go_sem, z0, z1]) rfl ?_
    exact ⟨none, 0, rfl, OwnK.none_ _, by simp, CW.out⟩

theorem paread_any (w : World) (A : Option Addr) (n c : Nat) (ys : List UInt8) (h : Bs w A n ys) (hn : n ≤ 140737488351232) (hc : n ≤ c) (hc2 : c ≤ 9223372036854775807) :
    Calls Try.prog 35 #[.slice A n c] w fun e w' => ∃ A' c', e = .returned (.tuple #[.slice A' (readS ys).1.length c', .agg #[.int .i64 (readS ys).2.1, .int .i64 (readS ys).2.2]]) ∧ OwnK spanTy w' A' c' (readS ys).1 ∧ (∀ a, A' = some a → w.heap.size ≤ a.block) ∧ Chg [] w w' := by
  have hl := h.len
  by_cases h2 : ys.length < 2
  · exact paread_short w A n c ys h h2
  obtain ⟨g, o, rfl⟩ := h.base (by omega)
  by_cases h3 : ys.length = 2 + 9 * numB (ys.take 2)
  · rcases readS_fine h2 h3 with ⟨hk, e⟩ | ⟨hk, e⟩ <;> rw [e]
    · exact paread_loop w g o n c ys h hn hc hc2 _ rfl h3 _ _ (.inl ⟨hk, rfl, rfl⟩)
    · exact paread_loop w g o n c ys h hn hc hc2 _ rfl h3 _ _ (.inr ⟨hk, rfl, rfl⟩)
  · rw [readS_odd h2 h3]
    refine paread_odd w g o n c ys h hn hc hc2 h2 _ rfl h3 _ ?_
    by_cases h4 : ys.length < 2 + 9 * numB (ys.take 2)
    · exact .inl ⟨h4, if_pos h4⟩
    · exact .inr ⟨by omega, if_neg h4⟩
end
section
set_option linter.unusedSimpArgs false
set_option linter.unusedVariables false

abbrev Sp := Int × Int × Int
/-- The first is ahead of the second, and does not touch it. -/
def Ap (x y : Sp) : Prop := x.1 < y.1 ∨ x.1 = y.1 ∧ x.2.2 + 1 < y.2.1
instance (x y : Sp) : Decidable (Ap x y) := by unfold Ap; exact inferInstance
def SpOk (x : Sp) : Prop := x.2.1 ≤ x.2.2
/-- Spans in order, none empty, no two touch. -/
def Norm (l : List Sp) : Prop := (∀ x ∈ l, SpOk x) ∧ l.Pairwise Ap
def InS (x : Sp) (n s : Int) : Prop := x.1 = n ∧ x.2.1 ≤ s ∧ s ≤ x.2.2
instance (x : Sp) (n s : Int) : Decidable (InS x n s) := by unfold InS; exact inferInstance
def Mem (l : List Sp) (n s : Int) : Prop := ∃ x ∈ l, InS x n s
instance (l : List Sp) (n s : Int) : Decidable (Mem l n s) := by unfold Mem; exact inferInstance
theorem mem_nil {n s : Int} : ¬ Mem [] n s := by rintro ⟨x, h, _⟩; exact absurd h (by simp)
theorem mem_cons {x : Sp} {l : List Sp} {n s : Int} : Mem (x :: l) n s ↔ InS x n s ∨ Mem l n s := by
  unfold Mem
  constructor
  · rintro ⟨y, hy, hi⟩
    rcases List.mem_cons.1 hy with rfl | h
    · exact .inl hi
    · exact .inr ⟨y, h, hi⟩
  · rintro (h | ⟨y, hy, hi⟩)
    · exact ⟨x, by simp, h⟩
    · exact ⟨y, by simp [hy], hi⟩
theorem mem_append {l m : List Sp} {n s : Int} : Mem (l ++ m) n s ↔ Mem l n s ∨ Mem m n s := by
  unfold Mem
  constructor
  · rintro ⟨y, hy, hi⟩
    rcases List.mem_append.1 hy with h | h
    · exact .inl ⟨y, h, hi⟩
    · exact .inr ⟨y, h, hi⟩
  · rintro (⟨y, hy, hi⟩ | ⟨y, hy, hi⟩)
    · exact ⟨y, by simp [hy], hi⟩
    · exact ⟨y, by simp [hy], hi⟩
theorem Norm.tail {x : Sp} {l : List Sp} (h : Norm (x :: l)) : Norm l := ⟨fun y hy => h.1 y (by simp [hy]), (List.pairwise_cons.1 h.2).2⟩
theorem Norm.head {x : Sp} {l : List Sp} (h : Norm (x :: l)) : SpOk x ∧ ∀ y ∈ l, Ap x y := ⟨h.1 x (by simp), (List.pairwise_cons.1 h.2).1⟩
theorem norm_nil : Norm [] := ⟨by simp, List.Pairwise.nil⟩
theorem norm_cons {x : Sp} {l : List Sp} (hx : SpOk x) (h : Norm l) (ha : ∀ y ∈ l, Ap x y) : Norm (x :: l) := ⟨fun y hy => by
  rcases List.mem_cons.1 hy with rfl | q
  · exact hx
  · exact h.1 y q, List.pairwise_cons.2 ⟨ha, h.2⟩⟩
theorem Ap.trans {x y z : Sp} (h : Ap x y) (k : Ap y z) (o : SpOk y) : Ap x z := by
  unfold Ap SpOk at *
  omega
/-- What is behind the head is not in it. -/
theorem Norm.out {x : Sp} {l : List Sp} (h : Norm (x :: l)) {n s : Int} (hi : InS x n s) : ¬ Mem l n s := by
  rintro ⟨y, hy, hj⟩
  have a := h.head.2 y hy
  unfold Ap InS at *
  omega
theorem norm_first {x y : Sp} {xs ys : List Sp} (hx : Norm (x :: xs)) (hy : Norm (y :: ys)) (he : ∀ n s, Mem (x :: xs) n s → Mem (y :: ys) n s) : y.1 < x.1 ∨ y.1 = x.1 ∧ y.2.1 ≤ x.2.1 := by
  have ox := hx.head.1
  obtain ⟨z, hz, hi⟩ := he x.1 x.2.1 ⟨x, by simp, rfl, Int.le_refl _, ox⟩
  rcases List.mem_cons.1 hz with rfl | q
  · unfold InS at hi; omega
  · have a := hy.head.2 z q
    have oy := hy.head.1
    unfold Ap InS SpOk at *
    omega
theorem norm_end {x y : Sp} {xs ys : List Sp} (hx : Norm (x :: xs)) (hy : Norm (y :: ys)) (he : ∀ n s, Mem (y :: ys) n s → Mem (x :: xs) n s) (e1 : x.1 = y.1) (e2 : x.2.1 = y.2.1) : y.2.2 ≤ x.2.2 := by
  refine Int.not_lt.1 (fun hlt => ?_)
  have ox := hx.head.1
  obtain ⟨z, hz, hi⟩ := he y.1 (x.2.2 + 1) ⟨y, by simp, rfl, by unfold SpOk at ox; omega, by omega⟩
  rcases List.mem_cons.1 hz with rfl | q
  · unfold InS at hi; omega
  · have a := hx.head.2 z q
    unfold Ap InS at *
    omega
/-- Two such lists with the same dots are one. -/
theorem norm_ext : ∀ {l m : List Sp}, Norm l → Norm m → (∀ n s, Mem l n s ↔ Mem m n s) → l = m
  | [], [], _, _, _ => rfl
  | [], y :: ys, _, hm, he => absurd ((he y.1 y.2.1).2 ⟨y, by simp, rfl, Int.le_refl _, hm.head.1⟩) mem_nil
  | x :: xs, [], hl, _, he => absurd ((he x.1 x.2.1).1 ⟨x, by simp, rfl, Int.le_refl _, hl.head.1⟩) mem_nil
  | x :: xs, y :: ys, hl, hm, he => by
    have a := norm_first hl hm (fun n s => (he n s).1)
    have b := norm_first hm hl (fun n s => (he n s).2)
    have e1 : x.1 = y.1 := by omega
    have e2 : x.2.1 = y.2.1 := by omega
    have c := norm_end hl hm (fun n s => (he n s).2) e1 e2
    have d := norm_end hm hl (fun n s => (he n s).1) e1.symm e2.symm
    have exy : x = y := Prod.ext e1 (Prod.ext e2 (by omega))
    subst exy
    rw [norm_ext hl.tail hm.tail (fun n s => ?_)]
    have q := he n s
    rw [mem_cons, mem_cons] at q
    by_cases hi : InS x n s
    · exact ⟨fun z => absurd z (hl.out hi), fun z => absurd z (hm.out hi)⟩
    · constructor
      · intro z; exact (q.1 (.inr z)).resolve_left hi
      · intro z; exact (q.2 (.inr z)).resolve_left hi
/-- A span comes behind the others, or lengthens the last one. -/
def pushP (out : List Sp) (z : Sp) : List Sp :=
  match out.getLast? with
  | none => [z]
  | some y => if Ap y z then out ++ [z] else out.dropLast ++ [(y.1, y.2.1, max y.2.2 z.2.2)]
/-- The first one's beginning is not behind the second one's. -/
def Le (x y : Sp) : Prop := x.1 < y.1 ∨ x.1 = y.1 ∧ x.2.1 ≤ y.2.1
theorem Le.trans {x y z : Sp} (h : Le x y) (k : Le y z) : Le x z := by unfold Le at *; omega
theorem last_split {l : List Sp} {y : Sp} (h : l.getLast? = some y) : l = l.dropLast ++ [y] := by
  obtain ⟨ys, e⟩ := List.getLast?_eq_some_iff.1 h
  rw [e]; simp
theorem mem_one {z : Sp} {n s : Int} : Mem [z] n s ↔ InS z n s := by
  rw [mem_cons]
  exact ⟨fun q => q.resolve_right mem_nil, .inl⟩
theorem norm_app {l : List Sp} {z : Sp} (h : Norm l) (hz : SpOk z) (ha : ∀ y ∈ l, Ap y z) : Norm (l ++ [z]) := by
  refine ⟨fun x hx => ?_, List.pairwise_append.2 ⟨h.2, by simp, fun a ha' b hb => ?_⟩⟩
  · rcases List.mem_append.1 hx with q | q
    · exact h.1 x q
    · simp at q; subst q; exact hz
  · simp at hb; subst hb; exact ha a ha'
theorem push_norm {out : List Sp} {z : Sp} (h : Norm out) (hz : SpOk z) (hl : ∀ y, out.getLast? = some y → Le y z) : Norm (pushP out z) ∧ (∀ n s, Mem (pushP out z) n s ↔ Mem out n s ∨ InS z n s) ∧ ∃ y, (pushP out z).getLast? = some y ∧ Le y z := by
  unfold pushP
  cases hg : out.getLast? with
  | none =>
    have e : out = [] := List.getLast?_eq_none_iff.1 hg
    subst e
    refine ⟨norm_cons hz norm_nil (by simp), fun n s => ?_, z, rfl, .inr ⟨rfl, Int.le_refl _⟩⟩
    show Mem [z] n s ↔ _
    rw [mem_one]
    exact ⟨.inr, fun q => q.resolve_left mem_nil⟩
  | some y =>
    have es := last_split hg
    have le := hl y hg
    have hym : y ∈ out := by rw [es]; simp
    have hd : ∀ x ∈ out.dropLast, Ap x y := by
      have := h.2
      rw [es] at this
      exact fun x hx => (List.pairwise_append.1 this).2.2 x hx y (by simp)
    simp only
    split
    · rename_i ha
      refine ⟨norm_app h hz (fun x hx => ?_), fun n s => by rw [mem_append, mem_one], z, by simp, .inr ⟨rfl, Int.le_refl _⟩⟩
      rw [es] at hx
      rcases List.mem_append.1 hx with q | q
      · exact (hd x q).trans ha (h.1 y hym)
      · simp at q; subst q; exact ha
    · rename_i ha
      have nd : Norm out.dropLast := by
        have := h
        rw [es] at this
        exact ⟨fun x hx => this.1 x (List.mem_append_left _ hx), (List.pairwise_append.1 this.2).1⟩
      have oy := h.1 y hym
      have fact : y.1 = z.1 ∧ y.2.1 ≤ z.2.1 ∧ z.2.1 ≤ y.2.2 + 1 := by unfold Ap Le at *; omega
      have mx : y.2.2 ≤ max y.2.2 z.2.2 ∧ z.2.2 ≤ max y.2.2 z.2.2 ∧ (max y.2.2 z.2.2 = y.2.2 ∨ max y.2.2 z.2.2 = z.2.2) := by omega
      refine ⟨norm_app nd (by unfold SpOk at *; simp only; omega) (fun x hx => by have := hd x hx; unfold Ap at *; simp only; omega), fun n s => ?_, (y.1, y.2.1, max y.2.2 z.2.2), by simp, by unfold Le at *; simp only; omega⟩
      have e2 : Mem out n s ↔ Mem out.dropLast n s ∨ InS y n s := by
        conv => lhs; rw [es]
        rw [mem_append, mem_one]
      have e3 : InS (y.1, y.2.1, max y.2.2 z.2.2) n s ↔ InS y n s ∨ InS z n s := by unfold InS SpOk at *; simp only; omega
      rw [mem_append, mem_one, e2, e3, or_assoc]
/-- Rising spans, pushed one by one. -/
theorem fold_norm : ∀ {zs out : List Sp}, Norm out → (∀ z ∈ zs, SpOk z) → zs.Pairwise Le → (∀ y z, out.getLast? = some y → z ∈ zs → Le y z) → Norm (zs.foldl pushP out) ∧ ∀ n s, Mem (zs.foldl pushP out) n s ↔ Mem out n s ∨ Mem zs n s
  | [], out, h, _, _, _ => ⟨h, fun n s => ⟨.inl, fun q => q.resolve_right mem_nil⟩⟩
  | z :: zs, out, h, ho, hp, hl => by
    obtain ⟨a, b, y, e, le⟩ := push_norm h (ho z (by simp)) (fun y hy => hl y z hy (by simp))
    have hp' := List.pairwise_cons.1 hp
    obtain ⟨c, d⟩ := fold_norm (zs := zs) a (fun x hx => ho x (by simp [hx])) hp'.2 (fun y' x hy' hx => by rw [e] at hy'; cases hy'; exact le.trans (hp'.1 x hx))
    rw [List.foldl_cons]
    refine ⟨c, fun n s => ?_⟩
    rw [d n s, b n s, mem_cons, or_assoc]
end
section
set_option linter.unusedSimpArgs false
set_option linter.unusedVariables false

/-- A place in a past: what is left of it; behind all spans there is the node 201. -/
def hdP (l : List Sp) : Sp := l.headD (201, 0, 0)
def passP (l : List Sp) (to : Int) : List Sp :=
  match l with
  | [] => []
  | x :: r => if to < x.2.2 then (x.1, to + 1, x.2.2) :: r else r
def untilP (s nx : Sp) : Sp := if s.1 = nx.1 then (s.1, s.2.1, min s.2.2 (nx.2.1 - 1)) else s
def inP (x y : Sp) : Bool := decide (x.1 < y.1 ∨ x.1 = y.1 ∧ x.2.1 ≤ y.2.1)
def pieceP (x y : Sp) : Sp := if inP x y = true ∧ inP y x = true then (x.1, x.2.1, min x.2.2 y.2.2) else if inP x y = true then untilP x y else untilP y x
/-- A past of nodes 1 to 200. -/
def WfC (l : List Sp) : Prop := Norm l ∧ ∀ x ∈ l, 1 ≤ x.1 ∧ x.1 ≤ 200 ∧ 1 ≤ x.2.1 ∧ x.2.2 ≤ 2147483647
/-- All of the second lies behind the end of the first. -/
def Bh (p : Sp) (l : List Sp) : Prop := ∀ z ∈ l, p.1 < z.1 ∨ p.1 = z.1 ∧ p.2.2 < z.2.1
def dotsN (l : List Sp) : Nat := (l.map (fun x => (x.2.2 - x.2.1 + 1).toNat)).sum
/-- How many steps there may be yet. -/
def potP (la lb : List Sp) : Nat := 2 * (la.length + lb.length) + (if (hdP la).1 = (hdP lb).1 ∧ (hdP la).2.1 = (hdP lb).2.1 then 0 else 1)
theorem pot_le (la lb : List Sp) : potP la lb ≤ 2 * (la.length + lb.length) + 1 := by unfold potP; split <;> omega
theorem dots_cons (x : Sp) (l : List Sp) : dotsN (x :: l) = (x.2.2 - x.2.1 + 1).toNat + dotsN l := by simp [dotsN]
theorem bh_out {p : Sp} {l : List Sp} (h : Bh p l) {n s : Int} (hi : InS p n s) : ¬ Mem l n s := by
  rintro ⟨z, hz, hj⟩
  have := h z hz
  unfold InS at *
  omega
theorem bh_head {p y : Sp} {l : List Sp} (h : WfC (y :: l)) (hy : p.1 < y.1 ∨ p.1 = y.1 ∧ p.2.2 < y.2.1) : Bh p (y :: l) := by
  intro z hz
  rcases List.mem_cons.1 hz with rfl | q
  · exact hy
  · have a := h.1.head.2 z q
    have o := h.1.head.1
    unfold Ap SpOk at *
    omega
theorem pass_ok {x : Sp} {r : List Sp} (h : WfC (x :: r)) {to : Int} (h1 : x.2.1 ≤ to) (h2 : to ≤ x.2.2) :
    WfC (passP (x :: r) to) ∧ (∀ n s, Mem (passP (x :: r) to) n s ↔ Mem (x :: r) n s ∧ ¬ InS (x.1, x.2.1, to) n s) ∧ Bh (x.1, x.2.1, to) (passP (x :: r) to) ∧ (∀ n s, InS (x.1, x.2.1, to) n s → Mem (x :: r) n s) ∧ dotsN (passP (x :: r) to) < dotsN (x :: r) := by
  have hx := h.1.head
  have hb := h.2 x (by simp)
  have br : Bh x r := fun z hz => by
    have := hx.2 z hz
    unfold Ap at this
    omega
  have up : ∀ n s, InS (x.1, x.2.1, to) n s → InS x n s := fun n s q => by unfold InS at *; simp only at q; omega
  refine ⟨?_, fun n s => ?_, ?_, fun n s q => mem_cons.2 (.inl (up n s q)), ?_⟩
  · unfold passP
    simp only
    split
    · rename_i hlt
      refine ⟨norm_cons (by unfold SpOk; simp only; omega) h.1.tail (fun z hz => by have := hx.2 z hz; unfold Ap at *; simp only; omega), fun z hz => ?_⟩
      rcases List.mem_cons.1 hz with rfl | q
      · simp only; omega
      · exact h.2 z (by simp [q])
    · exact ⟨h.1.tail, fun z hz => h.2 z (by simp [hz])⟩
  · unfold passP
    simp only
    split
    · rename_i hlt
      rw [mem_cons, mem_cons]
      constructor
      · rintro (q | q)
        · exact ⟨.inl (by unfold InS at *; simp only at q; omega), by unfold InS at *; simp only at q ⊢; omega⟩
        · exact ⟨.inr q, fun z => bh_out br (up n s z) q⟩
      · rintro ⟨q | q, z⟩
        · exact .inl (by unfold InS at *; simp only at z ⊢; omega)
        · exact .inr q
    · rename_i hlt
      have e : to = x.2.2 := by omega
      subst e
      rw [mem_cons]
      constructor
      · intro q
        exact ⟨.inr q, fun z => bh_out br z q⟩
      · rintro ⟨q | q, z⟩
        · exact absurd q z
        · exact q
  · unfold passP
    simp only
    intro z hz
    split at hz
    · rcases List.mem_cons.1 hz with rfl | q
      · exact .inr ⟨rfl, by simp only; omega⟩
      · have := br z q; simp only; omega
    · have := br z hz; simp only; omega
  · unfold passP
    simp only
    have o := hx.1
    unfold SpOk at o
    split
    · rw [dots_cons, dots_cons]; simp only; omega
    · rw [dots_cons]; omega
theorem pass_len (x : Sp) (r : List Sp) (to : Int) : (passP (x :: r) to).length = if to < x.2.2 then r.length + 1 else r.length := by unfold passP; simp only; split <;> simp
theorem hd_nil : hdP [] = (201, 0, 0) := rfl
theorem hd_cons (x : Sp) (l : List Sp) : hdP (x :: l) = x := rfl
/-- What a step leaves of a past that has, or has not, the piece. -/
def leftP (l : List Sp) (i : Bool) (to : Int) : List Sp := if i = true then passP l to else l
structure StepOk (la lb : List Sp) (p : Sp) (ia ib : Bool) (la' lb' : List Sp) : Prop where
  ok : SpOk p ∧ 1 ≤ p.1 ∧ p.1 ≤ 200 ∧ 1 ≤ p.2.1 ∧ p.2.2 ≤ 2147483647
  wa : WfC la'
  wb : WfC lb'
  ina : ∀ n s, InS p n s → (Mem la n s ↔ ia = true)
  inb : ∀ n s, InS p n s → (Mem lb n s ↔ ib = true)
  ma : ∀ n s, Mem la' n s ↔ Mem la n s ∧ ¬ InS p n s
  mb : ∀ n s, Mem lb' n s ↔ Mem lb n s ∧ ¬ InS p n s
  ba : Bh p la'
  bb : Bh p lb'
  dec : dotsN la' + dotsN lb' < dotsN la + dotsN lb
  pot : potP la' lb' < potP la lb
  sub : (∃ z ∈ la, z.1 = p.1 ∧ z.2.1 ≤ p.2.1 ∧ p.2.2 ≤ z.2.2) ∨ ∃ z ∈ lb, z.1 = p.1 ∧ z.2.1 ≤ p.2.1 ∧ p.2.2 ≤ z.2.2
theorem pot_comm (la lb : List Sp) : potP la lb = potP lb la := by
  unfold potP
  have e : ((hdP la).1 = (hdP lb).1 ∧ (hdP la).2.1 = (hdP lb).2.1) = ((hdP lb).1 = (hdP la).1 ∧ (hdP lb).2.1 = (hdP la).2.1) := propext ⟨fun h => ⟨h.1.symm, h.2.symm⟩, fun h => ⟨h.1.symm, h.2.symm⟩⟩
  simp only [e, Nat.add_comm la.length]
theorem StepOk.swap {la lb : List Sp} {p : Sp} {ia ib : Bool} {la' lb' : List Sp} (h : StepOk la lb p ia ib la' lb') : StepOk lb la p ib ia lb' la' :=
  ⟨h.ok, h.wb, h.wa, h.inb, h.ina, h.mb, h.ma, h.bb, h.ba, by have := h.dec; omega, by rw [pot_comm, pot_comm lb]; exact h.pot, h.sub.symm⟩
theorem step_both {x y : Sp} {xs ys : List Sp} (ha : WfC (x :: xs)) (hb : WfC (y :: ys)) (e1 : x.1 = y.1) (e2 : x.2.1 = y.2.1) :
    StepOk (x :: xs) (y :: ys) (x.1, x.2.1, min x.2.2 y.2.2) true true (passP (x :: xs) (min x.2.2 y.2.2)) (passP (y :: ys) (min x.2.2 y.2.2)) := by
  have ox := ha.1.head.1
  have oy := hb.1.head.1
  have bx := ha.2 x (by simp)
  unfold SpOk at ox oy
  obtain ⟨a1, a2, a3, a4, a5⟩ := pass_ok ha (to := min x.2.2 y.2.2) (by omega) (by omega)
  obtain ⟨b1, b2, b3, b4, b5⟩ := pass_ok hb (to := min x.2.2 y.2.2) (by omega) (by omega)
  have PB : potP (passP (x :: xs) (min x.2.2 y.2.2)) (passP (y :: ys) (min x.2.2 y.2.2)) < potP (x :: xs) (y :: ys) := by
    have e0 : potP (x :: xs) (y :: ys) = 2 * (xs.length + 1 + (ys.length + 1)) := by unfold potP; rw [hd_cons, hd_cons, if_pos ⟨e1, e2⟩]; rfl
    refine Nat.lt_of_le_of_lt (pot_le _ _) ?_
    rw [e0, pass_len, pass_len]
    split <;> split <;> omega
  rw [← e1, ← e2] at b2 b3 b4
  exact ⟨⟨by unfold SpOk; simp only; omega, bx.1, bx.2.1, bx.2.2.1, by simp only; omega⟩, a1, b1, fun n s q => ⟨fun _ => rfl, fun _ => a4 n s q⟩, fun n s q => ⟨fun _ => rfl, fun _ => b4 n s q⟩, a2, b2, a3, b3, by omega, PB, .inl ⟨x, by simp, rfl, Int.le_refl _, by simp only; omega⟩⟩
theorem step_one {x : Sp} {xs lb : List Sp} (ha : WfC (x :: xs)) (hb : WfC lb) (to : Int) (h1 : x.2.1 ≤ to) (h2 : to ≤ x.2.2) (hl : Bh (x.1, x.2.1, to) lb) (hu : ¬ (x.1 = (hdP lb).1 ∧ x.2.1 = (hdP lb).2.1)) (hal : to = x.2.2 ∨ x.1 = (hdP lb).1 ∧ to + 1 = (hdP lb).2.1) : StepOk (x :: xs) lb (x.1, x.2.1, to) true false (passP (x :: xs) to) lb := by
  have bx := ha.2 x (by simp)
  obtain ⟨a1, a2, a3, a4, a5⟩ := pass_ok ha h1 h2
  have PB : potP (passP (x :: xs) to) lb < potP (x :: xs) lb := by
    have e0 : potP (x :: xs) lb = 2 * (xs.length + 1 + lb.length) + 1 := by unfold potP; rw [hd_cons, if_neg hu]; rfl
    rw [e0]
    by_cases hlt : to < x.2.2
    · have hp : passP (x :: xs) to = (x.1, to + 1, x.2.2) :: xs := by unfold passP; simp only; rw [if_pos hlt]
      rw [hp]
      unfold potP
      rw [hd_cons, if_pos (by rcases hal with h | h; exact absurd h (by omega); exact h)]
      simp only [List.length_cons]
      omega
    · refine Nat.lt_of_le_of_lt (pot_le _ _) ?_
      rw [pass_len, if_neg hlt]
      omega
  exact ⟨⟨by unfold SpOk; exact h1, bx.1, bx.2.1, bx.2.2.1, by simp only; omega⟩, a1, hb, fun n s q => ⟨fun _ => rfl, fun _ => a4 n s q⟩, fun n s q => ⟨fun z => absurd z (bh_out hl q), fun z => absurd z (by simp)⟩, a2, fun n s => ⟨fun z => ⟨z, fun q => bh_out hl q z⟩, fun z => z.1⟩, a3, hl, by omega, PB, .inl ⟨x, by simp, rfl, Int.le_refl _, h2⟩⟩
theorem piece_one {x y : Sp} (h : inP x y = true) (h' : inP y x = false) : pieceP x y = (x.1, x.2.1, if x.1 = y.1 then min x.2.2 (y.2.1 - 1) else x.2.2) := by
  unfold pieceP
  rw [if_neg (by simp [h']), if_pos h]
  unfold untilP
  split <;> rfl
theorem piece_other {x y : Sp} (h : inP x y = false) (h' : inP y x = true) : pieceP x y = pieceP y x := by
  unfold pieceP
  rw [if_neg (by simp [h]), if_neg (by simp [h]), if_neg (by simp [h]), if_pos h']
theorem step_first {x : Sp} {xs lb : List Sp} (ha : WfC (x :: xs)) (hb : WfC lb) (h : inP x (hdP lb) = true) (h' : inP (hdP lb) x = false) :
    StepOk (x :: xs) lb (pieceP x (hdP lb)) true false (passP (x :: xs) (pieceP x (hdP lb)).2.2) lb := by
  rw [piece_one h h']
  have ox := ha.1.head.1
  have bx := ha.2 x (by simp)
  unfold SpOk at ox
  simp only [inP, decide_eq_true_eq, decide_eq_false_iff_not] at h h'
  cases lb with
  | nil =>
    rw [hd_nil] at *
    rw [if_neg (by simp only; omega)]
    exact step_one ha hb _ ox (Int.le_refl _) (fun z hz => absurd hz (by simp)) (by rw [hd_nil]; simp only; omega) (.inl rfl)
  | cons y ys =>
    rw [hd_cons] at *
    refine step_one ha hb _ ?_ ?_ (bh_head hb ?_) (by rw [hd_cons]; omega) (by rw [hd_cons]; split <;> omega)
    · split <;> omega
    · split <;> omega
    · simp only
      split <;> omega
/-- A step: the next dots that are all in the same ones of both pasts. -/
theorem step_ok {la lb : List Sp} (ha : WfC la) (hb : WfC lb) (hne : la ≠ [] ∨ lb ≠ []) :
    StepOk la lb (pieceP (hdP la) (hdP lb)) (inP (hdP la) (hdP lb)) (inP (hdP lb) (hdP la)) (leftP la (inP (hdP la) (hdP lb)) (pieceP (hdP la) (hdP lb)).2.2) (leftP lb (inP (hdP lb) (hdP la)) (pieceP (hdP la) (hdP lb)).2.2) := by
  have tri : inP (hdP la) (hdP lb) = true ∨ inP (hdP lb) (hdP la) = true := by
    simp only [inP, decide_eq_true_eq]; omega
  cases h1 : inP (hdP la) (hdP lb) with
  | true =>
    cases h2 : inP (hdP lb) (hdP la) with
    | true =>
      have q1 := h1
      have q2 := h2
      simp only [inP, decide_eq_true_eq] at q1 q2
      cases la with
      | nil =>
        cases lb with
        | nil => exact absurd rfl (hne.elim id id)
        | cons y ys => have := hb.2 y (by simp); rw [hd_nil, hd_cons] at q1 q2; simp only at q1 q2; omega
      | cons x xs =>
        cases lb with
        | nil => have := ha.2 x (by simp); rw [hd_nil, hd_cons] at q1 q2; simp only at q1 q2; omega
        | cons y ys =>
          rw [hd_cons, hd_cons] at *
          have e : pieceP x y = (x.1, x.2.1, min x.2.2 y.2.2) := by unfold pieceP; rw [if_pos ⟨h1, h2⟩]
          rw [e]
          exact step_both ha hb (by omega) (by omega)
    | false =>
      cases la with
      | nil =>
        have q1 := h1
        have q2 := h2
        simp only [inP, decide_eq_true_eq, decide_eq_false_iff_not] at q1 q2
        cases lb with
        | nil => exact absurd rfl (hne.elim id id)
        | cons y ys => have := hb.2 y (by simp); rw [hd_nil, hd_cons] at q1 q2; simp only at q1 q2; omega
      | cons x xs => exact step_first ha hb h1 h2
  | false =>
    have h2 := tri.resolve_left (by simp [h1])
    rw [h2]
    cases lb with
    | nil =>
      have q1 := h1
      have q2 := h2
      simp only [inP, decide_eq_true_eq, decide_eq_false_iff_not] at q1 q2
      cases la with
      | nil => exact absurd rfl (hne.elim id id)
      | cons y ys => have := ha.2 y (by simp); rw [hd_nil, hd_cons] at q1 q2; simp only at q1 q2; omega
    | cons y ys =>
      rw [hd_cons] at *
      rw [piece_other h1 h2]
      exact (step_first hb ha h2 h1).swap
def memb (l : List Sp) (n s : Int) : Bool := decide (Mem l n s)
/-- Where a sweep stands: what was kept, what is left. -/
structure SwInv (k : Bool → Bool → Bool) (a b la lb pre : List Sp) : Prop where
  wa : WfC la
  wb : WfC lb
  ok : ∀ z ∈ pre, SpOk z
  up : pre.Pairwise Le
  ba : ∀ p ∈ pre, Bh p la
  bb : ∀ p ∈ pre, Bh p lb
  cnt : pre.length + potP la lb ≤ potP a b
  m : ∀ n s, k (memb a n s) (memb b n s) = true ↔ Mem pre n s ∨ k (memb la n s) (memb lb n s) = true
theorem SwInv.begin {k : Bool → Bool → Bool} {a b : List Sp} (ha : WfC a) (hb : WfC b) : SwInv k a b a b [] :=
  ⟨ha, hb, by simp, List.Pairwise.nil, by simp, by simp, by simp, fun n s => ⟨.inr, fun q => q.resolve_left mem_nil⟩⟩
theorem bh_mono {p : Sp} {l l' : List Sp} (hp : SpOk p) (h : Bh p l) (hn : WfC l') (hs : ∀ n s, Mem l' n s → Mem l n s) : Bh p l' := by
  intro z hz
  have oz := hn.1.1 z hz
  obtain ⟨y, hy, hi⟩ := hs z.1 z.2.1 ⟨z, hz, rfl, Int.le_refl _, oz⟩
  have := h y hy
  unfold InS SpOk at *
  omega
theorem SwInv.step {k : Bool → Bool → Bool} (hk : k false false = false) {a b la lb pre : List Sp} (h : SwInv k a b la lb pre) {p : Sp} {ia ib : Bool} {la' lb' : List Sp} (q : StepOk la lb p ia ib la' lb') : SwInv k a b la' lb' (if k ia ib = true then pre ++ [p] else pre) := by
  have core : ∀ n s, (k (memb la n s) (memb lb n s) = true) ↔ (k ia ib = true ∧ InS p n s) ∨ k (memb la' n s) (memb lb' n s) = true := by
    intro n s
    have ma := q.ma n s
    have mb := q.mb n s
    by_cases hi : InS p n s
    · have ea : memb la n s = ia := by
        have := q.ina n s hi
        unfold memb
        cases ia <;> simp_all
      have eb : memb lb n s = ib := by
        have := q.inb n s hi
        unfold memb
        cases ib <;> simp_all
      have ea' : memb la' n s = false := by unfold memb; simp [ma, hi]
      have eb' : memb lb' n s = false := by unfold memb; simp [mb, hi]
      rw [ea, eb, ea', eb', hk]
      exact ⟨fun z => .inl ⟨z, hi⟩, fun z => z.elim (fun y => y.1) (fun y => absurd y (by simp))⟩
    · have ea' : memb la' n s = memb la n s := by unfold memb; simp [ma, hi]
      have eb' : memb lb' n s = memb lb n s := by unfold memb; simp [mb, hi]
      rw [ea', eb']
      exact ⟨.inr, fun z => z.elim (fun y => absurd y.2 hi) id⟩
  have subA : ∀ n s, Mem la' n s → Mem la n s := fun n s z => ((q.ma n s).1 z).1
  have subB : ∀ n s, Mem lb' n s → Mem lb n s := fun n s z => ((q.mb n s).1 z).1
  have oldA : ∀ x ∈ pre, Bh x la' := fun x hx => bh_mono (h.ok x hx) (h.ba x hx) q.wa subA
  have oldB : ∀ x ∈ pre, Bh x lb' := fun x hx => bh_mono (h.ok x hx) (h.bb x hx) q.wb subB
  by_cases hkk : k ia ib = true
  · rw [if_pos hkk]
    have le : ∀ x ∈ pre, Le x p := fun x hx => by
      have ox := h.ok x hx
      rcases q.sub with ⟨z, hz, e1, e2, e3⟩ | ⟨z, hz, e1, e2, e3⟩
      · have := h.ba x hx z hz; unfold Le SpOk at *; omega
      · have := h.bb x hx z hz; unfold Le SpOk at *; omega
    refine ⟨q.wa, q.wb, fun z hz => ?_, List.pairwise_append.2 ⟨h.up, by simp, fun x hx y hy => by simp at hy; subst hy; exact le x hx⟩, fun x hx => ?_, fun x hx => ?_, by have := q.pot; have := h.cnt; simp; omega, fun n s => ?_⟩
    · rcases List.mem_append.1 hz with w | w
      · exact h.ok z w
      · simp at w; subst w; exact q.ok.1
    · rcases List.mem_append.1 hx with w | w
      · exact oldA x w
      · simp at w; subst w; exact q.ba
    · rcases List.mem_append.1 hx with w | w
      · exact oldB x w
      · simp at w; subst w; exact q.bb
    · rw [h.m n s, core n s, mem_append, mem_one]
      constructor
      · rintro (z | z | z); exact .inl (.inl z); exact .inl (.inr z.2); exact .inr z
      · rintro ((z | z) | z); exact .inl z; exact .inr (.inl ⟨hkk, z⟩); exact .inr (.inr z)
  · rw [if_neg hkk]
    refine ⟨q.wa, q.wb, h.ok, h.up, oldA, oldB, by have := q.pot; have := h.cnt; omega, fun n s => ?_⟩
    rw [h.m n s, core n s]
    constructor
    · rintro (z | z | z); exact .inl z; exact absurd z.1 hkk; exact .inr z
    · rintro (z | z); exact .inl z; exact .inr (.inr z)
/-- Behind all: just the dots of which the func says yes, in order. -/
theorem SwInv.done {k : Bool → Bool → Bool} (hk : k false false = false) {a b pre : List Sp} (h : SwInv k a b [] [] pre) : Norm (pre.foldl pushP []) ∧ ∀ n s, Mem (pre.foldl pushP []) n s ↔ k (memb a n s) (memb b n s) = true := by
  obtain ⟨c, d⟩ := fold_norm (zs := pre) norm_nil h.ok h.up (by simp)
  refine ⟨c, fun n s => ?_⟩
  rw [d n s, h.m n s]
  have e : memb [] n s = false := by unfold memb; simp [mem_nil]
  rw [e, hk]
  exact ⟨fun q => .inl (q.resolve_left mem_nil), fun q => .inr (q.resolve_right (by simp))⟩
end
section
set_option linter.unusedSimpArgs false
set_option linter.unusedVariables false

/-- One comes ahead of the other one. -/
def Lt3 (x y : Sp) : Prop := x.1 < y.1 ∨ x.1 = y.1 ∧ (x.2.1 < y.2.1 ∨ x.2.1 = y.2.1 ∧ x.2.2 < y.2.2)
instance (x y : Sp) : Decidable (Lt3 x y) := by unfold Lt3; exact inferInstance
def cntS (x : Sp) : List Sp → Nat
  | [] => 0
  | y :: l => if Lt3 y x then cntS x l + 1 else 0
def insS (x : Sp) (l : List Sp) : List Sp := l.take (cntS x l) ++ x :: l.drop (cntS x l)
def riseS (l : List Sp) : List Sp := l.foldl (fun r x => insS x r) []
def tidyS (l : List Sp) : List Sp := (riseS l).foldl pushP []
theorem cntS_le (x : Sp) : ∀ l, cntS x l ≤ l.length
  | [] => Nat.le_refl _
  | y :: l => by unfold cntS; split <;> have := cntS_le x l <;> simp <;> omega
theorem cntS_lt (x : Sp) : ∀ (l : List Sp) (i : Nat) (y : Sp), l[i]? = some y → i < cntS x l → Lt3 y x
  | [], i, y, h, _ => by simp at h
  | z :: l, 0, y, h, hi => by
    simp at h; subst h
    unfold cntS at hi
    split at hi
    · assumption
    · omega
  | z :: l, i + 1, y, h, hi => by
    unfold cntS at hi
    split at hi
    · exact cntS_lt x l i y (by simpa using h) (by omega)
    · omega
theorem cntS_at (x : Sp) : ∀ (l : List Sp) (y : Sp), l[cntS x l]? = some y → ¬ Lt3 y x
  | [], y, h => by simp at h
  | z :: l, y, h => by
    unfold cntS at h
    split at h
    · exact cntS_at x l y (by simpa using h)
    · simp at h; subst h; assumption
theorem insS_len (x : Sp) (l : List Sp) : (insS x l).length = l.length + 1 := by
  unfold insS
  have := cntS_le x l
  simp; omega
theorem insS_mem (x y : Sp) (l : List Sp) : y ∈ insS x l ↔ y = x ∨ y ∈ l := by
  unfold insS
  rw [List.mem_append, List.mem_cons]
  conv => rhs; rw [← List.take_append_drop (cntS x l) l, List.mem_append]
  constructor
  · rintro (h | h | h)
    · exact .inr (.inl h)
    · exact .inl h
    · exact .inr (.inr h)
  · rintro (h | h | h)
    · exact .inr (.inl h)
    · exact .inl h
    · exact .inr (.inr h)
def Ge3 (x y : Sp) : Prop := ¬ Lt3 y x
theorem Ge3.le {x y : Sp} (h : Ge3 x y) : Le x y := by unfold Ge3 Lt3 Le at *; omega
theorem insS_up (x : Sp) (l : List Sp) (h : l.Pairwise Ge3) : (insS x l).Pairwise Ge3 := by
  unfold insS
  have hs : (l.take (cntS x l) ++ l.drop (cntS x l)).Pairwise Ge3 := by rw [List.take_append_drop]; exact h
  rw [List.pairwise_append] at hs ⊢
  obtain ⟨a, b, c⟩ := hs
  have hd : ∀ y ∈ l.drop (cntS x l), Ge3 x y := by
    cases hdr : l.drop (cntS x l) with
    | nil => simp
    | cons z r =>
      have hz : l[cntS x l]? = some z := by
        have : (l.drop (cntS x l))[0]? = some z := by rw [hdr]; rfl
        simpa using this
      have hg : Ge3 x z := cntS_at x l z hz
      rw [hdr] at b
      intro y hy
      rcases List.mem_cons.1 hy with rfl | q
      · exact hg
      · have := (List.pairwise_cons.1 b).1 y q
        unfold Ge3 Lt3 at *
        omega
  have ht : ∀ y ∈ l.take (cntS x l), Lt3 y x := fun y hy => by
    obtain ⟨i, hi, rfl⟩ := List.getElem_of_mem hy
    rw [List.length_take] at hi
    rw [List.getElem_take]
    exact cntS_lt x l i _ (List.getElem?_eq_getElem (by omega)) (by omega)
  refine ⟨a, List.pairwise_cons.2 ⟨hd, b⟩, fun y hy z hz => ?_⟩
  rcases List.mem_cons.1 hz with rfl | q
  · have := ht y hy
    unfold Ge3 Lt3 at *
    omega
  · exact c y hy z q
theorem fold_ins : ∀ (l r : List Sp), r.Pairwise Ge3 → (l.foldl (fun r x => insS x r) r).Pairwise Ge3 ∧ (∀ y, y ∈ l.foldl (fun r x => insS x r) r ↔ y ∈ l ∨ y ∈ r) ∧ (l.foldl (fun r x => insS x r) r).length = l.length + r.length
  | [], r, h => ⟨h, by simp, by simp⟩
  | x :: l, r, h => by
    obtain ⟨a, b, c⟩ := fold_ins l (insS x r) (insS_up x r h)
    rw [List.foldl_cons]
    refine ⟨a, fun y => ?_, by rw [c, insS_len]; simp; omega⟩
    rw [b y, insS_mem, List.mem_cons]
    constructor
    · rintro (q | q | q); exact .inl (.inr q); exact .inl (.inl q); exact .inr q
    · rintro ((q | q) | q); exact .inr (.inl q); exact .inl q; exact .inr (.inr q)
theorem rise_props (l : List Sp) : (riseS l).Pairwise Ge3 ∧ (∀ y, y ∈ riseS l ↔ y ∈ l) ∧ (riseS l).length = l.length := by
  obtain ⟨a, b, c⟩ := fold_ins l [] List.Pairwise.nil
  exact ⟨a, fun y => by rw [show riseS l = l.foldl (fun r x => insS x r) [] from rfl, b y]; simp, by rw [show riseS l = l.foldl (fun r x => insS x r) [] from rfl, c]; simp⟩
theorem pair_le {l : List Sp} (h : l.Pairwise Ge3) : l.Pairwise Le := h.imp (fun q => q.le)
theorem mem_same {l m : List Sp} (h : ∀ y, y ∈ l ↔ y ∈ m) (n s : Int) : Mem l n s ↔ Mem m n s := ⟨fun ⟨x, hx, hi⟩ => ⟨x, (h x).1 hx, hi⟩, fun ⟨x, hx, hi⟩ => ⟨x, (h x).2 hx, hi⟩⟩
theorem tidy_norm {l : List Sp} (h : ∀ x ∈ l, SpOk x) : Norm (tidyS l) ∧ ∀ n s, Mem (tidyS l) n s ↔ Mem l n s := by
  obtain ⟨a, b, c⟩ := rise_props l
  obtain ⟨d, e⟩ := fold_norm (zs := riseS l) norm_nil (fun z hz => h z ((b z).1 hz)) (pair_le a) (by simp)
  exact ⟨d, fun n s => by rw [show tidyS l = (riseS l).foldl pushP [] from rfl, e n s, mem_same b n s]; exact ⟨fun q => q.resolve_left mem_nil, .inr⟩⟩
/-- All numbers are small. -/
def B3 (x : Sp) : Prop := 1 ≤ x.1 ∧ x.1 ≤ 200 ∧ 1 ≤ x.2.1 ∧ x.2.1 ≤ x.2.2 ∧ x.2.2 ≤ 2147483647
theorem drop_set {l : List Sp} {y : Sp} (h : l.getLast? = some y) (z : Sp) : l.dropLast ++ [z] = l.set (l.length - 1) z := by
  have es := last_split h
  rw [es]
  simp
theorem push_props {out : List Sp} {z : Sp} (h : ∀ x ∈ out, B3 x) (hz : B3 z) : (∀ x ∈ pushP out z, B3 x) ∧ (pushP out z).length ≤ out.length + 1 := by
  unfold pushP
  cases hg : out.getLast? with
  | none => exact ⟨fun x hx => by simp at hx; subst hx; exact hz, by simp⟩
  | some y =>
    have es := last_split hg
    have hy : B3 y := h y (by rw [es]; simp)
    simp only
    split
    · refine ⟨fun x hx => ?_, by simp⟩
      rcases List.mem_append.1 hx with q | q
      · exact h x q
      · simp at q; subst q; exact hz
    · refine ⟨fun x hx => ?_, by rw [drop_set hg, List.length_set]; omega⟩
      rcases List.mem_append.1 hx with q | q
      · exact h x (List.dropLast_subset _ q)
      · simp at q; subst q; unfold B3 at *; simp only; omega
theorem fold_props : ∀ (zs out : List Sp), (∀ x ∈ out, B3 x) → (∀ x ∈ zs, B3 x) → (∀ x ∈ zs.foldl pushP out, B3 x) ∧ (zs.foldl pushP out).length ≤ out.length + zs.length
  | [], out, h, _ => ⟨h, by simp⟩
  | z :: zs, out, h, hz => by
    obtain ⟨a, b⟩ := push_props h (hz z (by simp))
    obtain ⟨c, d⟩ := fold_props zs (pushP out z) a (fun x hx => hz x (by simp [hx]))
    rw [List.foldl_cons]
    exact ⟨c, by simp; omega⟩
theorem last_at {l : List Sp} {y : Sp} (h : l[l.length - 1]? = some y) : l.getLast? = some y := by rw [List.getLast?_eq_getElem?]; exact h
theorem push_apart' {out : List Sp} {y z : Sp} (h : out[out.length - 1]? = some y) (ha : Ap y z) : pushP out z = out ++ [z] := by
  unfold pushP; rw [last_at h]; simp only; rw [if_pos ha]
theorem push_touch {out : List Sp} {y z : Sp} (h : out[out.length - 1]? = some y) (ha : ¬ Ap y z) : pushP out z = out.set (out.length - 1) (y.1, y.2.1, max y.2.2 z.2.2) := by
  unfold pushP; rw [last_at h]; simp only; rw [if_neg ha, drop_set (last_at h)]
end
section
set_option linter.unusedSimpArgs false
set_option linter.unusedVariables false

theorem ok_some : ∀ (l : List Sp) (y : Sp), y.2.1 ≤ y.2.2 → okFrom (some y) l = true → (∀ x ∈ l, FineS x.1 x.2.1 x.2.2 ∧ Ap y x) ∧ l.Pairwise Ap
  | [], y, _, _ => ⟨by simp, List.Pairwise.nil⟩
  | x :: l, y, hy, h => by
    simp only [okFrom, Bool.and_eq_true, decide_eq_true_eq] at h
    obtain ⟨⟨h1, h2⟩, h3⟩ := h
    have ox : x.2.1 ≤ x.2.2 := h1.2.2.2.1
    obtain ⟨a, b⟩ := ok_some l x ox h3
    have hyx : Ap y x := h2
    refine ⟨fun z hz => ?_, List.pairwise_cons.2 ⟨fun z hz => (a z hz).2, b⟩⟩
    rcases List.mem_cons.1 hz with rfl | q
    · exact ⟨h1, hyx⟩
    · exact ⟨(a z q).1, hyx.trans (a z q).2 ox⟩
theorem some_ok : ∀ (l : List Sp) (y : Sp), (∀ x ∈ l, FineS x.1 x.2.1 x.2.2 ∧ Ap y x) → l.Pairwise Ap → okFrom (some y) l = true
  | [], y, _, _ => rfl
  | x :: l, y, h, hp => by
    have hp' := List.pairwise_cons.1 hp
    simp only [okFrom, Bool.and_eq_true, decide_eq_true_eq]
    exact ⟨⟨(h x (by simp)).1, (h x (by simp)).2⟩, some_ok l x (fun z hz => ⟨(h z (by simp [hz])).1, hp'.1 z hz⟩) hp'.2⟩
theorem wf_of_chk {xs : List Sp} (h : chkS xs = 0) : WfC xs ∧ xs.length ≤ 4000 := by
  unfold chkS at h
  split at h
  · rename_i hc
    refine ⟨?_, hc.1⟩
    cases xs with
    | nil => exact ⟨norm_nil, by simp⟩
    | cons x l =>
      have h2 := hc.2
      simp only [okFrom, Bool.and_eq_true, decide_eq_true_eq] at h2
      obtain ⟨h1, h3⟩ := h2
      have ox : x.2.1 ≤ x.2.2 := h1.2.2.2.1
      obtain ⟨a, b⟩ := ok_some l x ox h3
      have fine : ∀ z ∈ x :: l, FineS z.1 z.2.1 z.2.2 := fun z hz => by
        rcases List.mem_cons.1 hz with rfl | q
        · exact h1
        · exact (a z q).1
      exact ⟨⟨fun z hz => (fine z hz).2.2.2.1, List.pairwise_cons.2 ⟨fun z hz => (a z hz).2, b⟩⟩, fun z hz => by have := fine z hz; unfold FineS at this; omega⟩
  · exact absurd h (by decide)
theorem chk_of_wf {xs : List Sp} (h : WfC xs) (hl : xs.length ≤ 4000) : chkS xs = 0 := by
  unfold chkS
  rw [if_pos]
  refine ⟨hl, ?_⟩
  have fine : ∀ z ∈ xs, FineS z.1 z.2.1 z.2.2 := fun z hz => by
    have := h.2 z hz
    have o := h.1.1 z hz
    unfold FineS SpOk at *
    omega
  cases xs with
  | nil => rfl
  | cons x l =>
    have hp := List.pairwise_cons.1 h.1.2
    simp only [okFrom, Bool.and_eq_true, decide_eq_true_eq]
    exact ⟨fine x (by simp), some_ok l x (fun z hz => ⟨fine z (by simp [hz]), hp.1 z hz⟩) hp.2⟩
theorem chk_two (xs : List Sp) : chkS xs = 0 ∨ chkS xs = 2 := by unfold chkS; split <;> simp
end
section
open Go.RowKit Go.Lib
set_option linter.unusedSimpArgs false
set_option linter.unusedVariables false


def cmpS (x : Sp) (n s : Int) : Int := if x.1 < n ∨ x.1 = n ∧ x.2.2 < s then -1 else if n < x.1 ∨ s < x.2.1 then 1 else 0
theorem cmp_zero {x : Sp} {n s : Int} : cmpS x n s = 0 ↔ InS x n s := by
  unfold cmpS InS
  split
  · constructor
    · intro h; exact absurd h (by decide)
    · intro h; omega
  · split
    · constructor
      · intro h; exact absurd h (by decide)
      · intro h; omega
    · constructor
      · intro _; omega
      · intro _; rfl
theorem cmp_neg {x : Sp} {n s : Int} : cmpS x n s < 0 ↔ x.1 < n ∨ x.1 = n ∧ x.2.2 < s := by
  unfold cmpS
  split
  · rename_i h; exact ⟨fun _ => h, fun _ => by decide⟩
  · rename_i h
    split <;> exact ⟨fun q => absurd q (by decide), fun q => absurd q h⟩
theorem norm_at {l : List Sp} (h : Norm l) {p q : Nat} {x y : Sp} (hx : l[p]? = some x) (hy : l[q]? = some y) (hl : p < q) : Ap x y ∧ SpOk x ∧ SpOk y := by
  have hp := List.getElem?_eq_some_iff.1 hx
  have hq := List.getElem?_eq_some_iff.1 hy
  obtain ⟨l1, e1⟩ := hp
  obtain ⟨l2, e2⟩ := hq
  refine ⟨?_, h.1 x (List.mem_of_getElem? hx), h.1 y (List.mem_of_getElem? hy)⟩
  have := List.pairwise_iff_getElem.1 h.2 p q l1 l2 hl
  rw [e1, e2] at this
  exact this
def LoS (xs : List Sp) (n s : Int) (i : Nat) : Prop := ∀ p x, xs[p]? = some x → p < i → cmpS x n s < 0
def HiS (xs : List Sp) (n s : Int) (j : Nat) : Prop := ∀ p x, xs[p]? = some x → j ≤ p → ¬ cmpS x n s < 0
theorem lo_next {xs : List Sp} {n s : Int} (hn : Norm xs) {h : Nat} {x : Sp} (hx : xs[h]? = some x) (hc : cmpS x n s < 0) : LoS xs n s (h + 1) := by
  intro p y hy hp
  by_cases e : p = h
  · subst e; rw [hx] at hy; cases hy; exact hc
  · obtain ⟨a, o1, o2⟩ := norm_at hn hy hx (by omega)
    rw [cmp_neg] at hc ⊢
    unfold Ap SpOk at *
    omega
theorem hi_next {xs : List Sp} {n s : Int} (hn : Norm xs) {h : Nat} {x : Sp} (hx : xs[h]? = some x) (hc : ¬ cmpS x n s < 0) : HiS xs n s h := by
  intro p y hy hp
  by_cases e : p = h
  · subst e; rw [hx] at hy; cases hy; exact hc
  · obtain ⟨a, o1, o2⟩ := norm_at hn hx hy (by omega)
    rw [cmp_neg] at hc ⊢
    unfold Ap SpOk at *
    omega
theorem found_yes {xs : List Sp} {n s : Int} {i : Nat} {x : Sp} (hx : xs[i]? = some x) (hc : cmpS x n s = 0) : Mem xs n s := ⟨x, List.mem_of_getElem? hx, cmp_zero.1 hc⟩
theorem found_no {xs : List Sp} {n s : Int} (hn : Norm xs) {i : Nat} (hl : LoS xs n s i) (hh : HiS xs n s i) (hx : ∀ x, xs[i]? = some x → cmpS x n s ≠ 0) : ¬ Mem xs n s := by
  rintro ⟨y, hy, hi⟩
  obtain ⟨q, hq, rfl⟩ := List.getElem_of_mem hy
  have hz : cmpS xs[q] n s = 0 := cmp_zero.2 hi
  have hqe := List.getElem?_eq_getElem hq
  rcases Nat.lt_trichotomy q i with h | h | h
  · have := hl q _ hqe h; omega
  · subst h; exact hx _ hqe hz
  · have hie := List.getElem?_eq_getElem (show i < xs.length by omega)
    obtain ⟨a, o1, o2⟩ := norm_at hn hie hqe h
    have := hh i _ hie (Nat.le_refl _)
    rw [cmp_neg] at this
    unfold Ap SpOk InS at *
    omega
set_option maxRecDepth 100000 in
set_option maxHeartbeats 4000000 in
theorem has1_any (w : World) (x : Sp) (n s : Int) : Calls Try.prog 60 #[.agg #[.int .i64 x.1, .int .i64 x.2.1, .int .i64 x.2.2], .agg #[.int .i64 n, .int .i64 s]] w fun e w' => e = .returned (.int .i64 (cmpS x n s)) ∧ Chg [] w w' := by
  obtain ⟨w1, hw1, c1, b0, b1⟩ := news2 w (.cells #[.int .i64 x.1, .int .i64 x.2.1, .int .i64 x.2.2] 62) (.cells #[.int .i64 n, .int .i64 s] 37)
  have W1 := Lib.hid hw1
  have C1 := Lib.hid c1
  have y0 := cell_of b0 0
  have y1 := cell_of b0 1
  have y2 := cell_of b0 2
  have z0 := cell_of b1 0
  have z1 := cell_of b1 1
  simp only [List.getElem?_toArray, List.getElem?_cons_succ, List.getElem?_cons_zero] at y0 y1 y2 z0 z1
  clear hw1 c1 b0 b1
  have fin : ∀ v, cmpS x n s = v → Calls Try.prog 60 #[.agg #[.int .i64 x.1, .int .i64 x.2.1, .int .i64 x.2.2], .agg #[.int .i64 n, .int .i64 s]] w (fun e w' => e = .returned (.int .i64 v) ∧ Chg [] w w') → Calls Try.prog 60 #[.agg #[.int .i64 x.1, .int .i64 x.2.1, .int .i64 x.2.2], .agg #[.int .i64 n, .int .i64 s]] w fun e w' => e = .returned (.int .i64 (cmpS x n s)) ∧ Chg [] w w' := fun v hv h => hv ▸ h
  obtain ⟨x1, x2, x3⟩ := x
  dsimp only at *
  rcases Int.lt_trichotomy x1 n with h | h | h
  · have f1 : x1 < n := h
    refine fin (-1) (by unfold cmpS; exact if_pos (.inl h)) ?_
    clear fin
    go_enter Try.func60, Try.ntmps60
    go_upto_region 1 with fail
    rw [← W1.out]
    generalize w.heap.size = g0 at *
    go_wp2
    go_ret
    exact ⟨rfl, C1.out⟩
  · subst h
    have f0 : ¬ x1 < x1 := by omega
    have f3 : ((x1 == x1) : Bool) = true := by simp
    by_cases h2 : x3 < s
    · skip
      refine fin (-1) (by unfold cmpS; exact if_pos (.inr ⟨rfl, h2⟩)) ?_
      clear fin
      go_enter Try.func60, Try.ntmps60
      go_upto_region 1 with fail
      rw [← W1.out]
      generalize w.heap.size = g0 at *
      go_wp2
      go_ret
      exact ⟨rfl, C1.out⟩
    by_cases h3 : s < x2
    · skip
      refine fin (1) (by unfold cmpS; rw [if_neg (by simp only; omega)]; exact if_pos (.inr h3)) ?_
      clear fin
      go_enter Try.func60, Try.ntmps60
      go_upto_region 1 with fail
      rw [← W1.out]
      generalize w.heap.size = g0 at *
      go_wp2
      go_ret
      exact ⟨rfl, C1.out⟩
    refine fin (0) (by unfold cmpS; rw [if_neg (by simp only; omega)]; exact if_neg (by simp only; omega)) ?_
    clear fin
    go_enter Try.func60, Try.ntmps60
    go_upto_region 1 with fail
    rw [← W1.out]
    generalize w.heap.size = g0 at *
    go_wp2
    go_ret
    exact ⟨rfl, C1.out⟩
  · have f1 : ¬ x1 < n := by omega
    have f3 : ((x1 == n) : Bool) = false := by simp; omega
    refine fin (1) (by unfold cmpS; rw [if_neg (by simp only; omega)]; exact if_pos (.inl h)) ?_
    clear fin
    go_enter Try.func60, Try.ntmps60
    go_upto_region 1 with fail
    rw [← W1.out]
    generalize w.heap.size = g0 at *
    go_wp2
    go_ret
    exact ⟨rfl, C1.out⟩
end
section
open Go.RowKit Go.Lib
set_option linter.unusedSimpArgs false
set_option linter.unusedVariables false


set_option maxRecDepth 100000 in
set_option maxHeartbeats 8000000 in
theorem binspan_any (w : World) (A : Option Addr) (c : Nat) (xs : List Sp) (n s : Int) (h : RdK spanTy w A xs.length xs) (hn : Norm xs) (hl : xs.length ≤ 4000) :
    Calls Try.prog 59 #[.slice A xs.length c, .agg #[.int .i64 n, .int .i64 s], .func (.func 60) #[] #[]] w fun e w' => ∃ i : Int, e = .returned (.tuple #[.int .i64 i, .bool (decide (Mem xs n s))]) ∧ Chg [] w w' := by
  have HX := Lib.hid h
  have HNM := Lib.hid hn
  have HL := Lib.hid hl
  clear h hn hl
  obtain ⟨w1, hw1, c1, b1⟩ := news1 w (.cells #[.int .i64 n, .int .i64 s] 37)
  have W1 := Lib.hid hw1
  have C1 := Lib.hid c1
  have B1 := Lib.hid b1
  clear hw1 c1 b1
  go_enter Try.func59, Try.ntmps59
  go_upto_region 2 with fail
  rw [← W1.out]
  generalize w.heap.size = g0 at *
  clear W1
  go_wp2
  go_loopw [9, 10] (fun v9 v10 wr => ∃ (i j : Nat), i ≤ j ∧ j ≤ xs.length ∧ v9 = .int .i64 (i : Int) ∧ v10 = .int .i64 (j : Int) ∧ Hid (LoS xs n s i ∧ HiS xs n s j) ∧ Hid (Chg [] w1 wr)) (fun v9 v10 _ => (RowKit.intOf v10).toNat - (RowKit.intOf v9).toNat)
  case atStart => exact ⟨0, xs.length, Nat.zero_le _, Nat.le_refl _, rfl, rfl, Lib.hid ⟨fun p x _ h => absurd h (by omega), fun p x hx h => absurd ((List.getElem?_eq_some_iff.1 hx).1) (by omega)⟩, Chg.refl _ _⟩
  case round =>
    obtain ⟨i, j, hij, hj, rfl, rfl, HI, HC⟩ := hrel
    have i0 : (0 : Int) ≤ (i : Int) := by omega
    have hl := HL.out
    have i1 : IntKind.i64.wrap ((i : Int) + (j : Int)) = ((i + j : Nat) : Int) := by rw [IntWalk.i64_in _ (by omega)]; omega
    by_cases hlt : i < j
    · have i2 : (i : Int) < (j : Int) := by omega
      go_upto_region 5 with fail
      obtain ⟨k, hk⟩ : ∃ k : Nat, k = (i + j) / 2 := ⟨_, rfl⟩
      have e1 : ((i : Int) + (j : Int)) / 2 = (k : Int) := by omega
      rw [e1]
      have hk1 : i ≤ k ∧ k < j := by omega
      clear hk e1 i1 i2
      obtain ⟨x, hx⟩ : ∃ x, xs[k]? = some x := ⟨_, List.getElem?_eq_getElem (by omega)⟩
      have R4 := (HX.out.chg C1.out (by simp)).chg HC.out (by simp)
      obtain ⟨g, o, eA, _⟩ := R4.line (by omega)
      subst eA
      obtain ⟨q0, q1, q2⟩ := spanCells R4 hx
      have b4 := HC.out.at_ B1.out (by simp)
      have d0 := cell_of b4 0
      have d1 := cell_of b4 1
      simp only [List.getElem?_toArray, List.getElem?_cons_succ, List.getElem?_cons_zero] at d0 d1
      have k0 : (0 : Int) ≤ (k : Int) := by omega
      have k1 : (k : Int) < (xs.length : Int) := by omega
      have HX5 := Lib.hid hx
      clear R4 b4 hx
      refine wp_region_held_drew (S := fun w' => w'.cell? ⟨g, o + k * 3, none⟩ = some (.int .i64 x.1) ∧ w'.cell? ⟨g, o + k * 3 + 1, none⟩ = some (.int .i64 x.2.1) ∧ w'.cell? ⟨g, o + k * 3 + 2, none⟩ = some (.int .i64 x.2.2) ∧ w'.cell? ⟨g0, 0, none⟩ = some (.int .i64 n) ∧ w'.cell? ⟨g0, 1, none⟩ = some (.int .i64 s)) (by kernel_rfl) ⟨q0, q1, q2, d0, d1⟩ (fun hHeld => ?_)
      have CD := Lib.hid (Chg.refl [] wr).drew
      have HH := Lib.hid (fun (w' : World) (hc : Chg [] wr.drew w') => (⟨(CD.out.trans hc).cell q0 (by simp), (CD.out.trans hc).cell q1 (by simp), (CD.out.trans hc).cell q2 (by simp), (CD.out.trans hc).cell d0 (by simp), (CD.out.trans hc).cell d1 (by simp)⟩ : w'.cell? ⟨g, o + k * 3, none⟩ = some (.int .i64 x.1) ∧ w'.cell? ⟨g, o + k * 3 + 1, none⟩ = some (.int .i64 x.2.1) ∧ w'.cell? ⟨g, o + k * 3 + 2, none⟩ = some (.int .i64 x.2.2) ∧ w'.cell? ⟨g0, 0, none⟩ = some (.int .i64 n) ∧ w'.cell? ⟨g0, 1, none⟩ = some (.int .i64 s)))
      clear q0 q1 q2 d0 d1
      generalize wr.drew = wd at *
      refine sy 0 24 rfl rfl ?_
      try simp only [Act.put, sA, s0, s1]
      refine sy 1 25 rfl rfl ?_
      try simp only [Act.put, sA, s0, s1]
      refine sy 2 26 rfl rfl ?_
      try simp only [Act.put, sA, s0, s1]
      refine sy 3 27 rfl rfl ?_
      try simp only [Act.put, sA, s0, s1]
      refine sy 4 28 rfl rfl ?_ (hy := by (intro w hSw; (try dsimp only at hSw); obtain ⟨q0, q1, q2, q3, q4⟩ := hSw; go_simp; try with_reducible rfl))
      try simp only [Act.put, sA, s0, s1]
      refine sy 5 29 rfl rfl ?_ (hy := by (intro w hSw; (try dsimp only at hSw); obtain ⟨q0, q1, q2, q3, q4⟩ := hSw; go_simp; try with_reducible rfl))
      try simp only [Act.put, sA, s0, s1]
      refine wpAnyH_ready (rs := [6]) (by kernel_rfl) (by simp) ?_
      refine AllReadyH.cons rfl (fun K hK => ?_) AllReadyH.nil
      replace hK := Lib.hid hK
      go_simp
      refine (has1_any wd x n s).mono ?_
      rintro r w6 ⟨rfl, h6⟩
      have C6 := Lib.hid h6
      clear h6 hHeld
      refine hK.out _ _ (HH.out w6 C6.out) (fun hHeld => ?_)
      clear hK K
      try simp only [Act.put, sA, s0, s1]
      refine sy 7 31 rfl rfl ?_
      try simp only [Act.put, sA, s0, s1]
      refine wpAnyH_done (by kernel_rfl) ?_ _
      clear hHeld HH
      have CE := Lib.hid (HC.out.trans (CD.out.trans C6.out))
      by_cases hneg : cmpS x n s < 0
      · have LO := Lib.hid (lo_next HNM.out HX5.out hneg)
        have dn1 : decide (cmpS x n s < 0) = true := decide_eq_true hneg
        have w1' : IntKind.i64.wrap ((k : Int) + 1) = (k : Int) + 1 := IntWalk.i64_in _ (by omega)
        go_wp2
        go_round
        case rel => exact ⟨k + 1, j, by omega, hj, by go_num, rfl, Lib.hid ⟨LO.out, HI.out.2⟩, CE.out⟩
        case measure => simp [RowKit.intOf]; omega
      · have HIN := Lib.hid (hi_next HNM.out HX5.out hneg)
        have dn1 : decide (cmpS x n s < 0) = false := decide_eq_false hneg
        go_wp2
        go_round
        case rel => exact ⟨i, k, by omega, by omega, rfl, rfl, Lib.hid ⟨HI.out.1, HIN.out⟩, CE.out⟩
        case measure => simp [RowKit.intOf]; omega
    · obtain rfl : i = j := by omega
      have i2 : ¬ (i : Int) < (i : Int) := by omega
      by_cases hin : i < xs.length
      · have k1 : (i : Int) < (xs.length : Int) := by omega
        have k2 : decide ((i : Int) < (xs.length : Int)) = true := by simp; omega
        have k3 : decide (i < xs.length) = true := by simp; omega
        obtain ⟨x, hx⟩ : ∃ x, xs[i]? = some x := ⟨_, List.getElem?_eq_getElem hin⟩
        have R4 := (HX.out.chg C1.out (by simp)).chg HC.out (by simp)
        obtain ⟨g, o, eA, _⟩ := R4.line (by omega)
        subst eA
        obtain ⟨q0, q1, q2⟩ := spanCells R4 hx
        have b4 := HC.out.at_ B1.out (by simp)
        have d0 := cell_of b4 0
        have d1 := cell_of b4 1
        simp only [List.getElem?_toArray, List.getElem?_cons_succ, List.getElem?_cons_zero] at d0 d1
        have ANS : Hid (decide (Mem xs n s) = decide (cmpS x n s = 0)) := Lib.hid (by
          by_cases hz : cmpS x n s = 0
          · rw [decide_eq_true (found_yes hx hz), decide_eq_true hz]
          · rw [decide_eq_false (found_no HNM.out HI.out.1 HI.out.2 (fun y hy => by rw [hx] at hy; cases hy; exact hz)), decide_eq_false hz])
        clear R4 b4 hx
        go_upto_region 8 with fail
        refine wp_region_held_drew (S := fun w' => w'.cell? ⟨g, o + i * 3, none⟩ = some (.int .i64 x.1) ∧ w'.cell? ⟨g, o + i * 3 + 1, none⟩ = some (.int .i64 x.2.1) ∧ w'.cell? ⟨g, o + i * 3 + 2, none⟩ = some (.int .i64 x.2.2) ∧ w'.cell? ⟨g0, 0, none⟩ = some (.int .i64 n) ∧ w'.cell? ⟨g0, 1, none⟩ = some (.int .i64 s)) (by kernel_rfl) ⟨q0, q1, q2, d0, d1⟩ (fun hHeld => ?_)
        have CD := Lib.hid (Chg.refl [] wr).drew
        have HH := Lib.hid (fun (w' : World) (hc : Chg [] wr.drew w') => (⟨(CD.out.trans hc).cell q0 (by simp), (CD.out.trans hc).cell q1 (by simp), (CD.out.trans hc).cell q2 (by simp), (CD.out.trans hc).cell d0 (by simp), (CD.out.trans hc).cell d1 (by simp)⟩ : w'.cell? ⟨g, o + i * 3, none⟩ = some (.int .i64 x.1) ∧ w'.cell? ⟨g, o + i * 3 + 1, none⟩ = some (.int .i64 x.2.1) ∧ w'.cell? ⟨g, o + i * 3 + 2, none⟩ = some (.int .i64 x.2.2) ∧ w'.cell? ⟨g0, 0, none⟩ = some (.int .i64 n) ∧ w'.cell? ⟨g0, 1, none⟩ = some (.int .i64 s)))
        clear q0 q1 q2 d0 d1 i2
        generalize wr.drew = wd at *
        refine sy 0 35 rfl rfl ?_
        try simp only [Act.put, sA, s0, s1]
        refine sy 1 36 rfl rfl ?_
        try simp only [Act.put, sA, s0, s1]
        refine sy 2 37 rfl rfl ?_
        try simp only [Act.put, sA, s0, s1]
        refine sy 3 38 rfl rfl ?_
        try simp only [Act.put, sA, s0, s1]
        refine sy 4 39 rfl rfl ?_
        try simp only [Act.put, sA, s0, s1]
        refine sy 5 40 rfl rfl ?_
        try simp only [Act.put, sA, s0, s1]
        refine sy 6 41 rfl rfl ?_
        try simp only [Act.put, sA, s0, s1]
        refine sy 7 42 rfl rfl ?_
        try simp only [Act.put, sA, s0, s1]
        refine sy 8 43 rfl rfl ?_
        try simp only [Act.put, sA, s0, s1]
        refine sy 9 44 rfl rfl ?_ (hy := by (intro w hSw; (try dsimp only at hSw); obtain ⟨q0, q1, q2, q3, q4⟩ := hSw; go_simp; try with_reducible rfl))
        try simp only [Act.put, sA, s0, s1]
        refine sy 10 45 rfl rfl ?_ (hy := by (intro w hSw; (try dsimp only at hSw); obtain ⟨q0, q1, q2, q3, q4⟩ := hSw; go_simp; try with_reducible rfl))
        try simp only [Act.put, sA, s0, s1]
        refine wpAnyH_ready (rs := [11]) (by kernel_rfl) (by simp) ?_
        refine AllReadyH.cons rfl (fun K hK => ?_) AllReadyH.nil
        replace hK := Lib.hid hK
        go_simp
        refine (has1_any wd x n s).mono ?_
        rintro r w6 ⟨rfl, h6⟩
        have C6 := Lib.hid h6
        clear h6 hHeld
        refine hK.out _ _ (HH.out w6 C6.out) (fun hHeld => ?_)
        clear hK K
        try simp only [Act.put, sA, s0, s1]
        refine sy 12 47 rfl rfl ?_
        try simp only [Act.put, sA, s0, s1]
        refine sy 13 48 rfl rfl ?_
        try simp only [Act.put, sA, s0, s1]
        refine sy 14 6 rfl rfl ?_
        try simp only [Act.put, sA, s0, s1]
        refine sy 15 7 rfl rfl ?_
        try simp only [Act.put, sA, s0, s1]
        refine wpAnyH_done (by kernel_rfl) ?_ _
        clear hHeld HH
        have CE := Lib.hid (C1.out.trans (HC.out.trans (CD.out.trans C6.out)))
        by_cases hz : cmpS x n s = 0
        · have AN : decide (Mem xs n s) = true := by rw [ANS.out, decide_eq_true hz]
          have dz : ((cmpS x n s == 0) : Bool) = true := by simpa using hz
          clear ANS hz
          go_wp2
          go_ret2
          (first | exact ⟨(i : Int), by show Ending.returned (.tuple #[.int .i64 (i : Int), .bool (cmpS x n s == 0)]) = _; rw [dz, AN], CE.out⟩ | exact ⟨⟨(i : Int), by show Ending.returned (.tuple #[.int .i64 (i : Int), .bool false]) = _; first | rfl | rw [AN]⟩, CE.out⟩)
        · have AN : decide (Mem xs n s) = false := by rw [ANS.out, decide_eq_false hz]
          have dz : ((cmpS x n s == 0) : Bool) = false := by simpa using hz
          clear ANS hz
          go_wp2
          go_ret2
          (first | exact ⟨(i : Int), by show Ending.returned (.tuple #[.int .i64 (i : Int), .bool (cmpS x n s == 0)]) = _; rw [dz, AN], CE.out⟩ | exact ⟨⟨(i : Int), by show Ending.returned (.tuple #[.int .i64 (i : Int), .bool false]) = _; first | rfl | rw [AN]⟩, CE.out⟩)
      · have k1 : ¬ (i : Int) < (xs.length : Int) := by omega
        have k2 : decide ((i : Int) < (xs.length : Int)) = false := by simp; omega
        have k3 : decide (i < xs.length) = false := by simp; omega
        have ANS : Hid (decide (Mem xs n s) = false) := Lib.hid (decide_eq_false (found_no HNM.out HI.out.1 HI.out.2 (fun y hy => absurd ((List.getElem?_eq_some_iff.1 hy).1) hin)))
        go_upto_region 8 with fail
        refine wp_region_held_drew (S := fun _ => True) (by kernel_rfl) trivial (fun hHeld => ?_)
        have CD := Lib.hid (Chg.refl [] wr).drew
        generalize wr.drew = wd at *
        clear i2
        refine sy 0 35 rfl rfl ?_ (hS := trivial)
        try simp only [Act.put, sA, s0, s1]
        refine sy 1 36 rfl rfl ?_ (hS := trivial)
        try simp only [Act.put, sA, s0, s1]
        refine sy 2 37 rfl rfl ?_ (hS := trivial)
        try simp only [Act.put, sA, s0, s1]
        refine sy 3 38 rfl rfl ?_ (hS := trivial)
        try simp only [Act.put, sA, s0, s1]
        refine sy 4 39 rfl rfl ?_ (hS := trivial)
        try simp only [Act.put, sA, s0, s1]
        refine sn 5 40 rfl rfl ?_ (hS := trivial)
        try simp only [Act.put, sA, s0, s1]
        refine sn 6 41 rfl rfl ?_ (hS := trivial)
        try simp only [Act.put, sA, s0, s1]
        refine sn 7 42 rfl rfl ?_ (hS := trivial)
        try simp only [Act.put, sA, s0, s1]
        refine sn 8 43 rfl rfl ?_ (hS := trivial)
        try simp only [Act.put, sA, s0, s1]
        refine sn 9 44 rfl rfl ?_ (hS := trivial)
        try simp only [Act.put, sA, s0, s1]
        refine sn 10 45 rfl rfl ?_ (hS := trivial)
        try simp only [Act.put, sA, s0, s1]
        refine sn 11 46 rfl rfl ?_ (hS := trivial)
        try simp only [Act.put, sA, s0, s1]
        refine sn 12 47 rfl rfl ?_ (hS := trivial)
        try simp only [Act.put, sA, s0, s1]
        refine sy 13 48 rfl rfl ?_ (hS := trivial)
        try simp only [Act.put, sA, s0, s1]
        refine sy 14 6 rfl rfl ?_ (hS := trivial)
        try simp only [Act.put, sA, s0, s1]
        refine sy 15 7 rfl rfl ?_ (hS := trivial)
        try simp only [Act.put, sA, s0, s1]
        refine wpAnyH_done (by kernel_rfl) ?_ _
        clear hHeld
        have CE := Lib.hid (C1.out.trans (HC.out.trans CD.out))
        have AN := ANS.out
        go_wp2
        go_ret2
        (first | exact ⟨(i : Int), by show Ending.returned (.tuple #[.int .i64 (i : Int), .bool (cmpS x n s == 0)]) = _; rw [dz, AN], CE.out⟩ | exact ⟨⟨(i : Int), by show Ending.returned (.tuple #[.int .i64 (i : Int), .bool false]) = _; first | rfl | rw [AN]⟩, CE.out⟩)
end
section
open Go.RowKit Go.Lib
set_option linter.unusedSimpArgs false
set_option linter.unusedVariables false


def hasE (xs : List Sp) (n s : Int) : Bool := decide (chkS xs = 0) && decide (Mem xs n s)
set_option maxRecDepth 100000 in
set_option maxHeartbeats 4000000 in
theorem has_any (w : World) (A : Option Addr) (c : Nat) (xs : List Sp) (n s : Int) (h : RdK spanTy w A xs.length xs) (hn : xs.length ≤ 140737488351232) :
    Calls Try.prog 26 #[.slice A xs.length c, .agg #[.int .i64 n, .int .i64 s]] w fun e w' => e = .returned (.bool (hasE xs n s)) ∧ Chg [] w w' := by
  obtain ⟨w0, hw0, c0, b0⟩ := news1 w (.cells #[.int .i64 n, .int .i64 s] 37)
  have W0 := Lib.hid hw0
  have C0 := Lib.hid c0
  have B0 := Lib.hid b0
  have H := Lib.hid (h.chg c0 (by simp))
  have HN := Lib.hid hn
  clear hw0 c0 b0 h hn
  rcases chk_two xs with e1 | e1
  · have eH : hasE xs n s = decide (Mem xs n s) := by unfold hasE; rw [decide_eq_true e1]; rfl
    rw [eH]
    have WF := Lib.hid (wf_of_chk e1)
    clear eH
    go_enter Try.func26, Try.ntmps26
    go_wp2_with fail
    rw [← W0.out]
    generalize w.heap.size = g0 at *
    refine (pacheck_any w0 A _ c xs H.out HN.out).mono ?_
    rintro e w1 ⟨rfl, h1⟩
    rw [e1]
    have C1 := Lib.hid h1
    have b1 := h1.at_ B0.out (by simp)
    have z0 := cell_of b1 0
    have z1 := cell_of b1 1
    simp only [List.getElem?_toArray, List.getElem?_cons_succ, List.getElem?_cons_zero] at z0 z1
    clear h1 b1
    go_wp2_with fail
    refine (binspan_any w1 A c xs n s (H.out.chg C1.out (by simp)) WF.out.1.1 WF.out.2).mono ?_
    rintro e w2 ⟨i, rfl, h2⟩
    have C2 := Lib.hid (C0.out.trans (C1.out.trans h2))
    clear h2 z0 z1
    generalize hbb : decide (Mem xs n s) = b at *
    have HBB := Lib.hid hbb
    clear hbb
    go_wp2
    go_ret
    have e9 := HBB.out
    subst e9
    exact ⟨rfl, C2.out⟩
  · have eH : hasE xs n s = false := by unfold hasE; rw [decide_eq_false (by omega)]; rfl
    rw [eH]
    clear eH
    go_enter Try.func26, Try.ntmps26
    go_wp2_with fail
    rw [← W0.out]
    generalize w.heap.size = g0 at *
    refine (pacheck_any w0 A _ c xs H.out HN.out).mono ?_
    rintro e w1 ⟨rfl, h1⟩
    rw [e1]
    have C1 := Lib.hid h1
    clear h1
    go_wp2
    go_ret
    exact ⟨rfl, C0.out.trans C1.out⟩
end
section
open Go.RowKit Go.Lib
set_option linter.unusedSimpArgs false
set_option linter.unusedVariables false
end
end Go.Proofs.Ytgafkphhnlifiaa
