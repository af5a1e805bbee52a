/- The walk of EffectOrder. -/
import Derived.Test.YtbihcoidbfoaoaaEorder
namespace Go.Proofs.Ytbihcoidbfoaoaa
open Go.RowKit
set_option linter.unusedSimpArgs false

theorem effO_f {k m : Int} {ys : List UInt8} (h : Fine k m ys.length) : effO k m ys = effB k m ys := if_pos h
theorem last9 {a b c d e f g h i j : Prop} (k : a ∧ b ∧ c ∧ d ∧ e ∧ f ∧ g ∧ h ∧ i ∧ j) : j := k.2.2.2.2.2.2.2.2.2
theorem esame_is (w : World) (k m k' m' : Int) (A B : Option Addr) (n c n' d : Nat) (xs ys : List UInt8) (h : Bs w A n xs) (h' : Bs w B n' ys) (v : Bool) (e : (cmpE k m xs k' m' ys == 0) = v) :
    Calls Try.prog 18 #[.agg #[.int .i64 k, .int .i64 m, .slice A n c], .agg #[.int .i64 k', .int .i64 m', .slice B n' d]] w fun e w' => e = .returned (.bool v) ∧ Chg [] w w' := by
  have := esame_any w k m k' m' A B n c n' d xs ys h h'
  rwa [e] at this
theorem eless_is (w : World) (k m k' m' : Int) (A B : Option Addr) (n c n' d : Nat) (xs ys : List UInt8) (h : Bs w A n xs) (h' : Bs w B n' ys) (v : Bool) (e : decide (cmpE k m xs k' m' ys < 0) = v) :
    Calls Try.prog 20 #[.agg #[.int .i64 k, .int .i64 m, .slice A n c], .agg #[.int .i64 k', .int .i64 m', .slice B n' d]] w fun e w' => e = .returned (.bool v) ∧ Chg [] w w' := by
  have := eless_any w k m k' m' A B n c n' d xs ys h h'
  rwa [e] at this

set_option maxHeartbeats 8000000 in
theorem eorder_yes (w : World) (k0 m0 k1 m1 k2 m2 : Int) (A0 A1 A2 : Option Addr) (n0 c0 n1 c1 n2 c2 : Nat) (xs ys zs : List UInt8) (h0 : Bs w A0 n0 xs) (hn0 : n0 ≤ 140737488351232) (h1 : Bs w A1 n1 ys) (hn1 : n1 ≤ 140737488351232) (h2 : Bs w A2 n2 zs) (hn2 : n2 ≤ 140737488351232) :
    Calls Try.prog 7 #[.agg #[.int .i64 k0, .int .i64 m0, .slice A0 n0 c0], .agg #[.int .i64 k1, .int .i64 m1, .slice A1 n1 c1], .agg #[.int .i64 k2, .int .i64 m2, .slice A2 n2 c2]] w fun r w' => r = .returned (.bool true) ∧ Chg [] w w' := by
  have hl := h0.len
  have hl' := h1.len
  have hl'' := h2.len
  subst hl hl' hl''
  have H0 := Lib.hid h0
  have H1 := Lib.hid h1
  have H2 := Lib.hid h2
  clear h0 h1 h2
  obtain ⟨w0, hw0, cw0, b0, b1⟩ := two_at w (.cells #[.int .i64 k0, .int .i64 m0, .slice A0 xs.length c0] 24) (.cells #[.int .i64 k1, .int .i64 m1, .slice A1 ys.length c1] 24)
  have hs0 : w0.heap.size = w.heap.size + 1 + 1 := by rw [hw0]; simp
  obtain ⟨w1, hw1⟩ : ∃ w1 : World, w1 = w0.alloc (.cells #[.int .i64 k2, .int .i64 m2, .slice A2 zs.length c2] 24) := ⟨_, rfl⟩
  have cw1 : Chg [] w0 w1 := hw1 ▸ (Chg.refl [] w0).alloc _
  have b2 : w1.heap[w.heap.size + 1 + 1]? = some (.cells #[.int .i64 k2, .int .i64 m2, .slice A2 zs.length c2] 24 (0, 0)) := by rw [hw1, ← hs0]; exact heap_alloc_new w0 _
  have b0 := cw1.at_ b0 (by simp)
  have b1 := cw1.at_ b1 (by simp)
  have C1 := Lib.hid (cw0.trans cw1)
  have B0 := Lib.hid b0
  have B1 := Lib.hid b1
  have B2 := Lib.hid b2
  have W1 := Lib.hid (hw1.trans (by rw [hw0]) : w1 = ((w.alloc (.cells #[.int .i64 k0, .int .i64 m0, .slice A0 xs.length c0] 24)).alloc (.cells #[.int .i64 k1, .int .i64 m1, .slice A1 ys.length c1] 24)).alloc (.cells #[.int .i64 k2, .int .i64 m2, .slice A2 zs.length c2] 24))
  clear hw0 hw1 cw0 cw1 b0 b1 b2 hs0
  go_enter Try.func7, Try.ntmps7
  go_wp2_with fail
  rw [← W1.out]
  generalize w.heap.size + 1 + 1 = s2 at *
  generalize w.heap.size + 1 = s1 at *
  generalize w.heap.size = s0 at *
  have hk : ∀ w', Chg [] w1 w' → w'.cell? ⟨s0, 0, none⟩ = some (.int .i64 k0) ∧ w'.cell? ⟨s0, 1, none⟩ = some (.int .i64 m0) ∧ w'.cell? ⟨s0, 2, none⟩ = some (.slice A0 xs.length c0) ∧ w'.cell? ⟨s1, 0, none⟩ = some (.int .i64 k1) ∧ w'.cell? ⟨s1, 1, none⟩ = some (.int .i64 m1) ∧ w'.cell? ⟨s1, 2, none⟩ = some (.slice A1 ys.length c1) ∧ w'.cell? ⟨s2, 0, none⟩ = some (.int .i64 k2) ∧ w'.cell? ⟨s2, 1, none⟩ = some (.int .i64 m2) ∧ w'.cell? ⟨s2, 2, none⟩ = some (.slice A2 zs.length c2) ∧ Chg [] w1 w' := by
    intro w' hc
    have b0 := hc.at_ B0.out (by simp)
    have b1 := hc.at_ B1.out (by simp)
    have b2 := hc.at_ B2.out (by simp)
    exact ⟨cell_of b0 0, cell_of b0 1, cell_of b0 2, cell_of b1 0, cell_of b1 1, cell_of b1 2, cell_of b2 0, cell_of b2 1, cell_of b2 2, hc⟩
  have HK := Lib.hid hk
  clear hk B0 B1 B2 W1
  refine (eawake_yes w1).mono ?_
  rintro r w2 ⟨rfl, hC⟩
  obtain ⟨z0, z1, z2, z3, z4, z5, z6, z7, z8, -⟩ := HK.out w2 hC
  have K2 := Lib.hid hC
  clear hC
  go_wp2_with fail
  by_cases hx : 1200 < xs.length
  · refine (longeff_yes w2 k0 m0 A0 _ c0 hn0 hx).mono ?_
    rintro r w3 ⟨rfl, hC⟩
    have K3 := Lib.hid (C1.out.trans (K2.out.trans hC))
    clear z0 z1 z2 z3 z4 z5 z6 z7 z8 hC
    go_wp2
    go_ret
    exact ⟨rfl, K3.out⟩
  refine (longeff_no w2 k0 m0 A0 _ c0 (by omega)).mono ?_
  rintro r w3 ⟨rfl, hC⟩
  have K3 := Lib.hid (K2.out.trans hC)
  clear z0 z1 z2 z3 z4 z5 z6 z7 z8 hC K2
  obtain ⟨z0, z1, z2, z3, z4, z5, z6, z7, z8, -⟩ := HK.out w3 K3.out
  go_wp2_with fail
  by_cases hy : 1200 < ys.length
  · refine (longeff_yes w3 k1 m1 A1 _ c1 hn1 hy).mono ?_
    rintro r w4 ⟨rfl, hC⟩
    have K4 := Lib.hid (C1.out.trans (K3.out.trans hC))
    clear z0 z1 z2 z3 z4 z5 z6 z7 z8 hC
    go_wp2
    go_ret
    exact ⟨rfl, K4.out⟩
  refine (longeff_no w3 k1 m1 A1 _ c1 (by omega)).mono ?_
  rintro r w4 ⟨rfl, hC⟩
  have K4 := Lib.hid (K3.out.trans hC)
  clear z0 z1 z2 z3 z4 z5 z6 z7 z8 hC K3
  obtain ⟨z0, z1, z2, z3, z4, z5, z6, z7, z8, -⟩ := HK.out w4 K4.out
  go_wp2_with fail
  by_cases hz : 1200 < zs.length
  · refine (longeff_yes w4 k2 m2 A2 _ c2 hn2 hz).mono ?_
    rintro r w5 ⟨rfl, hC⟩
    have K5 := Lib.hid (C1.out.trans (K4.out.trans hC))
    clear z0 z1 z2 z3 z4 z5 z6 z7 z8 hC
    go_wp2
    go_ret
    exact ⟨rfl, K5.out⟩
  refine (longeff_no w4 k2 m2 A2 _ c2 (by omega)).mono ?_
  rintro r w5 ⟨rfl, hC⟩
  have K5 := Lib.hid (K4.out.trans hC)
  clear z0 z1 z2 z3 z4 z5 z6 z7 z8 hC K4
  obtain ⟨z0, z1, z2, z3, z4, z5, z6, z7, z8, -⟩ := HK.out w5 K5.out
  have hB0 : ∀ w', Chg [] w1 w' → Bs w' A0 xs.length xs := fun w' hc => H0.out.chg (C1.out.trans hc) (by simp)
  have hB1 : ∀ w', Chg [] w1 w' → Bs w' A1 ys.length ys := fun w' hc => H1.out.chg (C1.out.trans hc) (by simp)
  have hB2 : ∀ w', Chg [] w1 w' → Bs w' A2 zs.length zs := fun w' hc => H2.out.chg (C1.out.trans hc) (by simp)
  have P0 := Lib.hid hB0
  have P1 := Lib.hid hB1
  have P2 := Lib.hid hB2
  clear hB0 hB1 hB2 hx hy hz
  obtain ⟨X, Y, E, U, T, hX, hY, hE, hE', hU, hT, hcase⟩ : ∃ X Y E U T : Bool, decide (cmpE k0 m0 xs k1 m1 ys < 0) = X ∧ decide (cmpE k1 m1 ys k0 m0 xs < 0) = Y ∧ (cmpE k0 m0 xs k1 m1 ys == 0) = E ∧ (cmpE k1 m1 ys k0 m0 xs == 0) = E ∧ decide (cmpE k1 m1 ys k2 m2 zs < 0) = U ∧ decide (cmpE k0 m0 xs k2 m2 zs < 0) = T ∧ (X = true ∧ Y = false ∧ E = false ∧ U = true ∧ T = true ∨ X = true ∧ Y = false ∧ E = false ∧ U = false ∨ X = false ∧ Y = false ∧ E = true ∨ X = false ∧ Y = true ∧ E = false) := by
    have htr := @cmpE_trans k0 m0 k1 m1 k2 m2 xs ys zs
    rw [cmpE_swap k0 m0 k1 m1 xs ys]
    generalize cmpE k0 m0 xs k1 m1 ys = v at *
    generalize cmpE k1 m1 ys k2 m2 zs = u at *
    generalize cmpE k0 m0 xs k2 m2 zs = t at *
    rcases Int.lt_trichotomy v 0 with h | h | h
    · by_cases hu : u < 0
      · have ht := htr h hu
        exact ⟨true, false, false, true, true, by simpa using h, by simp; omega, by simp; omega, by simp; omega, by simpa using hu, by simpa using ht, .inl ⟨rfl, rfl, rfl, rfl, rfl⟩⟩
      · exact ⟨true, false, false, false, decide (t < 0), by simpa using h, by simp; omega, by simp; omega, by simp; omega, by simpa using hu, rfl, .inr (.inl ⟨rfl, rfl, rfl, rfl⟩)⟩
    · subst h; exact ⟨false, false, true, decide (u < 0), decide (t < 0), rfl, rfl, rfl, rfl, rfl, rfl, .inr (.inr (.inl ⟨rfl, rfl, rfl⟩))⟩
    · exact ⟨false, true, false, decide (u < 0), decide (t < 0), by simp; omega, by simp; omega, by simp; omega, by simp; omega, rfl, rfl, .inr (.inr (.inr ⟨rfl, rfl, rfl⟩))⟩
  have hS : (cmpE k0 m0 xs k0 m0 xs == 0) = true := by simp [cmpE_self]
  have hL : decide (cmpE k0 m0 xs k0 m0 xs < 0) = false := by simp [cmpE_self]
  have HS := Lib.hid hS
  have HL := Lib.hid hL
  clear hS hL
  have HU := Lib.hid hU
  have HT := Lib.hid hT
  have HX := Lib.hid hX
  have HY := Lib.hid hY
  have HE := Lib.hid hE
  have HE' := Lib.hid hE'
  clear hX hY hE hE' hU hT
  go_upto_region 4 with fail
  go_region_held3 (fun w' => w'.cell? ⟨s0, 0, none⟩ = some (.int .i64 k0) ∧ w'.cell? ⟨s0, 1, none⟩ = some (.int .i64 m0) ∧ w'.cell? ⟨s0, 2, none⟩ = some (.slice A0 xs.length c0) ∧ w'.cell? ⟨s1, 0, none⟩ = some (.int .i64 k1) ∧ w'.cell? ⟨s1, 1, none⟩ = some (.int .i64 m1) ∧ w'.cell? ⟨s1, 2, none⟩ = some (.slice A1 ys.length c1) ∧ w'.cell? ⟨s2, 0, none⟩ = some (.int .i64 k2) ∧ w'.cell? ⟨s2, 1, none⟩ = some (.int .i64 m2) ∧ w'.cell? ⟨s2, 2, none⟩ = some (.slice A2 zs.length c2) ∧ Chg [] w1 w')
    (first | exact HK.out _ hC | exact HK.out _ (K5.out).drew | (have hC := last9 ‹_ ∧ _ ∧ _ ∧ _ ∧ _ ∧ _ ∧ _ ∧ _ ∧ _ ∧ Chg [] w1 _›; exact HK.out _ hC))
    (((have hC := last9 ‹_ ∧ _ ∧ _ ∧ _ ∧ _ ∧ _ ∧ _ ∧ _ ∧ _ ∧ Chg [] w1 _›); (first
      | (go_at_call 20; (with_reducible refine (eless_is _ k0 m0 k1 m1 A0 A1 _ _ _ _ xs ys (P0.out _ hC) (P1.out _ hC) X HX.out).mono ?_); rintro e w9 ⟨rfl, hc⟩; have hC := hC.trans hc)
      | (go_at_call 20; (with_reducible refine (eless_is _ k1 m1 k0 m0 A1 A0 _ _ _ _ ys xs (P1.out _ hC) (P0.out _ hC) Y HY.out).mono ?_); rintro e w9 ⟨rfl, hc⟩; have hC := hC.trans hc)
      | (go_at_call 18; (with_reducible refine (esame_is _ k0 m0 k1 m1 A0 A1 _ _ _ _ xs ys (P0.out _ hC) (P1.out _ hC) E HE.out).mono ?_); rintro e w9 ⟨rfl, hc⟩; have hC := hC.trans hc))))
  have hC := last9 ‹_ ∧ _ ∧ _ ∧ _ ∧ _ ∧ _ ∧ _ ∧ _ ∧ _ ∧ Chg [] w1 _›
  clear z0 z1 z2 z3 z4 z5 z6 z7 z8
  obtain ⟨z0, z1, z2, z3, z4, z5, z6, z7, z8, -⟩ := HK.out _ hC
  rcases hcase with ⟨rfl, rfl, rfl, rfl, rfl⟩ | ⟨rfl, rfl, rfl, rfl⟩ | ⟨rfl, rfl, rfl⟩ | ⟨rfl, rfl, rfl⟩
  all_goals
    go_upto_region 9 with (first
      | (go_at_call 18; (with_reducible refine (esame_is _ k1 m1 k0 m0 A1 A0 _ _ _ _ ys xs (P1.out _ hC) (P0.out _ hC) _ HE'.out).mono ?_); rintro e w9 ⟨rfl, hc⟩; have hC := hC.trans hc; clear hc z0 z1 z2 z3 z4 z5 z6 z7 z8; obtain ⟨z0, z1, z2, z3, z4, z5, z6, z7, z8, -⟩ := HK.out _ hC)
      | (go_at_call 18; (with_reducible refine (esame_is _ k0 m0 k0 m0 A0 A0 _ _ _ _ xs xs (P0.out _ hC) (P0.out _ hC) true HS.out).mono ?_); rintro e w9 ⟨rfl, hc⟩; have hC := hC.trans hc; clear hc z0 z1 z2 z3 z4 z5 z6 z7 z8; obtain ⟨z0, z1, z2, z3, z4, z5, z6, z7, z8, -⟩ := HK.out _ hC)
      | (go_at_call 20; (with_reducible refine (eless_is _ k0 m0 k0 m0 A0 A0 _ _ _ _ xs xs (P0.out _ hC) (P0.out _ hC) false HL.out).mono ?_); rintro e w9 ⟨rfl, hc⟩; have hC := hC.trans hc; clear hc z0 z1 z2 z3 z4 z5 z6 z7 z8; obtain ⟨z0, z1, z2, z3, z4, z5, z6, z7, z8, -⟩ := HK.out _ hC)
      | (go_at_call 20; (with_reducible refine (eless_is _ k1 m1 k2 m2 A1 A2 _ _ _ _ ys zs (P1.out _ hC) (P2.out _ hC) _ HU.out).mono ?_); rintro e w9 ⟨rfl, hc⟩; have hC := hC.trans hc; clear hc z0 z1 z2 z3 z4 z5 z6 z7 z8; obtain ⟨z0, z1, z2, z3, z4, z5, z6, z7, z8, -⟩ := HK.out _ hC)
      | (go_at_call 20; (with_reducible refine (eless_is _ k0 m0 k2 m2 A0 A2 _ _ _ _ xs zs (P0.out _ hC) (P2.out _ hC) _ HT.out).mono ?_); rintro e w9 ⟨rfl, hc⟩; have hC := hC.trans hc; clear hc z0 z1 z2 z3 z4 z5 z6 z7 z8; obtain ⟨z0, z1, z2, z3, z4, z5, z6, z7, z8, -⟩ := HK.out _ hC))
    go_wp2_with fail
    have r1 := ebytes_any _ k0 m0 A0 xs.length c0 xs (P0.out _ hC) hn0
    refine r1.mono ?_
    clear r1
    rintro r wa ⟨Aa, ca, rfl, fa⟩
    have hC := hC.trans fa.2.2
    clear z0 z1 z2 z3 z4 z5 z6 z7 z8
    obtain ⟨z0, z1, z2, z3, z4, z5, z6, z7, z8, -⟩ := HK.out _ hC
    have Fa := Lib.hid fa
    clear fa
    go_wp2_with fail
    have r1 := ebytes_any _ k1 m1 A1 ys.length c1 ys (P1.out _ hC) hn1
    refine r1.mono ?_
    clear r1
    rintro r wb ⟨Ab, cb, rfl, fb⟩
    have Ga := Lib.hid (Fa.out.past fb.2.2)
    have Gb := Lib.hid fb
    have KC := Lib.hid (C1.out.trans (hC.trans fb.2.2))
    clear z0 z1 z2 z3 z4 z5 z6 z7 z8 hC fb Fa
    have hinj := @effB_inj k0 m0 k1 m1 xs ys
    have hze := @cmpE_zero k0 m0 k1 m1 xs ys
    by_cases hf0 : Fine k0 m0 xs.length
    · by_cases hf1 : Fine k1 m1 ys.length
      · have e0 := chkE_fine hf0
        have e1 := chkE_fine hf1
        have g0 := Ga.out.1.reads
        have g1 := Gb.out.1.reads
        rw [effO_f hf0] at g0
        rw [effO_f hf1] at g1
        have he : (effB k0 m0 xs == effB k1 m1 ys) = (cmpE k0 m0 xs k1 m1 ys == 0) := by
          rw [Bool.eq_iff_iff, beq_iff_eq, beq_iff_eq, hinj hf0 hf1, hze]
        rw [HE.out] at he
        rw [effO_f hf0, effO_f hf1]
        have hsm := same_any wb Aa Ab _ _ ca cb _ _ g0 g1
        rw [he] at hsm
        have HM := Lib.hid hsm
        clear hinj hze hf0 hf1 g0 g1 he hsm
        go_wp2_with fail
        refine HM.out.mono ?_
        rintro r wc ⟨rfl, rfl⟩
        go_wp2
        go_ret
        exact ⟨rfl, KC.out⟩
      · have e0 := chkE_fine hf0
        have e1 := chkE_odd hf1
        clear hinj hze hf0 hf1
        go_wp2
        go_ret
        exact ⟨rfl, KC.out⟩
    · have e0 := chkE_odd hf0
      clear hinj hze hf0
      go_wp2
      go_ret
      exact ⟨rfl, KC.out⟩
end Go.Proofs.Ytbihcoidbfoaoaa
