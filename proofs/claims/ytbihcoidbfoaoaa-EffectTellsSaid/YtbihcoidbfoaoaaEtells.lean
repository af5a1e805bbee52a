/- The walk of EffectTells. -/
import Derived.Test.YtbihcoidbfoaoaaEorder2
namespace Go.Proofs.Ytbihcoidbfoaoaa
open Go.RowKit
set_option linter.unusedSimpArgs false

theorem Chg.more {S : List Nat} {a b c : World} (h : Chg S a b) (k : Chg [] b c) : Chg S a c := h.trans (k.mono (by simp))
theorem last12 {a b c d e f g h i j k l m : Prop} (x : a ∧ b ∧ c ∧ d ∧ e ∧ f ∧ g ∧ h ∧ i ∧ j ∧ k ∧ l ∧ m) : m := x.2.2.2.2.2.2.2.2.2.2.2.2
theorem last6 {a b c d e f g : Prop} (k : a ∧ b ∧ c ∧ d ∧ e ∧ f ∧ g) : g := k.2.2.2.2.2.2
theorem Chg.set3D {a w : World} (h : Chg [] a w.drew) {b : Nat} (hb : a.heap.size ≤ b) (x y z : Value) : Chg [] a (((w.setCell ⟨b, 0, none⟩ x).setCell ⟨b, 1, none⟩ y).setCell ⟨b, 2, none⟩ z).drew :=
  (((h.setCell (p := ⟨b, 0, none⟩) (.inr hb) x).setCell (p := ⟨b, 1, none⟩) (.inr hb) y).setCell (p := ⟨b, 2, none⟩) (.inr hb) z)

set_option maxHeartbeats 8000000 in
theorem etells_yes (w : World) (k0 m0 k1 m1 : Int) (A0 A1 : Option Addr) (n0 c0 n1 c1 : Nat) (xs ys : List UInt8) (h0 : Bs w A0 n0 xs) (hn0 : n0 ≤ 140737488351232) (h1 : Bs w A1 n1 ys) (hn1 : n1 ≤ 140737488351232) :
    Calls Try.prog 3 #[.agg #[.int .i64 k0, .int .i64 m0, .slice A0 n0 c0], .agg #[.int .i64 k1, .int .i64 m1, .slice A1 n1 c1]] w fun r w' => r = .returned (.bool true) ∧ Chg [] w w' := by
  have hl := h0.len
  have hl' := h1.len
  subst hl hl'
  have H0 := Lib.hid h0
  have H1 := Lib.hid h1
  clear h0 h1
  obtain ⟨w1, hw1, cw1, b0, b1⟩ := two_at w (.cells #[.int .i64 k0, .int .i64 m0, .slice A0 xs.length c0] 24) (.cells #[.int .i64 k1, .int .i64 m1, .slice A1 ys.length c1] 24)
  have C1 := Lib.hid cw1
  have B0 := Lib.hid b0
  have B1 := Lib.hid b1
  have W1 := Lib.hid hw1
  have hs0 := lt_of_heap b0
  have hs1 := lt_of_heap b1
  have hs01 : ¬ w.heap.size = w.heap.size + 1 := by omega
  clear hw1 cw1 b0 b1
  go_enter Try.func3, Try.ntmps3
  go_upto_region 1 with fail
  rw [← W1.out]
  generalize w.heap.size + 1 = s1 at *
  generalize w.heap.size = s0 at *
  have hk : ∀ w', Chg [] w1 w' → w'.cell? ⟨s0, 0, none⟩ = some (.int .i64 k0) ∧ w'.cell? ⟨s0, 1, none⟩ = some (.int .i64 m0) ∧ w'.cell? ⟨s0, 2, none⟩ = some (.slice A0 xs.length c0) ∧ w'.cell? ⟨s1, 0, none⟩ = some (.int .i64 k1) ∧ w'.cell? ⟨s1, 1, none⟩ = some (.int .i64 m1) ∧ w'.cell? ⟨s1, 2, none⟩ = some (.slice A1 ys.length c1) ∧ Chg [] w1 w' := by
    intro w' hc
    have b0 := hc.at_ B0.out (by simp)
    have b1 := hc.at_ B1.out (by simp)
    exact ⟨cell_of b0 0, cell_of b0 1, cell_of b0 2, cell_of b1 0, cell_of b1 1, cell_of b1 2, hc⟩
  have HK := Lib.hid hk
  clear hk W1
  obtain ⟨z0, z1, z2, z3, z4, z5, -⟩ := HK.out w1 (Chg.refl _ _)
  go_wp2_with fail
  by_cases hx : 1200 < xs.length
  · refine (longeff_yes w1 k0 m0 A0 _ c0 hn0 hx).mono ?_
    rintro r w3 ⟨rfl, hC⟩
    clear z0 z1 z2 z3 z4 z5
    have K3 := Lib.hid (C1.out.trans hC)
    clear hC
    go_wp2_with fail
    refine (eawake_yes w3).mono ?_
    rintro r w4 ⟨rfl, hC⟩
    have K4 := Lib.hid (K3.out.trans hC)
    clear hC K3
    go_wp2
    go_ret
    exact ⟨rfl, K4.out⟩
  refine (longeff_no w1 k0 m0 A0 _ c0 (by omega)).mono ?_
  rintro r w2 ⟨rfl, hC⟩
  clear z0 z1 z2 z3 z4 z5
  obtain ⟨z0, z1, z2, z3, z4, z5, -⟩ := HK.out w2 hC
  have K2 := Lib.hid hC
  clear hC
  go_wp2_with fail
  by_cases hy : 1200 < ys.length
  · refine (longeff_yes w2 k1 m1 A1 _ c1 hn1 hy).mono ?_
    rintro r w3 ⟨rfl, hC⟩
    clear z0 z1 z2 z3 z4 z5
    have K3 := Lib.hid (C1.out.trans (K2.out.trans hC))
    clear hC K2
    go_wp2_with fail
    refine (eawake_yes w3).mono ?_
    rintro r w4 ⟨rfl, hC⟩
    have K4 := Lib.hid (K3.out.trans hC)
    clear hC K3
    go_wp2
    go_ret
    exact ⟨rfl, K4.out⟩
  refine (longeff_no w2 k1 m1 A1 _ c1 (by omega)).mono ?_
  rintro r w3 ⟨rfl, hC⟩
  clear z0 z1 z2 z3 z4 z5
  obtain ⟨z0, z1, z2, z3, z4, z5, -⟩ := HK.out w3 (K2.out.trans hC)
  have K3 := Lib.hid (K2.out.trans hC)
  clear hC K2 hx hy
  have hz3 : w1.heap.size ≤ w3.heap.size := K3.out.size
  go_upto_region 3 with fail
  go_region_held3 (fun w' => w'.cell? ⟨s0, 0, none⟩ = some (.int .i64 k0) ∧ w'.cell? ⟨s0, 1, none⟩ = some (.int .i64 m0) ∧ w'.cell? ⟨s0, 2, none⟩ = some (.slice A0 xs.length c0) ∧ w'.cell? ⟨s1, 0, none⟩ = some (.int .i64 k1) ∧ w'.cell? ⟨s1, 1, none⟩ = some (.int .i64 m1) ∧ w'.cell? ⟨s1, 2, none⟩ = some (.slice A1 ys.length c1) ∧ Chg [] w1 w')
    (first | exact HK.out _ (K3.out).drew | (have hC := last6 ‹_ ∧ _ ∧ _ ∧ _ ∧ _ ∧ _ ∧ Chg [] w1 _›; first | exact HK.out _ ((K3.out.alloc _).alloc _).drew | exact HK.out _ (hC.allocD _) | exact HK.out _ (hC.alloc _) | exact HK.out _ (hC.set3D hz3 _ _ _) | exact HK.out _ (hC.set3D (Nat.le_succ_of_le hz3) _ _ _) | exact HK.out _ hC))
    (fail)
  all_goals
    first
      | (obtain ⟨w4, hw4, c4, b5, b6⟩ := two_at w3 (.cells #[.int .i64 k0, .int .i64 m0, .slice A0 xs.length c0] 24) (.cells #[.int .i64 k1, .int .i64 m1, .slice A1 ys.length c1] 24)
         rw [← hw4]
         have hs56 : ¬ w3.heap.size = w3.heap.size + 1 := by omega
         have hs65 : ¬ w3.heap.size + 1 = w3.heap.size := by omega
         have hz5 : w1.heap.size ≤ w3.heap.size := hz3
         have hz6 : w1.heap.size ≤ w3.heap.size + 1 := by omega
         clear hw4
         generalize w3.heap.size + 1 = s6 at *
         generalize w3.heap.size = s5 at *)
      | (obtain ⟨w4, hw4, c4, b6, b5⟩ := two_at w3 (.cells #[.int .i64 k1, .int .i64 m1, .slice A1 ys.length c1] 24) (.cells #[.int .i64 k0, .int .i64 m0, .slice A0 xs.length c0] 24)
         rw [← hw4]
         have hs65 : ¬ w3.heap.size = w3.heap.size + 1 := by omega
         have hs56 : ¬ w3.heap.size + 1 = w3.heap.size := by omega
         have hz6 : w1.heap.size ≤ w3.heap.size := hz3
         have hz5 : w1.heap.size ≤ w3.heap.size + 1 := by omega
         clear hw4
         generalize w3.heap.size + 1 = s5 at *
         generalize w3.heap.size = s6 at *)
    have c5 := (K3.out.trans c4).drew
    have b5 : w4.drew.heap[s5]? = _ := b5
    have b6 : w4.drew.heap[s6]? = _ := b6
    clear z0 z1 z2 z3 z4 z5 c4 hz3 K3
    have K5 := Lib.hid c5
    have B5 := Lib.hid b5
    have B6 := Lib.hid b6
    have hl5 := lt_of_heap b5
    have hl6 := lt_of_heap b6
    have hn5 : w1.heap.size ≤ w4.drew.heap.size := c5.size
    clear c5 b5 b6
    generalize w4.drew = w5 at *
    have hup : ∀ w', Chg [s5, s6] w5 w' → Chg [] w1 w' := fun w' h => K5.out.trans' h (by intro i hi; simp at hi; omega)
    have HUp := Lib.hid hup
    have hk2 : ∀ w', Chg [s5, s6] w5 w' → w'.cell? ⟨s0, 2, none⟩ = some (.slice A0 xs.length c0) ∧ w'.cell? ⟨s1, 2, none⟩ = some (.slice A1 ys.length c1) ∧ Chg [s5, s6] w5 w' := fun w' h => by
      have q := HK.out _ (HUp.out _ h)
      exact ⟨q.2.2.1, q.2.2.2.2.2.1, h⟩
    have HK2 := Lib.hid hk2
    have P0 : ∀ w', Chg [] w1 w' → Bs w' A0 xs.length xs := fun w' hc => H0.out.chg (C1.out.trans hc) (by simp)
    have P1 : ∀ w', Chg [] w1 w' → Bs w' A1 ys.length ys := fun w' hc => H1.out.chg (C1.out.trans hc) (by simp)
    have HP0 := Lib.hid P0
    have HP1 := Lib.hid P1
    clear hup hk2 P0 P1
    go_upto_region 4 with fail
    go_region_held3 (fun w' => w'.cell? ⟨s0, 2, none⟩ = some (.slice A0 xs.length c0) ∧ w'.cell? ⟨s1, 2, none⟩ = some (.slice A1 ys.length c1) ∧ Chg [s5, s6] w5 w')
      (first | exact HK2.out _ hC | exact HK2.out _ (Chg.refl _ w5).drew | (have hC := And.right (And.right ‹_ ∧ _ ∧ Chg [s5, s6] w5 _›); first | exact HK2.out _ (hC.setCell (.inl (by simp)) _) | exact HK2.out _ hC))
      (((have hC := And.right (And.right ‹_ ∧ _ ∧ Chg [s5, s6] w5 _›)); (first
        | (go_at_call 10; (with_reducible refine (lent_any _ A0 _ c0 xs (HP0.out _ (HUp.out _ hC)) hn0).mono ?_); rintro e w6 ⟨g5, rfl, hL5, hg5, hc⟩; have L5 := Lib.hid hL5; have D6 := Lib.hid hc; have hC := hC.more hc; clear hL5 hc)
        | (go_at_call 10; (with_reducible refine (lent_any _ A1 _ c1 ys (HP1.out _ (HUp.out _ hC)) hn1).mono ?_); rintro e w7 ⟨g6, rfl, hL6, hg6, hc⟩; have L6 := Lib.hid hL6; have L5' := Lib.hid (L5.out.chg hc (by simp)); have b5 := (D6.out.trans hc).at_ (B5.out : w5.drew.heap[_]? = _) (by simp); have b6 := (D6.out.trans hc).at_ (B6.out : w5.drew.heap[_]? = _) (by simp); have x5 := cell_of b5 2; have x6 := cell_of b6 2; have y5 := free_of b5 2; have y6 := free_of b6 2; simp only [List.getElem?_toArray, List.getElem?_cons_succ, List.getElem?_cons_zero] at x5 x6; have E5 := Lib.hid b5; have E6 := Lib.hid b6; have hC := hC.more hc; have D7 := Lib.hid hC; clear b5 b6 hL6 hc))))
    obtain ⟨w8, hw8⟩ : ∃ w8 : World, w8 = (w7.setCell ⟨s5, 2, none⟩ (.slice (some ⟨g5, 0, none⟩) xs.length (xs.length + 3))).setCell ⟨s6, 2, none⟩ (.slice (some ⟨g6, 0, none⟩) ys.length (ys.length + 3)) := ⟨_, rfl⟩
    rw [← hw8]
    have c8 : Chg [s5, s6] w7 w8 := hw8 ▸ ((Chg.refl _ _).setCell (.inl (by simp)) _).setCell (.inl (by simp)) _
    have b5 : w8.heap[s5]? = some (.cells #[.int .i64 k0, .int .i64 m0, .slice (some ⟨g5, 0, none⟩) xs.length (xs.length + 3)] 24 (0, 0)) := by
      have e := heap_setCell_same w7 s5 2 _ _ (.slice (some ⟨g5, 0, none⟩) xs.length (xs.length + 3)) E5.out
      have e2 := ((Chg.refl [s6] _).setCell (p := ⟨s6, 2, none⟩) (.inl (by simp)) (.slice (some ⟨g6, 0, none⟩) ys.length (ys.length + 3))).at_ e (by simpa using hs56)
      rw [hw8]
      simpa using e2
    have b6 : w8.heap[s6]? = some (.cells #[.int .i64 k1, .int .i64 m1, .slice (some ⟨g6, 0, none⟩) ys.length (ys.length + 3)] 24 (0, 0)) := by
      have e := ((Chg.refl [s5] w7).setCell (p := ⟨s5, 2, none⟩) (.inl (by simp)) (.slice (some ⟨g5, 0, none⟩) xs.length (xs.length + 3))).at_ E6.out (by simpa using hs65)
      have e2 := heap_setCell_same _ s6 2 _ _ (.slice (some ⟨g6, 0, none⟩) ys.length (ys.length + 3)) e
      rw [hw8]
      simpa using e2
    have hg5' : w5.heap.size ≤ g5 := hg5
    have hg6' : w5.heap.size ≤ g6 := Nat.le_trans D6.out.size hg6
    have l5 := L5'.out.chg c8 (by simp; omega)
    have l6 := L6.out.chg c8 (by simp; omega)
    have k8 := HUp.out _ (D7.out.trans c8)
    have hk3 : ∀ w', Chg [] w8 w' → w'.cell? ⟨s0, 0, none⟩ = some (.int .i64 k0) ∧ w'.cell? ⟨s0, 1, none⟩ = some (.int .i64 m0) ∧ w'.cell? ⟨s0, 2, none⟩ = some (.slice A0 xs.length c0) ∧ w'.cell? ⟨s1, 0, none⟩ = some (.int .i64 k1) ∧ w'.cell? ⟨s1, 1, none⟩ = some (.int .i64 m1) ∧ w'.cell? ⟨s1, 2, none⟩ = some (.slice A1 ys.length c1) ∧ w'.cell? ⟨s5, 0, none⟩ = some (.int .i64 k0) ∧ w'.cell? ⟨s5, 1, none⟩ = some (.int .i64 m0) ∧ w'.cell? ⟨s5, 2, none⟩ = some (.slice (some ⟨g5, 0, none⟩) xs.length (xs.length + 3)) ∧ w'.cell? ⟨s6, 0, none⟩ = some (.int .i64 k1) ∧ w'.cell? ⟨s6, 1, none⟩ = some (.int .i64 m1) ∧ w'.cell? ⟨s6, 2, none⟩ = some (.slice (some ⟨g6, 0, none⟩) ys.length (ys.length + 3)) ∧ Chg [] w8 w' := by
      intro w' hc
      obtain ⟨q0, q1, q2, q3, q4, q5, -⟩ := HK.out _ (k8.trans hc)
      have b5 := hc.at_ b5 (by simp)
      have b6 := hc.at_ b6 (by simp)
      exact ⟨q0, q1, q2, q3, q4, q5, cell_of b5 0, cell_of b5 1, cell_of b5 2, cell_of b6 0, cell_of b6 1, cell_of b6 2, hc⟩
    have HK3 := Lib.hid hk3
    have M5 := Lib.hid l5
    have M6 := Lib.hid l6
    have K8 := Lib.hid k8
    have hgl5 := l5.lt
    have hgl6 := l6.lt
    clear hw8 c8 b5 b6 l5 l6 k8 hk3 hg5 hg6 hg5' hg6' E5 E6 D6 D7 L5 L5' L6 x5 x6 y5 y6 HK2 HUp HK K5 B5 B6 hl5 hl6 hn5 hs56 hs65 hz5 hz6 hs0 hs1 hs01 B0 B1
    obtain ⟨z0, z1, z2, z3, z4, z5, u0, u1, u2, u3, u4, u5, -⟩ := HK3.out w8 (Chg.refl _ _)
    have r1 := ebytes_any w8 k0 m0 (some ⟨g5, 0, none⟩) xs.length (xs.length + 3) xs M5.out.reads hn0
    have r2 := fun w9 (hc : Chg [] w8 w9) => fbytes_any w9 k0 m0 A0 xs.length c0 xs (HP0.out _ (K8.out.trans hc)) hn0
    generalize effO k0 m0 xs = os at r1 r2
    have hck := fun w A c => check_any w k0 m0 A xs.length c hn0
    have hfk := fun w A c => fcheck_any w k0 m0 A xs.length c hn0
    generalize chkE k0 m0 xs.length = ec at r1 r2 hck hfk
    have HCk := Lib.hid hck
    have HFk := Lib.hid hfk
    have hes := fun w A B c d (h : Bs w A xs.length xs) (h' : Bs w B ys.length ys) => esame_any w k0 m0 k1 m1 A B xs.length c ys.length d xs ys h h'
    have hel := fun w A B c d (h : Bs w A xs.length xs) (h' : Bs w B ys.length ys) => eless_any w k0 m0 k1 m1 A B xs.length c ys.length d xs ys h h'
    have hfs := fun w A B c d (h : Bs w A xs.length xs) (h' : Bs w B ys.length ys) => fsame_any w k0 m0 k1 m1 A B xs.length c ys.length d xs ys h h'
    have hfl := fun w A B c d (h : Bs w A xs.length xs) (h' : Bs w B ys.length ys) => fless_any w k0 m0 k1 m1 A B xs.length c ys.length d xs ys h h'
    generalize (cmpE k0 m0 xs k1 m1 ys == 0) = E at hes hfs
    generalize decide (cmpE k0 m0 xs k1 m1 ys < 0) = X at hel hfl
    have HEs := Lib.hid hes
    have HEl := Lib.hid hel
    have HFs := Lib.hid hfs
    have HFl := Lib.hid hfl
    clear hck hfk hes hel hfs hfl
    have R2 := Lib.hid r2
    clear r2
    go_wp2_with fail
    refine r1.mono ?_
    clear r1
    rintro r w9 ⟨Ax, cx, rfl, fx⟩
    have Fx := Lib.hid fx
    have hC := fx.2.2
    clear z0 z1 z2 z3 z4 z5 u0 u1 u2 u3 u4 u5 fx
    obtain ⟨z0, z1, z2, z3, z4, z5, u0, u1, u2, u3, u4, u5, -⟩ := HK3.out w9 hC
    go_wp2_with fail
    refine (R2.out w9 hC).mono ?_
    rintro r wa ⟨Ay, cy, rfl, fy⟩
    have Fx' := Lib.hid (Fx.out.past fy.2.2)
    have Fy := Lib.hid fy
    have Ca := Lib.hid (hC.trans fy.2.2)
    clear z0 z1 z2 z3 z4 z5 u0 u1 u2 u3 u4 u5 fy hC R2 Fx
    obtain ⟨z0, z1, z2, z3, z4, z5, u0, u1, u2, u3, u4, u5, -⟩ := HK3.out wa Ca.out
    have hk4 : ∀ w', Chg [] wa w' → w'.cell? ⟨s0, 0, none⟩ = some (.int .i64 k0) ∧ w'.cell? ⟨s0, 1, none⟩ = some (.int .i64 m0) ∧ w'.cell? ⟨s0, 2, none⟩ = some (.slice A0 xs.length c0) ∧ w'.cell? ⟨s1, 0, none⟩ = some (.int .i64 k1) ∧ w'.cell? ⟨s1, 1, none⟩ = some (.int .i64 m1) ∧ w'.cell? ⟨s1, 2, none⟩ = some (.slice A1 ys.length c1) ∧ w'.cell? ⟨s5, 0, none⟩ = some (.int .i64 k0) ∧ w'.cell? ⟨s5, 1, none⟩ = some (.int .i64 m0) ∧ w'.cell? ⟨s5, 2, none⟩ = some (.slice (some ⟨g5, 0, none⟩) xs.length (xs.length + 3)) ∧ w'.cell? ⟨s6, 0, none⟩ = some (.int .i64 k1) ∧ w'.cell? ⟨s6, 1, none⟩ = some (.int .i64 m1) ∧ w'.cell? ⟨s6, 2, none⟩ = some (.slice (some ⟨g6, 0, none⟩) ys.length (ys.length + 3)) ∧ Chg [] wa w' := by
      intro w' hc
      obtain ⟨q0, q1, q2, q3, q4, q5, p0, p1, p2, p3, p4, p5, -⟩ := HK3.out _ (Ca.out.trans hc)
      exact ⟨q0, q1, q2, q3, q4, q5, p0, p1, p2, p3, p4, p5, hc⟩
    have HK4 := Lib.hid hk4
    clear hk4
    clear z0 z1 z2 z3 z4 z5 u0 u1 u2 u3 u4 u5
    go_upto_region 7 with fail
    go_region_held3 (fun w' => w'.cell? ⟨s0, 0, none⟩ = some (.int .i64 k0) ∧ w'.cell? ⟨s0, 1, none⟩ = some (.int .i64 m0) ∧ w'.cell? ⟨s0, 2, none⟩ = some (.slice A0 xs.length c0) ∧ w'.cell? ⟨s1, 0, none⟩ = some (.int .i64 k1) ∧ w'.cell? ⟨s1, 1, none⟩ = some (.int .i64 m1) ∧ w'.cell? ⟨s1, 2, none⟩ = some (.slice A1 ys.length c1) ∧ w'.cell? ⟨s5, 0, none⟩ = some (.int .i64 k0) ∧ w'.cell? ⟨s5, 1, none⟩ = some (.int .i64 m0) ∧ w'.cell? ⟨s5, 2, none⟩ = some (.slice (some ⟨g5, 0, none⟩) xs.length (xs.length + 3)) ∧ w'.cell? ⟨s6, 0, none⟩ = some (.int .i64 k1) ∧ w'.cell? ⟨s6, 1, none⟩ = some (.int .i64 m1) ∧ w'.cell? ⟨s6, 2, none⟩ = some (.slice (some ⟨g6, 0, none⟩) ys.length (ys.length + 3)) ∧ Chg [] wa w')
      (first | exact HK4.out _ hC | exact HK4.out _ (Chg.refl [] wa).drew | (have hC := last12 ‹_ ∧ _ ∧ _ ∧ _ ∧ _ ∧ _ ∧ _ ∧ _ ∧ _ ∧ _ ∧ _ ∧ _ ∧ Chg [] wa _›; first | exact HK4.out _ hC.drew | exact HK4.out _ hC))
      (((have hC := last12 ‹_ ∧ _ ∧ _ ∧ _ ∧ _ ∧ _ ∧ _ ∧ _ ∧ _ ∧ _ ∧ _ ∧ _ ∧ Chg [] wa _›); (first
      | (go_at_call 13; refine (same_yes _ Ax Ay _ _ _ _ os os ((Fx'.out.past hC).1.reads) ((Fy.out.past hC).1.reads) rfl).mono ?_; rintro e w9 ⟨rfl, rfl⟩)
      | (go_at_call 14; (with_reducible refine (HCk.out _ _ _).mono ?_); rintro e w9 ⟨rfl, hc⟩; have hC := hC.trans hc; clear hc)
      | (go_at_call 15; (with_reducible refine (HFk.out _ _ _).mono ?_); rintro e w9 ⟨rfl, hc⟩; have hC := hC.trans hc; clear hc)
      | (go_at_call 16; (with_reducible refine (esize_any _ k0 m0 _ _ _ hn0).mono ?_); rintro e w9 ⟨rfl, hc⟩; have hC := hC.trans hc; clear hc)
      | (go_at_call 17; (with_reducible refine (fsize_any _ k0 m0 _ _ _ hn0).mono ?_); rintro e w9 ⟨rfl, hc⟩; have hC := hC.trans hc; clear hc)
      | (go_at_call 18; (with_reducible refine (HEs.out _ _ _ _ _ ((M5.out.chg (Ca.out.trans hC) (by simp)).reads) ((M6.out.chg (Ca.out.trans hC) (by simp)).reads)).mono ?_); rintro e w9 ⟨rfl, hc⟩; have hC := hC.trans hc; clear hc)
      | (go_at_call 20; (with_reducible refine (HEl.out _ _ _ _ _ ((M5.out.chg (Ca.out.trans hC) (by simp)).reads) ((M6.out.chg (Ca.out.trans hC) (by simp)).reads)).mono ?_); rintro e w9 ⟨rfl, hc⟩; have hC := hC.trans hc; clear hc)
      | (go_at_call 19; (with_reducible refine (HFs.out _ _ _ _ _ (HP0.out _ (K8.out.trans (Ca.out.trans hC))) (HP1.out _ (K8.out.trans (Ca.out.trans hC)))).mono ?_); rintro e w9 ⟨rfl, hc⟩; have hC := hC.trans hc; clear hc)
      | (go_at_call 21; (with_reducible refine (HFl.out _ _ _ _ _ (HP0.out _ (K8.out.trans (Ca.out.trans hC))) (HP1.out _ (K8.out.trans (Ca.out.trans hC)))).mono ?_); rintro e w9 ⟨rfl, hc⟩; have hC := hC.trans hc; clear hc))))
    all_goals
      have hC8 := last12 ‹_ ∧ _ ∧ _ ∧ _ ∧ _ ∧ _ ∧ _ ∧ _ ∧ _ ∧ _ ∧ _ ∧ _ ∧ Chg [] wa _›
      have HC8 := Lib.hid hC8
      clear hC8
      go_upto_region 8 with fail
      go_region_held3 (fun w' => w'.cell? ⟨s0, 0, none⟩ = some (.int .i64 k0) ∧ w'.cell? ⟨s0, 1, none⟩ = some (.int .i64 m0) ∧ w'.cell? ⟨s0, 2, none⟩ = some (.slice A0 xs.length c0) ∧ w'.cell? ⟨s1, 0, none⟩ = some (.int .i64 k1) ∧ w'.cell? ⟨s1, 1, none⟩ = some (.int .i64 m1) ∧ w'.cell? ⟨s1, 2, none⟩ = some (.slice A1 ys.length c1) ∧ w'.cell? ⟨s5, 0, none⟩ = some (.int .i64 k0) ∧ w'.cell? ⟨s5, 1, none⟩ = some (.int .i64 m0) ∧ w'.cell? ⟨s5, 2, none⟩ = some (.slice (some ⟨g5, 0, none⟩) xs.length (xs.length + 3)) ∧ w'.cell? ⟨s6, 0, none⟩ = some (.int .i64 k1) ∧ w'.cell? ⟨s6, 1, none⟩ = some (.int .i64 m1) ∧ w'.cell? ⟨s6, 2, none⟩ = some (.slice (some ⟨g6, 0, none⟩) ys.length (ys.length + 3)) ∧ Chg [] wa w')
        (first | exact HK4.out _ hC | exact HK4.out _ (Chg.refl [] wa).drew | (have hC := last12 ‹_ ∧ _ ∧ _ ∧ _ ∧ _ ∧ _ ∧ _ ∧ _ ∧ _ ∧ _ ∧ _ ∧ _ ∧ Chg [] wa _›; first | exact HK4.out _ hC.drew | exact HK4.out _ hC))
        (((have hC := last12 ‹_ ∧ _ ∧ _ ∧ _ ∧ _ ∧ _ ∧ _ ∧ _ ∧ _ ∧ _ ∧ _ ∧ _ ∧ Chg [] wa _›); (first
      | (go_at_call 14; (with_reducible refine (HCk.out _ _ _).mono ?_); rintro e w9 ⟨rfl, hc⟩; have hC := hC.trans hc; clear hc)
      | (go_at_call 15; (with_reducible refine (HFk.out _ _ _).mono ?_); rintro e w9 ⟨rfl, hc⟩; have hC := hC.trans hc; clear hc)
      | (go_at_call 16; (with_reducible refine (esize_any _ k0 m0 _ _ _ hn0).mono ?_); rintro e w9 ⟨rfl, hc⟩; have hC := hC.trans hc; clear hc)
      | (go_at_call 17; (with_reducible refine (fsize_any _ k0 m0 _ _ _ hn0).mono ?_); rintro e w9 ⟨rfl, hc⟩; have hC := hC.trans hc; clear hc)
      | (go_at_call 18; (with_reducible refine (HEs.out _ _ _ _ _ ((M5.out.chg (Ca.out.trans hC) (by simp)).reads) ((M6.out.chg (Ca.out.trans hC) (by simp)).reads)).mono ?_); rintro e w9 ⟨rfl, hc⟩; have hC := hC.trans hc; clear hc)
      | (go_at_call 20; (with_reducible refine (HEl.out _ _ _ _ _ ((M5.out.chg (Ca.out.trans hC) (by simp)).reads) ((M6.out.chg (Ca.out.trans hC) (by simp)).reads)).mono ?_); rintro e w9 ⟨rfl, hc⟩; have hC := hC.trans hc; clear hc)
      | (go_at_call 19; (with_reducible refine (HFs.out _ _ _ _ _ (HP0.out _ (K8.out.trans (Ca.out.trans hC))) (HP1.out _ (K8.out.trans (Ca.out.trans hC)))).mono ?_); rintro e w9 ⟨rfl, hc⟩; have hC := hC.trans hc; clear hc)
      | (go_at_call 21; (with_reducible refine (HFl.out _ _ _ _ _ (HP0.out _ (K8.out.trans (Ca.out.trans hC))) (HP1.out _ (K8.out.trans (Ca.out.trans hC)))).mono ?_); rintro e w9 ⟨rfl, hc⟩; have hC := hC.trans hc; clear hc))))
      all_goals
        have hC9 := last12 ‹_ ∧ _ ∧ _ ∧ _ ∧ _ ∧ _ ∧ _ ∧ _ ∧ _ ∧ _ ∧ _ ∧ _ ∧ Chg [] wa _›
        obtain ⟨z0, z1, z2, z3, z4, z5, u0, u1, u2, u3, u4, u5, -⟩ := HK4.out _ hC9
        have Fx9 := Lib.hid (Fx'.out.past hC9)
        have C9 := Lib.hid (Ca.out.trans hC9)
        clear hC9
        go_wp2_with fail
        refine (over_own _ Ax cx _ os Fx9.out.1 rfl).mono ?_
        rintro r wb ⟨rfl, h7⟩
        obtain ⟨S, hS, cb⟩ := over_since Fx9.out.2.1 h7
        have Cb := Lib.hid (C9.out.trans' cb (fun i hi => .inr (hS i hi)))
        clear h7 cb hS
        clear z0 z1 z2 z3 z4 z5 u0 u1 u2 u3 u4 u5
        obtain ⟨z0, z1, z2, z3, z4, z5, u0, u1, u2, u3, u4, u5, -⟩ := HK3.out _ Cb.out
        go_wp2_with fail
        refine (kept_any wb g5 A0 _ c0 xs (M5.out.chg Cb.out (by simp)) (HP0.out _ (K8.out.trans Cb.out)) hn0).mono ?_
        rintro r wc ⟨rfl, cc⟩
        have Cc := Lib.hid (Cb.out.trans cc)
        clear cc z0 z1 z2 z3 z4 z5 u0 u1 u2 u3 u4 u5
        obtain ⟨z0, z1, z2, z3, z4, z5, u0, u1, u2, u3, u4, u5, -⟩ := HK3.out _ Cc.out
        go_wp2_with fail
        refine (kept_any wc g6 A1 _ c1 ys (M6.out.chg Cc.out (by simp)) (HP1.out _ (K8.out.trans Cc.out)) hn1).mono ?_
        rintro r wd ⟨rfl, cd⟩
        have Cd := Lib.hid (C1.out.trans (K8.out.trans (Cc.out.trans cd)))
        clear cd z0 z1 z2 z3 z4 z5 u0 u1 u2 u3 u4 u5
        go_wp2_with fail
        refine (eawake_yes wd).mono ?_
        rintro r we ⟨rfl, ce⟩
        have Ce := Lib.hid (Cd.out.trans ce)
        clear ce
        go_wp2
        go_ret
        exact ⟨rfl, Ce.out⟩
end Go.Proofs.Ytbihcoidbfoaoaa
