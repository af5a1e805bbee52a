/- A box: Put. -/
import Derived.Test.YtnpilljjkfjjiaaCkbox
namespace Go.Proofs.Ytnpilljjkfjjiaa
open Go.RowKit
set_option linter.unusedSimpArgs false
set_option linter.unusedVariables false



set_option maxRecDepth 100000 in
set_option maxHeartbeats 8000000 in
theorem bxput_any (w : World) (b : Nat) (q it sz : Int) (A : Option Addr) (c : Nat) (xs : List UInt8) (k i s a : Int) (B : Option Addr) (n d : Nat) (ys : List UInt8) (hb : w.heap[b]? = some (.cells #[.pointer (some ⟨b, 0, none⟩), .int .i64 q, .int .i64 it, .int .i64 sz, .slice A xs.length c] 51 (0, 0))) (ho : OwnB w A c xs) (hx : xs.length ≤ 60000) (hr : Bs w B n ys) (hn : n ≤ 140737488351232) (hB : ys ≠ [] → ∀ x, B = some x → x.block ∉ b :: blkOf A) (R : List UInt8 × Int × BoxT) (hR : putC q (it, sz, xs) k i s a ys = R) :
    Calls Try.prog 21 #[.pointer (some ⟨b, 0, none⟩), .agg #[.int .i64 k, .int .i64 i, .int .i64 s, .int .i64 a, .slice B n d]] w fun e w' => ∃ A1 c1 A2 c2, e = .returned (.tuple #[.slice A1 R.1.length c1, .int .i64 R.2.1]) ∧ OwnB w' A1 c1 R.1 ∧ w'.heap[b]? = some (.cells #[.pointer (some ⟨b, 0, none⟩), .int .i64 q, .int .i64 R.2.2.1, .int .i64 R.2.2.2.1, .slice A2 R.2.2.2.2.length c2] 51 (0, 0)) ∧ OwnB w' A2 c2 R.2.2.2.2 ∧ (R.1 = [] → A1 = none ∧ c1 = 0) ∧ (R.1 ≠ [] → A2 = none ∧ c2 = 0) ∧ (∀ x, A1 = some x → A1 = A ∨ w.heap.size ≤ x.block) ∧ (∀ x, A2 = some x → A2 = A ∨ w.heap.size ≤ x.block) ∧ Chg (b :: blkOf A) w w' := by
  have hl := hr.len
  subst hl
  obtain ⟨w1, hw1, c1, m1⟩ := news1 w (.cells #[.int .i64 k, .int .i64 i, .int .i64 s, .int .i64 a, .slice B ys.length d] 32)
  have W1 := Lib.hid hw1
  have hbl := lt_of_heap hb
  have hAb := ho.ne hb (by decide)
  have BX := Lib.hid (c1.at_ hb (by simp))
  have M := Lib.hid m1
  have O := Lib.hid (ho.chg c1 (by simp))
  have Y := Lib.hid (hr.chg c1 (by simp))
  have C := Lib.hid (c1.into (T := b :: blkOf A))
  have Z := Lib.hid c1.size
  have NB := Lib.hid hAb
  have HB0 := Lib.hid hB
  have YL0 := Lib.hid hr.old
  have MD := Lib.hid (bxmade_any w1 b q it sz A xs.length c BX.out)
  have CK := Lib.hid (fun W => mcheckm_any W k i s a B ys.length d hn)
  have HX := Lib.hid hx
  clear hw1 c1 m1 ho hr hb hAb hB hx
  unfold putC at hR
  by_cases hc0 : chkM k i s a ys.length = 0
  rotate_left
  · rw [if_pos (.inl hc0)] at hR
    subst hR
    generalize chkM k i s a ys.length = ck at *
    have e0 : (ck != 0) = true := by simpa using hc0
    clear hc0
    go_enter Try.func21, Try.ntmps21
    go_wp2_with fail
    rw [← W1.out]
    refine MD.out.mono ?_
    rintro e v ⟨rfl, rfl⟩
    generalize hs0 : w.heap.size = s0 at *
    clear W1
    have y0 := cell_of M.out 0
    have y1 := cell_of M.out 1
    have y2 := cell_of M.out 2
    have y3 := cell_of M.out 3
    have y4 := cell_of M.out 4
    simp only [List.getElem?_toArray, List.getElem?_cons_succ, List.getElem?_cons_zero] at y0 y1 y2 y3 y4
    go_wp2_with fail
    refine (CK.out _).mono ?_
    rintro e w2 ⟨rfl, hc⟩
    clear y0 y1 y2 y3 y4
    replace BX := Lib.hid (hc.at_ BX.out (by simp))
    replace M := Lib.hid (hc.at_ M.out (by simp))
    replace O := Lib.hid (O.out.chg hc (by simp))
    replace Y := Lib.hid (Y.out.chg hc (by simp))
    replace C := Lib.hid (C.out.trans (hc.into (T := b :: blkOf A)))
    replace Z := Lib.hid (Nat.le_trans Z.out hc.size)
    clear hc
    have y0 := cell_of M.out 0
    have y1 := cell_of M.out 1
    have y2 := cell_of M.out 2
    have y3 := cell_of M.out 3
    have y4 := cell_of M.out 4
    simp only [List.getElem?_toArray, List.getElem?_cons_succ, List.getElem?_cons_zero] at y0 y1 y2 y3 y4
    go_wp2
    go_ret2
    exact ⟨none, 0, A, c, rfl, OwnB.none_ _, BX.out, O.out, fun _ => ⟨rfl, rfl⟩, fun h => absurd rfl h, by simp, fun _ _ => .inl rfl, C.out⟩
  by_cases hk : k = 1
  rotate_left
  · rw [if_pos (.inr hk)] at hR
    subst hR
    rw [hc0] at CK
    have e0 : (k != 1) = true := by simpa using hk
    have e1 : (k == 1) = false := by simpa using hk
    clear hc0 hk
    go_enter Try.func21, Try.ntmps21
    go_wp2_with fail
    rw [← W1.out]
    refine MD.out.mono ?_
    rintro e v ⟨rfl, rfl⟩
    generalize hs0 : w.heap.size = s0 at *
    clear W1
    have y0 := cell_of M.out 0
    have y1 := cell_of M.out 1
    have y2 := cell_of M.out 2
    have y3 := cell_of M.out 3
    have y4 := cell_of M.out 4
    simp only [List.getElem?_toArray, List.getElem?_cons_succ, List.getElem?_cons_zero] at y0 y1 y2 y3 y4
    go_wp2_with fail
    refine (CK.out _).mono ?_
    rintro e w2 ⟨rfl, hc⟩
    clear y0 y1 y2 y3 y4
    replace BX := Lib.hid (hc.at_ BX.out (by simp))
    replace M := Lib.hid (hc.at_ M.out (by simp))
    replace O := Lib.hid (O.out.chg hc (by simp))
    replace Y := Lib.hid (Y.out.chg hc (by simp))
    replace C := Lib.hid (C.out.trans (hc.into (T := b :: blkOf A)))
    replace Z := Lib.hid (Nat.le_trans Z.out hc.size)
    clear hc
    have y0 := cell_of M.out 0
    have y1 := cell_of M.out 1
    have y2 := cell_of M.out 2
    have y3 := cell_of M.out 3
    have y4 := cell_of M.out 4
    simp only [List.getElem?_toArray, List.getElem?_cons_succ, List.getElem?_cons_zero] at y0 y1 y2 y3 y4
    go_wp2
    go_ret2
    exact ⟨none, 0, A, c, rfl, OwnB.none_ _, BX.out, O.out, fun _ => ⟨rfl, rfl⟩, fun h => absurd rfl h, by simp, fun _ _ => .inl rfl, C.out⟩
  have hfine := putC_fine (k := k) (i := i) (s := s) (a := a) (ys := ys) (by intro h; rcases h with h | h; exact h hc0; exact h hk)
  rw [if_neg (by intro h; rcases h with h | h; exact h hc0; exact h hk)] at hR
  obtain ⟨_, hpart, _, _⟩ := hfine
  obtain ⟨s1, s2, a1, a2, l1, l2, l3⟩ := hpart
  rw [hc0] at CK
  subst hk
  clear hc0
  have e0 : ((1 : Int) != 1) = false := by decide
  obtain ⟨S, hS⟩ : ∃ S : Nat, s = (S : Int) := ⟨s.toNat, by omega⟩
  subst hS
  have hS6 : S ≤ 60000 := by omega
  have HBB := Lib.hid (HB0.out (by intro e; rw [e] at l1; simp at l1))
  have YL := Lib.hid (YL0.out.resolve_left (by intro e; rw [e] at l1; simp at l1))
  by_cases ha : a = 0
  · subst ha
    rw [if_pos rfl] at hR
    have e1 : ((0 : Int) == 0) = true := by decide
    by_cases hq : q < (S : Int)
    · rw [if_pos hq] at hR
      subst hR
      go_enter Try.func21, Try.ntmps21
      go_wp2_with fail
      rw [← W1.out]
      refine MD.out.mono ?_
      rintro e v ⟨rfl, rfl⟩
      generalize hs0 : w.heap.size = s0 at *
      clear W1
      have y0 := cell_of M.out 0
      have y1 := cell_of M.out 1
      have y2 := cell_of M.out 2
      have y3 := cell_of M.out 3
      have y4 := cell_of M.out 4
      simp only [List.getElem?_toArray, List.getElem?_cons_succ, List.getElem?_cons_zero] at y0 y1 y2 y3 y4
      go_wp2_with fail
      refine (CK.out _).mono ?_
      rintro e w2 ⟨rfl, hc⟩
      clear y0 y1 y2 y3 y4
      replace BX := Lib.hid (hc.at_ BX.out (by simp))
      replace M := Lib.hid (hc.at_ M.out (by simp))
      replace O := Lib.hid (O.out.chg hc (by simp))
      replace Y := Lib.hid (Y.out.chg hc (by simp))
      replace C := Lib.hid (C.out.trans (hc.into (T := b :: blkOf A)))
      replace Z := Lib.hid (Nat.le_trans Z.out hc.size)
      clear hc
      have y0 := cell_of M.out 0
      have y1 := cell_of M.out 1
      have y2 := cell_of M.out 2
      have y3 := cell_of M.out 3
      have y4 := cell_of M.out 4
      simp only [List.getElem?_toArray, List.getElem?_cons_succ, List.getElem?_cons_zero] at y0 y1 y2 y3 y4
      have z0 := cell_of BX.out 0
      have z1 := cell_of BX.out 1
      have z2 := cell_of BX.out 2
      have z3 := cell_of BX.out 3
      have z4 := cell_of BX.out 4
      simp only [List.getElem?_toArray, List.getElem?_cons_succ, List.getElem?_cons_zero] at z0 z1 z2 z3 z4
      go_wp2_with fail
      refine (bxdrop_any _ b q it sz A xs.length c BX.out).mono ?_
      rintro e v3 ⟨rfl, hb3, hc⟩
      clear z0 z1 z2 z3 z4
      clear y0 y1 y2 y3 y4
      replace M := Lib.hid (hc.at_ M.out (by simp; omega))
      replace Y := Lib.hid (Y.out.chg hc (fun x hx hm => HBB.out x hx (by simp at hm ⊢; exact .inl hm)))
      replace C := Lib.hid (C.out.trans (hc.one))
      replace Z := Lib.hid (Nat.le_trans Z.out hc.size)
      replace BX := Lib.hid hb3
      clear hb3 hc
      clear O
      have y0 := cell_of M.out 0
      have y1 := cell_of M.out 1
      have y2 := cell_of M.out 2
      have y3 := cell_of M.out 3
      have y4 := cell_of M.out 4
      simp only [List.getElem?_toArray, List.getElem?_cons_succ, List.getElem?_cons_zero] at y0 y1 y2 y3 y4
      have z0 := cell_of BX.out 0
      have z1 := cell_of BX.out 1
      have z2 := cell_of BX.out 2
      have z3 := cell_of BX.out 3
      have z4 := cell_of BX.out 4
      simp only [List.getElem?_toArray, List.getElem?_cons_succ, List.getElem?_cons_zero] at z0 z1 z2 z3 z4
      go_upto_region 7 with fail
      go_quiet (fail)
      clear z0 z1 z2 z3 z4
      clear y0 y1 y2 y3 y4
      have hq9 := (Chg.refl [] v3).drewN nq
      generalize v3.drewN nq = u7 at *
      replace BX := Lib.hid (hq9.at_ BX.out (by simp))
      replace M := Lib.hid (hq9.at_ M.out (by simp))
      replace Y := Lib.hid (Y.out.chg hq9 (by simp))
      replace C := Lib.hid (C.out.trans (hq9.into (T := b :: blkOf A)))
      replace Z := Lib.hid (Nat.le_trans Z.out hq9.size)
      clear hq9
      have y0 := cell_of M.out 0
      have y1 := cell_of M.out 1
      have y2 := cell_of M.out 2
      have y3 := cell_of M.out 3
      have y4 := cell_of M.out 4
      simp only [List.getElem?_toArray, List.getElem?_cons_succ, List.getElem?_cons_zero] at y0 y1 y2 y3 y4
      have z0 := cell_of BX.out 0
      have z1 := cell_of BX.out 1
      have z2 := cell_of BX.out 2
      have z3 := cell_of BX.out 3
      have z4 := cell_of BX.out 4
      simp only [List.getElem?_toArray, List.getElem?_cons_succ, List.getElem?_cons_zero] at z0 z1 z2 z3 z4
      go_wp2
      go_ret2
      exact ⟨none, 0, none, 0, rfl, OwnB.none_ _, BX.out, OwnB.none_ _, fun _ => ⟨rfl, rfl⟩, fun h => absurd rfl h, by simp, by simp, C.out⟩
    rw [if_neg hq] at hR
    by_cases hlt : (ys.length : Int) < (S : Int)
    · have hr1 : R = ([], 0, i, (S : Int), ys) := by rw [← hR]; unfold finC; rw [if_pos hlt]
      subst hr1
      clear hR
      go_enter Try.func21, Try.ntmps21
      go_wp2_with fail
      rw [← W1.out]
      refine MD.out.mono ?_
      rintro e v ⟨rfl, rfl⟩
      generalize hs0 : w.heap.size = s0 at *
      clear W1
      have y0 := cell_of M.out 0
      have y1 := cell_of M.out 1
      have y2 := cell_of M.out 2
      have y3 := cell_of M.out 3
      have y4 := cell_of M.out 4
      simp only [List.getElem?_toArray, List.getElem?_cons_succ, List.getElem?_cons_zero] at y0 y1 y2 y3 y4
      go_wp2_with fail
      refine (CK.out _).mono ?_
      rintro e w2 ⟨rfl, hc⟩
      clear y0 y1 y2 y3 y4
      replace BX := Lib.hid (hc.at_ BX.out (by simp))
      replace M := Lib.hid (hc.at_ M.out (by simp))
      replace O := Lib.hid (O.out.chg hc (by simp))
      replace Y := Lib.hid (Y.out.chg hc (by simp))
      replace C := Lib.hid (C.out.trans (hc.into (T := b :: blkOf A)))
      replace Z := Lib.hid (Nat.le_trans Z.out hc.size)
      clear hc
      have y0 := cell_of M.out 0
      have y1 := cell_of M.out 1
      have y2 := cell_of M.out 2
      have y3 := cell_of M.out 3
      have y4 := cell_of M.out 4
      simp only [List.getElem?_toArray, List.getElem?_cons_succ, List.getElem?_cons_zero] at y0 y1 y2 y3 y4
      have z0 := cell_of BX.out 0
      have z1 := cell_of BX.out 1
      have z2 := cell_of BX.out 2
      have z3 := cell_of BX.out 3
      have z4 := cell_of BX.out 4
      simp only [List.getElem?_toArray, List.getElem?_cons_succ, List.getElem?_cons_zero] at z0 z1 z2 z3 z4
      go_wp2_with fail
      refine (bxdrop_any _ b q it sz A xs.length c BX.out).mono ?_
      rintro e v3 ⟨rfl, hb3, hc⟩
      clear z0 z1 z2 z3 z4
      clear y0 y1 y2 y3 y4
      replace M := Lib.hid (hc.at_ M.out (by simp; omega))
      replace Y := Lib.hid (Y.out.chg hc (fun x hx hm => HBB.out x hx (by simp at hm ⊢; exact .inl hm)))
      replace C := Lib.hid (C.out.trans (hc.one))
      replace Z := Lib.hid (Nat.le_trans Z.out hc.size)
      replace BX := Lib.hid hb3
      clear hb3 hc
      clear O
      have y0 := cell_of M.out 0
      have y1 := cell_of M.out 1
      have y2 := cell_of M.out 2
      have y3 := cell_of M.out 3
      have y4 := cell_of M.out 4
      simp only [List.getElem?_toArray, List.getElem?_cons_succ, List.getElem?_cons_zero] at y0 y1 y2 y3 y4
      have z0 := cell_of BX.out 0
      have z1 := cell_of BX.out 1
      have z2 := cell_of BX.out 2
      have z3 := cell_of BX.out 3
      have z4 := cell_of BX.out 4
      simp only [List.getElem?_toArray, List.getElem?_cons_succ, List.getElem?_cons_zero] at z0 z1 z2 z3 z4
      go_upto_region 7 with fail
      go_quiet (fail)
      clear z0 z1 z2 z3 z4
      clear y0 y1 y2 y3 y4
      have hq9 := (Chg.refl [] v3).drewN nq
      generalize v3.drewN nq = u7 at *
      replace BX := Lib.hid (hq9.at_ BX.out (by simp))
      replace M := Lib.hid (hq9.at_ M.out (by simp))
      replace Y := Lib.hid (Y.out.chg hq9 (by simp))
      replace C := Lib.hid (C.out.trans (hq9.into (T := b :: blkOf A)))
      replace Z := Lib.hid (Nat.le_trans Z.out hq9.size)
      clear hq9
      have y0 := cell_of M.out 0
      have y1 := cell_of M.out 1
      have y2 := cell_of M.out 2
      have y3 := cell_of M.out 3
      have y4 := cell_of M.out 4
      simp only [List.getElem?_toArray, List.getElem?_cons_succ, List.getElem?_cons_zero] at y0 y1 y2 y3 y4
      have z0 := cell_of BX.out 0
      have z1 := cell_of BX.out 1
      have z2 := cell_of BX.out 2
      have z3 := cell_of BX.out 3
      have z4 := cell_of BX.out 4
      simp only [List.getElem?_toArray, List.getElem?_cons_succ, List.getElem?_cons_zero] at z0 z1 z2 z3 z4
      go_wp2_with fail
      refine (bxbegin_any _ b q 0 0 i S none 0 0 hS6 BX.out).mono ?_
      rintro e w4 ⟨rfl, g, hb4, ho4, hg4, hc⟩
      have G := Lib.hid (show s0 ≤ g by have := Z.out; omega)
      have NB2 := Lib.hid (show ∀ x, (some ⟨g, 0, none⟩ : Option Addr) = some x → x.block ≠ b by intro x hx; cases hx; have := Z.out; simp; omega)
      clear z0 z1 z2 z3 z4
      clear y0 y1 y2 y3 y4
      replace M := Lib.hid (hc.at_ M.out (by simp; omega))
      replace Y := Lib.hid (Y.out.chg hc (fun x hx hm => HBB.out x hx (by simp at hm ⊢; exact .inl hm)))
      replace C := Lib.hid (C.out.trans (hc.one))
      replace Z := Lib.hid (Nat.le_trans Z.out hc.size)
      replace BX := Lib.hid hb4
      have O := Lib.hid ho4
      clear hb4 ho4 hg4 hc
      have y0 := cell_of M.out 0
      have y1 := cell_of M.out 1
      have y2 := cell_of M.out 2
      have y3 := cell_of M.out 3
      have y4 := cell_of M.out 4
      simp only [List.getElem?_toArray, List.getElem?_cons_succ, List.getElem?_cons_zero] at y0 y1 y2 y3 y4
      have z0 := cell_of BX.out 0
      have z1 := cell_of BX.out 1
      have z2 := cell_of BX.out 2
      have z3 := cell_of BX.out 3
      have z4 := cell_of BX.out 4
      simp only [List.getElem?_toArray, List.getElem?_cons_succ, List.getElem?_cons_zero] at z0 z1 z2 z3 z4
      have g0 : (i != i) = false := by simp
      have g1 : (((S : Int)) != (S : Int)) = false := by simp
      have g2 : ((0 : Int) != 0) = false := by decide
      go_upto_region 10 with fail
      go_quiet (fail)
      clear z0 z1 z2 z3 z4
      clear y0 y1 y2 y3 y4
      have hq9 := (Chg.refl [] w4).drewN nq
      generalize w4.drewN nq = u10 at *
      replace BX := Lib.hid (hq9.at_ BX.out (by simp))
      replace M := Lib.hid (hq9.at_ M.out (by simp))
      replace O := Lib.hid (O.out.chg hq9 (by simp))
      replace Y := Lib.hid (Y.out.chg hq9 (by simp))
      replace C := Lib.hid (C.out.trans (hq9.into (T := b :: blkOf A)))
      replace Z := Lib.hid (Nat.le_trans Z.out hq9.size)
      clear hq9
      have y0 := cell_of M.out 0
      have y1 := cell_of M.out 1
      have y2 := cell_of M.out 2
      have y3 := cell_of M.out 3
      have y4 := cell_of M.out 4
      simp only [List.getElem?_toArray, List.getElem?_cons_succ, List.getElem?_cons_zero] at y0 y1 y2 y3 y4
      have z0 := cell_of BX.out 0
      have z1 := cell_of BX.out 1
      have z2 := cell_of BX.out 2
      have z3 := cell_of BX.out 3
      have z4 := cell_of BX.out 4
      simp only [List.getElem?_toArray, List.getElem?_cons_succ, List.getElem?_cons_zero] at z0 z1 z2 z3 z4
      clear z0 z1 z2 z3 z4
      clear y0 y1 y2 y3 y4
      go_upto_region 12 with fail
      have MM := M.out
      refine wp_region_held_drew (S := fun w' => w'.heap[s0]? = some (.cells #[.int .i64 1, .int .i64 i, .int .i64 (S : Int), .int .i64 0, .slice B ys.length d] 32 (0, 0))) (by kernel_rfl) MM (fun hHeld => ?_)
      have hq9 := (Chg.refl [] u10).drew
      clear hHeld
      generalize u10.drew = u12 at *
      replace BX := Lib.hid (hq9.at_ BX.out (by simp))
      replace M := Lib.hid (hq9.at_ M.out (by simp))
      replace O := Lib.hid (O.out.chg hq9 (by simp))
      replace Y := Lib.hid (Y.out.chg hq9 (by simp))
      replace C := Lib.hid (C.out.trans (hq9.into (T := b :: blkOf A)))
      replace Z := Lib.hid (Nat.le_trans Z.out hq9.size)
      clear hq9 MM
      refine step_yes 0 62 ?_ (by exact M.out) rfl rfl (by kernel_rfl) (by kernel_rfl) (by kernel_rfl) (fun _ _ _ h => h) (by rfl) ?_ ?_
      rotate_left
      · (intro w hSw; (try dsimp only at hSw); go_simp; try with_reducible rfl)
      try simp only [Act.put, List.setIfInBounds_toArray, List.set_cons_zero, List.set_cons_succ]
      refine step_yes 1 63 ?_ (by exact M.out) rfl rfl (by kernel_rfl) (by kernel_rfl) (by kernel_rfl) (fun _ _ _ h => h) (by rfl) ?_ ?_
      rotate_left
      · (intro w hSw; (try dsimp only at hSw); go_simp; try with_reducible rfl)
      try simp only [Act.put, List.setIfInBounds_toArray, List.set_cons_zero, List.set_cons_succ]
      refine step_yes 2 64 ?_ (by exact M.out) rfl rfl (by kernel_rfl) (by kernel_rfl) (by kernel_rfl) (fun _ _ _ h => h) (by rfl) ?_ ?_
      rotate_left
      · (intro w hSw; (try dsimp only at hSw); go_simp; try with_reducible rfl)
      try simp only [Act.put, List.setIfInBounds_toArray, List.set_cons_zero, List.set_cons_succ]
      refine step_yes 3 65 ?_ (by exact M.out) rfl rfl (by kernel_rfl) (by kernel_rfl) (by kernel_rfl) (fun _ _ _ h => h) (by rfl) ?_ ?_
      rotate_left
      · (intro w hSw; (try dsimp only at hSw); go_simp; try with_reducible rfl)
      try simp only [Act.put, List.setIfInBounds_toArray, List.set_cons_zero, List.set_cons_succ]
      refine step_yes 5 67 ?_ (by exact M.out) rfl rfl (by kernel_rfl) (by kernel_rfl) (by kernel_rfl) (fun _ _ _ h => h) (by rfl) ?_ ?_
      rotate_left
      · (intro w hSw; (try dsimp only at hSw); go_simp; try with_reducible rfl)
      try simp only [Act.put, List.setIfInBounds_toArray, List.set_cons_zero, List.set_cons_succ]
      refine step_yes 6 68 ?_ (by exact M.out) rfl rfl (by kernel_rfl) (by kernel_rfl) (by kernel_rfl) (fun _ _ _ h => h) (by rfl) ?_ ?_
      rotate_left
      · (intro w hSw; (try dsimp only at hSw); have q := cell_of hSw 4; simp only [List.getElem?_toArray, List.getElem?_cons_succ, List.getElem?_cons_zero] at q; go_simp; try with_reducible rfl)
      try simp only [Act.put, List.setIfInBounds_toArray, List.set_cons_zero, List.set_cons_succ]
      refine wpAnyH_ready (rs := [4]) (by kernel_rfl) (by simp) ?_
      refine AllReadyH.cons rfl (fun K hK => ?_) AllReadyH.nil
      replace hK := Lib.hid hK
      have z := cell_of BX.out 4
      simp only [List.getElem?_toArray, List.getElem?_cons_succ, List.getElem?_cons_zero] at z
      go_simp
      refine hK.out _ _ M.out (fun hHeld => ?_)
      clear hK K
      try simp only [Act.put, List.setIfInBounds_toArray, List.set_cons_zero, List.set_cons_succ]
      clear z hHeld
      refine wpAnyH_ready (rs := [7]) (by kernel_rfl) (by simp) ?_
      refine AllReadyH.cons rfl (fun K hK => ?_) AllReadyH.nil
      replace hK := Lib.hid hK
      refine step_app rfl (.tmp 66) (.tmp 68) rfl rfl O.out rfl rfl Y.out (by have := HX.out; simp; omega) ?_
      intro A5 c5 w5 o5 d5 e5
      (try rw [Nat.zero_add])
      (try rw [List.nil_append] at o5)
      have hb5 := grown_at d5 BX.out NB2.out
      have hm5 := grown_at d5 M.out (fun x hx => O.out.ne M.out (by decide) x hx)
      have NB5 := Lib.hid (show ∀ x, A5 = some x → x.block ≠ b from o5.ne hb5 (by decide))
      have NW5 := Lib.hid (show ∀ x, A5 = some x → A5 = A ∨ s0 ≤ x.block by intro x hx; rcases e5 with e | e; (right; rw [e] at hx; cases hx; exact G.out); (right; rw [e] at hx; cases hx; exact Z.out))
      have C5 := Lib.hid (C.out.grown d5 (fun k hk => by simp at hk; subst hk; exact .inr (Nat.le_of_eq hs0 |> fun h => Nat.le_trans h G.out)))
      have O5 := Lib.hid o5
      have B5 := Lib.hid hb5
      have M5 := Lib.hid hm5
      have Z5 := Lib.hid (Nat.le_trans Z.out d5.size)
      clear o5 hb5 hm5 d5 e5 BX M Y O C Z
      refine hK.out _ _ M5.out (fun hHeld => ?_)
      clear hK K
      try simp only [Act.put, List.setIfInBounds_toArray, List.set_cons_zero, List.set_cons_succ]
      clear hHeld
      refine step_yes 8 70 ?_ (by exact M5.out) rfl rfl (by kernel_rfl) (by kernel_rfl) (by kernel_rfl) (fun _ _ _ h => h) (by rfl) ?_ ?_
      rotate_left
      · (intro w hSw; (try dsimp only at hSw); go_simp; try with_reducible rfl)
      try simp only [Act.put, List.setIfInBounds_toArray, List.set_cons_zero, List.set_cons_succ]
      refine step_yes 9 71 ?_ (by exact M5.out) rfl rfl (by kernel_rfl) (by kernel_rfl) (by kernel_rfl) (fun _ _ _ h => h) (by rfl) ?_ ?_
      rotate_left
      · (intro w hSw; (try dsimp only at hSw); go_simp; try with_reducible rfl)
      try simp only [Act.put, List.setIfInBounds_toArray, List.set_cons_zero, List.set_cons_succ]
      refine wpAnyH_ready (rs := [10]) (by kernel_rfl) (by simp) ?_
      refine AllReadyH.cons rfl (fun K hK => ?_) AllReadyH.nil
      replace hK := Lib.hid hK
      have z := cell_of B5.out 4
      have fz := free_of B5.out 4
      simp only [List.getElem?_toArray, List.getElem?_cons_succ, List.getElem?_cons_zero] at z
      go_simp
      have hst := (Chg.refl [b] w5).setCell (p := ⟨b, 4, none⟩) (.inl (by simp)) (.slice A5 ys.length c5)
      have BX := Lib.hid (box_put1 _ B5.out : (w5.setCell ⟨b, 4, none⟩ (.slice A5 ys.length c5)).heap[b]? = _)
      have M := Lib.hid (hst.at_ M5.out (by simp; omega))
      have O := Lib.hid (O5.out.chg hst (fun x hx => by have := NB5.out x hx; simpa using this))
      have C := Lib.hid (C5.out.trans hst.one)
      have Z := Lib.hid (Nat.le_trans Z5.out hst.size)
      clear z fz hst
      generalize w5.setCell ⟨b, 4, none⟩ (.slice A5 ys.length c5) = w6 at *
      refine hK.out _ _ M.out (fun hHeld => ?_)
      clear hK K
      try simp only [Act.put, List.setIfInBounds_toArray, List.set_cons_zero, List.set_cons_succ]
      clear hHeld B5 M5 O5 C5 Z5
      refine wpAnyH_done (by kernel_rfl) ?_ _
      have y0 := cell_of M.out 0
      have y1 := cell_of M.out 1
      have y2 := cell_of M.out 2
      have y3 := cell_of M.out 3
      have y4 := cell_of M.out 4
      simp only [List.getElem?_toArray, List.getElem?_cons_succ, List.getElem?_cons_zero] at y0 y1 y2 y3 y4
      have z0 := cell_of BX.out 0
      have z1 := cell_of BX.out 1
      have z2 := cell_of BX.out 2
      have z3 := cell_of BX.out 3
      have z4 := cell_of BX.out 4
      simp only [List.getElem?_toArray, List.getElem?_cons_succ, List.getElem?_cons_zero] at z0 z1 z2 z3 z4
      go_upto_region 13 with fail
      go_quiet (fail)
      clear z0 z1 z2 z3 z4
      clear y0 y1 y2 y3 y4
      have hq9 := (Chg.refl [] w6).drewN nq
      generalize w6.drewN nq = w7 at *
      replace BX := Lib.hid (hq9.at_ BX.out (by simp))
      replace M := Lib.hid (hq9.at_ M.out (by simp))
      replace O := Lib.hid (O.out.chg hq9 (by simp))
      replace C := Lib.hid (C.out.trans (hq9.into (T := b :: blkOf A)))
      replace Z := Lib.hid (Nat.le_trans Z.out hq9.size)
      clear hq9
      have y0 := cell_of M.out 0
      have y1 := cell_of M.out 1
      have y2 := cell_of M.out 2
      have y3 := cell_of M.out 3
      have y4 := cell_of M.out 4
      simp only [List.getElem?_toArray, List.getElem?_cons_succ, List.getElem?_cons_zero] at y0 y1 y2 y3 y4
      have z0 := cell_of BX.out 0
      have z1 := cell_of BX.out 1
      have z2 := cell_of BX.out 2
      have z3 := cell_of BX.out 3
      have z4 := cell_of BX.out 4
      simp only [List.getElem?_toArray, List.getElem?_cons_succ, List.getElem?_cons_zero] at z0 z1 z2 z3 z4
      go_wp2
      go_ret2
      exact ⟨none, 0, A5, c5, rfl, OwnB.none_ _, by first | exact BX.out | (rw [List.length_append]; exact BX.out), O.out, fun _ => ⟨rfl, rfl⟩, fun h => absurd rfl h, by simp, by intro x hx; rw [hs0]; exact NW5.out x hx, C.out⟩
    · have hr1 : R = (ys, 0, 0, 0, []) := by rw [← hR]; unfold finC; rw [if_neg hlt]
      subst hr1
      clear hR
      go_enter Try.func21, Try.ntmps21
      go_wp2_with fail
      rw [← W1.out]
      refine MD.out.mono ?_
      rintro e v ⟨rfl, rfl⟩
      generalize hs0 : w.heap.size = s0 at *
      clear W1
      have y0 := cell_of M.out 0
      have y1 := cell_of M.out 1
      have y2 := cell_of M.out 2
      have y3 := cell_of M.out 3
      have y4 := cell_of M.out 4
      simp only [List.getElem?_toArray, List.getElem?_cons_succ, List.getElem?_cons_zero] at y0 y1 y2 y3 y4
      go_wp2_with fail
      refine (CK.out _).mono ?_
      rintro e w2 ⟨rfl, hc⟩
      clear y0 y1 y2 y3 y4
      replace BX := Lib.hid (hc.at_ BX.out (by simp))
      replace M := Lib.hid (hc.at_ M.out (by simp))
      replace O := Lib.hid (O.out.chg hc (by simp))
      replace Y := Lib.hid (Y.out.chg hc (by simp))
      replace C := Lib.hid (C.out.trans (hc.into (T := b :: blkOf A)))
      replace Z := Lib.hid (Nat.le_trans Z.out hc.size)
      clear hc
      have y0 := cell_of M.out 0
      have y1 := cell_of M.out 1
      have y2 := cell_of M.out 2
      have y3 := cell_of M.out 3
      have y4 := cell_of M.out 4
      simp only [List.getElem?_toArray, List.getElem?_cons_succ, List.getElem?_cons_zero] at y0 y1 y2 y3 y4
      have z0 := cell_of BX.out 0
      have z1 := cell_of BX.out 1
      have z2 := cell_of BX.out 2
      have z3 := cell_of BX.out 3
      have z4 := cell_of BX.out 4
      simp only [List.getElem?_toArray, List.getElem?_cons_succ, List.getElem?_cons_zero] at z0 z1 z2 z3 z4
      go_wp2_with fail
      refine (bxdrop_any _ b q it sz A xs.length c BX.out).mono ?_
      rintro e v3 ⟨rfl, hb3, hc⟩
      clear z0 z1 z2 z3 z4
      clear y0 y1 y2 y3 y4
      replace M := Lib.hid (hc.at_ M.out (by simp; omega))
      replace Y := Lib.hid (Y.out.chg hc (fun x hx hm => HBB.out x hx (by simp at hm ⊢; exact .inl hm)))
      replace C := Lib.hid (C.out.trans (hc.one))
      replace Z := Lib.hid (Nat.le_trans Z.out hc.size)
      replace BX := Lib.hid hb3
      clear hb3 hc
      clear O
      have y0 := cell_of M.out 0
      have y1 := cell_of M.out 1
      have y2 := cell_of M.out 2
      have y3 := cell_of M.out 3
      have y4 := cell_of M.out 4
      simp only [List.getElem?_toArray, List.getElem?_cons_succ, List.getElem?_cons_zero] at y0 y1 y2 y3 y4
      have z0 := cell_of BX.out 0
      have z1 := cell_of BX.out 1
      have z2 := cell_of BX.out 2
      have z3 := cell_of BX.out 3
      have z4 := cell_of BX.out 4
      simp only [List.getElem?_toArray, List.getElem?_cons_succ, List.getElem?_cons_zero] at z0 z1 z2 z3 z4
      go_upto_region 7 with fail
      go_quiet (fail)
      clear z0 z1 z2 z3 z4
      clear y0 y1 y2 y3 y4
      have hq9 := (Chg.refl [] v3).drewN nq
      generalize v3.drewN nq = u7 at *
      replace BX := Lib.hid (hq9.at_ BX.out (by simp))
      replace M := Lib.hid (hq9.at_ M.out (by simp))
      replace Y := Lib.hid (Y.out.chg hq9 (by simp))
      replace C := Lib.hid (C.out.trans (hq9.into (T := b :: blkOf A)))
      replace Z := Lib.hid (Nat.le_trans Z.out hq9.size)
      clear hq9
      have y0 := cell_of M.out 0
      have y1 := cell_of M.out 1
      have y2 := cell_of M.out 2
      have y3 := cell_of M.out 3
      have y4 := cell_of M.out 4
      simp only [List.getElem?_toArray, List.getElem?_cons_succ, List.getElem?_cons_zero] at y0 y1 y2 y3 y4
      have z0 := cell_of BX.out 0
      have z1 := cell_of BX.out 1
      have z2 := cell_of BX.out 2
      have z3 := cell_of BX.out 3
      have z4 := cell_of BX.out 4
      simp only [List.getElem?_toArray, List.getElem?_cons_succ, List.getElem?_cons_zero] at z0 z1 z2 z3 z4
      go_wp2_with fail
      refine (bxbegin_any _ b q 0 0 i S none 0 0 hS6 BX.out).mono ?_
      rintro e w4 ⟨rfl, g, hb4, ho4, hg4, hc⟩
      have G := Lib.hid (show s0 ≤ g by have := Z.out; omega)
      have NB2 := Lib.hid (show ∀ x, (some ⟨g, 0, none⟩ : Option Addr) = some x → x.block ≠ b by intro x hx; cases hx; have := Z.out; simp; omega)
      clear z0 z1 z2 z3 z4
      clear y0 y1 y2 y3 y4
      replace M := Lib.hid (hc.at_ M.out (by simp; omega))
      replace Y := Lib.hid (Y.out.chg hc (fun x hx hm => HBB.out x hx (by simp at hm ⊢; exact .inl hm)))
      replace C := Lib.hid (C.out.trans (hc.one))
      replace Z := Lib.hid (Nat.le_trans Z.out hc.size)
      replace BX := Lib.hid hb4
      have O := Lib.hid ho4
      clear hb4 ho4 hg4 hc
      have y0 := cell_of M.out 0
      have y1 := cell_of M.out 1
      have y2 := cell_of M.out 2
      have y3 := cell_of M.out 3
      have y4 := cell_of M.out 4
      simp only [List.getElem?_toArray, List.getElem?_cons_succ, List.getElem?_cons_zero] at y0 y1 y2 y3 y4
      have z0 := cell_of BX.out 0
      have z1 := cell_of BX.out 1
      have z2 := cell_of BX.out 2
      have z3 := cell_of BX.out 3
      have z4 := cell_of BX.out 4
      simp only [List.getElem?_toArray, List.getElem?_cons_succ, List.getElem?_cons_zero] at z0 z1 z2 z3 z4
      have g0 : (i != i) = false := by simp
      have g1 : (((S : Int)) != (S : Int)) = false := by simp
      have g2 : ((0 : Int) != 0) = false := by decide
      go_upto_region 10 with fail
      go_quiet (fail)
      clear z0 z1 z2 z3 z4
      clear y0 y1 y2 y3 y4
      have hq9 := (Chg.refl [] w4).drewN nq
      generalize w4.drewN nq = u10 at *
      replace BX := Lib.hid (hq9.at_ BX.out (by simp))
      replace M := Lib.hid (hq9.at_ M.out (by simp))
      replace O := Lib.hid (O.out.chg hq9 (by simp))
      replace Y := Lib.hid (Y.out.chg hq9 (by simp))
      replace C := Lib.hid (C.out.trans (hq9.into (T := b :: blkOf A)))
      replace Z := Lib.hid (Nat.le_trans Z.out hq9.size)
      clear hq9
      have y0 := cell_of M.out 0
      have y1 := cell_of M.out 1
      have y2 := cell_of M.out 2
      have y3 := cell_of M.out 3
      have y4 := cell_of M.out 4
      simp only [List.getElem?_toArray, List.getElem?_cons_succ, List.getElem?_cons_zero] at y0 y1 y2 y3 y4
      have z0 := cell_of BX.out 0
      have z1 := cell_of BX.out 1
      have z2 := cell_of BX.out 2
      have z3 := cell_of BX.out 3
      have z4 := cell_of BX.out 4
      simp only [List.getElem?_toArray, List.getElem?_cons_succ, List.getElem?_cons_zero] at z0 z1 z2 z3 z4
      clear z0 z1 z2 z3 z4
      clear y0 y1 y2 y3 y4
      go_upto_region 12 with fail
      have MM := M.out
      refine wp_region_held_drew (S := fun w' => w'.heap[s0]? = some (.cells #[.int .i64 1, .int .i64 i, .int .i64 (S : Int), .int .i64 0, .slice B ys.length d] 32 (0, 0))) (by kernel_rfl) MM (fun hHeld => ?_)
      have hq9 := (Chg.refl [] u10).drew
      clear hHeld
      generalize u10.drew = u12 at *
      replace BX := Lib.hid (hq9.at_ BX.out (by simp))
      replace M := Lib.hid (hq9.at_ M.out (by simp))
      replace O := Lib.hid (O.out.chg hq9 (by simp))
      replace Y := Lib.hid (Y.out.chg hq9 (by simp))
      replace C := Lib.hid (C.out.trans (hq9.into (T := b :: blkOf A)))
      replace Z := Lib.hid (Nat.le_trans Z.out hq9.size)
      clear hq9 MM
      refine step_yes 0 62 ?_ (by exact M.out) rfl rfl (by kernel_rfl) (by kernel_rfl) (by kernel_rfl) (fun _ _ _ h => h) (by rfl) ?_ ?_
      rotate_left
      · (intro w hSw; (try dsimp only at hSw); go_simp; try with_reducible rfl)
      try simp only [Act.put, List.setIfInBounds_toArray, List.set_cons_zero, List.set_cons_succ]
      refine step_yes 1 63 ?_ (by exact M.out) rfl rfl (by kernel_rfl) (by kernel_rfl) (by kernel_rfl) (fun _ _ _ h => h) (by rfl) ?_ ?_
      rotate_left
      · (intro w hSw; (try dsimp only at hSw); go_simp; try with_reducible rfl)
      try simp only [Act.put, List.setIfInBounds_toArray, List.set_cons_zero, List.set_cons_succ]
      refine step_yes 2 64 ?_ (by exact M.out) rfl rfl (by kernel_rfl) (by kernel_rfl) (by kernel_rfl) (fun _ _ _ h => h) (by rfl) ?_ ?_
      rotate_left
      · (intro w hSw; (try dsimp only at hSw); go_simp; try with_reducible rfl)
      try simp only [Act.put, List.setIfInBounds_toArray, List.set_cons_zero, List.set_cons_succ]
      refine step_yes 3 65 ?_ (by exact M.out) rfl rfl (by kernel_rfl) (by kernel_rfl) (by kernel_rfl) (fun _ _ _ h => h) (by rfl) ?_ ?_
      rotate_left
      · (intro w hSw; (try dsimp only at hSw); go_simp; try with_reducible rfl)
      try simp only [Act.put, List.setIfInBounds_toArray, List.set_cons_zero, List.set_cons_succ]
      refine step_yes 5 67 ?_ (by exact M.out) rfl rfl (by kernel_rfl) (by kernel_rfl) (by kernel_rfl) (fun _ _ _ h => h) (by rfl) ?_ ?_
      rotate_left
      · (intro w hSw; (try dsimp only at hSw); go_simp; try with_reducible rfl)
      try simp only [Act.put, List.setIfInBounds_toArray, List.set_cons_zero, List.set_cons_succ]
      refine step_yes 6 68 ?_ (by exact M.out) rfl rfl (by kernel_rfl) (by kernel_rfl) (by kernel_rfl) (fun _ _ _ h => h) (by rfl) ?_ ?_
      rotate_left
      · (intro w hSw; (try dsimp only at hSw); have q := cell_of hSw 4; simp only [List.getElem?_toArray, List.getElem?_cons_succ, List.getElem?_cons_zero] at q; go_simp; try with_reducible rfl)
      try simp only [Act.put, List.setIfInBounds_toArray, List.set_cons_zero, List.set_cons_succ]
      refine wpAnyH_ready (rs := [4]) (by kernel_rfl) (by simp) ?_
      refine AllReadyH.cons rfl (fun K hK => ?_) AllReadyH.nil
      replace hK := Lib.hid hK
      have z := cell_of BX.out 4
      simp only [List.getElem?_toArray, List.getElem?_cons_succ, List.getElem?_cons_zero] at z
      go_simp
      refine hK.out _ _ M.out (fun hHeld => ?_)
      clear hK K
      try simp only [Act.put, List.setIfInBounds_toArray, List.set_cons_zero, List.set_cons_succ]
      clear z hHeld
      refine wpAnyH_ready (rs := [7]) (by kernel_rfl) (by simp) ?_
      refine AllReadyH.cons rfl (fun K hK => ?_) AllReadyH.nil
      replace hK := Lib.hid hK
      refine step_app rfl (.tmp 66) (.tmp 68) rfl rfl O.out rfl rfl Y.out (by have := HX.out; simp; omega) ?_
      intro A5 c5 w5 o5 d5 e5
      (try rw [Nat.zero_add])
      (try rw [List.nil_append] at o5)
      have hb5 := grown_at d5 BX.out NB2.out
      have hm5 := grown_at d5 M.out (fun x hx => O.out.ne M.out (by decide) x hx)
      have NB5 := Lib.hid (show ∀ x, A5 = some x → x.block ≠ b from o5.ne hb5 (by decide))
      have NW5 := Lib.hid (show ∀ x, A5 = some x → A5 = A ∨ s0 ≤ x.block by intro x hx; rcases e5 with e | e; (right; rw [e] at hx; cases hx; exact G.out); (right; rw [e] at hx; cases hx; exact Z.out))
      have C5 := Lib.hid (C.out.grown d5 (fun k hk => by simp at hk; subst hk; exact .inr (Nat.le_of_eq hs0 |> fun h => Nat.le_trans h G.out)))
      have O5 := Lib.hid o5
      have B5 := Lib.hid hb5
      have M5 := Lib.hid hm5
      have Z5 := Lib.hid (Nat.le_trans Z.out d5.size)
      clear o5 hb5 hm5 d5 e5 BX M Y O C Z
      refine hK.out _ _ M5.out (fun hHeld => ?_)
      clear hK K
      try simp only [Act.put, List.setIfInBounds_toArray, List.set_cons_zero, List.set_cons_succ]
      clear hHeld
      refine step_yes 8 70 ?_ (by exact M5.out) rfl rfl (by kernel_rfl) (by kernel_rfl) (by kernel_rfl) (fun _ _ _ h => h) (by rfl) ?_ ?_
      rotate_left
      · (intro w hSw; (try dsimp only at hSw); go_simp; try with_reducible rfl)
      try simp only [Act.put, List.setIfInBounds_toArray, List.set_cons_zero, List.set_cons_succ]
      refine step_yes 9 71 ?_ (by exact M5.out) rfl rfl (by kernel_rfl) (by kernel_rfl) (by kernel_rfl) (fun _ _ _ h => h) (by rfl) ?_ ?_
      rotate_left
      · (intro w hSw; (try dsimp only at hSw); go_simp; try with_reducible rfl)
      try simp only [Act.put, List.setIfInBounds_toArray, List.set_cons_zero, List.set_cons_succ]
      refine wpAnyH_ready (rs := [10]) (by kernel_rfl) (by simp) ?_
      refine AllReadyH.cons rfl (fun K hK => ?_) AllReadyH.nil
      replace hK := Lib.hid hK
      have z := cell_of B5.out 4
      have fz := free_of B5.out 4
      simp only [List.getElem?_toArray, List.getElem?_cons_succ, List.getElem?_cons_zero] at z
      go_simp
      have hst := (Chg.refl [b] w5).setCell (p := ⟨b, 4, none⟩) (.inl (by simp)) (.slice A5 ys.length c5)
      have BX := Lib.hid (box_put1 _ B5.out : (w5.setCell ⟨b, 4, none⟩ (.slice A5 ys.length c5)).heap[b]? = _)
      have M := Lib.hid (hst.at_ M5.out (by simp; omega))
      have O := Lib.hid (O5.out.chg hst (fun x hx => by have := NB5.out x hx; simpa using this))
      have C := Lib.hid (C5.out.trans hst.one)
      have Z := Lib.hid (Nat.le_trans Z5.out hst.size)
      clear z fz hst
      generalize w5.setCell ⟨b, 4, none⟩ (.slice A5 ys.length c5) = w6 at *
      refine hK.out _ _ M.out (fun hHeld => ?_)
      clear hK K
      try simp only [Act.put, List.setIfInBounds_toArray, List.set_cons_zero, List.set_cons_succ]
      clear hHeld B5 M5 O5 C5 Z5
      refine wpAnyH_done (by kernel_rfl) ?_ _
      have y0 := cell_of M.out 0
      have y1 := cell_of M.out 1
      have y2 := cell_of M.out 2
      have y3 := cell_of M.out 3
      have y4 := cell_of M.out 4
      simp only [List.getElem?_toArray, List.getElem?_cons_succ, List.getElem?_cons_zero] at y0 y1 y2 y3 y4
      have z0 := cell_of BX.out 0
      have z1 := cell_of BX.out 1
      have z2 := cell_of BX.out 2
      have z3 := cell_of BX.out 3
      have z4 := cell_of BX.out 4
      simp only [List.getElem?_toArray, List.getElem?_cons_succ, List.getElem?_cons_zero] at z0 z1 z2 z3 z4
      go_upto_region 13 with fail
      go_quiet (fail)
      clear z0 z1 z2 z3 z4
      clear y0 y1 y2 y3 y4
      have hq9 := (Chg.refl [] w6).drewN nq
      generalize w6.drewN nq = w7 at *
      replace BX := Lib.hid (hq9.at_ BX.out (by simp))
      replace M := Lib.hid (hq9.at_ M.out (by simp))
      replace O := Lib.hid (O.out.chg hq9 (by simp))
      replace C := Lib.hid (C.out.trans (hq9.into (T := b :: blkOf A)))
      replace Z := Lib.hid (Nat.le_trans Z.out hq9.size)
      clear hq9
      have y0 := cell_of M.out 0
      have y1 := cell_of M.out 1
      have y2 := cell_of M.out 2
      have y3 := cell_of M.out 3
      have y4 := cell_of M.out 4
      simp only [List.getElem?_toArray, List.getElem?_cons_succ, List.getElem?_cons_zero] at y0 y1 y2 y3 y4
      have z0 := cell_of BX.out 0
      have z1 := cell_of BX.out 1
      have z2 := cell_of BX.out 2
      have z3 := cell_of BX.out 3
      have z4 := cell_of BX.out 4
      simp only [List.getElem?_toArray, List.getElem?_cons_succ, List.getElem?_cons_zero] at z0 z1 z2 z3 z4
      go_wp2_with fail
      refine (bxdrop_any _ b q i (S : Int) A5 ys.length c5 BX.out).mono ?_
      rintro e w8 ⟨rfl, hb8, hc⟩
      clear z0 z1 z2 z3 z4
      clear y0 y1 y2 y3 y4
      have O8 := Lib.hid (O.out.chg hc (fun x hx => by have := NB5.out x hx; simpa using this))
      have C8 := Lib.hid (C.out.trans hc.one)
      have B8 := Lib.hid hb8
      clear hb8 hc
      go_wp2
      go_ret2
      exact ⟨A5, c5, none, 0, by first | rfl | (rw [List.length_append]; rfl), O8.out, B8.out, OwnB.none_ _, fun h => absurd h (by intro e; have := congrArg List.length e; (try rw [List.length_append] at this); rw [List.length_nil] at this; omega), fun _ => ⟨rfl, rfl⟩, by intro x hx; rw [hs0]; exact NW5.out x hx, by simp, C8.out⟩
  rw [if_neg ha] at hR
  have e1 : (a == 0) = false := by simpa using ha
  by_cases hm : it = i ∧ sz = (S : Int) ∧ (xs.length : Int) = a
  rotate_left
  · rw [if_neg hm] at hR
    subst hR
    by_cases m0 : it = i
    rotate_left
    · have g0 : (it != i) = true := by simpa using m0
      clear hm m0
      go_enter Try.func21, Try.ntmps21
      go_wp2_with fail
      rw [← W1.out]
      refine MD.out.mono ?_
      rintro e v ⟨rfl, rfl⟩
      generalize hs0 : w.heap.size = s0 at *
      clear W1
      have y0 := cell_of M.out 0
      have y1 := cell_of M.out 1
      have y2 := cell_of M.out 2
      have y3 := cell_of M.out 3
      have y4 := cell_of M.out 4
      simp only [List.getElem?_toArray, List.getElem?_cons_succ, List.getElem?_cons_zero] at y0 y1 y2 y3 y4
      go_wp2_with fail
      refine (CK.out _).mono ?_
      rintro e w2 ⟨rfl, hc⟩
      clear y0 y1 y2 y3 y4
      replace BX := Lib.hid (hc.at_ BX.out (by simp))
      replace M := Lib.hid (hc.at_ M.out (by simp))
      replace O := Lib.hid (O.out.chg hc (by simp))
      replace Y := Lib.hid (Y.out.chg hc (by simp))
      replace C := Lib.hid (C.out.trans (hc.into (T := b :: blkOf A)))
      replace Z := Lib.hid (Nat.le_trans Z.out hc.size)
      clear hc
      have y0 := cell_of M.out 0
      have y1 := cell_of M.out 1
      have y2 := cell_of M.out 2
      have y3 := cell_of M.out 3
      have y4 := cell_of M.out 4
      simp only [List.getElem?_toArray, List.getElem?_cons_succ, List.getElem?_cons_zero] at y0 y1 y2 y3 y4
      have z0 := cell_of BX.out 0
      have z1 := cell_of BX.out 1
      have z2 := cell_of BX.out 2
      have z3 := cell_of BX.out 3
      have z4 := cell_of BX.out 4
      simp only [List.getElem?_toArray, List.getElem?_cons_succ, List.getElem?_cons_zero] at z0 z1 z2 z3 z4
      go_upto_region 10 with fail
      go_quiet (fail)
      clear z0 z1 z2 z3 z4
      clear y0 y1 y2 y3 y4
      have hq9 := (Chg.refl [] w2).drewN nq
      generalize w2.drewN nq = u10 at *
      replace BX := Lib.hid (hq9.at_ BX.out (by simp))
      replace M := Lib.hid (hq9.at_ M.out (by simp))
      replace O := Lib.hid (O.out.chg hq9 (by simp))
      replace Y := Lib.hid (Y.out.chg hq9 (by simp))
      replace C := Lib.hid (C.out.trans (hq9.into (T := b :: blkOf A)))
      replace Z := Lib.hid (Nat.le_trans Z.out hq9.size)
      clear hq9
      have y0 := cell_of M.out 0
      have y1 := cell_of M.out 1
      have y2 := cell_of M.out 2
      have y3 := cell_of M.out 3
      have y4 := cell_of M.out 4
      simp only [List.getElem?_toArray, List.getElem?_cons_succ, List.getElem?_cons_zero] at y0 y1 y2 y3 y4
      have z0 := cell_of BX.out 0
      have z1 := cell_of BX.out 1
      have z2 := cell_of BX.out 2
      have z3 := cell_of BX.out 3
      have z4 := cell_of BX.out 4
      simp only [List.getElem?_toArray, List.getElem?_cons_succ, List.getElem?_cons_zero] at z0 z1 z2 z3 z4
      go_wp2
      go_ret2
      exact ⟨none, 0, A, c, rfl, OwnB.none_ _, BX.out, O.out, fun _ => ⟨rfl, rfl⟩, fun h => absurd rfl h, by simp, fun _ _ => .inl rfl, C.out⟩
    have g0 : (it != i) = false := by simpa using m0
    by_cases m1 : sz = (S : Int)
    rotate_left
    · have g1 : (sz != (S : Int)) = true := by simpa using m1
      clear hm m1 m0
      go_enter Try.func21, Try.ntmps21
      go_wp2_with fail
      rw [← W1.out]
      refine MD.out.mono ?_
      rintro e v ⟨rfl, rfl⟩
      generalize hs0 : w.heap.size = s0 at *
      clear W1
      have y0 := cell_of M.out 0
      have y1 := cell_of M.out 1
      have y2 := cell_of M.out 2
      have y3 := cell_of M.out 3
      have y4 := cell_of M.out 4
      simp only [List.getElem?_toArray, List.getElem?_cons_succ, List.getElem?_cons_zero] at y0 y1 y2 y3 y4
      go_wp2_with fail
      refine (CK.out _).mono ?_
      rintro e w2 ⟨rfl, hc⟩
      clear y0 y1 y2 y3 y4
      replace BX := Lib.hid (hc.at_ BX.out (by simp))
      replace M := Lib.hid (hc.at_ M.out (by simp))
      replace O := Lib.hid (O.out.chg hc (by simp))
      replace Y := Lib.hid (Y.out.chg hc (by simp))
      replace C := Lib.hid (C.out.trans (hc.into (T := b :: blkOf A)))
      replace Z := Lib.hid (Nat.le_trans Z.out hc.size)
      clear hc
      have y0 := cell_of M.out 0
      have y1 := cell_of M.out 1
      have y2 := cell_of M.out 2
      have y3 := cell_of M.out 3
      have y4 := cell_of M.out 4
      simp only [List.getElem?_toArray, List.getElem?_cons_succ, List.getElem?_cons_zero] at y0 y1 y2 y3 y4
      have z0 := cell_of BX.out 0
      have z1 := cell_of BX.out 1
      have z2 := cell_of BX.out 2
      have z3 := cell_of BX.out 3
      have z4 := cell_of BX.out 4
      simp only [List.getElem?_toArray, List.getElem?_cons_succ, List.getElem?_cons_zero] at z0 z1 z2 z3 z4
      go_upto_region 10 with fail
      go_quiet (fail)
      clear z0 z1 z2 z3 z4
      clear y0 y1 y2 y3 y4
      have hq9 := (Chg.refl [] w2).drewN nq
      generalize w2.drewN nq = u10 at *
      replace BX := Lib.hid (hq9.at_ BX.out (by simp))
      replace M := Lib.hid (hq9.at_ M.out (by simp))
      replace O := Lib.hid (O.out.chg hq9 (by simp))
      replace Y := Lib.hid (Y.out.chg hq9 (by simp))
      replace C := Lib.hid (C.out.trans (hq9.into (T := b :: blkOf A)))
      replace Z := Lib.hid (Nat.le_trans Z.out hq9.size)
      clear hq9
      have y0 := cell_of M.out 0
      have y1 := cell_of M.out 1
      have y2 := cell_of M.out 2
      have y3 := cell_of M.out 3
      have y4 := cell_of M.out 4
      simp only [List.getElem?_toArray, List.getElem?_cons_succ, List.getElem?_cons_zero] at y0 y1 y2 y3 y4
      have z0 := cell_of BX.out 0
      have z1 := cell_of BX.out 1
      have z2 := cell_of BX.out 2
      have z3 := cell_of BX.out 3
      have z4 := cell_of BX.out 4
      simp only [List.getElem?_toArray, List.getElem?_cons_succ, List.getElem?_cons_zero] at z0 z1 z2 z3 z4
      go_wp2
      go_ret2
      exact ⟨none, 0, A, c, rfl, OwnB.none_ _, BX.out, O.out, fun _ => ⟨rfl, rfl⟩, fun h => absurd rfl h, by simp, fun _ _ => .inl rfl, C.out⟩
    have g1 : (sz != (S : Int)) = false := by simpa using m1
    have g2 : ((xs.length : Int) != a) = true := by simp; intro e; exact hm ⟨m0, m1, e⟩
    clear hm m0 m1
    go_enter Try.func21, Try.ntmps21
    go_wp2_with fail
    rw [← W1.out]
    refine MD.out.mono ?_
    rintro e v ⟨rfl, rfl⟩
    generalize hs0 : w.heap.size = s0 at *
    clear W1
    have y0 := cell_of M.out 0
    have y1 := cell_of M.out 1
    have y2 := cell_of M.out 2
    have y3 := cell_of M.out 3
    have y4 := cell_of M.out 4
    simp only [List.getElem?_toArray, List.getElem?_cons_succ, List.getElem?_cons_zero] at y0 y1 y2 y3 y4
    go_wp2_with fail
    refine (CK.out _).mono ?_
    rintro e w2 ⟨rfl, hc⟩
    clear y0 y1 y2 y3 y4
    replace BX := Lib.hid (hc.at_ BX.out (by simp))
    replace M := Lib.hid (hc.at_ M.out (by simp))
    replace O := Lib.hid (O.out.chg hc (by simp))
    replace Y := Lib.hid (Y.out.chg hc (by simp))
    replace C := Lib.hid (C.out.trans (hc.into (T := b :: blkOf A)))
    replace Z := Lib.hid (Nat.le_trans Z.out hc.size)
    clear hc
    have y0 := cell_of M.out 0
    have y1 := cell_of M.out 1
    have y2 := cell_of M.out 2
    have y3 := cell_of M.out 3
    have y4 := cell_of M.out 4
    simp only [List.getElem?_toArray, List.getElem?_cons_succ, List.getElem?_cons_zero] at y0 y1 y2 y3 y4
    have z0 := cell_of BX.out 0
    have z1 := cell_of BX.out 1
    have z2 := cell_of BX.out 2
    have z3 := cell_of BX.out 3
    have z4 := cell_of BX.out 4
    simp only [List.getElem?_toArray, List.getElem?_cons_succ, List.getElem?_cons_zero] at z0 z1 z2 z3 z4
    go_upto_region 10 with fail
    go_quiet (fail)
    clear z0 z1 z2 z3 z4
    clear y0 y1 y2 y3 y4
    have hq9 := (Chg.refl [] w2).drewN nq
    generalize w2.drewN nq = u10 at *
    replace BX := Lib.hid (hq9.at_ BX.out (by simp))
    replace M := Lib.hid (hq9.at_ M.out (by simp))
    replace O := Lib.hid (O.out.chg hq9 (by simp))
    replace Y := Lib.hid (Y.out.chg hq9 (by simp))
    replace C := Lib.hid (C.out.trans (hq9.into (T := b :: blkOf A)))
    replace Z := Lib.hid (Nat.le_trans Z.out hq9.size)
    clear hq9
    have y0 := cell_of M.out 0
    have y1 := cell_of M.out 1
    have y2 := cell_of M.out 2
    have y3 := cell_of M.out 3
    have y4 := cell_of M.out 4
    simp only [List.getElem?_toArray, List.getElem?_cons_succ, List.getElem?_cons_zero] at y0 y1 y2 y3 y4
    have z0 := cell_of BX.out 0
    have z1 := cell_of BX.out 1
    have z2 := cell_of BX.out 2
    have z3 := cell_of BX.out 3
    have z4 := cell_of BX.out 4
    simp only [List.getElem?_toArray, List.getElem?_cons_succ, List.getElem?_cons_zero] at z0 z1 z2 z3 z4
    go_wp2
    go_ret2
    exact ⟨none, 0, A, c, rfl, OwnB.none_ _, BX.out, O.out, fun _ => ⟨rfl, rfl⟩, fun h => absurd rfl h, by simp, fun _ _ => .inl rfl, C.out⟩
  rw [if_pos hm] at hR
  obtain ⟨m0, m1, m2⟩ := hm
  subst m0 m1 m2
  clear ha
  by_cases hlt : ((xs ++ ys).length : Int) < (S : Int)
  · have hr1 : R = ([], 0, it, (S : Int), xs ++ ys) := by rw [← hR]; unfold finC; rw [if_pos hlt]
    subst hr1
    clear hR
    have g0 : (it != it) = false := by simp
    have g1 : (((S : Int)) != (S : Int)) = false := by simp
    have g2 : ((xs.length : Int) != (xs.length : Int)) = false := by simp
    go_enter Try.func21, Try.ntmps21
    go_wp2_with fail
    rw [← W1.out]
    refine MD.out.mono ?_
    rintro e v ⟨rfl, rfl⟩
    generalize hs0 : w.heap.size = s0 at *
    clear W1
    have y0 := cell_of M.out 0
    have y1 := cell_of M.out 1
    have y2 := cell_of M.out 2
    have y3 := cell_of M.out 3
    have y4 := cell_of M.out 4
    simp only [List.getElem?_toArray, List.getElem?_cons_succ, List.getElem?_cons_zero] at y0 y1 y2 y3 y4
    go_wp2_with fail
    refine (CK.out _).mono ?_
    rintro e w2 ⟨rfl, hc⟩
    clear y0 y1 y2 y3 y4
    replace BX := Lib.hid (hc.at_ BX.out (by simp))
    replace M := Lib.hid (hc.at_ M.out (by simp))
    replace O := Lib.hid (O.out.chg hc (by simp))
    replace Y := Lib.hid (Y.out.chg hc (by simp))
    replace C := Lib.hid (C.out.trans (hc.into (T := b :: blkOf A)))
    replace Z := Lib.hid (Nat.le_trans Z.out hc.size)
    clear hc
    have y0 := cell_of M.out 0
    have y1 := cell_of M.out 1
    have y2 := cell_of M.out 2
    have y3 := cell_of M.out 3
    have y4 := cell_of M.out 4
    simp only [List.getElem?_toArray, List.getElem?_cons_succ, List.getElem?_cons_zero] at y0 y1 y2 y3 y4
    have z0 := cell_of BX.out 0
    have z1 := cell_of BX.out 1
    have z2 := cell_of BX.out 2
    have z3 := cell_of BX.out 3
    have z4 := cell_of BX.out 4
    simp only [List.getElem?_toArray, List.getElem?_cons_succ, List.getElem?_cons_zero] at z0 z1 z2 z3 z4
    go_upto_region 10 with fail
    go_quiet (fail)
    clear z0 z1 z2 z3 z4
    clear y0 y1 y2 y3 y4
    have hq9 := (Chg.refl [] w2).drewN nq
    generalize w2.drewN nq = u10 at *
    replace BX := Lib.hid (hq9.at_ BX.out (by simp))
    replace M := Lib.hid (hq9.at_ M.out (by simp))
    replace O := Lib.hid (O.out.chg hq9 (by simp))
    replace Y := Lib.hid (Y.out.chg hq9 (by simp))
    replace C := Lib.hid (C.out.trans (hq9.into (T := b :: blkOf A)))
    replace Z := Lib.hid (Nat.le_trans Z.out hq9.size)
    clear hq9
    have y0 := cell_of M.out 0
    have y1 := cell_of M.out 1
    have y2 := cell_of M.out 2
    have y3 := cell_of M.out 3
    have y4 := cell_of M.out 4
    simp only [List.getElem?_toArray, List.getElem?_cons_succ, List.getElem?_cons_zero] at y0 y1 y2 y3 y4
    have z0 := cell_of BX.out 0
    have z1 := cell_of BX.out 1
    have z2 := cell_of BX.out 2
    have z3 := cell_of BX.out 3
    have z4 := cell_of BX.out 4
    simp only [List.getElem?_toArray, List.getElem?_cons_succ, List.getElem?_cons_zero] at z0 z1 z2 z3 z4
    have NB2 := NB
    clear z0 z1 z2 z3 z4
    clear y0 y1 y2 y3 y4
    go_upto_region 12 with fail
    have MM := M.out
    refine wp_region_held_drew (S := fun w' => w'.heap[s0]? = some (.cells #[.int .i64 1, .int .i64 it, .int .i64 (S : Int), .int .i64 (xs.length : Int), .slice B ys.length d] 32 (0, 0))) (by kernel_rfl) MM (fun hHeld => ?_)
    have hq9 := (Chg.refl [] u10).drew
    clear hHeld
    generalize u10.drew = u12 at *
    replace BX := Lib.hid (hq9.at_ BX.out (by simp))
    replace M := Lib.hid (hq9.at_ M.out (by simp))
    replace O := Lib.hid (O.out.chg hq9 (by simp))
    replace Y := Lib.hid (Y.out.chg hq9 (by simp))
    replace C := Lib.hid (C.out.trans (hq9.into (T := b :: blkOf A)))
    replace Z := Lib.hid (Nat.le_trans Z.out hq9.size)
    clear hq9 MM
    refine step_yes 0 62 ?_ (by exact M.out) rfl rfl (by kernel_rfl) (by kernel_rfl) (by kernel_rfl) (fun _ _ _ h => h) (by rfl) ?_ ?_
    rotate_left
    · (intro w hSw; (try dsimp only at hSw); go_simp; try with_reducible rfl)
    try simp only [Act.put, List.setIfInBounds_toArray, List.set_cons_zero, List.set_cons_succ]
    refine step_yes 1 63 ?_ (by exact M.out) rfl rfl (by kernel_rfl) (by kernel_rfl) (by kernel_rfl) (fun _ _ _ h => h) (by rfl) ?_ ?_
    rotate_left
    · (intro w hSw; (try dsimp only at hSw); go_simp; try with_reducible rfl)
    try simp only [Act.put, List.setIfInBounds_toArray, List.set_cons_zero, List.set_cons_succ]
    refine step_yes 2 64 ?_ (by exact M.out) rfl rfl (by kernel_rfl) (by kernel_rfl) (by kernel_rfl) (fun _ _ _ h => h) (by rfl) ?_ ?_
    rotate_left
    · (intro w hSw; (try dsimp only at hSw); go_simp; try with_reducible rfl)
    try simp only [Act.put, List.setIfInBounds_toArray, List.set_cons_zero, List.set_cons_succ]
    refine step_yes 3 65 ?_ (by exact M.out) rfl rfl (by kernel_rfl) (by kernel_rfl) (by kernel_rfl) (fun _ _ _ h => h) (by rfl) ?_ ?_
    rotate_left
    · (intro w hSw; (try dsimp only at hSw); go_simp; try with_reducible rfl)
    try simp only [Act.put, List.setIfInBounds_toArray, List.set_cons_zero, List.set_cons_succ]
    refine step_yes 5 67 ?_ (by exact M.out) rfl rfl (by kernel_rfl) (by kernel_rfl) (by kernel_rfl) (fun _ _ _ h => h) (by rfl) ?_ ?_
    rotate_left
    · (intro w hSw; (try dsimp only at hSw); go_simp; try with_reducible rfl)
    try simp only [Act.put, List.setIfInBounds_toArray, List.set_cons_zero, List.set_cons_succ]
    refine step_yes 6 68 ?_ (by exact M.out) rfl rfl (by kernel_rfl) (by kernel_rfl) (by kernel_rfl) (fun _ _ _ h => h) (by rfl) ?_ ?_
    rotate_left
    · (intro w hSw; (try dsimp only at hSw); have q := cell_of hSw 4; simp only [List.getElem?_toArray, List.getElem?_cons_succ, List.getElem?_cons_zero] at q; go_simp; try with_reducible rfl)
    try simp only [Act.put, List.setIfInBounds_toArray, List.set_cons_zero, List.set_cons_succ]
    refine wpAnyH_ready (rs := [4]) (by kernel_rfl) (by simp) ?_
    refine AllReadyH.cons rfl (fun K hK => ?_) AllReadyH.nil
    replace hK := Lib.hid hK
    have z := cell_of BX.out 4
    simp only [List.getElem?_toArray, List.getElem?_cons_succ, List.getElem?_cons_zero] at z
    go_simp
    refine hK.out _ _ M.out (fun hHeld => ?_)
    clear hK K
    try simp only [Act.put, List.setIfInBounds_toArray, List.set_cons_zero, List.set_cons_succ]
    clear z hHeld
    refine wpAnyH_ready (rs := [7]) (by kernel_rfl) (by simp) ?_
    refine AllReadyH.cons rfl (fun K hK => ?_) AllReadyH.nil
    replace hK := Lib.hid hK
    refine step_app rfl (.tmp 66) (.tmp 68) rfl rfl O.out rfl rfl Y.out (by have := HX.out; simp; omega) ?_
    intro A5 c5 w5 o5 d5 e5
    (try rw [Nat.zero_add])
    (try rw [List.nil_append] at o5)
    have hb5 := grown_at d5 BX.out NB2.out
    have hm5 := grown_at d5 M.out (fun x hx => O.out.ne M.out (by decide) x hx)
    have NB5 := Lib.hid (show ∀ x, A5 = some x → x.block ≠ b from o5.ne hb5 (by decide))
    have NW5 := Lib.hid (show ∀ x, A5 = some x → A5 = A ∨ s0 ≤ x.block by intro x hx; rcases e5 with e | e; exact .inl e; (right; rw [e] at hx; cases hx; exact Z.out))
    have C5 := Lib.hid (C.out.grown d5 (fun k hk => by cases A with | none => cases hk | some x => simp at hk; subst hk; exact .inl (by simp [blkOf])))
    have O5 := Lib.hid o5
    have B5 := Lib.hid hb5
    have M5 := Lib.hid hm5
    have Z5 := Lib.hid (Nat.le_trans Z.out d5.size)
    clear o5 hb5 hm5 d5 e5 BX M Y O C Z
    refine hK.out _ _ M5.out (fun hHeld => ?_)
    clear hK K
    try simp only [Act.put, List.setIfInBounds_toArray, List.set_cons_zero, List.set_cons_succ]
    clear hHeld
    refine step_yes 8 70 ?_ (by exact M5.out) rfl rfl (by kernel_rfl) (by kernel_rfl) (by kernel_rfl) (fun _ _ _ h => h) (by rfl) ?_ ?_
    rotate_left
    · (intro w hSw; (try dsimp only at hSw); go_simp; try with_reducible rfl)
    try simp only [Act.put, List.setIfInBounds_toArray, List.set_cons_zero, List.set_cons_succ]
    refine step_yes 9 71 ?_ (by exact M5.out) rfl rfl (by kernel_rfl) (by kernel_rfl) (by kernel_rfl) (fun _ _ _ h => h) (by rfl) ?_ ?_
    rotate_left
    · (intro w hSw; (try dsimp only at hSw); go_simp; try with_reducible rfl)
    try simp only [Act.put, List.setIfInBounds_toArray, List.set_cons_zero, List.set_cons_succ]
    refine wpAnyH_ready (rs := [10]) (by kernel_rfl) (by simp) ?_
    refine AllReadyH.cons rfl (fun K hK => ?_) AllReadyH.nil
    replace hK := Lib.hid hK
    have z := cell_of B5.out 4
    have fz := free_of B5.out 4
    simp only [List.getElem?_toArray, List.getElem?_cons_succ, List.getElem?_cons_zero] at z
    go_simp
    have hst := (Chg.refl [b] w5).setCell (p := ⟨b, 4, none⟩) (.inl (by simp)) (.slice A5 (xs.length + ys.length) c5)
    have BX := Lib.hid (box_put1 _ B5.out : (w5.setCell ⟨b, 4, none⟩ (.slice A5 (xs.length + ys.length) c5)).heap[b]? = _)
    have M := Lib.hid (hst.at_ M5.out (by simp; omega))
    have O := Lib.hid (O5.out.chg hst (fun x hx => by have := NB5.out x hx; simpa using this))
    have C := Lib.hid (C5.out.trans hst.one)
    have Z := Lib.hid (Nat.le_trans Z5.out hst.size)
    clear z fz hst
    generalize w5.setCell ⟨b, 4, none⟩ (.slice A5 (xs.length + ys.length) c5) = w6 at *
    refine hK.out _ _ M.out (fun hHeld => ?_)
    clear hK K
    try simp only [Act.put, List.setIfInBounds_toArray, List.set_cons_zero, List.set_cons_succ]
    clear hHeld B5 M5 O5 C5 Z5
    refine wpAnyH_done (by kernel_rfl) ?_ _
    have y0 := cell_of M.out 0
    have y1 := cell_of M.out 1
    have y2 := cell_of M.out 2
    have y3 := cell_of M.out 3
    have y4 := cell_of M.out 4
    simp only [List.getElem?_toArray, List.getElem?_cons_succ, List.getElem?_cons_zero] at y0 y1 y2 y3 y4
    have z0 := cell_of BX.out 0
    have z1 := cell_of BX.out 1
    have z2 := cell_of BX.out 2
    have z3 := cell_of BX.out 3
    have z4 := cell_of BX.out 4
    simp only [List.getElem?_toArray, List.getElem?_cons_succ, List.getElem?_cons_zero] at z0 z1 z2 z3 z4
    rw [List.length_append] at hlt
    skip
    go_upto_region 13 with fail
    go_quiet (fail)
    clear z0 z1 z2 z3 z4
    clear y0 y1 y2 y3 y4
    have hq9 := (Chg.refl [] w6).drewN nq
    generalize w6.drewN nq = w7 at *
    replace BX := Lib.hid (hq9.at_ BX.out (by simp))
    replace M := Lib.hid (hq9.at_ M.out (by simp))
    replace O := Lib.hid (O.out.chg hq9 (by simp))
    replace C := Lib.hid (C.out.trans (hq9.into (T := b :: blkOf A)))
    replace Z := Lib.hid (Nat.le_trans Z.out hq9.size)
    clear hq9
    have y0 := cell_of M.out 0
    have y1 := cell_of M.out 1
    have y2 := cell_of M.out 2
    have y3 := cell_of M.out 3
    have y4 := cell_of M.out 4
    simp only [List.getElem?_toArray, List.getElem?_cons_succ, List.getElem?_cons_zero] at y0 y1 y2 y3 y4
    have z0 := cell_of BX.out 0
    have z1 := cell_of BX.out 1
    have z2 := cell_of BX.out 2
    have z3 := cell_of BX.out 3
    have z4 := cell_of BX.out 4
    simp only [List.getElem?_toArray, List.getElem?_cons_succ, List.getElem?_cons_zero] at z0 z1 z2 z3 z4
    go_wp2
    go_ret2
    exact ⟨none, 0, A5, c5, rfl, OwnB.none_ _, by first | exact BX.out | (rw [List.length_append]; exact BX.out), O.out, fun _ => ⟨rfl, rfl⟩, fun h => absurd rfl h, by simp, by intro x hx; rw [hs0]; exact NW5.out x hx, C.out⟩
  · have hr1 : R = (xs ++ ys, 0, 0, 0, []) := by rw [← hR]; unfold finC; rw [if_neg hlt]
    subst hr1
    clear hR
    have g0 : (it != it) = false := by simp
    have g1 : (((S : Int)) != (S : Int)) = false := by simp
    have g2 : ((xs.length : Int) != (xs.length : Int)) = false := by simp
    go_enter Try.func21, Try.ntmps21
    go_wp2_with fail
    rw [← W1.out]
    refine MD.out.mono ?_
    rintro e v ⟨rfl, rfl⟩
    generalize hs0 : w.heap.size = s0 at *
    clear W1
    have y0 := cell_of M.out 0
    have y1 := cell_of M.out 1
    have y2 := cell_of M.out 2
    have y3 := cell_of M.out 3
    have y4 := cell_of M.out 4
    simp only [List.getElem?_toArray, List.getElem?_cons_succ, List.getElem?_cons_zero] at y0 y1 y2 y3 y4
    go_wp2_with fail
    refine (CK.out _).mono ?_
    rintro e w2 ⟨rfl, hc⟩
    clear y0 y1 y2 y3 y4
    replace BX := Lib.hid (hc.at_ BX.out (by simp))
    replace M := Lib.hid (hc.at_ M.out (by simp))
    replace O := Lib.hid (O.out.chg hc (by simp))
    replace Y := Lib.hid (Y.out.chg hc (by simp))
    replace C := Lib.hid (C.out.trans (hc.into (T := b :: blkOf A)))
    replace Z := Lib.hid (Nat.le_trans Z.out hc.size)
    clear hc
    have y0 := cell_of M.out 0
    have y1 := cell_of M.out 1
    have y2 := cell_of M.out 2
    have y3 := cell_of M.out 3
    have y4 := cell_of M.out 4
    simp only [List.getElem?_toArray, List.getElem?_cons_succ, List.getElem?_cons_zero] at y0 y1 y2 y3 y4
    have z0 := cell_of BX.out 0
    have z1 := cell_of BX.out 1
    have z2 := cell_of BX.out 2
    have z3 := cell_of BX.out 3
    have z4 := cell_of BX.out 4
    simp only [List.getElem?_toArray, List.getElem?_cons_succ, List.getElem?_cons_zero] at z0 z1 z2 z3 z4
    go_upto_region 10 with fail
    go_quiet (fail)
    clear z0 z1 z2 z3 z4
    clear y0 y1 y2 y3 y4
    have hq9 := (Chg.refl [] w2).drewN nq
    generalize w2.drewN nq = u10 at *
    replace BX := Lib.hid (hq9.at_ BX.out (by simp))
    replace M := Lib.hid (hq9.at_ M.out (by simp))
    replace O := Lib.hid (O.out.chg hq9 (by simp))
    replace Y := Lib.hid (Y.out.chg hq9 (by simp))
    replace C := Lib.hid (C.out.trans (hq9.into (T := b :: blkOf A)))
    replace Z := Lib.hid (Nat.le_trans Z.out hq9.size)
    clear hq9
    have y0 := cell_of M.out 0
    have y1 := cell_of M.out 1
    have y2 := cell_of M.out 2
    have y3 := cell_of M.out 3
    have y4 := cell_of M.out 4
    simp only [List.getElem?_toArray, List.getElem?_cons_succ, List.getElem?_cons_zero] at y0 y1 y2 y3 y4
    have z0 := cell_of BX.out 0
    have z1 := cell_of BX.out 1
    have z2 := cell_of BX.out 2
    have z3 := cell_of BX.out 3
    have z4 := cell_of BX.out 4
    simp only [List.getElem?_toArray, List.getElem?_cons_succ, List.getElem?_cons_zero] at z0 z1 z2 z3 z4
    have NB2 := NB
    clear z0 z1 z2 z3 z4
    clear y0 y1 y2 y3 y4
    go_upto_region 12 with fail
    have MM := M.out
    refine wp_region_held_drew (S := fun w' => w'.heap[s0]? = some (.cells #[.int .i64 1, .int .i64 it, .int .i64 (S : Int), .int .i64 (xs.length : Int), .slice B ys.length d] 32 (0, 0))) (by kernel_rfl) MM (fun hHeld => ?_)
    have hq9 := (Chg.refl [] u10).drew
    clear hHeld
    generalize u10.drew = u12 at *
    replace BX := Lib.hid (hq9.at_ BX.out (by simp))
    replace M := Lib.hid (hq9.at_ M.out (by simp))
    replace O := Lib.hid (O.out.chg hq9 (by simp))
    replace Y := Lib.hid (Y.out.chg hq9 (by simp))
    replace C := Lib.hid (C.out.trans (hq9.into (T := b :: blkOf A)))
    replace Z := Lib.hid (Nat.le_trans Z.out hq9.size)
    clear hq9 MM
    refine step_yes 0 62 ?_ (by exact M.out) rfl rfl (by kernel_rfl) (by kernel_rfl) (by kernel_rfl) (fun _ _ _ h => h) (by rfl) ?_ ?_
    rotate_left
    · (intro w hSw; (try dsimp only at hSw); go_simp; try with_reducible rfl)
    try simp only [Act.put, List.setIfInBounds_toArray, List.set_cons_zero, List.set_cons_succ]
    refine step_yes 1 63 ?_ (by exact M.out) rfl rfl (by kernel_rfl) (by kernel_rfl) (by kernel_rfl) (fun _ _ _ h => h) (by rfl) ?_ ?_
    rotate_left
    · (intro w hSw; (try dsimp only at hSw); go_simp; try with_reducible rfl)
    try simp only [Act.put, List.setIfInBounds_toArray, List.set_cons_zero, List.set_cons_succ]
    refine step_yes 2 64 ?_ (by exact M.out) rfl rfl (by kernel_rfl) (by kernel_rfl) (by kernel_rfl) (fun _ _ _ h => h) (by rfl) ?_ ?_
    rotate_left
    · (intro w hSw; (try dsimp only at hSw); go_simp; try with_reducible rfl)
    try simp only [Act.put, List.setIfInBounds_toArray, List.set_cons_zero, List.set_cons_succ]
    refine step_yes 3 65 ?_ (by exact M.out) rfl rfl (by kernel_rfl) (by kernel_rfl) (by kernel_rfl) (fun _ _ _ h => h) (by rfl) ?_ ?_
    rotate_left
    · (intro w hSw; (try dsimp only at hSw); go_simp; try with_reducible rfl)
    try simp only [Act.put, List.setIfInBounds_toArray, List.set_cons_zero, List.set_cons_succ]
    refine step_yes 5 67 ?_ (by exact M.out) rfl rfl (by kernel_rfl) (by kernel_rfl) (by kernel_rfl) (fun _ _ _ h => h) (by rfl) ?_ ?_
    rotate_left
    · (intro w hSw; (try dsimp only at hSw); go_simp; try with_reducible rfl)
    try simp only [Act.put, List.setIfInBounds_toArray, List.set_cons_zero, List.set_cons_succ]
    refine step_yes 6 68 ?_ (by exact M.out) rfl rfl (by kernel_rfl) (by kernel_rfl) (by kernel_rfl) (fun _ _ _ h => h) (by rfl) ?_ ?_
    rotate_left
    · (intro w hSw; (try dsimp only at hSw); have q := cell_of hSw 4; simp only [List.getElem?_toArray, List.getElem?_cons_succ, List.getElem?_cons_zero] at q; go_simp; try with_reducible rfl)
    try simp only [Act.put, List.setIfInBounds_toArray, List.set_cons_zero, List.set_cons_succ]
    refine wpAnyH_ready (rs := [4]) (by kernel_rfl) (by simp) ?_
    refine AllReadyH.cons rfl (fun K hK => ?_) AllReadyH.nil
    replace hK := Lib.hid hK
    have z := cell_of BX.out 4
    simp only [List.getElem?_toArray, List.getElem?_cons_succ, List.getElem?_cons_zero] at z
    go_simp
    refine hK.out _ _ M.out (fun hHeld => ?_)
    clear hK K
    try simp only [Act.put, List.setIfInBounds_toArray, List.set_cons_zero, List.set_cons_succ]
    clear z hHeld
    refine wpAnyH_ready (rs := [7]) (by kernel_rfl) (by simp) ?_
    refine AllReadyH.cons rfl (fun K hK => ?_) AllReadyH.nil
    replace hK := Lib.hid hK
    refine step_app rfl (.tmp 66) (.tmp 68) rfl rfl O.out rfl rfl Y.out (by have := HX.out; simp; omega) ?_
    intro A5 c5 w5 o5 d5 e5
    (try rw [Nat.zero_add])
    (try rw [List.nil_append] at o5)
    have hb5 := grown_at d5 BX.out NB2.out
    have hm5 := grown_at d5 M.out (fun x hx => O.out.ne M.out (by decide) x hx)
    have NB5 := Lib.hid (show ∀ x, A5 = some x → x.block ≠ b from o5.ne hb5 (by decide))
    have NW5 := Lib.hid (show ∀ x, A5 = some x → A5 = A ∨ s0 ≤ x.block by intro x hx; rcases e5 with e | e; exact .inl e; (right; rw [e] at hx; cases hx; exact Z.out))
    have C5 := Lib.hid (C.out.grown d5 (fun k hk => by cases A with | none => cases hk | some x => simp at hk; subst hk; exact .inl (by simp [blkOf])))
    have O5 := Lib.hid o5
    have B5 := Lib.hid hb5
    have M5 := Lib.hid hm5
    have Z5 := Lib.hid (Nat.le_trans Z.out d5.size)
    clear o5 hb5 hm5 d5 e5 BX M Y O C Z
    refine hK.out _ _ M5.out (fun hHeld => ?_)
    clear hK K
    try simp only [Act.put, List.setIfInBounds_toArray, List.set_cons_zero, List.set_cons_succ]
    clear hHeld
    refine step_yes 8 70 ?_ (by exact M5.out) rfl rfl (by kernel_rfl) (by kernel_rfl) (by kernel_rfl) (fun _ _ _ h => h) (by rfl) ?_ ?_
    rotate_left
    · (intro w hSw; (try dsimp only at hSw); go_simp; try with_reducible rfl)
    try simp only [Act.put, List.setIfInBounds_toArray, List.set_cons_zero, List.set_cons_succ]
    refine step_yes 9 71 ?_ (by exact M5.out) rfl rfl (by kernel_rfl) (by kernel_rfl) (by kernel_rfl) (fun _ _ _ h => h) (by rfl) ?_ ?_
    rotate_left
    · (intro w hSw; (try dsimp only at hSw); go_simp; try with_reducible rfl)
    try simp only [Act.put, List.setIfInBounds_toArray, List.set_cons_zero, List.set_cons_succ]
    refine wpAnyH_ready (rs := [10]) (by kernel_rfl) (by simp) ?_
    refine AllReadyH.cons rfl (fun K hK => ?_) AllReadyH.nil
    replace hK := Lib.hid hK
    have z := cell_of B5.out 4
    have fz := free_of B5.out 4
    simp only [List.getElem?_toArray, List.getElem?_cons_succ, List.getElem?_cons_zero] at z
    go_simp
    have hst := (Chg.refl [b] w5).setCell (p := ⟨b, 4, none⟩) (.inl (by simp)) (.slice A5 (xs.length + ys.length) c5)
    have BX := Lib.hid (box_put1 _ B5.out : (w5.setCell ⟨b, 4, none⟩ (.slice A5 (xs.length + ys.length) c5)).heap[b]? = _)
    have M := Lib.hid (hst.at_ M5.out (by simp; omega))
    have O := Lib.hid (O5.out.chg hst (fun x hx => by have := NB5.out x hx; simpa using this))
    have C := Lib.hid (C5.out.trans hst.one)
    have Z := Lib.hid (Nat.le_trans Z5.out hst.size)
    clear z fz hst
    generalize w5.setCell ⟨b, 4, none⟩ (.slice A5 (xs.length + ys.length) c5) = w6 at *
    refine hK.out _ _ M.out (fun hHeld => ?_)
    clear hK K
    try simp only [Act.put, List.setIfInBounds_toArray, List.set_cons_zero, List.set_cons_succ]
    clear hHeld B5 M5 O5 C5 Z5
    refine wpAnyH_done (by kernel_rfl) ?_ _
    have y0 := cell_of M.out 0
    have y1 := cell_of M.out 1
    have y2 := cell_of M.out 2
    have y3 := cell_of M.out 3
    have y4 := cell_of M.out 4
    simp only [List.getElem?_toArray, List.getElem?_cons_succ, List.getElem?_cons_zero] at y0 y1 y2 y3 y4
    have z0 := cell_of BX.out 0
    have z1 := cell_of BX.out 1
    have z2 := cell_of BX.out 2
    have z3 := cell_of BX.out 3
    have z4 := cell_of BX.out 4
    simp only [List.getElem?_toArray, List.getElem?_cons_succ, List.getElem?_cons_zero] at z0 z1 z2 z3 z4
    rw [List.length_append] at hlt
    skip
    go_upto_region 13 with fail
    go_quiet (fail)
    clear z0 z1 z2 z3 z4
    clear y0 y1 y2 y3 y4
    have hq9 := (Chg.refl [] w6).drewN nq
    generalize w6.drewN nq = w7 at *
    replace BX := Lib.hid (hq9.at_ BX.out (by simp))
    replace M := Lib.hid (hq9.at_ M.out (by simp))
    replace O := Lib.hid (O.out.chg hq9 (by simp))
    replace C := Lib.hid (C.out.trans (hq9.into (T := b :: blkOf A)))
    replace Z := Lib.hid (Nat.le_trans Z.out hq9.size)
    clear hq9
    have y0 := cell_of M.out 0
    have y1 := cell_of M.out 1
    have y2 := cell_of M.out 2
    have y3 := cell_of M.out 3
    have y4 := cell_of M.out 4
    simp only [List.getElem?_toArray, List.getElem?_cons_succ, List.getElem?_cons_zero] at y0 y1 y2 y3 y4
    have z0 := cell_of BX.out 0
    have z1 := cell_of BX.out 1
    have z2 := cell_of BX.out 2
    have z3 := cell_of BX.out 3
    have z4 := cell_of BX.out 4
    simp only [List.getElem?_toArray, List.getElem?_cons_succ, List.getElem?_cons_zero] at z0 z1 z2 z3 z4
    go_wp2_with fail
    refine (bxdrop_any _ b q it (S : Int) A5 (xs.length + ys.length) c5 BX.out).mono ?_
    rintro e w8 ⟨rfl, hb8, hc⟩
    clear z0 z1 z2 z3 z4
    clear y0 y1 y2 y3 y4
    have O8 := Lib.hid (O.out.chg hc (fun x hx => by have := NB5.out x hx; simpa using this))
    have C8 := Lib.hid (C.out.trans hc.one)
    have B8 := Lib.hid hb8
    clear hb8 hc
    go_wp2
    go_ret2
    exact ⟨A5, c5, none, 0, by first | rfl | (rw [List.length_append]; rfl), O8.out, B8.out, OwnB.none_ _, fun h => absurd h (by intro e; have := congrArg List.length e; (try rw [List.length_append] at this); rw [List.length_nil] at this; omega), fun _ => ⟨rfl, rfl⟩, by intro x hx; rw [hs0]; exact NW5.out x hx, by simp, C8.out⟩
end Go.Proofs.Ytnpilljjkfjjiaa
