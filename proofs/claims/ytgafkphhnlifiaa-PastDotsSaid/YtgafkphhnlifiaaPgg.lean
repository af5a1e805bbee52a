/- past.Has: how a span lies to a dot. past.Has: a dot is looked for. past.Has. past: Count, Last. The document's Has, Count, Last. -/
import Derived.Test.YtgafkphhnlifiaaPgb
import Derived.Deep.QuietTactic
import Derived.BigQuiet
import Derived.RegionTactic
namespace Go.Proofs.Ytgafkphhnlifiaa
section
open Go.RowKit Go.Lib
set_option linter.unusedSimpArgs false
set_option linter.unusedVariables false


def cmpS (x : Sp) (n s : Int) : Int := if x.1 < n ∨ x.1 = n ∧ x.2.2 < s then -1 else if n < x.1 ∨ s < x.2.1 then 1 else 0
theorem cmp_zero {x : Sp} {n s : Int} : cmpS x n s = 0 ↔ InS x n s := by
  unfold cmpS InS
  split
  · constructor
    · intro h; exact absurd h (by decide)
    · intro h; omega
  · split
    · constructor
      · intro h; exact absurd h (by decide)
      · intro h; omega
    · constructor
      · intro _; omega
      · intro _; rfl
theorem cmp_neg {x : Sp} {n s : Int} : cmpS x n s < 0 ↔ x.1 < n ∨ x.1 = n ∧ x.2.2 < s := by
  unfold cmpS
  split
  · rename_i h; exact ⟨fun _ => h, fun _ => by decide⟩
  · rename_i h
    split <;> exact ⟨fun q => absurd q (by decide), fun q => absurd q h⟩
theorem cmp_three (x : Sp) (n s : Int) : cmpS x n s = -1 ∨ cmpS x n s = 0 ∨ cmpS x n s = 1 := by unfold cmpS; split <;> (try split) <;> simp
theorem norm_at {l : List Sp} (h : Norm l) {p q : Nat} {x y : Sp} (hx : l[p]? = some x) (hy : l[q]? = some y) (hl : p < q) : Ap x y ∧ SpOk x ∧ SpOk y := by
  have hp := List.getElem?_eq_some_iff.1 hx
  have hq := List.getElem?_eq_some_iff.1 hy
  obtain ⟨l1, e1⟩ := hp
  obtain ⟨l2, e2⟩ := hq
  refine ⟨?_, h.1 x (List.mem_of_getElem? hx), h.1 y (List.mem_of_getElem? hy)⟩
  have := List.pairwise_iff_getElem.1 h.2 p q l1 l2 hl
  rw [e1, e2] at this
  exact this
def LoS (xs : List Sp) (n s : Int) (i : Nat) : Prop := ∀ p x, xs[p]? = some x → p < i → cmpS x n s < 0
def HiS (xs : List Sp) (n s : Int) (j : Nat) : Prop := ∀ p x, xs[p]? = some x → j ≤ p → ¬ cmpS x n s < 0
theorem lo_next {xs : List Sp} {n s : Int} (hn : Norm xs) {h : Nat} {x : Sp} (hx : xs[h]? = some x) (hc : cmpS x n s < 0) : LoS xs n s (h + 1) := by
  intro p y hy hp
  by_cases e : p = h
  · subst e; rw [hx] at hy; cases hy; exact hc
  · obtain ⟨a, o1, o2⟩ := norm_at hn hy hx (by omega)
    rw [cmp_neg] at hc ⊢
    unfold Ap SpOk at *
    omega
theorem hi_next {xs : List Sp} {n s : Int} (hn : Norm xs) {h : Nat} {x : Sp} (hx : xs[h]? = some x) (hc : ¬ cmpS x n s < 0) : HiS xs n s h := by
  intro p y hy hp
  by_cases e : p = h
  · subst e; rw [hx] at hy; cases hy; exact hc
  · obtain ⟨a, o1, o2⟩ := norm_at hn hx hy (by omega)
    rw [cmp_neg] at hc ⊢
    unfold Ap SpOk at *
    omega
theorem found_yes {xs : List Sp} {n s : Int} {i : Nat} {x : Sp} (hx : xs[i]? = some x) (hc : cmpS x n s = 0) : Mem xs n s := ⟨x, List.mem_of_getElem? hx, cmp_zero.1 hc⟩
theorem found_no {xs : List Sp} {n s : Int} (hn : Norm xs) {i : Nat} (hl : LoS xs n s i) (hh : HiS xs n s i) (hx : ∀ x, xs[i]? = some x → cmpS x n s ≠ 0) : ¬ Mem xs n s := by
  rintro ⟨y, hy, hi⟩
  obtain ⟨q, hq, rfl⟩ := List.getElem_of_mem hy
  have hz : cmpS xs[q] n s = 0 := cmp_zero.2 hi
  have hqe := List.getElem?_eq_getElem hq
  rcases Nat.lt_trichotomy q i with h | h | h
  · have := hl q _ hqe h; omega
  · subst h; exact hx _ hqe hz
  · have hie := List.getElem?_eq_getElem (show i < xs.length by omega)
    obtain ⟨a, o1, o2⟩ := norm_at hn hie hqe h
    have := hh i _ hie (Nat.le_refl _)
    rw [cmp_neg] at this
    unfold Ap SpOk InS at *
    omega
set_option maxRecDepth 100000 in
set_option maxHeartbeats 4000000 in
theorem has1_any (w : World) (x : Sp) (n s : Int) : Calls Try.prog 60 #[.agg #[.int .i64 x.1, .int .i64 x.2.1, .int .i64 x.2.2], .agg #[.int .i64 n, .int .i64 s]] w fun e w' => e = .returned (.int .i64 (cmpS x n s)) ∧ Chg [] w w' := by
  obtain ⟨w1, hw1, c1, b0, b1⟩ := news2 w (.cells #[.int .i64 x.1, .int .i64 x.2.1, .int .i64 x.2.2] 62) (.cells #[.int .i64 n, .int .i64 s] 37)
  have W1 := Lib.hid hw1
  have C1 := Lib.hid c1
  have y0 := cell_of b0 0
  have y1 := cell_of b0 1
  have y2 := cell_of b0 2
  have z0 := cell_of b1 0
  have z1 := cell_of b1 1
  simp only [List.getElem?_toArray, List.getElem?_cons_succ, List.getElem?_cons_zero] at y0 y1 y2 z0 z1
  clear hw1 c1 b0 b1
  have fin : ∀ v, cmpS x n s = v → Calls Try.prog 60 #[.agg #[.int .i64 x.1, .int .i64 x.2.1, .int .i64 x.2.2], .agg #[.int .i64 n, .int .i64 s]] w (fun e w' => e = .returned (.int .i64 v) ∧ Chg [] w w') → Calls Try.prog 60 #[.agg #[.int .i64 x.1, .int .i64 x.2.1, .int .i64 x.2.2], .agg #[.int .i64 n, .int .i64 s]] w fun e w' => e = .returned (.int .i64 (cmpS x n s)) ∧ Chg [] w w' := fun v hv h => hv ▸ h
  obtain ⟨x1, x2, x3⟩ := x
  dsimp only at *
  rcases Int.lt_trichotomy x1 n with h | h | h
  · have f1 : x1 < n := h
    refine fin (-1) (by unfold cmpS; exact if_pos (.inl h)) ?_
    clear fin
    go_enter Try.func60, Try.ntmps60
    go_upto_region 1 with fail
    rw [← W1.out]
    generalize w.heap.size = g0 at *
    go_wp2
    go_ret
    exact ⟨rfl, C1.out⟩
  · subst h
    have f0 : ¬ x1 < x1 := by omega
    have f3 : ((x1 == x1) : Bool) = true := by simp
    by_cases h2 : x3 < s
    · skip
      refine fin (-1) (by unfold cmpS; exact if_pos (.inr ⟨rfl, h2⟩)) ?_
      clear fin
      go_enter Try.func60, Try.ntmps60
      go_upto_region 1 with fail
      rw [← W1.out]
      generalize w.heap.size = g0 at *
      go_wp2
      go_ret
      exact ⟨rfl, C1.out⟩
    by_cases h3 : s < x2
    · skip
      refine fin (1) (by unfold cmpS; rw [if_neg (by simp only; omega)]; exact if_pos (.inr h3)) ?_
      clear fin
      go_enter Try.func60, Try.ntmps60
      go_upto_region 1 with fail
      rw [← W1.out]
      generalize w.heap.size = g0 at *
      go_wp2
      go_ret
      exact ⟨rfl, C1.out⟩
    refine fin (0) (by unfold cmpS; rw [if_neg (by simp only; omega)]; exact if_neg (by simp only; omega)) ?_
    clear fin
    go_enter Try.func60, Try.ntmps60
    go_upto_region 1 with fail
    rw [← W1.out]
    generalize w.heap.size = g0 at *
    go_wp2
    go_ret
    exact ⟨rfl, C1.out⟩
  · have f1 : ¬ x1 < n := by omega
    have f3 : ((x1 == n) : Bool) = false := by simp; omega
    refine fin (1) (by unfold cmpS; rw [if_neg (by simp only; omega)]; exact if_pos (.inl h)) ?_
    clear fin
    go_enter Try.func60, Try.ntmps60
    go_upto_region 1 with fail
    rw [← W1.out]
    generalize w.heap.size = g0 at *
    go_wp2
    go_ret
    exact ⟨rfl, C1.out⟩
end
section
open Go.RowKit Go.Lib
set_option linter.unusedSimpArgs false
set_option linter.unusedVariables false


set_option maxRecDepth 100000 in
set_option maxHeartbeats 8000000 in
theorem binspan_any (w : World) (A : Option Addr) (c : Nat) (xs : List Sp) (n s : Int) (h : RdK spanTy w A xs.length xs) (hn : Norm xs) (hl : xs.length ≤ 4000) :
    Calls Try.prog 59 #[.slice A xs.length c, .agg #[.int .i64 n, .int .i64 s], .func (.func 60) #[] #[]] w fun e w' => ∃ i : Int, e = .returned (.tuple #[.int .i64 i, .bool (decide (Mem xs n s))]) ∧ Chg [] w w' := by
  have HX := Lib.hid h
  have HNM := Lib.hid hn
  have HL := Lib.hid hl
  clear h hn hl
  obtain ⟨w1, hw1, c1, b1⟩ := news1 w (.cells #[.int .i64 n, .int .i64 s] 37)
  have W1 := Lib.hid hw1
  have C1 := Lib.hid c1
  have B1 := Lib.hid b1
  clear hw1 c1 b1
  go_enter Try.func59, Try.ntmps59
  go_upto_region 2 with fail
  rw [← W1.out]
  generalize w.heap.size = g0 at *
  clear W1
  go_wp2
  go_loopw [9, 10] (fun v9 v10 wr => ∃ (i j : Nat), i ≤ j ∧ j ≤ xs.length ∧ v9 = .int .i64 (i : Int) ∧ v10 = .int .i64 (j : Int) ∧ Hid (LoS xs n s i ∧ HiS xs n s j) ∧ Hid (Chg [] w1 wr)) (fun v9 v10 _ => (RowKit.intOf v10).toNat - (RowKit.intOf v9).toNat)
  case atStart => exact ⟨0, xs.length, Nat.zero_le _, Nat.le_refl _, rfl, rfl, Lib.hid ⟨fun p x _ h => absurd h (by omega), fun p x hx h => absurd ((List.getElem?_eq_some_iff.1 hx).1) (by omega)⟩, Chg.refl _ _⟩
  case round =>
    obtain ⟨i, j, hij, hj, rfl, rfl, HI, HC⟩ := hrel
    have i0 : (0 : Int) ≤ (i : Int) := by omega
    have hl := HL.out
    have i1 : IntKind.i64.wrap ((i : Int) + (j : Int)) = ((i + j : Nat) : Int) := by rw [IntWalk.i64_in _ (by omega)]; omega
    by_cases hlt : i < j
    · have i2 : (i : Int) < (j : Int) := by omega
      go_upto_region 5 with fail
      obtain ⟨k, hk⟩ : ∃ k : Nat, k = (i + j) / 2 := ⟨_, rfl⟩
      have e1 : ((i : Int) + (j : Int)) / 2 = (k : Int) := by omega
      rw [e1]
      have hk1 : i ≤ k ∧ k < j := by omega
      clear hk e1 i1 i2
      obtain ⟨x, hx⟩ : ∃ x, xs[k]? = some x := ⟨_, List.getElem?_eq_getElem (by omega)⟩
      have R4 := (HX.out.chg C1.out (by simp)).chg HC.out (by simp)
      obtain ⟨g, o, eA, _⟩ := R4.line (by omega)
      subst eA
      obtain ⟨q0, q1, q2⟩ := spanCells R4 hx
      have b4 := HC.out.at_ B1.out (by simp)
      have d0 := cell_of b4 0
      have d1 := cell_of b4 1
      simp only [List.getElem?_toArray, List.getElem?_cons_succ, List.getElem?_cons_zero] at d0 d1
      have k0 : (0 : Int) ≤ (k : Int) := by omega
      have k1 : (k : Int) < (xs.length : Int) := by omega
      have HX5 := Lib.hid hx
      clear R4 b4 hx
      refine wp_region_held_drew (S := fun w' => w'.cell? ⟨g, o + k * 3, none⟩ = some (.int .i64 x.1) ∧ w'.cell? ⟨g, o + k * 3 + 1, none⟩ = some (.int .i64 x.2.1) ∧ w'.cell? ⟨g, o + k * 3 + 2, none⟩ = some (.int .i64 x.2.2) ∧ w'.cell? ⟨g0, 0, none⟩ = some (.int .i64 n) ∧ w'.cell? ⟨g0, 1, none⟩ = some (.int .i64 s)) (by kernel_rfl) ⟨q0, q1, q2, d0, d1⟩ (fun hHeld => ?_)
      have CD := Lib.hid (Chg.refl [] wr).drew
      have HH := Lib.hid (fun (w' : World) (hc : Chg [] wr.drew w') => (⟨(CD.out.trans hc).cell q0 (by simp), (CD.out.trans hc).cell q1 (by simp), (CD.out.trans hc).cell q2 (by simp), (CD.out.trans hc).cell d0 (by simp), (CD.out.trans hc).cell d1 (by simp)⟩ : w'.cell? ⟨g, o + k * 3, none⟩ = some (.int .i64 x.1) ∧ w'.cell? ⟨g, o + k * 3 + 1, none⟩ = some (.int .i64 x.2.1) ∧ w'.cell? ⟨g, o + k * 3 + 2, none⟩ = some (.int .i64 x.2.2) ∧ w'.cell? ⟨g0, 0, none⟩ = some (.int .i64 n) ∧ w'.cell? ⟨g0, 1, none⟩ = some (.int .i64 s)))
      clear q0 q1 q2 d0 d1
      generalize wr.drew = wd at *
      refine sy 0 24 rfl rfl ?_
      try simp only [Act.put, sA, s0, s1]
      refine sy 1 25 rfl rfl ?_
      try simp only [Act.put, sA, s0, s1]
      refine sy 2 26 rfl rfl ?_
      try simp only [Act.put, sA, s0, s1]
      refine sy 3 27 rfl rfl ?_
      try simp only [Act.put, sA, s0, s1]
      refine sy 4 28 rfl rfl ?_ (hy := by (intro w hSw; (try dsimp only at hSw); obtain ⟨q0, q1, q2, q3, q4⟩ := hSw; go_simp; try with_reducible rfl))
      try simp only [Act.put, sA, s0, s1]
      refine sy 5 29 rfl rfl ?_ (hy := by (intro w hSw; (try dsimp only at hSw); obtain ⟨q0, q1, q2, q3, q4⟩ := hSw; go_simp; try with_reducible rfl))
      try simp only [Act.put, sA, s0, s1]
      refine wpAnyH_ready (rs := [6]) (by kernel_rfl) (by simp) ?_
      refine AllReadyH.cons rfl (fun K hK => ?_) AllReadyH.nil
      replace hK := Lib.hid hK
      go_simp
      refine (has1_any wd x n s).mono ?_
      rintro r w6 ⟨rfl, h6⟩
      have C6 := Lib.hid h6
      clear h6 hHeld
      refine hK.out _ _ (HH.out w6 C6.out) (fun hHeld => ?_)
      clear hK K
      try simp only [Act.put, sA, s0, s1]
      refine sy 7 31 rfl rfl ?_
      try simp only [Act.put, sA, s0, s1]
      refine wpAnyH_done (by kernel_rfl) ?_ _
      clear hHeld HH
      have CE := Lib.hid (HC.out.trans (CD.out.trans C6.out))
      by_cases hneg : cmpS x n s < 0
      · have LO := Lib.hid (lo_next HNM.out HX5.out hneg)
        have dn1 : decide (cmpS x n s < 0) = true := decide_eq_true hneg
        have w1' : IntKind.i64.wrap ((k : Int) + 1) = (k : Int) + 1 := IntWalk.i64_in _ (by omega)
        go_wp2
        go_round
        case rel => exact ⟨k + 1, j, by omega, hj, by go_num, rfl, Lib.hid ⟨LO.out, HI.out.2⟩, CE.out⟩
        case measure => simp [RowKit.intOf]; omega
      · have HIN := Lib.hid (hi_next HNM.out HX5.out hneg)
        have dn1 : decide (cmpS x n s < 0) = false := decide_eq_false hneg
        go_wp2
        go_round
        case rel => exact ⟨i, k, by omega, by omega, rfl, rfl, Lib.hid ⟨HI.out.1, HIN.out⟩, CE.out⟩
        case measure => simp [RowKit.intOf]; omega
    · obtain rfl : i = j := by omega
      have i2 : ¬ (i : Int) < (i : Int) := by omega
      by_cases hin : i < xs.length
      · have k1 : (i : Int) < (xs.length : Int) := by omega
        have k2 : decide ((i : Int) < (xs.length : Int)) = true := by simp; omega
        have k3 : decide (i < xs.length) = true := by simp; omega
        obtain ⟨x, hx⟩ : ∃ x, xs[i]? = some x := ⟨_, List.getElem?_eq_getElem hin⟩
        have R4 := (HX.out.chg C1.out (by simp)).chg HC.out (by simp)
        obtain ⟨g, o, eA, _⟩ := R4.line (by omega)
        subst eA
        obtain ⟨q0, q1, q2⟩ := spanCells R4 hx
        have b4 := HC.out.at_ B1.out (by simp)
        have d0 := cell_of b4 0
        have d1 := cell_of b4 1
        simp only [List.getElem?_toArray, List.getElem?_cons_succ, List.getElem?_cons_zero] at d0 d1
        have ANS : Hid (decide (Mem xs n s) = decide (cmpS x n s = 0)) := Lib.hid (by
          by_cases hz : cmpS x n s = 0
          · rw [decide_eq_true (found_yes hx hz), decide_eq_true hz]
          · rw [decide_eq_false (found_no HNM.out HI.out.1 HI.out.2 (fun y hy => by rw [hx] at hy; cases hy; exact hz)), decide_eq_false hz])
        clear R4 b4 hx
        go_upto_region 8 with fail
        refine wp_region_held_drew (S := fun w' => w'.cell? ⟨g, o + i * 3, none⟩ = some (.int .i64 x.1) ∧ w'.cell? ⟨g, o + i * 3 + 1, none⟩ = some (.int .i64 x.2.1) ∧ w'.cell? ⟨g, o + i * 3 + 2, none⟩ = some (.int .i64 x.2.2) ∧ w'.cell? ⟨g0, 0, none⟩ = some (.int .i64 n) ∧ w'.cell? ⟨g0, 1, none⟩ = some (.int .i64 s)) (by kernel_rfl) ⟨q0, q1, q2, d0, d1⟩ (fun hHeld => ?_)
        have CD := Lib.hid (Chg.refl [] wr).drew
        have HH := Lib.hid (fun (w' : World) (hc : Chg [] wr.drew w') => (⟨(CD.out.trans hc).cell q0 (by simp), (CD.out.trans hc).cell q1 (by simp), (CD.out.trans hc).cell q2 (by simp), (CD.out.trans hc).cell d0 (by simp), (CD.out.trans hc).cell d1 (by simp)⟩ : w'.cell? ⟨g, o + i * 3, none⟩ = some (.int .i64 x.1) ∧ w'.cell? ⟨g, o + i * 3 + 1, none⟩ = some (.int .i64 x.2.1) ∧ w'.cell? ⟨g, o + i * 3 + 2, none⟩ = some (.int .i64 x.2.2) ∧ w'.cell? ⟨g0, 0, none⟩ = some (.int .i64 n) ∧ w'.cell? ⟨g0, 1, none⟩ = some (.int .i64 s)))
        clear q0 q1 q2 d0 d1 i2
        generalize wr.drew = wd at *
        refine sy 0 35 rfl rfl ?_
        try simp only [Act.put, sA, s0, s1]
        refine sy 1 36 rfl rfl ?_
        try simp only [Act.put, sA, s0, s1]
        refine sy 2 37 rfl rfl ?_
        try simp only [Act.put, sA, s0, s1]
        refine sy 3 38 rfl rfl ?_
        try simp only [Act.put, sA, s0, s1]
        refine sy 4 39 rfl rfl ?_
        try simp only [Act.put, sA, s0, s1]
        refine sy 5 40 rfl rfl ?_
        try simp only [Act.put, sA, s0, s1]
        refine sy 6 41 rfl rfl ?_
        try simp only [Act.put, sA, s0, s1]
        refine sy 7 42 rfl rfl ?_
        try simp only [Act.put, sA, s0, s1]
        refine sy 8 43 rfl rfl ?_
        try simp only [Act.put, sA, s0, s1]
        refine sy 9 44 rfl rfl ?_ (hy := by (intro w hSw; (try dsimp only at hSw); obtain ⟨q0, q1, q2, q3, q4⟩ := hSw; go_simp; try with_reducible rfl))
        try simp only [Act.put, sA, s0, s1]
        refine sy 10 45 rfl rfl ?_ (hy := by (intro w hSw; (try dsimp only at hSw); obtain ⟨q0, q1, q2, q3, q4⟩ := hSw; go_simp; try with_reducible rfl))
        try simp only [Act.put, sA, s0, s1]
        refine wpAnyH_ready (rs := [11]) (by kernel_rfl) (by simp) ?_
        refine AllReadyH.cons rfl (fun K hK => ?_) AllReadyH.nil
        replace hK := Lib.hid hK
        go_simp
        refine (has1_any wd x n s).mono ?_
        rintro r w6 ⟨rfl, h6⟩
        have C6 := Lib.hid h6
        clear h6 hHeld
        refine hK.out _ _ (HH.out w6 C6.out) (fun hHeld => ?_)
        clear hK K
        try simp only [Act.put, sA, s0, s1]
        refine sy 12 47 rfl rfl ?_
        try simp only [Act.put, sA, s0, s1]
        refine sy 13 48 rfl rfl ?_
        try simp only [Act.put, sA, s0, s1]
        refine sy 14 6 rfl rfl ?_
        try simp only [Act.put, sA, s0, s1]
        refine sy 15 7 rfl rfl ?_
        try simp only [Act.put, sA, s0, s1]
        refine wpAnyH_done (by kernel_rfl) ?_ _
        clear hHeld HH
        have CE := Lib.hid (C1.out.trans (HC.out.trans (CD.out.trans C6.out)))
        by_cases hz : cmpS x n s = 0
        · have AN : decide (Mem xs n s) = true := by rw [ANS.out, decide_eq_true hz]
          have dz : ((cmpS x n s == 0) : Bool) = true := by simpa using hz
          clear ANS hz
          go_wp2
          go_ret2
          (first | exact ⟨(i : Int), by show Ending.returned (.tuple #[.int .i64 (i : Int), .bool (cmpS x n s == 0)]) = _; rw [dz, AN], CE.out⟩ | exact ⟨⟨(i : Int), by show Ending.returned (.tuple #[.int .i64 (i : Int), .bool false]) = _; first | rfl | rw [AN]⟩, CE.out⟩)
        · have AN : decide (Mem xs n s) = false := by rw [ANS.out, decide_eq_false hz]
          have dz : ((cmpS x n s == 0) : Bool) = false := by simpa using hz
          clear ANS hz
          go_wp2
          go_ret2
          (first | exact ⟨(i : Int), by show Ending.returned (.tuple #[.int .i64 (i : Int), .bool (cmpS x n s == 0)]) = _; rw [dz, AN], CE.out⟩ | exact ⟨⟨(i : Int), by show Ending.returned (.tuple #[.int .i64 (i : Int), .bool false]) = _; first | rfl | rw [AN]⟩, CE.out⟩)
      · have k1 : ¬ (i : Int) < (xs.length : Int) := by omega
        have k2 : decide ((i : Int) < (xs.length : Int)) = false := by simp; omega
        have k3 : decide (i < xs.length) = false := by simp; omega
        have ANS : Hid (decide (Mem xs n s) = false) := Lib.hid (decide_eq_false (found_no HNM.out HI.out.1 HI.out.2 (fun y hy => absurd ((List.getElem?_eq_some_iff.1 hy).1) hin)))
        go_upto_region 8 with fail
        refine wp_region_held_drew (S := fun _ => True) (by kernel_rfl) trivial (fun hHeld => ?_)
        have CD := Lib.hid (Chg.refl [] wr).drew
        generalize wr.drew = wd at *
        clear i2
        refine sy 0 35 rfl rfl ?_ (hS := trivial)
        try simp only [Act.put, sA, s0, s1]
        refine sy 1 36 rfl rfl ?_ (hS := trivial)
        try simp only [Act.put, sA, s0, s1]
        refine sy 2 37 rfl rfl ?_ (hS := trivial)
        try simp only [Act.put, sA, s0, s1]
        refine sy 3 38 rfl rfl ?_ (hS := trivial)
        try simp only [Act.put, sA, s0, s1]
        refine sy 4 39 rfl rfl ?_ (hS := trivial)
        try simp only [Act.put, sA, s0, s1]
        refine sn 5 40 rfl rfl ?_ (hS := trivial)
        try simp only [Act.put, sA, s0, s1]
        refine sn 6 41 rfl rfl ?_ (hS := trivial)
        try simp only [Act.put, sA, s0, s1]
        refine sn 7 42 rfl rfl ?_ (hS := trivial)
        try simp only [Act.put, sA, s0, s1]
        refine sn 8 43 rfl rfl ?_ (hS := trivial)
        try simp only [Act.put, sA, s0, s1]
        refine sn 9 44 rfl rfl ?_ (hS := trivial)
        try simp only [Act.put, sA, s0, s1]
        refine sn 10 45 rfl rfl ?_ (hS := trivial)
        try simp only [Act.put, sA, s0, s1]
        refine sn 11 46 rfl rfl ?_ (hS := trivial)
        try simp only [Act.put, sA, s0, s1]
        refine sn 12 47 rfl rfl ?_ (hS := trivial)
        try simp only [Act.put, sA, s0, s1]
        refine sy 13 48 rfl rfl ?_ (hS := trivial)
        try simp only [Act.put, sA, s0, s1]
        refine sy 14 6 rfl rfl ?_ (hS := trivial)
        try simp only [Act.put, sA, s0, s1]
        refine sy 15 7 rfl rfl ?_ (hS := trivial)
        try simp only [Act.put, sA, s0, s1]
        refine wpAnyH_done (by kernel_rfl) ?_ _
        clear hHeld
        have CE := Lib.hid (C1.out.trans (HC.out.trans CD.out))
        have AN := ANS.out
        go_wp2
        go_ret2
        (first | exact ⟨(i : Int), by show Ending.returned (.tuple #[.int .i64 (i : Int), .bool (cmpS x n s == 0)]) = _; rw [dz, AN], CE.out⟩ | exact ⟨⟨(i : Int), by show Ending.returned (.tuple #[.int .i64 (i : Int), .bool false]) = _; first | rfl | rw [AN]⟩, CE.out⟩)
end
section
open Go.RowKit Go.Lib
set_option linter.unusedSimpArgs false
set_option linter.unusedVariables false


def hasE (xs : List Sp) (n s : Int) : Bool := decide (chkS xs = 0) && decide (Mem xs n s)
set_option maxRecDepth 100000 in
set_option maxHeartbeats 4000000 in
theorem has_any (w : World) (A : Option Addr) (c : Nat) (xs : List Sp) (n s : Int) (h : RdK spanTy w A xs.length xs) (hn : xs.length ≤ 140737488351232) :
    Calls Try.prog 26 #[.slice A xs.length c, .agg #[.int .i64 n, .int .i64 s]] w fun e w' => e = .returned (.bool (hasE xs n s)) ∧ Chg [] w w' := by
  obtain ⟨w0, hw0, c0, b0⟩ := news1 w (.cells #[.int .i64 n, .int .i64 s] 37)
  have W0 := Lib.hid hw0
  have C0 := Lib.hid c0
  have B0 := Lib.hid b0
  have H := Lib.hid (h.chg c0 (by simp))
  have HN := Lib.hid hn
  clear hw0 c0 b0 h hn
  rcases chk_two xs with e1 | e1
  · have eH : hasE xs n s = decide (Mem xs n s) := by unfold hasE; rw [decide_eq_true e1]; rfl
    rw [eH]
    have WF := Lib.hid (wf_of_chk e1)
    clear eH
    go_enter Try.func26, Try.ntmps26
    go_wp2_with fail
    rw [← W0.out]
    generalize w.heap.size = g0 at *
    refine (pacheck_any w0 A _ c xs H.out HN.out).mono ?_
    rintro e w1 ⟨rfl, h1⟩
    rw [e1]
    have C1 := Lib.hid h1
    have b1 := h1.at_ B0.out (by simp)
    have z0 := cell_of b1 0
    have z1 := cell_of b1 1
    simp only [List.getElem?_toArray, List.getElem?_cons_succ, List.getElem?_cons_zero] at z0 z1
    clear h1 b1
    go_wp2_with fail
    refine (binspan_any w1 A c xs n s (H.out.chg C1.out (by simp)) WF.out.1.1 WF.out.2).mono ?_
    rintro e w2 ⟨i, rfl, h2⟩
    have C2 := Lib.hid (C0.out.trans (C1.out.trans h2))
    clear h2 z0 z1
    generalize hbb : decide (Mem xs n s) = b at *
    have HBB := Lib.hid hbb
    clear hbb
    go_wp2
    go_ret
    have e9 := HBB.out
    subst e9
    exact ⟨rfl, C2.out⟩
  · have eH : hasE xs n s = false := by unfold hasE; rw [decide_eq_false (by omega)]; rfl
    rw [eH]
    clear eH
    go_enter Try.func26, Try.ntmps26
    go_wp2_with fail
    rw [← W0.out]
    generalize w.heap.size = g0 at *
    refine (pacheck_any w0 A _ c xs H.out HN.out).mono ?_
    rintro e w1 ⟨rfl, h1⟩
    rw [e1]
    have C1 := Lib.hid h1
    clear h1
    go_wp2
    go_ret
    exact ⟨rfl, C0.out.trans C1.out⟩
end
section
open Go.RowKit Go.Lib
set_option linter.unusedSimpArgs false
set_option linter.unusedVariables false


def cntL (xs : List Sp) : Int := xs.foldl (fun n x => n + x.2.2 - x.2.1 + 1) 0
def lastL (node : Int) (xs : List Sp) : Int := xs.foldl (fun n x => if x.1 = node then x.2.2 else n) 0
theorem cnt_snoc (xs : List Sp) (x : Sp) : cntL (xs ++ [x]) = cntL xs + x.2.2 - x.2.1 + 1 := by simp [cntL]
theorem last_snoc (node : Int) (xs : List Sp) (x : Sp) : lastL node (xs ++ [x]) = if x.1 = node then x.2.2 else lastL node xs := by simp [lastL]
def Fin (xs : List Sp) : Prop := ∀ x ∈ xs, B3 x
theorem cnt_small : ∀ (k : Nat) (xs : List Sp), Fin xs → xs.length ≤ k → 0 ≤ cntL xs ∧ cntL xs ≤ 2147483648 * k
  | 0, xs, _, hl => by
    have : xs = [] := List.eq_nil_of_length_eq_zero (by omega)
    subst this
    simp [cntL]
  | k + 1, xs, h, hl => by
    rcases List.eq_nil_or_concat xs with rfl | ⟨l, x, rfl⟩
    · simp [cntL]; omega
    · rw [List.concat_eq_append] at h hl ⊢
      rw [cnt_snoc]
      have h1 := cnt_small k l (fun y hy => h y (by simp [hy])) (by simp at hl; omega)
      have h2 := h x (by simp)
      unfold B3 at h2
      omega
theorem fin_of {xs : List Sp} (h : WfC xs) : Fin xs := fun x hx => by
  have := h.2 x hx
  have o := h.1.1 x hx
  unfold B3 SpOk at *
  omega
set_option maxRecDepth 100000 in
theorem countstep_any (w : World) (n : Int) (x : Sp) (hn : 0 ≤ n ∧ n ≤ 2147483648 * 4000) (hx : B3 x) : Calls Try.prog 62 #[.int .i64 n, .agg #[.int .i64 x.1, .int .i64 x.2.1, .int .i64 x.2.2]] w fun e w' => e = .returned (.int .i64 (n + x.2.2 - x.2.1 + 1)) ∧ Chg [] w w' := by
  unfold B3 at hx
  have e1 : IntKind.i64.wrap (n + x.2.2) = n + x.2.2 := IntWalk.i64_in _ (by omega)
  have e2 : IntKind.i64.wrap (n + x.2.2 - x.2.1) = n + x.2.2 - x.2.1 := IntWalk.i64_in _ (by omega)
  have e3 : IntKind.i64.wrap (n + x.2.2 - x.2.1 + 1) = n + x.2.2 - x.2.1 + 1 := IntWalk.i64_in _ (by omega)
  clear hn hx
  go_enter Try.func62, Try.ntmps62
  go_wp2
  go_ret
  exact ⟨rfl, (Chg.refl _ _).alloc _⟩
set_option maxRecDepth 100000 in
theorem laststep_any (w : World) (n : Int) (x : Sp) (b : Nat) (node : Int) (hb : w.heap[b]? = some (.cells #[.int .i64 node] 3 (0, 0))) : Calls Try.prog 63 #[.int .i64 n, .agg #[.int .i64 x.1, .int .i64 x.2.1, .int .i64 x.2.2], .pointer (some ⟨b, 0, none⟩)] w fun e w' => e = .returned (.int .i64 (if x.1 = node then x.2.2 else n)) ∧ Chg [] w w' := by
  obtain ⟨w1, hw1, c1, b1⟩ := news1 w (.cells #[.int .i64 x.1, .int .i64 x.2.1, .int .i64 x.2.2] 62)
  have z := cell_of (c1.at_ hb (by simp)) 0
  simp only [List.getElem?_toArray, List.getElem?_cons_zero] at z
  have W1 := Lib.hid hw1
  have C1 := Lib.hid c1
  have y0 := cell_of b1 0
  have y2 := cell_of b1 2
  simp only [List.getElem?_toArray, List.getElem?_cons_succ, List.getElem?_cons_zero] at y0 y2
  clear hw1 c1 b1 hb
  by_cases h : x.1 = node
  · rw [if_pos h]
    have q : ((x.1 == node) : Bool) = true := by simpa using h
    clear h
    go_enter Try.func63, Try.ntmps63
    go_upto_region 1 with fail
    rw [← W1.out]
    generalize w.heap.size = g0 at *
    go_wp2
    go_ret
    exact ⟨rfl, C1.out⟩
  · rw [if_neg h]
    have q : ((x.1 == node) : Bool) = false := by simpa using h
    clear h
    go_enter Try.func63, Try.ntmps63
    go_upto_region 1 with fail
    rw [← W1.out]
    generalize w.heap.size = g0 at *
    go_wp2
    go_ret
    exact ⟨rfl, C1.out⟩
set_option maxRecDepth 100000 in
set_option maxHeartbeats 4000000 in
theorem foldcount_any (w : World) (A : Option Addr) (c : Nat) (xs : List Sp)  (h : RdK spanTy w A xs.length xs) (hn : xs.length ≤ 4000) (hf : Fin xs) :
    Calls Try.prog 61 #[.slice A xs.length c, .int .i64 0, .func (.func 62) #[] #[]] w fun e w' => e = .returned (.int .i64 (cntL xs)) ∧ Chg [] w w' := by
  have HX := Lib.hid h
  have HY := Lib.hid (hf)
  clear h hf
  go_enter Try.func61, Try.ntmps61
  go_wp2
  go_loopw [1, 11] (fun v1 v11 wr => ∃ (k : Nat), k ≤ xs.length ∧ v1 = .int .i64 (cntL (xs.take k)) ∧ v11 = .int .i64 k ∧ Hid (Chg [] w wr)) (fun _ v11 _ => xs.length - (RowKit.intOf v11).toNat)
  case atStart => exact ⟨0, Nat.zero_le _, rfl, rfl, Chg.refl _ _⟩
  case round =>
    obtain ⟨k, hk, rfl, rfl, HI⟩ := hrel
    generalize wr = w4 at *
    clear wr
    by_cases hlt : k < xs.length
    · have ex := List.getElem?_eq_getElem hlt
      obtain ⟨g, o, eA, _⟩ := HX.out.line (by omega)
      subst eA
      have R4 := HX.out.chg HI.out (by simp)
      generalize hxx : xs[k] = x at *
      obtain ⟨q0, q1, q2⟩ := spanCells R4 ex
      have i0 : (0 : Int) ≤ (k : Int) := by omega
      have i1 : (k : Int) < (xs.length : Int) := by omega
      have e2 : cntL (xs.take (k + 1)) = cntL (xs.take k) + x.2.2 - x.2.1 + 1 := by rw [List.take_add_one, ex]; exact cnt_snoc _ _
      have E2 := Lib.hid e2
      have EX := Lib.hid ex
      have LK := Lib.hid (show (xs.take k).length ≤ 4000 by rw [List.length_take]; omega)
      have SUB := Lib.hid (fun y (hy : y ∈ xs.take k) => List.mem_of_mem_take hy)
      clear R4 ex e2 hxx
      generalize hm : cntL (xs.take k) = m at *
      have HM := Lib.hid hm
      clear hm
      obtain ⟨w5, hw5, c5, b5⟩ := news1 w4 (.cells #[.int .i64 x.1, .int .i64 x.2.1, .int .i64 x.2.2] 62)
      have W5 := Lib.hid hw5
      have B5 := Lib.hid b5
      have C5 := Lib.hid (HI.out.trans c5)
      clear hw5 c5
      go_upto_region 4 with fail
      rw [← W5.out]
      generalize w4.heap.size = g4 at *
      have y0 := cell_of B5.out 0
      have y1 := cell_of B5.out 1
      have y2 := cell_of B5.out 2
      simp only [List.getElem?_toArray, List.getElem?_cons_succ, List.getElem?_cons_zero] at y0 y1 y2
      go_wp2_with fail
      refine (countstep_any w5 m x (by rw [← HM.out]; exact cnt_small 4000 _ (fun y hy => HY.out y (SUB.out y hy)) LK.out) (HY.out x (List.mem_of_getElem? EX.out))).mono ?_
      rintro e w6 ⟨rfl, hcc⟩
      have CE := Lib.hid (C5.out.trans hcc)
      clear hcc q0 q1 q2 y0 y1 y2
      go_wp2
      go_round
      case rel => exact ⟨k + 1, by omega, by rw [E2.out], by go_num, CE.out⟩
      case measure => simp [RowKit.intOf]; omega
    · obtain rfl : k = xs.length := by omega
      rw [show xs.take xs.length = xs from List.take_length]
      go_wp2
      go_ret
      exact ⟨rfl, HI.out⟩
set_option maxRecDepth 100000 in
set_option maxHeartbeats 4000000 in
theorem foldlast_any (w : World) (A : Option Addr) (c : Nat) (xs : List Sp) (b : Nat) (node : Int) (h : RdK spanTy w A xs.length xs) (hn : xs.length ≤ 4000) (hb : w.heap[b]? = some (.cells #[.int .i64 node] 3 (0, 0))) :
    Calls Try.prog 61 #[.slice A xs.length c, .int .i64 0, .func (.func 63) #[] #[.pointer (some ⟨b, 0, none⟩)]] w fun e w' => e = .returned (.int .i64 (lastL node xs)) ∧ Chg [] w w' := by
  have HX := Lib.hid h
  have HY := Lib.hid (hb)
  clear h hb
  go_enter Try.func61, Try.ntmps61
  go_wp2
  go_loopw [1, 11] (fun v1 v11 wr => ∃ (k : Nat), k ≤ xs.length ∧ v1 = .int .i64 (lastL node (xs.take k)) ∧ v11 = .int .i64 k ∧ Hid (Chg [] w wr)) (fun _ v11 _ => xs.length - (RowKit.intOf v11).toNat)
  case atStart => exact ⟨0, Nat.zero_le _, rfl, rfl, Chg.refl _ _⟩
  case round =>
    obtain ⟨k, hk, rfl, rfl, HI⟩ := hrel
    generalize wr = w4 at *
    clear wr
    by_cases hlt : k < xs.length
    · have ex := List.getElem?_eq_getElem hlt
      obtain ⟨g, o, eA, _⟩ := HX.out.line (by omega)
      subst eA
      have R4 := HX.out.chg HI.out (by simp)
      generalize hxx : xs[k] = x at *
      obtain ⟨q0, q1, q2⟩ := spanCells R4 ex
      have i0 : (0 : Int) ≤ (k : Int) := by omega
      have i1 : (k : Int) < (xs.length : Int) := by omega
      have e2 : lastL node (xs.take (k + 1)) = if x.1 = node then x.2.2 else lastL node (xs.take k) := by rw [List.take_add_one, ex]; exact last_snoc _ _ _
      have E2 := Lib.hid e2
      have EX := Lib.hid ex
      have LK := Lib.hid (show (xs.take k).length ≤ 4000 by rw [List.length_take]; omega)
      have SUB := Lib.hid (fun y (hy : y ∈ xs.take k) => List.mem_of_mem_take hy)
      clear R4 ex e2 hxx
      generalize hm : lastL node (xs.take k) = m at *
      have HM := Lib.hid hm
      clear hm
      obtain ⟨w5, hw5, c5, b5⟩ := news1 w4 (.cells #[.int .i64 x.1, .int .i64 x.2.1, .int .i64 x.2.2] 62)
      have W5 := Lib.hid hw5
      have B5 := Lib.hid b5
      have C5 := Lib.hid (HI.out.trans c5)
      clear hw5 c5
      go_upto_region 4 with fail
      rw [← W5.out]
      generalize w4.heap.size = g4 at *
      have y0 := cell_of B5.out 0
      have y1 := cell_of B5.out 1
      have y2 := cell_of B5.out 2
      simp only [List.getElem?_toArray, List.getElem?_cons_succ, List.getElem?_cons_zero] at y0 y1 y2
      go_wp2_with fail
      refine (laststep_any w5 m x b node (C5.out.at_ HY.out (by simp))).mono ?_
      rintro e w6 ⟨rfl, hcc⟩
      have CE := Lib.hid (C5.out.trans hcc)
      clear hcc q0 q1 q2 y0 y1 y2
      go_wp2
      go_round
      case rel => exact ⟨k + 1, by omega, by rw [E2.out], by go_num, CE.out⟩
      case measure => simp [RowKit.intOf]; omega
    · obtain rfl : k = xs.length := by omega
      rw [show xs.take xs.length = xs from List.take_length]
      go_wp2
      go_ret
      exact ⟨rfl, HI.out⟩
set_option maxHeartbeats 2000000 in
theorem count_any (w : World) (A : Option Addr) (c : Nat) (xs : List Sp)  (h : RdK spanTy w A xs.length xs) (hn : xs.length ≤ 140737488351232) :
    Calls Try.prog 28 #[.slice A xs.length c] w fun e w' => e = .returned (.int .i64 (if chkS xs = 0 then cntL xs else 0)) ∧ Chg [] w w' := by
  have H := Lib.hid h
  have HN := Lib.hid hn
  clear h hn
  rcases chk_two xs with e1 | e1
  · rw [if_pos e1]
    have WF := Lib.hid (wf_of_chk e1)
    skip
    go_enter Try.func28, Try.ntmps28
    go_wp2_with fail
    skip
    refine (pacheck_any w A _ c xs H.out HN.out).mono ?_
    rintro e w1 ⟨rfl, h1⟩
    rw [e1]
    have C1 := Lib.hid h1
    clear h1
    go_wp2_with fail
    refine (foldcount_any w1 A c xs (H.out.chg C1.out (by simp)) WF.out.2 (fin_of WF.out.1)).mono ?_
    rintro e w2 ⟨rfl, h2⟩
    have C2 := Lib.hid (C1.out.trans h2)
    clear h2
    go_wp2
    go_ret
    exact ⟨rfl, C2.out⟩
  · rw [if_neg (by omega)]
    skip
    go_enter Try.func28, Try.ntmps28
    go_wp2_with fail
    skip
    refine (pacheck_any w A _ c xs H.out HN.out).mono ?_
    rintro e w1 ⟨rfl, h1⟩
    rw [e1]
    have C1 := Lib.hid h1
    clear h1
    go_wp2
    go_ret
    exact ⟨rfl, C1.out⟩
set_option maxHeartbeats 2000000 in
theorem last_any (w : World) (A : Option Addr) (c : Nat) (xs : List Sp) (node : Int) (h : RdK spanTy w A xs.length xs) (hn : xs.length ≤ 140737488351232) :
    Calls Try.prog 30 #[.slice A xs.length c, .int .i64 node] w fun e w' => e = .returned (.int .i64 (if chkS xs = 0 then lastL node xs else 0)) ∧ Chg [] w w' := by
  have H := Lib.hid h
  have HN := Lib.hid hn
  clear h hn
  rcases chk_two xs with e1 | e1
  · rw [if_pos e1]
    have WF := Lib.hid (wf_of_chk e1)
    obtain ⟨w0, hw0, c0, b0⟩ := news1 w (.cells #[.int .i64 node] 3)
    have W0 := Lib.hid hw0
    have C0 := Lib.hid c0
    have B0 := Lib.hid b0
    replace H := Lib.hid (H.out.chg c0 (by simp))
    clear hw0 c0 b0
    go_enter Try.func30, Try.ntmps30
    go_wp2_with fail
    rw [← W0.out]
    generalize w.heap.size = g0 at *
    refine (pacheck_any w0 A _ c xs H.out HN.out).mono ?_
    rintro e w1 ⟨rfl, h1⟩
    rw [e1]
    have C1 := Lib.hid h1
    clear h1
    go_wp2_with fail
    refine (foldlast_any w1 A c xs g0 node (H.out.chg C1.out (by simp)) WF.out.2 (C1.out.at_ B0.out (by simp))).mono ?_
    rintro e w2 ⟨rfl, h2⟩
    have C2 := Lib.hid (C1.out.trans h2)
    clear h2
    go_wp2
    go_ret
    exact ⟨rfl, C0.out.trans C2.out⟩
  · rw [if_neg (by omega)]
    obtain ⟨w0, hw0, c0, b0⟩ := news1 w (.cells #[.int .i64 node] 3)
    have W0 := Lib.hid hw0
    have C0 := Lib.hid c0
    have B0 := Lib.hid b0
    replace H := Lib.hid (H.out.chg c0 (by simp))
    clear hw0 c0 b0
    go_enter Try.func30, Try.ntmps30
    go_wp2_with fail
    rw [← W0.out]
    generalize w.heap.size = g0 at *
    refine (pacheck_any w0 A _ c xs H.out HN.out).mono ?_
    rintro e w1 ⟨rfl, h1⟩
    rw [e1]
    have C1 := Lib.hid h1
    clear h1
    go_wp2
    go_ret
    exact ⟨rfl, C0.out.trans C1.out⟩
end
section
open Go.RowKit Go.Lib
set_option linter.unusedSimpArgs false
set_option linter.unusedVariables false


theorem cnt_take {xs : List Sp} {k : Nat} {x : Sp} (hx : xs[k]? = some x) : cntL (xs.take (k + 1)) = cntL (xs.take k) + x.2.2 - x.2.1 + 1 := by
  rw [List.take_add_one, hx]; exact cnt_snoc _ _
/-- The document's: the greatest of a node's ends. -/
def lastM (node : Int) (xs : List Sp) : Int := xs.foldl (fun n x => if x.1 = node then max n x.2.2 else n) 0
theorem lastM_take {node : Int} {xs : List Sp} {k : Nat} {x : Sp} (hx : xs[k]? = some x) : lastM node (xs.take (k + 1)) = if x.1 = node then max (lastM node (xs.take k)) x.2.2 else lastM node (xs.take k) := by
  rw [List.take_add_one, hx]; simp [lastM]
theorem last_same (node : Int) : ∀ (k : Nat) (xs : List Sp), WfC xs → lastM node (xs.take k) = lastL node (xs.take k) ∧ (lastL node (xs.take k) = 0 ∨ ∃ y ∈ xs.take k, y.1 = node ∧ y.2.2 = lastL node (xs.take k))
  | 0, xs, _ => by simp [lastM, lastL]
  | k + 1, xs, h => by
    obtain ⟨a, b⟩ := last_same node k xs h
    by_cases hk : k < xs.length
    · have hx := List.getElem?_eq_getElem hk
      have e1 : lastL node (xs.take (k + 1)) = if xs[k].1 = node then xs[k].2.2 else lastL node (xs.take k) := by rw [List.take_add_one, hx]; exact last_snoc _ _ _
      rw [lastM_take hx, e1, a]
      have mem : ∀ y ∈ xs.take k, y ∈ xs.take (k + 1) := fun y hy => by rw [List.take_add_one]; exact List.mem_append_left _ hy
      split
      · rename_i hn
        have bx := h.2 xs[k] (List.getElem_mem hk)
        have ox := h.1.1 xs[k] (List.getElem_mem hk)
        unfold SpOk at ox
        have le : lastL node (xs.take k) ≤ xs[k].2.2 := by
          rcases b with e | ⟨y, hy, hy1, hy2⟩
          · rw [e]; omega
          · obtain ⟨q, hq, rfl⟩ := List.getElem_of_mem hy
            rw [List.length_take] at hq
            rw [List.getElem_take] at hy1 hy2
            have hap := List.pairwise_iff_getElem.1 h.1.2 q k (by omega) hk (by omega)
            have oy := h.1.1 xs[q] (List.getElem_mem (by omega))
            rw [← hy2]
            unfold Ap SpOk at *
            omega
        exact ⟨by omega, .inr ⟨xs[k], List.mem_of_getElem? (i := k) (by rw [List.getElem?_take, if_pos (Nat.lt_succ_self k)]; exact hx), hn, rfl⟩⟩
      · refine ⟨rfl, ?_⟩
        rcases b with e | ⟨y, hy, hy1, hy2⟩
        · exact .inl e
        · exact .inr ⟨y, mem y hy, hy1, hy2⟩
    · rw [List.take_of_length_le (by omega : xs.length ≤ k + 1), ← List.take_of_length_le (by omega : xs.length ≤ k)]
      exact ⟨a, b⟩
theorem last_all (node : Int) {xs : List Sp} (h : WfC xs) : lastM node xs = lastL node xs := by
  have := (last_same node xs.length xs h).1
  rwa [List.take_length] at this
set_option maxRecDepth 100000 in
set_option maxHeartbeats 8000000 in
theorem qcount_any (w : World) (A : Option Addr) (c : Nat) (xs : List Sp) (h : RdK spanTy w A xs.length xs) (hn : xs.length ≤ 140737488351232) :
    Calls Try.prog 29 #[.slice A xs.length c] w fun e w' => e = .returned (.int .i64 (if chkS xs = 0 then cntL xs else 0)) ∧ Chg [] w w' := by
  have HX := Lib.hid h
  have HN := Lib.hid hn
  clear h hn
  rcases chk_two xs with e1 | e1
  · rw [if_pos e1]
    have WF := Lib.hid (wf_of_chk e1)
    go_enter Try.func29, Try.ntmps29
    go_wp2_with fail
    refine (qacheck_any w A _ c xs HX.out HN.out).mono ?_
    rintro e w1 ⟨rfl, h1⟩
    rw [e1]
    have C1 := Lib.hid h1
    replace HX := Lib.hid (HX.out.chg h1 (by simp))
    clear h1 e1
    go_upto_region 4 with fail
    go_wp2
    go_loopw [3, 4] (fun v3 v4 wr => ∃ (k : Nat), k ≤ xs.length ∧ v3 = .int .i64 (cntL (xs.take k)) ∧ v4 = .int .i64 k ∧ Hid (Chg [] w1 wr)) (fun _ v4 _ => xs.length - (RowKit.intOf v4).toNat)
    case atStart => exact ⟨0, Nat.zero_le _, rfl, rfl, Chg.refl _ _⟩
    case round =>
      obtain ⟨k, hk, rfl, rfl, HI⟩ := hrel
      have i0 : (0 : Int) ≤ (k : Int) := by omega
      by_cases hlt : k < xs.length
      · have i1 : (k : Int) < (xs.length : Int) := by omega
        have i3 : IntKind.i64.wrap ((k : Int) + 1) = (k : Int) + 1 := IntWalk.i64_in _ (by have := HN.out; omega)
        obtain ⟨x, hx⟩ : ∃ x, xs[k]? = some x := ⟨_, List.getElem?_eq_getElem hlt⟩
        obtain ⟨g, o, eA, _⟩ := HX.out.line (by omega)
        subst eA
        obtain ⟨q0, q1, q2⟩ := spanCells (HX.out.chg HI.out (by simp)) hx
        have E2 := Lib.hid (cnt_take hx)
        have SM := cnt_small 4000 (xs.take k) (fun y hy => fin_of WF.out.1 y (List.mem_of_mem_take hy)) (by rw [List.length_take]; have := WF.out.2; omega)
        have bx := fin_of WF.out.1 x (List.mem_of_getElem? hx)
        unfold B3 at bx
        generalize hm : cntL (xs.take k) = m at *
        have HM := Lib.hid hm
        have e4 : IntKind.i64.wrap (m + x.2.2) = m + x.2.2 := IntWalk.i64_in _ (by omega)
        have e5 : IntKind.i64.wrap (m + x.2.2 - x.2.1) = m + x.2.2 - x.2.1 := IntWalk.i64_in _ (by omega)
        have e6 : IntKind.i64.wrap (m + x.2.2 - x.2.1 + 1) = m + x.2.2 - x.2.1 + 1 := IntWalk.i64_in _ (by omega)
        clear hx hm SM bx
        go_upto_region 7 with fail
        go_quiet (fail)
        have hq := (Chg.refl [] wr).drewN nq
        generalize wr.drewN nq = w2 at *
        have C2 := Lib.hid (HI.out.trans hq)
        clear q0 q1 q2 hq
        go_wp2
        go_round
        case rel => exact ⟨k + 1, by omega, by rw [E2.out], by go_num, C2.out⟩
        case measure => simp [RowKit.intOf]; omega
      · obtain rfl : k = xs.length := by omega
        rw [show xs.take xs.length = xs from List.take_length]
        have i1 : ¬ (xs.length : Int) < (xs.length : Int) := by omega
        go_wp2
        go_ret
        exact ⟨rfl, C1.out.trans HI.out⟩
  · rw [if_neg (by omega)]
    go_enter Try.func29, Try.ntmps29
    go_wp2_with fail
    refine (qacheck_any w A _ c xs HX.out HN.out).mono ?_
    rintro e w1 ⟨rfl, h1⟩
    rw [e1]
    have C1 := Lib.hid h1
    clear h1
    go_wp2
    go_ret
    exact ⟨rfl, C1.out⟩
set_option maxRecDepth 100000 in
set_option maxHeartbeats 8000000 in
theorem qlast_any (w : World) (A : Option Addr) (c : Nat) (xs : List Sp) (node : Int) (h : RdK spanTy w A xs.length xs) (hn : xs.length ≤ 140737488351232) :
    Calls Try.prog 31 #[.slice A xs.length c, .int .i64 node] w fun e w' => e = .returned (.int .i64 (if chkS xs = 0 then lastL node xs else 0)) ∧ Chg [] w w' := by
  have HX := Lib.hid h
  have HN := Lib.hid hn
  clear h hn
  rcases chk_two xs with e1 | e1
  · rw [if_pos e1]
    have WF := Lib.hid (wf_of_chk e1)
    go_enter Try.func31, Try.ntmps31
    go_wp2_with fail
    refine (qacheck_any w A _ c xs HX.out HN.out).mono ?_
    rintro e w1 ⟨rfl, h1⟩
    rw [e1]
    have C1 := Lib.hid h1
    replace HX := Lib.hid (HX.out.chg h1 (by simp))
    clear h1 e1
    go_wp2
    go_loopw [5, 6] (fun v5 v6 wr => ∃ (k : Nat), k ≤ xs.length ∧ v5 = .int .i64 (lastM node (xs.take k)) ∧ v6 = .int .i64 k ∧ Hid (Chg [] w1 wr)) (fun _ v6 _ => xs.length - (RowKit.intOf v6).toNat)
    case atStart => exact ⟨0, Nat.zero_le _, rfl, rfl, Chg.refl _ _⟩
    case round =>
      obtain ⟨k, hk, rfl, rfl, HI⟩ := hrel
      have i0 : (0 : Int) ≤ (k : Int) := by omega
      by_cases hlt : k < xs.length
      · have i1 : (k : Int) < (xs.length : Int) := by omega
        have i3 : IntKind.i64.wrap ((k : Int) + 1) = (k : Int) + 1 := IntWalk.i64_in _ (by have := HN.out; omega)
        obtain ⟨x, hx⟩ : ∃ x, xs[k]? = some x := ⟨_, List.getElem?_eq_getElem hlt⟩
        obtain ⟨g, o, eA, _⟩ := HX.out.line (by omega)
        subst eA
        obtain ⟨q0, q1, q2⟩ := spanCells (HX.out.chg HI.out (by simp)) hx
        have E2 := Lib.hid (lastM_take (node := node) hx)
        generalize lastM node (xs.take k) = m at *
        clear hx
        by_cases hnode : x.1 = node
        · have EQ := Lib.hid (show lastM node (xs.take (k + 1)) = max m x.2.2 by rw [E2.out, if_pos hnode])
          have q : ((x.1 == node) : Bool) = true := by simpa using hnode
          clear hnode E2
          go_wp2
          all_goals
            go_round
            case rel => exact ⟨k + 1, by omega, by rw [EQ.out]; congr 1; omega, by go_num, HI.out⟩
            case measure => simp [RowKit.intOf]; omega
        · have EQ := Lib.hid (show lastM node (xs.take (k + 1)) = m by rw [E2.out, if_neg hnode])
          have q : ((x.1 == node) : Bool) = false := by simpa using hnode
          clear hnode E2
          go_wp2
          go_round
          case rel => exact ⟨k + 1, by omega, by rw [EQ.out], by go_num, HI.out⟩
          case measure => simp [RowKit.intOf]; omega
      · obtain rfl : k = xs.length := by omega
        rw [show xs.take xs.length = xs from List.take_length, last_all node WF.out.1]
        have i1 : ¬ (xs.length : Int) < (xs.length : Int) := by omega
        go_wp2
        go_ret
        exact ⟨rfl, C1.out.trans HI.out⟩
  · rw [if_neg (by omega)]
    go_enter Try.func31, Try.ntmps31
    go_wp2_with fail
    refine (qacheck_any w A _ c xs HX.out HN.out).mono ?_
    rintro e w1 ⟨rfl, h1⟩
    rw [e1]
    have C1 := Lib.hid h1
    clear h1
    go_wp2
    go_ret
    exact ⟨rfl, C1.out⟩
set_option maxRecDepth 100000 in
set_option maxHeartbeats 8000000 in
theorem qhas_any (w : World) (A : Option Addr) (c : Nat) (xs : List Sp) (n s : Int) (h : RdK spanTy w A xs.length xs) (hn : xs.length ≤ 140737488351232) :
    Calls Try.prog 27 #[.slice A xs.length c, .agg #[.int .i64 n, .int .i64 s]] w fun e w' => e = .returned (.bool (hasE xs n s)) ∧ Chg [] w w' := by
  have HX := Lib.hid h
  have HN := Lib.hid hn
  clear h hn
  obtain ⟨w0, hw0, c0, b0⟩ := news1 w (.cells #[.int .i64 n, .int .i64 s] 37)
  have W0 := Lib.hid hw0
  have C0 := Lib.hid c0
  have B0 := Lib.hid b0
  replace HX := Lib.hid (HX.out.chg c0 (by simp))
  clear hw0 c0 b0
  rcases chk_two xs with e1 | e1
  · have eH : hasE xs n s = decide (Mem xs n s) := by unfold hasE; rw [decide_eq_true e1]; rfl
    rw [eH]
    clear eH
    go_enter Try.func27, Try.ntmps27
    go_wp2_with fail
    rw [← W0.out]
    generalize w.heap.size = g0 at *
    refine (qacheck_any w0 A _ c xs HX.out HN.out).mono ?_
    rintro e w1 ⟨rfl, h1⟩
    rw [e1]
    have C1 := Lib.hid h1
    replace HX := Lib.hid (HX.out.chg h1 (by simp))
    replace B0 := Lib.hid (h1.at_ B0.out (by simp))
    clear h1 e1
    go_wp2
    go_loopw [5] (fun v5 wr => ∃ (k : Nat), k ≤ xs.length ∧ v5 = .int .i64 k ∧ Hid (¬ Mem (xs.take k) n s) ∧ Hid (Chg [] w1 wr)) (fun v5 _ => xs.length - (RowKit.intOf v5).toNat)
    case atStart => exact ⟨0, Nat.zero_le _, rfl, Lib.hid (by simpa using mem_nil), Chg.refl _ _⟩
    case round =>
      obtain ⟨k, hk, rfl, NM, HI⟩ := hrel
      have i0 : (0 : Int) ≤ (k : Int) := by omega
      by_cases hlt : k < xs.length
      · have i1 : (k : Int) < (xs.length : Int) := by omega
        have i3 : IntKind.i64.wrap ((k : Int) + 1) = (k : Int) + 1 := IntWalk.i64_in _ (by have := HN.out; omega)
        obtain ⟨x, hx⟩ : ∃ x, xs[k]? = some x := ⟨_, List.getElem?_eq_getElem hlt⟩
        obtain ⟨g, o, eA, _⟩ := HX.out.line (by omega)
        subst eA
        obtain ⟨q0, q1, q2⟩ := spanCells (HX.out.chg HI.out (by simp)) hx
        have b2 := HI.out.at_ B0.out (by simp)
        have d0 := cell_of b2 0
        have d1 := cell_of b2 1
        simp only [List.getElem?_toArray, List.getElem?_cons_succ, List.getElem?_cons_zero] at d0 d1
        have NX : Hid (¬ InS x n s → ¬ Mem (xs.take (k + 1)) n s) := Lib.hid (fun hni hm => by
          rw [List.take_add_one, hx] at hm
          rcases mem_append.1 hm with q | q
          · exact NM.out q
          · exact hni (mem_one.1 q))
        have YX : Hid (InS x n s → decide (Mem xs n s) = true) := Lib.hid (fun hi => decide_eq_true ⟨x, List.mem_of_getElem? hx, hi⟩)
        clear hx b2
        by_cases p1 : x.1 = n
        rotate_left
        · have NO := Lib.hid (NX.out (fun hi => p1 hi.1))
          have q : ((x.1 == n) : Bool) = false := by simpa using p1
          clear p1 NX YX
          go_upto_region 6 with fail
          go_quiet (fail)
          have hq := (Chg.refl [] wr).drewN nq
          generalize wr.drewN nq = w2 at *
          have C2 := Lib.hid (HI.out.trans hq)
          clear q0 q1 q2 d0 d1 hq
          go_wp2
          go_round
          case rel => exact ⟨k + 1, by omega, by go_num, NO, C2.out⟩
          case measure => simp [RowKit.intOf]; omega
        by_cases p2 : x.2.1 ≤ s
        rotate_left
        · have NO := Lib.hid (NX.out (fun hi => p2 hi.2.1))
          have q : ((x.1 == n) : Bool) = true := by simpa using p1
          clear p1 NX YX
          go_upto_region 6 with fail
          go_quiet (fail)
          have hq := (Chg.refl [] wr).drewN nq
          generalize wr.drewN nq = w2 at *
          have C2 := Lib.hid (HI.out.trans hq)
          clear q0 q1 q2 d0 d1 hq
          go_wp2
          go_round
          case rel => exact ⟨k + 1, by omega, by go_num, NO, C2.out⟩
          case measure => simp [RowKit.intOf]; omega
        by_cases p3 : s ≤ x.2.2
        rotate_left
        · have NO := Lib.hid (NX.out (fun hi => p3 hi.2.2))
          have q : ((x.1 == n) : Bool) = true := by simpa using p1
          clear p1 NX YX
          go_upto_region 6 with fail
          go_quiet (fail)
          have hq := (Chg.refl [] wr).drewN nq
          generalize wr.drewN nq = w2 at *
          have C2 := Lib.hid (HI.out.trans hq)
          clear q0 q1 q2 d0 d1 hq
          go_wp2
          go_round
          case rel => exact ⟨k + 1, by omega, by go_num, NO, C2.out⟩
          case measure => simp [RowKit.intOf]; omega
        have YES := Lib.hid (YX.out ⟨p1, p2, p3⟩)
        have q : ((x.1 == n) : Bool) = true := by simpa using p1
        clear p1 NX YX
        go_upto_region 6 with fail
        go_quiet (fail)
        have hq := (Chg.refl [] wr).drewN nq
        generalize wr.drewN nq = w2 at *
        have C2 := Lib.hid (HI.out.trans hq)
        clear q0 q1 q2 d0 d1 hq
        go_wp2
        go_ret
        exact ⟨(by first | exact of_decide_eq_true YES.out | exact (of_decide_eq_true YES.out : Mem xs n s) | (rw [YES.out]; rfl)), C0.out.trans (C1.out.trans C2.out)⟩
      · obtain rfl : k = xs.length := by omega
        have NO : Hid (decide (Mem xs n s) = false) := Lib.hid (by have := NM.out; rw [List.take_length] at this; exact decide_eq_false this)
        have i1 : ¬ (xs.length : Int) < (xs.length : Int) := by omega
        go_wp2
        go_ret
        exact ⟨(by first | exact of_decide_eq_false NO.out | (rw [NO.out]; rfl)), C0.out.trans (C1.out.trans HI.out)⟩
  · have eH : hasE xs n s = false := by unfold hasE; rw [decide_eq_false (by omega)]; rfl
    rw [eH]
    clear eH
    go_enter Try.func27, Try.ntmps27
    go_wp2_with fail
    rw [← W0.out]
    generalize w.heap.size = g0 at *
    refine (qacheck_any w0 A _ c xs HX.out HN.out).mono ?_
    rintro e w1 ⟨rfl, h1⟩
    rw [e1]
    have C1 := Lib.hid h1
    clear h1
    go_wp2
    go_ret
    exact ⟨rfl, C0.out.trans C1.out⟩
end
end Go.Proofs.Ytgafkphhnlifiaa
