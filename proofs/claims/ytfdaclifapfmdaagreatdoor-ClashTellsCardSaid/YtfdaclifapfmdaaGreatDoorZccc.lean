/- ClashTells. -/
import Derived.Test.YtfdaclifapfmdaaGreatDoorZccb
import Derived.Test.YtfdaclifapfmdaaGreatDoorZcag
import Derived.Test.YtfdaclifapfmdaaGreatDoorZcam
import Derived.Test.YtfdaclifapfmdaaGreatDoorZcal
import Derived.Test.YtfdaclifapfmdaaGreatDoorZcaa
import Derived.Deep.Cut
import Derived.Deep.RegionHeld3
namespace Go.Proofs.YtfdaclifapfmdaaGreatDoor
section
open Go.RowKit Go.Lib
set_option linter.unusedSimpArgs false
set_option linter.unusedVariables false


theorem OwnB.lt8_ {w : World} {A : Option Addr} {c : Nat} {xs : List UInt8} (h : OwnB w A c xs) : ∀ a, A = some a → a.block < w.heap.size := by
  rcases h with ⟨rfl, _⟩ | ⟨g, full, rfl, hg, _⟩
  · intro a ha; cases ha
  · intro a ha; cases ha; exact lt_of_heap hg
theorem join5 {α β γ δ ε : Type} {F R : α → β → γ → δ → ε → Prop} {G : Prop} (h1 : (∀ a b c d e, F a b c d e → R a b c d e) → G) (h2 : ∀ a b c d e, F a b c d e → R a b c d e) : G := h1 h2
theorem rd_twoE {w : World} {g : Nat} {x y : EvT} (h : w.heap[g]? = some (.cells #[.int .i64 x.n, .int .i64 x.s, .string x.p, .int .i64 x.k, .int .i64 x.m, .slice x.A x.l x.c, .slice x.B x.bl x.bc, .int .i64 y.n, .int .i64 y.s, .string y.p, .int .i64 y.k, .int .i64 y.m, .slice y.A y.l y.c, .slice y.B y.bl y.bc] 29)) : RdK evTy w (some ⟨g, 0, none⟩) 2 [x, y] :=
  ⟨rfl, fun j v hj => ⟨_, rfl, by rw [add_zero_lit, cell_of h j]; simpa [RowTy.flat, evTy] using hj⟩⟩
theorem copyev_x (w : World) (x : EvT) (e : EvP) (h : EvR w x e) (hs : e.b.length ≤ 140737488351232 ∧ e.q.length ≤ 100000) :
    Calls Tryz.prog 9 #[.agg #[.int .i64 x.n, .int .i64 x.s, .string x.p, .int .i64 x.k, .int .i64 x.m, .slice x.A x.l x.c, .slice x.B x.bl x.bc]] w fun r w' => ∃ X : EvT, r = .returned (.agg #[.int .i64 X.n, .int .i64 X.s, .string X.p, .int .i64 X.k, .int .i64 X.m, .slice X.A X.l X.c, .slice X.B X.bl X.bc]) ∧ EvR w' X e ∧ OwnB w' X.A X.c e.b ∧ OwnK spanTy w' X.B X.bc e.q ∧ (∀ a, X.A = some a → w.heap.size ≤ a.block) ∧ (∀ a, X.B = some a → w.heap.size ≤ a.block) ∧ (∀ a b, X.A = some a → X.B = some b → a.block ≠ b.block) ∧ Chg [] w w' :=
  (copyev_any w x e h hs).mono fun r w' ⟨A', c', B', d', e1, e2, e3, e4, e5, e6, e7, e8⟩ => ⟨⟨x.n, x.s, x.p, x.k, x.m, A', x.l, c', B', x.bl, d'⟩, e1, e2, e3, e4, e5, e6, e7, e8⟩
set_option maxRecDepth 100000 in
set_option maxHeartbeats 32000000 in
theorem clashtells_yes (w : World) (x y : EvT) (e f : EvP) (hx : EvR w x e) (hy : EvR w y f) (hzx : EvZ x e) (hzy : EvZ y f) :
    Calls Tryz.prog 3 #[.agg #[.int .i64 x.n, .int .i64 x.s, .string x.p, .int .i64 x.k, .int .i64 x.m, .slice x.A x.l x.c, .slice x.B x.bl x.bc], .agg #[.int .i64 y.n, .int .i64 y.s, .string y.p, .int .i64 y.k, .int .i64 y.m, .slice y.A y.l y.c, .slice y.B y.bl y.bc]] w fun r w' => r = .returned (.bool true) ∧ Chg [] w w' := by

  obtain ⟨w1, hw, hc, b0, b1⟩ := news2 w (.cells #[.int .i64 x.n, .int .i64 x.s, .string x.p, .int .i64 x.k, .int .i64 x.m, .slice x.A x.l x.c, .slice x.B x.bl x.bc] 29) (.cells #[.int .i64 y.n, .int .i64 y.s, .string y.p, .int .i64 y.k, .int .i64 y.m, .slice y.A y.l y.c, .slice y.B y.bl y.bc] 29)
  obtain ⟨w2, hw2, hc2, b2⟩ := news1 w1 (.cells #[.int .i64 x.n, .int .i64 x.s, .string x.p, .int .i64 x.k, .int .i64 x.m, .slice x.A x.l x.c, .slice x.B x.bl x.bc, .int .i64 y.n, .int .i64 y.s, .string y.p, .int .i64 y.k, .int .i64 y.m, .slice y.A y.l y.c, .slice y.B y.bl y.bc] 29)
  have W1 := Lib.hid hw
  have W2 := Lib.hid hw2
  have R2 := Lib.hid (rd_twoE b2)
  have B0 := Lib.hid (hc2.at_ b0 (by simp))
  have B1 := Lib.hid (hc2.at_ b1 (by simp))
  have HX := Lib.hid (hx.chg (hc.trans hc2))
  have HY := Lib.hid (hy.chg (hc.trans hc2))
  have C := Lib.hid (hc.trans hc2)
  have ZX := Lib.hid hzx
  have ZY := Lib.hid hzy
  have z0 := cell_of b0 0
  have z1 := cell_of b0 1
  have z2 := cell_of b0 2
  have z3 := cell_of b0 3
  have z4 := cell_of b0 4
  have z5 := cell_of b0 5
  have z6 := cell_of b0 6
  have y0 := cell_of b1 0
  have y1 := cell_of b1 1
  have y2 := cell_of b1 2
  have y3 := cell_of b1 3
  have y4 := cell_of b1 4
  have y5 := cell_of b1 5
  have y6 := cell_of b1 6
  simp only [List.getElem?_toArray, List.getElem?_cons_succ, List.getElem?_cons_zero] at z0 z1 z2 z3 z4 z5 z6 y0 y1 y2 y3 y4 y5 y6
  clear hw hc hw2 hc2 b0 b1 b2 hx hy hzx hzy
  go_enter Tryz.func3, Tryz.ntmps3
  go_upto_region 1 with fail
  rw [← W1.out]
  generalize w.heap.size + 1 = g1 at *
  generalize w.heap.size = g0 at *
  go_wp2_with fail
  rw [← W2.out]
  generalize w1.heap.size = g2 at *
  clear z0 z1 z2 z3 z4 z5 z6 y0 y1 y2 y3 y4 y5 y6
  have lv := longevs_any w2 (some ⟨g2, 0, none⟩) 2 [x, y] 2 R2.out (by simp) (by omega) (by intro u hu; simp at hu; rcases hu with rfl | rfl; exact (by have := HX.out.l; have := ZX.out.1; omega); exact (by have := HY.out.l; have := ZY.out.1; omega))
  rw [show ([x, y] : List EvT).length = 2 from rfl, show ((2 : Nat) : Int) = 2 from rfl] at lv
  have LV := Lib.hid lv
  clear lv
  refine LV.out.mono ?_
  rintro r w3 ⟨rfl, hc⟩
  replace C := Lib.hid (C.out.trans hc)
  replace B0 := Lib.hid (hc.at_ B0.out (by simp))
  replace B1 := Lib.hid (hc.at_ B1.out (by simp))
  replace HX := Lib.hid (HX.out.chg hc)
  replace HY := Lib.hid (HY.out.chg hc)
  clear hc LV R2
  rcases hlong : longE [x, y] 2 with _ | _
  rotate_left
  · go_wp2_with fail
    refine (clashAwake_run _).mono ?_
    rintro r w4 ⟨rfl, hc⟩
    replace C := Lib.hid (C.out.trans hc)
    clear hc
    go_wp2
    go_ret
    exact ⟨rfl, C.out⟩
  have sm := (longE_no hlong).2
  have SX : Hid (EvSm e ∧ e.q.length ≤ 100000) := Lib.hid (by
    have q := sm x (by simp)
    have a1 := HX.out.l
    have a2 := HX.out.bl
    have a3 := HX.out.p
    have a4 : x.p.size = e.p.length := by rw [a3, strOf_size]
    unfold bigE at q
    unfold EvSm
    omega)
  have SY : Hid (EvSm f ∧ f.q.length ≤ 100000) := Lib.hid (by
    have q := sm y (by simp)
    have a1 := HY.out.l
    have a2 := HY.out.bl
    have a3 := HY.out.p
    have a4 : y.p.size = f.p.length := by rw [a3, strOf_size]
    unfold bigE at q
    unfold EvSm
    omega)
  clear sm hlong
  have z0 := cell_of B0.out 0
  have z1 := cell_of B0.out 1
  have z2 := cell_of B0.out 2
  have z3 := cell_of B0.out 3
  have z4 := cell_of B0.out 4
  have z5 := cell_of B0.out 5
  have z6 := cell_of B0.out 6
  have y0 := cell_of B1.out 0
  have y1 := cell_of B1.out 1
  have y2 := cell_of B1.out 2
  have y3 := cell_of B1.out 3
  have y4 := cell_of B1.out 4
  have y5 := cell_of B1.out 5
  have y6 := cell_of B1.out 6
  simp only [List.getElem?_toArray, List.getElem?_cons_succ, List.getElem?_cons_zero] at z0 z1 z2 z3 z4 z5 z6 y0 y1 y2 y3 y4 y5 y6
  go_upto_region 3 with fail
  clear z0 z1 z2 z3 z4 z5 z6 y0 y1 y2 y3 y4 y5 y6
  have DX : Hid (∀ w', Chg [] w3 w' → (fun w' => w'.cell? ⟨g0, 0, none⟩ = some (.int .i64 x.n) ∧ w'.cell? ⟨g0, 1, none⟩ = some (.int .i64 x.s) ∧ w'.cell? ⟨g0, 2, none⟩ = some (.string x.p) ∧ w'.cell? ⟨g0, 3, none⟩ = some (.int .i64 x.k) ∧ w'.cell? ⟨g0, 4, none⟩ = some (.int .i64 x.m) ∧ w'.cell? ⟨g0, 5, none⟩ = some (.slice x.A x.l x.c) ∧ w'.cell? ⟨g0, 6, none⟩ = some (.slice x.B x.bl x.bc) ∧ w'.cell? ⟨g1, 0, none⟩ = some (.int .i64 y.n) ∧ w'.cell? ⟨g1, 1, none⟩ = some (.int .i64 y.s) ∧ w'.cell? ⟨g1, 2, none⟩ = some (.string y.p) ∧ w'.cell? ⟨g1, 3, none⟩ = some (.int .i64 y.k) ∧ w'.cell? ⟨g1, 4, none⟩ = some (.int .i64 y.m) ∧ w'.cell? ⟨g1, 5, none⟩ = some (.slice y.A y.l y.c) ∧ w'.cell? ⟨g1, 6, none⟩ = some (.slice y.B y.bl y.bc)) w') := Lib.hid (fun w' hc => by
    have b0 := hc.at_ B0.out (by simp)
    have b1 := hc.at_ B1.out (by simp)
    exact ⟨cell_of b0 0, cell_of b0 1, cell_of b0 2, cell_of b0 3, cell_of b0 4, cell_of b0 5, cell_of b0 6, cell_of b1 0, cell_of b1 1, cell_of b1 2, cell_of b1 3, cell_of b1 4, cell_of b1 5, cell_of b1 6⟩)
  refine' join5 (F := fun (X Y : EvT) (p q : Nat) (w7 : World) => Hid (EvR w7 X e) ∧ Hid (EvR w7 Y f) ∧ Hid (w7.heap[p]? = some (.cells #[.int .i64 X.n, .int .i64 X.s, .string X.p, .int .i64 X.k, .int .i64 X.m, .slice X.A X.l X.c, .slice X.B X.bl X.bc] 29)) ∧ Hid (w7.heap[q]? = some (.cells #[.int .i64 Y.n, .int .i64 Y.s, .string Y.p, .int .i64 Y.k, .int .i64 Y.m, .slice Y.A Y.l Y.c, .slice Y.B Y.bl Y.bc] 29)) ∧ Hid (Chg [] w3 w7)) (R := _) (fun JOIN => ?leaf) ?rest
  case leaf =>
    refine wp_region_held_drew (S := fun w' => w'.cell? ⟨g0, 0, none⟩ = some (.int .i64 x.n) ∧ w'.cell? ⟨g0, 1, none⟩ = some (.int .i64 x.s) ∧ w'.cell? ⟨g0, 2, none⟩ = some (.string x.p) ∧ w'.cell? ⟨g0, 3, none⟩ = some (.int .i64 x.k) ∧ w'.cell? ⟨g0, 4, none⟩ = some (.int .i64 x.m) ∧ w'.cell? ⟨g0, 5, none⟩ = some (.slice x.A x.l x.c) ∧ w'.cell? ⟨g0, 6, none⟩ = some (.slice x.B x.bl x.bc) ∧ w'.cell? ⟨g1, 0, none⟩ = some (.int .i64 y.n) ∧ w'.cell? ⟨g1, 1, none⟩ = some (.int .i64 y.s) ∧ w'.cell? ⟨g1, 2, none⟩ = some (.string y.p) ∧ w'.cell? ⟨g1, 3, none⟩ = some (.int .i64 y.k) ∧ w'.cell? ⟨g1, 4, none⟩ = some (.int .i64 y.m) ∧ w'.cell? ⟨g1, 5, none⟩ = some (.slice y.A y.l y.c) ∧ w'.cell? ⟨g1, 6, none⟩ = some (.slice y.B y.bl y.bc)) (by kernel_rfl) (DX.out _ (Chg.refl [] w3).drew) (fun hHeld => ?_)
    have CC : Hid (Chg [] w3 w3.drew) := Lib.hid (Chg.refl [] w3).drew
    clear hHeld
    obtain ⟨wc, hwc⟩ : ∃ wc, w3.drew = wc := ⟨_, rfl⟩
    rw [hwc] at CC ⊢
    clear hwc
    refine sy 0 16 rfl rfl ?_ (hS := (DX.out _ CC.out)) (hy := by (intro w hSw; (try dsimp only at hSw); obtain ⟨q0, q1, q2, q3, q4, q5, q6, q7, q8, q9, q10, q11, q12, q13⟩ := hSw; go_simp; try with_reducible rfl))
    try simp only [Act.put, sA, s0, s1]
    refine sy 2 18 rfl rfl ?_ (hS := (DX.out _ CC.out)) (hy := by (intro w hSw; (try dsimp only at hSw); obtain ⟨q0, q1, q2, q3, q4, q5, q6, q7, q8, q9, q10, q11, q12, q13⟩ := hSw; go_simp; try with_reducible rfl))
    try simp only [Act.put, sA, s0, s1]
    refine wpAnyH_ready (rs := [1, 4, 5]) (by kernel_rfl) (by simp) ?_
    refine AllReadyH.cons rfl (fun K hK => ?_) (AllReadyH.cons rfl (fun K hK => ?_) (AllReadyH.cons rfl (fun K hK => ?_) AllReadyH.nil))
    · skip
      replace hK := Lib.hid hK
      go_simp
      refine (copyev_x wc x e (HX.out.chg CC.out) ⟨SX.out.1.2.1, SX.out.2⟩).mono ?_
      rintro r wc ⟨X, rfl, hX, hA, hB, hnA, hnB, hne, hc⟩
      have RX := Lib.hid hX
      have LX : Hid (∀ a : Addr, X.A = some a ∨ X.B = some a → a.block < wc.heap.size) := Lib.hid (fun a ha => ha.elim (hA.lt8_ a) (hB.lt_ a))
      replace CC := Lib.hid (CC.out.trans hc)
      clear hX hA hB hnA hnB hne hc
      refine hK.out _ _ (DX.out _ CC.out) (fun hHeld => ?_)
      clear hK K
      try simp only [Act.put, sA, s0, s1]
      refine wpAnyH_ready (rs := [3, 4, 5]) (by kernel_rfl) (by simp) ?_
      refine AllReadyH.cons rfl (fun K hK => ?_) (AllReadyH.cons rfl (fun K hK => ?_) (AllReadyH.cons rfl (fun K hK => ?_) AllReadyH.nil))
      · skip
        replace hK := Lib.hid hK
        go_simp
        refine (copyev_x wc y f (HY.out.chg CC.out) ⟨SY.out.1.2.1, SY.out.2⟩).mono ?_
        rintro r wc ⟨Y, rfl, hX, hA, hB, hnA, hnB, hne, hc⟩
        have RY := Lib.hid hX
        have LY : Hid (∀ a : Addr, Y.A = some a ∨ Y.B = some a → a.block < wc.heap.size) := Lib.hid (fun a ha => ha.elim (hA.lt8_ a) (hB.lt_ a))
        replace RX := Lib.hid (RX.out.chg hc)
        replace LX := Lib.hid (fun (a : Addr) ha => Nat.lt_of_lt_of_le (LX.out a ha) hc.size)
        replace CC := Lib.hid (CC.out.trans hc)
        clear hX hA hB hnA hnB hne hc
        refine hK.out _ _ (DX.out _ CC.out) (fun hHeld => ?_)
        clear hK K
        try simp only [Act.put, sA, s0, s1]
        refine wpAnyH_ready (rs := [4, 5]) (by kernel_rfl) (by simp) ?_
        refine AllReadyH.cons rfl (fun K hK => ?_) (AllReadyH.cons rfl (fun K hK => ?_) AllReadyH.nil)
        · skip
          replace hK := Lib.hid hK
          go_simp
          obtain ⟨p, hp⟩ : ∃ n, n = wc.heap.size := ⟨_, rfl⟩
          have XP : Hid (∀ a : Addr, X.A = some a ∨ X.B = some a → a.block ≠ p) := Lib.hid (fun a ha => by have := LX.out a ha; omega)
          have YP : Hid (∀ a : Addr, Y.A = some a ∨ Y.B = some a → a.block ≠ p) := Lib.hid (fun a ha => by have := LY.out a ha; omega)
          have GP : Hid (w3.heap.size ≤ p) := Lib.hid (by have := CC.out.size; omega)
          obtain ⟨wc, hw, cn, bn⟩ := news1 wc (.cells #[.int .i64 0, .int .i64 0, .string ⟨#[]⟩, .int .i64 0, .int .i64 0, .slice none 0 0, .slice none 0 0] 29)
          rw [← hw, ← hp]
          rw [← hp] at bn
          replace RX := Lib.hid (RX.out.chg cn)
          replace LX := Lib.hid (fun (a : Addr) ha => Nat.lt_of_lt_of_le (LX.out a ha) cn.size)
          replace RY := Lib.hid (RY.out.chg cn)
          replace LY := Lib.hid (fun (a : Addr) ha => Nat.lt_of_lt_of_le (LY.out a ha) cn.size)
          have BP := Lib.hid bn
          have LP : Hid (p < wc.heap.size) := Lib.hid (lt_of_heap bn)
          replace CC := Lib.hid (CC.out.trans cn)
          clear hw hp cn bn
          refine hK.out _ _ (DX.out _ CC.out) (fun hHeld => ?_)
          clear hK K
          try simp only [Act.put, sA, s0, s1]
          refine wpAnyH_ready (rs := [5]) (by kernel_rfl) (by simp) ?_
          refine AllReadyH.cons rfl (fun K hK => ?_) AllReadyH.nil
          replace hK := Lib.hid hK
          go_simp
          obtain ⟨q, hp⟩ : ∃ n, n = wc.heap.size := ⟨_, rfl⟩
          have XQ : Hid (∀ a : Addr, X.A = some a ∨ X.B = some a → a.block ≠ q) := Lib.hid (fun a ha => by have := LX.out a ha; omega)
          have YQ : Hid (∀ a : Addr, Y.A = some a ∨ Y.B = some a → a.block ≠ q) := Lib.hid (fun a ha => by have := LY.out a ha; omega)
          have NE : Hid (¬ p = q) := Lib.hid (by have := LP.out; omega)
          have GQ : Hid (w3.heap.size ≤ q) := Lib.hid (by have := CC.out.size; omega)
          obtain ⟨wc, hw, cn, bn⟩ := news1 wc (.cells #[.int .i64 0, .int .i64 0, .string ⟨#[]⟩, .int .i64 0, .int .i64 0, .slice none 0 0, .slice none 0 0] 29)
          rw [← hw, ← hp]
          rw [← hp] at bn
          replace BP := Lib.hid (cn.at_ BP.out (by simp))
          replace LP := Lib.hid (Nat.lt_of_lt_of_le LP.out cn.size)
          replace RX := Lib.hid (RX.out.chg cn)
          replace LX := Lib.hid (fun (a : Addr) ha => Nat.lt_of_lt_of_le (LX.out a ha) cn.size)
          replace RY := Lib.hid (RY.out.chg cn)
          replace LY := Lib.hid (fun (a : Addr) ha => Nat.lt_of_lt_of_le (LY.out a ha) cn.size)
          have BQ := Lib.hid bn
          have LQ : Hid (q < wc.heap.size) := Lib.hid (lt_of_heap bn)
          replace CC := Lib.hid (CC.out.trans cn)
          clear hw hp cn bn
          refine hK.out _ _ (DX.out _ CC.out) (fun hHeld => ?_)
          clear hK K
          try simp only [Act.put, sA, s0, s1]
          refine wpAnyH_ready (rs := [6]) (by kernel_rfl) (by simp) ?_
          refine AllReadyH.cons rfl (fun K hK => ?_) AllReadyH.nil
          replace hK := Lib.hid hK
          have npq : ¬ p = q := NE.out
          have nqp : ¬ q = p := fun h => npq h.symm
          have f0 := free_of BP.out 0
          have f1 := free_of BP.out 1
          have f2 := free_of BP.out 2
          have f3 := free_of BP.out 3
          have f4 := free_of BP.out 4
          have f5 := free_of BP.out 5
          have f6 := free_of BP.out 6
          have v0 := cell_of BP.out 0
          have v1 := cell_of BP.out 1
          have v2 := cell_of BP.out 2
          have v3 := cell_of BP.out 3
          have v4 := cell_of BP.out 4
          have v5 := cell_of BP.out 5
          have v6 := cell_of BP.out 6
          simp only [List.getElem?_toArray, List.getElem?_cons_succ, List.getElem?_cons_zero] at v0 v1 v2 v3 v4 v5 v6
          go_simp
          clear f0 v0 f1 v1 f2 v2 f3 v3 f4 v4 f5 v5 f6 v6
          obtain ⟨bk, ok, ck⟩ := setC7 (.int .i64 X.n) (.int .i64 X.s) (.string X.p) (.int .i64 X.k) (.int .i64 X.m) (.slice X.A X.l X.c) (.slice X.B X.bl X.bc) BP.out
          replace BP := Lib.hid bk
          replace BQ := Lib.hid (ok _ _ npq BQ.out)
          replace RX := Lib.hid (RX.out.chgS ck (fun a ha => by simp; exact XP.out a (.inl ha)) (fun a ha => by simp; exact XP.out a (.inr ha)))
          replace RY := Lib.hid (RY.out.chgS ck (fun a ha => by simp; exact YP.out a (.inl ha)) (fun a ha => by simp; exact YP.out a (.inr ha)))
          replace CC := Lib.hid (CC.out.trans' ck (fun i hi => .inr (by have := GP.out; simp at hi; omega)))
          clear bk ok ck
          obtain ⟨wc, hwc⟩ : ∃ w9 : World, w9 = (((((((wc.setCell ⟨p, 0, none⟩ (.int .i64 X.n)).setCell ⟨p, 1, none⟩ (.int .i64 X.s)).setCell ⟨p, 2, none⟩ (.string X.p)).setCell ⟨p, 3, none⟩ (.int .i64 X.k)).setCell ⟨p, 4, none⟩ (.int .i64 X.m)).setCell ⟨p, 5, none⟩ (.slice X.A X.l X.c)).setCell ⟨p, 6, none⟩ (.slice X.B X.bl X.bc)) := ⟨_, rfl⟩
          rw [← hwc] at BP BQ RX RY CC ⊢
          clear hwc
          refine hK.out _ _ (DX.out _ CC.out) (fun hHeld => ?_)
          clear hK K
          try simp only [Act.put, sA, s0, s1]
          refine wpAnyH_ready (rs := [7]) (by kernel_rfl) (by simp) ?_
          refine AllReadyH.cons rfl (fun K hK => ?_) AllReadyH.nil
          replace hK := Lib.hid hK
          have f0 := free_of BQ.out 0
          have f1 := free_of BQ.out 1
          have f2 := free_of BQ.out 2
          have f3 := free_of BQ.out 3
          have f4 := free_of BQ.out 4
          have f5 := free_of BQ.out 5
          have f6 := free_of BQ.out 6
          have v0 := cell_of BQ.out 0
          have v1 := cell_of BQ.out 1
          have v2 := cell_of BQ.out 2
          have v3 := cell_of BQ.out 3
          have v4 := cell_of BQ.out 4
          have v5 := cell_of BQ.out 5
          have v6 := cell_of BQ.out 6
          simp only [List.getElem?_toArray, List.getElem?_cons_succ, List.getElem?_cons_zero] at v0 v1 v2 v3 v4 v5 v6
          go_simp
          clear f0 v0 f1 v1 f2 v2 f3 v3 f4 v4 f5 v5 f6 v6
          obtain ⟨bk, ok, ck⟩ := setC7 (.int .i64 Y.n) (.int .i64 Y.s) (.string Y.p) (.int .i64 Y.k) (.int .i64 Y.m) (.slice Y.A Y.l Y.c) (.slice Y.B Y.bl Y.bc) BQ.out
          replace BQ := Lib.hid bk
          replace BP := Lib.hid (ok _ _ nqp BP.out)
          replace RX := Lib.hid (RX.out.chgS ck (fun a ha => by simp; exact XQ.out a (.inl ha)) (fun a ha => by simp; exact XQ.out a (.inr ha)))
          replace RY := Lib.hid (RY.out.chgS ck (fun a ha => by simp; exact YQ.out a (.inl ha)) (fun a ha => by simp; exact YQ.out a (.inr ha)))
          replace CC := Lib.hid (CC.out.trans' ck (fun i hi => .inr (by have := GQ.out; simp at hi; omega)))
          clear bk ok ck
          obtain ⟨wc, hwc⟩ : ∃ w9 : World, w9 = (((((((wc.setCell ⟨q, 0, none⟩ (.int .i64 Y.n)).setCell ⟨q, 1, none⟩ (.int .i64 Y.s)).setCell ⟨q, 2, none⟩ (.string Y.p)).setCell ⟨q, 3, none⟩ (.int .i64 Y.k)).setCell ⟨q, 4, none⟩ (.int .i64 Y.m)).setCell ⟨q, 5, none⟩ (.slice Y.A Y.l Y.c)).setCell ⟨q, 6, none⟩ (.slice Y.B Y.bl Y.bc)) := ⟨_, rfl⟩
          rw [← hwc] at BP BQ RX RY CC ⊢
          clear hwc
          refine hK.out _ _ (DX.out _ CC.out) (fun hHeld => ?_)
          clear hK K
          try simp only [Act.put, sA, s0, s1]
          refine wpAnyH_done (by kernel_rfl) ?_ _
          clear hHeld
          exact JOIN X Y p q _ ⟨RX, RY, BP, BQ, CC⟩
        · skip
          replace hK := Lib.hid hK
          go_simp
          obtain ⟨q, hp⟩ : ∃ n, n = wc.heap.size := ⟨_, rfl⟩
          have XQ : Hid (∀ a : Addr, X.A = some a ∨ X.B = some a → a.block ≠ q) := Lib.hid (fun a ha => by have := LX.out a ha; omega)
          have YQ : Hid (∀ a : Addr, Y.A = some a ∨ Y.B = some a → a.block ≠ q) := Lib.hid (fun a ha => by have := LY.out a ha; omega)
          have GQ : Hid (w3.heap.size ≤ q) := Lib.hid (by have := CC.out.size; omega)
          obtain ⟨wc, hw, cn, bn⟩ := news1 wc (.cells #[.int .i64 0, .int .i64 0, .string ⟨#[]⟩, .int .i64 0, .int .i64 0, .slice none 0 0, .slice none 0 0] 29)
          rw [← hw, ← hp]
          rw [← hp] at bn
          replace RX := Lib.hid (RX.out.chg cn)
          replace LX := Lib.hid (fun (a : Addr) ha => Nat.lt_of_lt_of_le (LX.out a ha) cn.size)
          replace RY := Lib.hid (RY.out.chg cn)
          replace LY := Lib.hid (fun (a : Addr) ha => Nat.lt_of_lt_of_le (LY.out a ha) cn.size)
          have BQ := Lib.hid bn
          have LQ : Hid (q < wc.heap.size) := Lib.hid (lt_of_heap bn)
          replace CC := Lib.hid (CC.out.trans cn)
          clear hw hp cn bn
          refine hK.out _ _ (DX.out _ CC.out) (fun hHeld => ?_)
          clear hK K
          try simp only [Act.put, sA, s0, s1]
          refine wpAnyH_ready (rs := [4]) (by kernel_rfl) (by simp) ?_
          refine AllReadyH.cons rfl (fun K hK => ?_) AllReadyH.nil
          replace hK := Lib.hid hK
          go_simp
          obtain ⟨p, hp⟩ : ∃ n, n = wc.heap.size := ⟨_, rfl⟩
          have XP : Hid (∀ a : Addr, X.A = some a ∨ X.B = some a → a.block ≠ p) := Lib.hid (fun a ha => by have := LX.out a ha; omega)
          have YP : Hid (∀ a : Addr, Y.A = some a ∨ Y.B = some a → a.block ≠ p) := Lib.hid (fun a ha => by have := LY.out a ha; omega)
          have NE : Hid (¬ p = q) := Lib.hid (by have := LQ.out; omega)
          have GP : Hid (w3.heap.size ≤ p) := Lib.hid (by have := CC.out.size; omega)
          obtain ⟨wc, hw, cn, bn⟩ := news1 wc (.cells #[.int .i64 0, .int .i64 0, .string ⟨#[]⟩, .int .i64 0, .int .i64 0, .slice none 0 0, .slice none 0 0] 29)
          rw [← hw, ← hp]
          rw [← hp] at bn
          replace BQ := Lib.hid (cn.at_ BQ.out (by simp))
          replace LQ := Lib.hid (Nat.lt_of_lt_of_le LQ.out cn.size)
          replace RX := Lib.hid (RX.out.chg cn)
          replace LX := Lib.hid (fun (a : Addr) ha => Nat.lt_of_lt_of_le (LX.out a ha) cn.size)
          replace RY := Lib.hid (RY.out.chg cn)
          replace LY := Lib.hid (fun (a : Addr) ha => Nat.lt_of_lt_of_le (LY.out a ha) cn.size)
          have BP := Lib.hid bn
          have LP : Hid (p < wc.heap.size) := Lib.hid (lt_of_heap bn)
          replace CC := Lib.hid (CC.out.trans cn)
          clear hw hp cn bn
          refine hK.out _ _ (DX.out _ CC.out) (fun hHeld => ?_)
          clear hK K
          try simp only [Act.put, sA, s0, s1]
          refine wpAnyH_ready (rs := [6]) (by kernel_rfl) (by simp) ?_
          refine AllReadyH.cons rfl (fun K hK => ?_) AllReadyH.nil
          replace hK := Lib.hid hK
          have npq : ¬ p = q := NE.out
          have nqp : ¬ q = p := fun h => npq h.symm
          have f0 := free_of BP.out 0
          have f1 := free_of BP.out 1
          have f2 := free_of BP.out 2
          have f3 := free_of BP.out 3
          have f4 := free_of BP.out 4
          have f5 := free_of BP.out 5
          have f6 := free_of BP.out 6
          have v0 := cell_of BP.out 0
          have v1 := cell_of BP.out 1
          have v2 := cell_of BP.out 2
          have v3 := cell_of BP.out 3
          have v4 := cell_of BP.out 4
          have v5 := cell_of BP.out 5
          have v6 := cell_of BP.out 6
          simp only [List.getElem?_toArray, List.getElem?_cons_succ, List.getElem?_cons_zero] at v0 v1 v2 v3 v4 v5 v6
          go_simp
          clear f0 v0 f1 v1 f2 v2 f3 v3 f4 v4 f5 v5 f6 v6
          obtain ⟨bk, ok, ck⟩ := setC7 (.int .i64 X.n) (.int .i64 X.s) (.string X.p) (.int .i64 X.k) (.int .i64 X.m) (.slice X.A X.l X.c) (.slice X.B X.bl X.bc) BP.out
          replace BP := Lib.hid bk
          replace BQ := Lib.hid (ok _ _ npq BQ.out)
          replace RX := Lib.hid (RX.out.chgS ck (fun a ha => by simp; exact XP.out a (.inl ha)) (fun a ha => by simp; exact XP.out a (.inr ha)))
          replace RY := Lib.hid (RY.out.chgS ck (fun a ha => by simp; exact YP.out a (.inl ha)) (fun a ha => by simp; exact YP.out a (.inr ha)))
          replace CC := Lib.hid (CC.out.trans' ck (fun i hi => .inr (by have := GP.out; simp at hi; omega)))
          clear bk ok ck
          obtain ⟨wc, hwc⟩ : ∃ w9 : World, w9 = (((((((wc.setCell ⟨p, 0, none⟩ (.int .i64 X.n)).setCell ⟨p, 1, none⟩ (.int .i64 X.s)).setCell ⟨p, 2, none⟩ (.string X.p)).setCell ⟨p, 3, none⟩ (.int .i64 X.k)).setCell ⟨p, 4, none⟩ (.int .i64 X.m)).setCell ⟨p, 5, none⟩ (.slice X.A X.l X.c)).setCell ⟨p, 6, none⟩ (.slice X.B X.bl X.bc)) := ⟨_, rfl⟩
          rw [← hwc] at BP BQ RX RY CC ⊢
          clear hwc
          refine hK.out _ _ (DX.out _ CC.out) (fun hHeld => ?_)
          clear hK K
          try simp only [Act.put, sA, s0, s1]
          refine wpAnyH_ready (rs := [7]) (by kernel_rfl) (by simp) ?_
          refine AllReadyH.cons rfl (fun K hK => ?_) AllReadyH.nil
          replace hK := Lib.hid hK
          have f0 := free_of BQ.out 0
          have f1 := free_of BQ.out 1
          have f2 := free_of BQ.out 2
          have f3 := free_of BQ.out 3
          have f4 := free_of BQ.out 4
          have f5 := free_of BQ.out 5
          have f6 := free_of BQ.out 6
          have v0 := cell_of BQ.out 0
          have v1 := cell_of BQ.out 1
          have v2 := cell_of BQ.out 2
          have v3 := cell_of BQ.out 3
          have v4 := cell_of BQ.out 4
          have v5 := cell_of BQ.out 5
          have v6 := cell_of BQ.out 6
          simp only [List.getElem?_toArray, List.getElem?_cons_succ, List.getElem?_cons_zero] at v0 v1 v2 v3 v4 v5 v6
          go_simp
          clear f0 v0 f1 v1 f2 v2 f3 v3 f4 v4 f5 v5 f6 v6
          obtain ⟨bk, ok, ck⟩ := setC7 (.int .i64 Y.n) (.int .i64 Y.s) (.string Y.p) (.int .i64 Y.k) (.int .i64 Y.m) (.slice Y.A Y.l Y.c) (.slice Y.B Y.bl Y.bc) BQ.out
          replace BQ := Lib.hid bk
          replace BP := Lib.hid (ok _ _ nqp BP.out)
          replace RX := Lib.hid (RX.out.chgS ck (fun a ha => by simp; exact XQ.out a (.inl ha)) (fun a ha => by simp; exact XQ.out a (.inr ha)))
          replace RY := Lib.hid (RY.out.chgS ck (fun a ha => by simp; exact YQ.out a (.inl ha)) (fun a ha => by simp; exact YQ.out a (.inr ha)))
          replace CC := Lib.hid (CC.out.trans' ck (fun i hi => .inr (by have := GQ.out; simp at hi; omega)))
          clear bk ok ck
          obtain ⟨wc, hwc⟩ : ∃ w9 : World, w9 = (((((((wc.setCell ⟨q, 0, none⟩ (.int .i64 Y.n)).setCell ⟨q, 1, none⟩ (.int .i64 Y.s)).setCell ⟨q, 2, none⟩ (.string Y.p)).setCell ⟨q, 3, none⟩ (.int .i64 Y.k)).setCell ⟨q, 4, none⟩ (.int .i64 Y.m)).setCell ⟨q, 5, none⟩ (.slice Y.A Y.l Y.c)).setCell ⟨q, 6, none⟩ (.slice Y.B Y.bl Y.bc)) := ⟨_, rfl⟩
          rw [← hwc] at BP BQ RX RY CC ⊢
          clear hwc
          refine hK.out _ _ (DX.out _ CC.out) (fun hHeld => ?_)
          clear hK K
          try simp only [Act.put, sA, s0, s1]
          refine wpAnyH_done (by kernel_rfl) ?_ _
          clear hHeld
          exact JOIN X Y p q _ ⟨RX, RY, BP, BQ, CC⟩
      · skip
        replace hK := Lib.hid hK
        go_simp
        obtain ⟨p, hp⟩ : ∃ n, n = wc.heap.size := ⟨_, rfl⟩
        have XP : Hid (∀ a : Addr, X.A = some a ∨ X.B = some a → a.block ≠ p) := Lib.hid (fun a ha => by have := LX.out a ha; omega)
        have GP : Hid (w3.heap.size ≤ p) := Lib.hid (by have := CC.out.size; omega)
        obtain ⟨wc, hw, cn, bn⟩ := news1 wc (.cells #[.int .i64 0, .int .i64 0, .string ⟨#[]⟩, .int .i64 0, .int .i64 0, .slice none 0 0, .slice none 0 0] 29)
        rw [← hw, ← hp]
        rw [← hp] at bn
        replace RX := Lib.hid (RX.out.chg cn)
        replace LX := Lib.hid (fun (a : Addr) ha => Nat.lt_of_lt_of_le (LX.out a ha) cn.size)
        have BP := Lib.hid bn
        have LP : Hid (p < wc.heap.size) := Lib.hid (lt_of_heap bn)
        replace CC := Lib.hid (CC.out.trans cn)
        clear hw hp cn bn
        refine hK.out _ _ (DX.out _ CC.out) (fun hHeld => ?_)
        clear hK K
        try simp only [Act.put, sA, s0, s1]
        refine wpAnyH_ready (rs := [3, 5]) (by kernel_rfl) (by simp) ?_
        refine AllReadyH.cons rfl (fun K hK => ?_) (AllReadyH.cons rfl (fun K hK => ?_) AllReadyH.nil)
        · skip
          replace hK := Lib.hid hK
          go_simp
          refine (copyev_x wc y f (HY.out.chg CC.out) ⟨SY.out.1.2.1, SY.out.2⟩).mono ?_
          rintro r wc ⟨Y, rfl, hX, hA, hB, hnA, hnB, hne, hc⟩
          have RY := Lib.hid hX
          have LY : Hid (∀ a : Addr, Y.A = some a ∨ Y.B = some a → a.block < wc.heap.size) := Lib.hid (fun a ha => ha.elim (hA.lt8_ a) (hB.lt_ a))
          have YP : Hid (∀ a : Addr, Y.A = some a ∨ Y.B = some a → a.block ≠ p) := Lib.hid (fun a ha => by have h1 := ha.elim (hnA a) (hnB a); have h2 := LP.out; omega)
          replace BP := Lib.hid (hc.at_ BP.out (by simp))
          replace LP := Lib.hid (Nat.lt_of_lt_of_le LP.out hc.size)
          replace RX := Lib.hid (RX.out.chg hc)
          replace LX := Lib.hid (fun (a : Addr) ha => Nat.lt_of_lt_of_le (LX.out a ha) hc.size)
          replace CC := Lib.hid (CC.out.trans hc)
          clear hX hA hB hnA hnB hne hc
          refine hK.out _ _ (DX.out _ CC.out) (fun hHeld => ?_)
          clear hK K
          try simp only [Act.put, sA, s0, s1]
          refine wpAnyH_ready (rs := [5]) (by kernel_rfl) (by simp) ?_
          refine AllReadyH.cons rfl (fun K hK => ?_) AllReadyH.nil
          replace hK := Lib.hid hK
          go_simp
          obtain ⟨q, hp⟩ : ∃ n, n = wc.heap.size := ⟨_, rfl⟩
          have XQ : Hid (∀ a : Addr, X.A = some a ∨ X.B = some a → a.block ≠ q) := Lib.hid (fun a ha => by have := LX.out a ha; omega)
          have YQ : Hid (∀ a : Addr, Y.A = some a ∨ Y.B = some a → a.block ≠ q) := Lib.hid (fun a ha => by have := LY.out a ha; omega)
          have NE : Hid (¬ p = q) := Lib.hid (by have := LP.out; omega)
          have GQ : Hid (w3.heap.size ≤ q) := Lib.hid (by have := CC.out.size; omega)
          obtain ⟨wc, hw, cn, bn⟩ := news1 wc (.cells #[.int .i64 0, .int .i64 0, .string ⟨#[]⟩, .int .i64 0, .int .i64 0, .slice none 0 0, .slice none 0 0] 29)
          rw [← hw, ← hp]
          rw [← hp] at bn
          replace BP := Lib.hid (cn.at_ BP.out (by simp))
          replace LP := Lib.hid (Nat.lt_of_lt_of_le LP.out cn.size)
          replace RX := Lib.hid (RX.out.chg cn)
          replace LX := Lib.hid (fun (a : Addr) ha => Nat.lt_of_lt_of_le (LX.out a ha) cn.size)
          replace RY := Lib.hid (RY.out.chg cn)
          replace LY := Lib.hid (fun (a : Addr) ha => Nat.lt_of_lt_of_le (LY.out a ha) cn.size)
          have BQ := Lib.hid bn
          have LQ : Hid (q < wc.heap.size) := Lib.hid (lt_of_heap bn)
          replace CC := Lib.hid (CC.out.trans cn)
          clear hw hp cn bn
          refine hK.out _ _ (DX.out _ CC.out) (fun hHeld => ?_)
          clear hK K
          try simp only [Act.put, sA, s0, s1]
          refine wpAnyH_ready (rs := [6]) (by kernel_rfl) (by simp) ?_
          refine AllReadyH.cons rfl (fun K hK => ?_) AllReadyH.nil
          replace hK := Lib.hid hK
          have npq : ¬ p = q := NE.out
          have nqp : ¬ q = p := fun h => npq h.symm
          have f0 := free_of BP.out 0
          have f1 := free_of BP.out 1
          have f2 := free_of BP.out 2
          have f3 := free_of BP.out 3
          have f4 := free_of BP.out 4
          have f5 := free_of BP.out 5
          have f6 := free_of BP.out 6
          have v0 := cell_of BP.out 0
          have v1 := cell_of BP.out 1
          have v2 := cell_of BP.out 2
          have v3 := cell_of BP.out 3
          have v4 := cell_of BP.out 4
          have v5 := cell_of BP.out 5
          have v6 := cell_of BP.out 6
          simp only [List.getElem?_toArray, List.getElem?_cons_succ, List.getElem?_cons_zero] at v0 v1 v2 v3 v4 v5 v6
          go_simp
          clear f0 v0 f1 v1 f2 v2 f3 v3 f4 v4 f5 v5 f6 v6
          obtain ⟨bk, ok, ck⟩ := setC7 (.int .i64 X.n) (.int .i64 X.s) (.string X.p) (.int .i64 X.k) (.int .i64 X.m) (.slice X.A X.l X.c) (.slice X.B X.bl X.bc) BP.out
          replace BP := Lib.hid bk
          replace BQ := Lib.hid (ok _ _ npq BQ.out)
          replace RX := Lib.hid (RX.out.chgS ck (fun a ha => by simp; exact XP.out a (.inl ha)) (fun a ha => by simp; exact XP.out a (.inr ha)))
          replace RY := Lib.hid (RY.out.chgS ck (fun a ha => by simp; exact YP.out a (.inl ha)) (fun a ha => by simp; exact YP.out a (.inr ha)))
          replace CC := Lib.hid (CC.out.trans' ck (fun i hi => .inr (by have := GP.out; simp at hi; omega)))
          clear bk ok ck
          obtain ⟨wc, hwc⟩ : ∃ w9 : World, w9 = (((((((wc.setCell ⟨p, 0, none⟩ (.int .i64 X.n)).setCell ⟨p, 1, none⟩ (.int .i64 X.s)).setCell ⟨p, 2, none⟩ (.string X.p)).setCell ⟨p, 3, none⟩ (.int .i64 X.k)).setCell ⟨p, 4, none⟩ (.int .i64 X.m)).setCell ⟨p, 5, none⟩ (.slice X.A X.l X.c)).setCell ⟨p, 6, none⟩ (.slice X.B X.bl X.bc)) := ⟨_, rfl⟩
          rw [← hwc] at BP BQ RX RY CC ⊢
          clear hwc
          refine hK.out _ _ (DX.out _ CC.out) (fun hHeld => ?_)
          clear hK K
          try simp only [Act.put, sA, s0, s1]
          refine wpAnyH_ready (rs := [7]) (by kernel_rfl) (by simp) ?_
          refine AllReadyH.cons rfl (fun K hK => ?_) AllReadyH.nil
          replace hK := Lib.hid hK
          have f0 := free_of BQ.out 0
          have f1 := free_of BQ.out 1
          have f2 := free_of BQ.out 2
          have f3 := free_of BQ.out 3
          have f4 := free_of BQ.out 4
          have f5 := free_of BQ.out 5
          have f6 := free_of BQ.out 6
          have v0 := cell_of BQ.out 0
          have v1 := cell_of BQ.out 1
          have v2 := cell_of BQ.out 2
          have v3 := cell_of BQ.out 3
          have v4 := cell_of BQ.out 4
          have v5 := cell_of BQ.out 5
          have v6 := cell_of BQ.out 6
          simp only [List.getElem?_toArray, List.getElem?_cons_succ, List.getElem?_cons_zero] at v0 v1 v2 v3 v4 v5 v6
          go_simp
          clear f0 v0 f1 v1 f2 v2 f3 v3 f4 v4 f5 v5 f6 v6
          obtain ⟨bk, ok, ck⟩ := setC7 (.int .i64 Y.n) (.int .i64 Y.s) (.string Y.p) (.int .i64 Y.k) (.int .i64 Y.m) (.slice Y.A Y.l Y.c) (.slice Y.B Y.bl Y.bc) BQ.out
          replace BQ := Lib.hid bk
          replace BP := Lib.hid (ok _ _ nqp BP.out)
          replace RX := Lib.hid (RX.out.chgS ck (fun a ha => by simp; exact XQ.out a (.inl ha)) (fun a ha => by simp; exact XQ.out a (.inr ha)))
          replace RY := Lib.hid (RY.out.chgS ck (fun a ha => by simp; exact YQ.out a (.inl ha)) (fun a ha => by simp; exact YQ.out a (.inr ha)))
          replace CC := Lib.hid (CC.out.trans' ck (fun i hi => .inr (by have := GQ.out; simp at hi; omega)))
          clear bk ok ck
          obtain ⟨wc, hwc⟩ : ∃ w9 : World, w9 = (((((((wc.setCell ⟨q, 0, none⟩ (.int .i64 Y.n)).setCell ⟨q, 1, none⟩ (.int .i64 Y.s)).setCell ⟨q, 2, none⟩ (.string Y.p)).setCell ⟨q, 3, none⟩ (.int .i64 Y.k)).setCell ⟨q, 4, none⟩ (.int .i64 Y.m)).setCell ⟨q, 5, none⟩ (.slice Y.A Y.l Y.c)).setCell ⟨q, 6, none⟩ (.slice Y.B Y.bl Y.bc)) := ⟨_, rfl⟩
          rw [← hwc] at BP BQ RX RY CC ⊢
          clear hwc
          refine hK.out _ _ (DX.out _ CC.out) (fun hHeld => ?_)
          clear hK K
          try simp only [Act.put, sA, s0, s1]
          refine wpAnyH_done (by kernel_rfl) ?_ _
          clear hHeld
          exact JOIN X Y p q _ ⟨RX, RY, BP, BQ, CC⟩
        · skip
          replace hK := Lib.hid hK
          go_simp
          obtain ⟨q, hp⟩ : ∃ n, n = wc.heap.size := ⟨_, rfl⟩
          have XQ : Hid (∀ a : Addr, X.A = some a ∨ X.B = some a → a.block ≠ q) := Lib.hid (fun a ha => by have := LX.out a ha; omega)
          have NE : Hid (¬ p = q) := Lib.hid (by have := LP.out; omega)
          have GQ : Hid (w3.heap.size ≤ q) := Lib.hid (by have := CC.out.size; omega)
          obtain ⟨wc, hw, cn, bn⟩ := news1 wc (.cells #[.int .i64 0, .int .i64 0, .string ⟨#[]⟩, .int .i64 0, .int .i64 0, .slice none 0 0, .slice none 0 0] 29)
          rw [← hw, ← hp]
          rw [← hp] at bn
          replace BP := Lib.hid (cn.at_ BP.out (by simp))
          replace LP := Lib.hid (Nat.lt_of_lt_of_le LP.out cn.size)
          replace RX := Lib.hid (RX.out.chg cn)
          replace LX := Lib.hid (fun (a : Addr) ha => Nat.lt_of_lt_of_le (LX.out a ha) cn.size)
          have BQ := Lib.hid bn
          have LQ : Hid (q < wc.heap.size) := Lib.hid (lt_of_heap bn)
          replace CC := Lib.hid (CC.out.trans cn)
          clear hw hp cn bn
          refine hK.out _ _ (DX.out _ CC.out) (fun hHeld => ?_)
          clear hK K
          try simp only [Act.put, sA, s0, s1]
          refine wpAnyH_ready (rs := [3]) (by kernel_rfl) (by simp) ?_
          refine AllReadyH.cons rfl (fun K hK => ?_) AllReadyH.nil
          replace hK := Lib.hid hK
          go_simp
          refine (copyev_x wc y f (HY.out.chg CC.out) ⟨SY.out.1.2.1, SY.out.2⟩).mono ?_
          rintro r wc ⟨Y, rfl, hX, hA, hB, hnA, hnB, hne, hc⟩
          have RY := Lib.hid hX
          have LY : Hid (∀ a : Addr, Y.A = some a ∨ Y.B = some a → a.block < wc.heap.size) := Lib.hid (fun a ha => ha.elim (hA.lt8_ a) (hB.lt_ a))
          have YP : Hid (∀ a : Addr, Y.A = some a ∨ Y.B = some a → a.block ≠ p) := Lib.hid (fun a ha => by have h1 := ha.elim (hnA a) (hnB a); have h2 := LP.out; omega)
          have YQ : Hid (∀ a : Addr, Y.A = some a ∨ Y.B = some a → a.block ≠ q) := Lib.hid (fun a ha => by have h1 := ha.elim (hnA a) (hnB a); have h2 := LQ.out; omega)
          replace BP := Lib.hid (hc.at_ BP.out (by simp))
          replace LP := Lib.hid (Nat.lt_of_lt_of_le LP.out hc.size)
          replace BQ := Lib.hid (hc.at_ BQ.out (by simp))
          replace LQ := Lib.hid (Nat.lt_of_lt_of_le LQ.out hc.size)
          replace RX := Lib.hid (RX.out.chg hc)
          replace LX := Lib.hid (fun (a : Addr) ha => Nat.lt_of_lt_of_le (LX.out a ha) hc.size)
          replace CC := Lib.hid (CC.out.trans hc)
          clear hX hA hB hnA hnB hne hc
          refine hK.out _ _ (DX.out _ CC.out) (fun hHeld => ?_)
          clear hK K
          try simp only [Act.put, sA, s0, s1]
          refine wpAnyH_ready (rs := [6]) (by kernel_rfl) (by simp) ?_
          refine AllReadyH.cons rfl (fun K hK => ?_) AllReadyH.nil
          replace hK := Lib.hid hK
          have npq : ¬ p = q := NE.out
          have nqp : ¬ q = p := fun h => npq h.symm
          have f0 := free_of BP.out 0
          have f1 := free_of BP.out 1
          have f2 := free_of BP.out 2
          have f3 := free_of BP.out 3
          have f4 := free_of BP.out 4
          have f5 := free_of BP.out 5
          have f6 := free_of BP.out 6
          have v0 := cell_of BP.out 0
          have v1 := cell_of BP.out 1
          have v2 := cell_of BP.out 2
          have v3 := cell_of BP.out 3
          have v4 := cell_of BP.out 4
          have v5 := cell_of BP.out 5
          have v6 := cell_of BP.out 6
          simp only [List.getElem?_toArray, List.getElem?_cons_succ, List.getElem?_cons_zero] at v0 v1 v2 v3 v4 v5 v6
          go_simp
          clear f0 v0 f1 v1 f2 v2 f3 v3 f4 v4 f5 v5 f6 v6
          obtain ⟨bk, ok, ck⟩ := setC7 (.int .i64 X.n) (.int .i64 X.s) (.string X.p) (.int .i64 X.k) (.int .i64 X.m) (.slice X.A X.l X.c) (.slice X.B X.bl X.bc) BP.out
          replace BP := Lib.hid bk
          replace BQ := Lib.hid (ok _ _ npq BQ.out)
          replace RX := Lib.hid (RX.out.chgS ck (fun a ha => by simp; exact XP.out a (.inl ha)) (fun a ha => by simp; exact XP.out a (.inr ha)))
          replace RY := Lib.hid (RY.out.chgS ck (fun a ha => by simp; exact YP.out a (.inl ha)) (fun a ha => by simp; exact YP.out a (.inr ha)))
          replace CC := Lib.hid (CC.out.trans' ck (fun i hi => .inr (by have := GP.out; simp at hi; omega)))
          clear bk ok ck
          obtain ⟨wc, hwc⟩ : ∃ w9 : World, w9 = (((((((wc.setCell ⟨p, 0, none⟩ (.int .i64 X.n)).setCell ⟨p, 1, none⟩ (.int .i64 X.s)).setCell ⟨p, 2, none⟩ (.string X.p)).setCell ⟨p, 3, none⟩ (.int .i64 X.k)).setCell ⟨p, 4, none⟩ (.int .i64 X.m)).setCell ⟨p, 5, none⟩ (.slice X.A X.l X.c)).setCell ⟨p, 6, none⟩ (.slice X.B X.bl X.bc)) := ⟨_, rfl⟩
          rw [← hwc] at BP BQ RX RY CC ⊢
          clear hwc
          refine hK.out _ _ (DX.out _ CC.out) (fun hHeld => ?_)
          clear hK K
          try simp only [Act.put, sA, s0, s1]
          refine wpAnyH_ready (rs := [7]) (by kernel_rfl) (by simp) ?_
          refine AllReadyH.cons rfl (fun K hK => ?_) AllReadyH.nil
          replace hK := Lib.hid hK
          have f0 := free_of BQ.out 0
          have f1 := free_of BQ.out 1
          have f2 := free_of BQ.out 2
          have f3 := free_of BQ.out 3
          have f4 := free_of BQ.out 4
          have f5 := free_of BQ.out 5
          have f6 := free_of BQ.out 6
          have v0 := cell_of BQ.out 0
          have v1 := cell_of BQ.out 1
          have v2 := cell_of BQ.out 2
          have v3 := cell_of BQ.out 3
          have v4 := cell_of BQ.out 4
          have v5 := cell_of BQ.out 5
          have v6 := cell_of BQ.out 6
          simp only [List.getElem?_toArray, List.getElem?_cons_succ, List.getElem?_cons_zero] at v0 v1 v2 v3 v4 v5 v6
          go_simp
          clear f0 v0 f1 v1 f2 v2 f3 v3 f4 v4 f5 v5 f6 v6
          obtain ⟨bk, ok, ck⟩ := setC7 (.int .i64 Y.n) (.int .i64 Y.s) (.string Y.p) (.int .i64 Y.k) (.int .i64 Y.m) (.slice Y.A Y.l Y.c) (.slice Y.B Y.bl Y.bc) BQ.out
          replace BQ := Lib.hid bk
          replace BP := Lib.hid (ok _ _ nqp BP.out)
          replace RX := Lib.hid (RX.out.chgS ck (fun a ha => by simp; exact XQ.out a (.inl ha)) (fun a ha => by simp; exact XQ.out a (.inr ha)))
          replace RY := Lib.hid (RY.out.chgS ck (fun a ha => by simp; exact YQ.out a (.inl ha)) (fun a ha => by simp; exact YQ.out a (.inr ha)))
          replace CC := Lib.hid (CC.out.trans' ck (fun i hi => .inr (by have := GQ.out; simp at hi; omega)))
          clear bk ok ck
          obtain ⟨wc, hwc⟩ : ∃ w9 : World, w9 = (((((((wc.setCell ⟨q, 0, none⟩ (.int .i64 Y.n)).setCell ⟨q, 1, none⟩ (.int .i64 Y.s)).setCell ⟨q, 2, none⟩ (.string Y.p)).setCell ⟨q, 3, none⟩ (.int .i64 Y.k)).setCell ⟨q, 4, none⟩ (.int .i64 Y.m)).setCell ⟨q, 5, none⟩ (.slice Y.A Y.l Y.c)).setCell ⟨q, 6, none⟩ (.slice Y.B Y.bl Y.bc)) := ⟨_, rfl⟩
          rw [← hwc] at BP BQ RX RY CC ⊢
          clear hwc
          refine hK.out _ _ (DX.out _ CC.out) (fun hHeld => ?_)
          clear hK K
          try simp only [Act.put, sA, s0, s1]
          refine wpAnyH_done (by kernel_rfl) ?_ _
          clear hHeld
          exact JOIN X Y p q _ ⟨RX, RY, BP, BQ, CC⟩
      · skip
        replace hK := Lib.hid hK
        go_simp
        obtain ⟨q, hp⟩ : ∃ n, n = wc.heap.size := ⟨_, rfl⟩
        have XQ : Hid (∀ a : Addr, X.A = some a ∨ X.B = some a → a.block ≠ q) := Lib.hid (fun a ha => by have := LX.out a ha; omega)
        have GQ : Hid (w3.heap.size ≤ q) := Lib.hid (by have := CC.out.size; omega)
        obtain ⟨wc, hw, cn, bn⟩ := news1 wc (.cells #[.int .i64 0, .int .i64 0, .string ⟨#[]⟩, .int .i64 0, .int .i64 0, .slice none 0 0, .slice none 0 0] 29)
        rw [← hw, ← hp]
        rw [← hp] at bn
        replace RX := Lib.hid (RX.out.chg cn)
        replace LX := Lib.hid (fun (a : Addr) ha => Nat.lt_of_lt_of_le (LX.out a ha) cn.size)
        have BQ := Lib.hid bn
        have LQ : Hid (q < wc.heap.size) := Lib.hid (lt_of_heap bn)
        replace CC := Lib.hid (CC.out.trans cn)
        clear hw hp cn bn
        refine hK.out _ _ (DX.out _ CC.out) (fun hHeld => ?_)
        clear hK K
        try simp only [Act.put, sA, s0, s1]
        refine wpAnyH_ready (rs := [3, 4]) (by kernel_rfl) (by simp) ?_
        refine AllReadyH.cons rfl (fun K hK => ?_) (AllReadyH.cons rfl (fun K hK => ?_) AllReadyH.nil)
        · skip
          replace hK := Lib.hid hK
          go_simp
          refine (copyev_x wc y f (HY.out.chg CC.out) ⟨SY.out.1.2.1, SY.out.2⟩).mono ?_
          rintro r wc ⟨Y, rfl, hX, hA, hB, hnA, hnB, hne, hc⟩
          have RY := Lib.hid hX
          have LY : Hid (∀ a : Addr, Y.A = some a ∨ Y.B = some a → a.block < wc.heap.size) := Lib.hid (fun a ha => ha.elim (hA.lt8_ a) (hB.lt_ a))
          have YQ : Hid (∀ a : Addr, Y.A = some a ∨ Y.B = some a → a.block ≠ q) := Lib.hid (fun a ha => by have h1 := ha.elim (hnA a) (hnB a); have h2 := LQ.out; omega)
          replace BQ := Lib.hid (hc.at_ BQ.out (by simp))
          replace LQ := Lib.hid (Nat.lt_of_lt_of_le LQ.out hc.size)
          replace RX := Lib.hid (RX.out.chg hc)
          replace LX := Lib.hid (fun (a : Addr) ha => Nat.lt_of_lt_of_le (LX.out a ha) hc.size)
          replace CC := Lib.hid (CC.out.trans hc)
          clear hX hA hB hnA hnB hne hc
          refine hK.out _ _ (DX.out _ CC.out) (fun hHeld => ?_)
          clear hK K
          try simp only [Act.put, sA, s0, s1]
          refine wpAnyH_ready (rs := [4]) (by kernel_rfl) (by simp) ?_
          refine AllReadyH.cons rfl (fun K hK => ?_) AllReadyH.nil
          replace hK := Lib.hid hK
          go_simp
          obtain ⟨p, hp⟩ : ∃ n, n = wc.heap.size := ⟨_, rfl⟩
          have XP : Hid (∀ a : Addr, X.A = some a ∨ X.B = some a → a.block ≠ p) := Lib.hid (fun a ha => by have := LX.out a ha; omega)
          have YP : Hid (∀ a : Addr, Y.A = some a ∨ Y.B = some a → a.block ≠ p) := Lib.hid (fun a ha => by have := LY.out a ha; omega)
          have NE : Hid (¬ p = q) := Lib.hid (by have := LQ.out; omega)
          have GP : Hid (w3.heap.size ≤ p) := Lib.hid (by have := CC.out.size; omega)
          obtain ⟨wc, hw, cn, bn⟩ := news1 wc (.cells #[.int .i64 0, .int .i64 0, .string ⟨#[]⟩, .int .i64 0, .int .i64 0, .slice none 0 0, .slice none 0 0] 29)
          rw [← hw, ← hp]
          rw [← hp] at bn
          replace BQ := Lib.hid (cn.at_ BQ.out (by simp))
          replace LQ := Lib.hid (Nat.lt_of_lt_of_le LQ.out cn.size)
          replace RX := Lib.hid (RX.out.chg cn)
          replace LX := Lib.hid (fun (a : Addr) ha => Nat.lt_of_lt_of_le (LX.out a ha) cn.size)
          replace RY := Lib.hid (RY.out.chg cn)
          replace LY := Lib.hid (fun (a : Addr) ha => Nat.lt_of_lt_of_le (LY.out a ha) cn.size)
          have BP := Lib.hid bn
          have LP : Hid (p < wc.heap.size) := Lib.hid (lt_of_heap bn)
          replace CC := Lib.hid (CC.out.trans cn)
          clear hw hp cn bn
          refine hK.out _ _ (DX.out _ CC.out) (fun hHeld => ?_)
          clear hK K
          try simp only [Act.put, sA, s0, s1]
          refine wpAnyH_ready (rs := [6]) (by kernel_rfl) (by simp) ?_
          refine AllReadyH.cons rfl (fun K hK => ?_) AllReadyH.nil
          replace hK := Lib.hid hK
          have npq : ¬ p = q := NE.out
          have nqp : ¬ q = p := fun h => npq h.symm
          have f0 := free_of BP.out 0
          have f1 := free_of BP.out 1
          have f2 := free_of BP.out 2
          have f3 := free_of BP.out 3
          have f4 := free_of BP.out 4
          have f5 := free_of BP.out 5
          have f6 := free_of BP.out 6
          have v0 := cell_of BP.out 0
          have v1 := cell_of BP.out 1
          have v2 := cell_of BP.out 2
          have v3 := cell_of BP.out 3
          have v4 := cell_of BP.out 4
          have v5 := cell_of BP.out 5
          have v6 := cell_of BP.out 6
          simp only [List.getElem?_toArray, List.getElem?_cons_succ, List.getElem?_cons_zero] at v0 v1 v2 v3 v4 v5 v6
          go_simp
          clear f0 v0 f1 v1 f2 v2 f3 v3 f4 v4 f5 v5 f6 v6
          obtain ⟨bk, ok, ck⟩ := setC7 (.int .i64 X.n) (.int .i64 X.s) (.string X.p) (.int .i64 X.k) (.int .i64 X.m) (.slice X.A X.l X.c) (.slice X.B X.bl X.bc) BP.out
          replace BP := Lib.hid bk
          replace BQ := Lib.hid (ok _ _ npq BQ.out)
          replace RX := Lib.hid (RX.out.chgS ck (fun a ha => by simp; exact XP.out a (.inl ha)) (fun a ha => by simp; exact XP.out a (.inr ha)))
          replace RY := Lib.hid (RY.out.chgS ck (fun a ha => by simp; exact YP.out a (.inl ha)) (fun a ha => by simp; exact YP.out a (.inr ha)))
          replace CC := Lib.hid (CC.out.trans' ck (fun i hi => .inr (by have := GP.out; simp at hi; omega)))
          clear bk ok ck
          obtain ⟨wc, hwc⟩ : ∃ w9 : World, w9 = (((((((wc.setCell ⟨p, 0, none⟩ (.int .i64 X.n)).setCell ⟨p, 1, none⟩ (.int .i64 X.s)).setCell ⟨p, 2, none⟩ (.string X.p)).setCell ⟨p, 3, none⟩ (.int .i64 X.k)).setCell ⟨p, 4, none⟩ (.int .i64 X.m)).setCell ⟨p, 5, none⟩ (.slice X.A X.l X.c)).setCell ⟨p, 6, none⟩ (.slice X.B X.bl X.bc)) := ⟨_, rfl⟩
          rw [← hwc] at BP BQ RX RY CC ⊢
          clear hwc
          refine hK.out _ _ (DX.out _ CC.out) (fun hHeld => ?_)
          clear hK K
          try simp only [Act.put, sA, s0, s1]
          refine wpAnyH_ready (rs := [7]) (by kernel_rfl) (by simp) ?_
          refine AllReadyH.cons rfl (fun K hK => ?_) AllReadyH.nil
          replace hK := Lib.hid hK
          have f0 := free_of BQ.out 0
          have f1 := free_of BQ.out 1
          have f2 := free_of BQ.out 2
          have f3 := free_of BQ.out 3
          have f4 := free_of BQ.out 4
          have f5 := free_of BQ.out 5
          have f6 := free_of BQ.out 6
          have v0 := cell_of BQ.out 0
          have v1 := cell_of BQ.out 1
          have v2 := cell_of BQ.out 2
          have v3 := cell_of BQ.out 3
          have v4 := cell_of BQ.out 4
          have v5 := cell_of BQ.out 5
          have v6 := cell_of BQ.out 6
          simp only [List.getElem?_toArray, List.getElem?_cons_succ, List.getElem?_cons_zero] at v0 v1 v2 v3 v4 v5 v6
          go_simp
          clear f0 v0 f1 v1 f2 v2 f3 v3 f4 v4 f5 v5 f6 v6
          obtain ⟨bk, ok, ck⟩ := setC7 (.int .i64 Y.n) (.int .i64 Y.s) (.string Y.p) (.int .i64 Y.k) (.int .i64 Y.m) (.slice Y.A Y.l Y.c) (.slice Y.B Y.bl Y.bc) BQ.out
          replace BQ := Lib.hid bk
          replace BP := Lib.hid (ok _ _ nqp BP.out)
          replace RX := Lib.hid (RX.out.chgS ck (fun a ha => by simp; exact XQ.out a (.inl ha)) (fun a ha => by simp; exact XQ.out a (.inr ha)))
          replace RY := Lib.hid (RY.out.chgS ck (fun a ha => by simp; exact YQ.out a (.inl ha)) (fun a ha => by simp; exact YQ.out a (.inr ha)))
          replace CC := Lib.hid (CC.out.trans' ck (fun i hi => .inr (by have := GQ.out; simp at hi; omega)))
          clear bk ok ck
          obtain ⟨wc, hwc⟩ : ∃ w9 : World, w9 = (((((((wc.setCell ⟨q, 0, none⟩ (.int .i64 Y.n)).setCell ⟨q, 1, none⟩ (.int .i64 Y.s)).setCell ⟨q, 2, none⟩ (.string Y.p)).setCell ⟨q, 3, none⟩ (.int .i64 Y.k)).setCell ⟨q, 4, none⟩ (.int .i64 Y.m)).setCell ⟨q, 5, none⟩ (.slice Y.A Y.l Y.c)).setCell ⟨q, 6, none⟩ (.slice Y.B Y.bl Y.bc)) := ⟨_, rfl⟩
          rw [← hwc] at BP BQ RX RY CC ⊢
          clear hwc
          refine hK.out _ _ (DX.out _ CC.out) (fun hHeld => ?_)
          clear hK K
          try simp only [Act.put, sA, s0, s1]
          refine wpAnyH_done (by kernel_rfl) ?_ _
          clear hHeld
          exact JOIN X Y p q _ ⟨RX, RY, BP, BQ, CC⟩
        · skip
          replace hK := Lib.hid hK
          go_simp
          obtain ⟨p, hp⟩ : ∃ n, n = wc.heap.size := ⟨_, rfl⟩
          have XP : Hid (∀ a : Addr, X.A = some a ∨ X.B = some a → a.block ≠ p) := Lib.hid (fun a ha => by have := LX.out a ha; omega)
          have NE : Hid (¬ p = q) := Lib.hid (by have := LQ.out; omega)
          have GP : Hid (w3.heap.size ≤ p) := Lib.hid (by have := CC.out.size; omega)
          obtain ⟨wc, hw, cn, bn⟩ := news1 wc (.cells #[.int .i64 0, .int .i64 0, .string ⟨#[]⟩, .int .i64 0, .int .i64 0, .slice none 0 0, .slice none 0 0] 29)
          rw [← hw, ← hp]
          rw [← hp] at bn
          replace BQ := Lib.hid (cn.at_ BQ.out (by simp))
          replace LQ := Lib.hid (Nat.lt_of_lt_of_le LQ.out cn.size)
          replace RX := Lib.hid (RX.out.chg cn)
          replace LX := Lib.hid (fun (a : Addr) ha => Nat.lt_of_lt_of_le (LX.out a ha) cn.size)
          have BP := Lib.hid bn
          have LP : Hid (p < wc.heap.size) := Lib.hid (lt_of_heap bn)
          replace CC := Lib.hid (CC.out.trans cn)
          clear hw hp cn bn
          refine hK.out _ _ (DX.out _ CC.out) (fun hHeld => ?_)
          clear hK K
          try simp only [Act.put, sA, s0, s1]
          refine wpAnyH_ready (rs := [3]) (by kernel_rfl) (by simp) ?_
          refine AllReadyH.cons rfl (fun K hK => ?_) AllReadyH.nil
          replace hK := Lib.hid hK
          go_simp
          refine (copyev_x wc y f (HY.out.chg CC.out) ⟨SY.out.1.2.1, SY.out.2⟩).mono ?_
          rintro r wc ⟨Y, rfl, hX, hA, hB, hnA, hnB, hne, hc⟩
          have RY := Lib.hid hX
          have LY : Hid (∀ a : Addr, Y.A = some a ∨ Y.B = some a → a.block < wc.heap.size) := Lib.hid (fun a ha => ha.elim (hA.lt8_ a) (hB.lt_ a))
          have YP : Hid (∀ a : Addr, Y.A = some a ∨ Y.B = some a → a.block ≠ p) := Lib.hid (fun a ha => by have h1 := ha.elim (hnA a) (hnB a); have h2 := LP.out; omega)
          have YQ : Hid (∀ a : Addr, Y.A = some a ∨ Y.B = some a → a.block ≠ q) := Lib.hid (fun a ha => by have h1 := ha.elim (hnA a) (hnB a); have h2 := LQ.out; omega)
          replace BP := Lib.hid (hc.at_ BP.out (by simp))
          replace LP := Lib.hid (Nat.lt_of_lt_of_le LP.out hc.size)
          replace BQ := Lib.hid (hc.at_ BQ.out (by simp))
          replace LQ := Lib.hid (Nat.lt_of_lt_of_le LQ.out hc.size)
          replace RX := Lib.hid (RX.out.chg hc)
          replace LX := Lib.hid (fun (a : Addr) ha => Nat.lt_of_lt_of_le (LX.out a ha) hc.size)
          replace CC := Lib.hid (CC.out.trans hc)
          clear hX hA hB hnA hnB hne hc
          refine hK.out _ _ (DX.out _ CC.out) (fun hHeld => ?_)
          clear hK K
          try simp only [Act.put, sA, s0, s1]
          refine wpAnyH_ready (rs := [6]) (by kernel_rfl) (by simp) ?_
          refine AllReadyH.cons rfl (fun K hK => ?_) AllReadyH.nil
          replace hK := Lib.hid hK
          have npq : ¬ p = q := NE.out
          have nqp : ¬ q = p := fun h => npq h.symm
          have f0 := free_of BP.out 0
          have f1 := free_of BP.out 1
          have f2 := free_of BP.out 2
          have f3 := free_of BP.out 3
          have f4 := free_of BP.out 4
          have f5 := free_of BP.out 5
          have f6 := free_of BP.out 6
          have v0 := cell_of BP.out 0
          have v1 := cell_of BP.out 1
          have v2 := cell_of BP.out 2
          have v3 := cell_of BP.out 3
          have v4 := cell_of BP.out 4
          have v5 := cell_of BP.out 5
          have v6 := cell_of BP.out 6
          simp only [List.getElem?_toArray, List.getElem?_cons_succ, List.getElem?_cons_zero] at v0 v1 v2 v3 v4 v5 v6
          go_simp
          clear f0 v0 f1 v1 f2 v2 f3 v3 f4 v4 f5 v5 f6 v6
          obtain ⟨bk, ok, ck⟩ := setC7 (.int .i64 X.n) (.int .i64 X.s) (.string X.p) (.int .i64 X.k) (.int .i64 X.m) (.slice X.A X.l X.c) (.slice X.B X.bl X.bc) BP.out
          replace BP := Lib.hid bk
          replace BQ := Lib.hid (ok _ _ npq BQ.out)
          replace RX := Lib.hid (RX.out.chgS ck (fun a ha => by simp; exact XP.out a (.inl ha)) (fun a ha => by simp; exact XP.out a (.inr ha)))
          replace RY := Lib.hid (RY.out.chgS ck (fun a ha => by simp; exact YP.out a (.inl ha)) (fun a ha => by simp; exact YP.out a (.inr ha)))
          replace CC := Lib.hid (CC.out.trans' ck (fun i hi => .inr (by have := GP.out; simp at hi; omega)))
          clear bk ok ck
          obtain ⟨wc, hwc⟩ : ∃ w9 : World, w9 = (((((((wc.setCell ⟨p, 0, none⟩ (.int .i64 X.n)).setCell ⟨p, 1, none⟩ (.int .i64 X.s)).setCell ⟨p, 2, none⟩ (.string X.p)).setCell ⟨p, 3, none⟩ (.int .i64 X.k)).setCell ⟨p, 4, none⟩ (.int .i64 X.m)).setCell ⟨p, 5, none⟩ (.slice X.A X.l X.c)).setCell ⟨p, 6, none⟩ (.slice X.B X.bl X.bc)) := ⟨_, rfl⟩
          rw [← hwc] at BP BQ RX RY CC ⊢
          clear hwc
          refine hK.out _ _ (DX.out _ CC.out) (fun hHeld => ?_)
          clear hK K
          try simp only [Act.put, sA, s0, s1]
          refine wpAnyH_ready (rs := [7]) (by kernel_rfl) (by simp) ?_
          refine AllReadyH.cons rfl (fun K hK => ?_) AllReadyH.nil
          replace hK := Lib.hid hK
          have f0 := free_of BQ.out 0
          have f1 := free_of BQ.out 1
          have f2 := free_of BQ.out 2
          have f3 := free_of BQ.out 3
          have f4 := free_of BQ.out 4
          have f5 := free_of BQ.out 5
          have f6 := free_of BQ.out 6
          have v0 := cell_of BQ.out 0
          have v1 := cell_of BQ.out 1
          have v2 := cell_of BQ.out 2
          have v3 := cell_of BQ.out 3
          have v4 := cell_of BQ.out 4
          have v5 := cell_of BQ.out 5
          have v6 := cell_of BQ.out 6
          simp only [List.getElem?_toArray, List.getElem?_cons_succ, List.getElem?_cons_zero] at v0 v1 v2 v3 v4 v5 v6
          go_simp
          clear f0 v0 f1 v1 f2 v2 f3 v3 f4 v4 f5 v5 f6 v6
          obtain ⟨bk, ok, ck⟩ := setC7 (.int .i64 Y.n) (.int .i64 Y.s) (.string Y.p) (.int .i64 Y.k) (.int .i64 Y.m) (.slice Y.A Y.l Y.c) (.slice Y.B Y.bl Y.bc) BQ.out
          replace BQ := Lib.hid bk
          replace BP := Lib.hid (ok _ _ nqp BP.out)
          replace RX := Lib.hid (RX.out.chgS ck (fun a ha => by simp; exact XQ.out a (.inl ha)) (fun a ha => by simp; exact XQ.out a (.inr ha)))
          replace RY := Lib.hid (RY.out.chgS ck (fun a ha => by simp; exact YQ.out a (.inl ha)) (fun a ha => by simp; exact YQ.out a (.inr ha)))
          replace CC := Lib.hid (CC.out.trans' ck (fun i hi => .inr (by have := GQ.out; simp at hi; omega)))
          clear bk ok ck
          obtain ⟨wc, hwc⟩ : ∃ w9 : World, w9 = (((((((wc.setCell ⟨q, 0, none⟩ (.int .i64 Y.n)).setCell ⟨q, 1, none⟩ (.int .i64 Y.s)).setCell ⟨q, 2, none⟩ (.string Y.p)).setCell ⟨q, 3, none⟩ (.int .i64 Y.k)).setCell ⟨q, 4, none⟩ (.int .i64 Y.m)).setCell ⟨q, 5, none⟩ (.slice Y.A Y.l Y.c)).setCell ⟨q, 6, none⟩ (.slice Y.B Y.bl Y.bc)) := ⟨_, rfl⟩
          rw [← hwc] at BP BQ RX RY CC ⊢
          clear hwc
          refine hK.out _ _ (DX.out _ CC.out) (fun hHeld => ?_)
          clear hK K
          try simp only [Act.put, sA, s0, s1]
          refine wpAnyH_done (by kernel_rfl) ?_ _
          clear hHeld
          exact JOIN X Y p q _ ⟨RX, RY, BP, BQ, CC⟩
    · skip
      replace hK := Lib.hid hK
      go_simp
      obtain ⟨p, hp⟩ : ∃ n, n = wc.heap.size := ⟨_, rfl⟩
      have GP : Hid (w3.heap.size ≤ p) := Lib.hid (by have := CC.out.size; omega)
      obtain ⟨wc, hw, cn, bn⟩ := news1 wc (.cells #[.int .i64 0, .int .i64 0, .string ⟨#[]⟩, .int .i64 0, .int .i64 0, .slice none 0 0, .slice none 0 0] 29)
      rw [← hw, ← hp]
      rw [← hp] at bn
      have BP := Lib.hid bn
      have LP : Hid (p < wc.heap.size) := Lib.hid (lt_of_heap bn)
      replace CC := Lib.hid (CC.out.trans cn)
      clear hw hp cn bn
      refine hK.out _ _ (DX.out _ CC.out) (fun hHeld => ?_)
      clear hK K
      try simp only [Act.put, sA, s0, s1]
      refine wpAnyH_ready (rs := [1, 5]) (by kernel_rfl) (by simp) ?_
      refine AllReadyH.cons rfl (fun K hK => ?_) (AllReadyH.cons rfl (fun K hK => ?_) AllReadyH.nil)
      · skip
        replace hK := Lib.hid hK
        go_simp
        refine (copyev_x wc x e (HX.out.chg CC.out) ⟨SX.out.1.2.1, SX.out.2⟩).mono ?_
        rintro r wc ⟨X, rfl, hX, hA, hB, hnA, hnB, hne, hc⟩
        have RX := Lib.hid hX
        have LX : Hid (∀ a : Addr, X.A = some a ∨ X.B = some a → a.block < wc.heap.size) := Lib.hid (fun a ha => ha.elim (hA.lt8_ a) (hB.lt_ a))
        have XP : Hid (∀ a : Addr, X.A = some a ∨ X.B = some a → a.block ≠ p) := Lib.hid (fun a ha => by have h1 := ha.elim (hnA a) (hnB a); have h2 := LP.out; omega)
        replace BP := Lib.hid (hc.at_ BP.out (by simp))
        replace LP := Lib.hid (Nat.lt_of_lt_of_le LP.out hc.size)
        replace CC := Lib.hid (CC.out.trans hc)
        clear hX hA hB hnA hnB hne hc
        refine hK.out _ _ (DX.out _ CC.out) (fun hHeld => ?_)
        clear hK K
        try simp only [Act.put, sA, s0, s1]
        refine wpAnyH_ready (rs := [3, 5]) (by kernel_rfl) (by simp) ?_
        refine AllReadyH.cons rfl (fun K hK => ?_) (AllReadyH.cons rfl (fun K hK => ?_) AllReadyH.nil)
        · skip
          replace hK := Lib.hid hK
          go_simp
          refine (copyev_x wc y f (HY.out.chg CC.out) ⟨SY.out.1.2.1, SY.out.2⟩).mono ?_
          rintro r wc ⟨Y, rfl, hX, hA, hB, hnA, hnB, hne, hc⟩
          have RY := Lib.hid hX
          have LY : Hid (∀ a : Addr, Y.A = some a ∨ Y.B = some a → a.block < wc.heap.size) := Lib.hid (fun a ha => ha.elim (hA.lt8_ a) (hB.lt_ a))
          have YP : Hid (∀ a : Addr, Y.A = some a ∨ Y.B = some a → a.block ≠ p) := Lib.hid (fun a ha => by have h1 := ha.elim (hnA a) (hnB a); have h2 := LP.out; omega)
          replace BP := Lib.hid (hc.at_ BP.out (by simp))
          replace LP := Lib.hid (Nat.lt_of_lt_of_le LP.out hc.size)
          replace RX := Lib.hid (RX.out.chg hc)
          replace LX := Lib.hid (fun (a : Addr) ha => Nat.lt_of_lt_of_le (LX.out a ha) hc.size)
          replace CC := Lib.hid (CC.out.trans hc)
          clear hX hA hB hnA hnB hne hc
          refine hK.out _ _ (DX.out _ CC.out) (fun hHeld => ?_)
          clear hK K
          try simp only [Act.put, sA, s0, s1]
          refine wpAnyH_ready (rs := [5]) (by kernel_rfl) (by simp) ?_
          refine AllReadyH.cons rfl (fun K hK => ?_) AllReadyH.nil
          replace hK := Lib.hid hK
          go_simp
          obtain ⟨q, hp⟩ : ∃ n, n = wc.heap.size := ⟨_, rfl⟩
          have XQ : Hid (∀ a : Addr, X.A = some a ∨ X.B = some a → a.block ≠ q) := Lib.hid (fun a ha => by have := LX.out a ha; omega)
          have YQ : Hid (∀ a : Addr, Y.A = some a ∨ Y.B = some a → a.block ≠ q) := Lib.hid (fun a ha => by have := LY.out a ha; omega)
          have NE : Hid (¬ p = q) := Lib.hid (by have := LP.out; omega)
          have GQ : Hid (w3.heap.size ≤ q) := Lib.hid (by have := CC.out.size; omega)
          obtain ⟨wc, hw, cn, bn⟩ := news1 wc (.cells #[.int .i64 0, .int .i64 0, .string ⟨#[]⟩, .int .i64 0, .int .i64 0, .slice none 0 0, .slice none 0 0] 29)
          rw [← hw, ← hp]
          rw [← hp] at bn
          replace BP := Lib.hid (cn.at_ BP.out (by simp))
          replace LP := Lib.hid (Nat.lt_of_lt_of_le LP.out cn.size)
          replace RX := Lib.hid (RX.out.chg cn)
          replace LX := Lib.hid (fun (a : Addr) ha => Nat.lt_of_lt_of_le (LX.out a ha) cn.size)
          replace RY := Lib.hid (RY.out.chg cn)
          replace LY := Lib.hid (fun (a : Addr) ha => Nat.lt_of_lt_of_le (LY.out a ha) cn.size)
          have BQ := Lib.hid bn
          have LQ : Hid (q < wc.heap.size) := Lib.hid (lt_of_heap bn)
          replace CC := Lib.hid (CC.out.trans cn)
          clear hw hp cn bn
          refine hK.out _ _ (DX.out _ CC.out) (fun hHeld => ?_)
          clear hK K
          try simp only [Act.put, sA, s0, s1]
          refine wpAnyH_ready (rs := [6]) (by kernel_rfl) (by simp) ?_
          refine AllReadyH.cons rfl (fun K hK => ?_) AllReadyH.nil
          replace hK := Lib.hid hK
          have npq : ¬ p = q := NE.out
          have nqp : ¬ q = p := fun h => npq h.symm
          have f0 := free_of BP.out 0
          have f1 := free_of BP.out 1
          have f2 := free_of BP.out 2
          have f3 := free_of BP.out 3
          have f4 := free_of BP.out 4
          have f5 := free_of BP.out 5
          have f6 := free_of BP.out 6
          have v0 := cell_of BP.out 0
          have v1 := cell_of BP.out 1
          have v2 := cell_of BP.out 2
          have v3 := cell_of BP.out 3
          have v4 := cell_of BP.out 4
          have v5 := cell_of BP.out 5
          have v6 := cell_of BP.out 6
          simp only [List.getElem?_toArray, List.getElem?_cons_succ, List.getElem?_cons_zero] at v0 v1 v2 v3 v4 v5 v6
          go_simp
          clear f0 v0 f1 v1 f2 v2 f3 v3 f4 v4 f5 v5 f6 v6
          obtain ⟨bk, ok, ck⟩ := setC7 (.int .i64 X.n) (.int .i64 X.s) (.string X.p) (.int .i64 X.k) (.int .i64 X.m) (.slice X.A X.l X.c) (.slice X.B X.bl X.bc) BP.out
          replace BP := Lib.hid bk
          replace BQ := Lib.hid (ok _ _ npq BQ.out)
          replace RX := Lib.hid (RX.out.chgS ck (fun a ha => by simp; exact XP.out a (.inl ha)) (fun a ha => by simp; exact XP.out a (.inr ha)))
          replace RY := Lib.hid (RY.out.chgS ck (fun a ha => by simp; exact YP.out a (.inl ha)) (fun a ha => by simp; exact YP.out a (.inr ha)))
          replace CC := Lib.hid (CC.out.trans' ck (fun i hi => .inr (by have := GP.out; simp at hi; omega)))
          clear bk ok ck
          obtain ⟨wc, hwc⟩ : ∃ w9 : World, w9 = (((((((wc.setCell ⟨p, 0, none⟩ (.int .i64 X.n)).setCell ⟨p, 1, none⟩ (.int .i64 X.s)).setCell ⟨p, 2, none⟩ (.string X.p)).setCell ⟨p, 3, none⟩ (.int .i64 X.k)).setCell ⟨p, 4, none⟩ (.int .i64 X.m)).setCell ⟨p, 5, none⟩ (.slice X.A X.l X.c)).setCell ⟨p, 6, none⟩ (.slice X.B X.bl X.bc)) := ⟨_, rfl⟩
          rw [← hwc] at BP BQ RX RY CC ⊢
          clear hwc
          refine hK.out _ _ (DX.out _ CC.out) (fun hHeld => ?_)
          clear hK K
          try simp only [Act.put, sA, s0, s1]
          refine wpAnyH_ready (rs := [7]) (by kernel_rfl) (by simp) ?_
          refine AllReadyH.cons rfl (fun K hK => ?_) AllReadyH.nil
          replace hK := Lib.hid hK
          have f0 := free_of BQ.out 0
          have f1 := free_of BQ.out 1
          have f2 := free_of BQ.out 2
          have f3 := free_of BQ.out 3
          have f4 := free_of BQ.out 4
          have f5 := free_of BQ.out 5
          have f6 := free_of BQ.out 6
          have v0 := cell_of BQ.out 0
          have v1 := cell_of BQ.out 1
          have v2 := cell_of BQ.out 2
          have v3 := cell_of BQ.out 3
          have v4 := cell_of BQ.out 4
          have v5 := cell_of BQ.out 5
          have v6 := cell_of BQ.out 6
          simp only [List.getElem?_toArray, List.getElem?_cons_succ, List.getElem?_cons_zero] at v0 v1 v2 v3 v4 v5 v6
          go_simp
          clear f0 v0 f1 v1 f2 v2 f3 v3 f4 v4 f5 v5 f6 v6
          obtain ⟨bk, ok, ck⟩ := setC7 (.int .i64 Y.n) (.int .i64 Y.s) (.string Y.p) (.int .i64 Y.k) (.int .i64 Y.m) (.slice Y.A Y.l Y.c) (.slice Y.B Y.bl Y.bc) BQ.out
          replace BQ := Lib.hid bk
          replace BP := Lib.hid (ok _ _ nqp BP.out)
          replace RX := Lib.hid (RX.out.chgS ck (fun a ha => by simp; exact XQ.out a (.inl ha)) (fun a ha => by simp; exact XQ.out a (.inr ha)))
          replace RY := Lib.hid (RY.out.chgS ck (fun a ha => by simp; exact YQ.out a (.inl ha)) (fun a ha => by simp; exact YQ.out a (.inr ha)))
          replace CC := Lib.hid (CC.out.trans' ck (fun i hi => .inr (by have := GQ.out; simp at hi; omega)))
          clear bk ok ck
          obtain ⟨wc, hwc⟩ : ∃ w9 : World, w9 = (((((((wc.setCell ⟨q, 0, none⟩ (.int .i64 Y.n)).setCell ⟨q, 1, none⟩ (.int .i64 Y.s)).setCell ⟨q, 2, none⟩ (.string Y.p)).setCell ⟨q, 3, none⟩ (.int .i64 Y.k)).setCell ⟨q, 4, none⟩ (.int .i64 Y.m)).setCell ⟨q, 5, none⟩ (.slice Y.A Y.l Y.c)).setCell ⟨q, 6, none⟩ (.slice Y.B Y.bl Y.bc)) := ⟨_, rfl⟩
          rw [← hwc] at BP BQ RX RY CC ⊢
          clear hwc
          refine hK.out _ _ (DX.out _ CC.out) (fun hHeld => ?_)
          clear hK K
          try simp only [Act.put, sA, s0, s1]
          refine wpAnyH_done (by kernel_rfl) ?_ _
          clear hHeld
          exact JOIN X Y p q _ ⟨RX, RY, BP, BQ, CC⟩
        · skip
          replace hK := Lib.hid hK
          go_simp
          obtain ⟨q, hp⟩ : ∃ n, n = wc.heap.size := ⟨_, rfl⟩
          have XQ : Hid (∀ a : Addr, X.A = some a ∨ X.B = some a → a.block ≠ q) := Lib.hid (fun a ha => by have := LX.out a ha; omega)
          have NE : Hid (¬ p = q) := Lib.hid (by have := LP.out; omega)
          have GQ : Hid (w3.heap.size ≤ q) := Lib.hid (by have := CC.out.size; omega)
          obtain ⟨wc, hw, cn, bn⟩ := news1 wc (.cells #[.int .i64 0, .int .i64 0, .string ⟨#[]⟩, .int .i64 0, .int .i64 0, .slice none 0 0, .slice none 0 0] 29)
          rw [← hw, ← hp]
          rw [← hp] at bn
          replace BP := Lib.hid (cn.at_ BP.out (by simp))
          replace LP := Lib.hid (Nat.lt_of_lt_of_le LP.out cn.size)
          replace RX := Lib.hid (RX.out.chg cn)
          replace LX := Lib.hid (fun (a : Addr) ha => Nat.lt_of_lt_of_le (LX.out a ha) cn.size)
          have BQ := Lib.hid bn
          have LQ : Hid (q < wc.heap.size) := Lib.hid (lt_of_heap bn)
          replace CC := Lib.hid (CC.out.trans cn)
          clear hw hp cn bn
          refine hK.out _ _ (DX.out _ CC.out) (fun hHeld => ?_)
          clear hK K
          try simp only [Act.put, sA, s0, s1]
          refine wpAnyH_ready (rs := [3]) (by kernel_rfl) (by simp) ?_
          refine AllReadyH.cons rfl (fun K hK => ?_) AllReadyH.nil
          replace hK := Lib.hid hK
          go_simp
          refine (copyev_x wc y f (HY.out.chg CC.out) ⟨SY.out.1.2.1, SY.out.2⟩).mono ?_
          rintro r wc ⟨Y, rfl, hX, hA, hB, hnA, hnB, hne, hc⟩
          have RY := Lib.hid hX
          have LY : Hid (∀ a : Addr, Y.A = some a ∨ Y.B = some a → a.block < wc.heap.size) := Lib.hid (fun a ha => ha.elim (hA.lt8_ a) (hB.lt_ a))
          have YP : Hid (∀ a : Addr, Y.A = some a ∨ Y.B = some a → a.block ≠ p) := Lib.hid (fun a ha => by have h1 := ha.elim (hnA a) (hnB a); have h2 := LP.out; omega)
          have YQ : Hid (∀ a : Addr, Y.A = some a ∨ Y.B = some a → a.block ≠ q) := Lib.hid (fun a ha => by have h1 := ha.elim (hnA a) (hnB a); have h2 := LQ.out; omega)
          replace BP := Lib.hid (hc.at_ BP.out (by simp))
          replace LP := Lib.hid (Nat.lt_of_lt_of_le LP.out hc.size)
          replace BQ := Lib.hid (hc.at_ BQ.out (by simp))
          replace LQ := Lib.hid (Nat.lt_of_lt_of_le LQ.out hc.size)
          replace RX := Lib.hid (RX.out.chg hc)
          replace LX := Lib.hid (fun (a : Addr) ha => Nat.lt_of_lt_of_le (LX.out a ha) hc.size)
          replace CC := Lib.hid (CC.out.trans hc)
          clear hX hA hB hnA hnB hne hc
          refine hK.out _ _ (DX.out _ CC.out) (fun hHeld => ?_)
          clear hK K
          try simp only [Act.put, sA, s0, s1]
          refine wpAnyH_ready (rs := [6]) (by kernel_rfl) (by simp) ?_
          refine AllReadyH.cons rfl (fun K hK => ?_) AllReadyH.nil
          replace hK := Lib.hid hK
          have npq : ¬ p = q := NE.out
          have nqp : ¬ q = p := fun h => npq h.symm
          have f0 := free_of BP.out 0
          have f1 := free_of BP.out 1
          have f2 := free_of BP.out 2
          have f3 := free_of BP.out 3
          have f4 := free_of BP.out 4
          have f5 := free_of BP.out 5
          have f6 := free_of BP.out 6
          have v0 := cell_of BP.out 0
          have v1 := cell_of BP.out 1
          have v2 := cell_of BP.out 2
          have v3 := cell_of BP.out 3
          have v4 := cell_of BP.out 4
          have v5 := cell_of BP.out 5
          have v6 := cell_of BP.out 6
          simp only [List.getElem?_toArray, List.getElem?_cons_succ, List.getElem?_cons_zero] at v0 v1 v2 v3 v4 v5 v6
          go_simp
          clear f0 v0 f1 v1 f2 v2 f3 v3 f4 v4 f5 v5 f6 v6
          obtain ⟨bk, ok, ck⟩ := setC7 (.int .i64 X.n) (.int .i64 X.s) (.string X.p) (.int .i64 X.k) (.int .i64 X.m) (.slice X.A X.l X.c) (.slice X.B X.bl X.bc) BP.out
          replace BP := Lib.hid bk
          replace BQ := Lib.hid (ok _ _ npq BQ.out)
          replace RX := Lib.hid (RX.out.chgS ck (fun a ha => by simp; exact XP.out a (.inl ha)) (fun a ha => by simp; exact XP.out a (.inr ha)))
          replace RY := Lib.hid (RY.out.chgS ck (fun a ha => by simp; exact YP.out a (.inl ha)) (fun a ha => by simp; exact YP.out a (.inr ha)))
          replace CC := Lib.hid (CC.out.trans' ck (fun i hi => .inr (by have := GP.out; simp at hi; omega)))
          clear bk ok ck
          obtain ⟨wc, hwc⟩ : ∃ w9 : World, w9 = (((((((wc.setCell ⟨p, 0, none⟩ (.int .i64 X.n)).setCell ⟨p, 1, none⟩ (.int .i64 X.s)).setCell ⟨p, 2, none⟩ (.string X.p)).setCell ⟨p, 3, none⟩ (.int .i64 X.k)).setCell ⟨p, 4, none⟩ (.int .i64 X.m)).setCell ⟨p, 5, none⟩ (.slice X.A X.l X.c)).setCell ⟨p, 6, none⟩ (.slice X.B X.bl X.bc)) := ⟨_, rfl⟩
          rw [← hwc] at BP BQ RX RY CC ⊢
          clear hwc
          refine hK.out _ _ (DX.out _ CC.out) (fun hHeld => ?_)
          clear hK K
          try simp only [Act.put, sA, s0, s1]
          refine wpAnyH_ready (rs := [7]) (by kernel_rfl) (by simp) ?_
          refine AllReadyH.cons rfl (fun K hK => ?_) AllReadyH.nil
          replace hK := Lib.hid hK
          have f0 := free_of BQ.out 0
          have f1 := free_of BQ.out 1
          have f2 := free_of BQ.out 2
          have f3 := free_of BQ.out 3
          have f4 := free_of BQ.out 4
          have f5 := free_of BQ.out 5
          have f6 := free_of BQ.out 6
          have v0 := cell_of BQ.out 0
          have v1 := cell_of BQ.out 1
          have v2 := cell_of BQ.out 2
          have v3 := cell_of BQ.out 3
          have v4 := cell_of BQ.out 4
          have v5 := cell_of BQ.out 5
          have v6 := cell_of BQ.out 6
          simp only [List.getElem?_toArray, List.getElem?_cons_succ, List.getElem?_cons_zero] at v0 v1 v2 v3 v4 v5 v6
          go_simp
          clear f0 v0 f1 v1 f2 v2 f3 v3 f4 v4 f5 v5 f6 v6
          obtain ⟨bk, ok, ck⟩ := setC7 (.int .i64 Y.n) (.int .i64 Y.s) (.string Y.p) (.int .i64 Y.k) (.int .i64 Y.m) (.slice Y.A Y.l Y.c) (.slice Y.B Y.bl Y.bc) BQ.out
          replace BQ := Lib.hid bk
          replace BP := Lib.hid (ok _ _ nqp BP.out)
          replace RX := Lib.hid (RX.out.chgS ck (fun a ha => by simp; exact XQ.out a (.inl ha)) (fun a ha => by simp; exact XQ.out a (.inr ha)))
          replace RY := Lib.hid (RY.out.chgS ck (fun a ha => by simp; exact YQ.out a (.inl ha)) (fun a ha => by simp; exact YQ.out a (.inr ha)))
          replace CC := Lib.hid (CC.out.trans' ck (fun i hi => .inr (by have := GQ.out; simp at hi; omega)))
          clear bk ok ck
          obtain ⟨wc, hwc⟩ : ∃ w9 : World, w9 = (((((((wc.setCell ⟨q, 0, none⟩ (.int .i64 Y.n)).setCell ⟨q, 1, none⟩ (.int .i64 Y.s)).setCell ⟨q, 2, none⟩ (.string Y.p)).setCell ⟨q, 3, none⟩ (.int .i64 Y.k)).setCell ⟨q, 4, none⟩ (.int .i64 Y.m)).setCell ⟨q, 5, none⟩ (.slice Y.A Y.l Y.c)).setCell ⟨q, 6, none⟩ (.slice Y.B Y.bl Y.bc)) := ⟨_, rfl⟩
          rw [← hwc] at BP BQ RX RY CC ⊢
          clear hwc
          refine hK.out _ _ (DX.out _ CC.out) (fun hHeld => ?_)
          clear hK K
          try simp only [Act.put, sA, s0, s1]
          refine wpAnyH_done (by kernel_rfl) ?_ _
          clear hHeld
          exact JOIN X Y p q _ ⟨RX, RY, BP, BQ, CC⟩
      · skip
        replace hK := Lib.hid hK
        go_simp
        obtain ⟨q, hp⟩ : ∃ n, n = wc.heap.size := ⟨_, rfl⟩
        have NE : Hid (¬ p = q) := Lib.hid (by have := LP.out; omega)
        have GQ : Hid (w3.heap.size ≤ q) := Lib.hid (by have := CC.out.size; omega)
        obtain ⟨wc, hw, cn, bn⟩ := news1 wc (.cells #[.int .i64 0, .int .i64 0, .string ⟨#[]⟩, .int .i64 0, .int .i64 0, .slice none 0 0, .slice none 0 0] 29)
        rw [← hw, ← hp]
        rw [← hp] at bn
        replace BP := Lib.hid (cn.at_ BP.out (by simp))
        replace LP := Lib.hid (Nat.lt_of_lt_of_le LP.out cn.size)
        have BQ := Lib.hid bn
        have LQ : Hid (q < wc.heap.size) := Lib.hid (lt_of_heap bn)
        replace CC := Lib.hid (CC.out.trans cn)
        clear hw hp cn bn
        refine hK.out _ _ (DX.out _ CC.out) (fun hHeld => ?_)
        clear hK K
        try simp only [Act.put, sA, s0, s1]
        refine wpAnyH_ready (rs := [1]) (by kernel_rfl) (by simp) ?_
        refine AllReadyH.cons rfl (fun K hK => ?_) AllReadyH.nil
        replace hK := Lib.hid hK
        go_simp
        refine (copyev_x wc x e (HX.out.chg CC.out) ⟨SX.out.1.2.1, SX.out.2⟩).mono ?_
        rintro r wc ⟨X, rfl, hX, hA, hB, hnA, hnB, hne, hc⟩
        have RX := Lib.hid hX
        have LX : Hid (∀ a : Addr, X.A = some a ∨ X.B = some a → a.block < wc.heap.size) := Lib.hid (fun a ha => ha.elim (hA.lt8_ a) (hB.lt_ a))
        have XP : Hid (∀ a : Addr, X.A = some a ∨ X.B = some a → a.block ≠ p) := Lib.hid (fun a ha => by have h1 := ha.elim (hnA a) (hnB a); have h2 := LP.out; omega)
        have XQ : Hid (∀ a : Addr, X.A = some a ∨ X.B = some a → a.block ≠ q) := Lib.hid (fun a ha => by have h1 := ha.elim (hnA a) (hnB a); have h2 := LQ.out; omega)
        replace BP := Lib.hid (hc.at_ BP.out (by simp))
        replace LP := Lib.hid (Nat.lt_of_lt_of_le LP.out hc.size)
        replace BQ := Lib.hid (hc.at_ BQ.out (by simp))
        replace LQ := Lib.hid (Nat.lt_of_lt_of_le LQ.out hc.size)
        replace CC := Lib.hid (CC.out.trans hc)
        clear hX hA hB hnA hnB hne hc
        refine hK.out _ _ (DX.out _ CC.out) (fun hHeld => ?_)
        clear hK K
        try simp only [Act.put, sA, s0, s1]
        refine wpAnyH_ready (rs := [3]) (by kernel_rfl) (by simp) ?_
        refine AllReadyH.cons rfl (fun K hK => ?_) AllReadyH.nil
        replace hK := Lib.hid hK
        go_simp
        refine (copyev_x wc y f (HY.out.chg CC.out) ⟨SY.out.1.2.1, SY.out.2⟩).mono ?_
        rintro r wc ⟨Y, rfl, hX, hA, hB, hnA, hnB, hne, hc⟩
        have RY := Lib.hid hX
        have LY : Hid (∀ a : Addr, Y.A = some a ∨ Y.B = some a → a.block < wc.heap.size) := Lib.hid (fun a ha => ha.elim (hA.lt8_ a) (hB.lt_ a))
        have YP : Hid (∀ a : Addr, Y.A = some a ∨ Y.B = some a → a.block ≠ p) := Lib.hid (fun a ha => by have h1 := ha.elim (hnA a) (hnB a); have h2 := LP.out; omega)
        have YQ : Hid (∀ a : Addr, Y.A = some a ∨ Y.B = some a → a.block ≠ q) := Lib.hid (fun a ha => by have h1 := ha.elim (hnA a) (hnB a); have h2 := LQ.out; omega)
        replace BP := Lib.hid (hc.at_ BP.out (by simp))
        replace LP := Lib.hid (Nat.lt_of_lt_of_le LP.out hc.size)
        replace BQ := Lib.hid (hc.at_ BQ.out (by simp))
        replace LQ := Lib.hid (Nat.lt_of_lt_of_le LQ.out hc.size)
        replace RX := Lib.hid (RX.out.chg hc)
        replace LX := Lib.hid (fun (a : Addr) ha => Nat.lt_of_lt_of_le (LX.out a ha) hc.size)
        replace CC := Lib.hid (CC.out.trans hc)
        clear hX hA hB hnA hnB hne hc
        refine hK.out _ _ (DX.out _ CC.out) (fun hHeld => ?_)
        clear hK K
        try simp only [Act.put, sA, s0, s1]
        refine wpAnyH_ready (rs := [6]) (by kernel_rfl) (by simp) ?_
        refine AllReadyH.cons rfl (fun K hK => ?_) AllReadyH.nil
        replace hK := Lib.hid hK
        have npq : ¬ p = q := NE.out
        have nqp : ¬ q = p := fun h => npq h.symm
        have f0 := free_of BP.out 0
        have f1 := free_of BP.out 1
        have f2 := free_of BP.out 2
        have f3 := free_of BP.out 3
        have f4 := free_of BP.out 4
        have f5 := free_of BP.out 5
        have f6 := free_of BP.out 6
        have v0 := cell_of BP.out 0
        have v1 := cell_of BP.out 1
        have v2 := cell_of BP.out 2
        have v3 := cell_of BP.out 3
        have v4 := cell_of BP.out 4
        have v5 := cell_of BP.out 5
        have v6 := cell_of BP.out 6
        simp only [List.getElem?_toArray, List.getElem?_cons_succ, List.getElem?_cons_zero] at v0 v1 v2 v3 v4 v5 v6
        go_simp
        clear f0 v0 f1 v1 f2 v2 f3 v3 f4 v4 f5 v5 f6 v6
        obtain ⟨bk, ok, ck⟩ := setC7 (.int .i64 X.n) (.int .i64 X.s) (.string X.p) (.int .i64 X.k) (.int .i64 X.m) (.slice X.A X.l X.c) (.slice X.B X.bl X.bc) BP.out
        replace BP := Lib.hid bk
        replace BQ := Lib.hid (ok _ _ npq BQ.out)
        replace RX := Lib.hid (RX.out.chgS ck (fun a ha => by simp; exact XP.out a (.inl ha)) (fun a ha => by simp; exact XP.out a (.inr ha)))
        replace RY := Lib.hid (RY.out.chgS ck (fun a ha => by simp; exact YP.out a (.inl ha)) (fun a ha => by simp; exact YP.out a (.inr ha)))
        replace CC := Lib.hid (CC.out.trans' ck (fun i hi => .inr (by have := GP.out; simp at hi; omega)))
        clear bk ok ck
        obtain ⟨wc, hwc⟩ : ∃ w9 : World, w9 = (((((((wc.setCell ⟨p, 0, none⟩ (.int .i64 X.n)).setCell ⟨p, 1, none⟩ (.int .i64 X.s)).setCell ⟨p, 2, none⟩ (.string X.p)).setCell ⟨p, 3, none⟩ (.int .i64 X.k)).setCell ⟨p, 4, none⟩ (.int .i64 X.m)).setCell ⟨p, 5, none⟩ (.slice X.A X.l X.c)).setCell ⟨p, 6, none⟩ (.slice X.B X.bl X.bc)) := ⟨_, rfl⟩
        rw [← hwc] at BP BQ RX RY CC ⊢
        clear hwc
        refine hK.out _ _ (DX.out _ CC.out) (fun hHeld => ?_)
        clear hK K
        try simp only [Act.put, sA, s0, s1]
        refine wpAnyH_ready (rs := [7]) (by kernel_rfl) (by simp) ?_
        refine AllReadyH.cons rfl (fun K hK => ?_) AllReadyH.nil
        replace hK := Lib.hid hK
        have f0 := free_of BQ.out 0
        have f1 := free_of BQ.out 1
        have f2 := free_of BQ.out 2
        have f3 := free_of BQ.out 3
        have f4 := free_of BQ.out 4
        have f5 := free_of BQ.out 5
        have f6 := free_of BQ.out 6
        have v0 := cell_of BQ.out 0
        have v1 := cell_of BQ.out 1
        have v2 := cell_of BQ.out 2
        have v3 := cell_of BQ.out 3
        have v4 := cell_of BQ.out 4
        have v5 := cell_of BQ.out 5
        have v6 := cell_of BQ.out 6
        simp only [List.getElem?_toArray, List.getElem?_cons_succ, List.getElem?_cons_zero] at v0 v1 v2 v3 v4 v5 v6
        go_simp
        clear f0 v0 f1 v1 f2 v2 f3 v3 f4 v4 f5 v5 f6 v6
        obtain ⟨bk, ok, ck⟩ := setC7 (.int .i64 Y.n) (.int .i64 Y.s) (.string Y.p) (.int .i64 Y.k) (.int .i64 Y.m) (.slice Y.A Y.l Y.c) (.slice Y.B Y.bl Y.bc) BQ.out
        replace BQ := Lib.hid bk
        replace BP := Lib.hid (ok _ _ nqp BP.out)
        replace RX := Lib.hid (RX.out.chgS ck (fun a ha => by simp; exact XQ.out a (.inl ha)) (fun a ha => by simp; exact XQ.out a (.inr ha)))
        replace RY := Lib.hid (RY.out.chgS ck (fun a ha => by simp; exact YQ.out a (.inl ha)) (fun a ha => by simp; exact YQ.out a (.inr ha)))
        replace CC := Lib.hid (CC.out.trans' ck (fun i hi => .inr (by have := GQ.out; simp at hi; omega)))
        clear bk ok ck
        obtain ⟨wc, hwc⟩ : ∃ w9 : World, w9 = (((((((wc.setCell ⟨q, 0, none⟩ (.int .i64 Y.n)).setCell ⟨q, 1, none⟩ (.int .i64 Y.s)).setCell ⟨q, 2, none⟩ (.string Y.p)).setCell ⟨q, 3, none⟩ (.int .i64 Y.k)).setCell ⟨q, 4, none⟩ (.int .i64 Y.m)).setCell ⟨q, 5, none⟩ (.slice Y.A Y.l Y.c)).setCell ⟨q, 6, none⟩ (.slice Y.B Y.bl Y.bc)) := ⟨_, rfl⟩
        rw [← hwc] at BP BQ RX RY CC ⊢
        clear hwc
        refine hK.out _ _ (DX.out _ CC.out) (fun hHeld => ?_)
        clear hK K
        try simp only [Act.put, sA, s0, s1]
        refine wpAnyH_done (by kernel_rfl) ?_ _
        clear hHeld
        exact JOIN X Y p q _ ⟨RX, RY, BP, BQ, CC⟩
    · skip
      replace hK := Lib.hid hK
      go_simp
      obtain ⟨q, hp⟩ : ∃ n, n = wc.heap.size := ⟨_, rfl⟩
      have GQ : Hid (w3.heap.size ≤ q) := Lib.hid (by have := CC.out.size; omega)
      obtain ⟨wc, hw, cn, bn⟩ := news1 wc (.cells #[.int .i64 0, .int .i64 0, .string ⟨#[]⟩, .int .i64 0, .int .i64 0, .slice none 0 0, .slice none 0 0] 29)
      rw [← hw, ← hp]
      rw [← hp] at bn
      have BQ := Lib.hid bn
      have LQ : Hid (q < wc.heap.size) := Lib.hid (lt_of_heap bn)
      replace CC := Lib.hid (CC.out.trans cn)
      clear hw hp cn bn
      refine hK.out _ _ (DX.out _ CC.out) (fun hHeld => ?_)
      clear hK K
      try simp only [Act.put, sA, s0, s1]
      refine wpAnyH_ready (rs := [1, 4]) (by kernel_rfl) (by simp) ?_
      refine AllReadyH.cons rfl (fun K hK => ?_) (AllReadyH.cons rfl (fun K hK => ?_) AllReadyH.nil)
      · skip
        replace hK := Lib.hid hK
        go_simp
        refine (copyev_x wc x e (HX.out.chg CC.out) ⟨SX.out.1.2.1, SX.out.2⟩).mono ?_
        rintro r wc ⟨X, rfl, hX, hA, hB, hnA, hnB, hne, hc⟩
        have RX := Lib.hid hX
        have LX : Hid (∀ a : Addr, X.A = some a ∨ X.B = some a → a.block < wc.heap.size) := Lib.hid (fun a ha => ha.elim (hA.lt8_ a) (hB.lt_ a))
        have XQ : Hid (∀ a : Addr, X.A = some a ∨ X.B = some a → a.block ≠ q) := Lib.hid (fun a ha => by have h1 := ha.elim (hnA a) (hnB a); have h2 := LQ.out; omega)
        replace BQ := Lib.hid (hc.at_ BQ.out (by simp))
        replace LQ := Lib.hid (Nat.lt_of_lt_of_le LQ.out hc.size)
        replace CC := Lib.hid (CC.out.trans hc)
        clear hX hA hB hnA hnB hne hc
        refine hK.out _ _ (DX.out _ CC.out) (fun hHeld => ?_)
        clear hK K
        try simp only [Act.put, sA, s0, s1]
        refine wpAnyH_ready (rs := [3, 4]) (by kernel_rfl) (by simp) ?_
        refine AllReadyH.cons rfl (fun K hK => ?_) (AllReadyH.cons rfl (fun K hK => ?_) AllReadyH.nil)
        · skip
          replace hK := Lib.hid hK
          go_simp
          refine (copyev_x wc y f (HY.out.chg CC.out) ⟨SY.out.1.2.1, SY.out.2⟩).mono ?_
          rintro r wc ⟨Y, rfl, hX, hA, hB, hnA, hnB, hne, hc⟩
          have RY := Lib.hid hX
          have LY : Hid (∀ a : Addr, Y.A = some a ∨ Y.B = some a → a.block < wc.heap.size) := Lib.hid (fun a ha => ha.elim (hA.lt8_ a) (hB.lt_ a))
          have YQ : Hid (∀ a : Addr, Y.A = some a ∨ Y.B = some a → a.block ≠ q) := Lib.hid (fun a ha => by have h1 := ha.elim (hnA a) (hnB a); have h2 := LQ.out; omega)
          replace BQ := Lib.hid (hc.at_ BQ.out (by simp))
          replace LQ := Lib.hid (Nat.lt_of_lt_of_le LQ.out hc.size)
          replace RX := Lib.hid (RX.out.chg hc)
          replace LX := Lib.hid (fun (a : Addr) ha => Nat.lt_of_lt_of_le (LX.out a ha) hc.size)
          replace CC := Lib.hid (CC.out.trans hc)
          clear hX hA hB hnA hnB hne hc
          refine hK.out _ _ (DX.out _ CC.out) (fun hHeld => ?_)
          clear hK K
          try simp only [Act.put, sA, s0, s1]
          refine wpAnyH_ready (rs := [4]) (by kernel_rfl) (by simp) ?_
          refine AllReadyH.cons rfl (fun K hK => ?_) AllReadyH.nil
          replace hK := Lib.hid hK
          go_simp
          obtain ⟨p, hp⟩ : ∃ n, n = wc.heap.size := ⟨_, rfl⟩
          have XP : Hid (∀ a : Addr, X.A = some a ∨ X.B = some a → a.block ≠ p) := Lib.hid (fun a ha => by have := LX.out a ha; omega)
          have YP : Hid (∀ a : Addr, Y.A = some a ∨ Y.B = some a → a.block ≠ p) := Lib.hid (fun a ha => by have := LY.out a ha; omega)
          have NE : Hid (¬ p = q) := Lib.hid (by have := LQ.out; omega)
          have GP : Hid (w3.heap.size ≤ p) := Lib.hid (by have := CC.out.size; omega)
          obtain ⟨wc, hw, cn, bn⟩ := news1 wc (.cells #[.int .i64 0, .int .i64 0, .string ⟨#[]⟩, .int .i64 0, .int .i64 0, .slice none 0 0, .slice none 0 0] 29)
          rw [← hw, ← hp]
          rw [← hp] at bn
          replace BQ := Lib.hid (cn.at_ BQ.out (by simp))
          replace LQ := Lib.hid (Nat.lt_of_lt_of_le LQ.out cn.size)
          replace RX := Lib.hid (RX.out.chg cn)
          replace LX := Lib.hid (fun (a : Addr) ha => Nat.lt_of_lt_of_le (LX.out a ha) cn.size)
          replace RY := Lib.hid (RY.out.chg cn)
          replace LY := Lib.hid (fun (a : Addr) ha => Nat.lt_of_lt_of_le (LY.out a ha) cn.size)
          have BP := Lib.hid bn
          have LP : Hid (p < wc.heap.size) := Lib.hid (lt_of_heap bn)
          replace CC := Lib.hid (CC.out.trans cn)
          clear hw hp cn bn
          refine hK.out _ _ (DX.out _ CC.out) (fun hHeld => ?_)
          clear hK K
          try simp only [Act.put, sA, s0, s1]
          refine wpAnyH_ready (rs := [6]) (by kernel_rfl) (by simp) ?_
          refine AllReadyH.cons rfl (fun K hK => ?_) AllReadyH.nil
          replace hK := Lib.hid hK
          have npq : ¬ p = q := NE.out
          have nqp : ¬ q = p := fun h => npq h.symm
          have f0 := free_of BP.out 0
          have f1 := free_of BP.out 1
          have f2 := free_of BP.out 2
          have f3 := free_of BP.out 3
          have f4 := free_of BP.out 4
          have f5 := free_of BP.out 5
          have f6 := free_of BP.out 6
          have v0 := cell_of BP.out 0
          have v1 := cell_of BP.out 1
          have v2 := cell_of BP.out 2
          have v3 := cell_of BP.out 3
          have v4 := cell_of BP.out 4
          have v5 := cell_of BP.out 5
          have v6 := cell_of BP.out 6
          simp only [List.getElem?_toArray, List.getElem?_cons_succ, List.getElem?_cons_zero] at v0 v1 v2 v3 v4 v5 v6
          go_simp
          clear f0 v0 f1 v1 f2 v2 f3 v3 f4 v4 f5 v5 f6 v6
          obtain ⟨bk, ok, ck⟩ := setC7 (.int .i64 X.n) (.int .i64 X.s) (.string X.p) (.int .i64 X.k) (.int .i64 X.m) (.slice X.A X.l X.c) (.slice X.B X.bl X.bc) BP.out
          replace BP := Lib.hid bk
          replace BQ := Lib.hid (ok _ _ npq BQ.out)
          replace RX := Lib.hid (RX.out.chgS ck (fun a ha => by simp; exact XP.out a (.inl ha)) (fun a ha => by simp; exact XP.out a (.inr ha)))
          replace RY := Lib.hid (RY.out.chgS ck (fun a ha => by simp; exact YP.out a (.inl ha)) (fun a ha => by simp; exact YP.out a (.inr ha)))
          replace CC := Lib.hid (CC.out.trans' ck (fun i hi => .inr (by have := GP.out; simp at hi; omega)))
          clear bk ok ck
          obtain ⟨wc, hwc⟩ : ∃ w9 : World, w9 = (((((((wc.setCell ⟨p, 0, none⟩ (.int .i64 X.n)).setCell ⟨p, 1, none⟩ (.int .i64 X.s)).setCell ⟨p, 2, none⟩ (.string X.p)).setCell ⟨p, 3, none⟩ (.int .i64 X.k)).setCell ⟨p, 4, none⟩ (.int .i64 X.m)).setCell ⟨p, 5, none⟩ (.slice X.A X.l X.c)).setCell ⟨p, 6, none⟩ (.slice X.B X.bl X.bc)) := ⟨_, rfl⟩
          rw [← hwc] at BP BQ RX RY CC ⊢
          clear hwc
          refine hK.out _ _ (DX.out _ CC.out) (fun hHeld => ?_)
          clear hK K
          try simp only [Act.put, sA, s0, s1]
          refine wpAnyH_ready (rs := [7]) (by kernel_rfl) (by simp) ?_
          refine AllReadyH.cons rfl (fun K hK => ?_) AllReadyH.nil
          replace hK := Lib.hid hK
          have f0 := free_of BQ.out 0
          have f1 := free_of BQ.out 1
          have f2 := free_of BQ.out 2
          have f3 := free_of BQ.out 3
          have f4 := free_of BQ.out 4
          have f5 := free_of BQ.out 5
          have f6 := free_of BQ.out 6
          have v0 := cell_of BQ.out 0
          have v1 := cell_of BQ.out 1
          have v2 := cell_of BQ.out 2
          have v3 := cell_of BQ.out 3
          have v4 := cell_of BQ.out 4
          have v5 := cell_of BQ.out 5
          have v6 := cell_of BQ.out 6
          simp only [List.getElem?_toArray, List.getElem?_cons_succ, List.getElem?_cons_zero] at v0 v1 v2 v3 v4 v5 v6
          go_simp
          clear f0 v0 f1 v1 f2 v2 f3 v3 f4 v4 f5 v5 f6 v6
          obtain ⟨bk, ok, ck⟩ := setC7 (.int .i64 Y.n) (.int .i64 Y.s) (.string Y.p) (.int .i64 Y.k) (.int .i64 Y.m) (.slice Y.A Y.l Y.c) (.slice Y.B Y.bl Y.bc) BQ.out
          replace BQ := Lib.hid bk
          replace BP := Lib.hid (ok _ _ nqp BP.out)
          replace RX := Lib.hid (RX.out.chgS ck (fun a ha => by simp; exact XQ.out a (.inl ha)) (fun a ha => by simp; exact XQ.out a (.inr ha)))
          replace RY := Lib.hid (RY.out.chgS ck (fun a ha => by simp; exact YQ.out a (.inl ha)) (fun a ha => by simp; exact YQ.out a (.inr ha)))
          replace CC := Lib.hid (CC.out.trans' ck (fun i hi => .inr (by have := GQ.out; simp at hi; omega)))
          clear bk ok ck
          obtain ⟨wc, hwc⟩ : ∃ w9 : World, w9 = (((((((wc.setCell ⟨q, 0, none⟩ (.int .i64 Y.n)).setCell ⟨q, 1, none⟩ (.int .i64 Y.s)).setCell ⟨q, 2, none⟩ (.string Y.p)).setCell ⟨q, 3, none⟩ (.int .i64 Y.k)).setCell ⟨q, 4, none⟩ (.int .i64 Y.m)).setCell ⟨q, 5, none⟩ (.slice Y.A Y.l Y.c)).setCell ⟨q, 6, none⟩ (.slice Y.B Y.bl Y.bc)) := ⟨_, rfl⟩
          rw [← hwc] at BP BQ RX RY CC ⊢
          clear hwc
          refine hK.out _ _ (DX.out _ CC.out) (fun hHeld => ?_)
          clear hK K
          try simp only [Act.put, sA, s0, s1]
          refine wpAnyH_done (by kernel_rfl) ?_ _
          clear hHeld
          exact JOIN X Y p q _ ⟨RX, RY, BP, BQ, CC⟩
        · skip
          replace hK := Lib.hid hK
          go_simp
          obtain ⟨p, hp⟩ : ∃ n, n = wc.heap.size := ⟨_, rfl⟩
          have XP : Hid (∀ a : Addr, X.A = some a ∨ X.B = some a → a.block ≠ p) := Lib.hid (fun a ha => by have := LX.out a ha; omega)
          have NE : Hid (¬ p = q) := Lib.hid (by have := LQ.out; omega)
          have GP : Hid (w3.heap.size ≤ p) := Lib.hid (by have := CC.out.size; omega)
          obtain ⟨wc, hw, cn, bn⟩ := news1 wc (.cells #[.int .i64 0, .int .i64 0, .string ⟨#[]⟩, .int .i64 0, .int .i64 0, .slice none 0 0, .slice none 0 0] 29)
          rw [← hw, ← hp]
          rw [← hp] at bn
          replace BQ := Lib.hid (cn.at_ BQ.out (by simp))
          replace LQ := Lib.hid (Nat.lt_of_lt_of_le LQ.out cn.size)
          replace RX := Lib.hid (RX.out.chg cn)
          replace LX := Lib.hid (fun (a : Addr) ha => Nat.lt_of_lt_of_le (LX.out a ha) cn.size)
          have BP := Lib.hid bn
          have LP : Hid (p < wc.heap.size) := Lib.hid (lt_of_heap bn)
          replace CC := Lib.hid (CC.out.trans cn)
          clear hw hp cn bn
          refine hK.out _ _ (DX.out _ CC.out) (fun hHeld => ?_)
          clear hK K
          try simp only [Act.put, sA, s0, s1]
          refine wpAnyH_ready (rs := [3]) (by kernel_rfl) (by simp) ?_
          refine AllReadyH.cons rfl (fun K hK => ?_) AllReadyH.nil
          replace hK := Lib.hid hK
          go_simp
          refine (copyev_x wc y f (HY.out.chg CC.out) ⟨SY.out.1.2.1, SY.out.2⟩).mono ?_
          rintro r wc ⟨Y, rfl, hX, hA, hB, hnA, hnB, hne, hc⟩
          have RY := Lib.hid hX
          have LY : Hid (∀ a : Addr, Y.A = some a ∨ Y.B = some a → a.block < wc.heap.size) := Lib.hid (fun a ha => ha.elim (hA.lt8_ a) (hB.lt_ a))
          have YP : Hid (∀ a : Addr, Y.A = some a ∨ Y.B = some a → a.block ≠ p) := Lib.hid (fun a ha => by have h1 := ha.elim (hnA a) (hnB a); have h2 := LP.out; omega)
          have YQ : Hid (∀ a : Addr, Y.A = some a ∨ Y.B = some a → a.block ≠ q) := Lib.hid (fun a ha => by have h1 := ha.elim (hnA a) (hnB a); have h2 := LQ.out; omega)
          replace BP := Lib.hid (hc.at_ BP.out (by simp))
          replace LP := Lib.hid (Nat.lt_of_lt_of_le LP.out hc.size)
          replace BQ := Lib.hid (hc.at_ BQ.out (by simp))
          replace LQ := Lib.hid (Nat.lt_of_lt_of_le LQ.out hc.size)
          replace RX := Lib.hid (RX.out.chg hc)
          replace LX := Lib.hid (fun (a : Addr) ha => Nat.lt_of_lt_of_le (LX.out a ha) hc.size)
          replace CC := Lib.hid (CC.out.trans hc)
          clear hX hA hB hnA hnB hne hc
          refine hK.out _ _ (DX.out _ CC.out) (fun hHeld => ?_)
          clear hK K
          try simp only [Act.put, sA, s0, s1]
          refine wpAnyH_ready (rs := [6]) (by kernel_rfl) (by simp) ?_
          refine AllReadyH.cons rfl (fun K hK => ?_) AllReadyH.nil
          replace hK := Lib.hid hK
          have npq : ¬ p = q := NE.out
          have nqp : ¬ q = p := fun h => npq h.symm
          have f0 := free_of BP.out 0
          have f1 := free_of BP.out 1
          have f2 := free_of BP.out 2
          have f3 := free_of BP.out 3
          have f4 := free_of BP.out 4
          have f5 := free_of BP.out 5
          have f6 := free_of BP.out 6
          have v0 := cell_of BP.out 0
          have v1 := cell_of BP.out 1
          have v2 := cell_of BP.out 2
          have v3 := cell_of BP.out 3
          have v4 := cell_of BP.out 4
          have v5 := cell_of BP.out 5
          have v6 := cell_of BP.out 6
          simp only [List.getElem?_toArray, List.getElem?_cons_succ, List.getElem?_cons_zero] at v0 v1 v2 v3 v4 v5 v6
          go_simp
          clear f0 v0 f1 v1 f2 v2 f3 v3 f4 v4 f5 v5 f6 v6
          obtain ⟨bk, ok, ck⟩ := setC7 (.int .i64 X.n) (.int .i64 X.s) (.string X.p) (.int .i64 X.k) (.int .i64 X.m) (.slice X.A X.l X.c) (.slice X.B X.bl X.bc) BP.out
          replace BP := Lib.hid bk
          replace BQ := Lib.hid (ok _ _ npq BQ.out)
          replace RX := Lib.hid (RX.out.chgS ck (fun a ha => by simp; exact XP.out a (.inl ha)) (fun a ha => by simp; exact XP.out a (.inr ha)))
          replace RY := Lib.hid (RY.out.chgS ck (fun a ha => by simp; exact YP.out a (.inl ha)) (fun a ha => by simp; exact YP.out a (.inr ha)))
          replace CC := Lib.hid (CC.out.trans' ck (fun i hi => .inr (by have := GP.out; simp at hi; omega)))
          clear bk ok ck
          obtain ⟨wc, hwc⟩ : ∃ w9 : World, w9 = (((((((wc.setCell ⟨p, 0, none⟩ (.int .i64 X.n)).setCell ⟨p, 1, none⟩ (.int .i64 X.s)).setCell ⟨p, 2, none⟩ (.string X.p)).setCell ⟨p, 3, none⟩ (.int .i64 X.k)).setCell ⟨p, 4, none⟩ (.int .i64 X.m)).setCell ⟨p, 5, none⟩ (.slice X.A X.l X.c)).setCell ⟨p, 6, none⟩ (.slice X.B X.bl X.bc)) := ⟨_, rfl⟩
          rw [← hwc] at BP BQ RX RY CC ⊢
          clear hwc
          refine hK.out _ _ (DX.out _ CC.out) (fun hHeld => ?_)
          clear hK K
          try simp only [Act.put, sA, s0, s1]
          refine wpAnyH_ready (rs := [7]) (by kernel_rfl) (by simp) ?_
          refine AllReadyH.cons rfl (fun K hK => ?_) AllReadyH.nil
          replace hK := Lib.hid hK
          have f0 := free_of BQ.out 0
          have f1 := free_of BQ.out 1
          have f2 := free_of BQ.out 2
          have f3 := free_of BQ.out 3
          have f4 := free_of BQ.out 4
          have f5 := free_of BQ.out 5
          have f6 := free_of BQ.out 6
          have v0 := cell_of BQ.out 0
          have v1 := cell_of BQ.out 1
          have v2 := cell_of BQ.out 2
          have v3 := cell_of BQ.out 3
          have v4 := cell_of BQ.out 4
          have v5 := cell_of BQ.out 5
          have v6 := cell_of BQ.out 6
          simp only [List.getElem?_toArray, List.getElem?_cons_succ, List.getElem?_cons_zero] at v0 v1 v2 v3 v4 v5 v6
          go_simp
          clear f0 v0 f1 v1 f2 v2 f3 v3 f4 v4 f5 v5 f6 v6
          obtain ⟨bk, ok, ck⟩ := setC7 (.int .i64 Y.n) (.int .i64 Y.s) (.string Y.p) (.int .i64 Y.k) (.int .i64 Y.m) (.slice Y.A Y.l Y.c) (.slice Y.B Y.bl Y.bc) BQ.out
          replace BQ := Lib.hid bk
          replace BP := Lib.hid (ok _ _ nqp BP.out)
          replace RX := Lib.hid (RX.out.chgS ck (fun a ha => by simp; exact XQ.out a (.inl ha)) (fun a ha => by simp; exact XQ.out a (.inr ha)))
          replace RY := Lib.hid (RY.out.chgS ck (fun a ha => by simp; exact YQ.out a (.inl ha)) (fun a ha => by simp; exact YQ.out a (.inr ha)))
          replace CC := Lib.hid (CC.out.trans' ck (fun i hi => .inr (by have := GQ.out; simp at hi; omega)))
          clear bk ok ck
          obtain ⟨wc, hwc⟩ : ∃ w9 : World, w9 = (((((((wc.setCell ⟨q, 0, none⟩ (.int .i64 Y.n)).setCell ⟨q, 1, none⟩ (.int .i64 Y.s)).setCell ⟨q, 2, none⟩ (.string Y.p)).setCell ⟨q, 3, none⟩ (.int .i64 Y.k)).setCell ⟨q, 4, none⟩ (.int .i64 Y.m)).setCell ⟨q, 5, none⟩ (.slice Y.A Y.l Y.c)).setCell ⟨q, 6, none⟩ (.slice Y.B Y.bl Y.bc)) := ⟨_, rfl⟩
          rw [← hwc] at BP BQ RX RY CC ⊢
          clear hwc
          refine hK.out _ _ (DX.out _ CC.out) (fun hHeld => ?_)
          clear hK K
          try simp only [Act.put, sA, s0, s1]
          refine wpAnyH_done (by kernel_rfl) ?_ _
          clear hHeld
          exact JOIN X Y p q _ ⟨RX, RY, BP, BQ, CC⟩
      · skip
        replace hK := Lib.hid hK
        go_simp
        obtain ⟨p, hp⟩ : ∃ n, n = wc.heap.size := ⟨_, rfl⟩
        have NE : Hid (¬ p = q) := Lib.hid (by have := LQ.out; omega)
        have GP : Hid (w3.heap.size ≤ p) := Lib.hid (by have := CC.out.size; omega)
        obtain ⟨wc, hw, cn, bn⟩ := news1 wc (.cells #[.int .i64 0, .int .i64 0, .string ⟨#[]⟩, .int .i64 0, .int .i64 0, .slice none 0 0, .slice none 0 0] 29)
        rw [← hw, ← hp]
        rw [← hp] at bn
        replace BQ := Lib.hid (cn.at_ BQ.out (by simp))
        replace LQ := Lib.hid (Nat.lt_of_lt_of_le LQ.out cn.size)
        have BP := Lib.hid bn
        have LP : Hid (p < wc.heap.size) := Lib.hid (lt_of_heap bn)
        replace CC := Lib.hid (CC.out.trans cn)
        clear hw hp cn bn
        refine hK.out _ _ (DX.out _ CC.out) (fun hHeld => ?_)
        clear hK K
        try simp only [Act.put, sA, s0, s1]
        refine wpAnyH_ready (rs := [1]) (by kernel_rfl) (by simp) ?_
        refine AllReadyH.cons rfl (fun K hK => ?_) AllReadyH.nil
        replace hK := Lib.hid hK
        go_simp
        refine (copyev_x wc x e (HX.out.chg CC.out) ⟨SX.out.1.2.1, SX.out.2⟩).mono ?_
        rintro r wc ⟨X, rfl, hX, hA, hB, hnA, hnB, hne, hc⟩
        have RX := Lib.hid hX
        have LX : Hid (∀ a : Addr, X.A = some a ∨ X.B = some a → a.block < wc.heap.size) := Lib.hid (fun a ha => ha.elim (hA.lt8_ a) (hB.lt_ a))
        have XP : Hid (∀ a : Addr, X.A = some a ∨ X.B = some a → a.block ≠ p) := Lib.hid (fun a ha => by have h1 := ha.elim (hnA a) (hnB a); have h2 := LP.out; omega)
        have XQ : Hid (∀ a : Addr, X.A = some a ∨ X.B = some a → a.block ≠ q) := Lib.hid (fun a ha => by have h1 := ha.elim (hnA a) (hnB a); have h2 := LQ.out; omega)
        replace BP := Lib.hid (hc.at_ BP.out (by simp))
        replace LP := Lib.hid (Nat.lt_of_lt_of_le LP.out hc.size)
        replace BQ := Lib.hid (hc.at_ BQ.out (by simp))
        replace LQ := Lib.hid (Nat.lt_of_lt_of_le LQ.out hc.size)
        replace CC := Lib.hid (CC.out.trans hc)
        clear hX hA hB hnA hnB hne hc
        refine hK.out _ _ (DX.out _ CC.out) (fun hHeld => ?_)
        clear hK K
        try simp only [Act.put, sA, s0, s1]
        refine wpAnyH_ready (rs := [3]) (by kernel_rfl) (by simp) ?_
        refine AllReadyH.cons rfl (fun K hK => ?_) AllReadyH.nil
        replace hK := Lib.hid hK
        go_simp
        refine (copyev_x wc y f (HY.out.chg CC.out) ⟨SY.out.1.2.1, SY.out.2⟩).mono ?_
        rintro r wc ⟨Y, rfl, hX, hA, hB, hnA, hnB, hne, hc⟩
        have RY := Lib.hid hX
        have LY : Hid (∀ a : Addr, Y.A = some a ∨ Y.B = some a → a.block < wc.heap.size) := Lib.hid (fun a ha => ha.elim (hA.lt8_ a) (hB.lt_ a))
        have YP : Hid (∀ a : Addr, Y.A = some a ∨ Y.B = some a → a.block ≠ p) := Lib.hid (fun a ha => by have h1 := ha.elim (hnA a) (hnB a); have h2 := LP.out; omega)
        have YQ : Hid (∀ a : Addr, Y.A = some a ∨ Y.B = some a → a.block ≠ q) := Lib.hid (fun a ha => by have h1 := ha.elim (hnA a) (hnB a); have h2 := LQ.out; omega)
        replace BP := Lib.hid (hc.at_ BP.out (by simp))
        replace LP := Lib.hid (Nat.lt_of_lt_of_le LP.out hc.size)
        replace BQ := Lib.hid (hc.at_ BQ.out (by simp))
        replace LQ := Lib.hid (Nat.lt_of_lt_of_le LQ.out hc.size)
        replace RX := Lib.hid (RX.out.chg hc)
        replace LX := Lib.hid (fun (a : Addr) ha => Nat.lt_of_lt_of_le (LX.out a ha) hc.size)
        replace CC := Lib.hid (CC.out.trans hc)
        clear hX hA hB hnA hnB hne hc
        refine hK.out _ _ (DX.out _ CC.out) (fun hHeld => ?_)
        clear hK K
        try simp only [Act.put, sA, s0, s1]
        refine wpAnyH_ready (rs := [6]) (by kernel_rfl) (by simp) ?_
        refine AllReadyH.cons rfl (fun K hK => ?_) AllReadyH.nil
        replace hK := Lib.hid hK
        have npq : ¬ p = q := NE.out
        have nqp : ¬ q = p := fun h => npq h.symm
        have f0 := free_of BP.out 0
        have f1 := free_of BP.out 1
        have f2 := free_of BP.out 2
        have f3 := free_of BP.out 3
        have f4 := free_of BP.out 4
        have f5 := free_of BP.out 5
        have f6 := free_of BP.out 6
        have v0 := cell_of BP.out 0
        have v1 := cell_of BP.out 1
        have v2 := cell_of BP.out 2
        have v3 := cell_of BP.out 3
        have v4 := cell_of BP.out 4
        have v5 := cell_of BP.out 5
        have v6 := cell_of BP.out 6
        simp only [List.getElem?_toArray, List.getElem?_cons_succ, List.getElem?_cons_zero] at v0 v1 v2 v3 v4 v5 v6
        go_simp
        clear f0 v0 f1 v1 f2 v2 f3 v3 f4 v4 f5 v5 f6 v6
        obtain ⟨bk, ok, ck⟩ := setC7 (.int .i64 X.n) (.int .i64 X.s) (.string X.p) (.int .i64 X.k) (.int .i64 X.m) (.slice X.A X.l X.c) (.slice X.B X.bl X.bc) BP.out
        replace BP := Lib.hid bk
        replace BQ := Lib.hid (ok _ _ npq BQ.out)
        replace RX := Lib.hid (RX.out.chgS ck (fun a ha => by simp; exact XP.out a (.inl ha)) (fun a ha => by simp; exact XP.out a (.inr ha)))
        replace RY := Lib.hid (RY.out.chgS ck (fun a ha => by simp; exact YP.out a (.inl ha)) (fun a ha => by simp; exact YP.out a (.inr ha)))
        replace CC := Lib.hid (CC.out.trans' ck (fun i hi => .inr (by have := GP.out; simp at hi; omega)))
        clear bk ok ck
        obtain ⟨wc, hwc⟩ : ∃ w9 : World, w9 = (((((((wc.setCell ⟨p, 0, none⟩ (.int .i64 X.n)).setCell ⟨p, 1, none⟩ (.int .i64 X.s)).setCell ⟨p, 2, none⟩ (.string X.p)).setCell ⟨p, 3, none⟩ (.int .i64 X.k)).setCell ⟨p, 4, none⟩ (.int .i64 X.m)).setCell ⟨p, 5, none⟩ (.slice X.A X.l X.c)).setCell ⟨p, 6, none⟩ (.slice X.B X.bl X.bc)) := ⟨_, rfl⟩
        rw [← hwc] at BP BQ RX RY CC ⊢
        clear hwc
        refine hK.out _ _ (DX.out _ CC.out) (fun hHeld => ?_)
        clear hK K
        try simp only [Act.put, sA, s0, s1]
        refine wpAnyH_ready (rs := [7]) (by kernel_rfl) (by simp) ?_
        refine AllReadyH.cons rfl (fun K hK => ?_) AllReadyH.nil
        replace hK := Lib.hid hK
        have f0 := free_of BQ.out 0
        have f1 := free_of BQ.out 1
        have f2 := free_of BQ.out 2
        have f3 := free_of BQ.out 3
        have f4 := free_of BQ.out 4
        have f5 := free_of BQ.out 5
        have f6 := free_of BQ.out 6
        have v0 := cell_of BQ.out 0
        have v1 := cell_of BQ.out 1
        have v2 := cell_of BQ.out 2
        have v3 := cell_of BQ.out 3
        have v4 := cell_of BQ.out 4
        have v5 := cell_of BQ.out 5
        have v6 := cell_of BQ.out 6
        simp only [List.getElem?_toArray, List.getElem?_cons_succ, List.getElem?_cons_zero] at v0 v1 v2 v3 v4 v5 v6
        go_simp
        clear f0 v0 f1 v1 f2 v2 f3 v3 f4 v4 f5 v5 f6 v6
        obtain ⟨bk, ok, ck⟩ := setC7 (.int .i64 Y.n) (.int .i64 Y.s) (.string Y.p) (.int .i64 Y.k) (.int .i64 Y.m) (.slice Y.A Y.l Y.c) (.slice Y.B Y.bl Y.bc) BQ.out
        replace BQ := Lib.hid bk
        replace BP := Lib.hid (ok _ _ nqp BP.out)
        replace RX := Lib.hid (RX.out.chgS ck (fun a ha => by simp; exact XQ.out a (.inl ha)) (fun a ha => by simp; exact XQ.out a (.inr ha)))
        replace RY := Lib.hid (RY.out.chgS ck (fun a ha => by simp; exact YQ.out a (.inl ha)) (fun a ha => by simp; exact YQ.out a (.inr ha)))
        replace CC := Lib.hid (CC.out.trans' ck (fun i hi => .inr (by have := GQ.out; simp at hi; omega)))
        clear bk ok ck
        obtain ⟨wc, hwc⟩ : ∃ w9 : World, w9 = (((((((wc.setCell ⟨q, 0, none⟩ (.int .i64 Y.n)).setCell ⟨q, 1, none⟩ (.int .i64 Y.s)).setCell ⟨q, 2, none⟩ (.string Y.p)).setCell ⟨q, 3, none⟩ (.int .i64 Y.k)).setCell ⟨q, 4, none⟩ (.int .i64 Y.m)).setCell ⟨q, 5, none⟩ (.slice Y.A Y.l Y.c)).setCell ⟨q, 6, none⟩ (.slice Y.B Y.bl Y.bc)) := ⟨_, rfl⟩
        rw [← hwc] at BP BQ RX RY CC ⊢
        clear hwc
        refine hK.out _ _ (DX.out _ CC.out) (fun hHeld => ?_)
        clear hK K
        try simp only [Act.put, sA, s0, s1]
        refine wpAnyH_done (by kernel_rfl) ?_ _
        clear hHeld
        exact JOIN X Y p q _ ⟨RX, RY, BP, BQ, CC⟩
  case rest =>
    rintro X Y g5 g6 w4 ⟨HI, HJ, B5, B6, hc⟩
    replace hc := hc.out
    replace C := Lib.hid (C.out.trans hc)
    replace B0 := Lib.hid (hc.at_ B0.out (by simp))
    replace B1 := Lib.hid (hc.at_ B1.out (by simp))
    replace HX := Lib.hid (HX.out.chg hc)
    replace HY := Lib.hid (HY.out.chg hc)
    clear hc
    have t0 := cell_of B5.out 0
    have t1 := cell_of B5.out 1
    have t2 := cell_of B5.out 2
    have t3 := cell_of B5.out 3
    have t4 := cell_of B5.out 4
    have t5 := cell_of B5.out 5
    have t6 := cell_of B5.out 6
    have u0 := cell_of B6.out 0
    have u1 := cell_of B6.out 1
    have u2 := cell_of B6.out 2
    have u3 := cell_of B6.out 3
    have u4 := cell_of B6.out 4
    have u5 := cell_of B6.out 5
    have u6 := cell_of B6.out 6
    simp only [List.getElem?_toArray, List.getElem?_cons_succ, List.getElem?_cons_zero] at t0 t1 t2 t3 t4 t5 t6 u0 u1 u2 u3 u4 u5 u6
    obtain ⟨PP, hPP⟩ : ∃ PP, pairP e f = PP := ⟨_, rfl⟩
    obtain ⟨PX, hPX⟩ : ∃ PX, pairX e f = PX := ⟨_, rfl⟩
    obtain ⟨cv, hcv⟩ : ∃ cv, clashP e f = cv := ⟨_, rfl⟩
    have KP := Lib.hid hPP
    have KX := Lib.hid hPX
    have KC := Lib.hid hcv
    clear hPP hPX hcv
    go_wp2_with fail
    clear t0 t1 t2 t3 t4 t5 t6 u0 u1 u2 u3 u4 u5 u6
    refine (clPairOf_any w4 X Y e f HI.out HJ.out SX.out.1 SY.out.1).mono ?_
    rintro r w5 ⟨rfl, hc⟩
    rw [KP.out, KX.out]
    obtain ⟨P0, P1, P2, P3⟩ := PP
    replace C := Lib.hid (C.out.trans hc)
    replace B0 := Lib.hid (hc.at_ B0.out (by simp))
    replace B1 := Lib.hid (hc.at_ B1.out (by simp))
    replace HX := Lib.hid (HX.out.chg hc)
    replace HY := Lib.hid (HY.out.chg hc)
    replace HI := Lib.hid (HI.out.chg hc)
    replace HJ := Lib.hid (HJ.out.chg hc)
    replace B5 := Lib.hid (hc.at_ B5.out (by simp))
    replace B6 := Lib.hid (hc.at_ B6.out (by simp))
    clear hc
    obtain ⟨w6, hw, hc, b7⟩ := news1 w5 (.cells #[.int .i64 P0, .int .i64 P1, .int .i64 P2, .int .i64 P3] 35)
    have W6 := Lib.hid hw
    have B7 := Lib.hid b7
    clear hw b7
    replace C := Lib.hid (C.out.trans hc)
    replace B0 := Lib.hid (hc.at_ B0.out (by simp))
    replace B1 := Lib.hid (hc.at_ B1.out (by simp))
    replace HX := Lib.hid (HX.out.chg hc)
    replace HY := Lib.hid (HY.out.chg hc)
    replace HI := Lib.hid (HI.out.chg hc)
    replace HJ := Lib.hid (HJ.out.chg hc)
    replace B5 := Lib.hid (hc.at_ B5.out (by simp))
    replace B6 := Lib.hid (hc.at_ B6.out (by simp))
    clear hc
    go_upto_region 5 with fail
    rw [← W6.out]
    generalize w5.heap.size = g7 at *
    clear W6
    have z0 := cell_of B0.out 0
    have z1 := cell_of B0.out 1
    have z2 := cell_of B0.out 2
    have z3 := cell_of B0.out 3
    have z4 := cell_of B0.out 4
    have z5 := cell_of B0.out 5
    have z6 := cell_of B0.out 6
    have y0 := cell_of B1.out 0
    have y1 := cell_of B1.out 1
    have y2 := cell_of B1.out 2
    have y3 := cell_of B1.out 3
    have y4 := cell_of B1.out 4
    have y5 := cell_of B1.out 5
    have y6 := cell_of B1.out 6
    simp only [List.getElem?_toArray, List.getElem?_cons_succ, List.getElem?_cons_zero] at z0 z1 z2 z3 z4 z5 z6 y0 y1 y2 y3 y4 y5 y6
    go_wp2_with fail
    clear z0 z1 z2 z3 z4 z5 z6 y0 y1 y2 y3 y4 y5 y6
    refine (klPairOf_any w6 x y e f HX.out HY.out SX.out.1 SY.out.1).mono ?_
    rintro r w7 ⟨rfl, hc⟩
    rw [KP.out, KX.out]
    replace C := Lib.hid (C.out.trans hc)
    replace B0 := Lib.hid (hc.at_ B0.out (by simp))
    replace B1 := Lib.hid (hc.at_ B1.out (by simp))
    replace HX := Lib.hid (HX.out.chg hc)
    replace HY := Lib.hid (HY.out.chg hc)
    replace HI := Lib.hid (HI.out.chg hc)
    replace HJ := Lib.hid (HJ.out.chg hc)
    replace B5 := Lib.hid (hc.at_ B5.out (by simp))
    replace B6 := Lib.hid (hc.at_ B6.out (by simp))
    replace B7 := Lib.hid (hc.at_ B7.out (by simp))
    clear hc
    obtain ⟨w8, hw, hc, b9⟩ := news1 w7 (.cells #[.int .i64 P0, .int .i64 P1, .int .i64 P2, .int .i64 P3] 35)
    have W8 := Lib.hid hw
    have B9 := Lib.hid b9
    clear hw b9
    replace C := Lib.hid (C.out.trans hc)
    replace B0 := Lib.hid (hc.at_ B0.out (by simp))
    replace B1 := Lib.hid (hc.at_ B1.out (by simp))
    replace HX := Lib.hid (HX.out.chg hc)
    replace HY := Lib.hid (HY.out.chg hc)
    replace HI := Lib.hid (HI.out.chg hc)
    replace HJ := Lib.hid (HJ.out.chg hc)
    replace B5 := Lib.hid (hc.at_ B5.out (by simp))
    replace B6 := Lib.hid (hc.at_ B6.out (by simp))
    replace B7 := Lib.hid (hc.at_ B7.out (by simp))
    clear hc
    go_upto_region 6 with fail
    rw [← W8.out]
    generalize w7.heap.size = g9 at *
    clear W8
    have SE : Hid (sameP e e = true ∧ sameP f f = true) := Lib.hid (by unfold sameP; simp)
    have z0 := cell_of B0.out 0
    have z1 := cell_of B0.out 1
    have z2 := cell_of B0.out 2
    have z3 := cell_of B0.out 3
    have z4 := cell_of B0.out 4
    have z5 := cell_of B0.out 5
    have z6 := cell_of B0.out 6
    have y0 := cell_of B1.out 0
    have y1 := cell_of B1.out 1
    have y2 := cell_of B1.out 2
    have y3 := cell_of B1.out 3
    have y4 := cell_of B1.out 4
    have y5 := cell_of B1.out 5
    have y6 := cell_of B1.out 6
    have t0 := cell_of B5.out 0
    have t1 := cell_of B5.out 1
    have t2 := cell_of B5.out 2
    have t3 := cell_of B5.out 3
    have t4 := cell_of B5.out 4
    have t5 := cell_of B5.out 5
    have t6 := cell_of B5.out 6
    have u0 := cell_of B6.out 0
    have u1 := cell_of B6.out 1
    have u2 := cell_of B6.out 2
    have u3 := cell_of B6.out 3
    have u4 := cell_of B6.out 4
    have u5 := cell_of B6.out 5
    have u6 := cell_of B6.out 6
    have v0 := cell_of B7.out 0
    have v1 := cell_of B7.out 1
    have v2 := cell_of B7.out 2
    have v3 := cell_of B7.out 3
    have s0 := cell_of B9.out 0
    have s1 := cell_of B9.out 1
    have s2 := cell_of B9.out 2
    have s3 := cell_of B9.out 3
    simp only [List.getElem?_toArray, List.getElem?_cons_succ, List.getElem?_cons_zero] at z0 z1 z2 z3 z4 z5 z6 y0 y1 y2 y3 y4 y5 y6 t0 t1 t2 t3 t4 t5 t6 u0 u1 u2 u3 u4 u5 u6 v0 v1 v2 v3 s0 s1 s2 s3
    go_upto_region 6 with fail
    refine wp_region_held_drew (S := fun w' => w'.cell? ⟨g0, 0, none⟩ = some (.int .i64 x.n) ∧ w'.cell? ⟨g0, 1, none⟩ = some (.int .i64 x.s) ∧ w'.cell? ⟨g0, 2, none⟩ = some (.string x.p) ∧ w'.cell? ⟨g0, 3, none⟩ = some (.int .i64 x.k) ∧ w'.cell? ⟨g0, 4, none⟩ = some (.int .i64 x.m) ∧ w'.cell? ⟨g0, 5, none⟩ = some (.slice x.A x.l x.c) ∧ w'.cell? ⟨g0, 6, none⟩ = some (.slice x.B x.bl x.bc) ∧ w'.cell? ⟨g1, 0, none⟩ = some (.int .i64 y.n) ∧ w'.cell? ⟨g1, 1, none⟩ = some (.int .i64 y.s) ∧ w'.cell? ⟨g1, 2, none⟩ = some (.string y.p) ∧ w'.cell? ⟨g1, 3, none⟩ = some (.int .i64 y.k) ∧ w'.cell? ⟨g1, 4, none⟩ = some (.int .i64 y.m) ∧ w'.cell? ⟨g1, 5, none⟩ = some (.slice y.A y.l y.c) ∧ w'.cell? ⟨g1, 6, none⟩ = some (.slice y.B y.bl y.bc) ∧ w'.cell? ⟨g5, 0, none⟩ = some (.int .i64 X.n) ∧ w'.cell? ⟨g5, 1, none⟩ = some (.int .i64 X.s) ∧ w'.cell? ⟨g5, 2, none⟩ = some (.string X.p) ∧ w'.cell? ⟨g5, 3, none⟩ = some (.int .i64 X.k) ∧ w'.cell? ⟨g5, 4, none⟩ = some (.int .i64 X.m) ∧ w'.cell? ⟨g5, 5, none⟩ = some (.slice X.A X.l X.c) ∧ w'.cell? ⟨g5, 6, none⟩ = some (.slice X.B X.bl X.bc) ∧ w'.cell? ⟨g6, 0, none⟩ = some (.int .i64 Y.n) ∧ w'.cell? ⟨g6, 1, none⟩ = some (.int .i64 Y.s) ∧ w'.cell? ⟨g6, 2, none⟩ = some (.string Y.p) ∧ w'.cell? ⟨g6, 3, none⟩ = some (.int .i64 Y.k) ∧ w'.cell? ⟨g6, 4, none⟩ = some (.int .i64 Y.m) ∧ w'.cell? ⟨g6, 5, none⟩ = some (.slice Y.A Y.l Y.c) ∧ w'.cell? ⟨g6, 6, none⟩ = some (.slice Y.B Y.bl Y.bc) ∧ w'.cell? ⟨g7, 0, none⟩ = some (.int .i64 P0) ∧ w'.cell? ⟨g7, 1, none⟩ = some (.int .i64 P1) ∧ w'.cell? ⟨g7, 2, none⟩ = some (.int .i64 P2) ∧ w'.cell? ⟨g7, 3, none⟩ = some (.int .i64 P3) ∧ w'.cell? ⟨g9, 0, none⟩ = some (.int .i64 P0) ∧ w'.cell? ⟨g9, 1, none⟩ = some (.int .i64 P1) ∧ w'.cell? ⟨g9, 2, none⟩ = some (.int .i64 P2) ∧ w'.cell? ⟨g9, 3, none⟩ = some (.int .i64 P3)) (by kernel_rfl) ⟨z0, z1, z2, z3, z4, z5, z6, y0, y1, y2, y3, y4, y5, y6, t0, t1, t2, t3, t4, t5, t6, u0, u1, u2, u3, u4, u5, u6, v0, v1, v2, v3, s0, s1, s2, s3⟩ (fun hHeld => ?_)
    have CD := Lib.hid (Chg.refl [] w8).drew
    clear z0 z1 z2 z3 z4 z5 z6 y0 y1 y2 y3 y4 y5 y6 t0 t1 t2 t3 t4 t5 t6 u0 u1 u2 u3 u4 u5 u6 v0 v1 v2 v3 s0 s1 s2 s3
    clear hHeld
    replace C := Lib.hid (C.out.trans CD.out)
    replace B0 := Lib.hid (CD.out.at_ B0.out (by simp))
    replace B1 := Lib.hid (CD.out.at_ B1.out (by simp))
    replace HX := Lib.hid (HX.out.chg CD.out)
    replace HY := Lib.hid (HY.out.chg CD.out)
    replace HI := Lib.hid (HI.out.chg CD.out)
    replace HJ := Lib.hid (HJ.out.chg CD.out)
    replace B5 := Lib.hid (CD.out.at_ B5.out (by simp))
    replace B6 := Lib.hid (CD.out.at_ B6.out (by simp))
    replace B7 := Lib.hid (CD.out.at_ B7.out (by simp))
    replace B9 := Lib.hid (CD.out.at_ B9.out (by simp))
    clear CD
    generalize w8.drew = w9 at *
    have DX : Hid (∀ w', Chg [] w9 w' → (fun w' => w'.cell? ⟨g0, 0, none⟩ = some (.int .i64 x.n) ∧ w'.cell? ⟨g0, 1, none⟩ = some (.int .i64 x.s) ∧ w'.cell? ⟨g0, 2, none⟩ = some (.string x.p) ∧ w'.cell? ⟨g0, 3, none⟩ = some (.int .i64 x.k) ∧ w'.cell? ⟨g0, 4, none⟩ = some (.int .i64 x.m) ∧ w'.cell? ⟨g0, 5, none⟩ = some (.slice x.A x.l x.c) ∧ w'.cell? ⟨g0, 6, none⟩ = some (.slice x.B x.bl x.bc) ∧ w'.cell? ⟨g1, 0, none⟩ = some (.int .i64 y.n) ∧ w'.cell? ⟨g1, 1, none⟩ = some (.int .i64 y.s) ∧ w'.cell? ⟨g1, 2, none⟩ = some (.string y.p) ∧ w'.cell? ⟨g1, 3, none⟩ = some (.int .i64 y.k) ∧ w'.cell? ⟨g1, 4, none⟩ = some (.int .i64 y.m) ∧ w'.cell? ⟨g1, 5, none⟩ = some (.slice y.A y.l y.c) ∧ w'.cell? ⟨g1, 6, none⟩ = some (.slice y.B y.bl y.bc) ∧ w'.cell? ⟨g5, 0, none⟩ = some (.int .i64 X.n) ∧ w'.cell? ⟨g5, 1, none⟩ = some (.int .i64 X.s) ∧ w'.cell? ⟨g5, 2, none⟩ = some (.string X.p) ∧ w'.cell? ⟨g5, 3, none⟩ = some (.int .i64 X.k) ∧ w'.cell? ⟨g5, 4, none⟩ = some (.int .i64 X.m) ∧ w'.cell? ⟨g5, 5, none⟩ = some (.slice X.A X.l X.c) ∧ w'.cell? ⟨g5, 6, none⟩ = some (.slice X.B X.bl X.bc) ∧ w'.cell? ⟨g6, 0, none⟩ = some (.int .i64 Y.n) ∧ w'.cell? ⟨g6, 1, none⟩ = some (.int .i64 Y.s) ∧ w'.cell? ⟨g6, 2, none⟩ = some (.string Y.p) ∧ w'.cell? ⟨g6, 3, none⟩ = some (.int .i64 Y.k) ∧ w'.cell? ⟨g6, 4, none⟩ = some (.int .i64 Y.m) ∧ w'.cell? ⟨g6, 5, none⟩ = some (.slice Y.A Y.l Y.c) ∧ w'.cell? ⟨g6, 6, none⟩ = some (.slice Y.B Y.bl Y.bc) ∧ w'.cell? ⟨g7, 0, none⟩ = some (.int .i64 P0) ∧ w'.cell? ⟨g7, 1, none⟩ = some (.int .i64 P1) ∧ w'.cell? ⟨g7, 2, none⟩ = some (.int .i64 P2) ∧ w'.cell? ⟨g7, 3, none⟩ = some (.int .i64 P3) ∧ w'.cell? ⟨g9, 0, none⟩ = some (.int .i64 P0) ∧ w'.cell? ⟨g9, 1, none⟩ = some (.int .i64 P1) ∧ w'.cell? ⟨g9, 2, none⟩ = some (.int .i64 P2) ∧ w'.cell? ⟨g9, 3, none⟩ = some (.int .i64 P3)) w') := Lib.hid (fun w' hc => by
      have b0 := hc.at_ B0.out (by simp)
      have b1 := hc.at_ B1.out (by simp)
      have b5 := hc.at_ B5.out (by simp)
      have b6 := hc.at_ B6.out (by simp)
      have b7 := hc.at_ B7.out (by simp)
      have b9 := hc.at_ B9.out (by simp)
      exact ⟨cell_of b0 0, cell_of b0 1, cell_of b0 2, cell_of b0 3, cell_of b0 4, cell_of b0 5, cell_of b0 6, cell_of b1 0, cell_of b1 1, cell_of b1 2, cell_of b1 3, cell_of b1 4, cell_of b1 5, cell_of b1 6, cell_of b5 0, cell_of b5 1, cell_of b5 2, cell_of b5 3, cell_of b5 4, cell_of b5 5, cell_of b5 6, cell_of b6 0, cell_of b6 1, cell_of b6 2, cell_of b6 3, cell_of b6 4, cell_of b6 5, cell_of b6 6, cell_of b7 0, cell_of b7 1, cell_of b7 2, cell_of b7 3, cell_of b9 0, cell_of b9 1, cell_of b9 2, cell_of b9 3⟩)
    obtain ⟨wc, hwc⟩ : ∃ wc, w9 = wc := ⟨_, rfl⟩
    have CC : Hid (Chg [] w9 wc) := Lib.hid (hwc ▸ Chg.refl [] w9)
    rw [hwc]
    clear hwc
    refine sy 0 32 rfl rfl ?_ (hS := (DX.out _ CC.out)) (hy := by (intro w hSw; (try dsimp only at hSw); obtain ⟨q0, q1, q2, q3, q4, q5, q6, q7, q8, q9, q10, q11, q12, q13, q14, q15, q16, q17, q18, q19, q20, q21, q22, q23, q24, q25, q26, q27, q28, q29, q30, q31, q32, q33, q34, q35⟩ := hSw; go_simp; try with_reducible rfl))
    try simp only [Act.put, sA, s0, s1]
    refine sy 1 33 rfl rfl ?_ (hS := (DX.out _ CC.out)) (hy := by (intro w hSw; (try dsimp only at hSw); obtain ⟨q0, q1, q2, q3, q4, q5, q6, q7, q8, q9, q10, q11, q12, q13, q14, q15, q16, q17, q18, q19, q20, q21, q22, q23, q24, q25, q26, q27, q28, q29, q30, q31, q32, q33, q34, q35⟩ := hSw; go_simp; try with_reducible rfl))
    try simp only [Act.put, sA, s0, s1]
    refine sy 2 34 rfl rfl ?_ (hS := (DX.out _ CC.out))
    try simp only [Act.put, sA, s0, s1]
    refine sy 3 35 rfl rfl ?_ (hS := (DX.out _ CC.out))
    try simp only [Act.put, sA, s0, s1]
    refine sy 4 36 rfl rfl ?_ (hS := (DX.out _ CC.out))
    try simp only [Act.put, sA, s0, s1]
    refine sy 5 37 rfl rfl ?_ (hS := (DX.out _ CC.out))
    try simp only [Act.put, sA, s0, s1]
    refine sy 6 38 rfl rfl ?_ (hS := (DX.out _ CC.out))
    try simp only [Act.put, sA, s0, s1]
    refine sy 7 39 rfl rfl ?_ (hS := (DX.out _ CC.out))
    try simp only [Act.put, sA, s0, s1]
    refine sy 8 40 rfl rfl ?_ (hS := (DX.out _ CC.out))
    try simp only [Act.put, sA, s0, s1]
    refine sy 9 41 rfl rfl ?_ (hS := (DX.out _ CC.out)) (hy := by (intro w hSw; (try dsimp only at hSw); obtain ⟨q0, q1, q2, q3, q4, q5, q6, q7, q8, q9, q10, q11, q12, q13, q14, q15, q16, q17, q18, q19, q20, q21, q22, q23, q24, q25, q26, q27, q28, q29, q30, q31, q32, q33, q34, q35⟩ := hSw; go_simp; try with_reducible rfl))
    try simp only [Act.put, sA, s0, s1]
    refine sy 10 42 rfl rfl ?_ (hS := (DX.out _ CC.out)) (hy := by (intro w hSw; (try dsimp only at hSw); obtain ⟨q0, q1, q2, q3, q4, q5, q6, q7, q8, q9, q10, q11, q12, q13, q14, q15, q16, q17, q18, q19, q20, q21, q22, q23, q24, q25, q26, q27, q28, q29, q30, q31, q32, q33, q34, q35⟩ := hSw; go_simp; try with_reducible rfl))
    try simp only [Act.put, sA, s0, s1]
    refine sy 12 44 rfl rfl ?_ (hS := (DX.out _ CC.out)) (hy := by (intro w hSw; (try dsimp only at hSw); obtain ⟨q0, q1, q2, q3, q4, q5, q6, q7, q8, q9, q10, q11, q12, q13, q14, q15, q16, q17, q18, q19, q20, q21, q22, q23, q24, q25, q26, q27, q28, q29, q30, q31, q32, q33, q34, q35⟩ := hSw; go_simp; try with_reducible rfl))
    try simp only [Act.put, sA, s0, s1]
    refine sy 13 45 rfl rfl ?_ (hS := (DX.out _ CC.out)) (hy := by (intro w hSw; (try dsimp only at hSw); obtain ⟨q0, q1, q2, q3, q4, q5, q6, q7, q8, q9, q10, q11, q12, q13, q14, q15, q16, q17, q18, q19, q20, q21, q22, q23, q24, q25, q26, q27, q28, q29, q30, q31, q32, q33, q34, q35⟩ := hSw; go_simp; try with_reducible rfl))
    try simp only [Act.put, sA, s0, s1]
    refine wpAnyH_ready (rs := [11]) (by kernel_rfl) (by simp) ?_
    refine AllReadyH.cons rfl (fun K hK => ?_) AllReadyH.nil
    replace hK := Lib.hid hK
    go_simp
    refine (clClash_any wc X Y e f (HI.out.chg CC.out) (HJ.out.chg CC.out) SX.out.1 SY.out.1).mono ?_
    rintro r wc ⟨rfl, hc⟩
    rw [KC.out]
    replace CC := Lib.hid (CC.out.trans hc)
    clear hc
    refine hK.out _ _ (DX.out _ CC.out) (fun hHeld => ?_)
    clear hK K
    try simp only [Act.put, sA, s0, s1]
    refine wpAnyH_ready (rs := [14]) (by kernel_rfl) (by simp) ?_
    refine AllReadyH.cons rfl (fun K hK => ?_) AllReadyH.nil
    replace hK := Lib.hid hK
    go_simp
    refine (klClash_any wc x y e f (HX.out.chg CC.out) (HY.out.chg CC.out) SX.out.1 SY.out.1).mono ?_
    rintro r wc ⟨rfl, hc⟩
    rw [KC.out]
    replace CC := Lib.hid (CC.out.trans hc)
    clear hc
    refine hK.out _ _ (DX.out _ CC.out) (fun hHeld => ?_)
    clear hK K
    try simp only [Act.put, sA, s0, s1]
    refine sy 15 47 rfl rfl ?_ (hS := (DX.out _ CC.out))
    try simp only [Act.put, sA, s0, s1]
    refine sy 16 48 rfl rfl ?_ (hS := (DX.out _ CC.out))
    try simp only [Act.put, sA, s0, s1]
    refine sy 17 49 rfl rfl ?_ (hS := (DX.out _ CC.out))
    try simp only [Act.put, sA, s0, s1]
    refine sy 18 50 rfl rfl ?_ (hS := (DX.out _ CC.out)) (hy := by (intro w hSw; (try dsimp only at hSw); obtain ⟨q0, q1, q2, q3, q4, q5, q6, q7, q8, q9, q10, q11, q12, q13, q14, q15, q16, q17, q18, q19, q20, q21, q22, q23, q24, q25, q26, q27, q28, q29, q30, q31, q32, q33, q34, q35⟩ := hSw; go_simp; try with_reducible rfl))
    try simp only [Act.put, sA, s0, s1]
    refine sy 19 51 rfl rfl ?_ (hS := (DX.out _ CC.out)) (hy := by (intro w hSw; (try dsimp only at hSw); obtain ⟨q0, q1, q2, q3, q4, q5, q6, q7, q8, q9, q10, q11, q12, q13, q14, q15, q16, q17, q18, q19, q20, q21, q22, q23, q24, q25, q26, q27, q28, q29, q30, q31, q32, q33, q34, q35⟩ := hSw; go_simp; try with_reducible rfl))
    try simp only [Act.put, sA, s0, s1]
    refine wpAnyH_ready (rs := [20]) (by kernel_rfl) (by simp) ?_
    refine AllReadyH.cons rfl (fun K hK => ?_) AllReadyH.nil
    replace hK := Lib.hid hK
    go_simp
    refine (sameev_any wc X x e e (HI.out.chg CC.out) (HX.out.chg CC.out) ⟨SX.out.1.2.2, SX.out.1.2.2⟩).mono ?_
    rintro r wc ⟨rfl, hc⟩
    rw [SE.out.1]
    replace CC := Lib.hid (CC.out.trans hc)
    clear hc
    refine hK.out _ _ (DX.out _ CC.out) (fun hHeld => ?_)
    clear hK K
    try simp only [Act.put, sA, s0, s1]
    refine sy 21 53 rfl rfl ?_ (hS := (DX.out _ CC.out))
    try simp only [Act.put, sA, s0, s1]
    refine sy 22 54 rfl rfl ?_ (hS := (DX.out _ CC.out))
    try simp only [Act.put, sA, s0, s1]
    refine sy 23 55 rfl rfl ?_ (hS := (DX.out _ CC.out)) (hy := by (intro w hSw; (try dsimp only at hSw); obtain ⟨q0, q1, q2, q3, q4, q5, q6, q7, q8, q9, q10, q11, q12, q13, q14, q15, q16, q17, q18, q19, q20, q21, q22, q23, q24, q25, q26, q27, q28, q29, q30, q31, q32, q33, q34, q35⟩ := hSw; go_simp; try with_reducible rfl))
    try simp only [Act.put, sA, s0, s1]
    refine sy 24 56 rfl rfl ?_ (hS := (DX.out _ CC.out)) (hy := by (intro w hSw; (try dsimp only at hSw); obtain ⟨q0, q1, q2, q3, q4, q5, q6, q7, q8, q9, q10, q11, q12, q13, q14, q15, q16, q17, q18, q19, q20, q21, q22, q23, q24, q25, q26, q27, q28, q29, q30, q31, q32, q33, q34, q35⟩ := hSw; go_simp; try with_reducible rfl))
    try simp only [Act.put, sA, s0, s1]
    refine wpAnyH_ready (rs := [25]) (by kernel_rfl) (by simp) ?_
    refine AllReadyH.cons rfl (fun K hK => ?_) AllReadyH.nil
    replace hK := Lib.hid hK
    go_simp
    refine (sameev_any wc Y y f f (HJ.out.chg CC.out) (HY.out.chg CC.out) ⟨SY.out.1.2.2, SY.out.1.2.2⟩).mono ?_
    rintro r wc ⟨rfl, hc⟩
    rw [SE.out.2]
    replace CC := Lib.hid (CC.out.trans hc)
    clear hc
    refine hK.out _ _ (DX.out _ CC.out) (fun hHeld => ?_)
    clear hK K
    try simp only [Act.put, sA, s0, s1]
    refine sy 26 58 rfl rfl ?_ (hS := (DX.out _ CC.out))
    try simp only [Act.put, sA, s0, s1]
    refine sy 27 59 rfl rfl ?_ (hS := (DX.out _ CC.out))
    try simp only [Act.put, sA, s0, s1]
    refine wpAnyH_ready (rs := [28]) (by kernel_rfl) (by simp) ?_
    refine AllReadyH.cons rfl (fun K hK => ?_) AllReadyH.nil
    replace hK := Lib.hid hK
    go_simp
    refine (clashAwake_run wc).mono ?_
    rintro r wc ⟨rfl, hc⟩
    replace CC := Lib.hid (CC.out.trans hc)
    clear hc
    refine hK.out _ _ (DX.out _ CC.out) (fun hHeld => ?_)
    clear hK K
    try simp only [Act.put, sA, s0, s1]
    refine sy 29 61 rfl rfl ?_ (hS := (DX.out _ CC.out))
    try simp only [Act.put, sA, s0, s1]
    refine sy 30 4 rfl rfl ?_ (hS := (DX.out _ CC.out))
    try simp only [Act.put, sA, s0, s1]
    refine wpAnyH_done (by kernel_rfl) ?_ _
    clear hHeld
    go_wp2
    go_ret
    exact ⟨rfl, C.out.trans CC.out⟩
end
end Go.Proofs.YtfdaclifapfmdaaGreatDoor
