/- The law's StoreKnown (layer 10), by contracts. Closed's func, and the search by it. event.Closed. -/
import Derived.Test.YtomgjogkkoigbaaGreatDoorZsoy
import Derived.Deep.Cut
import Derived.Deep.RegionHeld3
import Derived.Test.YtomgjogkkoigbaaGreatDoorZsoq
import Derived.Test.YtomgjogkkoigbaaGreatDoorShelf4
import Derived.Test.YtomgjogkkoigbaaGreatDoorZsod
import Derived.BigQuiet
set_option linter.unusedSimpArgs false
set_option linter.unusedVariables false
namespace Go.Proofs.YtomgjogkkoigbaaGreatDoor
section
open Go.RowKit Go.Lib


theorem joinS7 {α β γ δ ε ζ η : Type} {F R : α → β → γ → δ → ε → ζ → η → Prop} {G : Prop} (h1 : (∀ a b c d e f g, F a b c d e f g → R a b c d e f g) → G) (h2 : ∀ a b c d e f g, F a b c d e f g → R a b c d e f g) : G := h1 h2
theorem start_10 (w : World) : Calls Tryz.prog 78 #[] w fun e w' => e = .returned (.int .u64 14695981039346656037) ∧ w = w' := by
 go_enter Tryz.func78, Tryz.ntmps78
 go_wp2
 go_ret
 exact ⟨rfl, rfl⟩
theorem pr_nil : printE [] = (14695981039346656037, 0) := by decide +kernel
theorem s_put4 : stPut [s1E] s4E = (7, []) := by decide +kernel
theorem ev4 (w : World) : EvR w ⟨1, 1, ⟨#[102, 47, 103]⟩, 1, 0, none, 0, 0, none, 0, 0⟩ s4E := ⟨rfl, rfl, rfl, rfl, rfl, rfl, rfl, Bs.nil _ _, RdK.nil _ _⟩
theorem l10put4 (w : World) (p : Nat) (X : EvT) (h : RdK evTy w (some ⟨p, 0, none⟩) 1 [X]) (hx : EvsR w [X] [s1E]) (hp : p < w.heap.size) (hy : EvR w ⟨1, 1, ⟨#[102, 47, 103]⟩, 1, 0, none, 0, 0, none, 0, 0⟩ s4E) :
  Calls Tryz.prog 11 #[.slice (some ⟨p, 0, none⟩) 1 1, .agg #[.int .i64 1, .int .i64 1, .string ⟨#[102, 47, 103]⟩, .int .i64 1, .int .i64 0, .slice none 0 0, .slice none 0 0]] w fun r w' => ∃ (A' : Option Addr) (c' : Nat) (zs : List EvT), r = .returned (.tuple #[.slice A' zs.length c', .int .i64 7]) ∧ Chg [] w w' := by
 have q := stput_any w (some ⟨p, 0, none⟩) 1 [X] [s1E] _ s4E h ⟨by simp, by simp [maxLen]⟩ (.inr (fun a ha => by cases ha; exact hp)) hx (by simp) s_sms hy (s_sm _ (by simp))
 rw [s_put4] at q
 exact q.mono fun _ _ ⟨a, b, c, e, _, k⟩ => ⟨a, b, c, e, k⟩
theorem l10mis (w : World) (p q : Nat) (X Z : EvT) (h : RdK evTy w (some ⟨p, 0, none⟩) 2 [X, Z]) (hx : EvsR w [X, Z] [s1E, s3E]) (hk : RdK spanTy w (some ⟨q, 0, none⟩) 1 [(1, 1, 1)]) :
  Calls Tryz.prog 23 #[.slice (some ⟨p, 0, none⟩) 2 2, .slice (some ⟨q, 0, none⟩) 1 1] w fun r w' => ∃ (A' : Option Addr) (c' : Nat) (zs : List EvT), r = .returned (.slice A' zs.length c') ∧ EsF w' w.heap.size w'.heap.size A' c' zs [s3E] ∧ Chg [] w w' := by
 have z := stmissing_any w (some ⟨p, 0, none⟩) 2 [X, Z] [s1E, s3E] (some ⟨q, 0, none⟩) 1 [(1, 1, 1)] h hx (by simp) hk (by simp) s_sms
 rw [s_missing] at z
 exact z
set_option maxRecDepth 100000 in
set_option maxHeartbeats 32000000 in
theorem l10known_run (w : World) : Calls Tryz.prog 37 #[] w fun e w' => e = .returned (.bool true) ∧ Chg [] w w' := by

 have C0 := Lib.hid (Chg.refl [] w)
 go_enter Tryz.func37, Tryz.ntmps37
 go_wp2_with fail
 refine (l10three_any w).mono ?_
 rintro r w1 ⟨X, Y, Z, rfl, ex, ey, ez, hc⟩
 obtain ⟨w2, hw2, c2, b1, b2, b3⟩ := news3 w1 (.cells #[.int .i64 X.n, .int .i64 X.s, .string X.p, .int .i64 X.k, .int .i64 X.m, .slice X.A X.l X.c, .slice X.B X.bl X.bc] 30) (.cells #[.int .i64 Y.n, .int .i64 Y.s, .string Y.p, .int .i64 Y.k, .int .i64 Y.m, .slice Y.A Y.l Y.c, .slice Y.B Y.bl Y.bc] 30) (.cells #[.int .i64 Z.n, .int .i64 Z.s, .string Z.p, .int .i64 Z.k, .int .i64 Z.m, .slice Z.A Z.l Z.c, .slice Z.B Z.bl Z.bc] 30)
 have W2 := Lib.hid hw2
 have HX := Lib.hid (fun (w' : World) (k : Chg [] w2 w') => ex.chg (c2.trans k))
 have HY := Lib.hid (fun (w' : World) (k : Chg [] w2 w') => ey.chg (c2.trans k))
 have HZ := Lib.hid (fun (w' : World) (k : Chg [] w2 w') => ez.chg (c2.trans k))
 have C2 := Lib.hid (hc.trans c2)
 have B1 := Lib.hid b1
 have B2 := Lib.hid b2
 have B3 := Lib.hid b3
 clear hw2 c2 b1 b2 b3 hc ex ey ez
 go_upto_region 2 with fail
 rw [← W2.out]
 obtain ⟨g1, h1⟩ : ∃ g, w1.heap.size = g := ⟨_, rfl⟩
 obtain ⟨g2, h2⟩ : ∃ g, g1 + 1 = g := ⟨_, rfl⟩
 obtain ⟨g3, h3⟩ : ∃ g, g2 + 1 = g := ⟨_, rfl⟩
 rw [show w1.heap.size + 2 = w1.heap.size + 1 + 1 from rfl] at B3
 rw [h1] at B1 B2 B3 ⊢
 rw [h2] at B2 B3 ⊢
 rw [h3] at B3 ⊢
 clear h1 h2 h3 W2
 have HB1 : Hid (∀ w', Chg [] w2 w' → w'.cell? ⟨g1, 0, none⟩ = some (.int .i64 X.n) ∧ w'.cell? ⟨g1, 1, none⟩ = some (.int .i64 X.s) ∧ w'.cell? ⟨g1, 2, none⟩ = some (.string X.p) ∧ w'.cell? ⟨g1, 3, none⟩ = some (.int .i64 X.k) ∧ w'.cell? ⟨g1, 4, none⟩ = some (.int .i64 X.m) ∧ w'.cell? ⟨g1, 5, none⟩ = some (.slice X.A X.l X.c) ∧ w'.cell? ⟨g1, 6, none⟩ = some (.slice X.B X.bl X.bc)) := Lib.hid (fun w' hc => by
  have q := hc.at_ B1.out (by simp)
  exact ⟨cell_of q 0, cell_of q 1, cell_of q 2, cell_of q 3, cell_of q 4, cell_of q 5, cell_of q 6⟩)
 have HB2 : Hid (∀ w', Chg [] w2 w' → w'.cell? ⟨g2, 0, none⟩ = some (.int .i64 Y.n) ∧ w'.cell? ⟨g2, 1, none⟩ = some (.int .i64 Y.s) ∧ w'.cell? ⟨g2, 2, none⟩ = some (.string Y.p) ∧ w'.cell? ⟨g2, 3, none⟩ = some (.int .i64 Y.k) ∧ w'.cell? ⟨g2, 4, none⟩ = some (.int .i64 Y.m) ∧ w'.cell? ⟨g2, 5, none⟩ = some (.slice Y.A Y.l Y.c) ∧ w'.cell? ⟨g2, 6, none⟩ = some (.slice Y.B Y.bl Y.bc)) := Lib.hid (fun w' hc => by
  have q := hc.at_ B2.out (by simp)
  exact ⟨cell_of q 0, cell_of q 1, cell_of q 2, cell_of q 3, cell_of q 4, cell_of q 5, cell_of q 6⟩)
 have HB3 : Hid (∀ w', Chg [] w2 w' → w'.cell? ⟨g3, 0, none⟩ = some (.int .i64 Z.n) ∧ w'.cell? ⟨g3, 1, none⟩ = some (.int .i64 Z.s) ∧ w'.cell? ⟨g3, 2, none⟩ = some (.string Z.p) ∧ w'.cell? ⟨g3, 3, none⟩ = some (.int .i64 Z.k) ∧ w'.cell? ⟨g3, 4, none⟩ = some (.int .i64 Z.m) ∧ w'.cell? ⟨g3, 5, none⟩ = some (.slice Z.A Z.l Z.c) ∧ w'.cell? ⟨g3, 6, none⟩ = some (.slice Z.B Z.bl Z.bc)) := Lib.hid (fun w' hc => by
  have q := hc.at_ B3.out (by simp)
  exact ⟨cell_of q 0, cell_of q 1, cell_of q 2, cell_of q 3, cell_of q 4, cell_of q 5, cell_of q 6⟩)
 have D := Lib.hid (Chg.refl [] w2)
 clear B1 B2 B3
 go_upto_region 2 with fail
 refine wp_region_held_drew (S := fun w' => Chg [] w2 w') (by kernel_rfl) (Chg.refl [] w2).drew (fun hHeld => ?_)
 have C := Lib.hid hHeld
 clear hHeld
 obtain ⟨wc, hwc⟩ : ∃ wc, w2.drew = wc := ⟨_, rfl⟩
 rw [hwc] at C ⊢
 clear hwc
 have hHeld := C.out
 refine' joinS5 (F := fun (p : Nat) (A : Option Addr) (c n : Nat) (wc : World) => Hid (Chg [] w2 wc)) (R := _) (fun JOIN => ?leaf) ?rest
 case leaf =>
  refine sy 0 19 rfl rfl ?_ (hy := by (intro w hSw; (try dsimp only at hSw); obtain ⟨q0, q1, q2, q3, q4, q5, q6⟩ := HB1.out _ hSw; go_simp; try with_reducible rfl))
  try simp only [Act.put, sA, s0, s1]
  refine wpAnyH_ready (rs := [1, 2]) (by kernel_rfl) (by simp) ?_
  refine AllReadyH.cons rfl (fun K hK => ?_) (AllReadyH.cons rfl (fun K hK => ?_) AllReadyH.nil)
  ·
   skip
   replace hK := Lib.hid hK
   go_simp
   skip
   obtain ⟨px, hp⟩ : ∃ p, wc.heap.size = p := ⟨_, rfl⟩
   obtain ⟨wc, hw, hcn, hb⟩ := news1 wc (.cells #[.int .i64 X.n, .int .i64 X.s, .string X.p, .int .i64 X.k, .int .i64 X.m, .slice X.A X.l X.c, .slice X.B X.bl X.bc] 30)
   rw [← hw, hp]
   rw [hp] at hb
   have XR := Lib.hid (rd_oneEc (X := X) hb)
   have QX : Hid (EvsR wc [X] [s1E]) := Lib.hid (by simpa using (EvsR.nil wc).snoc (HX.out wc (C.out.trans hcn)))
   have LX : Hid (px < wc.heap.size) := Lib.hid (lt_of_heap hb)
   try replace EO := Lib.hid (EO.out.chg hcn)
   replace C := Lib.hid (C.out.trans hcn)
   clear hw hcn hb hp
   refine hK.out _ _ C.out (fun hHeld => ?_)
   clear hK K
   try simp only [Act.put, sA, s0, s1]
   refine wpAnyH_ready (rs := [2]) (by kernel_rfl) (by simp) ?_
   refine AllReadyH.cons rfl (fun K hK => ?_) AllReadyH.nil
   replace hK := Lib.hid hK
   go_simp
   refine (l10one_any wc 1 1 ⟨#[102, 47, 103]⟩ none 0 0).mono ?_
   rintro r wc ⟨rfl, hc⟩
   have EO : Hid (EvR wc ⟨1, 1, ⟨#[102, 47, 103]⟩, 1, 0, none, 0, 0, none, 0, 0⟩ s4E) := Lib.hid (ev4 wc)
   try replace XR := Lib.hid (XR.out.chg hc (by simp))
   try replace QX := Lib.hid (QX.out.chg hc)
   try replace LX := Lib.hid (Nat.lt_of_lt_of_le LX.out hc.size)
   replace C := Lib.hid (C.out.trans hc)
   clear hc
   refine hK.out _ _ C.out (fun hHeld => ?_)
   clear hK K
   try simp only [Act.put, sA, s0, s1]
   refine wpAnyH_ready (rs := [3]) (by kernel_rfl) (by simp) ?_
   refine AllReadyH.cons rfl (fun K hK => ?_) AllReadyH.nil
   replace hK := Lib.hid hK
   go_simp
   refine (l10put4 wc px X XR.out QX.out LX.out EO.out).mono ?_
   rintro r wc ⟨A5, c5, z5, rfl, hc⟩
   replace C := Lib.hid (C.out.trans hc)
   clear hc
   refine hK.out _ _ C.out (fun hHeld => ?_)
   clear hK K
   try simp only [Act.put, sA, s0, s1]
   obtain ⟨n5, hn5⟩ : ∃ n, z5.length = n := ⟨_, rfl⟩
   rw [hn5]
   exact JOIN px A5 c5 n5 wc C
  ·
   skip
   replace hK := Lib.hid hK
   go_simp
   refine (l10one_any wc 1 1 ⟨#[102, 47, 103]⟩ none 0 0).mono ?_
   rintro r wc ⟨rfl, hc⟩
   have EO : Hid (EvR wc ⟨1, 1, ⟨#[102, 47, 103]⟩, 1, 0, none, 0, 0, none, 0, 0⟩ s4E) := Lib.hid (ev4 wc)
   try replace XR := Lib.hid (XR.out.chg hc (by simp))
   try replace QX := Lib.hid (QX.out.chg hc)
   try replace LX := Lib.hid (Nat.lt_of_lt_of_le LX.out hc.size)
   replace C := Lib.hid (C.out.trans hc)
   clear hc
   refine hK.out _ _ C.out (fun hHeld => ?_)
   clear hK K
   try simp only [Act.put, sA, s0, s1]
   refine wpAnyH_ready (rs := [1]) (by kernel_rfl) (by simp) ?_
   refine AllReadyH.cons rfl (fun K hK => ?_) AllReadyH.nil
   replace hK := Lib.hid hK
   go_simp
   skip
   obtain ⟨px, hp⟩ : ∃ p, wc.heap.size = p := ⟨_, rfl⟩
   obtain ⟨wc, hw, hcn, hb⟩ := news1 wc (.cells #[.int .i64 X.n, .int .i64 X.s, .string X.p, .int .i64 X.k, .int .i64 X.m, .slice X.A X.l X.c, .slice X.B X.bl X.bc] 30)
   rw [← hw, hp]
   rw [hp] at hb
   have XR := Lib.hid (rd_oneEc (X := X) hb)
   have QX : Hid (EvsR wc [X] [s1E]) := Lib.hid (by simpa using (EvsR.nil wc).snoc (HX.out wc (C.out.trans hcn)))
   have LX : Hid (px < wc.heap.size) := Lib.hid (lt_of_heap hb)
   try replace EO := Lib.hid (EO.out.chg hcn)
   replace C := Lib.hid (C.out.trans hcn)
   clear hw hcn hb hp
   refine hK.out _ _ C.out (fun hHeld => ?_)
   clear hK K
   try simp only [Act.put, sA, s0, s1]
   refine wpAnyH_ready (rs := [3]) (by kernel_rfl) (by simp) ?_
   refine AllReadyH.cons rfl (fun K hK => ?_) AllReadyH.nil
   replace hK := Lib.hid hK
   go_simp
   refine (l10put4 wc px X XR.out QX.out LX.out EO.out).mono ?_
   rintro r wc ⟨A5, c5, z5, rfl, hc⟩
   replace C := Lib.hid (C.out.trans hc)
   clear hc
   refine hK.out _ _ C.out (fun hHeld => ?_)
   clear hK K
   try simp only [Act.put, sA, s0, s1]
   obtain ⟨n5, hn5⟩ : ∃ n, z5.length = n := ⟨_, rfl⟩
   rw [hn5]
   exact JOIN px A5 c5 n5 wc C
 case rest =>
  intro px A5 c5 n5 wc C
  clear hHeld
  have hHeld := C.out
  refine sy 4 18 rfl rfl ?_
  try simp only [Act.put, sA, s0, s1]
  refine sy 5 23 rfl rfl ?_
  try simp only [Act.put, sA, s0, s1]
  refine sy 6 24 rfl rfl ?_
  try simp only [Act.put, sA, s0, s1]
  refine sy 7 4 rfl rfl ?_
  try simp only [Act.put, sA, s0, s1]
  refine sy 8 5 rfl rfl ?_
  try simp only [Act.put, sA, s0, s1]
  refine wpAnyH_done (by kernel_rfl) ?_ _
  clear hHeld
  clear D
  have D := C
  clear C
  obtain ⟨a1_0, a1_1, a1_2, a1_3, a1_4, a1_5, a1_6⟩ := HB1.out _ D.out
  obtain ⟨a3_0, a3_1, a3_2, a3_3, a3_4, a3_5, a3_6⟩ := HB3.out _ D.out
  obtain ⟨u3a, hw1, k1, hb1⟩ := news1 wc (.cells #[.int .i64 X.n, .int .i64 X.s, .string X.p, .int .i64 X.k, .int .i64 X.m, .slice X.A X.l X.c, .slice X.B X.bl X.bc, .int .i64 Z.n, .int .i64 Z.s, .string Z.p, .int .i64 Z.k, .int .i64 Z.m, .slice Z.A Z.l Z.c, .slice Z.B Z.bl Z.bc] 30)
  have WA := Lib.hid hw1
  have D1 := Lib.hid (D.out.trans k1)
  obtain ⟨b2_0, b2_1, b2_2, b2_3, b2_4, b2_5, b2_6⟩ := HB2.out _ D1.out
  obtain ⟨u3b, hw2, k2, hb2⟩ := news1 u3a (.cells #[.int .i64 Y.n, .int .i64 Y.s, .string Y.p, .int .i64 Y.k, .int .i64 Y.m, .slice Y.A Y.l Y.c, .slice Y.B Y.bl Y.bc] 30)
  have WB := Lib.hid hw2
  have D2 := Lib.hid (D1.out.trans k2)
  have KK := Lib.hid (k1.trans k2)
  have RA : Hid (RdK evTy u3b (some ⟨wc.heap.size, 0, none⟩) 2 [X, Z]) := Lib.hid ((rd_twoS hb1).chg k2 (by have := lt_of_heap hb1; simp))
  have RB : Hid (RdK evTy u3b (some ⟨u3a.heap.size, 0, none⟩) 1 [Y]) := Lib.hid (rd_oneEc hb2)
  have QA : Hid (EvsR u3b [X, Z] [s1E, s3E]) := Lib.hid (by simpa using (((EvsR.nil u3b).snoc (HX.out u3b D2.out)).snoc (HZ.out u3b D2.out)))
  have QB : Hid (EvsR u3b [Y] [s2E]) := Lib.hid (by simpa using ((EvsR.nil u3b).snoc (HY.out u3b D2.out)))
  have LA : wc.heap.size < u3b.heap.size := Nat.lt_of_lt_of_le (lt_of_heap hb1) k2.size
  have LB : u3a.heap.size < u3b.heap.size := lt_of_heap hb2
  have JN := stjoin_any u3b (some ⟨wc.heap.size, 0, none⟩) (some ⟨u3a.heap.size, 0, none⟩) 2 1 [X, Z] [Y] [s1E, s3E] [s2E] RA.out RB.out ⟨⟨by simp, by simp [maxLen]⟩, by simp⟩ ⟨.inr (fun a ha => by cases ha; exact LA), .inr (fun a ha => by cases ha; exact LB)⟩ QA.out QB.out (by simp) s_sms s_sms
  rw [s_join1] at JN
  have JN2 := Lib.hid JN
  clear JN LA LB RA RB QA QB hw1 hw2 k1 k2 hb1 hb2
  go_wp2_with (first | rw [← WA.out] | rw [← WB.out])
  clear WA WB
  clear a1_0 a1_1 a1_2 a1_3 a1_4 a1_5 a1_6 a3_0 a3_1 a3_2 a3_3 a3_4 a3_5 a3_6
  clear b2_0 b2_1 b2_2 b2_3 b2_4 b2_5 b2_6
  refine JN2.out.mono ?_
  rintro r u3c ⟨Al, cl, zl, rfl, he, hc⟩
  clear JN2 D1 D2
  replace D := Lib.hid (D.out.trans (KK.out.trans hc))
  have Rl := Lib.hid he.row.reads
  have El := Lib.hid he.all.ev
  clear hc he KK
  obtain ⟨a2_0, a2_1, a2_2, a2_3, a2_4, a2_5, a2_6⟩ := HB2.out _ D.out
  obtain ⟨u4a, hw1, k1, hb1⟩ := news1 u3c (.cells #[.int .i64 Y.n, .int .i64 Y.s, .string Y.p, .int .i64 Y.k, .int .i64 Y.m, .slice Y.A Y.l Y.c, .slice Y.B Y.bl Y.bc] 30)
  have WA := Lib.hid hw1
  have D1 := Lib.hid (D.out.trans k1)
  obtain ⟨b1_0, b1_1, b1_2, b1_3, b1_4, b1_5, b1_6⟩ := HB1.out _ D1.out
  obtain ⟨b3_0, b3_1, b3_2, b3_3, b3_4, b3_5, b3_6⟩ := HB3.out _ D1.out
  obtain ⟨u4b, hw2, k2, hb2⟩ := news1 u4a (.cells #[.int .i64 X.n, .int .i64 X.s, .string X.p, .int .i64 X.k, .int .i64 X.m, .slice X.A X.l X.c, .slice X.B X.bl X.bc, .int .i64 Z.n, .int .i64 Z.s, .string Z.p, .int .i64 Z.k, .int .i64 Z.m, .slice Z.A Z.l Z.c, .slice Z.B Z.bl Z.bc] 30)
  have WB := Lib.hid hw2
  have D2 := Lib.hid (D1.out.trans k2)
  have KK := Lib.hid (k1.trans k2)
  have RA : Hid (RdK evTy u4b (some ⟨u3c.heap.size, 0, none⟩) 1 [Y]) := Lib.hid ((rd_oneEc hb1).chg k2 (by have := lt_of_heap hb1; simp))
  have RB : Hid (RdK evTy u4b (some ⟨u4a.heap.size, 0, none⟩) 2 [X, Z]) := Lib.hid (rd_twoS hb2)
  have QA : Hid (EvsR u4b [Y] [s2E]) := Lib.hid (by simpa using ((EvsR.nil u4b).snoc (HY.out u4b D2.out)))
  have QB : Hid (EvsR u4b [X, Z] [s1E, s3E]) := Lib.hid (by simpa using (((EvsR.nil u4b).snoc (HX.out u4b D2.out)).snoc (HZ.out u4b D2.out)))
  have LA : u3c.heap.size < u4b.heap.size := Nat.lt_of_lt_of_le (lt_of_heap hb1) k2.size
  have LB : u4a.heap.size < u4b.heap.size := lt_of_heap hb2
  have JN := stjoin_any u4b (some ⟨u3c.heap.size, 0, none⟩) (some ⟨u4a.heap.size, 0, none⟩) 1 2 [Y] [X, Z] [s2E] [s1E, s3E] RA.out RB.out ⟨⟨by simp, by simp [maxLen]⟩, by simp⟩ ⟨.inr (fun a ha => by cases ha; exact LA), .inr (fun a ha => by cases ha; exact LB)⟩ QA.out QB.out (by simp) s_sms s_sms
  rw [s_join2] at JN
  have JN2 := Lib.hid JN
  clear JN LA LB RA RB QA QB hw1 hw2 k1 k2 hb1 hb2
  go_wp2_with (first | rw [← WA.out] | rw [← WB.out])
  clear WA WB
  clear a2_0 a2_1 a2_2 a2_3 a2_4 a2_5 a2_6
  clear b1_0 b1_1 b1_2 b1_3 b1_4 b1_5 b1_6 b3_0 b3_1 b3_2 b3_3 b3_4 b3_5 b3_6
  refine JN2.out.mono ?_
  rintro r u4c ⟨Ar, cr, zr, rfl, he, hc⟩
  clear JN2 D1 D2
  replace D := Lib.hid (D.out.trans (KK.out.trans hc))
  replace Rl := Lib.hid (Rl.out.chg (KK.out.trans hc) (by simp))
  replace El := Lib.hid (El.out.chg (KK.out.trans hc))
  have Rr := Lib.hid he.row.reads
  have Er := Lib.hid he.all.ev
  clear hc he KK
  have PN := stprint_any u4c none 0 [] [] (RdK.nil _ _) (by simp) (.inl rfl) (EvsR.nil _) (by simp) (by simp)
  rw [pr_nil] at PN
  simp only [List.length_nil] at PN
  have PN2 := Lib.hid PN
  clear PN
  go_wp2_with fail
  refine PN2.out.mono ?_
  rintro r v5 ⟨rfl, hc⟩
  clear PN2
  replace D := Lib.hid (D.out.trans hc)
  replace Rl := Lib.hid (Rl.out.chg hc (by simp))
  replace El := Lib.hid (El.out.chg hc)
  replace Rr := Lib.hid (Rr.out.chg hc (by simp))
  replace Er := Lib.hid (Er.out.chg hc)
  clear hc
  obtain ⟨a3_0, a3_1, a3_2, a3_3, a3_4, a3_5, a3_6⟩ := HB3.out _ D.out
  obtain ⟨a1_0, a1_1, a1_2, a1_3, a1_4, a1_5, a1_6⟩ := HB1.out _ D.out
  obtain ⟨u6a, hw1, k1, hb1⟩ := news1 v5 (.cells #[.int .i64 Z.n, .int .i64 Z.s, .string Z.p, .int .i64 Z.k, .int .i64 Z.m, .slice Z.A Z.l Z.c, .slice Z.B Z.bl Z.bc, .int .i64 X.n, .int .i64 X.s, .string X.p, .int .i64 X.k, .int .i64 X.m, .slice X.A X.l X.c, .slice X.B X.bl X.bc] 30)
  have WA := Lib.hid hw1
  have KK := Lib.hid k1
  have D1 := Lib.hid (D.out.trans k1)
  have QA : Hid (EvsR u6a [Z, X] [s3E, s1E]) := Lib.hid (by simpa using (((EvsR.nil u6a).snoc (HZ.out u6a D1.out)).snoc (HX.out u6a D1.out)))
  have LA : v5.heap.size < u6a.heap.size := lt_of_heap hb1
  have JN := stcheck_any u6a (some ⟨v5.heap.size, 0, none⟩) 2 [Z, X] [s3E, s1E] (rd_twoS hb1) (by simp) (.inr (fun a ha => by cases ha; exact LA)) QA.out (by simp) (fun e he => (s_sms (by simp) e he).1)
  rw [s_no.1] at JN
  have JN2 := Lib.hid JN
  clear JN LA QA hw1 k1 hb1 D1
  go_wp2_with (rw [← WA.out])
  clear WA
  clear a3_0 a3_1 a3_2 a3_3 a3_4 a3_5 a3_6 a1_0 a1_1 a1_2 a1_3 a1_4 a1_5 a1_6
  refine JN2.out.mono ?_
  rintro r u6c ⟨rfl, hc⟩
  clear JN2
  replace D := Lib.hid (D.out.trans (KK.out.trans hc))
  replace Rl := Lib.hid (Rl.out.chg (KK.out.trans hc) (by simp))
  replace El := Lib.hid (El.out.chg (KK.out.trans hc))
  replace Rr := Lib.hid (Rr.out.chg (KK.out.trans hc) (by simp))
  replace Er := Lib.hid (Er.out.chg (KK.out.trans hc))
  clear hc KK
  obtain ⟨a1_0, a1_1, a1_2, a1_3, a1_4, a1_5, a1_6⟩ := HB1.out _ D.out
  obtain ⟨a2_0, a2_1, a2_2, a2_3, a2_4, a2_5, a2_6⟩ := HB2.out _ D.out
  obtain ⟨u7a, hw1, k1, hb1⟩ := news1 u6c (.cells #[.int .i64 X.n, .int .i64 X.s, .string X.p, .int .i64 X.k, .int .i64 X.m, .slice X.A X.l X.c, .slice X.B X.bl X.bc, .int .i64 Y.n, .int .i64 Y.s, .string Y.p, .int .i64 Y.k, .int .i64 Y.m, .slice Y.A Y.l Y.c, .slice Y.B Y.bl Y.bc] 30)
  have WA := Lib.hid hw1
  have KK := Lib.hid k1
  have D1 := Lib.hid (D.out.trans k1)
  have QA : Hid (EvsR u7a [X, Y] [s1E, s2E]) := Lib.hid (by simpa using (((EvsR.nil u7a).snoc (HX.out u7a D1.out)).snoc (HY.out u7a D1.out)))
  have LA : u6c.heap.size < u7a.heap.size := lt_of_heap hb1
  have JN := stcheck_any u7a (some ⟨u6c.heap.size, 0, none⟩) 2 [X, Y] [s1E, s2E] (rd_twoS hb1) (by simp) (.inr (fun a ha => by cases ha; exact LA)) QA.out (by simp) (fun e he => (s_sms (by simp) e he).1)
  rw [s_no.2] at JN
  have JN2 := Lib.hid JN
  clear JN LA QA hw1 k1 hb1 D1
  go_wp2_with (rw [← WA.out])
  clear WA
  clear a1_0 a1_1 a1_2 a1_3 a1_4 a1_5 a1_6 a2_0 a2_1 a2_2 a2_3 a2_4 a2_5 a2_6
  refine JN2.out.mono ?_
  rintro r u7c ⟨rfl, hc⟩
  clear JN2
  replace D := Lib.hid (D.out.trans (KK.out.trans hc))
  replace Rl := Lib.hid (Rl.out.chg (KK.out.trans hc) (by simp))
  replace El := Lib.hid (El.out.chg (KK.out.trans hc))
  replace Rr := Lib.hid (Rr.out.chg (KK.out.trans hc) (by simp))
  replace Er := Lib.hid (Er.out.chg (KK.out.trans hc))
  clear hc KK
  go_upto_region 7 with fail
  refine wp_region_held_drew (S := fun w' => Chg [] u7c w') (by kernel_rfl) (Chg.refl [] u7c).drew (fun hHeld => ?_)
  have C := Lib.hid hHeld
  clear hHeld
  obtain ⟨wc, hwc⟩ : ∃ wc, u7c.drew = wc := ⟨_, rfl⟩
  rw [hwc] at C ⊢
  clear hwc
  have hHeld := C.out
  refine' joinS7 (F := fun (p q r : Nat) (A : Option Addr) (c n : Nat) (wc : World) => Hid (Chg [] u7c wc)) (R := _) (fun JOIN => ?leaf) ?rest
  case leaf =>
   refine wpAnyH_ready (rs := [0]) (by kernel_rfl) (by simp) ?_
   refine AllReadyH.cons rfl (fun K hK => ?_) AllReadyH.nil
   replace hK := Lib.hid hK
   go_simp
   refine (l10awake_run wc).mono ?_
   rintro r wc ⟨rfl, hc⟩
   replace C := Lib.hid (C.out.trans hc)
   clear hc
   refine hK.out _ _ C.out (fun hHeld => ?_)
   clear hK K
   try simp only [Act.put, sA, s0, s1]
   refine sy 1 64 rfl rfl ?_
   try simp only [Act.put, sA, s0, s1]
   refine sy 2 65 rfl rfl ?_
   try simp only [Act.put, sA, s0, s1]
   refine sy 3 66 rfl rfl ?_
   try simp only [Act.put, sA, s0, s1]
   refine sy 4 67 rfl rfl ?_
   try simp only [Act.put, sA, s0, s1]
   refine sy 5 68 rfl rfl ?_ (hy := by (intro w hSw; (try dsimp only at hSw); obtain ⟨q0, q1, q2, q3, q4, q5, q6⟩ := HB1.out _ (D.out.trans hSw); go_simp; try with_reducible rfl))
   try simp only [Act.put, sA, s0, s1]
   refine sy 6 69 rfl rfl ?_ (hy := by (intro w hSw; (try dsimp only at hSw); obtain ⟨q0, q1, q2, q3, q4, q5, q6⟩ := HB3.out _ (D.out.trans hSw); go_simp; try with_reducible rfl))
   try simp only [Act.put, sA, s0, s1]
   refine sy 8 71 rfl rfl ?_
   try simp only [Act.put, sA, s0, s1]
   refine sy 11 74 rfl rfl ?_ (hy := by (intro w hSw; (try dsimp only at hSw); obtain ⟨q0, q1, q2, q3, q4, q5, q6⟩ := HB3.out _ (D.out.trans hSw); go_simp; try with_reducible rfl))
   try simp only [Act.put, sA, s0, s1]
   refine wpAnyH_ready (rs := [7, 9, 12]) (by kernel_rfl) (by simp) ?_
   refine AllReadyH.cons rfl (fun K hK => ?_) (AllReadyH.cons rfl (fun K hK => ?_) (AllReadyH.cons rfl (fun K hK => ?_) AllReadyH.nil))
   ·
    skip
    replace hK := Lib.hid hK
    go_simp
    skip
    obtain ⟨pa, hp⟩ : ∃ p, wc.heap.size = p := ⟨_, rfl⟩
    obtain ⟨wc, hw, hcn, hb⟩ := news1 wc (.cells #[.int .i64 X.n, .int .i64 X.s, .string X.p, .int .i64 X.k, .int .i64 X.m, .slice X.A X.l X.c, .slice X.B X.bl X.bc, .int .i64 Z.n, .int .i64 Z.s, .string Z.p, .int .i64 Z.k, .int .i64 Z.m, .slice Z.A Z.l Z.c, .slice Z.B Z.bl Z.bc] 30)
    rw [← hw, hp]
    rw [hp] at hb
    have XR := Lib.hid (rd_twoS (x := X) (y := Z) hb)
    have QX : Hid (EvsR wc [X, Z] [s1E, s3E]) := Lib.hid (by simpa using (((EvsR.nil wc).snoc (HX.out wc (D.out.trans (C.out.trans hcn)))).snoc (HZ.out wc (D.out.trans (C.out.trans hcn)))))
    try replace KR := Lib.hid (KR.out.chg hcn (by simp))
    try replace ZR := Lib.hid (ZR.out.chg hcn (by simp))
    try replace QZ := Lib.hid (QZ.out.chg hcn)
    replace C := Lib.hid (C.out.trans hcn)
    clear hw hcn hb hp
    refine hK.out _ _ C.out (fun hHeld => ?_)
    clear hK K
    try simp only [Act.put, sA, s0, s1]
    refine wpAnyH_ready (rs := [9, 12]) (by kernel_rfl) (by simp) ?_
    refine AllReadyH.cons rfl (fun K hK => ?_) (AllReadyH.cons rfl (fun K hK => ?_) AllReadyH.nil)
    ·
     skip
     replace hK := Lib.hid hK
     go_simp
     skip
     obtain ⟨pk, hp⟩ : ∃ p, wc.heap.size = p := ⟨_, rfl⟩
     obtain ⟨wc, hw, hcn, hb⟩ := news1 wc (.cells #[.int .i64 1, .int .i64 1, .int .i64 1] 72)
     rw [← hw, hp]
     rw [hp] at hb
     have KR : Hid (RdK spanTy wc (some ⟨pk, 0, none⟩) 1 [(1, 1, 1)]) := Lib.hid ⟨rfl, fun j v hj => ⟨_, rfl, by rw [add_zero_lit, cell_of hb j]; simpa [RowTy.flat, spanTy] using hj⟩⟩
     try replace XR := Lib.hid (XR.out.chg hcn (by simp))
     try replace QX := Lib.hid (QX.out.chg hcn)
     try replace ZR := Lib.hid (ZR.out.chg hcn (by simp))
     try replace QZ := Lib.hid (QZ.out.chg hcn)
     replace C := Lib.hid (C.out.trans hcn)
     clear hw hcn hb hp
     refine hK.out _ _ C.out (fun hHeld => ?_)
     clear hK K
     try simp only [Act.put, sA, s0, s1]
     refine wpAnyH_ready (rs := [10, 12]) (by kernel_rfl) (by simp) ?_
     refine AllReadyH.cons rfl (fun K hK => ?_) (AllReadyH.cons rfl (fun K hK => ?_) AllReadyH.nil)
     ·
      skip
      replace hK := Lib.hid hK
      go_simp
      refine (l10mis wc pa pk X Z XR.out QX.out KR.out).mono ?_
      rintro r wc ⟨A5, c5, z5, rfl, he, hc⟩
      have RM := Lib.hid he.row.reads
      have EM := Lib.hid he.all.ev
      clear he
      try replace ZR := Lib.hid (ZR.out.chg hc (by simp))
      try replace QZ := Lib.hid (QZ.out.chg hc)
      replace C := Lib.hid (C.out.trans hc)
      clear hc
      refine hK.out _ _ C.out (fun hHeld => ?_)
      clear hK K
      try simp only [Act.put, sA, s0, s1]
      refine wpAnyH_ready (rs := [12]) (by kernel_rfl) (by simp) ?_
      refine AllReadyH.cons rfl (fun K hK => ?_) AllReadyH.nil
      replace hK := Lib.hid hK
      go_simp
      skip
      obtain ⟨pz, hp⟩ : ∃ p, wc.heap.size = p := ⟨_, rfl⟩
      obtain ⟨wc, hw, hcn, hb⟩ := news1 wc (.cells #[.int .i64 Z.n, .int .i64 Z.s, .string Z.p, .int .i64 Z.k, .int .i64 Z.m, .slice Z.A Z.l Z.c, .slice Z.B Z.bl Z.bc] 30)
      rw [← hw, hp]
      rw [hp] at hb
      have ZR := Lib.hid (rd_oneEc (X := Z) hb)
      have QZ : Hid (EvsR wc [Z] [s3E]) := Lib.hid (by simpa using ((EvsR.nil wc).snoc (HZ.out wc (D.out.trans (C.out.trans hcn)))))
      try replace KR := Lib.hid (KR.out.chg hcn (by simp))
      try replace XR := Lib.hid (XR.out.chg hcn (by simp))
      try replace QX := Lib.hid (QX.out.chg hcn)
      try replace RM := Lib.hid (RM.out.chg hcn (by simp))
      try replace EM := Lib.hid (EM.out.chg hcn)
      replace C := Lib.hid (C.out.trans hcn)
      clear hw hcn hb hp
      refine hK.out _ _ C.out (fun hHeld => ?_)
      clear hK K
      try simp only [Act.put, sA, s0, s1]
      refine wpAnyH_ready (rs := [13]) (by kernel_rfl) (by simp) ?_
      refine AllReadyH.cons rfl (fun K hK => ?_) AllReadyH.nil
      replace hK := Lib.hid hK
      go_simp
      refine (l10is_any wc A5 (some ⟨pz, 0, none⟩) c5 1 z5 [Z] [s3E] [s3E] RM.out ZR.out EM.out QZ.out ⟨by have a := EM.out.1; simp at a; omega, by simp⟩ ⟨fun e he => by have := (s_sms (l := [s3E]) (by simp) e he).2; omega, fun e he => by have := (s_sms (l := [s3E]) (by simp) e he).2; omega⟩).mono ?_
      rintro r wc ⟨rfl, hc⟩
      rw [sameL_refl]
      replace C := Lib.hid (C.out.trans hc)
      clear hc
      refine hK.out _ _ C.out (fun hHeld => ?_)
      clear hK K
      try simp only [Act.put, sA, s0, s1]
      obtain ⟨n5, hn5⟩ : ∃ n, z5.length = n := ⟨_, rfl⟩
      rw [hn5]
      exact JOIN pa pk pz A5 c5 n5 wc C
     ·
      skip
      replace hK := Lib.hid hK
      go_simp
      skip
      obtain ⟨pz, hp⟩ : ∃ p, wc.heap.size = p := ⟨_, rfl⟩
      obtain ⟨wc, hw, hcn, hb⟩ := news1 wc (.cells #[.int .i64 Z.n, .int .i64 Z.s, .string Z.p, .int .i64 Z.k, .int .i64 Z.m, .slice Z.A Z.l Z.c, .slice Z.B Z.bl Z.bc] 30)
      rw [← hw, hp]
      rw [hp] at hb
      have ZR := Lib.hid (rd_oneEc (X := Z) hb)
      have QZ : Hid (EvsR wc [Z] [s3E]) := Lib.hid (by simpa using ((EvsR.nil wc).snoc (HZ.out wc (D.out.trans (C.out.trans hcn)))))
      try replace KR := Lib.hid (KR.out.chg hcn (by simp))
      try replace XR := Lib.hid (XR.out.chg hcn (by simp))
      try replace QX := Lib.hid (QX.out.chg hcn)
      try replace RM := Lib.hid (RM.out.chg hcn (by simp))
      try replace EM := Lib.hid (EM.out.chg hcn)
      replace C := Lib.hid (C.out.trans hcn)
      clear hw hcn hb hp
      refine hK.out _ _ C.out (fun hHeld => ?_)
      clear hK K
      try simp only [Act.put, sA, s0, s1]
      refine wpAnyH_ready (rs := [10]) (by kernel_rfl) (by simp) ?_
      refine AllReadyH.cons rfl (fun K hK => ?_) AllReadyH.nil
      replace hK := Lib.hid hK
      go_simp
      refine (l10mis wc pa pk X Z XR.out QX.out KR.out).mono ?_
      rintro r wc ⟨A5, c5, z5, rfl, he, hc⟩
      have RM := Lib.hid he.row.reads
      have EM := Lib.hid he.all.ev
      clear he
      try replace ZR := Lib.hid (ZR.out.chg hc (by simp))
      try replace QZ := Lib.hid (QZ.out.chg hc)
      replace C := Lib.hid (C.out.trans hc)
      clear hc
      refine hK.out _ _ C.out (fun hHeld => ?_)
      clear hK K
      try simp only [Act.put, sA, s0, s1]
      refine wpAnyH_ready (rs := [13]) (by kernel_rfl) (by simp) ?_
      refine AllReadyH.cons rfl (fun K hK => ?_) AllReadyH.nil
      replace hK := Lib.hid hK
      go_simp
      refine (l10is_any wc A5 (some ⟨pz, 0, none⟩) c5 1 z5 [Z] [s3E] [s3E] RM.out ZR.out EM.out QZ.out ⟨by have a := EM.out.1; simp at a; omega, by simp⟩ ⟨fun e he => by have := (s_sms (l := [s3E]) (by simp) e he).2; omega, fun e he => by have := (s_sms (l := [s3E]) (by simp) e he).2; omega⟩).mono ?_
      rintro r wc ⟨rfl, hc⟩
      rw [sameL_refl]
      replace C := Lib.hid (C.out.trans hc)
      clear hc
      refine hK.out _ _ C.out (fun hHeld => ?_)
      clear hK K
      try simp only [Act.put, sA, s0, s1]
      obtain ⟨n5, hn5⟩ : ∃ n, z5.length = n := ⟨_, rfl⟩
      rw [hn5]
      exact JOIN pa pk pz A5 c5 n5 wc C
    ·
     skip
     replace hK := Lib.hid hK
     go_simp
     skip
     obtain ⟨pz, hp⟩ : ∃ p, wc.heap.size = p := ⟨_, rfl⟩
     obtain ⟨wc, hw, hcn, hb⟩ := news1 wc (.cells #[.int .i64 Z.n, .int .i64 Z.s, .string Z.p, .int .i64 Z.k, .int .i64 Z.m, .slice Z.A Z.l Z.c, .slice Z.B Z.bl Z.bc] 30)
     rw [← hw, hp]
     rw [hp] at hb
     have ZR := Lib.hid (rd_oneEc (X := Z) hb)
     have QZ : Hid (EvsR wc [Z] [s3E]) := Lib.hid (by simpa using ((EvsR.nil wc).snoc (HZ.out wc (D.out.trans (C.out.trans hcn)))))
     try replace KR := Lib.hid (KR.out.chg hcn (by simp))
     try replace XR := Lib.hid (XR.out.chg hcn (by simp))
     try replace QX := Lib.hid (QX.out.chg hcn)
     try replace RM := Lib.hid (RM.out.chg hcn (by simp))
     try replace EM := Lib.hid (EM.out.chg hcn)
     replace C := Lib.hid (C.out.trans hcn)
     clear hw hcn hb hp
     refine hK.out _ _ C.out (fun hHeld => ?_)
     clear hK K
     try simp only [Act.put, sA, s0, s1]
     refine wpAnyH_ready (rs := [9]) (by kernel_rfl) (by simp) ?_
     refine AllReadyH.cons rfl (fun K hK => ?_) AllReadyH.nil
     replace hK := Lib.hid hK
     go_simp
     skip
     obtain ⟨pk, hp⟩ : ∃ p, wc.heap.size = p := ⟨_, rfl⟩
     obtain ⟨wc, hw, hcn, hb⟩ := news1 wc (.cells #[.int .i64 1, .int .i64 1, .int .i64 1] 72)
     rw [← hw, hp]
     rw [hp] at hb
     have KR : Hid (RdK spanTy wc (some ⟨pk, 0, none⟩) 1 [(1, 1, 1)]) := Lib.hid ⟨rfl, fun j v hj => ⟨_, rfl, by rw [add_zero_lit, cell_of hb j]; simpa [RowTy.flat, spanTy] using hj⟩⟩
     try replace XR := Lib.hid (XR.out.chg hcn (by simp))
     try replace QX := Lib.hid (QX.out.chg hcn)
     try replace ZR := Lib.hid (ZR.out.chg hcn (by simp))
     try replace QZ := Lib.hid (QZ.out.chg hcn)
     replace C := Lib.hid (C.out.trans hcn)
     clear hw hcn hb hp
     refine hK.out _ _ C.out (fun hHeld => ?_)
     clear hK K
     try simp only [Act.put, sA, s0, s1]
     refine wpAnyH_ready (rs := [10]) (by kernel_rfl) (by simp) ?_
     refine AllReadyH.cons rfl (fun K hK => ?_) AllReadyH.nil
     replace hK := Lib.hid hK
     go_simp
     refine (l10mis wc pa pk X Z XR.out QX.out KR.out).mono ?_
     rintro r wc ⟨A5, c5, z5, rfl, he, hc⟩
     have RM := Lib.hid he.row.reads
     have EM := Lib.hid he.all.ev
     clear he
     try replace ZR := Lib.hid (ZR.out.chg hc (by simp))
     try replace QZ := Lib.hid (QZ.out.chg hc)
     replace C := Lib.hid (C.out.trans hc)
     clear hc
     refine hK.out _ _ C.out (fun hHeld => ?_)
     clear hK K
     try simp only [Act.put, sA, s0, s1]
     refine wpAnyH_ready (rs := [13]) (by kernel_rfl) (by simp) ?_
     refine AllReadyH.cons rfl (fun K hK => ?_) AllReadyH.nil
     replace hK := Lib.hid hK
     go_simp
     refine (l10is_any wc A5 (some ⟨pz, 0, none⟩) c5 1 z5 [Z] [s3E] [s3E] RM.out ZR.out EM.out QZ.out ⟨by have a := EM.out.1; simp at a; omega, by simp⟩ ⟨fun e he => by have := (s_sms (l := [s3E]) (by simp) e he).2; omega, fun e he => by have := (s_sms (l := [s3E]) (by simp) e he).2; omega⟩).mono ?_
     rintro r wc ⟨rfl, hc⟩
     rw [sameL_refl]
     replace C := Lib.hid (C.out.trans hc)
     clear hc
     refine hK.out _ _ C.out (fun hHeld => ?_)
     clear hK K
     try simp only [Act.put, sA, s0, s1]
     obtain ⟨n5, hn5⟩ : ∃ n, z5.length = n := ⟨_, rfl⟩
     rw [hn5]
     exact JOIN pa pk pz A5 c5 n5 wc C
   ·
    skip
    replace hK := Lib.hid hK
    go_simp
    skip
    obtain ⟨pk, hp⟩ : ∃ p, wc.heap.size = p := ⟨_, rfl⟩
    obtain ⟨wc, hw, hcn, hb⟩ := news1 wc (.cells #[.int .i64 1, .int .i64 1, .int .i64 1] 72)
    rw [← hw, hp]
    rw [hp] at hb
    have KR : Hid (RdK spanTy wc (some ⟨pk, 0, none⟩) 1 [(1, 1, 1)]) := Lib.hid ⟨rfl, fun j v hj => ⟨_, rfl, by rw [add_zero_lit, cell_of hb j]; simpa [RowTy.flat, spanTy] using hj⟩⟩
    try replace XR := Lib.hid (XR.out.chg hcn (by simp))
    try replace QX := Lib.hid (QX.out.chg hcn)
    try replace ZR := Lib.hid (ZR.out.chg hcn (by simp))
    try replace QZ := Lib.hid (QZ.out.chg hcn)
    replace C := Lib.hid (C.out.trans hcn)
    clear hw hcn hb hp
    refine hK.out _ _ C.out (fun hHeld => ?_)
    clear hK K
    try simp only [Act.put, sA, s0, s1]
    refine wpAnyH_ready (rs := [7, 12]) (by kernel_rfl) (by simp) ?_
    refine AllReadyH.cons rfl (fun K hK => ?_) (AllReadyH.cons rfl (fun K hK => ?_) AllReadyH.nil)
    ·
     skip
     replace hK := Lib.hid hK
     go_simp
     skip
     obtain ⟨pa, hp⟩ : ∃ p, wc.heap.size = p := ⟨_, rfl⟩
     obtain ⟨wc, hw, hcn, hb⟩ := news1 wc (.cells #[.int .i64 X.n, .int .i64 X.s, .string X.p, .int .i64 X.k, .int .i64 X.m, .slice X.A X.l X.c, .slice X.B X.bl X.bc, .int .i64 Z.n, .int .i64 Z.s, .string Z.p, .int .i64 Z.k, .int .i64 Z.m, .slice Z.A Z.l Z.c, .slice Z.B Z.bl Z.bc] 30)
     rw [← hw, hp]
     rw [hp] at hb
     have XR := Lib.hid (rd_twoS (x := X) (y := Z) hb)
     have QX : Hid (EvsR wc [X, Z] [s1E, s3E]) := Lib.hid (by simpa using (((EvsR.nil wc).snoc (HX.out wc (D.out.trans (C.out.trans hcn)))).snoc (HZ.out wc (D.out.trans (C.out.trans hcn)))))
     try replace KR := Lib.hid (KR.out.chg hcn (by simp))
     try replace ZR := Lib.hid (ZR.out.chg hcn (by simp))
     try replace QZ := Lib.hid (QZ.out.chg hcn)
     replace C := Lib.hid (C.out.trans hcn)
     clear hw hcn hb hp
     refine hK.out _ _ C.out (fun hHeld => ?_)
     clear hK K
     try simp only [Act.put, sA, s0, s1]
     refine wpAnyH_ready (rs := [10, 12]) (by kernel_rfl) (by simp) ?_
     refine AllReadyH.cons rfl (fun K hK => ?_) (AllReadyH.cons rfl (fun K hK => ?_) AllReadyH.nil)
     ·
      skip
      replace hK := Lib.hid hK
      go_simp
      refine (l10mis wc pa pk X Z XR.out QX.out KR.out).mono ?_
      rintro r wc ⟨A5, c5, z5, rfl, he, hc⟩
      have RM := Lib.hid he.row.reads
      have EM := Lib.hid he.all.ev
      clear he
      try replace ZR := Lib.hid (ZR.out.chg hc (by simp))
      try replace QZ := Lib.hid (QZ.out.chg hc)
      replace C := Lib.hid (C.out.trans hc)
      clear hc
      refine hK.out _ _ C.out (fun hHeld => ?_)
      clear hK K
      try simp only [Act.put, sA, s0, s1]
      refine wpAnyH_ready (rs := [12]) (by kernel_rfl) (by simp) ?_
      refine AllReadyH.cons rfl (fun K hK => ?_) AllReadyH.nil
      replace hK := Lib.hid hK
      go_simp
      skip
      obtain ⟨pz, hp⟩ : ∃ p, wc.heap.size = p := ⟨_, rfl⟩
      obtain ⟨wc, hw, hcn, hb⟩ := news1 wc (.cells #[.int .i64 Z.n, .int .i64 Z.s, .string Z.p, .int .i64 Z.k, .int .i64 Z.m, .slice Z.A Z.l Z.c, .slice Z.B Z.bl Z.bc] 30)
      rw [← hw, hp]
      rw [hp] at hb
      have ZR := Lib.hid (rd_oneEc (X := Z) hb)
      have QZ : Hid (EvsR wc [Z] [s3E]) := Lib.hid (by simpa using ((EvsR.nil wc).snoc (HZ.out wc (D.out.trans (C.out.trans hcn)))))
      try replace KR := Lib.hid (KR.out.chg hcn (by simp))
      try replace XR := Lib.hid (XR.out.chg hcn (by simp))
      try replace QX := Lib.hid (QX.out.chg hcn)
      try replace RM := Lib.hid (RM.out.chg hcn (by simp))
      try replace EM := Lib.hid (EM.out.chg hcn)
      replace C := Lib.hid (C.out.trans hcn)
      clear hw hcn hb hp
      refine hK.out _ _ C.out (fun hHeld => ?_)
      clear hK K
      try simp only [Act.put, sA, s0, s1]
      refine wpAnyH_ready (rs := [13]) (by kernel_rfl) (by simp) ?_
      refine AllReadyH.cons rfl (fun K hK => ?_) AllReadyH.nil
      replace hK := Lib.hid hK
      go_simp
      refine (l10is_any wc A5 (some ⟨pz, 0, none⟩) c5 1 z5 [Z] [s3E] [s3E] RM.out ZR.out EM.out QZ.out ⟨by have a := EM.out.1; simp at a; omega, by simp⟩ ⟨fun e he => by have := (s_sms (l := [s3E]) (by simp) e he).2; omega, fun e he => by have := (s_sms (l := [s3E]) (by simp) e he).2; omega⟩).mono ?_
      rintro r wc ⟨rfl, hc⟩
      rw [sameL_refl]
      replace C := Lib.hid (C.out.trans hc)
      clear hc
      refine hK.out _ _ C.out (fun hHeld => ?_)
      clear hK K
      try simp only [Act.put, sA, s0, s1]
      obtain ⟨n5, hn5⟩ : ∃ n, z5.length = n := ⟨_, rfl⟩
      rw [hn5]
      exact JOIN pa pk pz A5 c5 n5 wc C
     ·
      skip
      replace hK := Lib.hid hK
      go_simp
      skip
      obtain ⟨pz, hp⟩ : ∃ p, wc.heap.size = p := ⟨_, rfl⟩
      obtain ⟨wc, hw, hcn, hb⟩ := news1 wc (.cells #[.int .i64 Z.n, .int .i64 Z.s, .string Z.p, .int .i64 Z.k, .int .i64 Z.m, .slice Z.A Z.l Z.c, .slice Z.B Z.bl Z.bc] 30)
      rw [← hw, hp]
      rw [hp] at hb
      have ZR := Lib.hid (rd_oneEc (X := Z) hb)
      have QZ : Hid (EvsR wc [Z] [s3E]) := Lib.hid (by simpa using ((EvsR.nil wc).snoc (HZ.out wc (D.out.trans (C.out.trans hcn)))))
      try replace KR := Lib.hid (KR.out.chg hcn (by simp))
      try replace XR := Lib.hid (XR.out.chg hcn (by simp))
      try replace QX := Lib.hid (QX.out.chg hcn)
      try replace RM := Lib.hid (RM.out.chg hcn (by simp))
      try replace EM := Lib.hid (EM.out.chg hcn)
      replace C := Lib.hid (C.out.trans hcn)
      clear hw hcn hb hp
      refine hK.out _ _ C.out (fun hHeld => ?_)
      clear hK K
      try simp only [Act.put, sA, s0, s1]
      refine wpAnyH_ready (rs := [10]) (by kernel_rfl) (by simp) ?_
      refine AllReadyH.cons rfl (fun K hK => ?_) AllReadyH.nil
      replace hK := Lib.hid hK
      go_simp
      refine (l10mis wc pa pk X Z XR.out QX.out KR.out).mono ?_
      rintro r wc ⟨A5, c5, z5, rfl, he, hc⟩
      have RM := Lib.hid he.row.reads
      have EM := Lib.hid he.all.ev
      clear he
      try replace ZR := Lib.hid (ZR.out.chg hc (by simp))
      try replace QZ := Lib.hid (QZ.out.chg hc)
      replace C := Lib.hid (C.out.trans hc)
      clear hc
      refine hK.out _ _ C.out (fun hHeld => ?_)
      clear hK K
      try simp only [Act.put, sA, s0, s1]
      refine wpAnyH_ready (rs := [13]) (by kernel_rfl) (by simp) ?_
      refine AllReadyH.cons rfl (fun K hK => ?_) AllReadyH.nil
      replace hK := Lib.hid hK
      go_simp
      refine (l10is_any wc A5 (some ⟨pz, 0, none⟩) c5 1 z5 [Z] [s3E] [s3E] RM.out ZR.out EM.out QZ.out ⟨by have a := EM.out.1; simp at a; omega, by simp⟩ ⟨fun e he => by have := (s_sms (l := [s3E]) (by simp) e he).2; omega, fun e he => by have := (s_sms (l := [s3E]) (by simp) e he).2; omega⟩).mono ?_
      rintro r wc ⟨rfl, hc⟩
      rw [sameL_refl]
      replace C := Lib.hid (C.out.trans hc)
      clear hc
      refine hK.out _ _ C.out (fun hHeld => ?_)
      clear hK K
      try simp only [Act.put, sA, s0, s1]
      obtain ⟨n5, hn5⟩ : ∃ n, z5.length = n := ⟨_, rfl⟩
      rw [hn5]
      exact JOIN pa pk pz A5 c5 n5 wc C
    ·
     skip
     replace hK := Lib.hid hK
     go_simp
     skip
     obtain ⟨pz, hp⟩ : ∃ p, wc.heap.size = p := ⟨_, rfl⟩
     obtain ⟨wc, hw, hcn, hb⟩ := news1 wc (.cells #[.int .i64 Z.n, .int .i64 Z.s, .string Z.p, .int .i64 Z.k, .int .i64 Z.m, .slice Z.A Z.l Z.c, .slice Z.B Z.bl Z.bc] 30)
     rw [← hw, hp]
     rw [hp] at hb
     have ZR := Lib.hid (rd_oneEc (X := Z) hb)
     have QZ : Hid (EvsR wc [Z] [s3E]) := Lib.hid (by simpa using ((EvsR.nil wc).snoc (HZ.out wc (D.out.trans (C.out.trans hcn)))))
     try replace KR := Lib.hid (KR.out.chg hcn (by simp))
     try replace XR := Lib.hid (XR.out.chg hcn (by simp))
     try replace QX := Lib.hid (QX.out.chg hcn)
     try replace RM := Lib.hid (RM.out.chg hcn (by simp))
     try replace EM := Lib.hid (EM.out.chg hcn)
     replace C := Lib.hid (C.out.trans hcn)
     clear hw hcn hb hp
     refine hK.out _ _ C.out (fun hHeld => ?_)
     clear hK K
     try simp only [Act.put, sA, s0, s1]
     refine wpAnyH_ready (rs := [7]) (by kernel_rfl) (by simp) ?_
     refine AllReadyH.cons rfl (fun K hK => ?_) AllReadyH.nil
     replace hK := Lib.hid hK
     go_simp
     skip
     obtain ⟨pa, hp⟩ : ∃ p, wc.heap.size = p := ⟨_, rfl⟩
     obtain ⟨wc, hw, hcn, hb⟩ := news1 wc (.cells #[.int .i64 X.n, .int .i64 X.s, .string X.p, .int .i64 X.k, .int .i64 X.m, .slice X.A X.l X.c, .slice X.B X.bl X.bc, .int .i64 Z.n, .int .i64 Z.s, .string Z.p, .int .i64 Z.k, .int .i64 Z.m, .slice Z.A Z.l Z.c, .slice Z.B Z.bl Z.bc] 30)
     rw [← hw, hp]
     rw [hp] at hb
     have XR := Lib.hid (rd_twoS (x := X) (y := Z) hb)
     have QX : Hid (EvsR wc [X, Z] [s1E, s3E]) := Lib.hid (by simpa using (((EvsR.nil wc).snoc (HX.out wc (D.out.trans (C.out.trans hcn)))).snoc (HZ.out wc (D.out.trans (C.out.trans hcn)))))
     try replace KR := Lib.hid (KR.out.chg hcn (by simp))
     try replace ZR := Lib.hid (ZR.out.chg hcn (by simp))
     try replace QZ := Lib.hid (QZ.out.chg hcn)
     replace C := Lib.hid (C.out.trans hcn)
     clear hw hcn hb hp
     refine hK.out _ _ C.out (fun hHeld => ?_)
     clear hK K
     try simp only [Act.put, sA, s0, s1]
     refine wpAnyH_ready (rs := [10]) (by kernel_rfl) (by simp) ?_
     refine AllReadyH.cons rfl (fun K hK => ?_) AllReadyH.nil
     replace hK := Lib.hid hK
     go_simp
     refine (l10mis wc pa pk X Z XR.out QX.out KR.out).mono ?_
     rintro r wc ⟨A5, c5, z5, rfl, he, hc⟩
     have RM := Lib.hid he.row.reads
     have EM := Lib.hid he.all.ev
     clear he
     try replace ZR := Lib.hid (ZR.out.chg hc (by simp))
     try replace QZ := Lib.hid (QZ.out.chg hc)
     replace C := Lib.hid (C.out.trans hc)
     clear hc
     refine hK.out _ _ C.out (fun hHeld => ?_)
     clear hK K
     try simp only [Act.put, sA, s0, s1]
     refine wpAnyH_ready (rs := [13]) (by kernel_rfl) (by simp) ?_
     refine AllReadyH.cons rfl (fun K hK => ?_) AllReadyH.nil
     replace hK := Lib.hid hK
     go_simp
     refine (l10is_any wc A5 (some ⟨pz, 0, none⟩) c5 1 z5 [Z] [s3E] [s3E] RM.out ZR.out EM.out QZ.out ⟨by have a := EM.out.1; simp at a; omega, by simp⟩ ⟨fun e he => by have := (s_sms (l := [s3E]) (by simp) e he).2; omega, fun e he => by have := (s_sms (l := [s3E]) (by simp) e he).2; omega⟩).mono ?_
     rintro r wc ⟨rfl, hc⟩
     rw [sameL_refl]
     replace C := Lib.hid (C.out.trans hc)
     clear hc
     refine hK.out _ _ C.out (fun hHeld => ?_)
     clear hK K
     try simp only [Act.put, sA, s0, s1]
     obtain ⟨n5, hn5⟩ : ∃ n, z5.length = n := ⟨_, rfl⟩
     rw [hn5]
     exact JOIN pa pk pz A5 c5 n5 wc C
   ·
    skip
    replace hK := Lib.hid hK
    go_simp
    skip
    obtain ⟨pz, hp⟩ : ∃ p, wc.heap.size = p := ⟨_, rfl⟩
    obtain ⟨wc, hw, hcn, hb⟩ := news1 wc (.cells #[.int .i64 Z.n, .int .i64 Z.s, .string Z.p, .int .i64 Z.k, .int .i64 Z.m, .slice Z.A Z.l Z.c, .slice Z.B Z.bl Z.bc] 30)
    rw [← hw, hp]
    rw [hp] at hb
    have ZR := Lib.hid (rd_oneEc (X := Z) hb)
    have QZ : Hid (EvsR wc [Z] [s3E]) := Lib.hid (by simpa using ((EvsR.nil wc).snoc (HZ.out wc (D.out.trans (C.out.trans hcn)))))
    try replace KR := Lib.hid (KR.out.chg hcn (by simp))
    try replace XR := Lib.hid (XR.out.chg hcn (by simp))
    try replace QX := Lib.hid (QX.out.chg hcn)
    try replace RM := Lib.hid (RM.out.chg hcn (by simp))
    try replace EM := Lib.hid (EM.out.chg hcn)
    replace C := Lib.hid (C.out.trans hcn)
    clear hw hcn hb hp
    refine hK.out _ _ C.out (fun hHeld => ?_)
    clear hK K
    try simp only [Act.put, sA, s0, s1]
    refine wpAnyH_ready (rs := [7, 9]) (by kernel_rfl) (by simp) ?_
    refine AllReadyH.cons rfl (fun K hK => ?_) (AllReadyH.cons rfl (fun K hK => ?_) AllReadyH.nil)
    ·
     skip
     replace hK := Lib.hid hK
     go_simp
     skip
     obtain ⟨pa, hp⟩ : ∃ p, wc.heap.size = p := ⟨_, rfl⟩
     obtain ⟨wc, hw, hcn, hb⟩ := news1 wc (.cells #[.int .i64 X.n, .int .i64 X.s, .string X.p, .int .i64 X.k, .int .i64 X.m, .slice X.A X.l X.c, .slice X.B X.bl X.bc, .int .i64 Z.n, .int .i64 Z.s, .string Z.p, .int .i64 Z.k, .int .i64 Z.m, .slice Z.A Z.l Z.c, .slice Z.B Z.bl Z.bc] 30)
     rw [← hw, hp]
     rw [hp] at hb
     have XR := Lib.hid (rd_twoS (x := X) (y := Z) hb)
     have QX : Hid (EvsR wc [X, Z] [s1E, s3E]) := Lib.hid (by simpa using (((EvsR.nil wc).snoc (HX.out wc (D.out.trans (C.out.trans hcn)))).snoc (HZ.out wc (D.out.trans (C.out.trans hcn)))))
     try replace KR := Lib.hid (KR.out.chg hcn (by simp))
     try replace ZR := Lib.hid (ZR.out.chg hcn (by simp))
     try replace QZ := Lib.hid (QZ.out.chg hcn)
     replace C := Lib.hid (C.out.trans hcn)
     clear hw hcn hb hp
     refine hK.out _ _ C.out (fun hHeld => ?_)
     clear hK K
     try simp only [Act.put, sA, s0, s1]
     refine wpAnyH_ready (rs := [9]) (by kernel_rfl) (by simp) ?_
     refine AllReadyH.cons rfl (fun K hK => ?_) AllReadyH.nil
     replace hK := Lib.hid hK
     go_simp
     skip
     obtain ⟨pk, hp⟩ : ∃ p, wc.heap.size = p := ⟨_, rfl⟩
     obtain ⟨wc, hw, hcn, hb⟩ := news1 wc (.cells #[.int .i64 1, .int .i64 1, .int .i64 1] 72)
     rw [← hw, hp]
     rw [hp] at hb
     have KR : Hid (RdK spanTy wc (some ⟨pk, 0, none⟩) 1 [(1, 1, 1)]) := Lib.hid ⟨rfl, fun j v hj => ⟨_, rfl, by rw [add_zero_lit, cell_of hb j]; simpa [RowTy.flat, spanTy] using hj⟩⟩
     try replace XR := Lib.hid (XR.out.chg hcn (by simp))
     try replace QX := Lib.hid (QX.out.chg hcn)
     try replace ZR := Lib.hid (ZR.out.chg hcn (by simp))
     try replace QZ := Lib.hid (QZ.out.chg hcn)
     replace C := Lib.hid (C.out.trans hcn)
     clear hw hcn hb hp
     refine hK.out _ _ C.out (fun hHeld => ?_)
     clear hK K
     try simp only [Act.put, sA, s0, s1]
     refine wpAnyH_ready (rs := [10]) (by kernel_rfl) (by simp) ?_
     refine AllReadyH.cons rfl (fun K hK => ?_) AllReadyH.nil
     replace hK := Lib.hid hK
     go_simp
     refine (l10mis wc pa pk X Z XR.out QX.out KR.out).mono ?_
     rintro r wc ⟨A5, c5, z5, rfl, he, hc⟩
     have RM := Lib.hid he.row.reads
     have EM := Lib.hid he.all.ev
     clear he
     try replace ZR := Lib.hid (ZR.out.chg hc (by simp))
     try replace QZ := Lib.hid (QZ.out.chg hc)
     replace C := Lib.hid (C.out.trans hc)
     clear hc
     refine hK.out _ _ C.out (fun hHeld => ?_)
     clear hK K
     try simp only [Act.put, sA, s0, s1]
     refine wpAnyH_ready (rs := [13]) (by kernel_rfl) (by simp) ?_
     refine AllReadyH.cons rfl (fun K hK => ?_) AllReadyH.nil
     replace hK := Lib.hid hK
     go_simp
     refine (l10is_any wc A5 (some ⟨pz, 0, none⟩) c5 1 z5 [Z] [s3E] [s3E] RM.out ZR.out EM.out QZ.out ⟨by have a := EM.out.1; simp at a; omega, by simp⟩ ⟨fun e he => by have := (s_sms (l := [s3E]) (by simp) e he).2; omega, fun e he => by have := (s_sms (l := [s3E]) (by simp) e he).2; omega⟩).mono ?_
     rintro r wc ⟨rfl, hc⟩
     rw [sameL_refl]
     replace C := Lib.hid (C.out.trans hc)
     clear hc
     refine hK.out _ _ C.out (fun hHeld => ?_)
     clear hK K
     try simp only [Act.put, sA, s0, s1]
     obtain ⟨n5, hn5⟩ : ∃ n, z5.length = n := ⟨_, rfl⟩
     rw [hn5]
     exact JOIN pa pk pz A5 c5 n5 wc C
    ·
     skip
     replace hK := Lib.hid hK
     go_simp
     skip
     obtain ⟨pk, hp⟩ : ∃ p, wc.heap.size = p := ⟨_, rfl⟩
     obtain ⟨wc, hw, hcn, hb⟩ := news1 wc (.cells #[.int .i64 1, .int .i64 1, .int .i64 1] 72)
     rw [← hw, hp]
     rw [hp] at hb
     have KR : Hid (RdK spanTy wc (some ⟨pk, 0, none⟩) 1 [(1, 1, 1)]) := Lib.hid ⟨rfl, fun j v hj => ⟨_, rfl, by rw [add_zero_lit, cell_of hb j]; simpa [RowTy.flat, spanTy] using hj⟩⟩
     try replace XR := Lib.hid (XR.out.chg hcn (by simp))
     try replace QX := Lib.hid (QX.out.chg hcn)
     try replace ZR := Lib.hid (ZR.out.chg hcn (by simp))
     try replace QZ := Lib.hid (QZ.out.chg hcn)
     replace C := Lib.hid (C.out.trans hcn)
     clear hw hcn hb hp
     refine hK.out _ _ C.out (fun hHeld => ?_)
     clear hK K
     try simp only [Act.put, sA, s0, s1]
     refine wpAnyH_ready (rs := [7]) (by kernel_rfl) (by simp) ?_
     refine AllReadyH.cons rfl (fun K hK => ?_) AllReadyH.nil
     replace hK := Lib.hid hK
     go_simp
     skip
     obtain ⟨pa, hp⟩ : ∃ p, wc.heap.size = p := ⟨_, rfl⟩
     obtain ⟨wc, hw, hcn, hb⟩ := news1 wc (.cells #[.int .i64 X.n, .int .i64 X.s, .string X.p, .int .i64 X.k, .int .i64 X.m, .slice X.A X.l X.c, .slice X.B X.bl X.bc, .int .i64 Z.n, .int .i64 Z.s, .string Z.p, .int .i64 Z.k, .int .i64 Z.m, .slice Z.A Z.l Z.c, .slice Z.B Z.bl Z.bc] 30)
     rw [← hw, hp]
     rw [hp] at hb
     have XR := Lib.hid (rd_twoS (x := X) (y := Z) hb)
     have QX : Hid (EvsR wc [X, Z] [s1E, s3E]) := Lib.hid (by simpa using (((EvsR.nil wc).snoc (HX.out wc (D.out.trans (C.out.trans hcn)))).snoc (HZ.out wc (D.out.trans (C.out.trans hcn)))))
     try replace KR := Lib.hid (KR.out.chg hcn (by simp))
     try replace ZR := Lib.hid (ZR.out.chg hcn (by simp))
     try replace QZ := Lib.hid (QZ.out.chg hcn)
     replace C := Lib.hid (C.out.trans hcn)
     clear hw hcn hb hp
     refine hK.out _ _ C.out (fun hHeld => ?_)
     clear hK K
     try simp only [Act.put, sA, s0, s1]
     refine wpAnyH_ready (rs := [10]) (by kernel_rfl) (by simp) ?_
     refine AllReadyH.cons rfl (fun K hK => ?_) AllReadyH.nil
     replace hK := Lib.hid hK
     go_simp
     refine (l10mis wc pa pk X Z XR.out QX.out KR.out).mono ?_
     rintro r wc ⟨A5, c5, z5, rfl, he, hc⟩
     have RM := Lib.hid he.row.reads
     have EM := Lib.hid he.all.ev
     clear he
     try replace ZR := Lib.hid (ZR.out.chg hc (by simp))
     try replace QZ := Lib.hid (QZ.out.chg hc)
     replace C := Lib.hid (C.out.trans hc)
     clear hc
     refine hK.out _ _ C.out (fun hHeld => ?_)
     clear hK K
     try simp only [Act.put, sA, s0, s1]
     refine wpAnyH_ready (rs := [13]) (by kernel_rfl) (by simp) ?_
     refine AllReadyH.cons rfl (fun K hK => ?_) AllReadyH.nil
     replace hK := Lib.hid hK
     go_simp
     refine (l10is_any wc A5 (some ⟨pz, 0, none⟩) c5 1 z5 [Z] [s3E] [s3E] RM.out ZR.out EM.out QZ.out ⟨by have a := EM.out.1; simp at a; omega, by simp⟩ ⟨fun e he => by have := (s_sms (l := [s3E]) (by simp) e he).2; omega, fun e he => by have := (s_sms (l := [s3E]) (by simp) e he).2; omega⟩).mono ?_
     rintro r wc ⟨rfl, hc⟩
     rw [sameL_refl]
     replace C := Lib.hid (C.out.trans hc)
     clear hc
     refine hK.out _ _ C.out (fun hHeld => ?_)
     clear hK K
     try simp only [Act.put, sA, s0, s1]
     obtain ⟨n5, hn5⟩ : ∃ n, z5.length = n := ⟨_, rfl⟩
     rw [hn5]
     exact JOIN pa pk pz A5 c5 n5 wc C
  case rest =>
   intro pa pk pz A5 c5 n5 wc C
   clear hHeld
   have hHeld := C.out
   refine sy 14 77 rfl rfl ?_
   try simp only [Act.put, sA, s0, s1]
   refine sy 15 78 rfl rfl ?_
   try simp only [Act.put, sA, s0, s1]
   refine sy 16 79 rfl rfl ?_
   try simp only [Act.put, sA, s0, s1]
   refine sy 17 80 rfl rfl ?_
   try simp only [Act.put, sA, s0, s1]
   refine sy 18 81 rfl rfl ?_
   try simp only [Act.put, sA, s0, s1]
   refine sy 19 82 rfl rfl ?_
   try simp only [Act.put, sA, s0, s1]
   refine sy 20 83 rfl rfl ?_
   try simp only [Act.put, sA, s0, s1]
   refine sy 21 84 rfl rfl ?_ (hy := by (intro w hSw; (try dsimp only at hSw); obtain ⟨q0, q1, q2, q3, q4, q5, q6⟩ := HB2.out _ (D.out.trans hSw); go_simp; try with_reducible rfl))
   try simp only [Act.put, sA, s0, s1]
   refine sy 22 85 rfl rfl ?_ (hy := by (intro w hSw; (try dsimp only at hSw); obtain ⟨q0, q1, q2, q3, q4, q5, q6⟩ := HB3.out _ (D.out.trans hSw); go_simp; try with_reducible rfl))
   try simp only [Act.put, sA, s0, s1]
   refine wpAnyH_ready (rs := [23]) (by kernel_rfl) (by simp) ?_
   refine AllReadyH.cons rfl (fun K hK => ?_) AllReadyH.nil
   replace hK := Lib.hid hK
   go_simp
   skip
   obtain ⟨pl, hp⟩ : ∃ p, wc.heap.size = p := ⟨_, rfl⟩
   obtain ⟨wc, hw, hcn, hb⟩ := news1 wc (.cells #[.int .i64 Y.n, .int .i64 Y.s, .string Y.p, .int .i64 Y.k, .int .i64 Y.m, .slice Y.A Y.l Y.c, .slice Y.B Y.bl Y.bc, .int .i64 Z.n, .int .i64 Z.s, .string Z.p, .int .i64 Z.k, .int .i64 Z.m, .slice Z.A Z.l Z.c, .slice Z.B Z.bl Z.bc] 30)
   rw [← hw, hp]
   rw [hp] at hb
   have XRl := Lib.hid (rd_twoS (x := Y) (y := Z) hb)
   have QXl : Hid (EvsR wc [Y, Z] [s2E, s3E]) := Lib.hid (by simpa using (((EvsR.nil wc).snoc (HY.out wc (D.out.trans (C.out.trans hcn)))).snoc (HZ.out wc (D.out.trans (C.out.trans hcn)))))
   replace C := Lib.hid (C.out.trans hcn)
   clear hw hcn hb hp
   refine hK.out _ _ C.out (fun hHeld => ?_)
   clear hK K
   try simp only [Act.put, sA, s0, s1]
   refine wpAnyH_ready (rs := [24]) (by kernel_rfl) (by simp) ?_
   refine AllReadyH.cons rfl (fun K hK => ?_) AllReadyH.nil
   replace hK := Lib.hid hK
   go_simp
   refine (l10is_any wc Al (some ⟨pl, 0, none⟩) cl 2 zl [Y, Z] [s2E, s3E] [s2E, s3E] (Rl.out.chg C.out (by simp)) XRl.out (El.out.chg C.out) QXl.out ⟨by have a := El.out.1; simp at a; omega, by simp⟩ ⟨fun e he => by have := (s_sms (l := [s2E, s3E]) (by simp) e he).2; omega, fun e he => by have := (s_sms (l := [s2E, s3E]) (by simp) e he).2; omega⟩).mono ?_
   rintro r wc ⟨rfl, hc⟩
   rw [sameL_refl]
   clear XRl QXl
   replace C := Lib.hid (C.out.trans hc)
   clear hc
   refine hK.out _ _ C.out (fun hHeld => ?_)
   clear hK K
   try simp only [Act.put, sA, s0, s1]
   refine sy 25 88 rfl rfl ?_
   try simp only [Act.put, sA, s0, s1]
   refine sy 26 89 rfl rfl ?_
   try simp only [Act.put, sA, s0, s1]
   refine sy 27 90 rfl rfl ?_
   try simp only [Act.put, sA, s0, s1]
   refine sy 28 91 rfl rfl ?_
   try simp only [Act.put, sA, s0, s1]
   refine sy 29 92 rfl rfl ?_
   try simp only [Act.put, sA, s0, s1]
   refine sy 30 93 rfl rfl ?_
   try simp only [Act.put, sA, s0, s1]
   refine sy 31 94 rfl rfl ?_
   try simp only [Act.put, sA, s0, s1]
   refine sy 32 95 rfl rfl ?_ (hy := by (intro w hSw; (try dsimp only at hSw); obtain ⟨q0, q1, q2, q3, q4, q5, q6⟩ := HB2.out _ (D.out.trans hSw); go_simp; try with_reducible rfl))
   try simp only [Act.put, sA, s0, s1]
   refine sy 33 96 rfl rfl ?_ (hy := by (intro w hSw; (try dsimp only at hSw); obtain ⟨q0, q1, q2, q3, q4, q5, q6⟩ := HB3.out _ (D.out.trans hSw); go_simp; try with_reducible rfl))
   try simp only [Act.put, sA, s0, s1]
   refine wpAnyH_ready (rs := [34]) (by kernel_rfl) (by simp) ?_
   refine AllReadyH.cons rfl (fun K hK => ?_) AllReadyH.nil
   replace hK := Lib.hid hK
   go_simp
   skip
   obtain ⟨pr, hp⟩ : ∃ p, wc.heap.size = p := ⟨_, rfl⟩
   obtain ⟨wc, hw, hcn, hb⟩ := news1 wc (.cells #[.int .i64 Y.n, .int .i64 Y.s, .string Y.p, .int .i64 Y.k, .int .i64 Y.m, .slice Y.A Y.l Y.c, .slice Y.B Y.bl Y.bc, .int .i64 Z.n, .int .i64 Z.s, .string Z.p, .int .i64 Z.k, .int .i64 Z.m, .slice Z.A Z.l Z.c, .slice Z.B Z.bl Z.bc] 30)
   rw [← hw, hp]
   rw [hp] at hb
   have XRr := Lib.hid (rd_twoS (x := Y) (y := Z) hb)
   have QXr : Hid (EvsR wc [Y, Z] [s2E, s3E]) := Lib.hid (by simpa using (((EvsR.nil wc).snoc (HY.out wc (D.out.trans (C.out.trans hcn)))).snoc (HZ.out wc (D.out.trans (C.out.trans hcn)))))
   replace C := Lib.hid (C.out.trans hcn)
   clear hw hcn hb hp
   refine hK.out _ _ C.out (fun hHeld => ?_)
   clear hK K
   try simp only [Act.put, sA, s0, s1]
   refine wpAnyH_ready (rs := [35]) (by kernel_rfl) (by simp) ?_
   refine AllReadyH.cons rfl (fun K hK => ?_) AllReadyH.nil
   replace hK := Lib.hid hK
   go_simp
   refine (l10is_any wc Ar (some ⟨pr, 0, none⟩) cr 2 zr [Y, Z] [s2E, s3E] [s2E, s3E] (Rr.out.chg C.out (by simp)) XRr.out (Er.out.chg C.out) QXr.out ⟨by have a := Er.out.1; simp at a; omega, by simp⟩ ⟨fun e he => by have := (s_sms (l := [s2E, s3E]) (by simp) e he).2; omega, fun e he => by have := (s_sms (l := [s2E, s3E]) (by simp) e he).2; omega⟩).mono ?_
   rintro r wc ⟨rfl, hc⟩
   rw [sameL_refl]
   clear XRr QXr
   replace C := Lib.hid (C.out.trans hc)
   clear hc
   refine hK.out _ _ C.out (fun hHeld => ?_)
   clear hK K
   try simp only [Act.put, sA, s0, s1]
   refine sy 36 99 rfl rfl ?_
   try simp only [Act.put, sA, s0, s1]
   refine sy 37 100 rfl rfl ?_
   try simp only [Act.put, sA, s0, s1]
   refine sy 38 101 rfl rfl ?_
   try simp only [Act.put, sA, s0, s1]
   refine sy 39 102 rfl rfl ?_
   try simp only [Act.put, sA, s0, s1]
   refine sy 40 103 rfl rfl ?_
   try simp only [Act.put, sA, s0, s1]
   refine sy 41 104 rfl rfl ?_
   try simp only [Act.put, sA, s0, s1]
   refine sy 42 105 rfl rfl ?_
   try simp only [Act.put, sA, s0, s1]
   refine wpAnyH_ready (rs := [43]) (by kernel_rfl) (by simp) ?_
   refine AllReadyH.cons rfl (fun K hK => ?_) AllReadyH.nil
   replace hK := Lib.hid hK
   go_simp
   refine (start_10 wc).mono ?_
   rintro r wc ⟨rfl, hww⟩
   have hc := Chg.refl [] wc
   subst hww
   replace C := Lib.hid (C.out.trans hc)
   clear hc
   refine hK.out _ _ C.out (fun hHeld => ?_)
   clear hK K
   try simp only [Act.put, sA, s0, s1]
   refine sy 44 107 rfl rfl ?_
   try simp only [Act.put, sA, s0, s1]
   refine sy 45 108 rfl rfl ?_
   try simp only [Act.put, sA, s0, s1]
   refine sy 46 0 rfl rfl ?_
   try simp only [Act.put, sA, s0, s1]
   refine wpAnyH_done (by kernel_rfl) ?_ _
   clear hHeld
   go_wp2
   go_ret
   exact ⟨rfl, C0.out.trans (C2.out.trans (D.out.trans C.out))⟩
end
section
open Go.RowKit Go.Lib


set_option maxRecDepth 100000 in
set_option maxHeartbeats 4000000 in
theorem evclosed2_any (w : World) (gp : Nat) (A : Option Addr) (c : Nat) (xs : List EvT) (es : List EvP) (y : EvT) (f : EvP) (hp : w.heap[gp]? = some (.cells #[.slice A xs.length c] 22 (0, 0))) (h : RdK evTy w A xs.length xs) (hx : EvsR w xs es) (hu : UpE xs) (hf : FitE w xs) (hn : xs.length ≤ 100000) (hs : ∀ e ∈ es, e.q.length ≤ 140737488351232) (hy : EvR w y f) (fy : FitW w y.B y.bl y.bc) (hl : f.q.length ≤ 140737488351232) :
  Calls Tryz.prog 84 #[.agg #[.int .i64 y.n, .int .i64 y.s, .string y.p, .int .i64 y.k, .int .i64 y.m, .slice y.A y.l y.c, .slice y.B y.bl y.bc], .pointer (some ⟨gp, 0, none⟩)] w fun r w' => r = .returned (.bool (!bringsE es f)) ∧ Chg [] w w' := by
 obtain ⟨w1, hw1, c1, b1⟩ := news1 w (.cells #[.int .i64 y.n, .int .i64 y.s, .string y.p, .int .i64 y.k, .int .i64 y.m, .slice y.A y.l y.c, .slice y.B y.bl y.bc] 30)
 have W1 := Lib.hid hw1
 have C1 := Lib.hid c1
 have BR := Lib.hid (evbrings_any w1 A c xs es y f (h.chg c1 (by simp)) (hx.chg c1) hu (hf.chg c1) (hy.chg c1) (fy.chg c1) hn ⟨hs, hl⟩)
 have p0 := cell_of (c1.at_ hp (by simp)) 0
 have y0 := cell_of b1 0
 have y1 := cell_of b1 1
 have y2 := cell_of b1 2
 have y3 := cell_of b1 3
 have y4 := cell_of b1 4
 have y5 := cell_of b1 5
 have y6 := cell_of b1 6
 simp only [List.getElem?_toArray, List.getElem?_cons_succ, List.getElem?_cons_zero] at p0 y0 y1 y2 y3 y4 y5 y6
 clear hw1 c1 b1 hp h hx hu hf hn hs hy fy hl
 generalize hv : bringsE es f = v at *
 have HV := Lib.hid hv
 clear hv
 go_enter Tryz.func84, Tryz.ntmps84
 go_upto_region 1 with fail
 rw [← W1.out]
 generalize w.heap.size = g1 at *
 clear W1
 go_wp2_with fail
 refine BR.out.mono ?_
 rintro r w2 ⟨rfl, hc⟩
 replace C1 := Lib.hid (C1.out.trans hc)
 clear hc BR p0 y0 y1 y2 y3 y4 y5 y6
 go_wp2
 go_ret
 exact ⟨rfl, C1.out⟩
theorem all_at_no {α : Type} {p : α → Bool} {l : List α} {k : Nat} {x : α} (h : l[k]? = some x) (hp : p x = false) : l.all p = false := by
 rcases q : l.all p with _ | _
 ·
  rfl
 ·
  have := List.all_eq_true.1 q x (List.mem_of_getElem? h)
  rw [hp] at this
  exact absurd this (by decide)
set_option maxRecDepth 100000 in
set_option maxHeartbeats 4000000 in
theorem evindex_any (w : World) (gp : Nat) (A : Option Addr) (c : Nat) (xs : List EvT) (es : List EvP) (hp : w.heap[gp]? = some (.cells #[.slice A xs.length c] 22 (0, 0))) (h : RdK evTy w A xs.length xs) (hx : EvsR w xs es) (hu : UpE xs) (hf : FitE w xs) (hn : xs.length ≤ 100000) (hs : ∀ e ∈ es, e.q.length ≤ 140737488351232) :
  Calls Tryz.prog 153 #[.slice A xs.length c, .func (.func 84) #[] #[.pointer (some ⟨gp, 0, none⟩)]] w fun r w' => (∃ v : Int, r = .returned (.int .i64 v) ∧ es.all (bringsE es) = decide (v < 0)) ∧ Chg [] w w' := by
 have HP := Lib.hid hp
 have HA := Lib.hid h
 have HX := Lib.hid hx
 have HU := Lib.hid hu
 have HF := Lib.hid hf
 have HN := Lib.hid hn
 have HS := Lib.hid hs
 clear hp h hx hu hf hn hs
 go_enter Tryz.func153, Tryz.ntmps153
 go_wp2
 go_loopw [5, 8] (fun v5 v8 wr => ∃ (k : Nat), k ≤ xs.length ∧ v8 = .int .i64 k ∧ Hid ((es.take k).all (bringsE es) = true) ∧ Hid (Chg [] w wr)) (fun _ v8 _ => xs.length - (RowKit.intOf v8).toNat)
 case atStart => exact ⟨0, Nat.zero_le _, rfl, Lib.hid rfl, Chg.refl _ _⟩
 case round =>
  obtain ⟨k, hk, rfl, FN, RC⟩ := hrel
  have i0 : (0 : Int) ≤ (k : Int) := by omega
  by_cases hlt : k < xs.length
  ·
   have i1 : (k : Int) < (xs.length : Int) := by omega
   have i3 : IntKind.i64.wrap ((k : Int) + 1) = (k : Int) + 1 := IntWalk.i64_in _ (by have := HN.out; omega)
   obtain ⟨x, e, ex, ee, rx⟩ := HX.out.at_ hlt
   obtain ⟨g, o, eA, _⟩ := HA.out.line (by omega)
   subst eA
   obtain ⟨z0, z1, z2, z3, z4, z5, z6⟩ := evCells (HA.out.chg RC.out (by simp)) ex
   have EE := Lib.hid ee
   have CL := Lib.hid (evclosed2_any wr gp _ c xs es x e (RC.out.at_ HP.out (by simp)) (HA.out.chg RC.out (by simp)) (HX.out.chg RC.out) HU.out (HF.out.chg RC.out) HN.out HS.out (rx.chg RC.out) ((HF.out x (List.mem_of_getElem? ex)).chg RC.out) (HS.out e (List.mem_of_getElem? ee)))
   clear ex ee rx
   go_wp2_with fail
   refine CL.out.mono ?_
   rintro r w2 ⟨rfl, hc⟩
   have C2 := Lib.hid (RC.out.trans hc)
   clear hc CL z0 z1 z2 z3 z4 z5 z6
   rcases hb : bringsE es e with _ | _
   ·
    have NO : Hid (es.all (bringsE es) = false) := Lib.hid (all_at_no EE.out hb)
    clear hb
    go_wp2
    go_ret
    exact ⟨by rw [NO.out]; simp, C2.out⟩
   ·
    have FN1 : Hid ((es.take (k + 1)).all (bringsE es) = true) := Lib.hid (by rw [all_take_succ EE.out, FN.out, hb]; rfl)
    clear hb FN
    go_wp2
    go_round
    case rel => exact ⟨k + 1, by omega, by go_num, FN1, C2⟩
    case measure => simp [RowKit.intOf]; omega
  ·
   obtain rfl : k = xs.length := by omega
   have ET : es.take xs.length = es := by rw [HX.out.1]; exact List.take_length
   rw [ET] at FN
   clear ET
   have i1 : ¬ (xs.length : Int) < (xs.length : Int) := by omega
   go_wp2
   go_ret
   exact ⟨by rw [FN.out]; simp, RC.out⟩
set_option maxRecDepth 100000 in
set_option maxHeartbeats 4000000 in
theorem evcontains_any (w : World) (gp : Nat) (A : Option Addr) (c : Nat) (xs : List EvT) (es : List EvP) (hp : w.heap[gp]? = some (.cells #[.slice A xs.length c] 22 (0, 0))) (h : RdK evTy w A xs.length xs) (hx : EvsR w xs es) (hu : UpE xs) (hf : FitE w xs) (hn : xs.length ≤ 100000) (hs : ∀ e ∈ es, e.q.length ≤ 140737488351232) :
  Calls Tryz.prog 83 #[.slice A xs.length c, .func (.func 84) #[] #[.pointer (some ⟨gp, 0, none⟩)]] w fun r w' => r = .returned (.bool (!es.all (bringsE es))) ∧ Chg [] w w' := by
 have IX := Lib.hid (evindex_any w gp A c xs es hp h hx hu hf hn hs)
 clear hp h hx hu hf hn hs
 have go : ∀ v, (!es.all (bringsE es)) = v → Calls Tryz.prog 83 #[.slice A xs.length c, .func (.func 84) #[] #[.pointer (some ⟨gp, 0, none⟩)]] w (fun e w' => e = .returned (.bool v) ∧ Chg [] w w') → Calls Tryz.prog 83 #[.slice A xs.length c, .func (.func 84) #[] #[.pointer (some ⟨gp, 0, none⟩)]] w fun e w' => e = .returned (.bool (!es.all (bringsE es))) ∧ Chg [] w w' := fun v hv h => hv ▸ h
 rcases hf : es.all (bringsE es) with _ | _
 ·
  rw [hf] at go
  refine go true rfl ?_
  clear go
  go_enter Tryz.func83, Tryz.ntmps83
  go_wp2_with fail
  refine IX.out.mono ?_
  rintro e w2 ⟨⟨v, rfl, hv⟩, hc⟩
  have C := Lib.hid hc
  have hv2 : decide ((0 : Int) ≤ v) = true := decide_eq_true (by rw [hf] at hv; have := of_decide_eq_false hv.symm; omega)
  clear hv hc hf
  go_wp2
  go_ret
  exact ⟨rfl, C.out⟩
 ·
  rw [hf] at go
  refine go false rfl ?_
  clear go
  go_enter Tryz.func83, Tryz.ntmps83
  go_wp2_with fail
  refine IX.out.mono ?_
  rintro e w2 ⟨⟨v, rfl, hv⟩, hc⟩
  have C := Lib.hid hc
  have hv2 : decide ((0 : Int) ≤ v) = false := decide_eq_false (by rw [hf] at hv; have := of_decide_eq_true hv.symm; omega)
  clear hv hc hf
  go_wp2
  go_ret
  exact ⟨rfl, C.out⟩
end
section
open Go.RowKit Go.Lib


theorem EvsR.perm {w : World} {xs ms : List EvT} {es : List EvP} (h : EvsR w xs es) (hp : ms.Perm xs) : ∃ fs, fs.Perm es ∧ EvsR w ms fs := by
 obtain ⟨fs, hl, hz⟩ := perm_zip hp es h.1.symm
 have hm : ms.length = xs.length := hp.length_eq
 refine ⟨fs, ?_, hl.symm, fun i x e hx he => ?_⟩
 ·
  have := hz.map Prod.snd
  rwa [List.map_snd_zip (by omega), List.map_snd_zip (by rw [h.1]; exact Nat.le_refl _)] at this
 ·
  have hi : (x, e) ∈ ms.zip fs := List.mem_of_getElem? (i := i) (by rw [List.getElem?_zip_eq_some]; exact ⟨hx, he⟩)
  obtain ⟨j, hj⟩ := List.getElem?_of_mem (hz.mem_iff.1 hi)
  rw [List.getElem?_zip_eq_some] at hj
  exact h.2 j x e hj.1 hj.2
theorem up_apart {w : World} {ms : List EvT} {fs : List EvP} (h : EvsR w ms fs) (hu : UpE ms) (ha : ∀ (p : Nat) (a b : EvT), ms[p]? = some a → ms[p + 1]? = some b → ¬ (a.n = b.n ∧ a.s = b.s)) : fs.Pairwise (fun a b => ¬ (a.n = b.n ∧ a.s = b.s)) := by
 rw [List.pairwise_iff_getElem]
 intro i j hi hj hij
 have hl := h.1
 have ei := List.getElem?_eq_getElem (show i < ms.length by omega)
 have ej := List.getElem?_eq_getElem (show j < ms.length by omega)
 have ek := List.getElem?_eq_getElem (show i + 1 < ms.length by omega)
 have r1 := h.2 i _ _ ei (List.getElem?_eq_getElem hi)
 have r2 := h.2 j _ _ ej (List.getElem?_eq_getElem hj)
 rw [← r1.n, ← r1.s, ← r2.n, ← r2.s]
 have a := ha i _ _ ei ek
 have b := up_at hu ei ek (by omega)
 by_cases q : i + 1 = j
 ·
  subst q
  exact a
 ·
  have d := up_at hu ek ej (by omega)
  unfold LtD at b d
  omega
set_option maxRecDepth 100000 in
set_option maxHeartbeats 16000000 in
theorem evclosed_any (w : World) (A : Option Addr) (c : Nat) (xs : List EvT) (es : List EvP) (h : RdK evTy w A xs.length xs) (hx : EvsR w xs es) (hf : FitE w xs) (hn : xs.length ≤ 100000) (hs : ∀ e ∈ es, EvSm e) :
  Calls Tryz.prog 38 #[.slice A xs.length c] w fun r w' => r = .returned (.bool (closedE es)) ∧ Chg [] w w' := by

 have HA := Lib.hid h
 have HX := Lib.hid hx
 have HF := Lib.hid hf
 have HN := Lib.hid hn
 have HS := Lib.hid hs
 clear h hx hf hn hs
 go_enter Tryz.func38, Tryz.ntmps38
 go_wp2_with fail
 refine (cloneEv_any w A xs.length c xs HA.out (by have := HN.out; omega)).mono ?_
 rintro r w1 ⟨A1, c1, rfl, o1, n1, h1⟩
 have O1 := Lib.hid o1
 have N1 := Lib.hid n1
 have C1 := Lib.hid h1
 have L1 := Lib.hid (o1.lt_)
 clear o1 n1 h1
 obtain ⟨w2, hw, hc, b2⟩ := news1 w1 (.cells #[.slice A1 xs.length c1] 22)
 have W2 := Lib.hid hw
 have B2 := Lib.hid b2
 have NE : Hid (w1.heap.size ∉ blkOf A1) := Lib.hid (notin_hi L1.out (Nat.le_refl _))
 replace O1 := Lib.hid (O1.out.chg hc (by simp))
 replace C1 := Lib.hid (C1.out.trans hc)
 clear hw hc b2
 go_upto_region 2 with fail
 rw [← W2.out]
 generalize w1.heap.size = gp at *
 clear W2
 have p0 := cell_of B2.out 0
 simp only [List.getElem?_toArray, List.getElem?_cons_succ, List.getElem?_cons_zero] at p0
 go_wp2_with fail
 refine (sortp_any (R := evTy) Tryz.llLaysE06 Tryz.isAgg30 Tryz.sizeOf30 cmpEv swoEv 81 (enters_of Tryz.func81 (by kernel_rfl) rfl) evcmp_says w2 A1 c1 xs O1.out (by have := HN.out; omega)).mono ?_
 rintro r w3 ⟨rfl, ms, hp, hs, o2, h2⟩
 have RO := Lib.hid o2
 replace B2 := Lib.hid (h2.at_ B2.out NE.out)
 replace C1 := Lib.hid (C1.out.trans' h2 fun i hi => .inr (blkOf_new N1.out i hi))
 have ML : ms.length = xs.length := hp.length_eq
 have UP : Hid (UpE ms) := Lib.hid (hs.imp (fun {x y} q => by
  rw [ltEv, decide_eq_false_iff_not] at q
  exact q))
 obtain ⟨fs, hfp, hr⟩ := HX.out.perm hp
 have RX := Lib.hid (hr.chg C1.out)
 have RF : Hid (FitE w3 ms) := Lib.hid (fun x hx => (HF.out x (hp.mem_iff.1 hx)).chg C1.out)
 have CE : Hid (closedE es = closedE fs) := Lib.hid (closed_perm hfp.symm)
 have ES : Hid (∀ e ∈ fs, EvSm e) := Lib.hid (fun e he => HS.out e (hfp.mem_iff.1 he))
 have MN : Hid (ms.length ≤ 100000) := Lib.hid (by rw [ML]; exact HN.out)
 rw [← ML] at B2 ⊢
 clear hp hs o2 h2 O1 hfp hr p0 HX HF HS HN ML HA N1 L1 NE
 have p0 := cell_of B2.out 0
 simp only [List.getElem?_toArray, List.getElem?_cons_succ, List.getElem?_cons_zero] at p0
 go_wp2
 clear p0
 go_loopw [4, 12] (fun v4 v12 wr => ∃ (k : Nat), k ≤ ms.length ∧ v12 = .int .i64 k ∧ Hid (okAll (fs.take k) = true) ∧ Hid (∀ (p : Nat) (a b : EvT), p + 1 < k → ms[p]? = some a → ms[p + 1]? = some b → ¬ (a.n = b.n ∧ a.s = b.s)) ∧ Hid (Chg [] w3 wr)) (fun _ v12 _ => ms.length - (RowKit.intOf v12).toNat)
 case atStart => exact ⟨0, Nat.zero_le _, rfl, Lib.hid rfl, Lib.hid (fun p a b h => absurd h (by omega)), Chg.refl _ _⟩
 case round =>
  obtain ⟨k, hk, rfl, OKK, AP, PC⟩ := hrel
  have j0 : (0 : Int) ≤ (k : Int) := by omega
  by_cases hlt : k < ms.length
  ·
   have j1 : (k : Int) < (ms.length : Int) := by omega
   have j3 : IntKind.i64.wrap ((k : Int) + 1) = (k : Int) + 1 := IntWalk.i64_in _ (by have := MN.out; omega)
   obtain ⟨g3, o3, eA, _⟩ := RO.out.reads.line (by omega)
   have eo : o3 = 0 := by
    rcases RO.out.shape with ⟨h, _⟩ | ⟨g', h, _⟩
    ·
     rw [h] at eA; cases eA
    ·
     rw [h] at eA; cases eA; rfl
   subst eo
   subst eA
   obtain ⟨x, e, ex, ee, rx⟩ := RX.out.at_ hlt
   obtain ⟨z0, z1, z2, z3, z4, z5, z6⟩ := evCells (RO.out.reads.chg PC.out (by simp)) ex
   simp only [Nat.zero_add] at z0 z1 z2 z3 z4 z5 z6
   have EX := Lib.hid ex
   have EE := Lib.hid ee
   have RX1 := Lib.hid rx
   have ES1 := Lib.hid (ES.out e (List.mem_of_getElem? ee))
   clear ex ee rx
   obtain ⟨w5, hw5, c5, b5⟩ := news1 wr (.cells #[.int .i64 x.n, .int .i64 x.s, .string x.p, .int .i64 x.k, .int .i64 x.m, .slice x.A x.l x.c, .slice x.B x.bl x.bc] 30)
   have W5 := Lib.hid hw5
   have B5 := Lib.hid b5
   replace PC := Lib.hid (PC.out.trans c5)
   clear hw5 c5 b5
   go_upto_region 6 with fail
   rw [← W5.out]
   generalize wr.heap.size = g6 at *
   clear W5 z0 z1 z2 z3 z4 z5 z6
   have P5 := Lib.hid (PC.out.at_ B2.out (by simp))
   have HB : Hid (∀ w', Chg [] w5 w' → (w'.cell? ⟨g6, 0, none⟩ = some (.int .i64 x.n) ∧ w'.cell? ⟨g6, 1, none⟩ = some (.int .i64 x.s) ∧ w'.cell? ⟨g6, 2, none⟩ = some (.string x.p) ∧ w'.cell? ⟨g6, 3, none⟩ = some (.int .i64 x.k) ∧ w'.cell? ⟨g6, 4, none⟩ = some (.int .i64 x.m) ∧ w'.cell? ⟨g6, 5, none⟩ = some (.slice x.A x.l x.c) ∧ w'.cell? ⟨g6, 6, none⟩ = some (.slice x.B x.bl x.bc)) ∧ w'.cell? ⟨gp, 0, none⟩ = some (.slice (some ⟨g3, 0, none⟩) ms.length c1)) := Lib.hid (fun w' hc => by
    have b := hc.at_ B5.out (by simp)
    exact ⟨⟨cell_of b 0, cell_of b 1, cell_of b 2, cell_of b 3, cell_of b 4, cell_of b 5, cell_of b 6⟩, cell_of (hc.at_ P5.out (by simp)) 0⟩)
   have HR : Hid (∀ w', Chg [] w5 w' → ∀ y, ms[k - 1]? = some y → w'.cell? ⟨g3, (k - 1) * 7, none⟩ = some (.int .i64 y.n) ∧ w'.cell? ⟨g3, (k - 1) * 7 + 1, none⟩ = some (.int .i64 y.s)) := Lib.hid (fun w' hc y hy => by
    have q := evCells (RO.out.reads.chg (PC.out.trans hc) (by simp)) hy
    simp only [Nat.zero_add] at q
    exact ⟨q.1, q.2.1⟩)
   have CHK : Hid (∀ w', Chg [] w5 w' → Calls Tryz.prog 46 #[.agg #[.int .i64 x.n, .int .i64 x.s, .string x.p, .int .i64 x.k, .int .i64 x.m, .slice x.A x.l x.c, .slice x.B x.bl x.bc]] w' fun r w2 => r = .returned (.int .i64 (chkEv e)) ∧ Chg [] w' w2) := Lib.hid (fun w' hc => evcheck_any w' x e (RX1.out.chg (PC.out.trans hc)) ES1.out)
   rcases chkEv_two e with e1 | e1
   rotate_left
   ·
    have NO : Hid (closedE fs = false) := Lib.hid (closed_no_chk EE.out (by omega))
    refine wp_region_held_drew (S := fun w' => Chg [] w5 w') (by kernel_rfl) (Chg.refl [] w5).drew (fun hHeld => ?_)
    refine sy 0 17 rfl rfl ?_ (hy := by (intro w hSw; (try dsimp only at hSw); have hq := HB.out _ hSw; obtain ⟨⟨q0, q1, q2, q3, q4, q5, q6⟩, q7⟩ := hq; go_simp; try with_reducible rfl))
    try simp only [Act.put, sA, s0, s1]
    refine wpAnyH_ready (rs := [1]) (by kernel_rfl) (by simp) ?_
    refine AllReadyH.cons rfl (fun K hK => ?_) AllReadyH.nil
    replace hK := Lib.hid hK
    go_simp
    refine (CHK.out _ hHeld).mono ?_
    rintro r w9 ⟨rfl, hc⟩
    rw [e1]
    have C9 := Lib.hid (hHeld.trans hc)
    clear hc hHeld
    refine hK.out _ _ C9.out (fun hHeld => ?_)
    clear hK K
    try simp only [Act.put, sA, s0, s1]
    refine sy 2 19 rfl rfl ?_
    try simp only [Act.put, sA, s0, s1]
    refine sy 3 20 rfl rfl ?_
    try simp only [Act.put, sA, s0, s1]
    refine sn 4 21 rfl rfl ?_
    try simp only [Act.put, sA, s0, s1]
    refine sn 5 22 rfl rfl ?_
    try simp only [Act.put, sA, s0, s1]
    refine sn 6 23 rfl rfl ?_
    try simp only [Act.put, sA, s0, s1]
    refine sn 7 24 rfl rfl ?_
    try simp only [Act.put, sA, s0, s1]
    refine sn 8 25 rfl rfl ?_
    try simp only [Act.put, sA, s0, s1]
    refine sn 9 26 rfl rfl ?_
    try simp only [Act.put, sA, s0, s1]
    refine sn 10 27 rfl rfl ?_
    try simp only [Act.put, sA, s0, s1]
    refine sn 11 28 rfl rfl ?_
    try simp only [Act.put, sA, s0, s1]
    refine sn 12 29 rfl rfl ?_
    try simp only [Act.put, sA, s0, s1]
    refine sn 13 30 rfl rfl ?_
    try simp only [Act.put, sA, s0, s1]
    refine sn 14 31 rfl rfl ?_
    try simp only [Act.put, sA, s0, s1]
    refine sn 15 32 rfl rfl ?_
    try simp only [Act.put, sA, s0, s1]
    refine sn 16 33 rfl rfl ?_
    try simp only [Act.put, sA, s0, s1]
    refine sy 17 34 rfl rfl ?_
    try simp only [Act.put, sA, s0, s1]
    refine wpAnyH_done (by kernel_rfl) ?_ _
    clear hHeld HB HR CHK
    go_wp2
    go_ret
    rw [CE.out, NO.out]
    exact ⟨rfl, C1.out.trans (PC.out.trans C9.out)⟩
   have OT : Hid (okAll (fs.take (k + 1)) = true) := Lib.hid (by rw [okAll_take EE.out, OKK.out, e1]; rfl)
   by_cases k0 : k = 0
   ·
    subst k0
    have AT : Hid (∀ (p : Nat) (a b : EvT), p + 1 < 0 + 1 → ms[p]? = some a → ms[p + 1]? = some b → ¬ (a.n = b.n ∧ a.s = b.s)) := Lib.hid (fun p a b h => absurd h (by omega))
    refine wp_region_held_drew (S := fun w' => Chg [] w5 w') (by kernel_rfl) (Chg.refl [] w5).drew (fun hHeld => ?_)
    refine sy 0 17 rfl rfl ?_ (hy := by (intro w hSw; (try dsimp only at hSw); have hq := HB.out _ hSw; obtain ⟨⟨q0, q1, q2, q3, q4, q5, q6⟩, q7⟩ := hq; go_simp; try with_reducible rfl))
    try simp only [Act.put, sA, s0, s1]
    refine wpAnyH_ready (rs := [1]) (by kernel_rfl) (by simp) ?_
    refine AllReadyH.cons rfl (fun K hK => ?_) AllReadyH.nil
    replace hK := Lib.hid hK
    go_simp
    refine (CHK.out _ hHeld).mono ?_
    rintro r w9 ⟨rfl, hc⟩
    rw [e1]
    have C9 := Lib.hid (hHeld.trans hc)
    clear hc hHeld
    refine hK.out _ _ C9.out (fun hHeld => ?_)
    clear hK K
    try simp only [Act.put, sA, s0, s1]
    refine sy 2 19 rfl rfl ?_
    try simp only [Act.put, sA, s0, s1]
    refine sy 3 20 rfl rfl ?_
    try simp only [Act.put, sA, s0, s1]
    refine sy 4 21 rfl rfl ?_
    try simp only [Act.put, sA, s0, s1]
    refine sy 5 22 rfl rfl ?_
    try simp only [Act.put, sA, s0, s1]
    refine sy 6 23 rfl rfl ?_
    try simp only [Act.put, sA, s0, s1]
    refine sn 7 24 rfl rfl ?_
    try simp only [Act.put, sA, s0, s1]
    refine sn 8 25 rfl rfl ?_
    try simp only [Act.put, sA, s0, s1]
    refine sn 9 26 rfl rfl ?_
    try simp only [Act.put, sA, s0, s1]
    refine sn 10 27 rfl rfl ?_
    try simp only [Act.put, sA, s0, s1]
    refine sn 11 28 rfl rfl ?_
    try simp only [Act.put, sA, s0, s1]
    refine sn 12 29 rfl rfl ?_
    try simp only [Act.put, sA, s0, s1]
    refine sn 13 30 rfl rfl ?_
    try simp only [Act.put, sA, s0, s1]
    refine sn 14 31 rfl rfl ?_
    try simp only [Act.put, sA, s0, s1]
    refine sn 15 32 rfl rfl ?_
    try simp only [Act.put, sA, s0, s1]
    refine sy 16 33 rfl rfl ?_
    try simp only [Act.put, sA, s0, s1]
    refine sy 17 34 rfl rfl ?_
    try simp only [Act.put, sA, s0, s1]
    refine wpAnyH_done (by kernel_rfl) ?_ _
    clear hHeld HB HR CHK
    have RC9 := Lib.hid (PC.out.trans C9.out)
    go_wp2
    go_round
    case rel => exact ⟨0 + 1, by omega, by go_num, OT, AT, RC9⟩
    case measure => simp [RowKit.intOf]; omega
   obtain ⟨y, hy⟩ : ∃ y, ms[k - 1]? = some y := ⟨_, List.getElem?_eq_getElem (by omega)⟩
   have EY := Lib.hid hy
   clear hy
   have g1 : (0 : Int) < (k : Int) := by omega
   have g2 : 0 < k := by omega
   have g3' : decide ((0 : Int) < (k : Int)) = true := by simp; omega
   have g4 : decide (0 < k) = true := by simp; omega
   have w1' : IntKind.i64.wrap ((k : Int) - 1) = ((k - 1 : Nat) : Int) := by rw [IntWalk.i64_in _ (by have := MN.out; omega)]; omega
   have g5 : (0 : Int) ≤ ((k - 1 : Nat) : Int) := by omega
   have g6' : ((k - 1 : Nat) : Int) < (ms.length : Int) := by omega
   have g7 : k - 1 < ms.length := by omega
   by_cases d1 : y.n = x.n ∧ y.s = x.s
   ·
    have NO : Hid (closedE fs = false) := Lib.hid (by
     obtain ⟨y2, f, ey, ef, ry⟩ := RX.out.at_ g7
     rw [EY.out] at ey
     cases ey
     exact closed_no_two ef EE.out (by omega) (fun q => q.1 (by rw [← ry.n, ← ry.s, ← RX1.out.n, ← RX1.out.s]; exact d1)))
    have dq : ((y.n == x.n) : Bool) = true := by simpa using d1.1
    have dr : ((y.s == x.s) : Bool) = true := by simpa using d1.2
    refine wp_region_held_drew (S := fun w' => Chg [] w5 w') (by kernel_rfl) (Chg.refl [] w5).drew (fun hHeld => ?_)
    refine sy 0 17 rfl rfl ?_ (hy := by (intro w hSw; (try dsimp only at hSw); have hq := HB.out _ hSw; obtain ⟨⟨q0, q1, q2, q3, q4, q5, q6⟩, q7⟩ := hq; go_simp; try with_reducible rfl))
    try simp only [Act.put, sA, s0, s1]
    refine wpAnyH_ready (rs := [1]) (by kernel_rfl) (by simp) ?_
    refine AllReadyH.cons rfl (fun K hK => ?_) AllReadyH.nil
    replace hK := Lib.hid hK
    go_simp
    refine (CHK.out _ hHeld).mono ?_
    rintro r w9 ⟨rfl, hc⟩
    rw [e1]
    have C9 := Lib.hid (hHeld.trans hc)
    clear hc hHeld
    refine hK.out _ _ C9.out (fun hHeld => ?_)
    clear hK K
    try simp only [Act.put, sA, s0, s1]
    refine sy 2 19 rfl rfl ?_
    try simp only [Act.put, sA, s0, s1]
    refine sy 3 20 rfl rfl ?_
    try simp only [Act.put, sA, s0, s1]
    refine sy 4 21 rfl rfl ?_
    try simp only [Act.put, sA, s0, s1]
    refine sy 5 22 rfl rfl ?_
    try simp only [Act.put, sA, s0, s1]
    refine sy 6 23 rfl rfl ?_
    try simp only [Act.put, sA, s0, s1]
    refine sy 7 24 rfl rfl ?_ (hy := by (intro w hSw; (try dsimp only at hSw); have hq := HB.out _ hSw; obtain ⟨⟨q0, q1, q2, q3, q4, q5, q6⟩, q7⟩ := hq; go_simp; try with_reducible rfl))
    try simp only [Act.put, sA, s0, s1]
    refine sy 8 25 rfl rfl ?_
    try simp only [Act.put, sA, s0, s1]
    refine sy 9 26 rfl rfl ?_
    try simp only [Act.put, sA, s0, s1]
    refine sy 10 27 rfl rfl ?_
    try simp only [Act.put, sA, s0, s1]
    refine sy 11 28 rfl rfl ?_
    try simp only [Act.put, sA, s0, s1]
    refine sy 12 29 rfl rfl ?_ (hy := by (intro w hSw; (try dsimp only at hSw); have hq := HR.out _ hSw y EY.out; obtain ⟨p0, p1⟩ := hq; go_simp; try with_reducible rfl))
    try simp only [Act.put, sA, s0, s1]
    refine sy 13 30 rfl rfl ?_
    try simp only [Act.put, sA, s0, s1]
    refine sy 14 31 rfl rfl ?_ (hy := by (intro w hSw; (try dsimp only at hSw); have hq := HB.out _ hSw; obtain ⟨⟨q0, q1, q2, q3, q4, q5, q6⟩, q7⟩ := hq; go_simp; try with_reducible rfl))
    try simp only [Act.put, sA, s0, s1]
    refine sy 15 32 rfl rfl ?_
    try simp only [Act.put, sA, s0, s1]
    refine sy 16 33 rfl rfl ?_
    try simp only [Act.put, sA, s0, s1]
    refine sy 17 34 rfl rfl ?_
    try simp only [Act.put, sA, s0, s1]
    refine wpAnyH_done (by kernel_rfl) ?_ _
    clear hHeld HB HR CHK
    go_wp2
    go_ret
    rw [CE.out, NO.out]
    exact ⟨rfl, C1.out.trans (PC.out.trans C9.out)⟩
   have AT : Hid (∀ (p : Nat) (a b : EvT), p + 1 < k + 1 → ms[p]? = some a → ms[p + 1]? = some b → ¬ (a.n = b.n ∧ a.s = b.s)) := Lib.hid (fun p a b h ha hb => by
    by_cases q : p + 1 = k
    ·
     obtain rfl : p = k - 1 := by omega
     rw [EY.out] at ha
     cases ha
     rw [show k - 1 + 1 = k by omega, EX.out] at hb
     cases hb
     exact d1
    ·
     exact AP.out p a b (by omega) ha hb)
   by_cases d2 : y.n = x.n
   ·
    have dq : ((y.n == x.n) : Bool) = true := by simpa using d2
    have dr : ((y.s == x.s) : Bool) = false := by simpa using (fun q => d1 ⟨d2, q⟩)
    refine wp_region_held_drew (S := fun w' => Chg [] w5 w') (by kernel_rfl) (Chg.refl [] w5).drew (fun hHeld => ?_)
    refine sy 0 17 rfl rfl ?_ (hy := by (intro w hSw; (try dsimp only at hSw); have hq := HB.out _ hSw; obtain ⟨⟨q0, q1, q2, q3, q4, q5, q6⟩, q7⟩ := hq; go_simp; try with_reducible rfl))
    try simp only [Act.put, sA, s0, s1]
    refine wpAnyH_ready (rs := [1]) (by kernel_rfl) (by simp) ?_
    refine AllReadyH.cons rfl (fun K hK => ?_) AllReadyH.nil
    replace hK := Lib.hid hK
    go_simp
    refine (CHK.out _ hHeld).mono ?_
    rintro r w9 ⟨rfl, hc⟩
    rw [e1]
    have C9 := Lib.hid (hHeld.trans hc)
    clear hc hHeld
    refine hK.out _ _ C9.out (fun hHeld => ?_)
    clear hK K
    try simp only [Act.put, sA, s0, s1]
    refine sy 2 19 rfl rfl ?_
    try simp only [Act.put, sA, s0, s1]
    refine sy 3 20 rfl rfl ?_
    try simp only [Act.put, sA, s0, s1]
    refine sy 4 21 rfl rfl ?_
    try simp only [Act.put, sA, s0, s1]
    refine sy 5 22 rfl rfl ?_
    try simp only [Act.put, sA, s0, s1]
    refine sy 6 23 rfl rfl ?_
    try simp only [Act.put, sA, s0, s1]
    refine sy 7 24 rfl rfl ?_ (hy := by (intro w hSw; (try dsimp only at hSw); have hq := HB.out _ hSw; obtain ⟨⟨q0, q1, q2, q3, q4, q5, q6⟩, q7⟩ := hq; go_simp; try with_reducible rfl))
    try simp only [Act.put, sA, s0, s1]
    refine sy 8 25 rfl rfl ?_
    try simp only [Act.put, sA, s0, s1]
    refine sy 9 26 rfl rfl ?_
    try simp only [Act.put, sA, s0, s1]
    refine sy 10 27 rfl rfl ?_
    try simp only [Act.put, sA, s0, s1]
    refine sy 11 28 rfl rfl ?_
    try simp only [Act.put, sA, s0, s1]
    refine sy 12 29 rfl rfl ?_ (hy := by (intro w hSw; (try dsimp only at hSw); have hq := HR.out _ hSw y EY.out; obtain ⟨p0, p1⟩ := hq; go_simp; try with_reducible rfl))
    try simp only [Act.put, sA, s0, s1]
    refine sy 13 30 rfl rfl ?_
    try simp only [Act.put, sA, s0, s1]
    refine sy 14 31 rfl rfl ?_ (hy := by (intro w hSw; (try dsimp only at hSw); have hq := HB.out _ hSw; obtain ⟨⟨q0, q1, q2, q3, q4, q5, q6⟩, q7⟩ := hq; go_simp; try with_reducible rfl))
    try simp only [Act.put, sA, s0, s1]
    refine sy 15 32 rfl rfl ?_
    try simp only [Act.put, sA, s0, s1]
    refine sy 16 33 rfl rfl ?_
    try simp only [Act.put, sA, s0, s1]
    refine sy 17 34 rfl rfl ?_
    try simp only [Act.put, sA, s0, s1]
    refine wpAnyH_done (by kernel_rfl) ?_ _
    clear hHeld HB HR CHK
    have RC9 := Lib.hid (PC.out.trans C9.out)
    go_wp2
    go_round
    case rel => exact ⟨k + 1, by omega, by go_num, OT, AT, RC9⟩
    case measure => simp [RowKit.intOf]; omega
   have dq : ((y.n == x.n) : Bool) = false := by simpa using d2
   refine wp_region_held_drew (S := fun w' => Chg [] w5 w') (by kernel_rfl) (Chg.refl [] w5).drew (fun hHeld => ?_)
   refine sy 0 17 rfl rfl ?_ (hy := by (intro w hSw; (try dsimp only at hSw); have hq := HB.out _ hSw; obtain ⟨⟨q0, q1, q2, q3, q4, q5, q6⟩, q7⟩ := hq; go_simp; try with_reducible rfl))
   try simp only [Act.put, sA, s0, s1]
   refine wpAnyH_ready (rs := [1]) (by kernel_rfl) (by simp) ?_
   refine AllReadyH.cons rfl (fun K hK => ?_) AllReadyH.nil
   replace hK := Lib.hid hK
   go_simp
   refine (CHK.out _ hHeld).mono ?_
   rintro r w9 ⟨rfl, hc⟩
   rw [e1]
   have C9 := Lib.hid (hHeld.trans hc)
   clear hc hHeld
   refine hK.out _ _ C9.out (fun hHeld => ?_)
   clear hK K
   try simp only [Act.put, sA, s0, s1]
   refine sy 2 19 rfl rfl ?_
   try simp only [Act.put, sA, s0, s1]
   refine sy 3 20 rfl rfl ?_
   try simp only [Act.put, sA, s0, s1]
   refine sy 4 21 rfl rfl ?_
   try simp only [Act.put, sA, s0, s1]
   refine sy 5 22 rfl rfl ?_
   try simp only [Act.put, sA, s0, s1]
   refine sy 6 23 rfl rfl ?_
   try simp only [Act.put, sA, s0, s1]
   refine sy 7 24 rfl rfl ?_ (hy := by (intro w hSw; (try dsimp only at hSw); have hq := HB.out _ hSw; obtain ⟨⟨q0, q1, q2, q3, q4, q5, q6⟩, q7⟩ := hq; go_simp; try with_reducible rfl))
   try simp only [Act.put, sA, s0, s1]
   refine sy 8 25 rfl rfl ?_
   try simp only [Act.put, sA, s0, s1]
   refine sy 9 26 rfl rfl ?_
   try simp only [Act.put, sA, s0, s1]
   refine sy 10 27 rfl rfl ?_
   try simp only [Act.put, sA, s0, s1]
   refine sy 11 28 rfl rfl ?_
   try simp only [Act.put, sA, s0, s1]
   refine sy 12 29 rfl rfl ?_ (hy := by (intro w hSw; (try dsimp only at hSw); have hq := HR.out _ hSw y EY.out; obtain ⟨p0, p1⟩ := hq; go_simp; try with_reducible rfl))
   try simp only [Act.put, sA, s0, s1]
   refine sy 13 30 rfl rfl ?_
   try simp only [Act.put, sA, s0, s1]
   refine sy 14 31 rfl rfl ?_ (hy := by (intro w hSw; (try dsimp only at hSw); have hq := HB.out _ hSw; obtain ⟨⟨q0, q1, q2, q3, q4, q5, q6⟩, q7⟩ := hq; go_simp; try with_reducible rfl))
   try simp only [Act.put, sA, s0, s1]
   refine sy 15 32 rfl rfl ?_
   try simp only [Act.put, sA, s0, s1]
   refine sy 16 33 rfl rfl ?_
   try simp only [Act.put, sA, s0, s1]
   refine sy 17 34 rfl rfl ?_
   try simp only [Act.put, sA, s0, s1]
   refine wpAnyH_done (by kernel_rfl) ?_ _
   clear hHeld HB HR CHK
   have RC9 := Lib.hid (PC.out.trans C9.out)
   go_wp2
   go_round
   case rel => exact ⟨k + 1, by omega, by go_num, OT, AT, RC9⟩
   case measure => simp [RowKit.intOf]; omega
  ·
   obtain rfl : k = ms.length := by omega
   have j1 : ¬ (ms.length : Int) < (ms.length : Int) := by omega
   have ET : fs.take ms.length = fs := by rw [RX.out.1]; exact List.take_length
   rw [ET] at OKK
   clear ET
   have AN : Hid (closedE fs = fs.all (bringsE fs)) := Lib.hid (closed_brings OKK.out (up_apart RX.out UP.out (fun p a b ha hb => AP.out p a b ((List.getElem?_eq_some_iff.1 hb).1) ha hb)))
   have P5 := Lib.hid (PC.out.at_ B2.out (by simp))
   have p0 := cell_of P5.out 0
   simp only [List.getElem?_toArray, List.getElem?_cons_succ, List.getElem?_cons_zero] at p0
   have SQ : Hid (∀ e ∈ fs, e.q.length ≤ 140737488351232) := Lib.hid (fun e he => (ES.out e he).2.2)
   go_wp2_with fail
   refine (evcontains_any wr gp A1 c1 ms fs P5.out (RO.out.reads.chg PC.out (by simp)) (RX.out.chg PC.out) UP.out (RF.out.chg PC.out) MN.out SQ.out).mono ?_
   rintro r w4 ⟨rfl, hc⟩
   rw [← AN.out]
   have C4 := Lib.hid ((C1.out.trans PC.out).trans hc)
   clear hc p0 AN
   go_wp2
   go_ret
   rw [CE.out]
   exact ⟨by simp, C4.out⟩
end
end Go.Proofs.YtomgjogkkoigbaaGreatDoor
