/- SameTexts; the document's join, Split. The law's awake (layer 10), by contracts. StorePuts. Rows of events as arguments. Nothing is asked of the variables. -/
import Derived.Test.YtomgjogkkoigbaaGreatDoorZspr
import Derived.Test.YtomgjogkkoigbaaGreatDoorZspzc
import Derived.Test.YtomgjogkkoigbaaGreatDoorZspb
import Derived.Deep.Cut
import Derived.Deep.RegionHeld3
import Derived.Test.YtomgjogkkoigbaaGreatDoorZspj
import Derived.Test.YtomgjogkkoigbaaGreatDoorZspd
import Derived.Test.YtomgjogkkoigbaaGreatDoorZspt
import Derived.Test.YtomgjogkkoigbaaGreatDoorZspq
import Derived.Test.YtomgjogkkoigbaaGreatDoorZspi
import Derived.Test.YtomgjogkkoigbaaGreatDoorLaid0
set_option linter.unusedSimpArgs false
set_option linter.unusedVariables false
namespace Go.Proofs.YtomgjogkkoigbaaGreatDoor
section
open Go.RowKit
set_option maxRecDepth 100000 in
set_option maxHeartbeats 2000000 in
theorem sametexts_any (w : World) (A B : Option Addr) (c d : Nat) (xs ys : List (List UInt8)) (h : RdK textTy w A xs.length xs) (h' : RdK textTy w B ys.length ys) (hx : xs.length ≤ 140737488351232) (hy : ys.length ≤ 140737488351232) :
  Calls Tryz.prog 27 #[.slice A xs.length c, .slice B ys.length d] w fun e w' => e = .returned (.bool (xs == ys)) ∧ Chg [] w w' := by
 have HA := Lib.hid h
 have HB := Lib.hid h'
 clear h h'
 obtain ⟨R, hR⟩ : ∃ R, (xs == ys) = R := ⟨_, rfl⟩
 rw [hR]
 have HR := Lib.hid hR
 clear hR
 by_cases hne : xs.length = ys.length
 ·
  have hb : ((xs.length : Int) == (ys.length : Int)) = true := by simp; omega
  have HN := Lib.hid hne
  clear hne
  go_enter Tryz.func27, Tryz.ntmps27
  go_wp2
  go_loopw [5] (fun v5 wr => ∃ k : Nat, k ≤ xs.length ∧ v5 = .int .i64 (k : Int) ∧ Hid (xs.take k = ys.take k ∧ Chg [] w wr)) (fun v5 _ => xs.length - (RowKit.intOf v5).toNat)
  case atStart => exact ⟨0, Nat.zero_le _, rfl, rfl, Chg.refl _ _⟩
  case round =>
   obtain ⟨k, hk, rfl, HI⟩ := hrel
   have k1 : IntKind.i64.wrap ((k : Int) + 1) = (k : Int) + 1 := IntWalk.i64_in _ (by omega)
   have i0 : (0 : Int) ≤ (k : Int) := by omega
   by_cases hlt : k < xs.length
   ·
    have hlt2 : k < ys.length := by have := HN.out; omega
    have i1 : (k : Int) < (xs.length : Int) := by omega
    have i2 : (k : Int) < (ys.length : Int) := by omega
    obtain ⟨g, o, eA, _⟩ := HA.out.line (by omega)
    subst eA
    obtain ⟨g2, o2, eB, _⟩ := HB.out.line (by omega)
    subst eB
    have ex := List.getElem?_eq_getElem hlt
    have z := textCells (HA.out.chg HI.out.2 (by simp)) ex
    have ey := List.getElem?_eq_getElem hlt2
    have z2 := textCells (HB.out.chg HI.out.2 (by simp)) ey
    generalize xs[k] = x at *
    generalize ys[k] = y at *
    have HE := Lib.hid (And.intro ex ey)
    clear ex ey
    by_cases hxy : x = y
    ·
     subst hxy
     have h1 : (x == x) = true := by simp
     go_wp2
     go_quiet (fail)
     go_wp2
     refine ⟨⟨k + 1, by omega, by simp, Lib.hid ⟨?_, HI.out.2.drewN _⟩⟩, by simp [RowKit.intOf]; omega⟩
     rw [List.take_add_one, List.take_add_one, HI.out.1, HE.out.1, HE.out.2]
    ·
     have h1 : (x == y) = false := by simpa using hxy
     have h2 := str_ne hxy
     have HF := Lib.hid (show R = false by
      rw [← HR.out, beq_eq_false_iff_ne]
      intro e
      have h3 := HE.out.1
      rw [e, HE.out.2] at h3
      exact hxy (Option.some.inj h3).symm)
     go_wp2
     go_quiet (fail)
     go_wp2; go_ret
     exact ⟨congrArg (fun v => Ending.returned (Value.bool v)) HF.out.symm, HI.out.2.drewN _⟩
   ·
    obtain rfl : k = xs.length := by omega
    have HF := Lib.hid (show R = true by
     have h3 := HI.out.1
     rw [List.take_length, HN.out, List.take_length] at h3
     rw [← HR.out, h3]
     simp)
    have i1 : ¬ ((xs.length : Int) < (xs.length : Int)) := by omega
    go_wp2; go_ret
    exact ⟨congrArg (fun v => Ending.returned (Value.bool v)) HF.out.symm, HI.out.2⟩
 ·
  have hb : ((xs.length : Int) == (ys.length : Int)) = false := by simp; omega
  have hb2 : ¬ ((xs.length : Int) = (ys.length : Int)) := by omega
  have HF := Lib.hid (show R = false by
   rw [← HR.out, beq_eq_false_iff_ne]
   intro e
   exact hne (by rw [e]))
  go_enter Tryz.func27, Tryz.ntmps27
  go_wp2; go_ret
  exact ⟨congrArg (fun v => Ending.returned (Value.bool v)) HF.out.symm, Chg.refl _ _⟩
end
section
open Go.RowKit Go.Lib


theorem joinS4 {α β γ δ : Type} {F R : α → β → γ → δ → Prop} {G : Prop} (h1 : (∀ a b c d, F a b c d → R a b c d) → G) (h2 : ∀ a b c d, F a b c d → R a b c d) : G := h1 h2
theorem joinS5 {α β γ δ ε : Type} {F R : α → β → γ → δ → ε → Prop} {G : Prop} (h1 : (∀ a b c d e, F a b c d e → R a b c d e) → G) (h2 : ∀ a b c d e, F a b c d e → R a b c d e) : G := h1 h2
theorem rd_twoS {w : World} {g : Nat} {x y : EvT} (h : w.heap[g]? = some (.cells #[.int .i64 x.n, .int .i64 x.s, .string x.p, .int .i64 x.k, .int .i64 x.m, .slice x.A x.l x.c, .slice x.B x.bl x.bc, .int .i64 y.n, .int .i64 y.s, .string y.p, .int .i64 y.k, .int .i64 y.m, .slice y.A y.l y.c, .slice y.B y.bl y.bc] 30)) : RdK evTy w (some ⟨g, 0, none⟩) 2 [x, y] :=
 ⟨rfl, fun j v hj => ⟨_, rfl, by rw [add_zero_lit, cell_of h j]; simpa [RowTy.flat, evTy] using hj⟩⟩
set_option maxRecDepth 100000 in
set_option maxHeartbeats 32000000 in
theorem l10awake_run (w : World) : Calls Tryz.prog 8 #[] w fun e w' => e = .returned (.bool true) ∧ Chg [] w w' := by

 have C0 := Lib.hid (Chg.refl [] w)
 go_enter Tryz.func8, Tryz.ntmps8
 go_wp2_with fail
 refine (l10three_any w).mono ?_
 rintro r w1 ⟨X, Y, Z, rfl, ex, ey, ez, hc⟩
 obtain ⟨w2, hw2, c2, b1, b2, b3⟩ := news3 w1 (.cells #[.int .i64 X.n, .int .i64 X.s, .string X.p, .int .i64 X.k, .int .i64 X.m, .slice X.A X.l X.c, .slice X.B X.bl X.bc] 30) (.cells #[.int .i64 Y.n, .int .i64 Y.s, .string Y.p, .int .i64 Y.k, .int .i64 Y.m, .slice Y.A Y.l Y.c, .slice Y.B Y.bl Y.bc] 30) (.cells #[.int .i64 Z.n, .int .i64 Z.s, .string Z.p, .int .i64 Z.k, .int .i64 Z.m, .slice Z.A Z.l Z.c, .slice Z.B Z.bl Z.bc] 30)
 have W2 := Lib.hid hw2
 have HX := Lib.hid (fun (w' : World) (k : Chg [] w2 w') => ex.chg (c2.trans k))
 have HY := Lib.hid (fun (w' : World) (k : Chg [] w2 w') => ey.chg (c2.trans k))
 have HZ := Lib.hid (fun (w' : World) (k : Chg [] w2 w') => ez.chg (c2.trans k))
 have C2 := Lib.hid (hc.trans c2)
 have B1 := Lib.hid b1
 have B2 := Lib.hid b2
 have B3 := Lib.hid b3
 clear hw2 c2 b1 b2 b3 hc ex ey ez
 go_upto_region 2 with fail
 rw [← W2.out]
 obtain ⟨g1, h1⟩ : ∃ g, w1.heap.size = g := ⟨_, rfl⟩
 obtain ⟨g2, h2⟩ : ∃ g, g1 + 1 = g := ⟨_, rfl⟩
 obtain ⟨g3, h3⟩ : ∃ g, g2 + 1 = g := ⟨_, rfl⟩
 rw [show w1.heap.size + 2 = w1.heap.size + 1 + 1 from rfl] at B3
 rw [h1] at B1 B2 B3 ⊢
 rw [h2] at B2 B3 ⊢
 rw [h3] at B3 ⊢
 clear h1 h2 h3 W2
 have HB1 : Hid (∀ w', Chg [] w2 w' → w'.cell? ⟨g1, 0, none⟩ = some (.int .i64 X.n) ∧ w'.cell? ⟨g1, 1, none⟩ = some (.int .i64 X.s) ∧ w'.cell? ⟨g1, 2, none⟩ = some (.string X.p) ∧ w'.cell? ⟨g1, 3, none⟩ = some (.int .i64 X.k) ∧ w'.cell? ⟨g1, 4, none⟩ = some (.int .i64 X.m) ∧ w'.cell? ⟨g1, 5, none⟩ = some (.slice X.A X.l X.c) ∧ w'.cell? ⟨g1, 6, none⟩ = some (.slice X.B X.bl X.bc)) := Lib.hid (fun w' hc => by
  have q := hc.at_ B1.out (by simp)
  exact ⟨cell_of q 0, cell_of q 1, cell_of q 2, cell_of q 3, cell_of q 4, cell_of q 5, cell_of q 6⟩)
 have HB2 : Hid (∀ w', Chg [] w2 w' → w'.cell? ⟨g2, 0, none⟩ = some (.int .i64 Y.n) ∧ w'.cell? ⟨g2, 1, none⟩ = some (.int .i64 Y.s) ∧ w'.cell? ⟨g2, 2, none⟩ = some (.string Y.p) ∧ w'.cell? ⟨g2, 3, none⟩ = some (.int .i64 Y.k) ∧ w'.cell? ⟨g2, 4, none⟩ = some (.int .i64 Y.m) ∧ w'.cell? ⟨g2, 5, none⟩ = some (.slice Y.A Y.l Y.c) ∧ w'.cell? ⟨g2, 6, none⟩ = some (.slice Y.B Y.bl Y.bc)) := Lib.hid (fun w' hc => by
  have q := hc.at_ B2.out (by simp)
  exact ⟨cell_of q 0, cell_of q 1, cell_of q 2, cell_of q 3, cell_of q 4, cell_of q 5, cell_of q 6⟩)
 have HB3 : Hid (∀ w', Chg [] w2 w' → w'.cell? ⟨g3, 0, none⟩ = some (.int .i64 Z.n) ∧ w'.cell? ⟨g3, 1, none⟩ = some (.int .i64 Z.s) ∧ w'.cell? ⟨g3, 2, none⟩ = some (.string Z.p) ∧ w'.cell? ⟨g3, 3, none⟩ = some (.int .i64 Z.k) ∧ w'.cell? ⟨g3, 4, none⟩ = some (.int .i64 Z.m) ∧ w'.cell? ⟨g3, 5, none⟩ = some (.slice Z.A Z.l Z.c) ∧ w'.cell? ⟨g3, 6, none⟩ = some (.slice Z.B Z.bl Z.bc)) := Lib.hid (fun w' hc => by
  have q := hc.at_ B3.out (by simp)
  exact ⟨cell_of q 0, cell_of q 1, cell_of q 2, cell_of q 3, cell_of q 4, cell_of q 5, cell_of q 6⟩)
 have D := Lib.hid (Chg.refl [] w2)
 clear B1 B2 B3
 obtain ⟨z0, z1, z2, z3, z4, z5, z6⟩ := HB3.out _ D.out
 have PU := stput_any w2 none 0 [] [] Z s3E (RdK.nil _ _) ⟨by simp, by simp [maxLen]⟩ (.inl rfl) (EvsR.nil _) (by simp) (by simp) (HZ.out _ D.out) (s_sm _ (by simp))
 rw [s_put0] at PU
 simp only [List.length_nil] at PU
 have PU2 := Lib.hid PU
 clear PU; go_wp2_with fail; clear z0 z1 z2 z3 z4 z5 z6
 refine PU2.out.mono ?_
 rintro r w3 ⟨Aa, ca, za, rfl, he, hc⟩
 clear PU2
 replace D := Lib.hid (D.out.trans hc)
 have Ra := Lib.hid he.row.reads
 have Ea := Lib.hid he.all.ev
 have Pa := Lib.hid he.row.cap
 have Fa : Hid (∀ a, Aa = some a → a.block < w3.heap.size) := Lib.hid (fun a ha => (he.rowAt a ha).2)
 clear hc he
 obtain ⟨z0, z1, z2, z3, z4, z5, z6⟩ := HB1.out _ D.out
 have PU := stput_any w3 Aa ca za [s3E] X s1E Ra.out Pa.out (.inr Fa.out) Ea.out (by have a := Ea.out.1; simp at a; omega) s_sms (HX.out _ D.out) (s_sm _ (by simp))
 rw [s_put1] at PU
 have PU2 := Lib.hid PU
 clear PU; go_wp2_with fail; clear z0 z1 z2 z3 z4 z5 z6
 refine PU2.out.mono ?_
 rintro r w4 ⟨Ab, cb, zb, rfl, he, hc⟩
 clear PU2
 replace D := Lib.hid (D.out.trans hc)
 replace Ra := Lib.hid (Ra.out.chg hc (by simp))
 replace Ea := Lib.hid (Ea.out.chg hc)
 replace Fa := Lib.hid (fun a ha => Nat.lt_of_lt_of_le (Fa.out a ha) hc.size)
 have Rb := Lib.hid he.row.reads
 have Eb := Lib.hid he.all.ev
 have Pb := Lib.hid he.row.cap
 have Fb : Hid (∀ a, Ab = some a → a.block < w4.heap.size) := Lib.hid (fun a ha => (he.rowAt a ha).2)
 clear hc he; clear Ra Ea Pa Fa
 obtain ⟨z0, z1, z2, z3, z4, z5, z6⟩ := HB2.out _ D.out
 have PU := stput_any w4 Ab cb zb [s1E, s3E] Y s2E Rb.out Pb.out (.inr Fb.out) Eb.out (by have a := Eb.out.1; simp at a; omega) s_sms (HY.out _ D.out) (s_sm _ (by simp))
 rw [s_put2] at PU
 have PU2 := Lib.hid PU
 clear PU; go_wp2_with fail; clear z0 z1 z2 z3 z4 z5 z6
 refine PU2.out.mono ?_
 rintro r w5 ⟨Ac, cc, zc, rfl, he, hc⟩
 clear PU2
 replace D := Lib.hid (D.out.trans hc)
 replace Rb := Lib.hid (Rb.out.chg hc (by simp))
 replace Eb := Lib.hid (Eb.out.chg hc)
 replace Fb := Lib.hid (fun a ha => Nat.lt_of_lt_of_le (Fb.out a ha) hc.size)
 have Rc := Lib.hid he.row.reads
 have Ec := Lib.hid he.all.ev
 have Pc := Lib.hid he.row.cap
 have Fc : Hid (∀ a, Ac = some a → a.block < w5.heap.size) := Lib.hid (fun a ha => (he.rowAt a ha).2)
 clear hc he
 have KN := stknownf_any w5 Ac cc zc [s2E, s3E] Rc.out Pc.out.1 (.inr Fc.out) Ec.out (by have a := Ec.out.1; simp at a; omega) (fun e he => (s_sms (by simp) e he).1)
 rw [s_known] at KN
 have KN2 := Lib.hid KN
 clear KN; go_wp2_with fail
 refine KN2.out.mono ?_
 rintro r w6 ⟨Ak, ck, rfl, ho, hc⟩
 clear KN2
 replace D := Lib.hid (D.out.trans hc)
 replace Rb := Lib.hid (Rb.out.chg hc (by simp))
 replace Eb := Lib.hid (Eb.out.chg hc)
 replace Fb := Lib.hid (fun a ha => Nat.lt_of_lt_of_le (Fb.out a ha) hc.size)
 replace Rc := Lib.hid (Rc.out.chg hc (by simp))
 replace Ec := Lib.hid (Ec.out.chg hc)
 replace Fc := Lib.hid (fun a ha => Nat.lt_of_lt_of_le (Fc.out a ha) hc.size)
 have RK := Lib.hid ho.reads
 clear ho hc
 have LB : Hid (zb.length = 2) := Lib.hid Eb.out.1
 have LC : Hid (zc.length = 2) := Lib.hid Ec.out.1
 have PT : Hid (∀ w', Chg [] w6 w' → Calls Tryz.prog 28 #[.slice Ab zb.length cb] w' fun r w2 => ∃ (B : Option Addr) (d : Nat), r = .returned (.slice B 2 d) ∧ RdK textTy w2 B 2 [[102], [102, 47, 103]] ∧ Chg [] w' w2) := Lib.hid (fun w' hc => by
  have q := stpaths_any w' Ab cb zb [s1E, s3E] (Rb.out.chg hc (by simp)) Pb.out.1 (.inr (fun a ha => Nat.lt_of_lt_of_le (Fb.out a ha) hc.size)) (Eb.out.chg hc) (by have := LB.out; omega) (fun e he => (s_sms (by simp) e he).1)
  rw [s_paths] at q
  exact q)
 have SHF : Hid (∀ w', Chg [] w6 w' → Calls Tryz.prog 21 #[.slice Ac zc.length cc, .string ⟨#[102]⟩] w' fun r w2 => ∃ (A' : Option Addr) (c' : Nat) (zs : List EvT), r = .returned (.slice A' zs.length c') ∧ EsF w2 w'.heap.size w2.heap.size A' c' zs [s2E] ∧ Chg [] w' w2) := Lib.hid (fun w' hc => by
  have q := stshelf_any w' Ac cc zc [s2E, s3E] [102] (Rc.out.chg hc (by simp)) (Ec.out.chg hc) (by have := LC.out; omega) s_sms
  rw [s_shelf] at q
  exact q)
 have NEA : Hid (∀ w', Chg [] w6 w' → Calls Tryz.prog 22 #[.slice Ac zc.length cc, .string ⟨#[102, 47, 103]⟩] w' fun r w2 => ∃ (A' : Option Addr) (c' : Nat) (zs : List EvT), r = .returned (.slice A' zs.length c') ∧ EsF w2 w'.heap.size w2.heap.size A' c' zs [s2E, s3E] ∧ Chg [] w' w2) := Lib.hid (fun w' hc => by
  have q := stnear_any w' Ac cc zc [s2E, s3E] [102, 47, 103] (Rc.out.chg hc (by simp)) (Ec.out.chg hc) (by have := LC.out; omega) (by simp) s_sms
  rw [s_near] at q
  exact q)
 go_upto_region 6 with fail
 refine wp_region_held_drew (S := fun w' => Chg [] w6 w') (by kernel_rfl) (Chg.refl [] w6).drew (fun hHeld => ?_)
 have C := Lib.hid hHeld
 clear hHeld
 obtain ⟨wc, hwc⟩ : ∃ wc, w6.drew = wc := ⟨_, rfl⟩
 rw [hwc] at C ⊢
 clear hwc
 have hHeld := C.out
 have C6 := C
 refine' joinS4 (F := fun (px : Nat) (B : Option Addr) (d : Nat) (wc : World) => Hid (Chg [] w6 wc)) (R := _) (fun JOIN => ?leaf) ?rest
 case leaf =>
  refine sy 0 38 rfl rfl ?_; try simp only [Act.put, sA, s0, s1]
  refine sy 1 39 rfl rfl ?_; try simp only [Act.put, sA, s0, s1]
  refine sy 2 40 rfl rfl ?_; try simp only [Act.put, sA, s0, s1]
  refine sy 3 41 rfl rfl ?_; try simp only [Act.put, sA, s0, s1]
  refine sy 4 42 rfl rfl ?_; try simp only [Act.put, sA, s0, s1]
  refine sy 5 43 rfl rfl ?_; try simp only [Act.put, sA, s0, s1]
  refine sy 6 44 rfl rfl ?_; try simp only [Act.put, sA, s0, s1]
  refine sy 7 45 rfl rfl ?_; try simp only [Act.put, sA, s0, s1]
  refine wpAnyH_ready (rs := [8, 9]) (by kernel_rfl) (by simp) ?_
  refine AllReadyH.cons rfl (fun K hK => ?_) (AllReadyH.cons rfl (fun K hK => ?_) AllReadyH.nil)
  ·
   skip; replace hK := Lib.hid hK; go_simp
   refine (PT.out _ C.out).mono ?_
   rintro r wc ⟨B, d, rfl, hr, hc⟩
   have RB := Lib.hid hr
   clear hr
   try replace XR := Lib.hid (XR.out.chg hc (by simp))
   replace C := Lib.hid (C.out.trans hc)
   clear hc
   refine hK.out _ _ C.out (fun hHeld => ?_)
   clear hK K; try simp only [Act.put, sA, s0, s1]
   refine wpAnyH_ready (rs := [9]) (by kernel_rfl) (by simp) ?_; refine AllReadyH.cons rfl (fun K hK => ?_) AllReadyH.nil; replace hK := Lib.hid hK; go_simp; skip
   obtain ⟨px, hp⟩ : ∃ p, wc.heap.size = p := ⟨_, rfl⟩
   obtain ⟨wc, hw, hcn, hb⟩ := news1 wc (.cells #[.string ⟨#[102]⟩, .string ⟨#[102, 47, 103]⟩] 9)
   rw [← hw, hp]
   rw [hp] at hb
   have XR : Hid (RdK textTy wc (some ⟨px, 0, none⟩) 2 [[102], [102, 47, 103]]) := Lib.hid (rd_text (xs := [[102], [102, 47, 103]]) hb (by simp [maxLen]))
   try replace RB := Lib.hid (RB.out.chg hcn (by simp))
   replace C := Lib.hid (C.out.trans hcn)
   clear hw hcn hb hp
   refine hK.out _ _ C.out (fun hHeld => ?_)
   clear hK K; try simp only [Act.put, sA, s0, s1]
   refine wpAnyH_ready (rs := [10]) (by kernel_rfl) (by simp) ?_; refine AllReadyH.cons rfl (fun K hK => ?_) AllReadyH.nil; replace hK := Lib.hid hK; go_simp
   refine (sametexts_any wc B _ d 2 [[102], [102, 47, 103]] [[102], [102, 47, 103]] RB.out XR.out (by simp) (by simp)).mono ?_
   rintro r wc ⟨rfl, hc⟩
   rw [beq_self_eq_true]
   replace C := Lib.hid (C.out.trans hc)
   clear hc
   refine hK.out _ _ C.out (fun hHeld => ?_)
   clear hK K; try simp only [Act.put, sA, s0, s1]
   refine sy 11 49 rfl rfl ?_; try simp only [Act.put, sA, s0, s1]
   exact JOIN px B d wc C
  ·
   skip; replace hK := Lib.hid hK; go_simp; skip
   obtain ⟨px, hp⟩ : ∃ p, wc.heap.size = p := ⟨_, rfl⟩
   obtain ⟨wc, hw, hcn, hb⟩ := news1 wc (.cells #[.string ⟨#[102]⟩, .string ⟨#[102, 47, 103]⟩] 9)
   rw [← hw, hp]
   rw [hp] at hb
   have XR : Hid (RdK textTy wc (some ⟨px, 0, none⟩) 2 [[102], [102, 47, 103]]) := Lib.hid (rd_text (xs := [[102], [102, 47, 103]]) hb (by simp [maxLen]))
   try replace RB := Lib.hid (RB.out.chg hcn (by simp))
   replace C := Lib.hid (C.out.trans hcn)
   clear hw hcn hb hp
   refine hK.out _ _ C.out (fun hHeld => ?_)
   clear hK K; try simp only [Act.put, sA, s0, s1]
   refine wpAnyH_ready (rs := [8]) (by kernel_rfl) (by simp) ?_; refine AllReadyH.cons rfl (fun K hK => ?_) AllReadyH.nil; replace hK := Lib.hid hK; go_simp
   refine (PT.out _ C.out).mono ?_
   rintro r wc ⟨B, d, rfl, hr, hc⟩
   have RB := Lib.hid hr
   clear hr
   try replace XR := Lib.hid (XR.out.chg hc (by simp))
   replace C := Lib.hid (C.out.trans hc)
   clear hc
   refine hK.out _ _ C.out (fun hHeld => ?_)
   clear hK K; try simp only [Act.put, sA, s0, s1]
   refine wpAnyH_ready (rs := [10]) (by kernel_rfl) (by simp) ?_; refine AllReadyH.cons rfl (fun K hK => ?_) AllReadyH.nil; replace hK := Lib.hid hK; go_simp
   refine (sametexts_any wc B _ d 2 [[102], [102, 47, 103]] [[102], [102, 47, 103]] RB.out XR.out (by simp) (by simp)).mono ?_
   rintro r wc ⟨rfl, hc⟩
   rw [beq_self_eq_true]
   replace C := Lib.hid (C.out.trans hc)
   clear hc
   refine hK.out _ _ C.out (fun hHeld => ?_)
   clear hK K; try simp only [Act.put, sA, s0, s1]
   refine sy 11 49 rfl rfl ?_; try simp only [Act.put, sA, s0, s1]
   exact JOIN px B d wc C
 case rest =>
  intro px B d wc C
  clear C6 hHeld
  have hHeld := C.out
  refine' joinS5 (F := fun (p : Nat) (A : Option Addr) (c n : Nat) (wc : World) => Hid (Chg [] w6 wc)) (R := _) (fun JOIN => ?leaf) ?rest
  case leaf =>
   refine sy 12 50 rfl rfl ?_; try simp only [Act.put, sA, s0, s1]
   refine sy 13 51 rfl rfl ?_; try simp only [Act.put, sA, s0, s1]
   refine sy 14 52 rfl rfl ?_; try simp only [Act.put, sA, s0, s1]
   refine sy 15 53 rfl rfl ?_; try simp only [Act.put, sA, s0, s1]
   refine sy 16 54 rfl rfl ?_; try simp only [Act.put, sA, s0, s1]
   refine sy 17 55 rfl rfl ?_; try simp only [Act.put, sA, s0, s1]
   refine sy 19 57 rfl rfl ?_ (hy := by (intro w hSw; (try dsimp only at hSw); obtain ⟨q0, q1, q2, q3, q4, q5, q6⟩ := HB2.out _ (D.out.trans hSw); go_simp; try with_reducible rfl))
   try simp only [Act.put, sA, s0, s1]
   refine wpAnyH_ready (rs := [18, 20]) (by kernel_rfl) (by simp) ?_
   refine AllReadyH.cons rfl (fun K hK => ?_) (AllReadyH.cons rfl (fun K hK => ?_) AllReadyH.nil)
   ·
    skip; replace hK := Lib.hid hK; go_simp
    refine (SHF.out _ C.out).mono ?_
    rintro r wc ⟨A5, c5, z5, rfl, he, hc⟩
    have R5 := Lib.hid he.row.reads
    have E5 := Lib.hid he.all.ev
    clear he
    try replace XR := Lib.hid (XR.out.chg hc (by simp))
    try replace QX := Lib.hid (QX.out.chg hc)
    replace C := Lib.hid (C.out.trans hc)
    clear hc
    refine hK.out _ _ C.out (fun hHeld => ?_)
    clear hK K; try simp only [Act.put, sA, s0, s1]
    refine wpAnyH_ready (rs := [20]) (by kernel_rfl) (by simp) ?_; refine AllReadyH.cons rfl (fun K hK => ?_) AllReadyH.nil; replace hK := Lib.hid hK; go_simp; skip
    obtain ⟨py, hp⟩ : ∃ p, wc.heap.size = p := ⟨_, rfl⟩
    obtain ⟨wc, hw, hcn, hb⟩ := news1 wc (.cells #[.int .i64 Y.n, .int .i64 Y.s, .string Y.p, .int .i64 Y.k, .int .i64 Y.m, .slice Y.A Y.l Y.c, .slice Y.B Y.bl Y.bc] 30)
    rw [← hw, hp]
    rw [hp] at hb
    have XR := Lib.hid (rd_oneEc (X := Y) hb)
    have QX : Hid (EvsR wc [Y] [s2E]) := Lib.hid (by simpa using (EvsR.nil wc).snoc (HY.out wc (D.out.trans (C.out.trans hcn))))
    try replace R5 := Lib.hid (R5.out.chg hcn (by simp))
    try replace E5 := Lib.hid (E5.out.chg hcn)
    replace C := Lib.hid (C.out.trans hcn)
    clear hw hcn hb hp
    refine hK.out _ _ C.out (fun hHeld => ?_)
    clear hK K; try simp only [Act.put, sA, s0, s1]
    refine wpAnyH_ready (rs := [21]) (by kernel_rfl) (by simp) ?_; refine AllReadyH.cons rfl (fun K hK => ?_) AllReadyH.nil; replace hK := Lib.hid hK; go_simp
    refine (l10is_any wc A5 (some ⟨py, 0, none⟩) c5 1 z5 [Y] [s2E] [s2E] R5.out XR.out E5.out QX.out ⟨by have a := E5.out.1; simp at a; omega, by simp⟩ ⟨fun e he => by have := (s_sms (l := [s2E]) (by simp) e he).2; omega, fun e he => by have := (s_sms (l := [s2E]) (by simp) e he).2; omega⟩).mono ?_
    rintro r wc ⟨rfl, hc⟩
    rw [sameL_refl]
    replace C := Lib.hid (C.out.trans hc)
    clear hc
    refine hK.out _ _ C.out (fun hHeld => ?_)
    clear hK K; try simp only [Act.put, sA, s0, s1]
    refine sy 22 60 rfl rfl ?_; try simp only [Act.put, sA, s0, s1]
    obtain ⟨n5, hn5⟩ : ∃ n, z5.length = n := ⟨_, rfl⟩
    rw [hn5]
    exact JOIN py A5 c5 n5 wc C
   ·
    skip; replace hK := Lib.hid hK; go_simp; skip
    obtain ⟨py, hp⟩ : ∃ p, wc.heap.size = p := ⟨_, rfl⟩
    obtain ⟨wc, hw, hcn, hb⟩ := news1 wc (.cells #[.int .i64 Y.n, .int .i64 Y.s, .string Y.p, .int .i64 Y.k, .int .i64 Y.m, .slice Y.A Y.l Y.c, .slice Y.B Y.bl Y.bc] 30)
    rw [← hw, hp]
    rw [hp] at hb
    have XR := Lib.hid (rd_oneEc (X := Y) hb)
    have QX : Hid (EvsR wc [Y] [s2E]) := Lib.hid (by simpa using (EvsR.nil wc).snoc (HY.out wc (D.out.trans (C.out.trans hcn))))
    try replace R5 := Lib.hid (R5.out.chg hcn (by simp))
    try replace E5 := Lib.hid (E5.out.chg hcn)
    replace C := Lib.hid (C.out.trans hcn)
    clear hw hcn hb hp
    refine hK.out _ _ C.out (fun hHeld => ?_)
    clear hK K; try simp only [Act.put, sA, s0, s1]
    refine wpAnyH_ready (rs := [18]) (by kernel_rfl) (by simp) ?_; refine AllReadyH.cons rfl (fun K hK => ?_) AllReadyH.nil; replace hK := Lib.hid hK; go_simp
    refine (SHF.out _ C.out).mono ?_
    rintro r wc ⟨A5, c5, z5, rfl, he, hc⟩
    have R5 := Lib.hid he.row.reads
    have E5 := Lib.hid he.all.ev
    clear he
    try replace XR := Lib.hid (XR.out.chg hc (by simp))
    try replace QX := Lib.hid (QX.out.chg hc)
    replace C := Lib.hid (C.out.trans hc)
    clear hc
    refine hK.out _ _ C.out (fun hHeld => ?_)
    clear hK K; try simp only [Act.put, sA, s0, s1]
    refine wpAnyH_ready (rs := [21]) (by kernel_rfl) (by simp) ?_; refine AllReadyH.cons rfl (fun K hK => ?_) AllReadyH.nil; replace hK := Lib.hid hK; go_simp
    refine (l10is_any wc A5 (some ⟨py, 0, none⟩) c5 1 z5 [Y] [s2E] [s2E] R5.out XR.out E5.out QX.out ⟨by have a := E5.out.1; simp at a; omega, by simp⟩ ⟨fun e he => by have := (s_sms (l := [s2E]) (by simp) e he).2; omega, fun e he => by have := (s_sms (l := [s2E]) (by simp) e he).2; omega⟩).mono ?_
    rintro r wc ⟨rfl, hc⟩
    rw [sameL_refl]
    replace C := Lib.hid (C.out.trans hc)
    clear hc
    refine hK.out _ _ C.out (fun hHeld => ?_)
    clear hK K; try simp only [Act.put, sA, s0, s1]
    refine sy 22 60 rfl rfl ?_; try simp only [Act.put, sA, s0, s1]
    obtain ⟨n5, hn5⟩ : ∃ n, z5.length = n := ⟨_, rfl⟩
    rw [hn5]
    exact JOIN py A5 c5 n5 wc C
  case rest =>
   intro py A5 c5 n5 wc C
   clear hHeld
   have hHeld := C.out
   refine' joinS5 (F := fun (p : Nat) (A : Option Addr) (c n : Nat) (wc : World) => Hid (Chg [] w6 wc)) (R := _) (fun JOIN => ?leaf) ?rest
   case leaf =>
    refine sy 23 61 rfl rfl ?_; try simp only [Act.put, sA, s0, s1]
    refine sy 24 62 rfl rfl ?_; try simp only [Act.put, sA, s0, s1]
    refine sy 26 64 rfl rfl ?_ (hy := by (intro w hSw; (try dsimp only at hSw); obtain ⟨q0, q1, q2, q3, q4, q5, q6⟩ := HB2.out _ (D.out.trans hSw); go_simp; try with_reducible rfl))
    try simp only [Act.put, sA, s0, s1]
    refine sy 27 65 rfl rfl ?_ (hy := by (intro w hSw; (try dsimp only at hSw); obtain ⟨q0, q1, q2, q3, q4, q5, q6⟩ := HB3.out _ (D.out.trans hSw); go_simp; try with_reducible rfl))
    try simp only [Act.put, sA, s0, s1]
    refine wpAnyH_ready (rs := [25, 28]) (by kernel_rfl) (by simp) ?_
    refine AllReadyH.cons rfl (fun K hK => ?_) (AllReadyH.cons rfl (fun K hK => ?_) AllReadyH.nil)
    ·
     skip; replace hK := Lib.hid hK; go_simp
     refine (NEA.out _ C.out).mono ?_
     rintro r wc ⟨A7, c7, z7, rfl, he, hc⟩
     have R5 := Lib.hid he.row.reads
     have E5 := Lib.hid he.all.ev
     clear he
     try replace XR := Lib.hid (XR.out.chg hc (by simp))
     try replace QX := Lib.hid (QX.out.chg hc)
     replace C := Lib.hid (C.out.trans hc)
     clear hc
     refine hK.out _ _ C.out (fun hHeld => ?_)
     clear hK K; try simp only [Act.put, sA, s0, s1]
     refine wpAnyH_ready (rs := [28]) (by kernel_rfl) (by simp) ?_; refine AllReadyH.cons rfl (fun K hK => ?_) AllReadyH.nil; replace hK := Lib.hid hK; go_simp; skip
     obtain ⟨pz, hp⟩ : ∃ p, wc.heap.size = p := ⟨_, rfl⟩
     obtain ⟨wc, hw, hcn, hb⟩ := news1 wc (.cells #[.int .i64 Y.n, .int .i64 Y.s, .string Y.p, .int .i64 Y.k, .int .i64 Y.m, .slice Y.A Y.l Y.c, .slice Y.B Y.bl Y.bc, .int .i64 Z.n, .int .i64 Z.s, .string Z.p, .int .i64 Z.k, .int .i64 Z.m, .slice Z.A Z.l Z.c, .slice Z.B Z.bl Z.bc] 30)
     rw [← hw, hp]
     rw [hp] at hb
     have XR := Lib.hid (rd_twoS (x := Y) (y := Z) hb)
     have QX : Hid (EvsR wc [Y, Z] [s2E, s3E]) := Lib.hid (by simpa using ((EvsR.nil wc).snoc (HY.out wc (D.out.trans (C.out.trans hcn)))).snoc (HZ.out wc (D.out.trans (C.out.trans hcn))))
     try replace R5 := Lib.hid (R5.out.chg hcn (by simp))
     try replace E5 := Lib.hid (E5.out.chg hcn)
     replace C := Lib.hid (C.out.trans hcn)
     clear hw hcn hb hp
     refine hK.out _ _ C.out (fun hHeld => ?_)
     clear hK K; try simp only [Act.put, sA, s0, s1]
     refine wpAnyH_ready (rs := [29]) (by kernel_rfl) (by simp) ?_; refine AllReadyH.cons rfl (fun K hK => ?_) AllReadyH.nil; replace hK := Lib.hid hK; go_simp
     refine (l10is_any wc A7 (some ⟨pz, 0, none⟩) c7 2 z7 [Y, Z] [s2E, s3E] [s2E, s3E] R5.out XR.out E5.out QX.out ⟨by have a := E5.out.1; simp at a; omega, by simp⟩ ⟨fun e he => by have := (s_sms (l := [s2E, s3E]) (by simp) e he).2; omega, fun e he => by have := (s_sms (l := [s2E, s3E]) (by simp) e he).2; omega⟩).mono ?_
     rintro r wc ⟨rfl, hc⟩
     rw [sameL_refl]
     replace C := Lib.hid (C.out.trans hc)
     clear hc
     refine hK.out _ _ C.out (fun hHeld => ?_)
     clear hK K; try simp only [Act.put, sA, s0, s1]
     refine sy 30 68 rfl rfl ?_; try simp only [Act.put, sA, s0, s1]
     obtain ⟨n7, hn7⟩ : ∃ n, z7.length = n := ⟨_, rfl⟩
     rw [hn7]
     exact JOIN pz A7 c7 n7 wc C
    ·
     skip; replace hK := Lib.hid hK; go_simp; skip
     obtain ⟨pz, hp⟩ : ∃ p, wc.heap.size = p := ⟨_, rfl⟩
     obtain ⟨wc, hw, hcn, hb⟩ := news1 wc (.cells #[.int .i64 Y.n, .int .i64 Y.s, .string Y.p, .int .i64 Y.k, .int .i64 Y.m, .slice Y.A Y.l Y.c, .slice Y.B Y.bl Y.bc, .int .i64 Z.n, .int .i64 Z.s, .string Z.p, .int .i64 Z.k, .int .i64 Z.m, .slice Z.A Z.l Z.c, .slice Z.B Z.bl Z.bc] 30)
     rw [← hw, hp]
     rw [hp] at hb
     have XR := Lib.hid (rd_twoS (x := Y) (y := Z) hb)
     have QX : Hid (EvsR wc [Y, Z] [s2E, s3E]) := Lib.hid (by simpa using ((EvsR.nil wc).snoc (HY.out wc (D.out.trans (C.out.trans hcn)))).snoc (HZ.out wc (D.out.trans (C.out.trans hcn))))
     try replace R5 := Lib.hid (R5.out.chg hcn (by simp))
     try replace E5 := Lib.hid (E5.out.chg hcn)
     replace C := Lib.hid (C.out.trans hcn)
     clear hw hcn hb hp
     refine hK.out _ _ C.out (fun hHeld => ?_)
     clear hK K; try simp only [Act.put, sA, s0, s1]
     refine wpAnyH_ready (rs := [25]) (by kernel_rfl) (by simp) ?_; refine AllReadyH.cons rfl (fun K hK => ?_) AllReadyH.nil; replace hK := Lib.hid hK; go_simp
     refine (NEA.out _ C.out).mono ?_
     rintro r wc ⟨A7, c7, z7, rfl, he, hc⟩
     have R5 := Lib.hid he.row.reads
     have E5 := Lib.hid he.all.ev
     clear he
     try replace XR := Lib.hid (XR.out.chg hc (by simp))
     try replace QX := Lib.hid (QX.out.chg hc)
     replace C := Lib.hid (C.out.trans hc)
     clear hc
     refine hK.out _ _ C.out (fun hHeld => ?_)
     clear hK K; try simp only [Act.put, sA, s0, s1]
     refine wpAnyH_ready (rs := [29]) (by kernel_rfl) (by simp) ?_; refine AllReadyH.cons rfl (fun K hK => ?_) AllReadyH.nil; replace hK := Lib.hid hK; go_simp
     refine (l10is_any wc A7 (some ⟨pz, 0, none⟩) c7 2 z7 [Y, Z] [s2E, s3E] [s2E, s3E] R5.out XR.out E5.out QX.out ⟨by have a := E5.out.1; simp at a; omega, by simp⟩ ⟨fun e he => by have := (s_sms (l := [s2E, s3E]) (by simp) e he).2; omega, fun e he => by have := (s_sms (l := [s2E, s3E]) (by simp) e he).2; omega⟩).mono ?_
     rintro r wc ⟨rfl, hc⟩
     rw [sameL_refl]
     replace C := Lib.hid (C.out.trans hc)
     clear hc
     refine hK.out _ _ C.out (fun hHeld => ?_)
     clear hK K; try simp only [Act.put, sA, s0, s1]
     refine sy 30 68 rfl rfl ?_; try simp only [Act.put, sA, s0, s1]
     obtain ⟨n7, hn7⟩ : ∃ n, z7.length = n := ⟨_, rfl⟩
     rw [hn7]
     exact JOIN pz A7 c7 n7 wc C
   case rest =>
    intro pz A7 c7 n7 wc C
    clear hHeld
    have hHeld := C.out
    refine sy 31 69 rfl rfl ?_; try simp only [Act.put, sA, s0, s1]
    refine sy 32 70 rfl rfl ?_; try simp only [Act.put, sA, s0, s1]
    refine sy 33 71 rfl rfl ?_; try simp only [Act.put, sA, s0, s1]
    refine sy 34 72 rfl rfl ?_; try simp only [Act.put, sA, s0, s1]
    refine sy 35 73 rfl rfl ?_; try simp only [Act.put, sA, s0, s1]
    refine sy 36 74 rfl rfl ?_; try simp only [Act.put, sA, s0, s1]
    refine sy 37 75 rfl rfl ?_; try simp only [Act.put, sA, s0, s1]
    refine sy 38 76 rfl rfl ?_; try simp only [Act.put, sA, s0, s1]
    refine wpAnyH_ready (rs := [39]) (by kernel_rfl) (by simp) ?_; refine AllReadyH.cons rfl (fun K hK => ?_) AllReadyH.nil; replace hK := Lib.hid hK; go_simp; skip
    obtain ⟨ps, hp⟩ : ∃ p, wc.heap.size = p := ⟨_, rfl⟩
    obtain ⟨wc, hw, hcn, hb⟩ := news1 wc (.cells #[.int .i64 2, .int .i64 1, .int .i64 1, .int .i64 3, .int .i64 1, .int .i64 1] 72)
    rw [← hw, hp]
    rw [hp] at hb
    have XR : Hid (RdK spanTy wc (some ⟨ps, 0, none⟩) 2 [(2, 1, 1), (3, 1, 1)]) := Lib.hid ⟨rfl, fun j v hj => ⟨_, rfl, by rw [add_zero_lit, cell_of hb j]; simpa [RowTy.flat, spanTy] using hj⟩⟩
    replace C := Lib.hid (C.out.trans hcn)
    clear hw hcn hb hp
    refine hK.out _ _ C.out (fun hHeld => ?_)
    clear hK K; try simp only [Act.put, sA, s0, s1]
    refine wpAnyH_ready (rs := [40]) (by kernel_rfl) (by simp) ?_; refine AllReadyH.cons rfl (fun K hK => ?_) AllReadyH.nil; replace hK := Lib.hid hK; go_simp
    refine (samespan_any wc Ak _ 2 2 ck 2 _ _ (RK.out.chg C.out (by simp)) XR.out (by omega) (by omega)).mono ?_
    rintro r wc ⟨rfl, hc⟩
    rw [beq_self_eq_true]
    replace C := Lib.hid (C.out.trans hc)
    clear hc
    refine hK.out _ _ C.out (fun hHeld => ?_)
    clear hK K; try simp only [Act.put, sA, s0, s1]
    refine sy 41 79 rfl rfl ?_; try simp only [Act.put, sA, s0, s1]
    refine sy 42 0 rfl rfl ?_; try simp only [Act.put, sA, s0, s1]
    refine wpAnyH_done (by kernel_rfl) ?_ _; clear hHeld; go_wp2; go_ret
    exact ⟨rfl, C0.out.trans (C2.out.trans (D.out.trans C.out))⟩
end
section
open Go.RowKit Go.Lib


theorem stPut_mem {s : List EvP} {f e : EvP} (h : e ∈ (stPut s f).2) : e = f ∨ e ∈ s := by
 unfold stPut at h
 split at h
 ·
  cases h
 ·
  split at h
  ·
   cases h
  ·
   exact putS_in h
theorem stPut_len (s : List EvP) (f : EvP) : (stPut s f).2.length ≤ s.length + 1 := by
 unfold stPut
 split
 ·
  simp
 ·
  split
  ·
   simp
  ·
   exact elseE_len s f
theorem stJoin_mem {a b : List EvP} {e : EvP} (h : e ∈ (stJoin a b).2) : e ∈ a ∨ e ∈ b := by
 unfold stJoin at h
 split at h
 ·
  exact stFold_in b a e h
 ·
  cases h
theorem stJoin_len (a b : List EvP) : (stJoin a b).2.length ≤ a.length + b.length := by
 unfold stJoin
 split
 ·
  exact stFold_len b a
 ·
  simp
set_option maxHeartbeats 4000000 in
theorem setC7 {w : World} {s0 : Nat} {a0 a1 a2 a3 a4 a5 a6 : Value} {T : TypeId} (v0 v1 v2 v3 v4 v5 v6 : Value) (q0 : w.heap[s0]? = some (.cells #[a0, a1, a2, a3, a4, a5, a6] T (0, 0))) :
  (((((((w.setCell ⟨s0, 0, none⟩ v0).setCell ⟨s0, 1, none⟩ v1).setCell ⟨s0, 2, none⟩ v2).setCell ⟨s0, 3, none⟩ v3).setCell ⟨s0, 4, none⟩ v4).setCell ⟨s0, 5, none⟩ v5).setCell ⟨s0, 6, none⟩ v6).heap[s0]? = some (.cells #[v0, v1, v2, v3, v4, v5, v6] T (0, 0)) ∧ (∀ (s1 : Nat) (o : Obj), s0 ≠ s1 → w.heap[s1]? = some o → (((((((w.setCell ⟨s0, 0, none⟩ v0).setCell ⟨s0, 1, none⟩ v1).setCell ⟨s0, 2, none⟩ v2).setCell ⟨s0, 3, none⟩ v3).setCell ⟨s0, 4, none⟩ v4).setCell ⟨s0, 5, none⟩ v5).setCell ⟨s0, 6, none⟩ v6).heap[s1]? = some o) ∧ Chg [s0] w (((((((w.setCell ⟨s0, 0, none⟩ v0).setCell ⟨s0, 1, none⟩ v1).setCell ⟨s0, 2, none⟩ v2).setCell ⟨s0, 3, none⟩ v3).setCell ⟨s0, 4, none⟩ v4).setCell ⟨s0, 5, none⟩ v5).setCell ⟨s0, 6, none⟩ v6) := by
 have p0 := heap_setCell_same _ s0 0 _ _ v0 q0
 have p1 := heap_setCell_same _ s0 1 _ _ v1 p0
 have p2 := heap_setCell_same _ s0 2 _ _ v2 p1
 have p3 := heap_setCell_same _ s0 3 _ _ v3 p2
 have p4 := heap_setCell_same _ s0 4 _ _ v4 p3
 have p5 := heap_setCell_same _ s0 5 _ _ v5 p4
 have p6 := heap_setCell_same _ s0 6 _ _ v6 p5
 refine ⟨p6, fun s1 o h q1 => ?_, ?_⟩
 ·
  rw [Below.heap_setCell _ _ _ _ (by simp; exact fun e => h e.symm), Below.heap_setCell _ _ _ _ (by simp; exact fun e => h e.symm), Below.heap_setCell _ _ _ _ (by simp; exact fun e => h e.symm), Below.heap_setCell _ _ _ _ (by simp; exact fun e => h e.symm), Below.heap_setCell _ _ _ _ (by simp; exact fun e => h e.symm), Below.heap_setCell _ _ _ _ (by simp; exact fun e => h e.symm), Below.heap_setCell _ _ _ _ (by simp; exact fun e => h e.symm)]
  exact q1
 ·
  exact ((((((((Chg.refl [s0] w).put' 0 v0).put' 1 v1).put' 2 v2).put' 3 v3).put' 4 v4).put' 5 v5).put' 6 v6)

theorem ApartE.more {w w' : World} {A : Option Addr} {xs : List EvT} (h : ApartE w A xs) (hs : w.heap.size ≤ w'.heap.size) : ApartE w' A xs := fun x hx =>
 ⟨fun a ha => ⟨Nat.lt_of_lt_of_le ((h x hx).1 a ha).1 hs, ((h x hx).1 a ha).2⟩, fun a ha => ⟨Nat.lt_of_lt_of_le ((h x hx).2.1 a ha).1 hs, ((h x hx).2.1 a ha).2⟩, (h x hx).2.2⟩
theorem OwnB.lt8_ {w : World} {A : Option Addr} {c : Nat} {xs : List UInt8} (h : OwnB w A c xs) : ∀ a, A = some a → a.block < w.heap.size := by
 rcases h with ⟨rfl, _⟩ | ⟨g, full, rfl, hg, _⟩
 ·
  intro a ha; cases ha
 ·
  intro a ha; cases ha; exact lt_of_heap hg
theorem joinS9 {α β γ δ ε ζ η θ ι : Type} {F R : α → β → γ → δ → ε → ζ → η → θ → ι → Prop} {G : Prop} (h1 : (∀ a b c d e f g h i, F a b c d e f g h i → R a b c d e f g h i) → G) (h2 : ∀ a b c d e f g h i, F a b c d e f g h i → R a b c d e f g h i) : G := h1 h2
theorem copyev_x (w : World) (x : EvT) (e : EvP) (h : EvR w x e) (hs : e.b.length ≤ 140737488351232 ∧ e.q.length ≤ 100000) :
  Calls Tryz.prog 10 #[.agg #[.int .i64 x.n, .int .i64 x.s, .string x.p, .int .i64 x.k, .int .i64 x.m, .slice x.A x.l x.c, .slice x.B x.bl x.bc]] w fun r w' => ∃ X : EvT, r = .returned (.agg #[.int .i64 X.n, .int .i64 X.s, .string X.p, .int .i64 X.k, .int .i64 X.m, .slice X.A X.l X.c, .slice X.B X.bl X.bc]) ∧ EvR w' X e ∧ OwnB w' X.A X.c e.b ∧ OwnK spanTy w' X.B X.bc e.q ∧ (∀ a, X.A = some a → w.heap.size ≤ a.block) ∧ (∀ a, X.B = some a → w.heap.size ≤ a.block) ∧ (∀ a b, X.A = some a → X.B = some b → a.block ≠ b.block) ∧ Chg [] w w' :=
 (copyev_any w x e h hs).mono fun r w' ⟨A', c', B', d', e1, e2, e3, e4, e5, e6, e7, e8⟩ => ⟨⟨x.n, x.s, x.p, x.k, x.m, A', x.l, c', B', x.bl, d'⟩, e1, e2, e3, e4, e5, e6, e7, e8⟩
set_option maxRecDepth 100000 in
set_option maxHeartbeats 32000000 in
theorem storeputs_yes (w : World) (A : Option Addr) (n c : Nat) (xs : List EvT) (es : List EvP) (hb : RdK evTy w A n xs) (hr : EvsR w xs es) (hn : n * 96 ≤ 140737488351232) (hm : n ≤ c) (hz : ∀ (i : Nat) (x : EvT) (e : EvP), xs[i]? = some x → es[i]? = some e → EvZ x e) (B : Option Addr) (m d : Nat) (ys : List EvT) (fs : List EvP) (hb' : RdK evTy w B m ys) (hr' : EvsR w ys fs) (hn' : m * 96 ≤ 140737488351232) (hm' : m ≤ d) (hz' : ∀ (i : Nat) (x : EvT) (e : EvP), ys[i]? = some x → fs[i]? = some e → EvZ x e) (y : EvT) (f : EvP) (hx : EvR w y f) (hzx : EvZ y f) :
  Calls Tryz.prog 3 #[.slice A n c, .slice B m d, .agg #[.int .i64 y.n, .int .i64 y.s, .string y.p, .int .i64 y.k, .int .i64 y.m, .slice y.A y.l y.c, .slice y.B y.bl y.bc]] w fun r w' => r = .returned (.bool true) ∧ Chg [] w w' := by

 have hl := hb.len
 subst hl
 have hl' := hb'.len
 subst hl'
 have HL0 : Hid (xs.length ≤ 140737488351232) := Lib.hid (by omega)
 have HL1 : Hid (ys.length ≤ 140737488351232) := Lib.hid (by omega)
 have XL : Hid (∀ x ∈ xs, x.l ≤ 140737488351232) := Lib.hid (fun x hx => by
  obtain ⟨i, hi⟩ := List.getElem?_of_mem hx
  obtain ⟨x2, e, ex, ee, rx⟩ := hr.at_ (show i < xs.length from (List.getElem?_eq_some_iff.1 hi).1)
  rw [hi] at ex
  cases ex
  have a := rx.l
  have b := (hz i x e hi ee).1
  omega)
 have YL : Hid (∀ x ∈ ys, x.l ≤ 140737488351232) := Lib.hid (fun x hx => by
  obtain ⟨i, hi⟩ := List.getElem?_of_mem hx
  obtain ⟨x2, e, ex, ee, rx⟩ := hr'.at_ (show i < ys.length from (List.getElem?_eq_some_iff.1 hi).1)
  rw [hi] at ex
  cases ex
  have a := rx.l
  have b := (hz' i x e hi ee).1
  omega)
 have HA := Lib.hid hb
 have HR := Lib.hid hr
 have HB := Lib.hid hb'
 have HR' := Lib.hid hr'
 have HZ := Lib.hid hzx
 obtain ⟨w1, hw, hc, b0⟩ := news1 w (.cells #[.int .i64 y.n, .int .i64 y.s, .string y.p, .int .i64 y.k, .int .i64 y.m, .slice y.A y.l y.c, .slice y.B y.bl y.bc] 30)
 have W1 := Lib.hid hw
 have B0 := Lib.hid b0
 have HY := Lib.hid (hx.chg hc)
 have C := Lib.hid hc
 clear hb hr hn hm hz hb' hr' hn' hm' hz' hx hzx hw hc b0
 go_enter Tryz.func3, Tryz.ntmps3
 go_upto_region 1 with fail
 rw [← W1.out]
 obtain ⟨g0, hg0⟩ : ∃ g, w.heap.size = g := ⟨_, rfl⟩
 rw [hg0] at B0 ⊢
 clear W1 hg0; go_wp2_with fail
 have lv := longevs_any w1 A c xs 16 (HA.out.chg C.out (by simp)) HL0.out (by omega) XL.out
 rw [show ((16 : Nat) : Int) = 16 from rfl] at lv
 refine lv.mono ?_
 rintro r w2 ⟨rfl, hc⟩
 clear lv
 replace C := Lib.hid (C.out.trans hc)
 replace B0 := Lib.hid (hc.at_ B0.out (by simp))
 replace HY := Lib.hid (HY.out.chg hc)
 clear hc
 rcases hlong : longE xs 16 with _ | _
 rotate_left
 ·
  go_wp2_with fail
  refine (l10awake_run _).mono ?_
  rintro r w9 ⟨rfl, hc⟩
  replace C := Lib.hid (C.out.trans hc)
  clear hc; go_wp2; go_ret
  exact ⟨rfl, C.out⟩
 have sm := smallEvs HR.out hlong
 have SX : Hid (∀ e ∈ es, EvSm e ∧ e.q.length ≤ 100000) := Lib.hid (fun e he => ⟨(sm.1 e he).1, by have := (sm.1 e he).2.1; omega⟩)
 have LX : Hid (xs.length ≤ 16) := Lib.hid sm.2
 clear sm hlong; go_wp2_with fail
 have lv := longevs_any w2 B d ys 16 (HB.out.chg C.out (by simp)) HL1.out (by omega) YL.out
 rw [show ((16 : Nat) : Int) = 16 from rfl] at lv
 refine lv.mono ?_
 rintro r w3 ⟨rfl, hc⟩
 clear lv
 replace C := Lib.hid (C.out.trans hc)
 replace B0 := Lib.hid (hc.at_ B0.out (by simp))
 replace HY := Lib.hid (HY.out.chg hc)
 clear hc
 rcases hlong : longE ys 16 with _ | _
 rotate_left
 ·
  go_wp2_with fail
  refine (l10awake_run _).mono ?_
  rintro r w9 ⟨rfl, hc⟩
  replace C := Lib.hid (C.out.trans hc)
  clear hc; go_wp2; go_ret
  exact ⟨rfl, C.out⟩
 have sm := smallEvs HR'.out hlong
 have SY : Hid (∀ e ∈ fs, EvSm e ∧ e.q.length ≤ 100000) := Lib.hid (fun e he => ⟨(sm.1 e he).1, by have := (sm.1 e he).2.1; omega⟩)
 have LY : Hid (ys.length ≤ 16) := Lib.hid sm.2
 clear sm hlong
 obtain ⟨w4, hw, hc, b1⟩ := news1 w3 (.cells #[.int .i64 y.n, .int .i64 y.s, .string y.p, .int .i64 y.k, .int .i64 y.m, .slice y.A y.l y.c, .slice y.B y.bl y.bc] 30)
 have W4 := Lib.hid hw
 have R4 := Lib.hid (rd_oneEc b1)
 have z0 := cell_of B0.out 0
 have z1 := cell_of B0.out 1
 have z2 := cell_of B0.out 2
 have z3 := cell_of B0.out 3
 have z4 := cell_of B0.out 4
 have z5 := cell_of B0.out 5
 have z6 := cell_of B0.out 6
 simp only [List.getElem?_toArray, List.getElem?_cons_succ, List.getElem?_cons_zero] at z0 z1 z2 z3 z4 z5 z6
 replace C := Lib.hid (C.out.trans hc)
 replace B0 := Lib.hid (hc.at_ B0.out (by simp))
 replace HY := Lib.hid (HY.out.chg hc)
 clear hw hc b1
 go_wp2_with (rw [← W4.out])
 clear z0 z1 z2 z3 z4 z5 z6
 have lv := longevs_any w4 _ 1 [y] 1 R4.out (by simp) (by omega) (by intro u hu; rw [List.mem_singleton.1 hu]; have := HY.out.l; have := HZ.out.1; omega)
 rw [show ([y] : List EvT).length = 1 from rfl, show ((1 : Nat) : Int) = 1 from rfl] at lv
 refine lv.mono ?_
 rintro r w5 ⟨rfl, hc⟩
 clear lv R4 W4
 replace C := Lib.hid (C.out.trans hc)
 replace B0 := Lib.hid (hc.at_ B0.out (by simp))
 replace HY := Lib.hid (HY.out.chg hc)
 clear hc
 rcases hlong : longE [y] 1 with _ | _
 rotate_left
 ·
  go_wp2_with fail
  refine (l10awake_run _).mono ?_
  rintro r w9 ⟨rfl, hc⟩
  replace C := Lib.hid (C.out.trans hc)
  clear hc; go_wp2; go_ret
  exact ⟨rfl, C.out⟩
 have sm := (smallEvs (es := [f]) (by simpa using (EvsR.nil w5).snoc HY.out) hlong).1 f (by simp)
 have SF : Hid (EvSm f ∧ f.q.length ≤ 100000) := Lib.hid ⟨sm.1, by have := sm.2.1; omega⟩
 clear sm hlong
 have z0 := cell_of B0.out 0
 have z1 := cell_of B0.out 1
 have z2 := cell_of B0.out 2
 have z3 := cell_of B0.out 3
 have z4 := cell_of B0.out 4
 have z5 := cell_of B0.out 5
 have z6 := cell_of B0.out 6
 simp only [List.getElem?_toArray, List.getElem?_cons_succ, List.getElem?_cons_zero] at z0 z1 z2 z3 z4 z5 z6
 go_upto_region 3 with fail
 clear z0 z1 z2 z3 z4 z5 z6
 have DX : Hid (∀ w', Chg [] w5 w' → (fun w' => w'.cell? ⟨g0, 0, none⟩ = some (.int .i64 y.n) ∧ w'.cell? ⟨g0, 1, none⟩ = some (.int .i64 y.s) ∧ w'.cell? ⟨g0, 2, none⟩ = some (.string y.p) ∧ w'.cell? ⟨g0, 3, none⟩ = some (.int .i64 y.k) ∧ w'.cell? ⟨g0, 4, none⟩ = some (.int .i64 y.m) ∧ w'.cell? ⟨g0, 5, none⟩ = some (.slice y.A y.l y.c) ∧ w'.cell? ⟨g0, 6, none⟩ = some (.slice y.B y.bl y.bc)) w') := Lib.hid (fun w' hc => by
  have b0 := hc.at_ B0.out (by simp)
  exact ⟨cell_of b0 0, cell_of b0 1, cell_of b0 2, cell_of b0 3, cell_of b0 4, cell_of b0 5, cell_of b0 6⟩)
 refine' joinS9 (F := fun (A1 : Option Addr) (c1 : Nat) (zs : List EvT) (A2 : Option Addr) (c2 : Nat) (us : List EvT) (X : EvT) (p : Nat) (w7 : World) => Hid (OwnK evTy w7 A1 c1 zs ∧ EvsR w7 zs es ∧ ApartE w7 A1 zs ∧ zs.length = xs.length) ∧ Hid (OwnK evTy w7 A2 c2 us ∧ EvsR w7 us fs ∧ ApartE w7 A2 us ∧ us.length = ys.length) ∧ Hid (EvR w7 X f ∧ ∀ a : Addr, X.A = some a ∨ X.B = some a → a.block < w7.heap.size) ∧ Hid (w7.heap[p]? = some (.cells #[.int .i64 X.n, .int .i64 X.s, .string X.p, .int .i64 X.k, .int .i64 X.m, .slice X.A X.l X.c, .slice X.B X.bl X.bc] 30)) ∧ Hid (Chg [] w5 w7)) (R := _) (fun JOIN => ?leaf) ?rest
 case leaf =>
  refine wp_region_held_drew (S := fun w' => w'.cell? ⟨g0, 0, none⟩ = some (.int .i64 y.n) ∧ w'.cell? ⟨g0, 1, none⟩ = some (.int .i64 y.s) ∧ w'.cell? ⟨g0, 2, none⟩ = some (.string y.p) ∧ w'.cell? ⟨g0, 3, none⟩ = some (.int .i64 y.k) ∧ w'.cell? ⟨g0, 4, none⟩ = some (.int .i64 y.m) ∧ w'.cell? ⟨g0, 5, none⟩ = some (.slice y.A y.l y.c) ∧ w'.cell? ⟨g0, 6, none⟩ = some (.slice y.B y.bl y.bc)) (by kernel_rfl) (DX.out _ (Chg.refl [] w5).drew) (fun hHeld => ?_)
  have CC : Hid (Chg [] w5 w5.drew) := Lib.hid (Chg.refl [] w5).drew
  clear hHeld
  obtain ⟨wc, hwc⟩ : ∃ wc, w5.drew = wc := ⟨_, rfl⟩
  rw [hwc] at CC ⊢
  clear hwc
  refine sy 0 30 rfl rfl ?_ (hS := (DX.out _ CC.out))
  try simp only [Act.put, sA, s0, s1]
  refine sy 2 32 rfl rfl ?_ (hS := (DX.out _ CC.out))
  try simp only [Act.put, sA, s0, s1]
  refine sy 4 34 rfl rfl ?_ (hS := (DX.out _ CC.out)) (hy := by (intro w hSw; (try dsimp only at hSw); obtain ⟨q0, q1, q2, q3, q4, q5, q6⟩ := hSw; go_simp; try with_reducible rfl))
  try simp only [Act.put, sA, s0, s1]
  refine wpAnyH_ready (rs := [1, 6]) (by kernel_rfl) (by simp) ?_
  refine AllReadyH.cons rfl (fun K hK => ?_) (AllReadyH.cons rfl (fun K hK => ?_) AllReadyH.nil)
  ·
   skip; replace hK := Lib.hid hK; go_simp
   refine (copyevs_new wc A c xs es (HA.out.chg (C.out.trans CC.out) (by simp)) (HR.out.chg (C.out.trans CC.out)) (by have := LX.out; omega) (fun e he => ⟨(SX.out e he).1.2.1, (SX.out e he).2⟩)).mono ?_
   rintro r wc ⟨A1, c1, zs, rfl, hyl, ho, hy, hap, hnw, hnx, hc⟩
   have RI := Lib.hid (And.intro ho (And.intro hy (And.intro hap hyl)))
   replace CC := Lib.hid (CC.out.trans hc)
   clear hyl ho hy hap hnw hnx hc
   refine hK.out _ _ (DX.out _ CC.out) (fun hHeld => ?_)
   clear hK K; try simp only [Act.put, sA, s0, s1]
   refine wpAnyH_ready (rs := [3, 6]) (by kernel_rfl) (by simp) ?_
   refine AllReadyH.cons rfl (fun K hK => ?_) (AllReadyH.cons rfl (fun K hK => ?_) AllReadyH.nil)
   ·
    skip; replace hK := Lib.hid hK; go_simp
    refine (copyevs_new wc B d ys fs (HB.out.chg (C.out.trans CC.out) (by simp)) (HR'.out.chg (C.out.trans CC.out)) (by have := LY.out; omega) (fun e he => ⟨(SY.out e he).1.2.1, (SY.out e he).2⟩)).mono ?_
    rintro r wc ⟨A2, c2, us, rfl, hyl, ho, hy, hap, hnw, hnx, hc⟩
    have RJ := Lib.hid (And.intro ho (And.intro hy (And.intro hap hyl)))
    replace RI := Lib.hid (And.intro (RI.out.1.chg hc (by simp)) (And.intro (RI.out.2.1.chg hc) (And.intro (RI.out.2.2.1.more hc.size) RI.out.2.2.2)))
    replace CC := Lib.hid (CC.out.trans hc)
    clear hyl ho hy hap hnw hnx hc
    refine hK.out _ _ (DX.out _ CC.out) (fun hHeld => ?_)
    clear hK K; try simp only [Act.put, sA, s0, s1]
    refine wpAnyH_ready (rs := [5, 6]) (by kernel_rfl) (by simp) ?_
    refine AllReadyH.cons rfl (fun K hK => ?_) (AllReadyH.cons rfl (fun K hK => ?_) AllReadyH.nil)
    ·
     skip; replace hK := Lib.hid hK; go_simp
     refine (copyev_x wc y f (HY.out.chg CC.out) ⟨SF.out.1.2.1, SF.out.2⟩).mono ?_
     rintro r wc ⟨X, rfl, hX, hA, hB, hnA, hnB, hne, hc⟩
     have RX := Lib.hid (And.intro hX (fun (a : Addr) (ha : X.A = some a ∨ X.B = some a) => ha.elim (hA.lt8_ a) (hB.lt a)))
     replace RI := Lib.hid (And.intro (RI.out.1.chg hc (by simp)) (And.intro (RI.out.2.1.chg hc) (And.intro (RI.out.2.2.1.more hc.size) RI.out.2.2.2)))
     replace RJ := Lib.hid (And.intro (RJ.out.1.chg hc (by simp)) (And.intro (RJ.out.2.1.chg hc) (And.intro (RJ.out.2.2.1.more hc.size) RJ.out.2.2.2)))
     replace CC := Lib.hid (CC.out.trans hc)
     clear hX hA hB hnA hnB hne hc
     refine hK.out _ _ (DX.out _ CC.out) (fun hHeld => ?_)
     clear hK K; try simp only [Act.put, sA, s0, s1]
     refine wpAnyH_ready (rs := [6]) (by kernel_rfl) (by simp) ?_; refine AllReadyH.cons rfl (fun K hK => ?_) AllReadyH.nil; replace hK := Lib.hid hK; go_simp
     obtain ⟨p, hp⟩ : ∃ n, n = wc.heap.size := ⟨_, rfl⟩
     have XP : Hid (∀ a : Addr, X.A = some a ∨ X.B = some a → a.block ≠ p) := Lib.hid (fun a ha => by have := RX.out.2 a ha; omega)
     have GP : Hid (w5.heap.size ≤ p) := Lib.hid (by have := CC.out.size; omega)
     have NI : Hid ((∀ a, A1 = some a → a.block ≠ p)) := Lib.hid (fun a ha => by have := RI.out.1.lt a ha; omega)
     have MI : Hid (∀ x ∈ zs, ∀ a, (x.A = some a ∨ x.B = some a) → a.block ≠ p) := Lib.hid (fun x hx a ha => by have := ha.elim (fun q => ((RI.out.2.2.1 x hx).1 a q).1) (fun q => ((RI.out.2.2.1 x hx).2.1 a q).1); omega)
     have NJ : Hid ((∀ a, A2 = some a → a.block ≠ p)) := Lib.hid (fun a ha => by have := RJ.out.1.lt a ha; omega)
     have MJ : Hid (∀ x ∈ us, ∀ a, (x.A = some a ∨ x.B = some a) → a.block ≠ p) := Lib.hid (fun x hx a ha => by have := ha.elim (fun q => ((RJ.out.2.2.1 x hx).1 a q).1) (fun q => ((RJ.out.2.2.1 x hx).2.1 a q).1); omega)
     obtain ⟨wc, hw, cn, bn⟩ := news1 wc (.cells #[.int .i64 0, .int .i64 0, .string ⟨#[]⟩, .int .i64 0, .int .i64 0, .slice none 0 0, .slice none 0 0] 30)
     rw [← hw, ← hp]
     rw [← hp] at bn
     replace RI := Lib.hid (And.intro (RI.out.1.chg cn (by simp)) (And.intro (RI.out.2.1.chg cn) (And.intro (RI.out.2.2.1.more cn.size) RI.out.2.2.2)))
     replace RJ := Lib.hid (And.intro (RJ.out.1.chg cn (by simp)) (And.intro (RJ.out.2.1.chg cn) (And.intro (RJ.out.2.2.1.more cn.size) RJ.out.2.2.2)))
     replace RX := Lib.hid (And.intro (RX.out.1.chg cn) (fun a ha => Nat.lt_of_lt_of_le (RX.out.2 a ha) cn.size))
     have BP := Lib.hid bn
     have LP : Hid (p < wc.heap.size) := Lib.hid (lt_of_heap bn)
     replace CC := Lib.hid (CC.out.trans cn)
     clear hw hp cn bn
     refine hK.out _ _ (DX.out _ CC.out) (fun hHeld => ?_)
     clear hK K; try simp only [Act.put, sA, s0, s1]
     refine sy 7 7 rfl rfl ?_ (hS := (DX.out _ CC.out))
     try simp only [Act.put, sA, s0, s1]
     refine sy 8 8 rfl rfl ?_ (hS := (DX.out _ CC.out))
     try simp only [Act.put, sA, s0, s1]
     refine wpAnyH_ready (rs := [9]) (by kernel_rfl) (by simp) ?_; refine AllReadyH.cons rfl (fun K hK => ?_) AllReadyH.nil; replace hK := Lib.hid hK
     have f0 := free_of BP.out 0
     have f1 := free_of BP.out 1
     have f2 := free_of BP.out 2
     have f3 := free_of BP.out 3
     have f4 := free_of BP.out 4
     have f5 := free_of BP.out 5
     have f6 := free_of BP.out 6
     have v0 := cell_of BP.out 0
     have v1 := cell_of BP.out 1
     have v2 := cell_of BP.out 2
     have v3 := cell_of BP.out 3
     have v4 := cell_of BP.out 4
     have v5 := cell_of BP.out 5
     have v6 := cell_of BP.out 6
     simp only [List.getElem?_toArray, List.getElem?_cons_succ, List.getElem?_cons_zero] at v0 v1 v2 v3 v4 v5 v6
     go_simp; clear f0 v0 f1 v1 f2 v2 f3 v3 f4 v4 f5 v5 f6 v6
     obtain ⟨bk, ok, ck⟩ := setC7 (.int .i64 X.n) (.int .i64 X.s) (.string X.p) (.int .i64 X.k) (.int .i64 X.m) (.slice X.A X.l X.c) (.slice X.B X.bl X.bc) BP.out
     replace BP := Lib.hid bk
     replace RI := Lib.hid (And.intro (RI.out.1.chg ck (fun a ha => by simp; exact NI.out a ha)) (And.intro (RI.out.2.1.chgS ck (fun x hx => ⟨fun a ha => by simp; exact MI.out x hx a (.inl ha), fun a ha => by simp; exact MI.out x hx a (.inr ha)⟩)) (And.intro (RI.out.2.2.1.more ck.size) RI.out.2.2.2)))
     replace RJ := Lib.hid (And.intro (RJ.out.1.chg ck (fun a ha => by simp; exact NJ.out a ha)) (And.intro (RJ.out.2.1.chgS ck (fun x hx => ⟨fun a ha => by simp; exact MJ.out x hx a (.inl ha), fun a ha => by simp; exact MJ.out x hx a (.inr ha)⟩)) (And.intro (RJ.out.2.2.1.more ck.size) RJ.out.2.2.2)))
     replace RX := Lib.hid (And.intro (RX.out.1.chgS ck (fun a ha => by simp; exact XP.out a (.inl ha)) (fun a ha => by simp; exact XP.out a (.inr ha))) (fun a ha => Nat.lt_of_lt_of_le (RX.out.2 a ha) ck.size))
     replace CC := Lib.hid (CC.out.trans' ck (fun i hi => .inr (by have := GP.out; simp at hi; omega)))
     clear bk ok ck
     obtain ⟨wc, hwc⟩ : ∃ w9 : World, w9 = (((((((wc.setCell ⟨p, 0, none⟩ (.int .i64 X.n)).setCell ⟨p, 1, none⟩ (.int .i64 X.s)).setCell ⟨p, 2, none⟩ (.string X.p)).setCell ⟨p, 3, none⟩ (.int .i64 X.k)).setCell ⟨p, 4, none⟩ (.int .i64 X.m)).setCell ⟨p, 5, none⟩ (.slice X.A X.l X.c)).setCell ⟨p, 6, none⟩ (.slice X.B X.bl X.bc)) := ⟨_, rfl⟩
     rw [← hwc] at BP RI RJ RX CC ⊢
     clear hwc
     refine hK.out _ _ (DX.out _ CC.out) (fun hHeld => ?_)
     clear hK K; try simp only [Act.put, sA, s0, s1]
     refine wpAnyH_done (by kernel_rfl) ?_ _; clear hHeld
     exact JOIN A1 c1 zs A2 c2 us X p _ ⟨RI, RJ, RX, BP, CC⟩
    ·
     skip; replace hK := Lib.hid hK; go_simp
     obtain ⟨p, hp⟩ : ∃ n, n = wc.heap.size := ⟨_, rfl⟩
     have GP : Hid (w5.heap.size ≤ p) := Lib.hid (by have := CC.out.size; omega)
     have NI : Hid ((∀ a, A1 = some a → a.block ≠ p)) := Lib.hid (fun a ha => by have := RI.out.1.lt a ha; omega)
     have MI : Hid (∀ x ∈ zs, ∀ a, (x.A = some a ∨ x.B = some a) → a.block ≠ p) := Lib.hid (fun x hx a ha => by have := ha.elim (fun q => ((RI.out.2.2.1 x hx).1 a q).1) (fun q => ((RI.out.2.2.1 x hx).2.1 a q).1); omega)
     have NJ : Hid ((∀ a, A2 = some a → a.block ≠ p)) := Lib.hid (fun a ha => by have := RJ.out.1.lt a ha; omega)
     have MJ : Hid (∀ x ∈ us, ∀ a, (x.A = some a ∨ x.B = some a) → a.block ≠ p) := Lib.hid (fun x hx a ha => by have := ha.elim (fun q => ((RJ.out.2.2.1 x hx).1 a q).1) (fun q => ((RJ.out.2.2.1 x hx).2.1 a q).1); omega)
     obtain ⟨wc, hw, cn, bn⟩ := news1 wc (.cells #[.int .i64 0, .int .i64 0, .string ⟨#[]⟩, .int .i64 0, .int .i64 0, .slice none 0 0, .slice none 0 0] 30)
     rw [← hw, ← hp]
     rw [← hp] at bn
     replace RI := Lib.hid (And.intro (RI.out.1.chg cn (by simp)) (And.intro (RI.out.2.1.chg cn) (And.intro (RI.out.2.2.1.more cn.size) RI.out.2.2.2)))
     replace RJ := Lib.hid (And.intro (RJ.out.1.chg cn (by simp)) (And.intro (RJ.out.2.1.chg cn) (And.intro (RJ.out.2.2.1.more cn.size) RJ.out.2.2.2)))
     have BP := Lib.hid bn
     have LP : Hid (p < wc.heap.size) := Lib.hid (lt_of_heap bn)
     replace CC := Lib.hid (CC.out.trans cn)
     clear hw hp cn bn
     refine hK.out _ _ (DX.out _ CC.out) (fun hHeld => ?_)
     clear hK K; try simp only [Act.put, sA, s0, s1]
     refine wpAnyH_ready (rs := [5]) (by kernel_rfl) (by simp) ?_; refine AllReadyH.cons rfl (fun K hK => ?_) AllReadyH.nil; replace hK := Lib.hid hK; go_simp
     refine (copyev_x wc y f (HY.out.chg CC.out) ⟨SF.out.1.2.1, SF.out.2⟩).mono ?_
     rintro r wc ⟨X, rfl, hX, hA, hB, hnA, hnB, hne, hc⟩
     have RX := Lib.hid (And.intro hX (fun (a : Addr) (ha : X.A = some a ∨ X.B = some a) => ha.elim (hA.lt8_ a) (hB.lt a)))
     have XP : Hid (∀ a : Addr, X.A = some a ∨ X.B = some a → a.block ≠ p) := Lib.hid (fun a ha => by have h1 := ha.elim (hnA a) (hnB a); have h2 := LP.out; omega)
     replace LP := Lib.hid (Nat.lt_of_lt_of_le LP.out hc.size)
     replace RI := Lib.hid (And.intro (RI.out.1.chg hc (by simp)) (And.intro (RI.out.2.1.chg hc) (And.intro (RI.out.2.2.1.more hc.size) RI.out.2.2.2)))
     replace RJ := Lib.hid (And.intro (RJ.out.1.chg hc (by simp)) (And.intro (RJ.out.2.1.chg hc) (And.intro (RJ.out.2.2.1.more hc.size) RJ.out.2.2.2)))
     replace BP := Lib.hid (hc.at_ BP.out (by simp))
     replace CC := Lib.hid (CC.out.trans hc)
     clear hX hA hB hnA hnB hne hc
     refine hK.out _ _ (DX.out _ CC.out) (fun hHeld => ?_)
     clear hK K; try simp only [Act.put, sA, s0, s1]
     refine sy 7 7 rfl rfl ?_ (hS := (DX.out _ CC.out))
     try simp only [Act.put, sA, s0, s1]
     refine sy 8 8 rfl rfl ?_ (hS := (DX.out _ CC.out))
     try simp only [Act.put, sA, s0, s1]
     refine wpAnyH_ready (rs := [9]) (by kernel_rfl) (by simp) ?_; refine AllReadyH.cons rfl (fun K hK => ?_) AllReadyH.nil; replace hK := Lib.hid hK
     have f0 := free_of BP.out 0
     have f1 := free_of BP.out 1
     have f2 := free_of BP.out 2
     have f3 := free_of BP.out 3
     have f4 := free_of BP.out 4
     have f5 := free_of BP.out 5
     have f6 := free_of BP.out 6
     have v0 := cell_of BP.out 0
     have v1 := cell_of BP.out 1
     have v2 := cell_of BP.out 2
     have v3 := cell_of BP.out 3
     have v4 := cell_of BP.out 4
     have v5 := cell_of BP.out 5
     have v6 := cell_of BP.out 6
     simp only [List.getElem?_toArray, List.getElem?_cons_succ, List.getElem?_cons_zero] at v0 v1 v2 v3 v4 v5 v6
     go_simp; clear f0 v0 f1 v1 f2 v2 f3 v3 f4 v4 f5 v5 f6 v6
     obtain ⟨bk, ok, ck⟩ := setC7 (.int .i64 X.n) (.int .i64 X.s) (.string X.p) (.int .i64 X.k) (.int .i64 X.m) (.slice X.A X.l X.c) (.slice X.B X.bl X.bc) BP.out
     replace BP := Lib.hid bk
     replace RI := Lib.hid (And.intro (RI.out.1.chg ck (fun a ha => by simp; exact NI.out a ha)) (And.intro (RI.out.2.1.chgS ck (fun x hx => ⟨fun a ha => by simp; exact MI.out x hx a (.inl ha), fun a ha => by simp; exact MI.out x hx a (.inr ha)⟩)) (And.intro (RI.out.2.2.1.more ck.size) RI.out.2.2.2)))
     replace RJ := Lib.hid (And.intro (RJ.out.1.chg ck (fun a ha => by simp; exact NJ.out a ha)) (And.intro (RJ.out.2.1.chgS ck (fun x hx => ⟨fun a ha => by simp; exact MJ.out x hx a (.inl ha), fun a ha => by simp; exact MJ.out x hx a (.inr ha)⟩)) (And.intro (RJ.out.2.2.1.more ck.size) RJ.out.2.2.2)))
     replace RX := Lib.hid (And.intro (RX.out.1.chgS ck (fun a ha => by simp; exact XP.out a (.inl ha)) (fun a ha => by simp; exact XP.out a (.inr ha))) (fun a ha => Nat.lt_of_lt_of_le (RX.out.2 a ha) ck.size))
     replace CC := Lib.hid (CC.out.trans' ck (fun i hi => .inr (by have := GP.out; simp at hi; omega)))
     clear bk ok ck
     obtain ⟨wc, hwc⟩ : ∃ w9 : World, w9 = (((((((wc.setCell ⟨p, 0, none⟩ (.int .i64 X.n)).setCell ⟨p, 1, none⟩ (.int .i64 X.s)).setCell ⟨p, 2, none⟩ (.string X.p)).setCell ⟨p, 3, none⟩ (.int .i64 X.k)).setCell ⟨p, 4, none⟩ (.int .i64 X.m)).setCell ⟨p, 5, none⟩ (.slice X.A X.l X.c)).setCell ⟨p, 6, none⟩ (.slice X.B X.bl X.bc)) := ⟨_, rfl⟩
     rw [← hwc] at BP RI RJ RX CC ⊢
     clear hwc
     refine hK.out _ _ (DX.out _ CC.out) (fun hHeld => ?_)
     clear hK K; try simp only [Act.put, sA, s0, s1]
     refine wpAnyH_done (by kernel_rfl) ?_ _; clear hHeld
     exact JOIN A1 c1 zs A2 c2 us X p _ ⟨RI, RJ, RX, BP, CC⟩
   ·
    skip; replace hK := Lib.hid hK; go_simp
    obtain ⟨p, hp⟩ : ∃ n, n = wc.heap.size := ⟨_, rfl⟩
    have GP : Hid (w5.heap.size ≤ p) := Lib.hid (by have := CC.out.size; omega)
    have NI : Hid ((∀ a, A1 = some a → a.block ≠ p)) := Lib.hid (fun a ha => by have := RI.out.1.lt a ha; omega)
    have MI : Hid (∀ x ∈ zs, ∀ a, (x.A = some a ∨ x.B = some a) → a.block ≠ p) := Lib.hid (fun x hx a ha => by have := ha.elim (fun q => ((RI.out.2.2.1 x hx).1 a q).1) (fun q => ((RI.out.2.2.1 x hx).2.1 a q).1); omega)
    obtain ⟨wc, hw, cn, bn⟩ := news1 wc (.cells #[.int .i64 0, .int .i64 0, .string ⟨#[]⟩, .int .i64 0, .int .i64 0, .slice none 0 0, .slice none 0 0] 30)
    rw [← hw, ← hp]
    rw [← hp] at bn
    replace RI := Lib.hid (And.intro (RI.out.1.chg cn (by simp)) (And.intro (RI.out.2.1.chg cn) (And.intro (RI.out.2.2.1.more cn.size) RI.out.2.2.2)))
    have BP := Lib.hid bn
    have LP : Hid (p < wc.heap.size) := Lib.hid (lt_of_heap bn)
    replace CC := Lib.hid (CC.out.trans cn)
    clear hw hp cn bn
    refine hK.out _ _ (DX.out _ CC.out) (fun hHeld => ?_)
    clear hK K; try simp only [Act.put, sA, s0, s1]
    refine wpAnyH_ready (rs := [3]) (by kernel_rfl) (by simp) ?_; refine AllReadyH.cons rfl (fun K hK => ?_) AllReadyH.nil; replace hK := Lib.hid hK; go_simp
    refine (copyevs_new wc B d ys fs (HB.out.chg (C.out.trans CC.out) (by simp)) (HR'.out.chg (C.out.trans CC.out)) (by have := LY.out; omega) (fun e he => ⟨(SY.out e he).1.2.1, (SY.out e he).2⟩)).mono ?_
    rintro r wc ⟨A2, c2, us, rfl, hyl, ho, hy, hap, hnw, hnx, hc⟩
    have RJ := Lib.hid (And.intro ho (And.intro hy (And.intro hap hyl)))
    have NJ : Hid ((∀ a, A2 = some a → a.block ≠ p)) := Lib.hid (fun a ha => by have := hnw a ha; have := LP.out; omega)
    have MJ : Hid (∀ x ∈ us, ∀ a, (x.A = some a ∨ x.B = some a) → a.block ≠ p) := Lib.hid (fun x hx a ha => by have := hnx x hx a ha; have := LP.out; omega)
    replace RI := Lib.hid (And.intro (RI.out.1.chg hc (by simp)) (And.intro (RI.out.2.1.chg hc) (And.intro (RI.out.2.2.1.more hc.size) RI.out.2.2.2)))
    replace BP := Lib.hid (hc.at_ BP.out (by simp))
    replace LP := Lib.hid (Nat.lt_of_lt_of_le LP.out hc.size)
    replace CC := Lib.hid (CC.out.trans hc)
    clear hyl ho hy hap hnw hnx hc
    refine hK.out _ _ (DX.out _ CC.out) (fun hHeld => ?_)
    clear hK K; try simp only [Act.put, sA, s0, s1]
    refine wpAnyH_ready (rs := [5]) (by kernel_rfl) (by simp) ?_; refine AllReadyH.cons rfl (fun K hK => ?_) AllReadyH.nil; replace hK := Lib.hid hK; go_simp
    refine (copyev_x wc y f (HY.out.chg CC.out) ⟨SF.out.1.2.1, SF.out.2⟩).mono ?_
    rintro r wc ⟨X, rfl, hX, hA, hB, hnA, hnB, hne, hc⟩
    have RX := Lib.hid (And.intro hX (fun (a : Addr) (ha : X.A = some a ∨ X.B = some a) => ha.elim (hA.lt8_ a) (hB.lt a)))
    have XP : Hid (∀ a : Addr, X.A = some a ∨ X.B = some a → a.block ≠ p) := Lib.hid (fun a ha => by have h1 := ha.elim (hnA a) (hnB a); have h2 := LP.out; omega)
    replace LP := Lib.hid (Nat.lt_of_lt_of_le LP.out hc.size)
    replace RI := Lib.hid (And.intro (RI.out.1.chg hc (by simp)) (And.intro (RI.out.2.1.chg hc) (And.intro (RI.out.2.2.1.more hc.size) RI.out.2.2.2)))
    replace RJ := Lib.hid (And.intro (RJ.out.1.chg hc (by simp)) (And.intro (RJ.out.2.1.chg hc) (And.intro (RJ.out.2.2.1.more hc.size) RJ.out.2.2.2)))
    replace BP := Lib.hid (hc.at_ BP.out (by simp))
    replace CC := Lib.hid (CC.out.trans hc)
    clear hX hA hB hnA hnB hne hc
    refine hK.out _ _ (DX.out _ CC.out) (fun hHeld => ?_)
    clear hK K; try simp only [Act.put, sA, s0, s1]
    refine sy 7 7 rfl rfl ?_ (hS := (DX.out _ CC.out))
    try simp only [Act.put, sA, s0, s1]
    refine sy 8 8 rfl rfl ?_ (hS := (DX.out _ CC.out))
    try simp only [Act.put, sA, s0, s1]
    refine wpAnyH_ready (rs := [9]) (by kernel_rfl) (by simp) ?_; refine AllReadyH.cons rfl (fun K hK => ?_) AllReadyH.nil; replace hK := Lib.hid hK
    have f0 := free_of BP.out 0
    have f1 := free_of BP.out 1
    have f2 := free_of BP.out 2
    have f3 := free_of BP.out 3
    have f4 := free_of BP.out 4
    have f5 := free_of BP.out 5
    have f6 := free_of BP.out 6
    have v0 := cell_of BP.out 0
    have v1 := cell_of BP.out 1
    have v2 := cell_of BP.out 2
    have v3 := cell_of BP.out 3
    have v4 := cell_of BP.out 4
    have v5 := cell_of BP.out 5
    have v6 := cell_of BP.out 6
    simp only [List.getElem?_toArray, List.getElem?_cons_succ, List.getElem?_cons_zero] at v0 v1 v2 v3 v4 v5 v6
    go_simp; clear f0 v0 f1 v1 f2 v2 f3 v3 f4 v4 f5 v5 f6 v6
    obtain ⟨bk, ok, ck⟩ := setC7 (.int .i64 X.n) (.int .i64 X.s) (.string X.p) (.int .i64 X.k) (.int .i64 X.m) (.slice X.A X.l X.c) (.slice X.B X.bl X.bc) BP.out
    replace BP := Lib.hid bk
    replace RI := Lib.hid (And.intro (RI.out.1.chg ck (fun a ha => by simp; exact NI.out a ha)) (And.intro (RI.out.2.1.chgS ck (fun x hx => ⟨fun a ha => by simp; exact MI.out x hx a (.inl ha), fun a ha => by simp; exact MI.out x hx a (.inr ha)⟩)) (And.intro (RI.out.2.2.1.more ck.size) RI.out.2.2.2)))
    replace RJ := Lib.hid (And.intro (RJ.out.1.chg ck (fun a ha => by simp; exact NJ.out a ha)) (And.intro (RJ.out.2.1.chgS ck (fun x hx => ⟨fun a ha => by simp; exact MJ.out x hx a (.inl ha), fun a ha => by simp; exact MJ.out x hx a (.inr ha)⟩)) (And.intro (RJ.out.2.2.1.more ck.size) RJ.out.2.2.2)))
    replace RX := Lib.hid (And.intro (RX.out.1.chgS ck (fun a ha => by simp; exact XP.out a (.inl ha)) (fun a ha => by simp; exact XP.out a (.inr ha))) (fun a ha => Nat.lt_of_lt_of_le (RX.out.2 a ha) ck.size))
    replace CC := Lib.hid (CC.out.trans' ck (fun i hi => .inr (by have := GP.out; simp at hi; omega)))
    clear bk ok ck
    obtain ⟨wc, hwc⟩ : ∃ w9 : World, w9 = (((((((wc.setCell ⟨p, 0, none⟩ (.int .i64 X.n)).setCell ⟨p, 1, none⟩ (.int .i64 X.s)).setCell ⟨p, 2, none⟩ (.string X.p)).setCell ⟨p, 3, none⟩ (.int .i64 X.k)).setCell ⟨p, 4, none⟩ (.int .i64 X.m)).setCell ⟨p, 5, none⟩ (.slice X.A X.l X.c)).setCell ⟨p, 6, none⟩ (.slice X.B X.bl X.bc)) := ⟨_, rfl⟩
    rw [← hwc] at BP RI RJ RX CC ⊢
    clear hwc
    refine hK.out _ _ (DX.out _ CC.out) (fun hHeld => ?_)
    clear hK K; try simp only [Act.put, sA, s0, s1]
    refine wpAnyH_done (by kernel_rfl) ?_ _; clear hHeld
    exact JOIN A1 c1 zs A2 c2 us X p _ ⟨RI, RJ, RX, BP, CC⟩
  ·
   skip; replace hK := Lib.hid hK; go_simp
   obtain ⟨p, hp⟩ : ∃ n, n = wc.heap.size := ⟨_, rfl⟩
   have GP : Hid (w5.heap.size ≤ p) := Lib.hid (by have := CC.out.size; omega)
   obtain ⟨wc, hw, cn, bn⟩ := news1 wc (.cells #[.int .i64 0, .int .i64 0, .string ⟨#[]⟩, .int .i64 0, .int .i64 0, .slice none 0 0, .slice none 0 0] 30)
   rw [← hw, ← hp]
   rw [← hp] at bn
   have BP := Lib.hid bn
   have LP : Hid (p < wc.heap.size) := Lib.hid (lt_of_heap bn)
   replace CC := Lib.hid (CC.out.trans cn)
   clear hw hp cn bn
   refine hK.out _ _ (DX.out _ CC.out) (fun hHeld => ?_)
   clear hK K; try simp only [Act.put, sA, s0, s1]
   refine wpAnyH_ready (rs := [1]) (by kernel_rfl) (by simp) ?_; refine AllReadyH.cons rfl (fun K hK => ?_) AllReadyH.nil; replace hK := Lib.hid hK; go_simp
   refine (copyevs_new wc A c xs es (HA.out.chg (C.out.trans CC.out) (by simp)) (HR.out.chg (C.out.trans CC.out)) (by have := LX.out; omega) (fun e he => ⟨(SX.out e he).1.2.1, (SX.out e he).2⟩)).mono ?_
   rintro r wc ⟨A1, c1, zs, rfl, hyl, ho, hy, hap, hnw, hnx, hc⟩
   have RI := Lib.hid (And.intro ho (And.intro hy (And.intro hap hyl)))
   have NI : Hid ((∀ a, A1 = some a → a.block ≠ p)) := Lib.hid (fun a ha => by have := hnw a ha; have := LP.out; omega)
   have MI : Hid (∀ x ∈ zs, ∀ a, (x.A = some a ∨ x.B = some a) → a.block ≠ p) := Lib.hid (fun x hx a ha => by have := hnx x hx a ha; have := LP.out; omega)
   replace BP := Lib.hid (hc.at_ BP.out (by simp))
   replace LP := Lib.hid (Nat.lt_of_lt_of_le LP.out hc.size)
   replace CC := Lib.hid (CC.out.trans hc)
   clear hyl ho hy hap hnw hnx hc
   refine hK.out _ _ (DX.out _ CC.out) (fun hHeld => ?_)
   clear hK K; try simp only [Act.put, sA, s0, s1]
   refine wpAnyH_ready (rs := [3]) (by kernel_rfl) (by simp) ?_; refine AllReadyH.cons rfl (fun K hK => ?_) AllReadyH.nil; replace hK := Lib.hid hK; go_simp
   refine (copyevs_new wc B d ys fs (HB.out.chg (C.out.trans CC.out) (by simp)) (HR'.out.chg (C.out.trans CC.out)) (by have := LY.out; omega) (fun e he => ⟨(SY.out e he).1.2.1, (SY.out e he).2⟩)).mono ?_
   rintro r wc ⟨A2, c2, us, rfl, hyl, ho, hy, hap, hnw, hnx, hc⟩
   have RJ := Lib.hid (And.intro ho (And.intro hy (And.intro hap hyl)))
   have NJ : Hid ((∀ a, A2 = some a → a.block ≠ p)) := Lib.hid (fun a ha => by have := hnw a ha; have := LP.out; omega)
   have MJ : Hid (∀ x ∈ us, ∀ a, (x.A = some a ∨ x.B = some a) → a.block ≠ p) := Lib.hid (fun x hx a ha => by have := hnx x hx a ha; have := LP.out; omega)
   replace RI := Lib.hid (And.intro (RI.out.1.chg hc (by simp)) (And.intro (RI.out.2.1.chg hc) (And.intro (RI.out.2.2.1.more hc.size) RI.out.2.2.2)))
   replace BP := Lib.hid (hc.at_ BP.out (by simp))
   replace LP := Lib.hid (Nat.lt_of_lt_of_le LP.out hc.size)
   replace CC := Lib.hid (CC.out.trans hc)
   clear hyl ho hy hap hnw hnx hc
   refine hK.out _ _ (DX.out _ CC.out) (fun hHeld => ?_)
   clear hK K; try simp only [Act.put, sA, s0, s1]
   refine wpAnyH_ready (rs := [5]) (by kernel_rfl) (by simp) ?_; refine AllReadyH.cons rfl (fun K hK => ?_) AllReadyH.nil; replace hK := Lib.hid hK; go_simp
   refine (copyev_x wc y f (HY.out.chg CC.out) ⟨SF.out.1.2.1, SF.out.2⟩).mono ?_
   rintro r wc ⟨X, rfl, hX, hA, hB, hnA, hnB, hne, hc⟩
   have RX := Lib.hid (And.intro hX (fun (a : Addr) (ha : X.A = some a ∨ X.B = some a) => ha.elim (hA.lt8_ a) (hB.lt a)))
   have XP : Hid (∀ a : Addr, X.A = some a ∨ X.B = some a → a.block ≠ p) := Lib.hid (fun a ha => by have h1 := ha.elim (hnA a) (hnB a); have h2 := LP.out; omega)
   replace LP := Lib.hid (Nat.lt_of_lt_of_le LP.out hc.size)
   replace RI := Lib.hid (And.intro (RI.out.1.chg hc (by simp)) (And.intro (RI.out.2.1.chg hc) (And.intro (RI.out.2.2.1.more hc.size) RI.out.2.2.2)))
   replace RJ := Lib.hid (And.intro (RJ.out.1.chg hc (by simp)) (And.intro (RJ.out.2.1.chg hc) (And.intro (RJ.out.2.2.1.more hc.size) RJ.out.2.2.2)))
   replace BP := Lib.hid (hc.at_ BP.out (by simp))
   replace CC := Lib.hid (CC.out.trans hc)
   clear hX hA hB hnA hnB hne hc
   refine hK.out _ _ (DX.out _ CC.out) (fun hHeld => ?_)
   clear hK K; try simp only [Act.put, sA, s0, s1]
   refine sy 7 7 rfl rfl ?_ (hS := (DX.out _ CC.out))
   try simp only [Act.put, sA, s0, s1]
   refine sy 8 8 rfl rfl ?_ (hS := (DX.out _ CC.out))
   try simp only [Act.put, sA, s0, s1]
   refine wpAnyH_ready (rs := [9]) (by kernel_rfl) (by simp) ?_; refine AllReadyH.cons rfl (fun K hK => ?_) AllReadyH.nil; replace hK := Lib.hid hK
   have f0 := free_of BP.out 0
   have f1 := free_of BP.out 1
   have f2 := free_of BP.out 2
   have f3 := free_of BP.out 3
   have f4 := free_of BP.out 4
   have f5 := free_of BP.out 5
   have f6 := free_of BP.out 6
   have v0 := cell_of BP.out 0
   have v1 := cell_of BP.out 1
   have v2 := cell_of BP.out 2
   have v3 := cell_of BP.out 3
   have v4 := cell_of BP.out 4
   have v5 := cell_of BP.out 5
   have v6 := cell_of BP.out 6
   simp only [List.getElem?_toArray, List.getElem?_cons_succ, List.getElem?_cons_zero] at v0 v1 v2 v3 v4 v5 v6
   go_simp; clear f0 v0 f1 v1 f2 v2 f3 v3 f4 v4 f5 v5 f6 v6
   obtain ⟨bk, ok, ck⟩ := setC7 (.int .i64 X.n) (.int .i64 X.s) (.string X.p) (.int .i64 X.k) (.int .i64 X.m) (.slice X.A X.l X.c) (.slice X.B X.bl X.bc) BP.out
   replace BP := Lib.hid bk
   replace RI := Lib.hid (And.intro (RI.out.1.chg ck (fun a ha => by simp; exact NI.out a ha)) (And.intro (RI.out.2.1.chgS ck (fun x hx => ⟨fun a ha => by simp; exact MI.out x hx a (.inl ha), fun a ha => by simp; exact MI.out x hx a (.inr ha)⟩)) (And.intro (RI.out.2.2.1.more ck.size) RI.out.2.2.2)))
   replace RJ := Lib.hid (And.intro (RJ.out.1.chg ck (fun a ha => by simp; exact NJ.out a ha)) (And.intro (RJ.out.2.1.chgS ck (fun x hx => ⟨fun a ha => by simp; exact MJ.out x hx a (.inl ha), fun a ha => by simp; exact MJ.out x hx a (.inr ha)⟩)) (And.intro (RJ.out.2.2.1.more ck.size) RJ.out.2.2.2)))
   replace RX := Lib.hid (And.intro (RX.out.1.chgS ck (fun a ha => by simp; exact XP.out a (.inl ha)) (fun a ha => by simp; exact XP.out a (.inr ha))) (fun a ha => Nat.lt_of_lt_of_le (RX.out.2 a ha) ck.size))
   replace CC := Lib.hid (CC.out.trans' ck (fun i hi => .inr (by have := GP.out; simp at hi; omega)))
   clear bk ok ck
   obtain ⟨wc, hwc⟩ : ∃ w9 : World, w9 = (((((((wc.setCell ⟨p, 0, none⟩ (.int .i64 X.n)).setCell ⟨p, 1, none⟩ (.int .i64 X.s)).setCell ⟨p, 2, none⟩ (.string X.p)).setCell ⟨p, 3, none⟩ (.int .i64 X.k)).setCell ⟨p, 4, none⟩ (.int .i64 X.m)).setCell ⟨p, 5, none⟩ (.slice X.A X.l X.c)).setCell ⟨p, 6, none⟩ (.slice X.B X.bl X.bc)) := ⟨_, rfl⟩
   rw [← hwc] at BP RI RJ RX CC ⊢
   clear hwc
   refine hK.out _ _ (DX.out _ CC.out) (fun hHeld => ?_)
   clear hK K; try simp only [Act.put, sA, s0, s1]
   refine wpAnyH_done (by kernel_rfl) ?_ _; clear hHeld
   exact JOIN A1 c1 zs A2 c2 us X p _ ⟨RI, RJ, RX, BP, CC⟩
 case rest =>
  rintro A1 c1 zs A2 c2 us X p w7 ⟨RI, RJ, RX, BP, hc⟩
  replace hc := hc.out
  replace C := Lib.hid (C.out.trans hc)
  replace B0 := Lib.hid (hc.at_ B0.out (by simp))
  replace HY := Lib.hid (HY.out.chg hc)
  clear hc DX; have C7 := C
  have D := Lib.hid (Chg.refl [] w7)
  have HY7 := HY
  have G0 : Hid (g0 < w7.heap.size) := Lib.hid (lt_of_heap B0.out)
  have LP : Hid (p < w7.heap.size) := Lib.hid (lt_of_heap BP.out)
  have z0 := cell_of BP.out 0
  have z1 := cell_of BP.out 1
  have z2 := cell_of BP.out 2
  have z3 := cell_of BP.out 3
  have z4 := cell_of BP.out 4
  have z5 := cell_of BP.out 5
  have z6 := cell_of BP.out 6
  simp only [List.getElem?_toArray, List.getElem?_cons_succ, List.getElem?_cons_zero] at z0 z1 z2 z3 z4 z5 z6
  go_wp2_with fail; clear z0 z1 z2 z3 z4 z5 z6
  refine (stput_any w7 A1 c1 zs es X f RI.out.1.reads ⟨RI.out.1.cap.1, RI.out.1.cap.2⟩ (.inr RI.out.1.lt) RI.out.2.1 (by have := RI.out.2.2.2; have := LX.out; omega) SX.out RX.out.1 SF.out).mono ?_
  rintro r w8 ⟨AP, cp, ps, rfl, he, hc⟩
  have PF := Lib.hid he
  replace C := Lib.hid (C.out.trans hc)
  replace D := Lib.hid (D.out.trans hc)
  replace B0 := Lib.hid (hc.at_ B0.out (by simp))
  replace BP := Lib.hid (hc.at_ BP.out (by simp))
  clear hc he
  have z0 := cell_of B0.out 0
  have z1 := cell_of B0.out 1
  have z2 := cell_of B0.out 2
  have z3 := cell_of B0.out 3
  have z4 := cell_of B0.out 4
  have z5 := cell_of B0.out 5
  have z6 := cell_of B0.out 6
  simp only [List.getElem?_toArray, List.getElem?_cons_succ, List.getElem?_cons_zero] at z0 z1 z2 z3 z4 z5 z6
  go_wp2_with fail; clear z0 z1 z2 z3 z4 z5 z6
  refine (ktput_any w8 A c xs es y f (HA.out.chg C.out (by simp)) (HR.out.chg C.out) (by have := LX.out; omega) SX.out (HY7.out.chg D.out) SF.out).mono ?_
  rintro r w9 ⟨AQ, cq, qs, rfl, hq, hqe, hc⟩
  have QR := Lib.hid hq
  have QE := Lib.hid (hqe.chg (Chg.refl [] w9))
  have S89 := Lib.hid hc.size
  replace C := Lib.hid (C.out.trans hc)
  replace D := Lib.hid (D.out.trans hc)
  replace B0 := Lib.hid (hc.at_ B0.out (by simp))
  replace BP := Lib.hid (hc.at_ BP.out (by simp))
  replace PF := Lib.hid (PF.out.chg hc (by simp))
  clear hc hq hqe
  have S79H : Hid (w7.heap.size ≤ w9.heap.size) := Lib.hid D.out.size
  go_wp2_with fail
  refine (stjoin_any w9 A1 A2 c1 c2 zs us es fs (RI.out.1.reads.chg D.out (by simp)) (RJ.out.1.reads.chg D.out (by simp)) ⟨⟨RI.out.1.cap.1, RI.out.1.cap.2⟩, RJ.out.1.cap.1⟩ ⟨.inr (fun a ha => Nat.lt_of_lt_of_le (RI.out.1.lt a ha) D.out.size), .inr (fun a ha => Nat.lt_of_lt_of_le (RJ.out.1.lt a ha) D.out.size)⟩ (RI.out.2.1.chg D.out) (RJ.out.2.1.chg D.out) (by have := RI.out.2.2.2; have := LX.out; have := RJ.out.2.2.2; have := LY.out; omega) SX.out SY.out).mono ?_
  rintro r wa ⟨AJ, cj, js, rfl, he, hc⟩
  have JF := Lib.hid he
  replace C := Lib.hid (C.out.trans hc)
  replace D := Lib.hid (D.out.trans hc)
  replace B0 := Lib.hid (hc.at_ B0.out (by simp))
  replace BP := Lib.hid (hc.at_ BP.out (by simp))
  replace PF := Lib.hid (PF.out.chg hc (by simp))
  replace QR := Lib.hid (QR.out.chg hc (by simp))
  replace QE := Lib.hid (QE.out.chg hc)
  clear hc he; go_wp2_with fail
  refine (ktjoin_any wa A B c d xs ys es fs (HA.out.chg C.out (by simp)) (HB.out.chg C.out (by simp)) (HR.out.chg C.out) (HR'.out.chg C.out) (by have := LX.out; have := LY.out; omega) SX.out SY.out).mono ?_
  rintro r wb ⟨AK, ck, ks, rfl, hq, hqe, hc⟩
  have KR := Lib.hid hq
  have KE := Lib.hid (hqe.chg (Chg.refl [] wb))
  replace C := Lib.hid (C.out.trans hc)
  replace D := Lib.hid (D.out.trans hc)
  replace B0 := Lib.hid (hc.at_ B0.out (by simp))
  replace BP := Lib.hid (hc.at_ BP.out (by simp))
  replace PF := Lib.hid (PF.out.chg hc (by simp))
  replace QR := Lib.hid (QR.out.chg hc (by simp))
  replace QE := Lib.hid (QE.out.chg hc)
  replace JF := Lib.hid (JF.out.chg hc (by simp))
  clear hc hq hqe
  have PM : Hid ((∀ e ∈ (stPut es f).2, e.q.length ≤ 140737488351232) ∧ (stPut es f).2.length ≤ 17) := Lib.hid ⟨fun e he => by
   rcases stPut_mem he with q | q
   ·
    rw [q]; have := SF.out.2; omega
   ·
    have := (SX.out e q).2; omega, by have := stPut_len es f; have := HR.out.1; have := LX.out; omega⟩
  have JM : Hid ((∀ e ∈ (stJoin es fs).2, e.q.length ≤ 140737488351232) ∧ (stJoin es fs).2.length ≤ 32) := Lib.hid ⟨fun e he => by
   rcases stJoin_mem he with q | q
   ·
    have := (SX.out e q).2; omega
   ·
    have := (SY.out e q).2; omega, by have := stJoin_len es fs; have := HR.out.1; have := LX.out; have := HR'.out.1; have := LY.out; omega⟩
  have LPS : Hid (ps.length ≤ 100000 ∧ qs.length ≤ 100000) := Lib.hid ⟨by have := PF.out.all.ev.1; have := PM.out.2; omega, by have := QE.out.1; have := PM.out.2; omega⟩
  have LJS : Hid (js.length ≤ 100000 ∧ ks.length ≤ 100000) := Lib.hid ⟨by have := JF.out.all.ev.1; have := JM.out.2; omega, by have := KE.out.1; have := JM.out.2; omega⟩
  go_wp2_with fail
  refine (stcheck_any wb A1 c1 zs es (RI.out.1.reads.chg D.out (by simp)) RI.out.1.cap.1 (.inr (fun a ha => Nat.lt_of_lt_of_le (RI.out.1.lt a ha) D.out.size)) (RI.out.2.1.chg D.out) (by have := RI.out.2.2.2; have := LX.out; omega) (fun e he => (SX.out e he).1)).mono ?_
  rintro r wc ⟨rfl, hc⟩
  replace C := Lib.hid (C.out.trans hc)
  replace D := Lib.hid (D.out.trans hc)
  replace B0 := Lib.hid (hc.at_ B0.out (by simp))
  replace BP := Lib.hid (hc.at_ BP.out (by simp))
  replace PF := Lib.hid (PF.out.chg hc (by simp))
  replace QR := Lib.hid (QR.out.chg hc (by simp))
  replace QE := Lib.hid (QE.out.chg hc)
  replace JF := Lib.hid (JF.out.chg hc (by simp))
  replace KR := Lib.hid (KR.out.chg hc (by simp))
  replace KE := Lib.hid (KE.out.chg hc)
  clear hc; go_wp2_with fail
  refine (ktcheck_any wc A c xs es (HA.out.chg C.out (by simp)) (HR.out.chg C.out) (by have := LX.out; omega) SX.out).mono ?_
  rintro r wd ⟨rfl, hc⟩
  replace C := Lib.hid (C.out.trans hc)
  replace D := Lib.hid (D.out.trans hc)
  replace B0 := Lib.hid (hc.at_ B0.out (by simp))
  replace BP := Lib.hid (hc.at_ BP.out (by simp))
  replace PF := Lib.hid (PF.out.chg hc (by simp))
  replace QR := Lib.hid (QR.out.chg hc (by simp))
  replace QE := Lib.hid (QE.out.chg hc)
  replace JF := Lib.hid (JF.out.chg hc (by simp))
  replace KR := Lib.hid (KR.out.chg hc (by simp))
  replace KE := Lib.hid (KE.out.chg hc)
  clear hc; go_wp2_with fail
  refine (sameevs_any wd AP AQ cp cq ps qs _ _ PF.out.row.reads QR.out PF.out.all.ev QE.out LPS.out ⟨PM.out.1, PM.out.1⟩).mono ?_
  rintro r we ⟨rfl, hc⟩
  rw [sameL_refl]
  replace C := Lib.hid (C.out.trans hc)
  replace D := Lib.hid (D.out.trans hc)
  replace B0 := Lib.hid (hc.at_ B0.out (by simp))
  replace BP := Lib.hid (hc.at_ BP.out (by simp))
  replace PF := Lib.hid (PF.out.chg hc (by simp))
  replace QR := Lib.hid (QR.out.chg hc (by simp))
  replace QE := Lib.hid (QE.out.chg hc)
  replace JF := Lib.hid (JF.out.chg hc (by simp))
  replace KR := Lib.hid (KR.out.chg hc (by simp))
  replace KE := Lib.hid (KE.out.chg hc)
  clear hc QR QE; go_wp2_with fail
  refine (sameevs_any we AJ AK cj ck js ks _ _ JF.out.row.reads KR.out JF.out.all.ev KE.out LJS.out ⟨JM.out.1, JM.out.1⟩).mono ?_
  rintro r wf ⟨rfl, hc⟩
  rw [sameL_refl]
  replace C := Lib.hid (C.out.trans hc)
  replace D := Lib.hid (D.out.trans hc)
  replace B0 := Lib.hid (hc.at_ B0.out (by simp))
  replace BP := Lib.hid (hc.at_ BP.out (by simp))
  replace PF := Lib.hid (PF.out.chg hc (by simp))
  replace JF := Lib.hid (JF.out.chg hc (by simp))
  replace KR := Lib.hid (KR.out.chg hc (by simp))
  replace KE := Lib.hid (KE.out.chg hc)
  clear hc KR KE; go_wp2_with fail
  refine (overevs_own wf w7.heap.size w8.heap.size AP cp ps _ PF.out LPS.out.1).mono ?_
  rintro r wg ⟨rfl, S, hS, h9⟩
  replace D := Lib.hid (D.out.trans' h9 (fun i hi => .inr (hS i hi).1))
  replace C := Lib.hid (C.out.trans' h9 (fun i hi => .inr (Nat.le_trans C7.out.size (hS i hi).1)))
  replace B0 := Lib.hid (h9.at_ B0.out (fun q => by have := (hS _ q).1; have := G0.out; omega))
  replace BP := Lib.hid (h9.at_ BP.out (fun q => by have := (hS _ q).1; have := LP.out; omega))
  replace JF := Lib.hid (JF.out.chg h9 (fun i hi q => by have := (hS i hi).2; have := S89.out; omega))
  clear hS h9 PF; go_wp2_with fail
  refine (overevs_own wg w9.heap.size wa.heap.size AJ cj js _ JF.out LJS.out.1).mono ?_
  rintro r wh ⟨rfl, S, hS, h9⟩
  have S79 := S79H
  replace D := Lib.hid (D.out.trans' h9 (fun i hi => .inr (Nat.le_trans S79.out (hS i hi).1)))
  replace C := Lib.hid (C.out.trans' h9 (fun i hi => .inr (Nat.le_trans C7.out.size (Nat.le_trans S79.out (hS i hi).1))))
  replace B0 := Lib.hid (h9.at_ B0.out (fun q => by have := (hS _ q).1; have := G0.out; have := S79.out; omega))
  replace BP := Lib.hid (h9.at_ BP.out (fun q => by have := (hS _ q).1; have := LP.out; have := S79.out; omega))
  clear hS h9 JF
  have QX : Hid (∀ e ∈ es, e.q.length ≤ 140737488351232) := Lib.hid (fun e he => by have := (SX.out e he).2; omega)
  have QY : Hid (∀ e ∈ fs, e.q.length ≤ 140737488351232) := Lib.hid (fun e he => by have := (SY.out e he).2; omega)
  go_wp2_with fail
  refine (sameevs_any wh A1 A c1 c zs xs es es (RI.out.1.reads.chg D.out (by simp)) (HA.out.chg C.out (by simp)) (RI.out.2.1.chg D.out) (HR.out.chg C.out) ⟨by have := RI.out.2.2.2; have := LX.out; omega, by have := LX.out; omega⟩ ⟨QX.out, QX.out⟩).mono ?_
  rintro r wi ⟨rfl, hc⟩
  rw [sameL_refl]
  replace C := Lib.hid (C.out.trans hc)
  replace D := Lib.hid (D.out.trans hc)
  replace B0 := Lib.hid (hc.at_ B0.out (by simp))
  replace BP := Lib.hid (hc.at_ BP.out (by simp))
  clear hc; go_wp2_with fail
  refine (sameevs_any wi A2 B c2 d us ys fs fs (RJ.out.1.reads.chg D.out (by simp)) (HB.out.chg C.out (by simp)) (RJ.out.2.1.chg D.out) (HR'.out.chg C.out) ⟨by have := RJ.out.2.2.2; have := LY.out; omega, by have := LY.out; omega⟩ ⟨QY.out, QY.out⟩).mono ?_
  rintro r wj ⟨rfl, hc⟩
  rw [sameL_refl]
  replace C := Lib.hid (C.out.trans hc)
  replace D := Lib.hid (D.out.trans hc)
  replace B0 := Lib.hid (hc.at_ B0.out (by simp))
  replace BP := Lib.hid (hc.at_ BP.out (by simp))
  clear hc
  have y0 := cell_of B0.out 0
  have y1 := cell_of B0.out 1
  have y2 := cell_of B0.out 2
  have y3 := cell_of B0.out 3
  have y4 := cell_of B0.out 4
  have y5 := cell_of B0.out 5
  have y6 := cell_of B0.out 6
  simp only [List.getElem?_toArray, List.getElem?_cons_succ, List.getElem?_cons_zero] at y0 y1 y2 y3 y4 y5 y6
  have z0 := cell_of BP.out 0
  have z1 := cell_of BP.out 1
  have z2 := cell_of BP.out 2
  have z3 := cell_of BP.out 3
  have z4 := cell_of BP.out 4
  have z5 := cell_of BP.out 5
  have z6 := cell_of BP.out 6
  simp only [List.getElem?_toArray, List.getElem?_cons_succ, List.getElem?_cons_zero] at z0 z1 z2 z3 z4 z5 z6
  go_wp2_with fail; clear z0 z1 z2 z3 z4 z5 z6; clear y0 y1 y2 y3 y4 y5 y6
  have SE : Hid (sameP f f = true) := Lib.hid (by unfold sameP; simp)
  refine (sameev_any wj X y f f (RX.out.1.chg D.out) (HY7.out.chg D.out) ⟨SF.out.1.2.2, SF.out.1.2.2⟩).mono ?_
  rintro r wk ⟨rfl, hc⟩
  rw [SE.out]
  replace C := Lib.hid (C.out.trans hc)
  replace D := Lib.hid (D.out.trans hc)
  replace B0 := Lib.hid (hc.at_ B0.out (by simp))
  replace BP := Lib.hid (hc.at_ BP.out (by simp))
  clear hc; go_wp2_with fail
  refine (l10awake_run wk).mono ?_
  rintro r wl ⟨rfl, hc⟩
  replace C := Lib.hid (C.out.trans hc)
  replace D := Lib.hid (D.out.trans hc)
  replace B0 := Lib.hid (hc.at_ B0.out (by simp))
  replace BP := Lib.hid (hc.at_ BP.out (by simp))
  clear hc; go_wp2; go_ret
  exact ⟨(by first | rfl | simp), C.out⟩
end
section
open Go.RowKit Go.WideShapes Go.ChangeShapes Go.Deep

section
variable {H : Type} {enc : TypeId × Value → H} {w : World} {base : Nat} {spare : Nat → Bool} {held : Bool}
set_option maxRecDepth 100000 in
set_option maxHeartbeats 1000000 in
theorem open_events {n : Nat} {cs : List Value} {y : DataW H × List MemPlace} (h : DataW.trod enc Tryz.prog w base spare held n 22 cs = some y) (hz : ∀ k ∈ y.1.weights Tryz.prog 22, k ≤ reachBytes) :
  ∃ A m d zs es, cs = [.slice A m d] ∧ RdK evTy w A m zs ∧ EvsR w zs es ∧ m * 96 ≤ 140737488351232 ∧ m ≤ d ∧ ∀ (i : Nat) (x : EvT) (e : EvP), zs[i]? = some x → es[i]? = some e → EvZ x e := by
 rcases open_slice Tryz.underlying22 h with ⟨rfl, _⟩ | ⟨a, len, cap, m, k, D, Pl, rfl, _, hl, hm, hmm, rfl, hi⟩
 ·
  exact ⟨none, 0, 0, [], [], rfl, RdK.nil _ _, EvsR.nil _, by decide, by decide, by simp⟩
 ·
  have hlm : len ≤ m := by rw [hmm]; split <;> omega
  obtain ⟨hw, hwd⟩ := weights_slice Tryz.underlying22 hz
  rw [show Tryz.prog.bytesOf 30 = 96 by kernel_rfl] at hw
  simp [reachBytes] at hw
  have hC : Tryz.prog.cellsOf 30 = 7 := by kernel_rfl
  obtain ⟨l, hll, hat⟩ := list_of (Q := fun i (x : EvT × EvP) => (w.cell? (a.add (i * 7)) = some (.int .i64 x.1.n) ∧ w.cell? (a.add (i * 7 + 1)) = some (.int .i64 x.1.s) ∧ w.cell? (a.add (i * 7 + 2)) = some (.string x.1.p) ∧ w.cell? (a.add (i * 7 + 3)) = some (.int .i64 x.1.k) ∧ w.cell? (a.add (i * 7 + 4)) = some (.int .i64 x.1.m) ∧ w.cell? (a.add (i * 7 + 5)) = some (.slice x.1.A x.1.l x.1.c) ∧ w.cell? (a.add (i * 7 + 6)) = some (.slice x.1.B x.1.bl x.1.bc)) ∧ EvR w x.1 x.2 ∧ EvZ x.1 x.2) len (fun i hilt => by
   obtain ⟨cs', hc, ht⟩ := hi i (by omega)
   rw [hC] at hc
   obtain ⟨_, hcl, hat⟩ := World.cells?_some hc
   obtain ⟨x, e, rfl, hr, hz2⟩ := open_event ht (fun k hk => hwd (D i) (List.mem_map.2 ⟨i, List.mem_range.2 hilt, rfl⟩) k hk)
   have g0 := hat 0 (by simp)
   have g1 := hat 1 (by simp)
   have g2 := hat 2 (by simp)
   have g3 := hat 3 (by simp)
   have g4 := hat 4 (by simp)
   have g5 := hat 5 (by simp)
   have g6 := hat 6 (by simp)
   rw [add_add] at g0 g1 g2 g3 g4 g5 g6
   exact ⟨(x, e), ⟨g0, g1, g2, g3, g4, g5, g6⟩, hr, hz2⟩)
  refine ⟨some a, len, cap, l.map (·.1), l.map (·.2), rfl, ⟨by rw [List.length_map]; exact hll, fun j v hj => ⟨a, rfl, ?_⟩⟩, ⟨by simp, fun i x e hx he => ?_⟩, by omega, hl, fun i x e hx he => ?_⟩
  rotate_left
  ·
   rw [List.getElem?_map, Option.map_eq_some_iff] at hx he
   obtain ⟨p, hp, rfl⟩ := hx
   obtain ⟨q, hq, rfl⟩ := he
   rw [hp] at hq
   cases hq
   exact (hat i _ hp).2.1
  ·
   rw [List.getElem?_map, Option.map_eq_some_iff] at hx he
   obtain ⟨p, hp, rfl⟩ := hx
   obtain ⟨q, hq, rfl⟩ := he
   rw [hp] at hq
   cases hq
   exact (hat i _ hp).2.2
  have hj2 := (List.getElem?_eq_some_iff.1 hj).1
  rw [evTy.flat_len, List.length_map] at hj2
  have hk : evTy.k = 7 := rfl
  rw [hk] at hj2
  have hq : j / 7 < l.length := by omega
  have e := evTy.flat_at (l.map (·.1)) (j / 7) (j % 7) _ (by rw [List.getElem?_map, List.getElem?_eq_getElem hq]; rfl) (Nat.mod_lt _ (by decide))
  rw [hk, Nat.div_add_mod', hj] at e
  obtain ⟨g0, g1, g2, g3, g4, g5, g6⟩ := (hat (j / 7) _ (List.getElem?_eq_getElem hq)).1
  rcases (show j % 7 = 0 ∨ j % 7 = 1 ∨ j % 7 = 2 ∨ j % 7 = 3 ∨ j % 7 = 4 ∨ j % 7 = 5 ∨ j % 7 = 6 by omega) with h0 | h0 | h0 | h0 | h0 | h0 | h0
  ·
   rw [h0] at e
   rw [show j / 7 * 7 = j by omega] at g0
   rw [g0]
   exact e.symm
  ·
   rw [h0] at e
   rw [show j / 7 * 7 + 1 = j by omega] at g1
   rw [g1]
   exact e.symm
  ·
   rw [h0] at e
   rw [show j / 7 * 7 + 2 = j by omega] at g2
   rw [g2]
   exact e.symm
  ·
   rw [h0] at e
   rw [show j / 7 * 7 + 3 = j by omega] at g3
   rw [g3]
   exact e.symm
  ·
   rw [h0] at e
   rw [show j / 7 * 7 + 4 = j by omega] at g4
   rw [g4]
   exact e.symm
  ·
   rw [h0] at e
   rw [show j / 7 * 7 + 5 = j by omega] at g5
   rw [g5]
   exact e.symm
  ·
   rw [h0] at e
   rw [show j / 7 * 7 + 6 = j by omega] at g6
   rw [g6]
   exact e.symm
end
end
section
def TabN (_ : World) : Prop := True
theorem TabN.laid {W : World} (_h : laidMetH Tryz.prog tables W) : TabN W := trivial
end
end Go.Proofs.YtomgjogkkoigbaaGreatDoor
