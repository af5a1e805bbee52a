/- EdgePlans. Rows of events as arguments. An archive as an argument. Slices of dots as arguments. Nothing is asked of the variables. -/
import Derived.Test.YtehmchdhlhchjaaGreatDoorZepzd
import Derived.Test.YtehmchdhlhchjaaGreatDoorZepze
import Derived.Test.YtehmchdhlhchjaaGreatDoorZepd
import Derived.Test.YtehmchdhlhchjaaGreatDoorZepj
import Derived.Test.YtehmchdhlhchjaaGreatDoorZepm
import Derived.Test.YtehmchdhlhchjaaGreatDoorZept
import Derived.Test.YtehmchdhlhchjaaGreatDoorZepq
import Derived.Test.YtehmchdhlhchjaaGreatDoorZepa
import Derived.Deep.Cut
import Derived.Deep.RegionHeld3
import Derived.Test.YtehmchdhlhchjaaGreatDoorZepb
import Derived.Test.YtehmchdhlhchjaaGreatDoorZepi
import Derived.Test.YtehmchdhlhchjaaGreatDoorLaid0
set_option linter.unusedSimpArgs false
set_option linter.unusedVariables false
set_option maxHeartbeats 32000000
namespace Go.Proofs.YtehmchdhlhchjaaGreatDoor
section
open Go.RowKit Go.Lib


set_option maxRecDepth 100000 in
theorem edgeplans_yes (w : World) (A : Option Addr) (m c : Nat) (xs : List EvT) (es : List EvP) (hb : RdK evTy w A m xs) (hr : EvsR w xs es) (hn : m * 96 ≤ 140737488351232) (hm : m ≤ c) (hz : ∀ (i : Nat) (x : EvT) (e : EvP), xs[i]? = some x → es[i]? = some e → EvZ x e) (n : Int) (B : Option Addr) (nk bc : Nat) (ks : List (Int × Int × Int)) (hks : RdK spanTy w B nk ks) (hnk : nk * 24 ≤ 140737488351232) (D : Option Addr) (nd dc : Nat) (ds : List (Int × Int)) (hds : RdK dotTy w D nd ds) (hnd : nd * 16 ≤ 140737488351232) :
  Calls Tryz.prog 3 #[.slice A m c, .agg #[.int .i64 n, .slice B nk bc], .slice D nd dc] w fun r w' => r = .returned (.bool true) ∧ Chg [] w w' := by

 have hl := hb.len
 subst hl
 have HFT := h_ (fit_args hr hz)
 have HL0 : Hid (xs.length ≤ 140737488351232) := h_ (by omega)
 have XL : Hid (∀ x ∈ xs, x.l ≤ 140737488351232) := h_ (fun x hx => by
  obtain ⟨i, hi⟩ := List.getElem?_of_mem hx
  obtain ⟨x2, e, ex, ee, rx⟩ := hr.at_ (show i < xs.length from (List.getElem?_eq_some_iff.1 hi).1)
  rw [hi] at ex
  cases ex
  have a := rx.l
  have b := (hz i x e hi ee).1
  omega)
 have hlk := hks.len
 subst hlk
 have hld := hds.len
 subst hld
 obtain ⟨w1, hw, hc, b0⟩ := news1 w (.cells #[.int .i64 n, .slice B ks.length bc] 25)
 have W1 := h_ hw
 have B0 := h_ b0
 have HA := h_ hb
 have HR := h_ hr
 have HK := h_ hks
 have HD := h_ hds
 have KN : Hid (ks.length ≤ 140737488351232) := h_ (by omega)
 have CM := h_ hm
 have C := h_ hc
 clear hw hc b0 hb hr hn hm hz hks hds hnk hnd
 go_enter Tryz.func3, Tryz.ntmps3
 go_upto_region 1 with fail
 rw [← W1.out]
 generalize hg4 : w.heap.size = g4 at *
 have G4 : Hid (w.heap.size ≤ g4) := h_ (by omega)
 clear W1 hg4; go_wp2_with fail
 have lv := longevs_any w1 A c xs 16 (HA.out.chg C.out (by simp)) HL0.out (by omega) XL.out
 rw [show ((16 : Nat) : Int) = 16 from rfl] at lv
 refine lv.mono ?_
 rintro r w2 ⟨rfl, hc⟩
 clear lv
 replace C := h_ (C.out.trans hc)
 replace B0 := h_ (hc.at_ B0.out (by simp))
 clear hc
 rcases hlong : longE xs 16 with _ | _
 rotate_left
 ·
  skip; go_wp2_with fail
  refine (l20awake_c _).mono ?_
  rintro r w3 ⟨rfl, hc⟩
  replace C := h_ (C.out.trans hc)
  clear hc; go_wp2; go_ret
  exact ⟨rfl, C.out⟩
 have sm := smallEvs HR.out hlong
 have SM : Hid (∀ e ∈ es, EvSm e ∧ e.q.length ≤ 100000) := h_ (fun e he => ⟨(sm.1 e he).1, by have := (sm.1 e he).2.1; omega⟩)
 have LN : Hid (xs.length ≤ 16) := h_ sm.2
 clear sm hlong
 obtain ⟨z0, z1⟩ := ce2 B0.out
 by_cases h1 : 100 < ks.length
 ·
  skip
  have h1 : (100 : Int) < (ks.length : Int) := by omega
  have h1d : decide ((100 : Int) < (ks.length : Int)) = true := decide_eq_true h1
  go_wp2_with fail
  refine (l20awake_c _).mono ?_
  rintro r w3 ⟨rfl, hc⟩
  replace C := h_ (C.out.trans hc)
  clear hc; go_wp2; go_ret
  exact ⟨rfl, C.out⟩
 have h1i : ¬ (100 : Int) < (ks.length : Int) := by omega
 have h1d : decide ((100 : Int) < (ks.length : Int)) = false := decide_eq_false h1i
 by_cases h2 : 40 < ds.length
 ·
  skip
  have h2 : (40 : Int) < (ds.length : Int) := by omega
  have h2d : decide ((40 : Int) < (ds.length : Int)) = true := decide_eq_true h2
  go_wp2_with fail
  refine (l20awake_c _).mono ?_
  rintro r w3 ⟨rfl, hc⟩
  replace C := h_ (C.out.trans hc)
  clear hc; go_wp2; go_ret
  exact ⟨rfl, C.out⟩
 have h2i : ¬ (40 : Int) < (ds.length : Int) := by omega
 have h2d : decide ((40 : Int) < (ds.length : Int)) = false := decide_eq_false h2i
 have DL : Hid (ds.length ≤ 40) := h_ (by omega)
 have KL : Hid (ks.length ≤ 100) := h_ (by omega)
 clear h1 h2
 go_upto_region 3 with fail
 clear h1i h2i h1d h2d; clear z0 z1
 have DX : Hid (∀ w', Chg [] w2 w' → (fun w' => w'.cell? ⟨g4, 0, none⟩ = some (.int .i64 n) ∧ w'.cell? ⟨g4, 1, none⟩ = some (.slice B ks.length bc)) w') := h_ (fun w' hc => by
  have b_g4 := hc.at_ B0.out (by simp)
  exact ⟨cell_of b_g4 0, cell_of b_g4 1⟩)
 refine' joinE4 (F := fun (A1 : Option Addr) (c1 : Nat) (ys : List EvT) (p : Nat) (w7 : World) => Hid (ys.length = xs.length) ∧ Hid (OwnK evTy w7 A1 c1 ys) ∧ Hid (EvsR w7 ys es) ∧ Hid (w7.heap[p]? = some (.cells #[.int .i64 n, .slice B ks.length bc] 25 (0, 0))) ∧ Hid (w2.heap.size ≤ p) ∧ Hid (Chg [] w2 w7)) (R := _) (fun JOIN => ?leaf) ?rest
 case leaf =>
  refine wp_region_held_drew (S := fun w' => w'.cell? ⟨g4, 0, none⟩ = some (.int .i64 n) ∧ w'.cell? ⟨g4, 1, none⟩ = some (.slice B ks.length bc)) (by kernel_rfl) (DX.out _ (Chg.refl [] w2).drew) (fun hHeld => ?_)
  have CC : Hid (Chg [] w2 w2.drew) := h_ (Chg.refl [] w2).drew
  clear hHeld
  obtain ⟨wc, hwc⟩ : ∃ wc, w2.drew = wc := ⟨_, rfl⟩
  rw [hwc] at CC ⊢
  clear hwc
  refine sy 0 28 rfl rfl ?_ (hS := (DX.out _ CC.out))
  try simp only [Act.put, sA, s0, s1]
  refine sy 2 30 rfl rfl ?_ (hS := (DX.out _ CC.out)) (hy := by (intro w hSw; (try dsimp only at hSw); obtain ⟨q0, q1⟩ := hSw; go_simp; try with_reducible rfl))
  try simp only [Act.put, sA, s0, s1]
  refine wpAnyH_ready (rs := [1, 3]) (by kernel_rfl) (by simp) ?_
  refine AllReadyH.cons rfl (fun K hK => ?_) (AllReadyH.cons rfl (fun K hK => ?_) AllReadyH.nil)
  ·
   skip
   replace hK := h_ hK
   go_simp
   refine (copyevs_any wc A c xs es (HA.out.chg (C.out.trans CC.out) (by simp)) (HR.out.chg (C.out.trans CC.out)) (by have := LN.out; omega) (fun e he => ⟨(SM.out e he).1.2.1, (SM.out e he).2⟩)).mono ?_
   rintro r wn ⟨A1, c1, ys, rfl, hl1, ho, hv, _, _, hc⟩
   obtain ⟨wc, hwc⟩ : ∃ q, wn = q := ⟨_, rfl⟩
   rw [hwc] at ho hv hc ⊢
   clear hwc
   have YL := h_ hl1
   have O1 := h_ ho
   have V1 := h_ hv
   replace CC := h_ (CC.out.trans hc)
   clear hl1 ho hv hc
   refine hK.out _ _ (DX.out _ CC.out) (fun hHeld => ?_)
   clear hK K; try simp only [Act.put, sA, s0, s1]
   refine on1 3 rfl (fun K hK => ?_)
   go_simp
   obtain ⟨p, hp⟩ : ∃ n, n = wc.heap.size := ⟨_, rfl⟩
   have GP : Hid (w2.heap.size ≤ p) := h_ (by have := CC.out.size; omega)
   obtain ⟨wp, hw, cn, bn⟩ := news1 wc (.cells #[.int .i64 0, .slice none 0 0] 25)
   rw [← hw, ← hp]
   rw [← hp] at bn
   obtain ⟨wc, hwc⟩ : ∃ q, wp = q := ⟨_, rfl⟩
   rw [hwc] at cn bn ⊢
   replace O1 := h_ (O1.out.chg cn (by simp))
   replace V1 := h_ (V1.out.chg cn)
   have BP := h_ bn
   replace CC := h_ (CC.out.trans cn)
   clear hw hp cn bn hwc
   refine hK.out _ _ (DX.out _ CC.out) (fun hHeld => ?_)
   clear hK K; try simp only [Act.put, sA, s0, s1]
   refine sy 4 7 rfl rfl ?_ (hS := (DX.out _ CC.out))
   try simp only [Act.put, sA, s0, s1]
   refine on1 5 rfl (fun K hK => ?_)
   have v0 := cell_of BP.out 0
   have v1 := cell_of BP.out 1
   have fv0 := free_of BP.out 0
   have fv1 := free_of BP.out 1
   simp only [gA, gY, gZ] at v0 v1
   go_simp; clear v0 v1 fv0 fv1
   obtain ⟨bk, ck⟩ := arcS (.int .i64 n) (.slice B ks.length bc) BP.out
   replace O1 := h_ (O1.out.chg ck (fun a ha => by have := ownE_ne O1.out BP.out a ha; simpa using this))
   replace V1 := h_ (V1.out.abox BP.out ck)
   replace CC := h_ (CC.out.trans' ck (fun i hi => .inr (by have := GP.out; simp at hi; omega)))
   replace BP := h_ bk
   clear bk ck
   obtain ⟨wc, hwc⟩ : ∃ w9 : World, ((wc.setCell ⟨p, 0, none⟩ (.int .i64 n)).setCell ⟨p, 1, none⟩ (.slice B ks.length bc)) = w9 := ⟨_, rfl⟩
   rw [hwc] at BP O1 V1 CC ⊢
   clear hwc
   refine hK.out _ _ (DX.out _ CC.out) (fun hHeld => ?_)
   clear hK K; try simp only [Act.put, sA, s0, s1]
   refine wpAnyH_done (by kernel_rfl) ?_ _; clear hHeld
   exact JOIN A1 c1 ys p _ ⟨YL, O1, V1, BP, GP, CC⟩
  ·
   skip
   replace hK := h_ hK
   go_simp
   obtain ⟨p, hp⟩ : ∃ n, n = wc.heap.size := ⟨_, rfl⟩
   have GP : Hid (w2.heap.size ≤ p) := h_ (by have := CC.out.size; omega)
   obtain ⟨wp, hw, cn, bn⟩ := news1 wc (.cells #[.int .i64 0, .slice none 0 0] 25)
   rw [← hw, ← hp]
   rw [← hp] at bn
   obtain ⟨wc, hwc⟩ : ∃ q, wp = q := ⟨_, rfl⟩
   rw [hwc] at cn bn ⊢
   have BP := h_ bn
   replace CC := h_ (CC.out.trans cn)
   clear hw hp cn bn hwc
   refine hK.out _ _ (DX.out _ CC.out) (fun hHeld => ?_)
   clear hK K; try simp only [Act.put, sA, s0, s1]
   refine on1 1 rfl (fun K hK => ?_)
   go_simp
   refine (copyevs_any wc A c xs es (HA.out.chg (C.out.trans CC.out) (by simp)) (HR.out.chg (C.out.trans CC.out)) (by have := LN.out; omega) (fun e he => ⟨(SM.out e he).1.2.1, (SM.out e he).2⟩)).mono ?_
   rintro r wn ⟨A1, c1, ys, rfl, hl1, ho, hv, _, _, hc⟩
   obtain ⟨wc, hwc⟩ : ∃ q, wn = q := ⟨_, rfl⟩
   rw [hwc] at ho hv hc ⊢
   clear hwc
   have YL := h_ hl1
   have O1 := h_ ho
   have V1 := h_ hv
   replace BP := h_ (hc.at_ BP.out (by simp))
   replace CC := h_ (CC.out.trans hc)
   clear hl1 ho hv hc
   refine hK.out _ _ (DX.out _ CC.out) (fun hHeld => ?_)
   clear hK K; try simp only [Act.put, sA, s0, s1]
   refine sy 4 7 rfl rfl ?_ (hS := (DX.out _ CC.out))
   try simp only [Act.put, sA, s0, s1]
   refine on1 5 rfl (fun K hK => ?_)
   have v0 := cell_of BP.out 0
   have v1 := cell_of BP.out 1
   have fv0 := free_of BP.out 0
   have fv1 := free_of BP.out 1
   simp only [gA, gY, gZ] at v0 v1
   go_simp; clear v0 v1 fv0 fv1
   obtain ⟨bk, ck⟩ := arcS (.int .i64 n) (.slice B ks.length bc) BP.out
   replace O1 := h_ (O1.out.chg ck (fun a ha => by have := ownE_ne O1.out BP.out a ha; simpa using this))
   replace V1 := h_ (V1.out.abox BP.out ck)
   replace CC := h_ (CC.out.trans' ck (fun i hi => .inr (by have := GP.out; simp at hi; omega)))
   replace BP := h_ bk
   clear bk ck
   obtain ⟨wc, hwc⟩ : ∃ w9 : World, ((wc.setCell ⟨p, 0, none⟩ (.int .i64 n)).setCell ⟨p, 1, none⟩ (.slice B ks.length bc)) = w9 := ⟨_, rfl⟩
   rw [hwc] at BP O1 V1 CC ⊢
   clear hwc
   refine hK.out _ _ (DX.out _ CC.out) (fun hHeld => ?_)
   clear hK K; try simp only [Act.put, sA, s0, s1]
   refine wpAnyH_done (by kernel_rfl) ?_ _; clear hHeld
   exact JOIN A1 c1 ys p _ ⟨YL, O1, V1, BP, GP, CC⟩
 case rest =>
  rintro A1 c1 ys g8 w3 ⟨YL, O1, V1, B8, G8, hc⟩
  replace hc := hc.out
  have N48 : Hid (g4 ≠ g8) := h_ (by have := lt_of_heap B0.out; have := G8.out; omega)
  have N84 : Hid (g8 ≠ g4) := h_ (fun q => N48.out q.symm)
  have G8W : Hid (w.heap.size ≤ g8) := h_ (by have := C.out.size; have := G8.out; omega)
  replace C := h_ (C.out.trans hc)
  replace B0 := h_ (hc.at_ B0.out (by simp))
  clear hc DX
  have YN : Hid (ys.length ≤ 16) := h_ (by rw [YL.out]; exact LN.out)
  obtain ⟨z0, z1⟩ := ce2 B0.out
  go_wp2_with fail; clear z0 z1
  refine (copyspan_any w3 B ks.length bc ks (HK.out.chg C.out (by simp)) (by have := KL.out; omega)).mono ?_
  rintro r w4 ⟨Kp, kc, rfl, ho, hnw, hc⟩
  have OK := h_ ho
  have NK : Hid (∀ a, Kp = some a → a.block ≠ g8) := h_ (fun a ha => by have := hnw a ha; have := lt_of_heap B8.out; omega)
  replace C := h_ (C.out.trans hc)
  replace B0 := h_ (hc.at_ B0.out (by simp))
  replace O1 := h_ (O1.out.chg hc (by simp))
  replace V1 := h_ (V1.out.chg hc)
  replace B8 := h_ (hc.at_ B8.out (by simp))
  clear ho hnw hc
  have z0 := cell_of B8.out 0
  have z1 := cell_of B8.out 1
  have fz0 := free_of B8.out 0
  have fz1 := free_of B8.out 1
  simp only [gA, gY, gZ] at z0 z1
  go_upto_region 5 with fail
  clear z0 z1 fz0 fz1
  obtain ⟨bk, ck⟩ := arcS1 (.slice Kp ks.length kc) B8.out
  replace O1 := h_ (O1.out.chg ck (fun a ha => by have := ownE_ne O1.out B8.out a ha; simpa using this))
  replace V1 := h_ (V1.out.abox B8.out ck)
  replace OK := h_ (OK.out.chg ck (fun a ha => by have := NK.out a ha; simpa using this))
  replace B0 := h_ (ck.at_ B0.out (by have := N48.out; simpa using this))
  replace C := h_ (C.out.trans' ck (fun i hi => .inr (by have := G8W.out; simp at hi; omega)))
  replace B8 := h_ bk
  clear bk ck
  obtain ⟨w5, hwc⟩ : ∃ w9 : World, (w4.setCell ⟨g8, 1, none⟩ (.slice Kp ks.length kc)) = w9 := ⟨_, rfl⟩
  rw [hwc] at B8 B0 O1 V1 OK C ⊢
  clear hwc
  obtain ⟨z0, z1⟩ := ce2 B8.out
  go_wp2_with fail; clear z0 z1
  refine (edplan_any w5 A1 c1 ys es n Kp kc ks O1.out.reads O1.out.cap.1 (.inr O1.out.lt_) V1.out (by have := YN.out; omega) SM.out OK.out.reads KN.out).mono ?_
  rintro r w6 ⟨A2, c2, zs, rfl, hf, hc⟩
  have FR := h_ hf
  have C56 := h_ hc
  clear hf hc
  have CA := h_ (C.out.trans C56.out)
  have B06 := h_ (C56.out.at_ B0.out (by simp))
  obtain ⟨z0, z1⟩ := ce2 B06.out
  go_wp2_with fail; clear z0 z1
  refine (fdplan_any w6 A c xs es n B bc ks (HA.out.chg CA.out (by simp)) CM.out (HA.out.old.imp id (fun q a ha => Nat.lt_of_lt_of_le (q a ha) CA.out.size)) (HR.out.chg CA.out) (by have := LN.out; omega) SM.out (HK.out.chg CA.out (by simp)) KN.out).mono ?_
  rintro r w7 ⟨A3, c3, us, rfl, hr, he, hc⟩
  have R3 := h_ hr
  have V3 := h_ he
  have C67 := h_ hc
  clear hr he hc
  have PN : Hid ((planA es n ks).length ≤ 16) := h_ (by
   have a := List.length_filter_le (fun e : EvP => !hasE ks e.n e.s) es
   have b := V1.out.1
   have c := YN.out
   unfold planA
   split
   ·
    rw [byDt_len]; omega
   ·
    simp)
  have PS : Hid (∀ e ∈ planA es n ks, EvSm e ∧ e.q.length ≤ 100000) := h_ (fun e he => by
   unfold planA at he
   split at he
   ·
    exact SM.out e ((List.mem_filter.1 ((byDt_perm _).mem_iff.1 he)).1)
   ·
    simp at he)
  have ZN : Hid (zs.length ≤ 16) := h_ (by have a := FR.out.all.ev.1; have b := PN.out; omega)
  have UN : Hid (us.length ≤ 16) := h_ (by have a := V3.out.1; have b := PN.out; omega)
  replace FR := h_ (FR.out.chg C67.out (by simp))
  have SE := h_ (sameevs_any w7 A2 A3 c2 c3 zs us _ _ FR.out.row.reads R3.out FR.out.all.ev V3.out (by have := ZN.out; have := UN.out; omega) ⟨fun e he => (PS.out e he).1.2.2, fun e he => (PS.out e he).1.2.2⟩)
  have SL : Hid (sameL (planA es n ks) (planA es n ks) = true) := h_ (sameL_at rfl (fun i a b ha hb => by rw [ha] at hb; cases hb; exact sameP_refl a))
  go_wp2_with fail
  refine SE.out.mono ?_
  rintro r w8 ⟨rfl, hc⟩
  rw [SL.out]
  have C78 := h_ hc
  clear hc SE SL R3 V3 UN
  replace FR := h_ (FR.out.chg C78.out (by simp))
  go_wp2_with fail
  refine (overevs_own w8 w5.heap.size w6.heap.size A2 c2 zs _ FR.out (by have := ZN.out; omega)).mono ?_
  rintro r w9 ⟨rfl, Sx, hS, h9⟩
  have hc := ((C56.out.trans C67.out).trans C78.out).trans' h9 (fun i hi => .inr (hS i hi).1)
  clear hS h9 FR C56 C67 C78 CA B06 PS ZN
  replace C := h_ (C.out.trans hc)
  replace B0 := h_ (hc.at_ B0.out (by simp))
  replace O1 := h_ (O1.out.chg hc (by simp))
  replace V1 := h_ (V1.out.chg hc)
  replace B8 := h_ (hc.at_ B8.out (by simp))
  replace OK := h_ (OK.out.chg hc (by simp))
  clear hc
  obtain ⟨R, hR⟩ : ∃ R, nextA (planA es n ks) ds = R := ⟨_, rfl⟩
  have RN := h_ hR
  obtain ⟨E, hE⟩ : ∃ E : EvP, R.getD ⟨0, 0, [], 0, 0, [], []⟩ = E := ⟨_, rfl⟩
  have EN := h_ hE
  obtain ⟨ok, hok⟩ : ∃ ok, R.isSome = ok := ⟨_, rfl⟩
  have ON := h_ hok
  clear hR hE hok
  go_upto_region 9 with fail
  have DX : Hid (∀ w', Chg [] w9 w' → (fun w' => w'.cell? ⟨g8, 0, none⟩ = some (.int .i64 n) ∧ w'.cell? ⟨g8, 1, none⟩ = some (.slice Kp ks.length kc)) w') := h_ (fun w' hc => by
   have b_g8 := hc.at_ B8.out (by simp)
   exact ⟨cell_of b_g8 0, cell_of b_g8 1⟩)
  refine' joinE4 (F := fun (X : EvT) (p : Nat) (DA : Option Addr) (dc2 : Nat) (w7 : World) => Hid (EvR w7 X E) ∧ Hid (w7.heap[p]? = some (.cells #[.int .i64 X.n, .int .i64 X.s, .string X.p, .int .i64 X.k, .int .i64 X.m, .slice X.A X.l X.c, .slice X.B X.bl X.bc] 40 (0, 0))) ∧ Hid (Chg [] w9 w7)) (R := _) (fun JOIN => ?leaf) ?rest
  case leaf =>
   refine wp_region_held_drew (S := fun w' => w'.cell? ⟨g8, 0, none⟩ = some (.int .i64 n) ∧ w'.cell? ⟨g8, 1, none⟩ = some (.slice Kp ks.length kc)) (by kernel_rfl) (DX.out _ (Chg.refl [] w9).drew) (fun hHeld => ?_)
   have CC : Hid (Chg [] w9 w9.drew) := h_ (Chg.refl [] w9).drew
   clear hHeld
   obtain ⟨wc, hwc⟩ : ∃ wc, w9.drew = wc := ⟨_, rfl⟩
   rw [hwc] at CC ⊢
   clear hwc
   refine sy 0 47 rfl rfl ?_ (hS := (DX.out _ CC.out))
   try simp only [Act.put, sA, s0, s1]
   refine sy 1 48 rfl rfl ?_ (hS := (DX.out _ CC.out)) (hy := by (intro w hSw; (try dsimp only at hSw); obtain ⟨q0, q1⟩ := hSw; go_simp; try with_reducible rfl))
   try simp only [Act.put, sA, s0, s1]
   refine sy 2 49 rfl rfl ?_ (hS := (DX.out _ CC.out))
   try simp only [Act.put, sA, s0, s1]
   refine wpAnyH_ready (rs := [3, 8]) (by kernel_rfl) (by simp) ?_
   refine AllReadyH.cons rfl (fun K hK => ?_) (AllReadyH.cons rfl (fun K hK => ?_) AllReadyH.nil)
   ·
    skip
    replace hK := h_ hK
    go_simp
    refine (copydot_any wc D ds.length dc ds (HD.out.chg (C.out.trans CC.out) (by simp)) (by have := DL.out; omega)).mono ?_
    rintro r wn ⟨DA, dc2, rfl, ho, _, hc⟩
    obtain ⟨wc, hwc⟩ : ∃ q, wn = q := ⟨_, rfl⟩
    rw [hwc] at ho hc ⊢
    have DO := h_ ho
    replace CC := h_ (CC.out.trans hc)
    clear ho hc hwc
    refine hK.out _ _ (DX.out _ CC.out) (fun hHeld => ?_)
    clear hK K; try simp only [Act.put, sA, s0, s1]
    refine wpAnyH_ready (rs := [4, 8]) (by kernel_rfl) (by simp) ?_
    refine AllReadyH.cons rfl (fun K hK => ?_) (AllReadyH.cons rfl (fun K hK => ?_) AllReadyH.nil)
    ·
     skip
     replace hK := h_ hK
     go_simp
     refine (ednext_any wc A1 c1 ys es n Kp kc ks (O1.out.chg CC.out (by simp)).reads O1.out.cap.1 (.inr (O1.out.chg CC.out (by simp)).lt_) (V1.out.chg CC.out) (by have := YN.out; omega) SM.out (OK.out.chg CC.out (by simp)).reads KN.out DA dc2 ds DO.out.reads (by have := DL.out; omega)).mono ?_
     rintro r wn ⟨X, e, rfl, rx, he, _, hc⟩
     rw [RN.out] at he ⊢
     rw [EN.out] at he
     rw [ON.out]
     subst he
     obtain ⟨wc, hwc⟩ : ∃ q, wn = q := ⟨_, rfl⟩
     rw [hwc] at rx hc ⊢
     have RX := h_ rx
     replace DO := h_ (DO.out.chg hc (by simp))
     replace CC := h_ (CC.out.trans hc)
     clear rx hc hwc; clear DO
     refine hK.out _ _ (DX.out _ CC.out) (fun hHeld => ?_)
     clear hK K; try simp only [Act.put, sA, s0, s1]
     refine sy 5 46 rfl rfl ?_ (hS := (DX.out _ CC.out))
     try simp only [Act.put, sA, s0, s1]
     refine sy 6 52 rfl rfl ?_ (hS := (DX.out _ CC.out))
     try simp only [Act.put, sA, s0, s1]
     refine sy 7 53 rfl rfl ?_ (hS := (DX.out _ CC.out))
     try simp only [Act.put, sA, s0, s1]
     refine on1 8 rfl (fun K hK => ?_)
     go_simp
     obtain ⟨p, hp⟩ : ∃ n, n = wc.heap.size := ⟨_, rfl⟩
     have GP : Hid (w9.heap.size ≤ p) := h_ (by have := CC.out.size; omega)
     obtain ⟨wp, hw, cn, bn⟩ := news1 wc (.cells #[.int .i64 0, .int .i64 0, .string ⟨#[]⟩, .int .i64 0, .int .i64 0, .slice none 0 0, .slice none 0 0] 40)
     rw [← hw, ← hp]
     rw [← hp] at bn
     obtain ⟨wc, hwc⟩ : ∃ q, wp = q := ⟨_, rfl⟩
     rw [hwc] at cn bn ⊢
     replace RX := h_ (RX.out.chg cn)
     have BP := h_ bn
     replace CC := h_ (CC.out.trans cn)
     clear hw hp cn bn hwc
     refine hK.out _ _ (DX.out _ CC.out) (fun hHeld => ?_)
     clear hK K; try simp only [Act.put, sA, s0, s1]
     refine on1 9 rfl (fun K hK => ?_)
     have v0 := cell_of BP.out 0
     have v1 := cell_of BP.out 1
     have v2 := cell_of BP.out 2
     have v3 := cell_of BP.out 3
     have v4 := cell_of BP.out 4
     have v5 := cell_of BP.out 5
     have v6 := cell_of BP.out 6
     have fv0 := free_of BP.out 0
     have fv1 := free_of BP.out 1
     have fv2 := free_of BP.out 2
     have fv3 := free_of BP.out 3
     have fv4 := free_of BP.out 4
     have fv5 := free_of BP.out 5
     have fv6 := free_of BP.out 6
     simp only [gA, gY, gZ] at v0 v1 v2 v3 v4 v5 v6
     go_simp; clear v0 v1 v2 v3 v4 v5 v6 fv0 fv1 fv2 fv3 fv4 fv5 fv6
     obtain ⟨bk, ck⟩ := set7W (.int .i64 X.n) (.int .i64 X.s) (.string X.p) (.int .i64 X.k) (.int .i64 X.m) (.slice X.A X.l X.c) (.slice X.B X.bl X.bc) BP.out
     replace RX := h_ (evr_box RX.out BP.out ck)
     replace CC := h_ (CC.out.trans' ck (fun i hi => .inr (by have := GP.out; simp at hi; omega)))
     replace BP := h_ bk
     clear bk ck
     obtain ⟨wc, hwc⟩ : ∃ w9 : World, (((((((wc.setCell ⟨p, 0, none⟩ (.int .i64 X.n)).setCell ⟨p, 1, none⟩ (.int .i64 X.s)).setCell ⟨p, 2, none⟩ (.string X.p)).setCell ⟨p, 3, none⟩ (.int .i64 X.k)).setCell ⟨p, 4, none⟩ (.int .i64 X.m)).setCell ⟨p, 5, none⟩ (.slice X.A X.l X.c)).setCell ⟨p, 6, none⟩ (.slice X.B X.bl X.bc)) = w9 := ⟨_, rfl⟩
     rw [hwc] at BP RX CC ⊢
     clear hwc
     refine hK.out _ _ (DX.out _ CC.out) (fun hHeld => ?_)
     clear hK K; try simp only [Act.put, sA, s0, s1]
     refine sy 10 11 rfl rfl ?_ (hS := (DX.out _ CC.out))
     try simp only [Act.put, sA, s0, s1]
     refine wpAnyH_done (by kernel_rfl) ?_ _; clear hHeld
     exact JOIN X p DA dc2 _ ⟨RX, BP, CC⟩
    ·
     skip
     replace hK := h_ hK
     go_simp
     obtain ⟨p, hp⟩ : ∃ n, n = wc.heap.size := ⟨_, rfl⟩
     have GP : Hid (w9.heap.size ≤ p) := h_ (by have := CC.out.size; omega)
     obtain ⟨wp, hw, cn, bn⟩ := news1 wc (.cells #[.int .i64 0, .int .i64 0, .string ⟨#[]⟩, .int .i64 0, .int .i64 0, .slice none 0 0, .slice none 0 0] 40)
     rw [← hw, ← hp]
     rw [← hp] at bn
     obtain ⟨wc, hwc⟩ : ∃ q, wp = q := ⟨_, rfl⟩
     rw [hwc] at cn bn ⊢
     replace DO := h_ (DO.out.chg cn (by simp))
     have BP := h_ bn
     replace CC := h_ (CC.out.trans cn)
     clear hw hp cn bn hwc
     refine hK.out _ _ (DX.out _ CC.out) (fun hHeld => ?_)
     clear hK K; try simp only [Act.put, sA, s0, s1]
     refine on1 4 rfl (fun K hK => ?_)
     go_simp
     refine (ednext_any wc A1 c1 ys es n Kp kc ks (O1.out.chg CC.out (by simp)).reads O1.out.cap.1 (.inr (O1.out.chg CC.out (by simp)).lt_) (V1.out.chg CC.out) (by have := YN.out; omega) SM.out (OK.out.chg CC.out (by simp)).reads KN.out DA dc2 ds DO.out.reads (by have := DL.out; omega)).mono ?_
     rintro r wn ⟨X, e, rfl, rx, he, _, hc⟩
     rw [RN.out] at he ⊢
     rw [EN.out] at he
     rw [ON.out]
     subst he
     obtain ⟨wc, hwc⟩ : ∃ q, wn = q := ⟨_, rfl⟩
     rw [hwc] at rx hc ⊢
     have RX := h_ rx
     replace BP := h_ (hc.at_ BP.out (by simp))
     replace DO := h_ (DO.out.chg hc (by simp))
     replace CC := h_ (CC.out.trans hc)
     clear rx hc hwc; clear DO
     refine hK.out _ _ (DX.out _ CC.out) (fun hHeld => ?_)
     clear hK K; try simp only [Act.put, sA, s0, s1]
     refine sy 5 46 rfl rfl ?_ (hS := (DX.out _ CC.out))
     try simp only [Act.put, sA, s0, s1]
     refine sy 6 52 rfl rfl ?_ (hS := (DX.out _ CC.out))
     try simp only [Act.put, sA, s0, s1]
     refine sy 7 53 rfl rfl ?_ (hS := (DX.out _ CC.out))
     try simp only [Act.put, sA, s0, s1]
     refine on1 9 rfl (fun K hK => ?_)
     have v0 := cell_of BP.out 0
     have v1 := cell_of BP.out 1
     have v2 := cell_of BP.out 2
     have v3 := cell_of BP.out 3
     have v4 := cell_of BP.out 4
     have v5 := cell_of BP.out 5
     have v6 := cell_of BP.out 6
     have fv0 := free_of BP.out 0
     have fv1 := free_of BP.out 1
     have fv2 := free_of BP.out 2
     have fv3 := free_of BP.out 3
     have fv4 := free_of BP.out 4
     have fv5 := free_of BP.out 5
     have fv6 := free_of BP.out 6
     simp only [gA, gY, gZ] at v0 v1 v2 v3 v4 v5 v6
     go_simp; clear v0 v1 v2 v3 v4 v5 v6 fv0 fv1 fv2 fv3 fv4 fv5 fv6
     obtain ⟨bk, ck⟩ := set7W (.int .i64 X.n) (.int .i64 X.s) (.string X.p) (.int .i64 X.k) (.int .i64 X.m) (.slice X.A X.l X.c) (.slice X.B X.bl X.bc) BP.out
     replace RX := h_ (evr_box RX.out BP.out ck)
     replace CC := h_ (CC.out.trans' ck (fun i hi => .inr (by have := GP.out; simp at hi; omega)))
     replace BP := h_ bk
     clear bk ck
     obtain ⟨wc, hwc⟩ : ∃ w9 : World, (((((((wc.setCell ⟨p, 0, none⟩ (.int .i64 X.n)).setCell ⟨p, 1, none⟩ (.int .i64 X.s)).setCell ⟨p, 2, none⟩ (.string X.p)).setCell ⟨p, 3, none⟩ (.int .i64 X.k)).setCell ⟨p, 4, none⟩ (.int .i64 X.m)).setCell ⟨p, 5, none⟩ (.slice X.A X.l X.c)).setCell ⟨p, 6, none⟩ (.slice X.B X.bl X.bc)) = w9 := ⟨_, rfl⟩
     rw [hwc] at BP RX CC ⊢
     clear hwc
     refine hK.out _ _ (DX.out _ CC.out) (fun hHeld => ?_)
     clear hK K; try simp only [Act.put, sA, s0, s1]
     refine sy 10 11 rfl rfl ?_ (hS := (DX.out _ CC.out))
     try simp only [Act.put, sA, s0, s1]
     refine wpAnyH_done (by kernel_rfl) ?_ _; clear hHeld
     exact JOIN X p DA dc2 _ ⟨RX, BP, CC⟩
   ·
    skip
    replace hK := h_ hK
    go_simp
    obtain ⟨p, hp⟩ : ∃ n, n = wc.heap.size := ⟨_, rfl⟩
    have GP : Hid (w9.heap.size ≤ p) := h_ (by have := CC.out.size; omega)
    obtain ⟨wp, hw, cn, bn⟩ := news1 wc (.cells #[.int .i64 0, .int .i64 0, .string ⟨#[]⟩, .int .i64 0, .int .i64 0, .slice none 0 0, .slice none 0 0] 40)
    rw [← hw, ← hp]
    rw [← hp] at bn
    obtain ⟨wc, hwc⟩ : ∃ q, wp = q := ⟨_, rfl⟩
    rw [hwc] at cn bn ⊢
    have BP := h_ bn
    replace CC := h_ (CC.out.trans cn)
    clear hw hp cn bn hwc
    refine hK.out _ _ (DX.out _ CC.out) (fun hHeld => ?_)
    clear hK K; try simp only [Act.put, sA, s0, s1]
    refine on1 3 rfl (fun K hK => ?_)
    go_simp
    refine (copydot_any wc D ds.length dc ds (HD.out.chg (C.out.trans CC.out) (by simp)) (by have := DL.out; omega)).mono ?_
    rintro r wn ⟨DA, dc2, rfl, ho, _, hc⟩
    obtain ⟨wc, hwc⟩ : ∃ q, wn = q := ⟨_, rfl⟩
    rw [hwc] at ho hc ⊢
    have DO := h_ ho
    replace BP := h_ (hc.at_ BP.out (by simp))
    replace CC := h_ (CC.out.trans hc)
    clear ho hc hwc
    refine hK.out _ _ (DX.out _ CC.out) (fun hHeld => ?_)
    clear hK K; try simp only [Act.put, sA, s0, s1]
    refine on1 4 rfl (fun K hK => ?_)
    go_simp
    refine (ednext_any wc A1 c1 ys es n Kp kc ks (O1.out.chg CC.out (by simp)).reads O1.out.cap.1 (.inr (O1.out.chg CC.out (by simp)).lt_) (V1.out.chg CC.out) (by have := YN.out; omega) SM.out (OK.out.chg CC.out (by simp)).reads KN.out DA dc2 ds DO.out.reads (by have := DL.out; omega)).mono ?_
    rintro r wn ⟨X, e, rfl, rx, he, _, hc⟩
    rw [RN.out] at he ⊢
    rw [EN.out] at he
    rw [ON.out]
    subst he
    obtain ⟨wc, hwc⟩ : ∃ q, wn = q := ⟨_, rfl⟩
    rw [hwc] at rx hc ⊢
    have RX := h_ rx
    replace BP := h_ (hc.at_ BP.out (by simp))
    replace DO := h_ (DO.out.chg hc (by simp))
    replace CC := h_ (CC.out.trans hc)
    clear rx hc hwc; clear DO
    refine hK.out _ _ (DX.out _ CC.out) (fun hHeld => ?_)
    clear hK K; try simp only [Act.put, sA, s0, s1]
    refine sy 5 46 rfl rfl ?_ (hS := (DX.out _ CC.out))
    try simp only [Act.put, sA, s0, s1]
    refine sy 6 52 rfl rfl ?_ (hS := (DX.out _ CC.out))
    try simp only [Act.put, sA, s0, s1]
    refine sy 7 53 rfl rfl ?_ (hS := (DX.out _ CC.out))
    try simp only [Act.put, sA, s0, s1]
    refine on1 9 rfl (fun K hK => ?_)
    have v0 := cell_of BP.out 0
    have v1 := cell_of BP.out 1
    have v2 := cell_of BP.out 2
    have v3 := cell_of BP.out 3
    have v4 := cell_of BP.out 4
    have v5 := cell_of BP.out 5
    have v6 := cell_of BP.out 6
    have fv0 := free_of BP.out 0
    have fv1 := free_of BP.out 1
    have fv2 := free_of BP.out 2
    have fv3 := free_of BP.out 3
    have fv4 := free_of BP.out 4
    have fv5 := free_of BP.out 5
    have fv6 := free_of BP.out 6
    simp only [gA, gY, gZ] at v0 v1 v2 v3 v4 v5 v6
    go_simp; clear v0 v1 v2 v3 v4 v5 v6 fv0 fv1 fv2 fv3 fv4 fv5 fv6
    obtain ⟨bk, ck⟩ := set7W (.int .i64 X.n) (.int .i64 X.s) (.string X.p) (.int .i64 X.k) (.int .i64 X.m) (.slice X.A X.l X.c) (.slice X.B X.bl X.bc) BP.out
    replace RX := h_ (evr_box RX.out BP.out ck)
    replace CC := h_ (CC.out.trans' ck (fun i hi => .inr (by have := GP.out; simp at hi; omega)))
    replace BP := h_ bk
    clear bk ck
    obtain ⟨wc, hwc⟩ : ∃ w9 : World, (((((((wc.setCell ⟨p, 0, none⟩ (.int .i64 X.n)).setCell ⟨p, 1, none⟩ (.int .i64 X.s)).setCell ⟨p, 2, none⟩ (.string X.p)).setCell ⟨p, 3, none⟩ (.int .i64 X.k)).setCell ⟨p, 4, none⟩ (.int .i64 X.m)).setCell ⟨p, 5, none⟩ (.slice X.A X.l X.c)).setCell ⟨p, 6, none⟩ (.slice X.B X.bl X.bc)) = w9 := ⟨_, rfl⟩
    rw [hwc] at BP RX CC ⊢
    clear hwc
    refine hK.out _ _ (DX.out _ CC.out) (fun hHeld => ?_)
    clear hK K; try simp only [Act.put, sA, s0, s1]
    refine sy 10 11 rfl rfl ?_ (hS := (DX.out _ CC.out))
    try simp only [Act.put, sA, s0, s1]
    refine wpAnyH_done (by kernel_rfl) ?_ _; clear hHeld
    exact JOIN X p DA dc2 _ ⟨RX, BP, CC⟩
  case rest =>
   rintro X ga DA dc2 wa ⟨RX, BX, hc⟩
   replace hc := hc.out
   replace C := h_ (C.out.trans hc)
   replace B0 := h_ (hc.at_ B0.out (by simp))
   replace O1 := h_ (O1.out.chg hc (by simp))
   replace V1 := h_ (V1.out.chg hc)
   replace B8 := h_ (hc.at_ B8.out (by simp))
   replace OK := h_ (OK.out.chg hc (by simp))
   clear hc DX
   obtain ⟨z0, z1⟩ := ce2 B0.out
   go_wp2_with fail; clear z0 z1
   refine (fdnext_any wa A c xs es n B bc ks (HA.out.chg C.out (by simp)) CM.out (HA.out.old.imp id (fun q a ha => Nat.lt_of_lt_of_le (q a ha) C.out.size)) (HR.out.chg C.out) (by have := LN.out; omega) SM.out (HK.out.chg C.out (by simp)) KN.out D dc ds (HD.out.chg C.out (by simp)) (by have := DL.out; omega)).mono ?_
   rintro r wb ⟨Y, rfl, ry, hc⟩
   rw [RN.out] at ry ⊢
   rw [EN.out] at ry
   rw [ON.out]
   have RY := h_ ry
   replace C := h_ (C.out.trans hc)
   replace B0 := h_ (hc.at_ B0.out (by simp))
   replace O1 := h_ (O1.out.chg hc (by simp))
   replace V1 := h_ (V1.out.chg hc)
   replace B8 := h_ (hc.at_ B8.out (by simp))
   replace OK := h_ (OK.out.chg hc (by simp))
   replace RX := h_ (RX.out.chg hc)
   replace BX := h_ (hc.at_ BX.out (by simp))
   clear hc ry
   go_upto_region 11 with fail
   obtain ⟨we, hw, hc, bn⟩ := news1 wb (.cells #[.int .i64 Y.n, .int .i64 Y.s, .string Y.p, .int .i64 Y.k, .int .i64 Y.m, .slice Y.A Y.l Y.c, .slice Y.B Y.bl Y.bc] 40)
   rw [← hw]
   have BY := h_ bn
   clear hw bn
   generalize wb.heap.size = gb at BY ⊢
   replace C := h_ (C.out.trans hc)
   replace B0 := h_ (hc.at_ B0.out (by simp))
   replace O1 := h_ (O1.out.chg hc (by simp))
   replace V1 := h_ (V1.out.chg hc)
   replace B8 := h_ (hc.at_ B8.out (by simp))
   replace OK := h_ (OK.out.chg hc (by simp))
   replace RX := h_ (RX.out.chg hc)
   replace BX := h_ (hc.at_ BX.out (by simp))
   replace RY := h_ (RY.out.chg hc)
   clear hc
   obtain ⟨av, hav⟩ : ∃ v, agreedA es n ks = v := ⟨_, rfl⟩
   have AV := h_ hav
   clear hav
   have SL : Hid (sameL es es = true) := h_ (sameL_at rfl (fun i a b ha hb => by rw [ha] at hb; cases hb; exact sameP_refl a))
   have SP : Hid (sameP E E = true) := h_ (sameP_refl E)
   have EQ : Hid (E.q.length ≤ 140737488351232) := h_ (by
    rw [← EN.out, ← RN.out]
    rcases hq : nextA (planA es n ks) ds with _ | e
    ·
     simp
    ·
     have q := List.mem_of_find?_eq_some (show (planA es n ks).find? _ = some e from hq)
     unfold planA at q
     split at q
     ·
      exact (SM.out e ((List.mem_filter.1 ((byDt_perm _).mem_iff.1 q)).1)).1.2.2
     ·
      simp at q)
   have DX : Hid (∀ w', Chg [] we w' → (fun w' => w'.cell? ⟨ga, 0, none⟩ = some (.int .i64 X.n) ∧ w'.cell? ⟨ga, 1, none⟩ = some (.int .i64 X.s) ∧ w'.cell? ⟨ga, 2, none⟩ = some (.string X.p) ∧ w'.cell? ⟨ga, 3, none⟩ = some (.int .i64 X.k) ∧ w'.cell? ⟨ga, 4, none⟩ = some (.int .i64 X.m) ∧ w'.cell? ⟨ga, 5, none⟩ = some (.slice X.A X.l X.c) ∧ w'.cell? ⟨ga, 6, none⟩ = some (.slice X.B X.bl X.bc) ∧ w'.cell? ⟨gb, 0, none⟩ = some (.int .i64 Y.n) ∧ w'.cell? ⟨gb, 1, none⟩ = some (.int .i64 Y.s) ∧ w'.cell? ⟨gb, 2, none⟩ = some (.string Y.p) ∧ w'.cell? ⟨gb, 3, none⟩ = some (.int .i64 Y.k) ∧ w'.cell? ⟨gb, 4, none⟩ = some (.int .i64 Y.m) ∧ w'.cell? ⟨gb, 5, none⟩ = some (.slice Y.A Y.l Y.c) ∧ w'.cell? ⟨gb, 6, none⟩ = some (.slice Y.B Y.bl Y.bc) ∧ w'.cell? ⟨g4, 0, none⟩ = some (.int .i64 n) ∧ w'.cell? ⟨g4, 1, none⟩ = some (.slice B ks.length bc) ∧ w'.cell? ⟨g8, 0, none⟩ = some (.int .i64 n) ∧ w'.cell? ⟨g8, 1, none⟩ = some (.slice Kp ks.length kc)) w') := h_ (fun w' hc => by
    have b_ga := hc.at_ BX.out (by simp)
    have b_gb := hc.at_ BY.out (by simp)
    have b_g4 := hc.at_ B0.out (by simp)
    have b_g8 := hc.at_ B8.out (by simp)
    exact ⟨cell_of b_ga 0, cell_of b_ga 1, cell_of b_ga 2, cell_of b_ga 3, cell_of b_ga 4, cell_of b_ga 5, cell_of b_ga 6, cell_of b_gb 0, cell_of b_gb 1, cell_of b_gb 2, cell_of b_gb 3, cell_of b_gb 4, cell_of b_gb 5, cell_of b_gb 6, cell_of b_g4 0, cell_of b_g4 1, cell_of b_g8 0, cell_of b_g8 1⟩)
   refine wp_region_held_drew (S := fun w' => w'.cell? ⟨ga, 0, none⟩ = some (.int .i64 X.n) ∧ w'.cell? ⟨ga, 1, none⟩ = some (.int .i64 X.s) ∧ w'.cell? ⟨ga, 2, none⟩ = some (.string X.p) ∧ w'.cell? ⟨ga, 3, none⟩ = some (.int .i64 X.k) ∧ w'.cell? ⟨ga, 4, none⟩ = some (.int .i64 X.m) ∧ w'.cell? ⟨ga, 5, none⟩ = some (.slice X.A X.l X.c) ∧ w'.cell? ⟨ga, 6, none⟩ = some (.slice X.B X.bl X.bc) ∧ w'.cell? ⟨gb, 0, none⟩ = some (.int .i64 Y.n) ∧ w'.cell? ⟨gb, 1, none⟩ = some (.int .i64 Y.s) ∧ w'.cell? ⟨gb, 2, none⟩ = some (.string Y.p) ∧ w'.cell? ⟨gb, 3, none⟩ = some (.int .i64 Y.k) ∧ w'.cell? ⟨gb, 4, none⟩ = some (.int .i64 Y.m) ∧ w'.cell? ⟨gb, 5, none⟩ = some (.slice Y.A Y.l Y.c) ∧ w'.cell? ⟨gb, 6, none⟩ = some (.slice Y.B Y.bl Y.bc) ∧ w'.cell? ⟨g4, 0, none⟩ = some (.int .i64 n) ∧ w'.cell? ⟨g4, 1, none⟩ = some (.slice B ks.length bc) ∧ w'.cell? ⟨g8, 0, none⟩ = some (.int .i64 n) ∧ w'.cell? ⟨g8, 1, none⟩ = some (.slice Kp ks.length kc)) (by kernel_rfl) (DX.out _ (Chg.refl [] we).drew) (fun hHeld => ?_)
   have CC : Hid (Chg [] we we.drew) := h_ (Chg.refl [] we).drew
   clear hHeld
   obtain ⟨wc, hwc⟩ : ∃ wc, we.drew = wc := ⟨_, rfl⟩
   rw [hwc] at CC ⊢
   clear hwc
   refine sy 0 61 rfl rfl ?_ (hS := (DX.out _ CC.out)) (hy := by (intro w hSw; (try dsimp only at hSw); obtain ⟨q0, q1, q2, q3, q4, q5, q6, q7, q8, q9, q10, q11, q12, q13, q14, q15, q16, q17⟩ := hSw; go_simp; try with_reducible rfl))
   try simp only [Act.put, sA, s0, s1]
   refine sy 1 62 rfl rfl ?_ (hS := (DX.out _ CC.out)) (hy := by (intro w hSw; (try dsimp only at hSw); obtain ⟨q0, q1, q2, q3, q4, q5, q6, q7, q8, q9, q10, q11, q12, q13, q14, q15, q16, q17⟩ := hSw; go_simp; try with_reducible rfl))
   try simp only [Act.put, sA, s0, s1]
   refine on1 2 rfl (fun K hK => ?_)
   go_simp
   refine (sameev_any wc X Y E E (RX.out.chg CC.out) (RY.out.chg CC.out) ⟨EQ.out, EQ.out⟩).mono ?_
   rintro r wn ⟨rfl, hc⟩
   rw [SP.out]
   obtain ⟨wc, hwc⟩ : ∃ q, wn = q := ⟨_, rfl⟩
   rw [hwc] at hc ⊢
   clear hwc
   replace CC := h_ (CC.out.trans hc)
   clear hc
   refine hK.out _ _ (DX.out _ CC.out) (fun hHeld => ?_)
   clear hK K; try simp only [Act.put, sA, s0, s1]
   refine sy 3 64 rfl rfl ?_ (hS := (DX.out _ CC.out))
   try simp only [Act.put, sA, s0, s1]
   refine sy 4 65 rfl rfl ?_ (hS := (DX.out _ CC.out))
   try simp only [Act.put, sA, s0, s1]
   refine sy 5 66 rfl rfl ?_ (hS := (DX.out _ CC.out))
   try simp only [Act.put, sA, s0, s1]
   refine sy 6 67 rfl rfl ?_ (hS := (DX.out _ CC.out))
   try simp only [Act.put, sA, s0, s1]
   refine sy 7 68 rfl rfl ?_ (hS := (DX.out _ CC.out))
   try simp only [Act.put, sA, s0, s1]
   refine sy 8 69 rfl rfl ?_ (hS := (DX.out _ CC.out))
   try simp only [Act.put, sA, s0, s1]
   refine sy 9 70 rfl rfl ?_ (hS := (DX.out _ CC.out))
   try simp only [Act.put, sA, s0, s1]
   refine sy 10 71 rfl rfl ?_ (hS := (DX.out _ CC.out)) (hy := by (intro w hSw; (try dsimp only at hSw); obtain ⟨q0, q1, q2, q3, q4, q5, q6, q7, q8, q9, q10, q11, q12, q13, q14, q15, q16, q17⟩ := hSw; go_simp; try with_reducible rfl))
   try simp only [Act.put, sA, s0, s1]
   refine sy 12 73 rfl rfl ?_ (hS := (DX.out _ CC.out))
   try simp only [Act.put, sA, s0, s1]
   refine sy 13 74 rfl rfl ?_ (hS := (DX.out _ CC.out)) (hy := by (intro w hSw; (try dsimp only at hSw); obtain ⟨q0, q1, q2, q3, q4, q5, q6, q7, q8, q9, q10, q11, q12, q13, q14, q15, q16, q17⟩ := hSw; go_simp; try with_reducible rfl))
   try simp only [Act.put, sA, s0, s1]
   refine on1 11 rfl (fun K hK => ?_)
   go_simp
   refine (edagreed_any wc A1 c1 ys es n Kp kc ks (O1.out.chg CC.out (by simp)).reads O1.out.cap.1 (.inr (O1.out.chg CC.out (by simp)).lt_) (V1.out.chg CC.out) (by have := YN.out; omega) SM.out (OK.out.chg CC.out (by simp)).reads KN.out).mono ?_
   rintro r wn ⟨rfl, hc⟩
   rw [AV.out]
   obtain ⟨wc, hwc⟩ : ∃ q, wn = q := ⟨_, rfl⟩
   rw [hwc] at hc ⊢
   clear hwc
   replace CC := h_ (CC.out.trans hc)
   clear hc
   refine hK.out _ _ (DX.out _ CC.out) (fun hHeld => ?_)
   clear hK K; try simp only [Act.put, sA, s0, s1]
   refine on1 14 rfl (fun K hK => ?_)
   go_simp
   refine (fdagreed_any wc A c xs es n B bc ks (HA.out.chg (C.out.trans CC.out) (by simp)) CM.out (HA.out.old.imp id (fun q a ha => Nat.lt_of_lt_of_le (q a ha) (C.out.trans CC.out).size)) (HR.out.chg (C.out.trans CC.out)) (by have := LN.out; omega) SM.out (HK.out.chg (C.out.trans CC.out) (by simp)) KN.out).mono ?_
   rintro r wn ⟨rfl, hc⟩
   rw [AV.out]
   obtain ⟨wc, hwc⟩ : ∃ q, wn = q := ⟨_, rfl⟩
   rw [hwc] at hc ⊢
   clear hwc
   replace CC := h_ (CC.out.trans hc)
   clear hc
   refine hK.out _ _ (DX.out _ CC.out) (fun hHeld => ?_)
   clear hK K; try simp only [Act.put, sA, s0, s1]
   refine sy 15 76 rfl rfl ?_ (hS := (DX.out _ CC.out))
   try simp only [Act.put, sA, s0, s1]
   refine sy 16 77 rfl rfl ?_ (hS := (DX.out _ CC.out))
   try simp only [Act.put, sA, s0, s1]
   refine sy 17 78 rfl rfl ?_ (hS := (DX.out _ CC.out))
   try simp only [Act.put, sA, s0, s1]
   refine sy 18 79 rfl rfl ?_ (hS := (DX.out _ CC.out))
   try simp only [Act.put, sA, s0, s1]
   refine sy 19 80 rfl rfl ?_ (hS := (DX.out _ CC.out))
   try simp only [Act.put, sA, s0, s1]
   refine on1 20 rfl (fun K hK => ?_)
   go_simp
   refine (sameevs_any wc A1 A c1 c ys xs es es (O1.out.chg CC.out (by simp)).reads (HA.out.chg (C.out.trans CC.out) (by simp)) (V1.out.chg CC.out) (HR.out.chg (C.out.trans CC.out)) (by have := YN.out; have := LN.out; omega) ⟨fun e he => (SM.out e he).1.2.2, fun e he => (SM.out e he).1.2.2⟩).mono ?_
   rintro r wn ⟨rfl, hc⟩
   rw [SL.out]
   obtain ⟨wc, hwc⟩ : ∃ q, wn = q := ⟨_, rfl⟩
   rw [hwc] at hc ⊢
   clear hwc
   replace CC := h_ (CC.out.trans hc)
   clear hc
   refine hK.out _ _ (DX.out _ CC.out) (fun hHeld => ?_)
   clear hK K; try simp only [Act.put, sA, s0, s1]
   refine sy 21 82 rfl rfl ?_ (hS := (DX.out _ CC.out))
   try simp only [Act.put, sA, s0, s1]
   refine sy 22 83 rfl rfl ?_ (hS := (DX.out _ CC.out))
   try simp only [Act.put, sA, s0, s1]
   refine sy 23 84 rfl rfl ?_ (hS := (DX.out _ CC.out)) (hy := by (intro w hSw; (try dsimp only at hSw); obtain ⟨q0, q1, q2, q3, q4, q5, q6, q7, q8, q9, q10, q11, q12, q13, q14, q15, q16, q17⟩ := hSw; go_simp; try with_reducible rfl))
   try simp only [Act.put, sA, s0, s1]
   refine sy 24 85 rfl rfl ?_ (hS := (DX.out _ CC.out)) (hy := by (intro w hSw; (try dsimp only at hSw); obtain ⟨q0, q1, q2, q3, q4, q5, q6, q7, q8, q9, q10, q11, q12, q13, q14, q15, q16, q17⟩ := hSw; go_simp; try with_reducible rfl))
   try simp only [Act.put, sA, s0, s1]
   refine on1 25 rfl (fun K hK => ?_)
   go_simp
   refine (l20arcs_any wc n Kp B kc bc ks (OK.out.chg CC.out (by simp)).reads (HK.out.chg (C.out.trans CC.out) (by simp)) KN.out).mono ?_
   rintro r wn ⟨rfl, hc⟩
   obtain ⟨wc, hwc⟩ : ∃ q, wn = q := ⟨_, rfl⟩
   rw [hwc] at hc ⊢
   clear hwc
   replace CC := h_ (CC.out.trans hc)
   clear hc
   refine hK.out _ _ (DX.out _ CC.out) (fun hHeld => ?_)
   clear hK K; try simp only [Act.put, sA, s0, s1]
   refine sy 26 87 rfl rfl ?_ (hS := (DX.out _ CC.out))
   try simp only [Act.put, sA, s0, s1]
   refine sy 27 88 rfl rfl ?_ (hS := (DX.out _ CC.out))
   try simp only [Act.put, sA, s0, s1]
   refine on1 28 rfl (fun K hK => ?_)
   go_simp
   refine (l20awake_c wc).mono ?_
   rintro r wn ⟨rfl, hc⟩
   obtain ⟨wc, hwc⟩ : ∃ q, wn = q := ⟨_, rfl⟩
   rw [hwc] at hc ⊢
   clear hwc
   replace CC := h_ (CC.out.trans hc)
   clear hc
   refine hK.out _ _ (DX.out _ CC.out) (fun hHeld => ?_)
   clear hK K; try simp only [Act.put, sA, s0, s1]
   refine sy 29 90 rfl rfl ?_ (hS := (DX.out _ CC.out))
   try simp only [Act.put, sA, s0, s1]
   refine sy 30 6 rfl rfl ?_ (hS := (DX.out _ CC.out))
   try simp only [Act.put, sA, s0, s1]
   refine wpAnyH_done (by kernel_rfl) ?_ _; clear hHeld; go_wp2; go_ret
   exact ⟨rfl, C.out.trans CC.out⟩
end
section
open Go.RowKit Go.WideShapes Go.ChangeShapes Go.Deep

section
variable {H : Type} {enc : TypeId × Value → H} {w : World} {base : Nat} {spare : Nat → Bool} {held : Bool}
set_option maxRecDepth 100000 in
theorem open_events {n : Nat} {cs : List Value} {y : DataW H × List MemPlace} (h : DataW.trod enc Tryz.prog w base spare held n 22 cs = some y) (hz : ∀ k ∈ y.1.weights Tryz.prog 22, k ≤ reachBytes) :
  ∃ A m d zs es, cs = [.slice A m d] ∧ RdK evTy w A m zs ∧ EvsR w zs es ∧ m * 96 ≤ 140737488351232 ∧ m ≤ d ∧ ∀ (i : Nat) (x : EvT) (e : EvP), zs[i]? = some x → es[i]? = some e → EvZ x e := by
 rcases open_slice Tryz.underlying22 h with ⟨rfl, _⟩ | ⟨a, len, cap, m, k, D, Pl, rfl, _, hl, hm, hmm, rfl, hi⟩
 ·
  exact ⟨none, 0, 0, [], [], rfl, RdK.nil _ _, EvsR.nil _, by decide, by decide, by simp⟩
 ·
  have hlm : len ≤ m := by rw [hmm]; split <;> omega
  obtain ⟨hw, hwd⟩ := weights_slice Tryz.underlying22 hz
  rw [show Tryz.prog.bytesOf 40 = 96 by kernel_rfl] at hw
  simp [reachBytes] at hw
  have hC : Tryz.prog.cellsOf 40 = 7 := by kernel_rfl
  obtain ⟨l, hll, hat⟩ := list_of (Q := fun i (x : EvT × EvP) => (w.cell? (a.add (i * 7)) = some (.int .i64 x.1.n) ∧ w.cell? (a.add (i * 7 + 1)) = some (.int .i64 x.1.s) ∧ w.cell? (a.add (i * 7 + 2)) = some (.string x.1.p) ∧ w.cell? (a.add (i * 7 + 3)) = some (.int .i64 x.1.k) ∧ w.cell? (a.add (i * 7 + 4)) = some (.int .i64 x.1.m) ∧ w.cell? (a.add (i * 7 + 5)) = some (.slice x.1.A x.1.l x.1.c) ∧ w.cell? (a.add (i * 7 + 6)) = some (.slice x.1.B x.1.bl x.1.bc)) ∧ EvR w x.1 x.2 ∧ EvZ x.1 x.2) len (fun i hilt => by
   obtain ⟨cs', hc, ht⟩ := hi i (by omega)
   rw [hC] at hc
   obtain ⟨_, hcl, hat⟩ := World.cells?_some hc
   obtain ⟨x, e, rfl, hr, hz2⟩ := open_event ht (fun k hk => hwd (D i) (List.mem_map.2 ⟨i, List.mem_range.2 hilt, rfl⟩) k hk)
   have g0 := hat 0 (by simp)
   have g1 := hat 1 (by simp)
   have g2 := hat 2 (by simp)
   have g3 := hat 3 (by simp)
   have g4 := hat 4 (by simp)
   have g5 := hat 5 (by simp)
   have g6 := hat 6 (by simp)
   rw [add_add] at g0 g1 g2 g3 g4 g5 g6
   exact ⟨(x, e), ⟨g0, g1, g2, g3, g4, g5, g6⟩, hr, hz2⟩)
  refine ⟨some a, len, cap, l.map (·.1), l.map (·.2), rfl, ⟨by rw [List.length_map]; exact hll, fun j v hj => ⟨a, rfl, ?_⟩⟩, ⟨by simp, fun i x e hx he => ?_⟩, by omega, hl, fun i x e hx he => ?_⟩
  rotate_left
  ·
   rw [List.getElem?_map, Option.map_eq_some_iff] at hx he
   obtain ⟨p, hp, rfl⟩ := hx
   obtain ⟨q, hq, rfl⟩ := he
   rw [hp] at hq
   cases hq
   exact (hat i _ hp).2.1
  ·
   rw [List.getElem?_map, Option.map_eq_some_iff] at hx he
   obtain ⟨p, hp, rfl⟩ := hx
   obtain ⟨q, hq, rfl⟩ := he
   rw [hp] at hq
   cases hq
   exact (hat i _ hp).2.2
  have hj2 := (List.getElem?_eq_some_iff.1 hj).1
  rw [evTy.flat_len, List.length_map] at hj2
  have hk : evTy.k = 7 := rfl
  rw [hk] at hj2
  have hq : j / 7 < l.length := by omega
  have e := evTy.flat_at (l.map (·.1)) (j / 7) (j % 7) _ (by rw [List.getElem?_map, List.getElem?_eq_getElem hq]; rfl) (Nat.mod_lt _ (by decide))
  rw [hk, Nat.div_add_mod', hj] at e
  obtain ⟨g0, g1, g2, g3, g4, g5, g6⟩ := (hat (j / 7) _ (List.getElem?_eq_getElem hq)).1
  rcases (show j % 7 = 0 ∨ j % 7 = 1 ∨ j % 7 = 2 ∨ j % 7 = 3 ∨ j % 7 = 4 ∨ j % 7 = 5 ∨ j % 7 = 6 by omega) with h0 | h0 | h0 | h0 | h0 | h0 | h0
  ·
   rw [h0] at e
   rw [show j / 7 * 7 = j by omega] at g0
   rw [g0]
   exact e.symm
  ·
   rw [h0] at e
   rw [show j / 7 * 7 + 1 = j by omega] at g1
   rw [g1]
   exact e.symm
  ·
   rw [h0] at e
   rw [show j / 7 * 7 + 2 = j by omega] at g2
   rw [g2]
   exact e.symm
  ·
   rw [h0] at e
   rw [show j / 7 * 7 + 3 = j by omega] at g3
   rw [g3]
   exact e.symm
  ·
   rw [h0] at e
   rw [show j / 7 * 7 + 4 = j by omega] at g4
   rw [g4]
   exact e.symm
  ·
   rw [h0] at e
   rw [show j / 7 * 7 + 5 = j by omega] at g5
   rw [g5]
   exact e.symm
  ·
   rw [h0] at e
   rw [show j / 7 * 7 + 6 = j by omega] at g6
   rw [g6]
   exact e.symm
end
end
section
open Go.RowKit Go.WideShapes Go.ChangeShapes Go.Deep
variable {H : Type} {enc : TypeId × Value → H} {P : Program} {w : World} {base : Nat} {spare : Nat → Bool} {held : Bool}
set_option maxRecDepth 100000 in
theorem open_archive {n : Nat} {cs : List Value} {y : DataW H × List MemPlace} (h : DataW.trod enc Tryz.prog w base spare held n 25 cs = some y) (hz : ∀ k ∈ y.1.weights Tryz.prog 25, k ≤ reachBytes) :
  ∃ (m : Int) (B : Option Addr) (q d : Nat) (zs : List (Int × Int × Int)), cs = [.int .i64 m, .slice B q d] ∧ RdK spanTy w B q zs ∧ q * 24 ≤ 140737488351232 ∧ q ≤ d := by
 obtain ⟨xs, k, rfl, rfl, hl, hx, hf⟩ := DataW.trod_struct Tryz.underlying25 h
 rw [show Tryz.prog.cellsOf 25 = 2 by kernel_rfl] at hl
 have g0 := hf 0 _ rfl
 have g1 := hf 1 _ rfl
 change DataW.trod _ _ _ _ _ _ _ 3 ((cs.drop 0).take (Tryz.prog.cellsOf 3)) = _ at g0
 change DataW.trod _ _ _ _ _ _ _ 23 ((cs.drop 1).take (Tryz.prog.cellsOf 23)) = _ at g1
 rw [show Tryz.prog.cellsOf 3 = 1 by kernel_rfl] at g0
 rw [show Tryz.prog.cellsOf 23 = 1 by kernel_rfl] at g1
 match cs, hl with
 | [v0, v1], _ =>
  match xs, hx with
  | [x0, x1], _ =>
   have w1 := weights_struct Tryz.underlying25 hz (j := 1) (d := x1.1) rfl rfl
   obtain ⟨z0, e0, _, _⟩ := DataW.trod_int Tryz.underlying3 g0
   obtain ⟨B, q, d, zs, e1, r1⟩ := open_spans g1 w1
   simp only [List.drop_succ_cons, List.drop_zero, List.take_succ_cons, List.take_zero, List.cons.injEq, and_true] at e0 e1
   subst e0 e1
   exact ⟨z0, B, q, d, zs, rfl, r1⟩
end
section
open Go.RowKit Go.WideShapes Go.ChangeShapes Go.Deep
section
variable {H : Type} {enc : TypeId × Value → H} {w : World} {base : Nat} {spare : Nat → Bool} {held : Bool}
theorem open_dots {n : Nat} {cs : List Value} {y : DataW H × List MemPlace} (h : DataW.trod enc Tryz.prog w base spare held n 26 cs = some y) (hz : ∀ k ∈ y.1.weights Tryz.prog 26, k ≤ reachBytes) :
  ∃ A m d zs, cs = [.slice A m d] ∧ RdK dotTy w A m zs ∧ m * 16 ≤ 140737488351232 ∧ m ≤ d := by
 rcases open_slice Tryz.underlying26 h with ⟨rfl, _⟩ | ⟨a, len, cap, m, k, D, Pl, rfl, _, hl, hm, hmm, rfl, hi⟩
 ·
  exact ⟨none, 0, 0, [], rfl, RdK.nil _ _, by decide, by decide⟩
 ·
  have hlm : len ≤ m := by rw [hmm]; split <;> omega
  obtain ⟨hw, _⟩ := weights_slice Tryz.underlying26 hz
  rw [show Tryz.prog.bytesOf 35 = 16 by kernel_rfl] at hw
  simp [reachBytes] at hw
  have hC : Tryz.prog.cellsOf 35 = 2 := by kernel_rfl
  obtain ⟨l, hll, hat⟩ := list_of (Q := fun i (x : Int × Int) => w.cell? (a.add (i * 2)) = some (.int .i64 x.1) ∧ w.cell? (a.add (i * 2 + 1)) = some (.int .i64 x.2)) len (fun i hilt => by
   obtain ⟨cs', hc, ht⟩ := hi i (by omega)
   rw [hC] at hc
   obtain ⟨_, hcl, hat⟩ := World.cells?_some hc
   obtain ⟨p, q, rfl, _⟩ := open_dot ht
   have g0 := hat 0 (by omega)
   have g1 := hat 1 (by omega)
   rw [add_add] at g0 g1
   exact ⟨(p, q), g0, g1⟩)
  refine ⟨some a, len, cap, l, rfl, ⟨hll, fun j v hj => ⟨a, rfl, ?_⟩⟩, by omega, hl⟩
  have hj2 := (List.getElem?_eq_some_iff.1 hj).1
  rw [dotTy.flat_len] at hj2
  have hk : dotTy.k = 2 := rfl
  rw [hk] at hj2
  have hq : j / 2 < l.length := by omega
  have e := dotTy.flat_at l (j / 2) (j % 2) _ (List.getElem?_eq_getElem hq) (Nat.mod_lt _ (by decide))
  rw [hk, Nat.div_add_mod', hj] at e
  obtain ⟨g0, g1⟩ := hat (j / 2) _ (List.getElem?_eq_getElem hq)
  rcases (show j % 2 = 0 ∨ j % 2 = 1 by omega) with h0 | h0
  ·
   rw [h0] at e
   rw [show j / 2 * 2 = j by omega] at g0
   rw [g0]
   exact e.symm
  ·
   rw [h0] at e
   rw [show j / 2 * 2 + 1 = j by omega] at g1
   rw [g1]
   exact e.symm
end
end
section
def TabN (_ : World) : Prop := True
theorem TabN.laid {W : World} (_h : laidMetH Tryz.prog tables W) : TabN W := trivial
end
end Go.Proofs.YtehmchdhlhchjaaGreatDoor
