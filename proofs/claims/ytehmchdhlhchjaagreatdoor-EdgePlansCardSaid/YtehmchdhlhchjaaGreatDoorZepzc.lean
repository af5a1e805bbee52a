/- the document's Plan. As XRangeo, over a method as a value (bound arguments), whose round begins with a box of its own for what was handed over. A range over a function whose body also makes memory of its own (a row that grows): the iterator promises to leave alone all that there is but its own blocks. No program here. -/
import Derived.Test.YtehmchdhlhchjaaGreatDoorZepy
import Derived.Test.YtehmchdhlhchjaaGreatDoorZepj
import Derived.Test.YtehmchdhlhchjaaGreatDoorZepzb
import Derived.Test.YtehmchdhlhchjaaGreatDoorZepb
import Derived.Deep.Cut
import Derived.Deep.RegionHeld3
import Derived.Test.YtehmchdhlhchjaaGreatDoorZepc
set_option linter.unusedSimpArgs false
set_option linter.unusedVariables false
namespace Go.Proofs.YtehmchdhlhchjaaGreatDoor
section
open Go.RowKit Go.Lib


theorem joinT9 {α β γ δ ε ζ η θ ι : Type} {F R : α → β → γ → δ → ε → ζ → η → θ → ι → Prop} {G : Prop} (h1 : (∀ a b c d e f g h i, F a b c d e f g h i → R a b c d e f g h i) → G) (h2 : ∀ a b c d e f g h i, F a b c d e f g h i → R a b c d e f g h i) : G := h1 h2
theorem own_emptyE {w : World} {g : Nat} (h : w.heap[g]? = some (.cells #[] 40)) : OwnK evTy w (some ⟨g, 0, none⟩) 0 [] := .of (full := []) h (Nat.le_refl _) (Nat.zero_le _) rfl rfl
theorem sizedE {w2 w : World} {p : Nat} (hC : Chg [] w2 w) (h : w.heap.size = p) : ∀ a, (some ⟨p, 0, none⟩ : Option Addr) = some a → w2.heap.size ≤ a.block := by
 rintro a e; cases e; have := hC.size; show _ ≤ p; omega
theorem rd_overE {w w' : World} {g0 gx : Nat} {x : EvT} (h : RdK evTy w (some ⟨gx, 0, none⟩) 1 [x]) (hne : gx ≠ g0) (g : w.grownBy w' ((some (⟨g0, 0, none⟩ : Addr)).map (·.block))) : RdK evTy w' (some ⟨gx, 0, none⟩) 1 [x] :=
 h.chg ((Chg.refl [g0] w).grown g (by simp)) (by rintro a h; cases h; simpa using hne)

set_option maxRecDepth 100000 in
set_option maxHeartbeats 16000000 in
theorem fdplan_any (w : World) (A : Option Addr) (c : Nat) (xs : List EvT) (es : List EvP) (n : Int) (B : Option Addr) (bc : Nat) (ks : List Sp) (h : RdK evTy w A xs.length xs) (hc : xs.length ≤ c) (ho : xs = [] ∨ ∀ a, A = some a → a.block < w.heap.size) (hx : EvsR w xs es) (hn : xs.length ≤ 1000) (hs : ∀ e ∈ es, EvSm e ∧ e.q.length ≤ 100000) (hk : RdK spanTy w B ks.length ks) (hkn : ks.length ≤ 140737488351232) :
  Calls Tryz.prog 11 #[.slice A xs.length c, .agg #[.int .i64 n, .slice B ks.length bc]] w fun r w' => ∃ (A' : Option Addr) (c' : Nat) (zs : List EvT), r = .returned (.slice A' zs.length c') ∧ RdK evTy w' A' zs.length zs ∧ EvsR w' zs (planA es n ks) ∧ Chg [] w w' := by

 obtain ⟨w1, hw1, c1, b1⟩ := news1 w (.cells #[.int .i64 n, .slice B ks.length bc] 25)
 have W1 := h_ hw1
 have C1 := h_ c1
 have B1 := h_ b1
 have CK := h_ (ktcheck_any w1 A c xs es (h.chg c1 (by simp)) (hx.chg c1) hn (fun e he => hs e he))
 have EC : Hid (∀ w', Chg [] w1 w' → Calls Tryz.prog 38 #[.agg #[.int .i64 n, .slice B ks.length bc]] w' fun r w2 => r = .returned (.int .i64 (chkA n ks)) ∧ Chg [] w' w2) := h_ (fun w' hc => fdcheck_any w' n B ks.length bc ks (hk.chg (c1.trans hc) (by simp)) hkn)
 have MI : Hid (∀ w', Chg [] w1 w' → Calls Tryz.prog 39 #[.slice A xs.length c, .slice B ks.length bc] w' fun r w2 => ∃ (A' : Option Addr) (c' : Nat) (zs : List EvT), r = .returned (.slice A' zs.length c') ∧ RdK evTy w2 A' zs.length zs ∧ EvsR w2 zs (es.filter (fun e => !hasE ks e.n e.s)) ∧ Chg [] w' w2) := h_ (fun w' hc => ktmissing_any w' A c xs es B bc ks ((h.chg c1 (by simp)).chg hc (by simp)) ((hx.chg c1).chg hc) hn (hk.chg (c1.trans hc) (by simp)) hkn hs)
 have HN := h_ (show es.length ≤ 1000 by rw [← hx.1]; exact hn)
 clear hw1 c1 b1 h hc ho hx hn hs hk hkn
 obtain ⟨R, hR⟩ : ∃ R, planA es n ks = R := ⟨_, rfl⟩
 rw [hR]
 have HR := h_ hR
 clear hR
 go_enter Tryz.func11, Tryz.ntmps11
 go_upto_region 1 with fail
 rw [← W1.out]
 obtain ⟨g1, hg1⟩ : ∃ g, w.heap.size = g := ⟨_, rfl⟩
 rw [hg1] at B1 ⊢
 clear hg1; go_wp2_with fail
 refine CK.out.mono ?_
 rintro r w2 ⟨rfl, hc⟩
 have D2 := h_ hc
 replace B1 := h_ (hc.at_ B1.out (by simp))
 clear hc CK
 have NO : Hid (¬ (StOk es ∧ chkA n ks = 0) → R = []) := h_ (fun q => by rw [← HR.out]; unfold planA; rw [if_neg q])
 rcases stE_two es with e1 | e1
 rotate_left
 ·
  obtain rfl : R = [] := NO.out (fun q => by rw [stE_zero.2 q.1] at e1; cases e1)
  rw [e1]
  clear e1 HR NO; go_wp2; go_ret
  exact ⟨none, 0, [], rfl, RdK.nil _ _, EvsR.nil _, C1.out.trans D2.out⟩
 have S1 := h_ (stE_zero.1 e1)
 rw [e1]
 clear e1
 obtain ⟨y0, y1⟩ := ce2 B1.out
 go_wp2_with fail
 refine (EC.out w2 D2.out).mono ?_
 rintro r w3 ⟨rfl, hc⟩
 have D3 := h_ (D2.out.trans hc)
 replace B1 := h_ (hc.at_ B1.out (by simp))
 clear hc EC y0 y1
 rcases chkA_two n ks with e1 | e1
 rotate_left
 ·
  obtain rfl : R = [] := NO.out (fun q => by rw [q.2] at e1; cases e1)
  rw [e1]
  clear e1 HR NO; go_wp2; go_ret
  exact ⟨none, 0, [], rfl, RdK.nil _ _, EvsR.nil _, C1.out.trans D3.out⟩
 have YES : Hid (R = byDt (es.filter (fun e => !hasE ks e.n e.s))) := h_ (by rw [← HR.out]; unfold planA; rw [if_pos ⟨S1.out, e1⟩])
 rw [e1]
 clear e1 HR NO
 obtain ⟨y0, y1⟩ := ce2 B1.out
 go_wp2_with fail
 refine (MI.out w3 D3.out).mono ?_
 rintro r w4 ⟨Al, cl, ls, rfl, hl, hv, hc⟩
 have HF := h_ hl
 have HV := h_ hv
 have D4 := h_ (C1.out.trans (D3.out.trans hc))
 have LL : Hid (ls.length ≤ 1000) := h_ (by rw [hv.1]; exact Nat.le_trans (List.length_filter_le _ _) HN.out)
 obtain ⟨fl, hfl⟩ : ∃ fl, es.filter (fun e => !hasE ks e.n e.s) = fl := ⟨_, rfl⟩
 rw [hfl] at HV YES
 clear hl hv hc MI y0 y1 hfl D3 D2; go_wp2
 go_loopw [6, 7] (fun v6 v7 wr => ∃ (i : Nat) (A2 : Option Addr) (c2 : Nat) (zs : List EvT) (gs : List EvP), i ≤ ls.length ∧ v7 = .int .i64 (i : Int) ∧ v6 = .slice A2 zs.length c2 ∧ Hid (OwnK evTy wr A2 c2 zs) ∧ Hid (EvsR w4 zs gs) ∧ Hid (gs = byDt (fl.take i)) ∧ Hid (∀ a, A2 = some a → w4.heap.size ≤ a.block) ∧ Hid (Chg [] w4 wr)) (fun _ v7 _ => ls.length - (RowKit.intOf v7).toNat)
 case atStart => exact ⟨0, none, 0, [], [], Nat.zero_le _, rfl, rfl, OwnK.none_ _, EvsR.nil _, h_ rfl, h_ (by simp), Chg.refl _ _⟩
 case round =>
  obtain ⟨i, A2, c2, zs, gs, hi, rfl, rfl, TO, TE, GE, TN, PC⟩ := hrel
  have i0 : (0 : Int) ≤ (i : Int) := by omega
  have ZLN : Hid (zs.length ≤ 1000) := h_ (by have a := TE.out.1; rw [GE.out, byDt_len, List.length_take] at a; have := LL.out; omega)
  by_cases hlt : i < ls.length
  ·
   have i1 : (i : Int) < (ls.length : Int) := by omega
   have i3 : IntKind.i64.wrap ((i : Int) + 1) = (i : Int) + 1 := IntWalk.i64_in _ (by have := LL.out; omega)
   obtain ⟨x, e, ex, ee, rx⟩ := HV.out.at_ hlt
   have EX := h_ ex
   have EE := h_ ee
   have RX := h_ rx
   obtain ⟨g3, o3, eA, _⟩ := HF.out.line (by omega)
   subst eA; clear ex ee rx

   rcases TO.out.shape with ⟨hA2, hzs, hc2⟩ | ⟨g2, hA2, _⟩
   ·
    subst hA2 hzs hc2
    have hgs : gs = [] := List.length_eq_zero_iff.1 (by have := TE.out.1; simpa using this.symm)
    subst hgs
    go_upto_region 8 with fail
    generalize wr = w5 at *
    clear wr; go_wp2
    go_loopw [8] (fun v8 wr => ∃ (k : Nat), k ≤ 0 ∧ v8 = .int .i64 (k : Int) ∧ Hid (∀ y ∈ ([] : List EvP).take k, LtEv y e) ∧ Hid (Chg [] w5 wr)) (fun v8 _ => 0 - (RowKit.intOf v8).toNat)
    case atStart => exact ⟨0, Nat.zero_le _, rfl, h_ (by simp), Chg.refl _ _⟩
    case round =>
     obtain ⟨k, hk, rfl, KLT, QC⟩ := hrel
     have k0 : (0 : Int) ≤ (k : Int) := by omega
     have KL : Hid (k ≤ 0) := h_ hk
     have k1 : ¬ (k : Int) < (0 : Int) := by omega
     have k2 : decide ((k : Int) < (0 : Int)) = false := decide_eq_false k1
     have k3 : decide (k < 0) = false := decide_eq_false (by omega)
     go_upto_region 9 with fail
     refine wp_region_held_drew (S := fun w' => Chg [] wr w') (by kernel_rfl) (Chg.refl [] wr).drew (fun hHeld => ?_)
     have QC9 := h_ (QC.out.trans (Chg.refl [] wr).drew)
     refine sy 0 27 rfl rfl ?_; try simp only [Act.put, sA, s0, s1]
     refine sy 1 28 rfl rfl ?_; try simp only [Act.put, sA, s0, s1]
     refine sy 2 29 rfl rfl ?_; try simp only [Act.put, sA, s0, s1]
     refine sy 3 30 rfl rfl ?_; try simp only [Act.put, sA, s0, s1]
     refine sy 4 31 rfl rfl ?_; try simp only [Act.put, sA, s0, s1]
     refine sn 5 32 rfl rfl ?_; try simp only [Act.put, sA, s0, s1]
     refine sn 6 33 rfl rfl ?_; try simp only [Act.put, sA, s0, s1]
     refine sn 7 34 rfl rfl ?_; try simp only [Act.put, sA, s0, s1]
     refine sn 8 35 rfl rfl ?_; try simp only [Act.put, sA, s0, s1]
     refine sn 9 36 rfl rfl ?_; try simp only [Act.put, sA, s0, s1]
     refine sn 10 37 rfl rfl ?_; try simp only [Act.put, sA, s0, s1]
     refine sn 11 38 rfl rfl ?_; try simp only [Act.put, sA, s0, s1]
     refine sn 12 39 rfl rfl ?_; try simp only [Act.put, sA, s0, s1]
     refine sn 13 40 rfl rfl ?_; try simp only [Act.put, sA, s0, s1]
     refine sn 14 41 rfl rfl ?_; try simp only [Act.put, sA, s0, s1]
     refine sn 15 42 rfl rfl ?_; try simp only [Act.put, sA, s0, s1]
     refine sy 16 43 rfl rfl ?_; try simp only [Act.put, sA, s0, s1]
     refine wpAnyH_done (by kernel_rfl) ?_ _; clear hHeld QC k1 k2 k3
     obtain ⟨wq, hwq⟩ : ∃ q, wr.drew = q := ⟨_, rfl⟩
     have QC := h_ QC9.out
     rw [hwq] at QC ⊢
     clear QC9 hwq
     obtain rfl : k = 0 := by omega
     go_upto_region 11 with fail
     have XC : Hid (∀ w', Chg [] wq w' → _) := h_ (fun w' hc => evCells (HF.out.chg (PC.out.trans (QC.out.trans hc)) (by simp)) EX.out)
     refine wp_region_held_drew (S := fun w' => w'.cell? ⟨g3, o3 + i * 7, none⟩ = some (.int .i64 x.n) ∧ w'.cell? ⟨g3, o3 + i * 7 + 1, none⟩ = some (.int .i64 x.s) ∧ w'.cell? ⟨g3, o3 + i * 7 + 2, none⟩ = some (.string x.p) ∧ w'.cell? ⟨g3, o3 + i * 7 + 3, none⟩ = some (.int .i64 x.k) ∧ w'.cell? ⟨g3, o3 + i * 7 + 4, none⟩ = some (.int .i64 x.m) ∧ w'.cell? ⟨g3, o3 + i * 7 + 5, none⟩ = some (.slice x.A x.l x.c) ∧ w'.cell? ⟨g3, o3 + i * 7 + 6, none⟩ = some (.slice x.B x.bl x.bc)) (by kernel_rfl) (XC.out _ (Chg.refl [] wq).drew) (fun hHeld => ?_)
     have KD := h_ (Chg.refl [] wq).drew
     clear hHeld
     generalize wq.drew = wd at *
     have DX : Hid (∀ w', Chg [] wd w' → _) := h_ (fun w' hc => XC.out w' (KD.out.trans hc))
     have R1 : Hid (∀ w', Chg [] wd w' → RdK evTy w' none 0 (([] : List EvT).take 0)) := h_ (fun w' hc => RdK.nil w' none)
     have R2 : Hid (∀ w', Chg [] wd w' → RdK evTy w' none 0 (([] : List EvT).drop 0)) := h_ (fun w' hc => RdK.nil w' none)
     have N1 : Hid ((0 + (0)) * 400 ≤ 140737488355327) := h_ (by have := ZLN.out; have := KL.out; omega)
     have N2 : Hid ((0 + 1) * 400 ≤ 140737488355327) := h_ (by have := ZLN.out; have := KL.out; omega)
     have N3 : Hid ((0 + 1 + (0)) * 400 ≤ 140737488355327) := h_ (by have := ZLN.out; have := KL.out; omega)
     have L1 : Hid (([] ++ ([] : List EvT).take (0)).length = 0) := h_ (by have := KL.out; simp; try omega)
     have L2 : Hid (([] ++ ([] : List EvT).take (0) ++ [x]).length = 0 + 1) := h_ (by have := KL.out; simp; try omega)
     obtain ⟨wc, hwc⟩ : ∃ wc, wd = wc := ⟨_, rfl⟩
     have C : Hid (Chg [] wd wc) := h_ (hwc ▸ Chg.refl [] wd)
     rw [hwc]
     clear hwc
     refine' joinT9 (F := fun (p q : Nat) (A5 : Option Addr) (c5 : Nat) (A6 : Option Addr) (c6 : Nat) (A7 : Option Addr) (c7 : Nat) (w7 : World) => Hid (OwnK evTy w7 A7 c7 (([] : List EvT).take (0) ++ x :: ([] : List EvT).drop (0))) ∧ Hid (∀ a, A7 = some a → wd.heap.size ≤ a.block) ∧ Hid (Chg [] wd w7)) (R := _) (fun JOIN => ?leaf) ?rest
     case leaf =>
      refine sy 1 47 rfl rfl ?_ (hS := (DX.out _ C.out))
      try simp only [Act.put, sA, s0, s1]
      refine sy 2 48 rfl rfl ?_ (hS := (DX.out _ C.out))
      try simp only [Act.put, sA, s0, s1]
      refine sy 3 49 rfl rfl ?_ (hS := (DX.out _ C.out))
      try simp only [Act.put, sA, s0, s1]
      refine sy 5 51 rfl rfl ?_ (hS := (DX.out _ C.out))
      try simp only [Act.put, sA, s0, s1]
      refine sy 6 52 rfl rfl ?_ (hS := (DX.out _ C.out))
      try simp only [Act.put, sA, s0, s1]
      refine sy 7 53 rfl rfl ?_ (hS := (DX.out _ C.out))
      try simp only [Act.put, sA, s0, s1]
      refine sy 8 54 rfl rfl ?_ (hS := (DX.out _ C.out)) (hy := by (intro w hSw; (try dsimp only at hSw); obtain ⟨q0, q1, q2, q3, q4, q5, q6⟩ := hSw; go_simp; try with_reducible rfl))
      try simp only [Act.put, sA, s0, s1]
      refine sy 11 57 rfl rfl ?_ (hS := (DX.out _ C.out))
      try simp only [Act.put, sA, s0, s1]
      refine sy 12 58 rfl rfl ?_ (hS := (DX.out _ C.out))
      try simp only [Act.put, sA, s0, s1]
      refine sy 13 59 rfl rfl ?_ (hS := (DX.out _ C.out))
      try simp only [Act.put, sA, s0, s1]
      refine wpAnyH_ready (rs := [0, 9]) (by kernel_rfl) (by simp) ?_
      refine AllReadyH.cons rfl (fun K hK => ?_) (AllReadyH.cons rfl (fun K hK => ?_) AllReadyH.nil)
      ·
       skip
       replace hK := h_ hK
       have hHeld := DX.out _ C.out
       obtain ⟨q0, q1, q2, q3, q4, q5, q6⟩ := hHeld
       obtain ⟨pe, hpp⟩ : ∃ p, wc.heap.size = p := ⟨_, rfl⟩
       have SZpe := h_ (sizedE C.out hpp)
       have NSpe := h_ hpp
       clear hpp; go_simp; clear q0 q1 q2 q3 q4 q5 q6
       obtain ⟨wc, hw, cn, bn⟩ := news1 wc (.cells #[] 40)
       rw [← hw, NSpe.out]
       rw [NSpe.out] at bn
       have EO := h_ (own_emptyE bn)
       have LTpe := h_ (lt_of_heap bn)
       replace C := h_ (C.out.trans cn)
       try replace XR := h_ (XR.out.chg cn (by simp))
       try have NE : Hid (px ≠ pe) := h_ (by have := NSpe.out; have := LTpx.out; omega)
       clear hw cn bn
       refine hK.out _ _ (DX.out _ C.out) (fun hHeld => ?_)
       clear hK K; try simp only [Act.put, sA, s0, s1]
       refine wpAnyH_ready (rs := [4, 9]) (by kernel_rfl) (by simp) ?_
       refine AllReadyH.cons rfl (fun K hK => ?_) (AllReadyH.cons rfl (fun K hK => ?_) AllReadyH.nil)
       ·
        skip
        replace hK := h_ hK
        refine step_appK (R := evTy) rfl (.tmp 46) (.tmp 49) rfl rfl (A := some ⟨pe, 0, none⟩) (B := none) (n := 0) (m := 0) (c := 0) (d := 0) (xs := []) (ys := ([] : List EvT).take (0)) EO.out rfl rfl (R1.out _ C.out) N1.out ?_
        rw [Nat.zero_add]
        intro A5 c5 wc o5 g5 e5
        have O5 := h_ o5
        have F5 := h_ (fresh_appE SZpe.out C.out g5 e5)
        replace C := h_ F5.out.2
        try replace XR := h_ (rd_overE XR.out NE.out g5)
        clear o5 g5 e5
        refine hK.out _ _ (DX.out _ C.out) (fun hHeld => ?_)
        clear hK K; try simp only [Act.put, sA, s0, s1]
        refine on1 9 rfl (fun K hK => ?_)
        have hHeld := DX.out _ C.out
        obtain ⟨q0, q1, q2, q3, q4, q5, q6⟩ := hHeld
        obtain ⟨px, hpp⟩ : ∃ p, wc.heap.size = p := ⟨_, rfl⟩
        have SZpx := h_ (sizedE C.out hpp)
        have NSpx := h_ hpp
        clear hpp; go_simp; clear q0 q1 q2 q3 q4 q5 q6
        obtain ⟨wc, hw, cn, bn⟩ := news1 wc (.cells #[.int .i64 x.n, .int .i64 x.s, .string x.p, .int .i64 x.k, .int .i64 x.m, .slice x.A x.l x.c, .slice x.B x.bl x.bc] 40)
        rw [← hw, NSpx.out]
        rw [NSpx.out] at bn
        have XR := h_ (rd_oneEc (X := x) bn)
        have LTpx := h_ (lt_of_heap bn)
        replace C := h_ (C.out.trans cn)
        try replace EO := h_ (EO.out.chg cn (by simp))
        try replace O5 := h_ (O5.out.chg cn (by simp))
        try have NE : Hid (px ≠ pe) := h_ (by have := NSpx.out; have := LTpe.out; omega)
        clear hw cn bn
        refine hK.out _ _ (DX.out _ C.out) (fun hHeld => ?_)
        clear hK K; try simp only [Act.put, sA, s0, s1]
        refine on1 10 rfl (fun K hK => ?_)
        refine step_appK (R := evTy) rfl (.tmp 50) (.tmp 55) rfl rfl (A := A5) (B := some ⟨px, 0, none⟩) (n := 0) (m := 1) (c := c5) (d := 1) (xs := [] ++ ([] : List EvT).take (0)) (ys := [x]) O5.out L1.out rfl XR.out N2.out ?_
        intro A6 c6 wc o6 g6 e6
        have O6 := h_ o6
        have F6 := h_ (fresh_appE F5.out.1 C.out g6 e6)
        replace C := h_ F6.out.2
        clear o6 g6 e6
        refine hK.out _ _ (DX.out _ C.out) (fun hHeld => ?_)
        clear hK K; try simp only [Act.put, sA, s0, s1]
        refine on1 14 rfl (fun K hK => ?_)
        refine step_appK (R := evTy) rfl (.tmp 56) (.tmp 59) rfl rfl (A := A6) (B := none) (n := 0 + 1) (m := 0) (c := c6) (d := 0) (xs := [] ++ ([] : List EvT).take (0) ++ [x]) (ys := ([] : List EvT).drop (0)) O6.out L2.out rfl (R2.out _ C.out) N3.out ?_
        intro A7 c7 wc o7 g7 e7
        have O7 := h_ o7
        have F7 := h_ (fresh_appE F6.out.1 C.out g7 e7)
        replace C := h_ F7.out.2
        clear o7 g7 e7
        refine hK.out _ _ (DX.out _ C.out) (fun hHeld => ?_)
        clear hK K; try simp only [Act.put, sA, s0, s1]
        refine sy 15 6 rfl rfl ?_ (hS := (DX.out _ C.out))
        try simp only [Act.put, sA, s0, s1]
        refine wpAnyH_done (by kernel_rfl) ?_ _; clear hHeld
        have O8 : Hid (OwnK evTy wc A7 c7 (([] : List EvT).take (0) ++ x :: ([] : List EvT).drop (0))) := h_ (by have q := O7.out; simpa using q)
        exact JOIN pe px A5 c5 A6 c6 A7 c7 wc ⟨O8, h_ F7.out.1, C⟩
       ·
        skip
        replace hK := h_ hK
        have hHeld := DX.out _ C.out
        obtain ⟨q0, q1, q2, q3, q4, q5, q6⟩ := hHeld
        obtain ⟨px, hpp⟩ : ∃ p, wc.heap.size = p := ⟨_, rfl⟩
        have SZpx := h_ (sizedE C.out hpp)
        have NSpx := h_ hpp
        clear hpp; go_simp; clear q0 q1 q2 q3 q4 q5 q6
        obtain ⟨wc, hw, cn, bn⟩ := news1 wc (.cells #[.int .i64 x.n, .int .i64 x.s, .string x.p, .int .i64 x.k, .int .i64 x.m, .slice x.A x.l x.c, .slice x.B x.bl x.bc] 40)
        rw [← hw, NSpx.out]
        rw [NSpx.out] at bn
        have XR := h_ (rd_oneEc (X := x) bn)
        have LTpx := h_ (lt_of_heap bn)
        replace C := h_ (C.out.trans cn)
        try replace EO := h_ (EO.out.chg cn (by simp))
        try replace O5 := h_ (O5.out.chg cn (by simp))
        try have NE : Hid (px ≠ pe) := h_ (by have := NSpx.out; have := LTpe.out; omega)
        clear hw cn bn
        refine hK.out _ _ (DX.out _ C.out) (fun hHeld => ?_)
        clear hK K; try simp only [Act.put, sA, s0, s1]
        refine on1 4 rfl (fun K hK => ?_)
        refine step_appK (R := evTy) rfl (.tmp 46) (.tmp 49) rfl rfl (A := some ⟨pe, 0, none⟩) (B := none) (n := 0) (m := 0) (c := 0) (d := 0) (xs := []) (ys := ([] : List EvT).take (0)) EO.out rfl rfl (R1.out _ C.out) N1.out ?_
        rw [Nat.zero_add]
        intro A5 c5 wc o5 g5 e5
        have O5 := h_ o5
        have F5 := h_ (fresh_appE SZpe.out C.out g5 e5)
        replace C := h_ F5.out.2
        try replace XR := h_ (rd_overE XR.out NE.out g5)
        clear o5 g5 e5
        refine hK.out _ _ (DX.out _ C.out) (fun hHeld => ?_)
        clear hK K; try simp only [Act.put, sA, s0, s1]
        refine on1 10 rfl (fun K hK => ?_)
        refine step_appK (R := evTy) rfl (.tmp 50) (.tmp 55) rfl rfl (A := A5) (B := some ⟨px, 0, none⟩) (n := 0) (m := 1) (c := c5) (d := 1) (xs := [] ++ ([] : List EvT).take (0)) (ys := [x]) O5.out L1.out rfl XR.out N2.out ?_
        intro A6 c6 wc o6 g6 e6
        have O6 := h_ o6
        have F6 := h_ (fresh_appE F5.out.1 C.out g6 e6)
        replace C := h_ F6.out.2
        clear o6 g6 e6
        refine hK.out _ _ (DX.out _ C.out) (fun hHeld => ?_)
        clear hK K; try simp only [Act.put, sA, s0, s1]
        refine on1 14 rfl (fun K hK => ?_)
        refine step_appK (R := evTy) rfl (.tmp 56) (.tmp 59) rfl rfl (A := A6) (B := none) (n := 0 + 1) (m := 0) (c := c6) (d := 0) (xs := [] ++ ([] : List EvT).take (0) ++ [x]) (ys := ([] : List EvT).drop (0)) O6.out L2.out rfl (R2.out _ C.out) N3.out ?_
        intro A7 c7 wc o7 g7 e7
        have O7 := h_ o7
        have F7 := h_ (fresh_appE F6.out.1 C.out g7 e7)
        replace C := h_ F7.out.2
        clear o7 g7 e7
        refine hK.out _ _ (DX.out _ C.out) (fun hHeld => ?_)
        clear hK K; try simp only [Act.put, sA, s0, s1]
        refine sy 15 6 rfl rfl ?_ (hS := (DX.out _ C.out))
        try simp only [Act.put, sA, s0, s1]
        refine wpAnyH_done (by kernel_rfl) ?_ _; clear hHeld
        have O8 : Hid (OwnK evTy wc A7 c7 (([] : List EvT).take (0) ++ x :: ([] : List EvT).drop (0))) := h_ (by have q := O7.out; simpa using q)
        exact JOIN pe px A5 c5 A6 c6 A7 c7 wc ⟨O8, h_ F7.out.1, C⟩
      ·
       skip
       replace hK := h_ hK
       have hHeld := DX.out _ C.out
       obtain ⟨q0, q1, q2, q3, q4, q5, q6⟩ := hHeld
       obtain ⟨px, hpp⟩ : ∃ p, wc.heap.size = p := ⟨_, rfl⟩
       have SZpx := h_ (sizedE C.out hpp)
       have NSpx := h_ hpp
       clear hpp; go_simp; clear q0 q1 q2 q3 q4 q5 q6
       obtain ⟨wc, hw, cn, bn⟩ := news1 wc (.cells #[.int .i64 x.n, .int .i64 x.s, .string x.p, .int .i64 x.k, .int .i64 x.m, .slice x.A x.l x.c, .slice x.B x.bl x.bc] 40)
       rw [← hw, NSpx.out]
       rw [NSpx.out] at bn
       have XR := h_ (rd_oneEc (X := x) bn)
       have LTpx := h_ (lt_of_heap bn)
       replace C := h_ (C.out.trans cn)
       try replace EO := h_ (EO.out.chg cn (by simp))
       try replace O5 := h_ (O5.out.chg cn (by simp))
       try have NE : Hid (px ≠ pe) := h_ (by have := NSpx.out; have := LTpe.out; omega)
       clear hw cn bn
       refine hK.out _ _ (DX.out _ C.out) (fun hHeld => ?_)
       clear hK K; try simp only [Act.put, sA, s0, s1]
       refine on1 0 rfl (fun K hK => ?_)
       have hHeld := DX.out _ C.out
       obtain ⟨q0, q1, q2, q3, q4, q5, q6⟩ := hHeld
       obtain ⟨pe, hpp⟩ : ∃ p, wc.heap.size = p := ⟨_, rfl⟩
       have SZpe := h_ (sizedE C.out hpp)
       have NSpe := h_ hpp
       clear hpp; go_simp; clear q0 q1 q2 q3 q4 q5 q6
       obtain ⟨wc, hw, cn, bn⟩ := news1 wc (.cells #[] 40)
       rw [← hw, NSpe.out]
       rw [NSpe.out] at bn
       have EO := h_ (own_emptyE bn)
       have LTpe := h_ (lt_of_heap bn)
       replace C := h_ (C.out.trans cn)
       try replace XR := h_ (XR.out.chg cn (by simp))
       try have NE : Hid (px ≠ pe) := h_ (by have := NSpe.out; have := LTpx.out; omega)
       clear hw cn bn
       refine hK.out _ _ (DX.out _ C.out) (fun hHeld => ?_)
       clear hK K; try simp only [Act.put, sA, s0, s1]
       refine on1 4 rfl (fun K hK => ?_)
       refine step_appK (R := evTy) rfl (.tmp 46) (.tmp 49) rfl rfl (A := some ⟨pe, 0, none⟩) (B := none) (n := 0) (m := 0) (c := 0) (d := 0) (xs := []) (ys := ([] : List EvT).take (0)) EO.out rfl rfl (R1.out _ C.out) N1.out ?_
       rw [Nat.zero_add]
       intro A5 c5 wc o5 g5 e5
       have O5 := h_ o5
       have F5 := h_ (fresh_appE SZpe.out C.out g5 e5)
       replace C := h_ F5.out.2
       try replace XR := h_ (rd_overE XR.out NE.out g5)
       clear o5 g5 e5
       refine hK.out _ _ (DX.out _ C.out) (fun hHeld => ?_)
       clear hK K; try simp only [Act.put, sA, s0, s1]
       refine on1 10 rfl (fun K hK => ?_)
       refine step_appK (R := evTy) rfl (.tmp 50) (.tmp 55) rfl rfl (A := A5) (B := some ⟨px, 0, none⟩) (n := 0) (m := 1) (c := c5) (d := 1) (xs := [] ++ ([] : List EvT).take (0)) (ys := [x]) O5.out L1.out rfl XR.out N2.out ?_
       intro A6 c6 wc o6 g6 e6
       have O6 := h_ o6
       have F6 := h_ (fresh_appE F5.out.1 C.out g6 e6)
       replace C := h_ F6.out.2
       clear o6 g6 e6
       refine hK.out _ _ (DX.out _ C.out) (fun hHeld => ?_)
       clear hK K; try simp only [Act.put, sA, s0, s1]
       refine on1 14 rfl (fun K hK => ?_)
       refine step_appK (R := evTy) rfl (.tmp 56) (.tmp 59) rfl rfl (A := A6) (B := none) (n := 0 + 1) (m := 0) (c := c6) (d := 0) (xs := [] ++ ([] : List EvT).take (0) ++ [x]) (ys := ([] : List EvT).drop (0)) O6.out L2.out rfl (R2.out _ C.out) N3.out ?_
       intro A7 c7 wc o7 g7 e7
       have O7 := h_ o7
       have F7 := h_ (fresh_appE F6.out.1 C.out g7 e7)
       replace C := h_ F7.out.2
       clear o7 g7 e7
       refine hK.out _ _ (DX.out _ C.out) (fun hHeld => ?_)
       clear hK K; try simp only [Act.put, sA, s0, s1]
       refine sy 15 6 rfl rfl ?_ (hS := (DX.out _ C.out))
       try simp only [Act.put, sA, s0, s1]
       refine wpAnyH_done (by kernel_rfl) ?_ _; clear hHeld
       have O8 : Hid (OwnK evTy wc A7 c7 (([] : List EvT).take (0) ++ x :: ([] : List EvT).drop (0))) := h_ (by have q := O7.out; simpa using q)
       exact JOIN pe px A5 c5 A6 c6 A7 c7 wc ⟨O8, h_ F7.out.1, C⟩
     case rest =>
      intro pe px A5 c5 A6 c6 A7 c7 w7 FJ
      obtain ⟨O7, F7, C7⟩ := FJ
      have PC7 := h_ (PC.out.trans (QC.out.trans (KD.out.trans C7.out)))
      have FN : Hid (∀ a, A7 = some a → w4.heap.size ≤ a.block) := h_ (fun a ha => by have := F7.out a ha; have := (PC.out.trans (QC.out.trans KD.out)).size; omega)
      clear R1 R2 DX XC N1 N2 N3 L1 L2 C F7 KD C7 TO PC QC
      have TE7 : Hid (EvsR w4 (([] : List EvT).take (0) ++ x :: ([] : List EvT).drop (0)) (([] : List EvP).take (0) ++ e :: ([] : List EvP).drop (0))) := h_ (TE.out.ins RX.out (0))
      have IE := h_ (insDt_at (l := ([] : List EvP)) (x := e) (k := 0) (Nat.le_refl _) (by simp) (.inl rfl))
      rw [← IE.out] at TE7
      obtain ⟨us, hus⟩ : ∃ us, us = ([] : List EvT).take (0) ++ x :: ([] : List EvT).drop (0) := ⟨_, rfl⟩
      have UL : Hid (0 + 1 + (0) = us.length) := h_ (by rw [hus]; have := KL.out; simp <;> omega)
      rw [← hus] at O7 TE7
      clear hus TE IE
      go_upto_region 7 with fail
      go_wp2; go_round
      case rel => exact ⟨i + 1, A7, c7, us, insDt ([] : List EvP) e, by omega, by go_num, by first | rfl | rw [UL.out] | (have q := UL.out; simp at q; simp [← q]), O7, TE7, h_ (by rw [GE.out, ← byDt_snoc, List.take_add_one, EE.out]; rfl), FN, PC7⟩
      case measure => simp [RowKit.intOf]; omega
   ·
    subst hA2
    go_upto_region 8 with fail
    generalize wr = w5 at *
    clear wr; go_wp2
    go_loopw [8] (fun v8 wr => ∃ (k : Nat), k ≤ zs.length ∧ v8 = .int .i64 (k : Int) ∧ Hid (∀ y ∈ gs.take k, LtEv y e) ∧ Hid (Chg [] w5 wr)) (fun v8 _ => zs.length - (RowKit.intOf v8).toNat)
    case atStart => exact ⟨0, Nat.zero_le _, rfl, h_ (by simp), Chg.refl _ _⟩
    case round =>
     obtain ⟨k, hk, rfl, KLT, QC⟩ := hrel
     have k0 : (0 : Int) ≤ (k : Int) := by omega
     have KL : Hid (k ≤ zs.length) := h_ hk
     by_cases hkl : k < zs.length
     rotate_left
     ·
      skip
      have KND : Hid (k = gs.length ∨ ∃ y, gs[k]? = some y ∧ ¬ LtEv y e) := h_ (.inl (by have := TE.out.1; omega))
      have k1 : ¬ (k : Int) < (zs.length : Int) := by omega
      have k2 : decide ((k : Int) < (zs.length : Int)) = false := decide_eq_false k1
      have k3 : decide (k < zs.length) = false := decide_eq_false (by omega)
      go_upto_region 9 with fail
      refine wp_region_held_drew (S := fun w' => Chg [] wr w') (by kernel_rfl) (Chg.refl [] wr).drew (fun hHeld => ?_)
      have QC9 := h_ (QC.out.trans (Chg.refl [] wr).drew)
      refine sy 0 27 rfl rfl ?_; try simp only [Act.put, sA, s0, s1]
      refine sy 1 28 rfl rfl ?_; try simp only [Act.put, sA, s0, s1]
      refine sy 2 29 rfl rfl ?_; try simp only [Act.put, sA, s0, s1]
      refine sy 3 30 rfl rfl ?_; try simp only [Act.put, sA, s0, s1]
      refine sy 4 31 rfl rfl ?_; try simp only [Act.put, sA, s0, s1]
      refine sn 5 32 rfl rfl ?_; try simp only [Act.put, sA, s0, s1]
      refine sn 6 33 rfl rfl ?_; try simp only [Act.put, sA, s0, s1]
      refine sn 7 34 rfl rfl ?_; try simp only [Act.put, sA, s0, s1]
      refine sn 8 35 rfl rfl ?_; try simp only [Act.put, sA, s0, s1]
      refine sn 9 36 rfl rfl ?_; try simp only [Act.put, sA, s0, s1]
      refine sn 10 37 rfl rfl ?_; try simp only [Act.put, sA, s0, s1]
      refine sn 11 38 rfl rfl ?_; try simp only [Act.put, sA, s0, s1]
      refine sn 12 39 rfl rfl ?_; try simp only [Act.put, sA, s0, s1]
      refine sn 13 40 rfl rfl ?_; try simp only [Act.put, sA, s0, s1]
      refine sn 14 41 rfl rfl ?_; try simp only [Act.put, sA, s0, s1]
      refine sn 15 42 rfl rfl ?_; try simp only [Act.put, sA, s0, s1]
      refine sy 16 43 rfl rfl ?_; try simp only [Act.put, sA, s0, s1]
      refine wpAnyH_done (by kernel_rfl) ?_ _; clear hHeld QC k1 k2 k3
      obtain ⟨wq, hwq⟩ : ∃ q, wr.drew = q := ⟨_, rfl⟩
      have QC := h_ QC9.out
      rw [hwq] at QC ⊢
      clear QC9 hwq; clear hkl hk
      have HC2 := TO.out.cap
      have b0 : (0 : Int) ≤ (k : Nat) := Int.natCast_nonneg _
      have b1 : k ≤ c2 := by have := KL.out; omega
      have b2 : ((k : Nat) : Int) ≤ (c2 : Int) := by omega
      have b3 : ((k : Nat) : Int) ≤ (zs.length : Int) := by have := KL.out; omega
      have b4 : k ≤ zs.length := KL.out
      obtain ⟨AD, hAD⟩ : ∃ AD : Option Addr, (if c2 = k then some (⟨g2, 0, none⟩ : Addr) else some ⟨g2, k * 7, none⟩) = AD := ⟨_, rfl⟩
      have ADR : Hid (∀ w', OwnK evTy w' (some ⟨g2, 0, none⟩) c2 zs → RdK evTy w' AD (zs.length - k) (zs.drop k)) := h_ (fun w' ho => by
       rw [← hAD]
       by_cases q : c2 = k
       ·
        have e : zs.drop k = [] := List.drop_of_length_le (by have := ho.cap.1; omega)
        rw [e, show zs.length - k = 0 by have := ho.cap.1; omega]
        exact RdK.nil _ _
       ·
        rw [if_neg q]
        have r := ho.reads.part k (zs.length - k) (by have := KL.out; omega)
        rw [List.take_of_length_le (by rw [List.length_drop]; omega), Nat.zero_add] at r
        exact r)
      clear HC2
      go_upto_region 11 with fail
      have XC : Hid (∀ w', Chg [] wq w' → _) := h_ (fun w' hc => evCells (HF.out.chg (PC.out.trans (QC.out.trans hc)) (by simp)) EX.out)
      refine wp_region_held_drew (S := fun w' => w'.cell? ⟨g3, o3 + i * 7, none⟩ = some (.int .i64 x.n) ∧ w'.cell? ⟨g3, o3 + i * 7 + 1, none⟩ = some (.int .i64 x.s) ∧ w'.cell? ⟨g3, o3 + i * 7 + 2, none⟩ = some (.string x.p) ∧ w'.cell? ⟨g3, o3 + i * 7 + 3, none⟩ = some (.int .i64 x.k) ∧ w'.cell? ⟨g3, o3 + i * 7 + 4, none⟩ = some (.int .i64 x.m) ∧ w'.cell? ⟨g3, o3 + i * 7 + 5, none⟩ = some (.slice x.A x.l x.c) ∧ w'.cell? ⟨g3, o3 + i * 7 + 6, none⟩ = some (.slice x.B x.bl x.bc)) (by kernel_rfl) (XC.out _ (Chg.refl [] wq).drew) (fun hHeld => ?_)
      have KD := h_ (Chg.refl [] wq).drew
      clear hHeld
      generalize wq.drew = wd at *
      have DX : Hid (∀ w', Chg [] wd w' → _) := h_ (fun w' hc => XC.out w' (KD.out.trans hc))
      have R1 : Hid (∀ w', Chg [] wd w' → RdK evTy w' (some ⟨g2, 0, none⟩) (k) (zs.take (k))) := h_ (fun w' hc => by
       have q := (TO.out.take (k)).reads.chg (QC.out.trans (KD.out.trans hc)) (by simp)
       rwa [List.length_take, Nat.min_eq_left KL.out] at q)
      have R2 : Hid (∀ w', Chg [] wd w' → RdK evTy w' AD (zs.length - k) (zs.drop k)) := h_ (fun w' hc => ADR.out w' (TO.out.chg (QC.out.trans (KD.out.trans hc)) (by simp)))
      have N1 : Hid ((0 + (k)) * 400 ≤ 140737488355327) := h_ (by have := ZLN.out; have := KL.out; omega)
      have N2 : Hid ((k + 1) * 400 ≤ 140737488355327) := h_ (by have := ZLN.out; have := KL.out; omega)
      have N3 : Hid ((k + 1 + (zs.length - k)) * 400 ≤ 140737488355327) := h_ (by have := ZLN.out; have := KL.out; omega)
      have L1 : Hid (([] ++ zs.take (k)).length = k) := h_ (by have := KL.out; simp; try omega)
      have L2 : Hid (([] ++ zs.take (k) ++ [x]).length = k + 1) := h_ (by have := KL.out; simp; try omega)
      obtain ⟨wc, hwc⟩ : ∃ wc, wd = wc := ⟨_, rfl⟩
      have C : Hid (Chg [] wd wc) := h_ (hwc ▸ Chg.refl [] wd)
      rw [hwc]
      clear hwc
      refine' joinT9 (F := fun (p q : Nat) (A5 : Option Addr) (c5 : Nat) (A6 : Option Addr) (c6 : Nat) (A7 : Option Addr) (c7 : Nat) (w7 : World) => Hid (OwnK evTy w7 A7 c7 (zs.take (k) ++ x :: zs.drop (k))) ∧ Hid (∀ a, A7 = some a → wd.heap.size ≤ a.block) ∧ Hid (Chg [] wd w7)) (R := _) (fun JOIN => ?leaf) ?rest
      case leaf =>
       refine sy 1 47 rfl rfl ?_ (hS := (DX.out _ C.out))
       try simp only [Act.put, sA, s0, s1]
       refine sy 2 48 rfl rfl ?_ (hS := (DX.out _ C.out))
       try simp only [Act.put, sA, s0, s1]
       refine sy 3 49 rfl rfl ?_ (hS := (DX.out _ C.out))
       try simp only [Act.put, sA, s0, s1]
       refine sy 5 51 rfl rfl ?_ (hS := (DX.out _ C.out))
       try simp only [Act.put, sA, s0, s1]
       refine sy 6 52 rfl rfl ?_ (hS := (DX.out _ C.out))
       try simp only [Act.put, sA, s0, s1]
       refine sy 7 53 rfl rfl ?_ (hS := (DX.out _ C.out))
       try simp only [Act.put, sA, s0, s1]
       refine sy 8 54 rfl rfl ?_ (hS := (DX.out _ C.out)) (hy := by (intro w hSw; (try dsimp only at hSw); obtain ⟨q0, q1, q2, q3, q4, q5, q6⟩ := hSw; go_simp; try with_reducible rfl))
       try simp only [Act.put, sA, s0, s1]
       refine sy 11 57 rfl rfl ?_ (hS := (DX.out _ C.out))
       try simp only [Act.put, sA, s0, s1]
       refine sy 12 58 rfl rfl ?_ (hS := (DX.out _ C.out))
       try simp only [Act.put, sA, s0, s1]
       refine sy 13 59 rfl rfl ?_ (hS := (DX.out _ C.out))
       try simp only [Act.put, sA, s0, s1]
       refine wpAnyH_ready (rs := [0, 9]) (by kernel_rfl) (by simp) ?_
       refine AllReadyH.cons rfl (fun K hK => ?_) (AllReadyH.cons rfl (fun K hK => ?_) AllReadyH.nil)
       ·
        skip
        replace hK := h_ hK
        have hHeld := DX.out _ C.out
        obtain ⟨q0, q1, q2, q3, q4, q5, q6⟩ := hHeld
        obtain ⟨pe, hpp⟩ : ∃ p, wc.heap.size = p := ⟨_, rfl⟩
        have SZpe := h_ (sizedE C.out hpp)
        have NSpe := h_ hpp
        clear hpp; go_simp; clear q0 q1 q2 q3 q4 q5 q6
        obtain ⟨wc, hw, cn, bn⟩ := news1 wc (.cells #[] 40)
        rw [← hw, NSpe.out]
        rw [NSpe.out] at bn
        have EO := h_ (own_emptyE bn)
        have LTpe := h_ (lt_of_heap bn)
        replace C := h_ (C.out.trans cn)
        try replace XR := h_ (XR.out.chg cn (by simp))
        try have NE : Hid (px ≠ pe) := h_ (by have := NSpe.out; have := LTpx.out; omega)
        clear hw cn bn
        refine hK.out _ _ (DX.out _ C.out) (fun hHeld => ?_)
        clear hK K; try simp only [Act.put, sA, s0, s1]
        refine wpAnyH_ready (rs := [4, 9]) (by kernel_rfl) (by simp) ?_
        refine AllReadyH.cons rfl (fun K hK => ?_) (AllReadyH.cons rfl (fun K hK => ?_) AllReadyH.nil)
        ·
         skip
         replace hK := h_ hK
         refine step_appK (R := evTy) rfl (.tmp 46) (.tmp 49) rfl rfl (A := some ⟨pe, 0, none⟩) (B := some ⟨g2, 0, none⟩) (n := 0) (m := k) (c := 0) (d := c2) (xs := []) (ys := zs.take (k)) EO.out rfl rfl (R1.out _ C.out) N1.out ?_
         rw [Nat.zero_add]
         intro A5 c5 wc o5 g5 e5
         have O5 := h_ o5
         have F5 := h_ (fresh_appE SZpe.out C.out g5 e5)
         replace C := h_ F5.out.2
         try replace XR := h_ (rd_overE XR.out NE.out g5)
         clear o5 g5 e5
         refine hK.out _ _ (DX.out _ C.out) (fun hHeld => ?_)
         clear hK K; try simp only [Act.put, sA, s0, s1]
         refine on1 9 rfl (fun K hK => ?_)
         have hHeld := DX.out _ C.out
         obtain ⟨q0, q1, q2, q3, q4, q5, q6⟩ := hHeld
         obtain ⟨px, hpp⟩ : ∃ p, wc.heap.size = p := ⟨_, rfl⟩
         have SZpx := h_ (sizedE C.out hpp)
         have NSpx := h_ hpp
         clear hpp; go_simp; clear q0 q1 q2 q3 q4 q5 q6
         obtain ⟨wc, hw, cn, bn⟩ := news1 wc (.cells #[.int .i64 x.n, .int .i64 x.s, .string x.p, .int .i64 x.k, .int .i64 x.m, .slice x.A x.l x.c, .slice x.B x.bl x.bc] 40)
         rw [← hw, NSpx.out]
         rw [NSpx.out] at bn
         have XR := h_ (rd_oneEc (X := x) bn)
         have LTpx := h_ (lt_of_heap bn)
         replace C := h_ (C.out.trans cn)
         try replace EO := h_ (EO.out.chg cn (by simp))
         try replace O5 := h_ (O5.out.chg cn (by simp))
         try have NE : Hid (px ≠ pe) := h_ (by have := NSpx.out; have := LTpe.out; omega)
         clear hw cn bn
         refine hK.out _ _ (DX.out _ C.out) (fun hHeld => ?_)
         clear hK K; try simp only [Act.put, sA, s0, s1]
         refine on1 10 rfl (fun K hK => ?_)
         refine step_appK (R := evTy) rfl (.tmp 50) (.tmp 55) rfl rfl (A := A5) (B := some ⟨px, 0, none⟩) (n := k) (m := 1) (c := c5) (d := 1) (xs := [] ++ zs.take (k)) (ys := [x]) O5.out L1.out rfl XR.out N2.out ?_
         intro A6 c6 wc o6 g6 e6
         have O6 := h_ o6
         have F6 := h_ (fresh_appE F5.out.1 C.out g6 e6)
         replace C := h_ F6.out.2
         clear o6 g6 e6
         refine hK.out _ _ (DX.out _ C.out) (fun hHeld => ?_)
         clear hK K; try simp only [Act.put, sA, s0, s1]
         refine on1 14 rfl (fun K hK => ?_)
         refine step_appK (R := evTy) rfl (.tmp 56) (.tmp 59) rfl rfl (A := A6) (B := AD) (n := k + 1) (m := zs.length - k) (c := c6) (d := c2 - k) (xs := [] ++ zs.take (k) ++ [x]) (ys := zs.drop (k)) O6.out L2.out rfl (R2.out _ C.out) N3.out ?_
         intro A7 c7 wc o7 g7 e7
         have O7 := h_ o7
         have F7 := h_ (fresh_appE F6.out.1 C.out g7 e7)
         replace C := h_ F7.out.2
         clear o7 g7 e7
         refine hK.out _ _ (DX.out _ C.out) (fun hHeld => ?_)
         clear hK K; try simp only [Act.put, sA, s0, s1]
         refine sy 15 6 rfl rfl ?_ (hS := (DX.out _ C.out))
         try simp only [Act.put, sA, s0, s1]
         refine wpAnyH_done (by kernel_rfl) ?_ _; clear hHeld
         have O8 : Hid (OwnK evTy wc A7 c7 (zs.take (k) ++ x :: zs.drop (k))) := h_ (by have q := O7.out; simpa using q)
         exact JOIN pe px A5 c5 A6 c6 A7 c7 wc ⟨O8, h_ F7.out.1, C⟩
        ·
         skip
         replace hK := h_ hK
         have hHeld := DX.out _ C.out
         obtain ⟨q0, q1, q2, q3, q4, q5, q6⟩ := hHeld
         obtain ⟨px, hpp⟩ : ∃ p, wc.heap.size = p := ⟨_, rfl⟩
         have SZpx := h_ (sizedE C.out hpp)
         have NSpx := h_ hpp
         clear hpp; go_simp; clear q0 q1 q2 q3 q4 q5 q6
         obtain ⟨wc, hw, cn, bn⟩ := news1 wc (.cells #[.int .i64 x.n, .int .i64 x.s, .string x.p, .int .i64 x.k, .int .i64 x.m, .slice x.A x.l x.c, .slice x.B x.bl x.bc] 40)
         rw [← hw, NSpx.out]
         rw [NSpx.out] at bn
         have XR := h_ (rd_oneEc (X := x) bn)
         have LTpx := h_ (lt_of_heap bn)
         replace C := h_ (C.out.trans cn)
         try replace EO := h_ (EO.out.chg cn (by simp))
         try replace O5 := h_ (O5.out.chg cn (by simp))
         try have NE : Hid (px ≠ pe) := h_ (by have := NSpx.out; have := LTpe.out; omega)
         clear hw cn bn
         refine hK.out _ _ (DX.out _ C.out) (fun hHeld => ?_)
         clear hK K; try simp only [Act.put, sA, s0, s1]
         refine on1 4 rfl (fun K hK => ?_)
         refine step_appK (R := evTy) rfl (.tmp 46) (.tmp 49) rfl rfl (A := some ⟨pe, 0, none⟩) (B := some ⟨g2, 0, none⟩) (n := 0) (m := k) (c := 0) (d := c2) (xs := []) (ys := zs.take (k)) EO.out rfl rfl (R1.out _ C.out) N1.out ?_
         rw [Nat.zero_add]
         intro A5 c5 wc o5 g5 e5
         have O5 := h_ o5
         have F5 := h_ (fresh_appE SZpe.out C.out g5 e5)
         replace C := h_ F5.out.2
         try replace XR := h_ (rd_overE XR.out NE.out g5)
         clear o5 g5 e5
         refine hK.out _ _ (DX.out _ C.out) (fun hHeld => ?_)
         clear hK K; try simp only [Act.put, sA, s0, s1]
         refine on1 10 rfl (fun K hK => ?_)
         refine step_appK (R := evTy) rfl (.tmp 50) (.tmp 55) rfl rfl (A := A5) (B := some ⟨px, 0, none⟩) (n := k) (m := 1) (c := c5) (d := 1) (xs := [] ++ zs.take (k)) (ys := [x]) O5.out L1.out rfl XR.out N2.out ?_
         intro A6 c6 wc o6 g6 e6
         have O6 := h_ o6
         have F6 := h_ (fresh_appE F5.out.1 C.out g6 e6)
         replace C := h_ F6.out.2
         clear o6 g6 e6
         refine hK.out _ _ (DX.out _ C.out) (fun hHeld => ?_)
         clear hK K; try simp only [Act.put, sA, s0, s1]
         refine on1 14 rfl (fun K hK => ?_)
         refine step_appK (R := evTy) rfl (.tmp 56) (.tmp 59) rfl rfl (A := A6) (B := AD) (n := k + 1) (m := zs.length - k) (c := c6) (d := c2 - k) (xs := [] ++ zs.take (k) ++ [x]) (ys := zs.drop (k)) O6.out L2.out rfl (R2.out _ C.out) N3.out ?_
         intro A7 c7 wc o7 g7 e7
         have O7 := h_ o7
         have F7 := h_ (fresh_appE F6.out.1 C.out g7 e7)
         replace C := h_ F7.out.2
         clear o7 g7 e7
         refine hK.out _ _ (DX.out _ C.out) (fun hHeld => ?_)
         clear hK K; try simp only [Act.put, sA, s0, s1]
         refine sy 15 6 rfl rfl ?_ (hS := (DX.out _ C.out))
         try simp only [Act.put, sA, s0, s1]
         refine wpAnyH_done (by kernel_rfl) ?_ _; clear hHeld
         have O8 : Hid (OwnK evTy wc A7 c7 (zs.take (k) ++ x :: zs.drop (k))) := h_ (by have q := O7.out; simpa using q)
         exact JOIN pe px A5 c5 A6 c6 A7 c7 wc ⟨O8, h_ F7.out.1, C⟩
       ·
        skip
        replace hK := h_ hK
        have hHeld := DX.out _ C.out
        obtain ⟨q0, q1, q2, q3, q4, q5, q6⟩ := hHeld
        obtain ⟨px, hpp⟩ : ∃ p, wc.heap.size = p := ⟨_, rfl⟩
        have SZpx := h_ (sizedE C.out hpp)
        have NSpx := h_ hpp
        clear hpp; go_simp; clear q0 q1 q2 q3 q4 q5 q6
        obtain ⟨wc, hw, cn, bn⟩ := news1 wc (.cells #[.int .i64 x.n, .int .i64 x.s, .string x.p, .int .i64 x.k, .int .i64 x.m, .slice x.A x.l x.c, .slice x.B x.bl x.bc] 40)
        rw [← hw, NSpx.out]
        rw [NSpx.out] at bn
        have XR := h_ (rd_oneEc (X := x) bn)
        have LTpx := h_ (lt_of_heap bn)
        replace C := h_ (C.out.trans cn)
        try replace EO := h_ (EO.out.chg cn (by simp))
        try replace O5 := h_ (O5.out.chg cn (by simp))
        try have NE : Hid (px ≠ pe) := h_ (by have := NSpx.out; have := LTpe.out; omega)
        clear hw cn bn
        refine hK.out _ _ (DX.out _ C.out) (fun hHeld => ?_)
        clear hK K; try simp only [Act.put, sA, s0, s1]
        refine on1 0 rfl (fun K hK => ?_)
        have hHeld := DX.out _ C.out
        obtain ⟨q0, q1, q2, q3, q4, q5, q6⟩ := hHeld
        obtain ⟨pe, hpp⟩ : ∃ p, wc.heap.size = p := ⟨_, rfl⟩
        have SZpe := h_ (sizedE C.out hpp)
        have NSpe := h_ hpp
        clear hpp; go_simp; clear q0 q1 q2 q3 q4 q5 q6
        obtain ⟨wc, hw, cn, bn⟩ := news1 wc (.cells #[] 40)
        rw [← hw, NSpe.out]
        rw [NSpe.out] at bn
        have EO := h_ (own_emptyE bn)
        have LTpe := h_ (lt_of_heap bn)
        replace C := h_ (C.out.trans cn)
        try replace XR := h_ (XR.out.chg cn (by simp))
        try have NE : Hid (px ≠ pe) := h_ (by have := NSpe.out; have := LTpx.out; omega)
        clear hw cn bn
        refine hK.out _ _ (DX.out _ C.out) (fun hHeld => ?_)
        clear hK K; try simp only [Act.put, sA, s0, s1]
        refine on1 4 rfl (fun K hK => ?_)
        refine step_appK (R := evTy) rfl (.tmp 46) (.tmp 49) rfl rfl (A := some ⟨pe, 0, none⟩) (B := some ⟨g2, 0, none⟩) (n := 0) (m := k) (c := 0) (d := c2) (xs := []) (ys := zs.take (k)) EO.out rfl rfl (R1.out _ C.out) N1.out ?_
        rw [Nat.zero_add]
        intro A5 c5 wc o5 g5 e5
        have O5 := h_ o5
        have F5 := h_ (fresh_appE SZpe.out C.out g5 e5)
        replace C := h_ F5.out.2
        try replace XR := h_ (rd_overE XR.out NE.out g5)
        clear o5 g5 e5
        refine hK.out _ _ (DX.out _ C.out) (fun hHeld => ?_)
        clear hK K; try simp only [Act.put, sA, s0, s1]
        refine on1 10 rfl (fun K hK => ?_)
        refine step_appK (R := evTy) rfl (.tmp 50) (.tmp 55) rfl rfl (A := A5) (B := some ⟨px, 0, none⟩) (n := k) (m := 1) (c := c5) (d := 1) (xs := [] ++ zs.take (k)) (ys := [x]) O5.out L1.out rfl XR.out N2.out ?_
        intro A6 c6 wc o6 g6 e6
        have O6 := h_ o6
        have F6 := h_ (fresh_appE F5.out.1 C.out g6 e6)
        replace C := h_ F6.out.2
        clear o6 g6 e6
        refine hK.out _ _ (DX.out _ C.out) (fun hHeld => ?_)
        clear hK K; try simp only [Act.put, sA, s0, s1]
        refine on1 14 rfl (fun K hK => ?_)
        refine step_appK (R := evTy) rfl (.tmp 56) (.tmp 59) rfl rfl (A := A6) (B := AD) (n := k + 1) (m := zs.length - k) (c := c6) (d := c2 - k) (xs := [] ++ zs.take (k) ++ [x]) (ys := zs.drop (k)) O6.out L2.out rfl (R2.out _ C.out) N3.out ?_
        intro A7 c7 wc o7 g7 e7
        have O7 := h_ o7
        have F7 := h_ (fresh_appE F6.out.1 C.out g7 e7)
        replace C := h_ F7.out.2
        clear o7 g7 e7
        refine hK.out _ _ (DX.out _ C.out) (fun hHeld => ?_)
        clear hK K; try simp only [Act.put, sA, s0, s1]
        refine sy 15 6 rfl rfl ?_ (hS := (DX.out _ C.out))
        try simp only [Act.put, sA, s0, s1]
        refine wpAnyH_done (by kernel_rfl) ?_ _; clear hHeld
        have O8 : Hid (OwnK evTy wc A7 c7 (zs.take (k) ++ x :: zs.drop (k))) := h_ (by have q := O7.out; simpa using q)
        exact JOIN pe px A5 c5 A6 c6 A7 c7 wc ⟨O8, h_ F7.out.1, C⟩
      case rest =>
       intro pe px A5 c5 A6 c6 A7 c7 w7 FJ
       obtain ⟨O7, F7, C7⟩ := FJ
       have PC7 := h_ (PC.out.trans (QC.out.trans (KD.out.trans C7.out)))
       have FN : Hid (∀ a, A7 = some a → w4.heap.size ≤ a.block) := h_ (fun a ha => by have := F7.out a ha; have := (PC.out.trans (QC.out.trans KD.out)).size; omega)
       clear R1 R2 DX XC N1 N2 N3 L1 L2 C F7 KD C7 TO PC QC
       have TE7 : Hid (EvsR w4 (zs.take (k) ++ x :: zs.drop (k)) (gs.take (k) ++ e :: gs.drop (k))) := h_ (TE.out.ins RX.out (k))
       have IE := h_ (insDt_at (l := gs) (x := e) (k := k) (by have := TE.out.1; have := KL.out; omega) KLT.out KND.out)
       rw [← IE.out] at TE7
       obtain ⟨us, hus⟩ : ∃ us, us = zs.take (k) ++ x :: zs.drop (k) := ⟨_, rfl⟩
       have UL : Hid (k + 1 + (zs.length - k) = us.length) := h_ (by rw [hus]; have := KL.out; simp <;> omega)
       rw [← hus] at O7 TE7
       clear hus TE IE
       go_upto_region 7 with fail
       rw [UL.out]
       go_wp2; go_round
       case rel => exact ⟨i + 1, A7, c7, us, insDt gs e, by omega, by go_num, by first | rfl | rw [UL.out] | (have q := UL.out; simp at q; simp [← q]), O7, TE7, h_ (by rw [GE.out, ← byDt_snoc, List.take_add_one, EE.out]; rfl), FN, PC7⟩
       case measure => simp [RowKit.intOf]; omega
     have k1 : (k : Int) < (zs.length : Int) := by omega
     have k2 : decide ((k : Int) < (zs.length : Int)) = true := decide_eq_true k1
     have k3 : IntKind.i64.wrap ((k : Int) + 1) = (k : Int) + 1 := IntWalk.i64_in _ (by have := ZLN.out; omega)
     have k4 : decide (k < zs.length) = true := decide_eq_true hkl
     obtain ⟨u, d, eu, ed, ru⟩ := TE.out.at_ hkl
     have EU := h_ eu
     have ED := h_ ed
     have HB : Hid (∀ w', Chg [] wr w' → (w'.cell? ⟨g2, k * 7, none⟩ = some (.int .i64 u.n) ∧ w'.cell? ⟨g2, k * 7 + 1, none⟩ = some (.int .i64 u.s)) ∧ w'.cell? ⟨g3, o3 + i * 7, none⟩ = some (.int .i64 x.n) ∧ w'.cell? ⟨g3, o3 + i * 7 + 1, none⟩ = some (.int .i64 x.s)) := h_ (fun w' hc => by
      have p := evCells (TO.out.reads.chg (QC.out.trans hc) (by simp)) EU.out
      have q := evCells (HF.out.chg (PC.out.trans (QC.out.trans hc)) (by simp)) EX.out
      simp only [Nat.zero_add] at p
      exact ⟨⟨p.1, p.2.1⟩, q.1, q.2.1⟩)
     have HL := fun w' => hless_any w' u.n u.s x.n x.s
     have LT : Hid (LtD u.n u.s x.n x.s ↔ LtEv d e) := h_ (by unfold LtEv; rw [ru.n, ru.s, RX.out.n, RX.out.s])
     clear eu ed ru
     by_cases hd : LtEv d e
     ·
      skip
      have HL2 := HL
      have ev : decide (LtD u.n u.s x.n x.s) = true := decide_eq_true (LT.out.2 hd)
      simp only [ev] at HL2
      have HLH := h_ HL2
      clear HL HL2 ev
      have KLT1 : Hid (∀ y ∈ gs.take (k + 1), LtEv y e) := h_ (fun y hy => by
       rw [List.take_add_one, ED.out] at hy
       rcases List.mem_append.1 hy with q | q
       ·
        exact KLT.out y q
       ·
        simp at q; rw [q]; exact hd)
      clear hd
      go_upto_region 9 with fail
      refine wp_region_held_drew (S := fun w' => Chg [] wr w') (by kernel_rfl) (Chg.refl [] wr).drew (fun hHeld => ?_)
      refine sy 0 27 rfl rfl ?_; try simp only [Act.put, sA, s0, s1]
      refine sy 1 28 rfl rfl ?_; try simp only [Act.put, sA, s0, s1]
      refine sy 2 29 rfl rfl ?_; try simp only [Act.put, sA, s0, s1]
      refine sy 3 30 rfl rfl ?_; try simp only [Act.put, sA, s0, s1]
      refine sy 4 31 rfl rfl ?_; try simp only [Act.put, sA, s0, s1]
      refine sy 5 32 rfl rfl ?_; try simp only [Act.put, sA, s0, s1]
      refine sy 6 33 rfl rfl ?_; try simp only [Act.put, sA, s0, s1]
      refine sy 7 34 rfl rfl ?_; try simp only [Act.put, sA, s0, s1]
      refine sy 8 35 rfl rfl ?_; try simp only [Act.put, sA, s0, s1]
      refine sy 9 36 rfl rfl ?_ (hy := by (intro w hSw; (try dsimp only at hSw); obtain ⟨⟨q0, q1⟩, q2, q3⟩ := HB.out _ hSw; go_simp; try with_reducible rfl))
      try simp only [Act.put, sA, s0, s1]
      refine sy 10 37 rfl rfl ?_; try simp only [Act.put, sA, s0, s1]
      refine sy 11 38 rfl rfl ?_; try simp only [Act.put, sA, s0, s1]
      refine sy 12 39 rfl rfl ?_; try simp only [Act.put, sA, s0, s1]
      refine sy 13 40 rfl rfl ?_; try simp only [Act.put, sA, s0, s1]
      refine sy 14 41 rfl rfl ?_ (hy := by (intro w hSw; (try dsimp only at hSw); obtain ⟨⟨q0, q1⟩, q2, q3⟩ := HB.out _ hSw; go_simp; try with_reducible rfl))
      try simp only [Act.put, sA, s0, s1]
      refine on1 15 rfl (fun K hK => ?_)
      go_simp
      refine (HLH.out _).mono ?_
      rintro r w9 ⟨rfl, hc⟩
      have C9 := h_ (hHeld.trans hc)
      clear hc hHeld
      refine hK.out _ _ C9.out (fun hHeld => ?_)
      clear hK K; try simp only [Act.put, sA, s0, s1]
      refine sy 16 43 rfl rfl ?_; try simp only [Act.put, sA, s0, s1]
      refine wpAnyH_done (by kernel_rfl) ?_ _
      have QC9 := h_ (QC.out.trans C9.out)
      clear hHeld HB HLH C9; go_wp2; go_round
      case rel => exact ⟨k + 1, by omega, by go_num, KLT1, QC9⟩
      case measure => simp [RowKit.intOf]; omega
     ·
      skip
      have HL2 := HL
      have ev : decide (LtD u.n u.s x.n x.s) = false := decide_eq_false (fun q => hd (LT.out.1 q))
      simp only [ev] at HL2
      have HLH := h_ HL2
      clear HL HL2 ev
      have KND : Hid (k = gs.length ∨ ∃ y, gs[k]? = some y ∧ ¬ LtEv y e) := h_ (.inr ⟨d, ED.out, hd⟩)
      clear hd
      go_upto_region 9 with fail
      refine wp_region_held_drew (S := fun w' => Chg [] wr w') (by kernel_rfl) (Chg.refl [] wr).drew (fun hHeld => ?_)
      refine sy 0 27 rfl rfl ?_; try simp only [Act.put, sA, s0, s1]
      refine sy 1 28 rfl rfl ?_; try simp only [Act.put, sA, s0, s1]
      refine sy 2 29 rfl rfl ?_; try simp only [Act.put, sA, s0, s1]
      refine sy 3 30 rfl rfl ?_; try simp only [Act.put, sA, s0, s1]
      refine sy 4 31 rfl rfl ?_; try simp only [Act.put, sA, s0, s1]
      refine sy 5 32 rfl rfl ?_; try simp only [Act.put, sA, s0, s1]
      refine sy 6 33 rfl rfl ?_; try simp only [Act.put, sA, s0, s1]
      refine sy 7 34 rfl rfl ?_; try simp only [Act.put, sA, s0, s1]
      refine sy 8 35 rfl rfl ?_; try simp only [Act.put, sA, s0, s1]
      refine sy 9 36 rfl rfl ?_ (hy := by (intro w hSw; (try dsimp only at hSw); obtain ⟨⟨q0, q1⟩, q2, q3⟩ := HB.out _ hSw; go_simp; try with_reducible rfl))
      try simp only [Act.put, sA, s0, s1]
      refine sy 10 37 rfl rfl ?_; try simp only [Act.put, sA, s0, s1]
      refine sy 11 38 rfl rfl ?_; try simp only [Act.put, sA, s0, s1]
      refine sy 12 39 rfl rfl ?_; try simp only [Act.put, sA, s0, s1]
      refine sy 13 40 rfl rfl ?_; try simp only [Act.put, sA, s0, s1]
      refine sy 14 41 rfl rfl ?_ (hy := by (intro w hSw; (try dsimp only at hSw); obtain ⟨⟨q0, q1⟩, q2, q3⟩ := HB.out _ hSw; go_simp; try with_reducible rfl))
      try simp only [Act.put, sA, s0, s1]
      refine on1 15 rfl (fun K hK => ?_)
      go_simp
      refine (HLH.out _).mono ?_
      rintro r w9 ⟨rfl, hc⟩
      have C9 := h_ (hHeld.trans hc)
      clear hc hHeld
      refine hK.out _ _ C9.out (fun hHeld => ?_)
      clear hK K; try simp only [Act.put, sA, s0, s1]
      refine sy 16 43 rfl rfl ?_; try simp only [Act.put, sA, s0, s1]
      refine wpAnyH_done (by kernel_rfl) ?_ _
      have QC9 := h_ (QC.out.trans C9.out)
      clear hHeld HB HLH C9 QC k1 k2 k3 k4 hk hkl
      obtain ⟨wq, hwq⟩ : ∃ q, w9 = q := ⟨_, rfl⟩
      have QC := h_ QC9.out
      rw [hwq] at QC ⊢
      clear QC9 hwq EU ED LT
      have HC2 := TO.out.cap
      have b0 : (0 : Int) ≤ (k : Nat) := Int.natCast_nonneg _
      have b1 : k ≤ c2 := by have := KL.out; omega
      have b2 : ((k : Nat) : Int) ≤ (c2 : Int) := by omega
      have b3 : ((k : Nat) : Int) ≤ (zs.length : Int) := by have := KL.out; omega
      have b4 : k ≤ zs.length := KL.out
      obtain ⟨AD, hAD⟩ : ∃ AD : Option Addr, (if c2 = k then some (⟨g2, 0, none⟩ : Addr) else some ⟨g2, k * 7, none⟩) = AD := ⟨_, rfl⟩
      have ADR : Hid (∀ w', OwnK evTy w' (some ⟨g2, 0, none⟩) c2 zs → RdK evTy w' AD (zs.length - k) (zs.drop k)) := h_ (fun w' ho => by
       rw [← hAD]
       by_cases q : c2 = k
       ·
        have e : zs.drop k = [] := List.drop_of_length_le (by have := ho.cap.1; omega)
        rw [e, show zs.length - k = 0 by have := ho.cap.1; omega]
        exact RdK.nil _ _
       ·
        rw [if_neg q]
        have r := ho.reads.part k (zs.length - k) (by have := KL.out; omega)
        rw [List.take_of_length_le (by rw [List.length_drop]; omega), Nat.zero_add] at r
        exact r)
      clear HC2
      go_upto_region 11 with fail
      have XC : Hid (∀ w', Chg [] wq w' → _) := h_ (fun w' hc => evCells (HF.out.chg (PC.out.trans (QC.out.trans hc)) (by simp)) EX.out)
      refine wp_region_held_drew (S := fun w' => w'.cell? ⟨g3, o3 + i * 7, none⟩ = some (.int .i64 x.n) ∧ w'.cell? ⟨g3, o3 + i * 7 + 1, none⟩ = some (.int .i64 x.s) ∧ w'.cell? ⟨g3, o3 + i * 7 + 2, none⟩ = some (.string x.p) ∧ w'.cell? ⟨g3, o3 + i * 7 + 3, none⟩ = some (.int .i64 x.k) ∧ w'.cell? ⟨g3, o3 + i * 7 + 4, none⟩ = some (.int .i64 x.m) ∧ w'.cell? ⟨g3, o3 + i * 7 + 5, none⟩ = some (.slice x.A x.l x.c) ∧ w'.cell? ⟨g3, o3 + i * 7 + 6, none⟩ = some (.slice x.B x.bl x.bc)) (by kernel_rfl) (XC.out _ (Chg.refl [] wq).drew) (fun hHeld => ?_)
      have KD := h_ (Chg.refl [] wq).drew
      clear hHeld
      generalize wq.drew = wd at *
      have DX : Hid (∀ w', Chg [] wd w' → _) := h_ (fun w' hc => XC.out w' (KD.out.trans hc))
      have R1 : Hid (∀ w', Chg [] wd w' → RdK evTy w' (some ⟨g2, 0, none⟩) (k) (zs.take (k))) := h_ (fun w' hc => by
       have q := (TO.out.take (k)).reads.chg (QC.out.trans (KD.out.trans hc)) (by simp)
       rwa [List.length_take, Nat.min_eq_left KL.out] at q)
      have R2 : Hid (∀ w', Chg [] wd w' → RdK evTy w' AD (zs.length - k) (zs.drop k)) := h_ (fun w' hc => ADR.out w' (TO.out.chg (QC.out.trans (KD.out.trans hc)) (by simp)))
      have N1 : Hid ((0 + (k)) * 400 ≤ 140737488355327) := h_ (by have := ZLN.out; have := KL.out; omega)
      have N2 : Hid ((k + 1) * 400 ≤ 140737488355327) := h_ (by have := ZLN.out; have := KL.out; omega)
      have N3 : Hid ((k + 1 + (zs.length - k)) * 400 ≤ 140737488355327) := h_ (by have := ZLN.out; have := KL.out; omega)
      have L1 : Hid (([] ++ zs.take (k)).length = k) := h_ (by have := KL.out; simp; try omega)
      have L2 : Hid (([] ++ zs.take (k) ++ [x]).length = k + 1) := h_ (by have := KL.out; simp; try omega)
      obtain ⟨wc, hwc⟩ : ∃ wc, wd = wc := ⟨_, rfl⟩
      have C : Hid (Chg [] wd wc) := h_ (hwc ▸ Chg.refl [] wd)
      rw [hwc]
      clear hwc
      refine' joinT9 (F := fun (p q : Nat) (A5 : Option Addr) (c5 : Nat) (A6 : Option Addr) (c6 : Nat) (A7 : Option Addr) (c7 : Nat) (w7 : World) => Hid (OwnK evTy w7 A7 c7 (zs.take (k) ++ x :: zs.drop (k))) ∧ Hid (∀ a, A7 = some a → wd.heap.size ≤ a.block) ∧ Hid (Chg [] wd w7)) (R := _) (fun JOIN => ?leaf) ?rest
      case leaf =>
       refine sy 1 47 rfl rfl ?_ (hS := (DX.out _ C.out))
       try simp only [Act.put, sA, s0, s1]
       refine sy 2 48 rfl rfl ?_ (hS := (DX.out _ C.out))
       try simp only [Act.put, sA, s0, s1]
       refine sy 3 49 rfl rfl ?_ (hS := (DX.out _ C.out))
       try simp only [Act.put, sA, s0, s1]
       refine sy 5 51 rfl rfl ?_ (hS := (DX.out _ C.out))
       try simp only [Act.put, sA, s0, s1]
       refine sy 6 52 rfl rfl ?_ (hS := (DX.out _ C.out))
       try simp only [Act.put, sA, s0, s1]
       refine sy 7 53 rfl rfl ?_ (hS := (DX.out _ C.out))
       try simp only [Act.put, sA, s0, s1]
       refine sy 8 54 rfl rfl ?_ (hS := (DX.out _ C.out)) (hy := by (intro w hSw; (try dsimp only at hSw); obtain ⟨q0, q1, q2, q3, q4, q5, q6⟩ := hSw; go_simp; try with_reducible rfl))
       try simp only [Act.put, sA, s0, s1]
       refine sy 11 57 rfl rfl ?_ (hS := (DX.out _ C.out))
       try simp only [Act.put, sA, s0, s1]
       refine sy 12 58 rfl rfl ?_ (hS := (DX.out _ C.out))
       try simp only [Act.put, sA, s0, s1]
       refine sy 13 59 rfl rfl ?_ (hS := (DX.out _ C.out))
       try simp only [Act.put, sA, s0, s1]
       refine wpAnyH_ready (rs := [0, 9]) (by kernel_rfl) (by simp) ?_
       refine AllReadyH.cons rfl (fun K hK => ?_) (AllReadyH.cons rfl (fun K hK => ?_) AllReadyH.nil)
       ·
        skip
        replace hK := h_ hK
        have hHeld := DX.out _ C.out
        obtain ⟨q0, q1, q2, q3, q4, q5, q6⟩ := hHeld
        obtain ⟨pe, hpp⟩ : ∃ p, wc.heap.size = p := ⟨_, rfl⟩
        have SZpe := h_ (sizedE C.out hpp)
        have NSpe := h_ hpp
        clear hpp; go_simp; clear q0 q1 q2 q3 q4 q5 q6
        obtain ⟨wc, hw, cn, bn⟩ := news1 wc (.cells #[] 40)
        rw [← hw, NSpe.out]
        rw [NSpe.out] at bn
        have EO := h_ (own_emptyE bn)
        have LTpe := h_ (lt_of_heap bn)
        replace C := h_ (C.out.trans cn)
        try replace XR := h_ (XR.out.chg cn (by simp))
        try have NE : Hid (px ≠ pe) := h_ (by have := NSpe.out; have := LTpx.out; omega)
        clear hw cn bn
        refine hK.out _ _ (DX.out _ C.out) (fun hHeld => ?_)
        clear hK K; try simp only [Act.put, sA, s0, s1]
        refine wpAnyH_ready (rs := [4, 9]) (by kernel_rfl) (by simp) ?_
        refine AllReadyH.cons rfl (fun K hK => ?_) (AllReadyH.cons rfl (fun K hK => ?_) AllReadyH.nil)
        ·
         skip
         replace hK := h_ hK
         refine step_appK (R := evTy) rfl (.tmp 46) (.tmp 49) rfl rfl (A := some ⟨pe, 0, none⟩) (B := some ⟨g2, 0, none⟩) (n := 0) (m := k) (c := 0) (d := c2) (xs := []) (ys := zs.take (k)) EO.out rfl rfl (R1.out _ C.out) N1.out ?_
         rw [Nat.zero_add]
         intro A5 c5 wc o5 g5 e5
         have O5 := h_ o5
         have F5 := h_ (fresh_appE SZpe.out C.out g5 e5)
         replace C := h_ F5.out.2
         try replace XR := h_ (rd_overE XR.out NE.out g5)
         clear o5 g5 e5
         refine hK.out _ _ (DX.out _ C.out) (fun hHeld => ?_)
         clear hK K; try simp only [Act.put, sA, s0, s1]
         refine on1 9 rfl (fun K hK => ?_)
         have hHeld := DX.out _ C.out
         obtain ⟨q0, q1, q2, q3, q4, q5, q6⟩ := hHeld
         obtain ⟨px, hpp⟩ : ∃ p, wc.heap.size = p := ⟨_, rfl⟩
         have SZpx := h_ (sizedE C.out hpp)
         have NSpx := h_ hpp
         clear hpp; go_simp; clear q0 q1 q2 q3 q4 q5 q6
         obtain ⟨wc, hw, cn, bn⟩ := news1 wc (.cells #[.int .i64 x.n, .int .i64 x.s, .string x.p, .int .i64 x.k, .int .i64 x.m, .slice x.A x.l x.c, .slice x.B x.bl x.bc] 40)
         rw [← hw, NSpx.out]
         rw [NSpx.out] at bn
         have XR := h_ (rd_oneEc (X := x) bn)
         have LTpx := h_ (lt_of_heap bn)
         replace C := h_ (C.out.trans cn)
         try replace EO := h_ (EO.out.chg cn (by simp))
         try replace O5 := h_ (O5.out.chg cn (by simp))
         try have NE : Hid (px ≠ pe) := h_ (by have := NSpx.out; have := LTpe.out; omega)
         clear hw cn bn
         refine hK.out _ _ (DX.out _ C.out) (fun hHeld => ?_)
         clear hK K; try simp only [Act.put, sA, s0, s1]
         refine on1 10 rfl (fun K hK => ?_)
         refine step_appK (R := evTy) rfl (.tmp 50) (.tmp 55) rfl rfl (A := A5) (B := some ⟨px, 0, none⟩) (n := k) (m := 1) (c := c5) (d := 1) (xs := [] ++ zs.take (k)) (ys := [x]) O5.out L1.out rfl XR.out N2.out ?_
         intro A6 c6 wc o6 g6 e6
         have O6 := h_ o6
         have F6 := h_ (fresh_appE F5.out.1 C.out g6 e6)
         replace C := h_ F6.out.2
         clear o6 g6 e6
         refine hK.out _ _ (DX.out _ C.out) (fun hHeld => ?_)
         clear hK K; try simp only [Act.put, sA, s0, s1]
         refine on1 14 rfl (fun K hK => ?_)
         refine step_appK (R := evTy) rfl (.tmp 56) (.tmp 59) rfl rfl (A := A6) (B := AD) (n := k + 1) (m := zs.length - k) (c := c6) (d := c2 - k) (xs := [] ++ zs.take (k) ++ [x]) (ys := zs.drop (k)) O6.out L2.out rfl (R2.out _ C.out) N3.out ?_
         intro A7 c7 wc o7 g7 e7
         have O7 := h_ o7
         have F7 := h_ (fresh_appE F6.out.1 C.out g7 e7)
         replace C := h_ F7.out.2
         clear o7 g7 e7
         refine hK.out _ _ (DX.out _ C.out) (fun hHeld => ?_)
         clear hK K; try simp only [Act.put, sA, s0, s1]
         refine sy 15 6 rfl rfl ?_ (hS := (DX.out _ C.out))
         try simp only [Act.put, sA, s0, s1]
         refine wpAnyH_done (by kernel_rfl) ?_ _; clear hHeld
         have O8 : Hid (OwnK evTy wc A7 c7 (zs.take (k) ++ x :: zs.drop (k))) := h_ (by have q := O7.out; simpa using q)
         exact JOIN pe px A5 c5 A6 c6 A7 c7 wc ⟨O8, h_ F7.out.1, C⟩
        ·
         skip
         replace hK := h_ hK
         have hHeld := DX.out _ C.out
         obtain ⟨q0, q1, q2, q3, q4, q5, q6⟩ := hHeld
         obtain ⟨px, hpp⟩ : ∃ p, wc.heap.size = p := ⟨_, rfl⟩
         have SZpx := h_ (sizedE C.out hpp)
         have NSpx := h_ hpp
         clear hpp; go_simp; clear q0 q1 q2 q3 q4 q5 q6
         obtain ⟨wc, hw, cn, bn⟩ := news1 wc (.cells #[.int .i64 x.n, .int .i64 x.s, .string x.p, .int .i64 x.k, .int .i64 x.m, .slice x.A x.l x.c, .slice x.B x.bl x.bc] 40)
         rw [← hw, NSpx.out]
         rw [NSpx.out] at bn
         have XR := h_ (rd_oneEc (X := x) bn)
         have LTpx := h_ (lt_of_heap bn)
         replace C := h_ (C.out.trans cn)
         try replace EO := h_ (EO.out.chg cn (by simp))
         try replace O5 := h_ (O5.out.chg cn (by simp))
         try have NE : Hid (px ≠ pe) := h_ (by have := NSpx.out; have := LTpe.out; omega)
         clear hw cn bn
         refine hK.out _ _ (DX.out _ C.out) (fun hHeld => ?_)
         clear hK K; try simp only [Act.put, sA, s0, s1]
         refine on1 4 rfl (fun K hK => ?_)
         refine step_appK (R := evTy) rfl (.tmp 46) (.tmp 49) rfl rfl (A := some ⟨pe, 0, none⟩) (B := some ⟨g2, 0, none⟩) (n := 0) (m := k) (c := 0) (d := c2) (xs := []) (ys := zs.take (k)) EO.out rfl rfl (R1.out _ C.out) N1.out ?_
         rw [Nat.zero_add]
         intro A5 c5 wc o5 g5 e5
         have O5 := h_ o5
         have F5 := h_ (fresh_appE SZpe.out C.out g5 e5)
         replace C := h_ F5.out.2
         try replace XR := h_ (rd_overE XR.out NE.out g5)
         clear o5 g5 e5
         refine hK.out _ _ (DX.out _ C.out) (fun hHeld => ?_)
         clear hK K; try simp only [Act.put, sA, s0, s1]
         refine on1 10 rfl (fun K hK => ?_)
         refine step_appK (R := evTy) rfl (.tmp 50) (.tmp 55) rfl rfl (A := A5) (B := some ⟨px, 0, none⟩) (n := k) (m := 1) (c := c5) (d := 1) (xs := [] ++ zs.take (k)) (ys := [x]) O5.out L1.out rfl XR.out N2.out ?_
         intro A6 c6 wc o6 g6 e6
         have O6 := h_ o6
         have F6 := h_ (fresh_appE F5.out.1 C.out g6 e6)
         replace C := h_ F6.out.2
         clear o6 g6 e6
         refine hK.out _ _ (DX.out _ C.out) (fun hHeld => ?_)
         clear hK K; try simp only [Act.put, sA, s0, s1]
         refine on1 14 rfl (fun K hK => ?_)
         refine step_appK (R := evTy) rfl (.tmp 56) (.tmp 59) rfl rfl (A := A6) (B := AD) (n := k + 1) (m := zs.length - k) (c := c6) (d := c2 - k) (xs := [] ++ zs.take (k) ++ [x]) (ys := zs.drop (k)) O6.out L2.out rfl (R2.out _ C.out) N3.out ?_
         intro A7 c7 wc o7 g7 e7
         have O7 := h_ o7
         have F7 := h_ (fresh_appE F6.out.1 C.out g7 e7)
         replace C := h_ F7.out.2
         clear o7 g7 e7
         refine hK.out _ _ (DX.out _ C.out) (fun hHeld => ?_)
         clear hK K; try simp only [Act.put, sA, s0, s1]
         refine sy 15 6 rfl rfl ?_ (hS := (DX.out _ C.out))
         try simp only [Act.put, sA, s0, s1]
         refine wpAnyH_done (by kernel_rfl) ?_ _; clear hHeld
         have O8 : Hid (OwnK evTy wc A7 c7 (zs.take (k) ++ x :: zs.drop (k))) := h_ (by have q := O7.out; simpa using q)
         exact JOIN pe px A5 c5 A6 c6 A7 c7 wc ⟨O8, h_ F7.out.1, C⟩
       ·
        skip
        replace hK := h_ hK
        have hHeld := DX.out _ C.out
        obtain ⟨q0, q1, q2, q3, q4, q5, q6⟩ := hHeld
        obtain ⟨px, hpp⟩ : ∃ p, wc.heap.size = p := ⟨_, rfl⟩
        have SZpx := h_ (sizedE C.out hpp)
        have NSpx := h_ hpp
        clear hpp; go_simp; clear q0 q1 q2 q3 q4 q5 q6
        obtain ⟨wc, hw, cn, bn⟩ := news1 wc (.cells #[.int .i64 x.n, .int .i64 x.s, .string x.p, .int .i64 x.k, .int .i64 x.m, .slice x.A x.l x.c, .slice x.B x.bl x.bc] 40)
        rw [← hw, NSpx.out]
        rw [NSpx.out] at bn
        have XR := h_ (rd_oneEc (X := x) bn)
        have LTpx := h_ (lt_of_heap bn)
        replace C := h_ (C.out.trans cn)
        try replace EO := h_ (EO.out.chg cn (by simp))
        try replace O5 := h_ (O5.out.chg cn (by simp))
        try have NE : Hid (px ≠ pe) := h_ (by have := NSpx.out; have := LTpe.out; omega)
        clear hw cn bn
        refine hK.out _ _ (DX.out _ C.out) (fun hHeld => ?_)
        clear hK K; try simp only [Act.put, sA, s0, s1]
        refine on1 0 rfl (fun K hK => ?_)
        have hHeld := DX.out _ C.out
        obtain ⟨q0, q1, q2, q3, q4, q5, q6⟩ := hHeld
        obtain ⟨pe, hpp⟩ : ∃ p, wc.heap.size = p := ⟨_, rfl⟩
        have SZpe := h_ (sizedE C.out hpp)
        have NSpe := h_ hpp
        clear hpp; go_simp; clear q0 q1 q2 q3 q4 q5 q6
        obtain ⟨wc, hw, cn, bn⟩ := news1 wc (.cells #[] 40)
        rw [← hw, NSpe.out]
        rw [NSpe.out] at bn
        have EO := h_ (own_emptyE bn)
        have LTpe := h_ (lt_of_heap bn)
        replace C := h_ (C.out.trans cn)
        try replace XR := h_ (XR.out.chg cn (by simp))
        try have NE : Hid (px ≠ pe) := h_ (by have := NSpe.out; have := LTpx.out; omega)
        clear hw cn bn
        refine hK.out _ _ (DX.out _ C.out) (fun hHeld => ?_)
        clear hK K; try simp only [Act.put, sA, s0, s1]
        refine on1 4 rfl (fun K hK => ?_)
        refine step_appK (R := evTy) rfl (.tmp 46) (.tmp 49) rfl rfl (A := some ⟨pe, 0, none⟩) (B := some ⟨g2, 0, none⟩) (n := 0) (m := k) (c := 0) (d := c2) (xs := []) (ys := zs.take (k)) EO.out rfl rfl (R1.out _ C.out) N1.out ?_
        rw [Nat.zero_add]
        intro A5 c5 wc o5 g5 e5
        have O5 := h_ o5
        have F5 := h_ (fresh_appE SZpe.out C.out g5 e5)
        replace C := h_ F5.out.2
        try replace XR := h_ (rd_overE XR.out NE.out g5)
        clear o5 g5 e5
        refine hK.out _ _ (DX.out _ C.out) (fun hHeld => ?_)
        clear hK K; try simp only [Act.put, sA, s0, s1]
        refine on1 10 rfl (fun K hK => ?_)
        refine step_appK (R := evTy) rfl (.tmp 50) (.tmp 55) rfl rfl (A := A5) (B := some ⟨px, 0, none⟩) (n := k) (m := 1) (c := c5) (d := 1) (xs := [] ++ zs.take (k)) (ys := [x]) O5.out L1.out rfl XR.out N2.out ?_
        intro A6 c6 wc o6 g6 e6
        have O6 := h_ o6
        have F6 := h_ (fresh_appE F5.out.1 C.out g6 e6)
        replace C := h_ F6.out.2
        clear o6 g6 e6
        refine hK.out _ _ (DX.out _ C.out) (fun hHeld => ?_)
        clear hK K; try simp only [Act.put, sA, s0, s1]
        refine on1 14 rfl (fun K hK => ?_)
        refine step_appK (R := evTy) rfl (.tmp 56) (.tmp 59) rfl rfl (A := A6) (B := AD) (n := k + 1) (m := zs.length - k) (c := c6) (d := c2 - k) (xs := [] ++ zs.take (k) ++ [x]) (ys := zs.drop (k)) O6.out L2.out rfl (R2.out _ C.out) N3.out ?_
        intro A7 c7 wc o7 g7 e7
        have O7 := h_ o7
        have F7 := h_ (fresh_appE F6.out.1 C.out g7 e7)
        replace C := h_ F7.out.2
        clear o7 g7 e7
        refine hK.out _ _ (DX.out _ C.out) (fun hHeld => ?_)
        clear hK K; try simp only [Act.put, sA, s0, s1]
        refine sy 15 6 rfl rfl ?_ (hS := (DX.out _ C.out))
        try simp only [Act.put, sA, s0, s1]
        refine wpAnyH_done (by kernel_rfl) ?_ _; clear hHeld
        have O8 : Hid (OwnK evTy wc A7 c7 (zs.take (k) ++ x :: zs.drop (k))) := h_ (by have q := O7.out; simpa using q)
        exact JOIN pe px A5 c5 A6 c6 A7 c7 wc ⟨O8, h_ F7.out.1, C⟩
      case rest =>
       intro pe px A5 c5 A6 c6 A7 c7 w7 FJ
       obtain ⟨O7, F7, C7⟩ := FJ
       have PC7 := h_ (PC.out.trans (QC.out.trans (KD.out.trans C7.out)))
       have FN : Hid (∀ a, A7 = some a → w4.heap.size ≤ a.block) := h_ (fun a ha => by have := F7.out a ha; have := (PC.out.trans (QC.out.trans KD.out)).size; omega)
       clear R1 R2 DX XC N1 N2 N3 L1 L2 C F7 KD C7 TO PC QC
       have TE7 : Hid (EvsR w4 (zs.take (k) ++ x :: zs.drop (k)) (gs.take (k) ++ e :: gs.drop (k))) := h_ (TE.out.ins RX.out (k))
       have IE := h_ (insDt_at (l := gs) (x := e) (k := k) (by have := TE.out.1; have := KL.out; omega) KLT.out KND.out)
       rw [← IE.out] at TE7
       obtain ⟨us, hus⟩ : ∃ us, us = zs.take (k) ++ x :: zs.drop (k) := ⟨_, rfl⟩
       have UL : Hid (k + 1 + (zs.length - k) = us.length) := h_ (by rw [hus]; have := KL.out; simp <;> omega)
       rw [← hus] at O7 TE7
       clear hus TE IE
       go_upto_region 7 with fail
       rw [UL.out]
       go_wp2; go_round
       case rel => exact ⟨i + 1, A7, c7, us, insDt gs e, by omega, by go_num, by first | rfl | rw [UL.out] | (have q := UL.out; simp at q; simp [← q]), O7, TE7, h_ (by rw [GE.out, ← byDt_snoc, List.take_add_one, EE.out]; rfl), FN, PC7⟩
       case measure => simp [RowKit.intOf]; omega
  ·
   obtain rfl : i = ls.length := by omega
   have i1 : ¬ (ls.length : Int) < (ls.length : Int) := by omega
   have GR : Hid (gs = R) := h_ (by rw [GE.out, YES.out, HV.out.1, List.take_length])
   go_wp2; go_ret
   exact ⟨A2, c2, zs, rfl, TO.out.reads, by rw [← GR.out]; exact TE.out.chg PC.out, D4.out.trans PC.out⟩
end
section
open Go.RowKit

theorem range_boundx {α : Type} {P : Program} {n : Nat} {g : Operand} {ps : Array Tmp} {assign body : Code} {Q : Exit → Act → World → Prop} {a : Act} {w : World} {gf : Nat} {lb bd : Array Value}
  (hg : a.eval g = .func (.func gf) bd lb) (eg : ∀ args w, (callFunc gf args).run P w = .ok (.enter gf args) w) {encs : α → Array Value} {S Sp : List α → Prop} {Ex : List α → α → World → Prop} {Bd : List α → Prop} {n₁ : Nat} (hn₁ : n₁ ≤ w.heap.size) {Si T : List Nat} (hSi : ∀ x ∈ Si, x < w.heap.size)
  (hseq : ∀ (l : Nat) (J Jx : List α → World → Prop) (W : World), Below w.heap.size w W → (∀ pre A B, J pre A → Chg Si A B → J pre B) → (∀ pre A B, Jx pre A → Chg Si A B → Jx pre B) → (∀ pre A, J pre A → Bd pre) →
   (∀ pre x W1, J pre W1 → Ex pre x W1 → YieldAt Fence.wide (n - 1 - 1) P l (encs x) W1 fun e W' => (e = .returned (.bool true) ∧ J (pre ++ [x]) W' ∧ Kpt n₁ T W1 W') ∨ (e = .returned (.bool false) ∧ Jx (pre ++ [x]) W')) →
   J [] W → CallsIn Fence.wide (n - 1) P gf ((bd ++ #[.func (.yield l) #[] #[]]) ++ lb) W fun e W' => (∃ v, e = .returned v) ∧ ((∃ xs, S xs ∧ J xs W') ∨ ∃ xs, Sp xs ∧ Jx xs W'))
  (hps : ∀ x, (encs x).size = ps.size) (I : List α → World → Prop) (Ix : Code → List α → World → Prop) (hI : ∀ pre A B, I pre A → Chg Si A B → I pre B) (hIx : ∀ c pre A B, Ix c pre A → Chg Si A B → Ix c pre B)
  (hIl : ∀ pre W l o o', W.heap[l]? = some o → o.isCells = false → w.heap.size ≤ l → I pre W → I pre (W.putObj l o')) (hIxl : ∀ c pre W l o o', W.heap[l]? = some o → o.isCells = false → w.heap.size ≤ l → Ix c pre W → Ix c pre (W.putObj l o')) (hBd : ∀ pre A, I pre A → Bd pre) (h0 : I [] w)
  (hEx : ∀ pre x W l o o', W.heap[l]? = some o → o.isCells = false → Ex pre x W → Ex pre x (W.putObj l o')) (hExA : ∀ pre x W o, Ex pre x W → Ex pre x (W.alloc o)) (ob : α → Obj) (hob : ∀ x, (ob x).isCells = true) (a₁ : α → Nat → Act)
  (hassign : ∀ (l : Nat) (x : α) (W : World) (K : Act → World → Prop), K (a₁ x W.heap.size) (W.alloc (ob x)) →
   assign.wpIn (Fence.wide.inRound l) (n - 1 - 1) P (Exit.then K (fun _ _ _ => False)) { tmps := (ps.zip (encs x)).foldl (fun t (p, v) => t.setIfInBounds p v) a.tmps, defers := [] } W)
  (hbody : ∀ (l nb : Nat) (pre : List α) (x : α) (W : World), n₁ ≤ nb → W.heap[nb]? = some (ob x) → I pre W → Ex pre x W → body.wpIn (Fence.wide.inRound l) (n - 1 - 1) P (brkPost I Ix n₁ T (pre ++ [x]) W) (a₁ x nb) W)
  (hdone : ∀ (D : Nat) (xs : List α) (W : World), w.heap.size ≤ D → S xs → I xs W → W.heap[D]? = some (.deferred (some [])) → Q .normal { a with defers := { target := .collected D, args := #[] } :: a.defers } W)
  (hstop : ∀ (D : Nat) (c : Code) (xs : List α) (W : World), w.heap.size ≤ D → Sp xs → Ix c xs W → W.heap[D]? = some (.deferred (some [])) → c.wpIn Fence.wide n P Q { a with defers := { target := .collected D, args := #[] } :: a.defers } W) :
  (Code.rangeFunc g ps assign body).wpIn Fence.wide n P Q a w := by
 refine wpIn_rangeFunc ?_
 intro fn hfn
 obtain ⟨rc, hrc⟩ : ∃ rc : LoopState → Option Code → Loop, rc = fun st pe => { state := st, pending := pe, fn, tmps := a.tmps, params := ps, assign, body, defers := w.heap.size } := ⟨_, rfl⟩
 obtain ⟨V, hV, hcV, hD0, hL0⟩ := news2 w (.deferred (some [])) (.loop (rc .ready none))
 have hsV : V.heap.size = w.heap.size + 2 := by rw [hV]; simp
 have bV : Below w.heap.size w V := by rw [hV]; exact ((Below.refl _ w).alloc (Nat.le_refl _) _).alloc (by simp) _
 refine ⟨w.heap.size + 1, [{ target := .collected w.heap.size, args := #[] }], V, { target := .fn (.func gf) lb, args := bd ++ #[.func (.yield (w.heap.size + 1)) #[] #[]] }, V, gf,
  (bd ++ #[.func (.yield (w.heap.size + 1)) #[] #[]]) ++ lb, V, ?_, ?_, fun _ _ => trivial, ?_, fun h => by simp [Fence.wide] at h, ?_⟩
 ·
  rw [hV, hrc]; exact run_enterLoop_outer _ _ _ _ _
 ·
  simp only [resolve, hg]
  simp [go_sem]
 ·
  simp [invoke, go_sem, eg]
 ·
  -- the record and the row of deferred calls, turned or not, lie at or behind w's end
  have turn : ∀ (W : World) (o : Obj) (o' : Obj), W.heap[w.heap.size + 1]? = some o → o.isCells = false → o.isWalk = false → ∀ m, m ≤ w.heap.size → Below m W (W.putObj (w.heap.size + 1) o') :=
   fun W o o' h hc hw m hm => belowK_b (w := w) hm W _ o o' (by omega) h hc hw
  have far : ∀ k, w.heap.size ≤ k → k ∉ Si := fun k hk h => by have := hSi k h; omega
  refine (hseq (w.heap.size + 1) (fun pre W => I pre W ∧ W.heap[w.heap.size + 1]? = some (.loop (rc .ready none)) ∧ W.heap[w.heap.size]? = some (.deferred (some [])))
   (fun pre W => ∃ c, Ix c pre W ∧ W.heap[w.heap.size + 1]? = some (.loop (rc .done (some c))) ∧ W.heap[w.heap.size]? = some (.deferred (some []))) V bV ?_ ?_ (fun pre A h => hBd _ _ h.1) ?_
   ⟨hI _ _ _ h0 (Chg.ofBelow bV (Nat.le_refl _) _), hL0, hD0⟩).mono ?_
  ·
   rintro pre A B ⟨hi, hl, hk⟩ hb
   exact ⟨hI _ _ _ hi hb, hb.at_ hl (far _ (by omega)), hb.at_ hk (far _ (Nat.le_refl _))⟩
  ·
   rintro pre A B ⟨c, hi, hl, hk⟩ hb
   exact ⟨c, hIx _ _ _ _ hi hb, hb.at_ hl (far _ (by omega)), hb.at_ hk (far _ (Nat.le_refl _))⟩
  ·
   rintro pre x W0 ⟨hi0, hl0, hk0⟩ hx0
   have hy := run_yield (P := P) (args := encs x) hl0 (by rw [hrc]; exact hps x)
   rw [hrc] at hy
   have hz0 : n₁ ≤ W0.heap.size := by have := lt_of_heap hl0; omega
   obtain ⟨W, hWA, cA, bA⟩ := news1 W0 (ob x)
   have hi : I pre W := hI _ _ _ hi0 (cA.mono (by simp))
   have hl := cA.at_ hl0 (by simp)
   have hk := cA.at_ hk0 (by simp)
   have hx : Ex pre x W := by rw [hWA]; exact hExA _ _ _ _ hx0
   have hlt := lt_of_heap hl
   refine ⟨fn, _, assign, body, hy, roundIn_of_wpIn hfn (hassign _ x W0 _ ?_)⟩
   rw [← hWA]
   refine ⟨_, run_beginRound hl (by rw [hrc]), ?_⟩
   have hl2 : (W.putObj (w.heap.size + 1) (.loop { rc .ready none with state := .busy })).heap[w.heap.size + 1]? = some (.loop { rc .ready none with state := .busy }) := World.putObj_heap_same hlt
   have hk2 : (W.putObj (w.heap.size + 1) (.loop { rc .ready none with state := .busy })).heap[w.heap.size]? = some (.deferred (some [])) := (World.putObj_heap_other (by omega)).trans hk
   have b2 := turn W _ (.loop { rc .ready none with state := .busy }) hl rfl rfl
   refine wpIn_mono (hbody _ W0.heap.size pre x _ hz0 ((World.putObj_heap_other (fun e => by (first | rw [e] at bA | rw [← e] at bA); rw [hl] at bA; have h2 := hob x; rw [← Option.some.inj bA] at h2; exact absurd h2 (by simp [Obj.isCells]))).trans bA) (hIl _ _ _ _ _ hl rfl (by omega) hi) (hEx pre x W _ _ _ hl rfl hx)) ?_
   have fin : ∀ (c : Code) (W3 : World), KeepsOthers (W.putObj (w.heap.size + 1) (.loop { rc .ready none with state := .busy })) W3 → Ix c (pre ++ [x]) W3 →
     ∃ v w', (Instr.endRound (w.heap.size + 1) (some c)).run P W3 = .ok v w' ∧ ((Ending.returned v = .returned (.bool true) ∧ (I (pre ++ [x]) w' ∧ w'.heap[w.heap.size + 1]? = some (.loop (rc .ready none)) ∧ w'.heap[w.heap.size]? = some (.deferred (some []))) ∧ Kpt n₁ T W0 w') ∨
      (Ending.returned v = .returned (.bool false) ∧ ∃ c, Ix c (pre ++ [x]) w' ∧ w'.heap[w.heap.size + 1]? = some (.loop (rc .done (some c))) ∧ w'.heap[w.heap.size]? = some (.deferred (some [])))) := by
    intro c W3 hk3 hi3
    have hl3 := hk3.same _ _ hl2 rfl
    have hd3 := hk3.same _ _ hk2 rfl
    have hr := run_endRound (P := P) (some c) hl3
    have b4 := turn W3 _ (.loop (rc .done (some c))) hl3 rfl rfl
    refine ⟨_, _, hr, .inr ⟨rfl, c, ?_, ?_, ?_⟩⟩
    ·
     have := hIxl _ _ _ _ _ (.loop (rc .done (some c))) hl3 rfl (by omega) hi3
     rw [hrc] at this ⊢
     exact this
    ·
     rw [hrc]; exact World.putObj_heap_same (lt_of_heap hl3)
    ·
     exact (World.putObj_heap_other (by omega)).trans hd3
   rintro e a3 W3 hp
   cases e with
   | normal =>
    obtain ⟨hk3, hb3, hi3⟩ := hp
    have hl3 := hk3.same _ _ hl2 rfl
    have hd3 := hk3.same _ _ hk2 rfl
    have hr := run_endRound (P := P) none hl3
    have b4 := turn W3 _ (.loop (rc .ready none)) hl3 rfl rfl
    refine ⟨_, _, hr, .inl ⟨rfl, ⟨?_, ?_, ?_⟩, ?_⟩⟩
    ·
     have := hIl _ _ _ _ (.loop (rc .ready none)) hl3 rfl (by omega) hi3
     rw [hrc] at this ⊢
     exact this
    ·
     rw [hrc]; exact World.putObj_heap_same (lt_of_heap hl3)
    ·
     exact (World.putObj_heap_other (by omega)).trans hd3
    ·
     have := (Kpt.of_chg (T := T) (cA.mono (by simp)) hz0).trans (((Kpt.of_below (T := T) (b2 _ hn₁) (Nat.le_refl _)).trans hb3).trans (Kpt.of_below (b4 _ hn₁) (Nat.le_refl _)))
     rw [hrc] at this ⊢
     exact this
   | ret => exact fin .ret W3 hp.1 hp.2
   | exit id => exact fin (.exit id) W3 hp.1 hp.2
   | goto t => exact hp.elim
   | panic ch => exact hp.elim
   | outgrown => exact hp.elim
  ·
   rintro e W2 ⟨⟨v, rfl⟩, (⟨xs, hS, hi, hl, hk⟩ | ⟨xs, hS, c, hi, hl, hk⟩)⟩
   ·
    refine ⟨none, _, by have := run_endLoop (P := P) hl (by rw [hrc]; simp); rw [hrc] at this; exact this, hdone _ xs _ (Nat.le_refl _) hS ?_ ((World.putObj_heap_other (by omega)).trans hk)⟩
    exact hIl _ _ _ _ _ hl rfl (by omega) hi
   ·
    refine ⟨some c, _, by have := run_endLoop (P := P) hl (by rw [hrc]; simp); rw [hrc] at this; exact this, hstop _ c xs _ (Nat.le_refl _) hS ?_ ((World.putObj_heap_other (by omega)).trans hk)⟩
    exact hIxl _ _ _ _ _ _ hl rfl (by omega) hi
end
end Go.Proofs.YtehmchdhlhchjaaGreatDoor
